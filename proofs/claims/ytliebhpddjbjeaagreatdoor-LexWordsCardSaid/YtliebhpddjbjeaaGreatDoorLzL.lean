/- Package lex, walked: Scan. -/
import Derived.Test.YtliebhpddjbjeaaGreatDoorLzK
namespace Go.Proofs.YtliebhpddjbjeaaGreatDoor
open Go.RowKit Go.Shelf
attribute [local go_sem] Oper.semAt_some
set_option maxHeartbeats 1000000
set_option maxRecDepth 100000
set_option linter.unusedVariables false

theorem ztokens_any (s : ByteArray) (w : World) :
    Calls Tryz.prog 68 #[.string s] w fun e w' => e = .returned (.func (.func 89) #[] #[.pointer (some ⟨w.heap.size, 0, none⟩)]) ∧ w' = w.alloc (.cells #[.string s] 9) := by
  go_enter Tryz.func68, Tryz.ntmps68
  go_wp2_with fail
  go_ret
  exact ⟨rfl, rfl⟩
theorem scan_cnt : ∀ (m : Nat) (s : List UInt8) (off : Nat), s.length ≤ m → (scanS off s).1.length ≤ s.length
  | _, [], off, _ => by rw [scanS_nil]; exact Nat.le_refl _
  | 0, c :: r, off, h => by simp at h
  | m + 1, c :: r, off, h => by
    have hne : (c :: r) ≠ [] := by simp
    have hcl : (c :: r).length = r.length + 1 := rfl
    rcases hq : stp (c :: r) with ⟨o, n, e⟩
    cases o with
    | some t =>
      obtain ⟨k0, k1, k2, k3, k4⟩ := stp_ok _ hne t n e hq
      have hl : ((c :: r).drop n).length = (c :: r).length - n := List.length_drop
      rw [scanS_tok off _ hne t n e hq]
      have := scan_cnt m ((c :: r).drop n) (off + n) (by omega)
      simp only [List.length_cons] at this ⊢
      omega
    | none =>
      by_cases he : e = 0
      · subst he
        obtain ⟨k1, k2⟩ := stp_skip _ hne n hq
        have hl : ((c :: r).drop n).length = (c :: r).length - n := List.length_drop
        rw [scanS_skip off _ hne n hq]
        have := scan_cnt m ((c :: r).drop n) (off + n) (by omega)
        omega
      · rw [scanS_err off _ hne n e he hq]; simp
/-- The tokens that a source has, and the end. -/
def allT (S : List UInt8) : List TK := (scanS 0 S).1.map (plOf S) ++ [endT S (scanS 0 S).2.1]
theorem ys_some (S : List UInt8) (k : Nat) (v : Value) (h : (ysL S)[k]? = some (v, 0)) : ∃ x, (allT S)[k]? = some x ∧ v = tkV x := by
  unfold ysL at h
  unfold allT
  rcases Nat.lt_or_ge k (scanS 0 S).1.length with q | q
  · rw [List.getElem?_append_left (by rw [List.length_map]; exact q), List.getElem?_map] at h
    rw [List.getElem?_append_left (by rw [List.length_map]; exact q), List.getElem?_map]
    cases hg : (scanS 0 S).1[k]? with
    | none => rw [hg] at h; cases h
    | some y =>
      rw [hg] at h
      have := Option.some.inj h
      injection this with h1 h2
      exact ⟨plOf S y, rfl, h1.symm⟩
  · rw [List.getElem?_append_right (by rw [List.length_map]; exact q), List.length_map] at h
    rw [List.getElem?_append_right (by rw [List.length_map]; exact q), List.length_map]
    cases hd : k - (scanS 0 S).1.length with
    | zero =>
      rw [hd] at h
      have h2 : lastY S = (v, 0) := Option.some.inj h
      unfold lastY at h2
      by_cases hz : (scanS 0 S).2.2 = 0
      · rw [if_pos hz] at h2
        injection h2 with h3 h4
        exact ⟨_, rfl, h3.symm⟩
      · rw [if_neg hz] at h2
        injection h2 with h3 h4
        exact absurd h4 hz
    | succ j => rw [hd] at h; simp at h
theorem ys_fault (S : List UInt8) (k : Nat) (v : Value) (e : Int) (he : e ≠ 0) (h : (ysL S)[k]? = some (v, e)) : (scanS 0 S).2.2 = e ∧ ∃ q1 q2, v = .agg #[.int .u8 0, posV (goB 1 1 (S.take (scanS 0 S).2.1)).1 (goB 1 1 (S.take (scanS 0 S).2.1)).2, .complex .f64 q1 q2, .string ⟨#[]⟩, .int .i64 0] := by
  unfold ysL at h
  rcases Nat.lt_or_ge k (scanS 0 S).1.length with q | q
  · rw [List.getElem?_append_left (by rw [List.length_map]; exact q), List.getElem?_map] at h
    cases hg : (scanS 0 S).1[k]? with
    | none => rw [hg] at h; cases h
    | some y =>
      rw [hg] at h
      have := Option.some.inj h
      injection this with h1 h2
      exact absurd h2.symm he
  · rw [List.getElem?_append_right (by rw [List.length_map]; exact q), List.length_map] at h
    cases hd : k - (scanS 0 S).1.length with
    | zero =>
      rw [hd] at h
      have h2 : lastY S = (v, e) := Option.some.inj h
      unfold lastY at h2
      by_cases hz : (scanS 0 S).2.2 = 0
      · rw [if_pos hz] at h2
        injection h2 with h3 h4
        exact absurd h4.symm he
      · rw [if_neg hz] at h2
        injection h2 with h3 h4
        refine ⟨h4, ?_⟩
        by_cases h43 : (scanS 0 S).2.2 = 43
        · rw [if_pos h43] at h3
          exact ⟨0, 0, h3.symm⟩
        · rw [if_neg h43] at h3
          obtain ⟨a, c, hp⟩ := posV_two (goB 1 1 (S.take (scanS 0 S).2.1)).1 (goB 1 1 (S.take (scanS 0 S).2.1)).2
          exact ⟨a, c, by rw [← h3, ← hp]⟩
    | succ j => rw [hd] at h; simp at h
theorem all_len (S : List UInt8) : (allT S).length = (ysL S).length := by unfold allT ysL; simp
/-- How Scan stands between two tokens: h is where the call's own blocks begin. -/
structure ScI (S : List UInt8) (h : Nat) (w : World) (k N : Nat) (X : World) : Prop where
  own : ∃ v, Cb X h v ∧ OwnT X (h + 4) v ((allT S).take k) ∧ ∀ g, v.ownBlock = some g → g < N
  c1 : Cb X (h + 1) (.complex .f64 0 0)
  c2 : Cb X (h + 2) (.int .i64 0)
  bel : Below h w X
  low : h + 4 ≤ N
/-- How it stands behind an error. -/
structure ScX (S : List UInt8) (h : Nat) (w X : World) : Prop where
  c0 : Cb X h (.slice none 0 0)
  c1 : Cb X (h + 1) (posV (goB 1 1 (S.take (scanS 0 S).2.1)).1 (goB 1 1 (S.take (scanS 0 S).2.1)).2)
  c2 : Cb X (h + 2) (.int .i64 (scanS 0 S).2.2)
  bel : Below h w X
theorem Cb.lt {X : World} {b : Nat} {v : Value} (h : Cb X b v) : b < X.heap.size := Lib.lt_of_cell h.c
theorem Cb.new (W : World) (v : Value) (T : TypeId) (b : Nat) (hb : b = W.heap.size) : Cb (W.alloc (.cells #[v] T)) b v := by
  subst hb
  exact ⟨by rw [World.cell?_alloc_at _ _ _ _ rfl]; rfl, World.frozen?_alloc_at _ _ _ _ rfl⟩
theorem Cb.alloc {X : World} {b : Nat} {v : Value} (h : Cb X b v) (o : Obj) : Cb (X.alloc o) b v := h.below (below_new _ _) h.lt
theorem Cb.grown {X Y : World} {b : Nat} {v : Value} {row : Option Nat} (h : Cb X b v) (hg : X.grownBy Y row) (hne : some b ≠ row) : Cb Y b v := h.same (hg.block b h.lt hne)
theorem own_cells {X : World} {B e size : Nat} {v : Value} {n : Nat} {xs : List Value} {g : Nat} (h : X.ownsRow B e size v n xs) (hg : v.ownBlock = some g) : B ≤ g ∧ ∃ o : Obj, X.heap[g]? = some o ∧ o.isCells = true := by
  rcases h.2 with ⟨hv, _⟩ | ⟨g', cap, cur, rfl, hb, hgg, _⟩
  · rw [hv] at hg; cases hg
  · have : g' = g := by simpa [Value.ownBlock] using hg
    subst this
    exact ⟨hb, _, hgg, rfl⟩
theorem ScI.bears (S : List UInt8) (h b : Nat) (hb : b = h + 3) (w : World) (k N : Nat) : Bears b (h + 4) (ScI S h w k N) := by
  rintro X Y row ⟨⟨v, hv, ho, hg⟩, c1, c2, bel, low⟩ hgr hr
  have hne : ∀ j, j < h + 3 → some j ≠ row := fun j hj e => by
    rcases hr j e.symm with h1 | ⟨h1, _⟩ <;> omega
  have hrow : v.ownBlock = none ∨ v.ownBlock ≠ row := by
    cases hq : v.ownBlock with
    | none => exact .inl rfl
    | some g =>
      refine .inr (fun e => ?_)
      obtain ⟨h1, o, ho1, ho2⟩ := own_cells ho hq
      rcases hr g e.symm with h2 | ⟨h2, o', ho3, ho4⟩
      · omega
      · rw [ho1] at ho3
        rw [← Option.some.inj ho3, ho2] at ho4; cases ho4
  refine ⟨⟨v, hv.grown hgr (hne _ (by omega)), World.ownsRow.kept ho hgr hrow, hg⟩, c1.grown hgr (hne _ (by omega)), c2.grown hgr (hne _ (by omega)), ?_, low⟩
  exact bel.grown hgr (by have := c1.lt; omega) (fun j e => by rcases hr j e with h1 | ⟨h1, _⟩ <;> omega)
theorem ScX.bears (S : List UInt8) (h b : Nat) (hb : b = h + 3) (w : World) : Bears b (h + 4) (ScX S h w) := by
  rintro X Y row ⟨c0, c1, c2, bel⟩ hgr hr
  have hne : ∀ j, j < h + 3 → some j ≠ row := fun j hj e => by
    rcases hr j e.symm with h1 | ⟨h1, _⟩ <;> omega
  exact ⟨c0.grown hgr (hne _ (by omega)), c1.grown hgr (hne _ (by omega)), c2.grown hgr (hne _ (by omega)), bel.grown hgr (by have := c1.lt; omega) (fun j e => by rcases hr j e with h1 | ⟨h1, _⟩ <;> omega)⟩
/-- The loop's variables in a round. -/
def ScA (h : Nat) (s : ByteArray) (b : Nat) (v : Value) (e : Int) (a' : Act) (X : World) : Prop :=
  ∃ (T : Nat) (v0 v1 v2 v3 v4 : Value), v = .agg #[v0, v1, v2, v3, v4] ∧ Fv X T v0 v1 v2 v3 v4 ∧ h + 4 ≤ T ∧
    a' = { tmps := #[.string s, undef, .pointer (some ⟨h, 0, none⟩), .pointer (some ⟨h + 1, 0, none⟩), .pointer (some ⟨h + 2, 0, none⟩), .pointer (some ⟨T, 0, none⟩), .int .i64 e, .string s, .int .i64 s.size, .bool false, undef, .string s, .func (.func 89) #[] #[.pointer (some ⟨b, 0, none⟩)], v, .int .i64 e, undef, undef, undef, undef, undef, undef, undef, undef, undef, undef], defers := [] }
theorem ScA.bears (h b B0 : Nat) (hb : b = h + 3) (hB : B0 = h + 4) (s : ByteArray) (v : Value) (e : Int) (a' : Act) : Bears b B0 (ScA h s b v e a') := by
  rintro X Y row ⟨T, v0, v1, v2, v3, v4, hv, hF, hT, ha⟩ hgr hr
  have hlt : T < X.heap.size := Lib.lt_of_cell hF.c0
  refine ⟨T, v0, v1, v2, v3, v4, hv, hF.same (hgr.block T hlt (fun e => ?_)), hT, ha⟩
  rcases hr T e.symm with h1 | ⟨_, o, ho, hc⟩
  · omega
  · obtain ⟨o', ho', hc'⟩ := cells_of_cell hF.c0
    rw [show X.heap[T]? = some o' from ho'] at ho
    rw [← Option.some.inj ho, hc'] at hc; cases hc
theorem own_form2 {w : World} {B : Nat} {v : Value} {l : List TK} (h : OwnT w B v l) : ∃ p cap, v = .slice p l.length cap := by
  rcases h.2 with ⟨hv, h0⟩ | ⟨g, cap, cur, hv, _⟩
  · exact ⟨none, 0, by rw [hv, h0]⟩
  · exact ⟨_, _, hv⟩
theorem zScan_any (s : ByteArray) (hs : s.size ≤ 16384) (w : World) (hE : Env w) :
    Calls Tryz.prog 32 #[.string s] w fun e w' => ScanPost s.data.toList w e w' := by
  refine (callsIn_wide (n := 9)).1 ?_
  refine callsIn_of_wp_marks Tryz.func32 rfl trivial ?_ rfl
  simp only [Tryz.ntmps32, List.size_toArray, List.length_cons, List.length_nil, Nat.reduceAdd, Nat.reduceSub, Array.replicate_succ, Array.replicate_zero, List.push_toArray, List.append_toArray, List.nil_append, List.cons_append]
  have hlen : ¬ (16384 : Int) < (s.size : Int) := by omega
  have HTk := fun w => ztokens_any s w
  have hsc := fun w a x y m => store_cx (P := Tryz.prog) w a .f64 x y m
  have hcnt := scan_cnt _ s.data.toList 0 (Nat.le_refl _)
  rw [bytes_of] at hcnt
  refine (wpIn_wide (n := 9)).2 ?_
  go_wp2_with fail
  refine (HTk _).mono ?_
  rintro e w1 ⟨rfl, rfl⟩
  clear HTk
  go_wp2_with fail
  obtain ⟨h, hh⟩ : ∃ h, w.heap.size = h := ⟨_, rfl⟩
  have hb0 : Below h w ((((w.alloc (.cells #[.slice none 0 0] 23)).alloc (.cells #[.complex .f64 0 0] 24)).alloc (.cells #[.int .i64 0] 25)).alloc (.cells #[.string s] 9)) := by
    rw [← hh]
    exact ((((Below.refl _ w).alloc (Nat.le_refl _) _).alloc (by simp) _).alloc (by simp; omega) _).alloc (by simp; omega) _
  have hc0 : Cb ((((w.alloc (.cells #[.slice none 0 0] 23)).alloc (.cells #[.complex .f64 0 0] 24)).alloc (.cells #[.int .i64 0] 25)).alloc (.cells #[.string s] 9)) h (.slice none 0 0) := by
    exact (((Cb.new w _ _ h hh.symm).alloc _).alloc _).alloc _
  have hc1 : Cb ((((w.alloc (.cells #[.slice none 0 0] 23)).alloc (.cells #[.complex .f64 0 0] 24)).alloc (.cells #[.int .i64 0] 25)).alloc (.cells #[.string s] 9)) (h + 1) (.complex .f64 0 0) := by
    exact ((Cb.new _ _ _ (h + 1) (by simp; omega)).alloc _).alloc _
  have hc2 : Cb ((((w.alloc (.cells #[.slice none 0 0] 23)).alloc (.cells #[.complex .f64 0 0] 24)).alloc (.cells #[.int .i64 0] 25)).alloc (.cells #[.string s] 9)) (h + 2) (.int .i64 0) := by
    exact (Cb.new _ _ _ (h + 2) (by simp; omega)).alloc _
  have hc3 : Cb ((((w.alloc (.cells #[.slice none 0 0] 23)).alloc (.cells #[.complex .f64 0 0] 24)).alloc (.cells #[.int .i64 0] 25)).alloc (.cells #[.string s] 9)) (h + 3) (.string s) := by
    exact Cb.new _ _ _ (h + 3) (by simp; omega)
  have hsz : ((((w.alloc (.cells #[.slice none 0 0] 23)).alloc (.cells #[.complex .f64 0 0] 24)).alloc (.cells #[.int .i64 0] 25)).alloc (.cells #[.string s] 9)).heap.size = h + 4 := by simp; omega
  rw [hh]
  rw [show h + 1 + 1 + 1 = h + 3 by omega, show h + 1 + 1 = h + 2 by omega]
  generalize (((w.alloc (.cells #[.slice none 0 0] 23)).alloc (.cells #[.complex .f64 0 0] 24)).alloc (.cells #[.int .i64 0] 25)).alloc (.cells #[.string s] 9) = W at hb0 hc0 hc1 hc2 hc3 hsz ⊢
  have IT : ∀ W', W.grownBy W' none → IterOk s.data.toList h (9 - 1) 89 #[.pointer (some ⟨h + 3, 0, none⟩)] (h + 3) W' := fun W' hg => by
    exact ztokens_in s hs h 8 (by omega) (h + 3) w hE hh.symm (by omega) W' (hb0.grown hg (by omega) (fun k e => by cases e)) (by have := hg.size; omega) (hc3.same (hg.block _ (by omega) (fun e => by cases e)))
  clear hE
  refine (wpIn_wide (n := 9)).1 ?_
  refine range_z s.data.toList h (by omega) 9 89 #[.pointer (some ⟨h + 3, 0, none⟩)] (h + 3) (by omega) rfl (enters_of Tryz.func89 (by kernel_rfl) rfl) IT rfl
    (ScI s.data.toList h w) (ScX s.data.toList h w) (fun k N => by rw [hsz]; exact ScI.bears s.data.toList h _ rfl w k N) (by rw [hsz]; exact ScX.bears s.data.toList h _ rfl w) (fun k N N' X hI hN => ⟨by obtain ⟨v, a, c, d⟩ := hI.own; exact ⟨v, a, c, fun g hg => Nat.lt_of_lt_of_le (d g hg) hN⟩, hI.c1, hI.c2, hI.bel, Nat.le_trans hI.low hN⟩)
    (by rw [hsz]; exact ⟨⟨_, hc0, World.ownsRow_nil _ _ _ _, fun g hg => by cases hg⟩, hc1, hc2, hb0, Nat.le_refl _⟩)
    (ScA h s (h + 3)) (fun v e a' => ScA.bears h _ _ rfl hsz s v e a') ?assign ?body ?done ?stop
  case assign =>
    intro l k v e X K hy hX hK
    have hv : ∃ v0 v1x v1y v2x v2y v3 v4, v = .agg #[.int .u8 v0, .complex .f64 v1x v1y, .complex .f64 v2x v2y, .string v3, .int .i64 v4] := by
      by_cases he : e = 0
      · subst he
        obtain ⟨x, _, rfl⟩ := ys_some _ _ _ hy
        obtain ⟨a, c, h1⟩ := posV_two x.2.1.1 x.2.1.2
        obtain ⟨a2, c2, h2⟩ := posV_two x.2.2.1 x.2.2.2
        exact ⟨_, a, c, a2, c2, _, _, by unfold tkV; rw [h1, h2]⟩
      · obtain ⟨_, q1, q2, rfl⟩ := ys_fault _ _ _ _ he hy
        obtain ⟨a, c, h1⟩ := posV_two (goB 1 1 (s.data.toList.take (scanS 0 s.data.toList).2.1)).1 (goB 1 1 (s.data.toList.take (scanS 0 s.data.toList).2.1)).2
        exact ⟨_, a, c, q1, q2, _, _, by rw [h1]⟩
    obtain ⟨v0, v1x, v1y, v2x, v2y, v3, v4, rfl⟩ := hv
    gi_wp2
    exact hK _ _ (World.grownBy_alloc X _ none) ⟨X.heap.size, _, _, _, _, _, rfl, Fv.new X _ _ _ _ _ _ _ rfl, by omega, rfl⟩
  case body =>
    rintro l k N B v e a' X hy ⟨⟨v', hcv, hown, hgN⟩, hc1', hc2', hbel, hlow⟩ hNB ⟨T, v0, v1, v2, v3, v4, hv, hF, hT, rfl⟩
    have hXs : h + 4 ≤ X.heap.size := by
      have := Lib.lt_of_cell hF.c0
      simp only at this; omega
    have c0 := hcv.c
    have f0 := hcv.f
    have g0 := hF.c0
    have g1 := hF.c1
    have g2 := hF.c2
    have g3 := hF.c3
    have g4 := hF.c4
    by_cases he : e = 0
    · subst he
      obtain ⟨x, hx, hvx⟩ := ys_some _ _ _ hy
      rw [hvx] at hv
      obtain ⟨a1, d1, h1⟩ := posV_two x.2.1.1 x.2.1.2
      obtain ⟨a2, d2, h2⟩ := posV_two x.2.2.1 x.2.2.2
      have hTK : tkCells x = [.int .u8 x.1.k, .complex .f64 a1 d1, .complex .f64 a2 d2, .string ⟨x.1.x.toArray⟩, .int .i64 x.1.n] := by unfold tkCells; rw [h1, h2]
      unfold tkV at hv
      rw [h1, h2] at hv
      injection hv with hv
      have hv := congrArg Array.toList hv
      simp only [List.cons.injEq, and_true] at hv
      obtain ⟨rfl, rfl, rfl, rfl, rfl⟩ := hv
      have hkl : k < (allT s.data.toList).length := by
        rcases Nat.lt_or_ge k (allT s.data.toList).length with q | q
        · exact q
        · rw [List.getElem?_eq_none q] at hx; cases hx
      have hal : (allT s.data.toList).length ≤ 16385 := by unfold allT; simp; omega
      have htk : ((allT s.data.toList).take k).length = k := by rw [List.length_take]; omega
      have hnx : (allT s.data.toList).take (k + 1) = (allT s.data.toList).take k ++ [x] := by rw [List.take_add_one, hx]; rfl
      unfold OwnT at hown
      rw [htk] at hown
      obtain ⟨vs, hvs⟩ : ∃ vs, ((allT s.data.toList).take k).flatMap tkCells = vs := ⟨_, rfl⟩
      rw [hvs] at hown
      obtain ⟨p, cap, hvv⟩ : ∃ p cap, v' = .slice p k cap := by
        rcases hown.2 with ⟨hv, h0⟩ | ⟨g, cap, cur, hv, _⟩
        · exact ⟨none, 0, by rw [hv, h0]⟩
        · exact ⟨_, _, hv⟩
      obtain ⟨i0, hi, hz0, hz1, hz2⟩ := tok_parts
      have hne : ∀ j, j < h + 4 → v'.ownBlock ≠ some j := fun j hj e => by
        have := (own_cells hown e).1; omega
      have hrest : ∀ (w9 : World) (v9 : Value), (X.alloc (.cells #[.int .u8 x.1.k, .complex .f64 a1 d1, .complex .f64 a2 d2, .string ⟨x.1.x.toArray⟩, .int .i64 x.1.n] 51)).grownBy w9 v'.ownBlock → w9.ownsRow (h + 4) 51 5 v9 (k + 1) (vs ++ [.int .u8 x.1.k, .complex .f64 a1 d1, .complex .f64 a2 d2, .string ⟨x.1.x.toArray⟩, .int .i64 x.1.n]) →
          KeepsFrom W.heap.size X (w9.setCell ⟨h, 0, none⟩ v9) ∧ ScI s.data.toList h w (k + 1) (w9.setCell ⟨h, 0, none⟩ v9).heap.size (w9.setCell ⟨h, 0, none⟩ v9) ∧ (w9.setCell ⟨h, 0, none⟩ v9).heap[h + 3]? = X.heap[h + 3]? ∧ (B < X.heap.size → (w9.setCell ⟨h, 0, none⟩ v9).heap[B]? = X.heap[B]?) ∧ Below h X (w9.setCell ⟨h, 0, none⟩ v9) := by
        intro w9 v9 hgrow hown9
        have hsame : ∀ j, j < X.heap.size → j ≠ h → v'.ownBlock ≠ some j → (w9.setCell ⟨h, 0, none⟩ v9).heap[j]? = X.heap[j]? := fun j hj hjh hjo =>
          (Below.heap_setCell w9 ⟨h, 0, none⟩ v9 j hjh).trans ((hgrow.block j (by simp; omega) (fun e => hjo e.symm)).trans (Below.heap_alloc X _ j hj))
        have hb9 : Below h X w9 := ((Below.refl h X).alloc (by omega) _).grown hgrow (by simp; omega) (fun j e => by have := (own_cells hown e).1; omega)
        have cb9 : Cb w9 h v' := (hcv.alloc _).grown hgrow (fun e => hne h (by omega) e.symm)
        have hs9 := hb9.size
        refine ⟨(((KeepsOthers.alloc X _).trans (KeepsOthers.of_grownBy hgrow (fun j o hj ho => ?_))).trans (KeepsOthers.setCell _ _ _)).from _, ⟨⟨v9, cb9.set _, ?_, fun g hg => ?_⟩, ?_, ?_, ?_, by simp; omega⟩, hsame _ (by omega) (by omega) (hne _ (by omega)), fun hB => hsame B hB (by omega) (fun e => by have := hgN B e; omega), hb9.setCell (p := ⟨h, 0, none⟩) (Nat.le_refl _) _⟩
        · obtain ⟨_, o', ho1, ho2⟩ := own_cells hown hj
          have : (X.alloc (.cells #[.int .u8 x.1.k, .complex .f64 a1 d1, .complex .f64 a2 d2, .string ⟨x.1.x.toArray⟩, .int .i64 x.1.n] 51)).heap[j]? = some o' := (Below.heap_alloc X _ j (lt_of_heap ho1)).trans ho1
          rw [this] at ho
          rw [← Option.some.inj ho]; exact ho2
        · rw [hnx]
          refine OwnT.set (OwnT.next ?_) ⟨h, 0, none⟩ (by simp) _
          rw [htk, hvs, hTK]; exact hown9
        · have := lt_of_heap (own_cells hown9 hg).2.choose_spec.1
          simpa using this
        · exact ((hc1'.alloc _).grown hgrow (fun e => hne (h + 1) (by omega) e.symm)).other h 0 v9 (by omega)
        · exact ((hc2'.alloc _).grown hgrow (fun e => hne (h + 2) (by omega) e.symm)).other h 0 v9 (by omega)
        · exact (hbel.trans hb9).setCell (p := ⟨h, 0, none⟩) (Nat.le_refl _) _
      have hcell : ∀ w9, (X.alloc (.cells #[.int .u8 x.1.k, .complex .f64 a1 d1, .complex .f64 a2 d2, .string ⟨x.1.x.toArray⟩, .int .i64 x.1.n] 51)).grownBy w9 v'.ownBlock → Cb w9 h v' := fun w9 hgrow => (hcv.alloc _).grown hgrow (fun e => hne h (by omega) e.symm)
      have HR := Lib.hid hrest
      clear hrest hx hvx hy hne hvs hTK h1 h2 hnx hc1' hc2' hbel hcv
      subst hvv
      gi_wp2_with (gi_at_builtin; refine wpListIn_append_own _ rfl _ _ 23 rfl (h + 4) 51 i0 (.agg #[.int .u8 0, .complex .f64 0 0, .complex .f64 0 0, .string ⟨#[]⟩, .int .i64 0]) 5 64 Tryz.underlying23 hi hz0 hz1 hz2 rfl (by decide) _ _ _ rfl (World.ownsRow.alloc hown _) ⟨X.heap.size, 0, none⟩ 1 1 [.int .u8 x.1.k, .complex .f64 a1 d1, .complex .f64 a2 d2, .string ⟨x.1.x.toArray⟩, .int .i64 x.1.n] rfl rfl (news5 _ _ _ _ _ _ _) (one5 _ _ _ _ _ (by rfl) (by rfl) (by rfl) (by rfl) (by rfl)) (by unfold maxLen; omega) (by omega) (by simp; omega) ?_; intro v9 w9 hown9 hgrow _; obtain ⟨g9, cap9, rfl, _, _⟩ := World.ownsRow.form hown9 (by omega); have c9 := (hcell w9 hgrow).c; have f9 := (hcell w9 hgrow).f)
      obtain ⟨r1, r2, r3, r4, r5⟩ := HR.out _ _ hgrow hown9
      rw [size_set] at r2
      exact ⟨hsz ▸ r1, r2, r3, r4, r5⟩
    · obtain ⟨hse, q1, q2, hvx⟩ := ys_fault _ _ _ _ he hy
      rw [hvx] at hv
      obtain ⟨a1, d1, h1⟩ := posV_two (goB 1 1 (s.data.toList.take (scanS 0 s.data.toList).2.1)).1 (goB 1 1 (s.data.toList.take (scanS 0 s.data.toList).2.1)).2
      rw [h1] at hv
      injection hv with hv
      have hv := congrArg Array.toList hv
      simp only [List.cons.injEq, and_true] at hv
      obtain ⟨rfl, rfl, rfl, rfl, rfl⟩ := hv
      have te : (e == 0) = false := beq_eq_false_iff_ne.2 he
      have ten : (e != 0) = true := by rw [bne, te]; rfl
      have k1 := hc1'.c
      have l1 := hc1'.f
      have k2 := hc2'.c
      have l2 := hc2'.f
      have HE := Lib.hid he
      clear he hvx hy
      have hmx : Tryz.prog.follows .mixedOrders = true := by kernel_rfl
      have XC0 := (((hcv.set (.slice none 0 0)).other (h + 1) 0 (.complex .f64 a1 d1) (by omega)).other (h + 2) 0 (.int .i64 e) (by omega)).drew
      have XC1 := (((hc1'.other h 0 (.slice none 0 0) (by omega)).set (.complex .f64 a1 d1)).other (h + 2) 0 (.int .i64 e) (by omega)).drew
      have XC2 := (((hc2'.other h 0 (.slice none 0 0) (by omega)).other (h + 1) 0 (.complex .f64 a1 d1) (by omega)).set (.int .i64 e)).drew
      have XB := (((hbel.setCell (p := ⟨h, 0, none⟩) (Nat.le_refl _) (.slice none 0 0)).setCell (p := ⟨h + 1, 0, none⟩) (by simp) (.complex .f64 a1 d1)).setCell (p := ⟨h + 2, 0, none⟩) (by simp) (.int .i64 e)).drew
      have XK := ((((KeepsOthers.setCell X ⟨h, 0, none⟩ (.slice none 0 0)).trans (KeepsOthers.setCell _ ⟨h + 1, 0, none⟩ (.complex .f64 a1 d1))).trans (KeepsOthers.setCell _ ⟨h + 2, 0, none⟩ (.int .i64 e))).trans (KeepsOthers.drew _)).from (h + 4)
      have HX := Lib.hid (show ScX s.data.toList h w _ from ⟨XC0, by rw [h1]; exact XC1, by rw [hse]; exact XC2, XB⟩)
      have HK := Lib.hid XK
      clear XC0 XC1 XC2 XB XK h1 hse
      gi_wp2
      gi_region_with_o fail
      all_goals
        gi_wp2
        exact ⟨HE.out, HK.out, HX.out⟩
  case done =>
    rintro hz D N W' hD ⟨⟨v', hcv, hown, hgN⟩, hc1', hc2', hbel, hlow⟩ hK
    have c0 := hcv.c
    have f0 := hcv.f
    have k1 := hc1'.c
    have l1 := hc1'.f
    have k2 := hc2'.c
    have l2 := hc2'.f
    rw [List.take_of_length_le (by rw [all_len]; exact Nat.le_refl _)] at hown
    obtain ⟨p, cap, hvv⟩ := own_form2 hown
    subst hvv
    generalize hv9 : Value.slice p (allT s.data.toList).length cap = v9 at *
    have hD4 : h + 4 ≤ D := by rw [← hsz]; exact hD
    have XC0 := ((hcv.set v9).other (h + 1) 0 (.complex .f64 0 0) (by omega)).other (h + 2) 0 (.int .i64 0) (by omega)
    have XC1 := ((hc1'.other h 0 v9 (by omega)).set (.complex .f64 0 0)).other (h + 2) 0 (.int .i64 0) (by omega)
    have XC2 := ((hc2'.other h 0 v9 (by omega)).other (h + 1) 0 (.complex .f64 0 0) (by omega)).set (.int .i64 0)
    have XB := ((hbel.setCell (p := ⟨h, 0, none⟩) (Nat.le_refl _) v9).setCell (p := ⟨h + 1, 0, none⟩) (by simp) (.complex .f64 0 0)).setCell (p := ⟨h + 2, 0, none⟩) (by simp) (.int .i64 0)
    have XK := ((KeepsOthers.setCell W' ⟨h, 0, none⟩ v9).trans (KeepsOthers.setCell _ ⟨h + 1, 0, none⟩ (.complex .f64 0 0))).trans (KeepsOthers.setCell _ ⟨h + 2, 0, none⟩ (.int .i64 0))
    have XO := ((hown.set ⟨h, 0, none⟩ (by simp) v9).set ⟨h + 1, 0, none⟩ (by simp) (.complex .f64 0 0)).set ⟨h + 2, 0, none⟩ (by simp) (.int .i64 0)
    have hK2 := XK.same _ _ hK rfl
    subst hv9
    go_wp2_with fail
    generalize ((W'.setCell ⟨h, 0, none⟩ (.slice p (allT s.data.toList).length cap)).setCell ⟨h + 1, 0, none⟩ (.complex .f64 0 0)).setCell ⟨h + 2, 0, none⟩ (.int .i64 0) = Y at XC0 XC1 XC2 XB XO hK2 ⊢
    refine ⟨by simp, .inl ⟨_, _, rfl, run_takeDeferred hK2, ?_⟩⟩
    have r0 := (XC0.same (put_other (X := Y) (l := D) (o := .deferred none) (k := h) (by omega))).c
    have r1 := (XC1.same (put_other (X := Y) (l := D) (o := .deferred none) (k := h + 1) (by omega))).c
    have r2 := (XC2.same (put_other (X := Y) (l := D) (o := .deferred none) (k := h + 2) (by omega))).c
    have hlt := lt_of_heap hK2
    refine ⟨.tuple #[.slice p (allT s.data.toList).length cap, .complex .f64 0 0, .int .i64 0], by simp [results, Tryz.results32, go_sem, r0, r1, r2], ?_⟩
    refine ⟨_, _, by rw [hz], hh ▸ (XB.grown (grownBy_putObj' Y D _) (by omega) (fun k e => by cases e; omega)), .inl ⟨hz, rfl, ?_⟩⟩
    refine OwnT.mono (B := h + 4) (World.ownsRow.kept XO (grownBy_putObj' Y D _) ?_) (by omega)
    refine .inr (fun e => ?_)
    obtain ⟨_, o, ho1, ho2⟩ := own_cells XO e
    rw [hK2] at ho1
    rw [← Option.some.inj ho1] at ho2; cases ho2
  case stop =>
    rintro hz D W' hD ⟨XC0, XC1, XC2, XB⟩ hK
    have hD4 : h + 4 ≤ D := by rw [← hsz]; exact hD
    gi_wp2
    refine ⟨by simp, .inl ⟨_, _, rfl, run_takeDeferred hK, ?_⟩⟩
    obtain ⟨a1, d1, h1⟩ := posV_two (goB 1 1 (s.data.toList.take (scanS 0 s.data.toList).2.1)).1 (goB 1 1 (s.data.toList.take (scanS 0 s.data.toList).2.1)).2
    have r0 := (XC0.same (put_other (X := W') (l := D) (o := .deferred none) (k := h) (by omega))).c
    have r1 := (XC1.same (put_other (X := W') (l := D) (o := .deferred none) (k := h + 1) (by omega))).c
    have r2 := (XC2.same (put_other (X := W') (l := D) (o := .deferred none) (k := h + 2) (by omega))).c
    have hlt := lt_of_heap hK
    rw [h1] at r1
    refine ⟨.tuple #[.slice none 0 0, .complex .f64 a1 d1, .int .i64 (scanS 0 s.data.toList).2.2], by simp [results, Tryz.results32, go_sem, r0, r1, r2], ?_⟩
    exact ⟨_, _, rfl, hh ▸ (XB.grown (grownBy_putObj' W' D _) (by omega) (fun k e => by cases e; omega)), .inr ⟨hz, rfl, h1.symm⟩⟩
theorem zScan_long (s : ByteArray) (hs : 16384 < s.size) (w : World) :
    Calls Tryz.prog 32 #[.string s] w fun e w' => e = .returned (.tuple #[.slice none 0 0, posV 1 1, .int .i64 5]) ∧ Below w.heap.size w w' := by
  have hq : (16384 : Int) < (s.size : Int) := by omega
  have hsc := fun w a x y m => store_cx (P := Tryz.prog) w a .f64 x y m
  obtain ⟨a1, d1, h1⟩ := posV_two 1 1
  have HBn : ∀ w, Calls Tryz.prog 67 #[] w fun e w' => e = .returned (.complex .f64 a1 d1) ∧ w' = w := fun w => by
    have := Begin_any w
    rw [h1] at this; exact this
  have HT := Lib.hid h1
  clear h1
  have hb0 : Below w.heap.size w (((w.alloc (.cells #[.slice none 0 0] 23)).alloc (.cells #[.complex .f64 0 0] 24)).alloc (.cells #[.int .i64 0] 25)) :=
    (((Below.refl _ w).alloc (Nat.le_refl _) _).alloc (by simp) _).alloc (by simp; omega) _
  have hc0 : Cb (((w.alloc (.cells #[.slice none 0 0] 23)).alloc (.cells #[.complex .f64 0 0] 24)).alloc (.cells #[.int .i64 0] 25)) w.heap.size (.slice none 0 0) := ((Cb.new w _ _ _ rfl).alloc _).alloc _
  have hc1 : Cb (((w.alloc (.cells #[.slice none 0 0] 23)).alloc (.cells #[.complex .f64 0 0] 24)).alloc (.cells #[.int .i64 0] 25)) (w.heap.size + 1) (.complex .f64 0 0) := (Cb.new _ _ _ _ (by simp)).alloc _
  have hc2 : Cb (((w.alloc (.cells #[.slice none 0 0] 23)).alloc (.cells #[.complex .f64 0 0] 24)).alloc (.cells #[.int .i64 0] 25)) (w.heap.size + 1 + 1) (.int .i64 0) := Cb.new _ _ _ _ (by simp)
  go_enter Tryz.func32, Tryz.ntmps32
  go_wp2_with fail
  refine (HBn _).mono ?_
  rintro e w1 ⟨rfl, rfl⟩
  generalize ((w.alloc (.cells #[.slice none 0 0] 23)).alloc (.cells #[.complex .f64 0 0] 24)).alloc (.cells #[.int .i64 0] 25) = W at hb0 hc0 hc1 hc2 ⊢
  have c0 := hc0.c
  have f0 := hc0.f
  have k1 := hc1.c
  have l1 := hc1.f
  have k2 := hc2.c
  have l2 := hc2.f
  have XC0 := ((hc0.set (.slice none 0 0)).other (w.heap.size + 1) 0 (.complex .f64 a1 d1) (by omega)).other (w.heap.size + 1 + 1) 0 (.int .i64 5) (by omega)
  have XC1 := ((hc1.other w.heap.size 0 (.slice none 0 0) (by omega)).set (.complex .f64 a1 d1)).other (w.heap.size + 1 + 1) 0 (.int .i64 5) (by omega)
  have XC2 := ((hc2.other w.heap.size 0 (.slice none 0 0) (by omega)).other (w.heap.size + 1) 0 (.complex .f64 a1 d1) (by omega)).set (.int .i64 5)
  have XB := ((hb0.setCell (p := ⟨w.heap.size, 0, none⟩) (Nat.le_refl _) (.slice none 0 0)).setCell (p := ⟨w.heap.size + 1, 0, none⟩) (by simp) (.complex .f64 a1 d1)).setCell (p := ⟨w.heap.size + 1 + 1, 0, none⟩) (by simp; omega) (.int .i64 5)
  go_wp2_with fail
  have r0 := XC0.c
  have r1 := XC1.c
  have r2 := XC2.c
  refine bodyPost_ret (v := .tuple #[.slice none 0 0, .complex .f64 a1 d1, .int .i64 5]) (by simp [results, Tryz.results32, go_sem, r0, r1, r2]) rfl ?_
  exact ⟨by rw [HT.out], XB⟩
end Go.Proofs.YtliebhpddjbjeaaGreatDoor
