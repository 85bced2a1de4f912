/- Several texts in one. -/
import Derived.Test.YtnaihncmichfaaaMpC
import Derived.Test.YtnaihncmichfaaaNuA
import Derived.Laws.OwnMore
import Derived.Deep.RegionHeld3
/- Law 6: Grown: seeds in memory, and nodes that are made. -/
namespace Go.Proofs.Ytnaihncmichfaaa
open Go.RowKit Go.Op
set_option maxHeartbeats 4000000
set_option maxRecDepth 100000
set_option linter.unusedVariables false
set_option linter.unusedSimpArgs false

/-- A list of seeds that was there. -/
def SeedRow (w : World) (v : Value) (l : List (Nat × Nat)) : Prop := ∃ q cap, v = .slice q l.length cap ∧ l.length ≤ cap ∧ cap ≤ 9223372036854775807 ∧
  (l ≠ [] → ∃ g o, q = some ⟨g, o, none⟩ ∧ g < w.heap.size ∧ ∀ i x, l[i]? = some x → w.cell? ⟨g, o + i * 2, none⟩ = some (.int .u8 x.1) ∧ w.cell? ⟨g, o + i * 2 + 1, none⟩ = some (.int .u16 x.2))
theorem SeedRow.bel {w w' : World} {v : Value} {l : List (Nat × Nat)} (h : SeedRow w v l) (hb : Below w.heap.size w w') : SeedRow w' v l := by
  obtain ⟨q, cap, h1, h2, h3, h4⟩ := h
  refine ⟨q, cap, h1, h2, h3, fun hl => ?_⟩
  obtain ⟨g, o, e, hg, hc⟩ := h4 hl
  refine ⟨g, o, e, Nat.lt_of_lt_of_le hg hb.size, fun i x hx => ?_⟩
  obtain ⟨c1, c2⟩ := hc i x hx
  exact ⟨(hb.cell (p := ⟨g, o + i * 2, none⟩) hg).trans c1, (hb.cell (p := ⟨g, o + i * 2 + 1, none⟩) hg).trans c2⟩
theorem SeedRow.drop {w : World} {g o cap : Nat} {l : List (Nat × Nat)} (h : SeedRow w (.slice (some ⟨g, o, none⟩) l.length cap) l) (n : Nat) (hn : n ≤ l.length) (q : Option Addr) (hq : n < l.length → q = some ⟨g, o + n * 2, none⟩) : SeedRow w (.slice q (l.length - n) (cap - n)) (l.drop n) := by
  obtain ⟨q0, cap0, h1, h2, h3, h4⟩ := h
  injection h1 with e1 e2 e3
  subst e1 e3
  refine ⟨q, cap - n, by rw [List.length_drop], by rw [List.length_drop]; omega, by omega, fun hl => ?_⟩
  have hlt : n < l.length := by
    rcases Nat.lt_or_ge n l.length with h | h
    · exact h
    · exact absurd (List.drop_eq_nil_of_le h) hl
  obtain ⟨g', o', e, hg, hc⟩ := h4 (fun e => by rw [e] at hlt; simp at hlt)
  injection e with e
  injection e with e1 e2 e3
  subst e1 e2
  refine ⟨g, o + n * 2, hq hlt, hg, fun i x hx => ?_⟩
  rw [List.getElem?_drop] at hx
  obtain ⟨c1, c2⟩ := hc (n + i) x hx
  rw [show o + n * 2 + i * 2 = o + (n + i) * 2 by omega]
  exact ⟨c1, c2⟩
theorem pos00 : posV 0 0 = .complex .f64 0 0 := posV_none 0 0 isP_zero
/-- A node without kids. -/
theorem leaf_new {w : World} {B : Nat} (hB : B ≤ w.heap.size) (d : ND) : IsT (w.alloc (nodeO d (.slice none 0 0))) (B ≤ ·) (.node w.heap.size d []) :=
  ⟨hB, ⟨_, heap_alloc_new _ _, World.ownsRow_nil _ _ _ _, fun g hg => by cases hg⟩, trivial⟩
/-- A node with kids, in a list made for it. -/
theorem node_new {w : World} {B : Nat} (hB : B ≤ w.heap.size) (d : ND) (ks : List Tr) (hl : ks.length ≤ 8) (hks : ∀ k ∈ ks, IsT w (B ≤ ·) k) :
    IsT ((w.alloc (.cells (ks.map fun k => ptrV k.p).toArray 26)).alloc (nodeO d (.slice (some ⟨w.heap.size, 0, none⟩) ks.length ks.length))) (B ≤ ·) (.node (w.heap.size + 1) d ks) := by
  have s1 : (w.alloc (.cells (ks.map fun k => ptrV k.p).toArray 26)).heap.size = w.heap.size + 1 := by simp
  have b1 := below_new w (.cells (ks.map fun k => ptrV k.p).toArray 26)
  have b2 := below_new (w.alloc (.cells (ks.map fun k => ptrV k.p).toArray 26)) (nodeO d (.slice (some ⟨w.heap.size, 0, none⟩) ks.length ks.length))
  have hb := bt b1 b2
  refine ⟨by omega, ⟨.slice (some ⟨w.heap.size, 0, none⟩) ks.length ks.length, ?_, ?_, ?_⟩, IsTL.of fun k hk => (hks k hk).below hb⟩
  · have := heap_alloc_new (w.alloc (.cells (ks.map fun k => ptrV k.p).toArray 26)) (nodeO d (.slice (some ⟨w.heap.size, 0, none⟩) ks.length ks.length))
    rw [s1] at this
    exact this
  · have h0 := World.ownsRow_lit (base := 0) (e := 26) (size := 1) w (ks.map fun k => ptrV k.p).toArray ks.length (Nat.zero_le _) (by unfold maxLen; omega) (by simp)
    have h1 := ownsRow_keep (w' := (w.alloc (.cells (ks.map fun k => ptrV k.p).toArray 26)).alloc (nodeO d (.slice (some ⟨w.heap.size, 0, none⟩) ks.length ks.length))) h0 (fun g hg => by
      injection hg with hg
      subst hg
      exact b2.block _ (by rw [s1]; exact Nat.lt_succ_self _))
    rw [List.length_map, List.map_map]
    exact h1
  · intro g hg
    injection hg with hg
    subst hg
    exact hB
end Go.Proofs.Ytnaihncmichfaaa
/- Law 6: Grown, walked. -/
namespace Go.Proofs.Ytnaihncmichfaaa
open Go.RowKit Go.Op
set_option maxHeartbeats 2000000
set_option maxRecDepth 100000
set_option linter.unusedVariables false
set_option linter.unusedSimpArgs false

/-- What Grown answers. -/
def Grows (w : World) (k : Nat) (l : List (Nat × Nat)) (e : Ending) (w' : World) : Prop := ∃ t : Tr, e = .returned (.tuple #[ptrV t.p, .string ⟨(grow k l).1.tx.toArray⟩, .int .i64 (grow k l).2]) ∧ Below w.heap.size w w' ∧ IsT w' (w.heap.size ≤ ·) t ∧ t.dt = (grow k l).1.dt
theorem grown_none (k : Nat) (hk : k ≤ 12) (l : List (Nat × Nat)) (v : Value) (w : World) (hv : SeedRow w v l) (h : l = [] ∨ k = 0) :
    Calls Try.prog 14 #[v, .int .i64 k] w (Grows w k l) := by
  have hg : grow k l = (.z, 0) := by
    rcases h with rfl | rfl
    · cases k <;> rfl
    · rfl
  obtain ⟨q, cap, rfl, h2, h3, _⟩ := hv
  have hz : posV 0 0 = .complex .f64 0 0 := pos00
  have hn : nodeO (n0 1 [122] 0) (.slice none 0 0) = .cells #[.int .u8 1, .complex .f64 0 0, .string ⟨#[122]⟩, .int .i64 0, .slice none 0 0] 43 (0, 0) := by
    show Obj.cells #[.int .u8 1, posV 0 0, .string ⟨#[122]⟩, .int .i64 0, .slice none 0 0] _ _ = _
    rw [hz]
  have HT := Lib.hid (leaf_new (w := w) (Nat.le_refl _) (n0 1 [122] 0))
  have HN := Lib.hid hn
  have HG := Lib.hid hg
  have HB := Lib.hid (below_new w (nodeO (n0 1 [122] 0) (.slice none 0 0)))
  by_cases hl : l = []
  · subst hl
    clear h hg hz hn
    go_enter Try.func14, Try.ntmps14
    go_wp2_with fail
    go_ret3
    have h1 := HT.out
    have h2 := HB.out
    rw [HN.out] at h1 h2
    exact ⟨.node w.heap.size (n0 1 [122] 0) [], by rw [HG.out]; rfl, h2, h1, by rw [HG.out]; rfl⟩
  · obtain rfl : k = 0 := by
      rcases h with h | h
      · exact absurd h hl
      · exact h
    obtain ⟨x, r, rfl⟩ := List.exists_cons_of_ne_nil hl
    obtain ⟨m, hm⟩ : ∃ m, (x :: r).length = m + 1 := ⟨r.length, rfl⟩
    rw [hm]
    have t1 : ((m : Int) + 1 == 0) = false := beq_eq_false_iff_ne.2 (by omega)
    clear hl hg hz hn hm
    simp only [Int.natCast_zero]
    go_enter Try.func14, Try.ntmps14
    go_wp2_with fail
    go_ret3
    have h1 := HT.out
    have h2 := HB.out
    rw [HN.out] at h1 h2
    exact ⟨.node w.heap.size (n0 1 [122] 0) [], by rw [HG.out]; rfl, h2, h1, by rw [HG.out]; rfl⟩
theorem bytes_of2 {a : ByteArray} {l : List UInt8} (h : a.data.toList = l) : a = ⟨l.toArray⟩ := by
  cases a with
  | mk d => subst h; simp
theorem unL_cell (w : World) (p : Nat) (h : p < 3) : (w.alloc (.cells #[.string ⟨#[43]⟩, .string ⟨#[45]⟩, .string ⟨#[78, 79, 84]⟩] 9)).cell? ⟨w.heap.size, p, none⟩ = some (.string ⟨(unB p).toArray⟩) := by
  rw [World.cell?_alloc_at _ _ _ _ rfl]
  match p, h with
  | 0, _ => rfl
  | 1, _ => rfl
  | 2, _ => rfl
theorem opL_cell2 (w : World) (p : Nat) (h : p < 15) : (w.alloc (.cells #[.string ⟨#[42]⟩, .string ⟨#[47]⟩, .string ⟨#[68, 73, 86]⟩, .string ⟨#[77, 79, 68]⟩, .string ⟨#[65, 78, 68]⟩, .string ⟨#[43]⟩, .string ⟨#[45]⟩, .string ⟨#[79, 82]⟩, .string ⟨#[61]⟩, .string ⟨#[35]⟩, .string ⟨#[60]⟩, .string ⟨#[60, 61]⟩, .string ⟨#[62]⟩, .string ⟨#[62, 61]⟩, .string ⟨#[73, 78]⟩] 9)).cell? ⟨w.heap.size, p, none⟩ = some (.string ⟨(opB p).toArray⟩) := opL_cell w p h
theorem bd2 (a b : ByteArray) : (a ++ b).data.toList = a.data.toList ++ b.data.toList := by simp [ByteArray.data_append]
theorem nodeO0 (k : Nat) (x : List UInt8) (n : Int) (v : Value) : nodeO (n0 k x n) v = .cells #[.int .u8 k, .complex .f64 0 0, .string ⟨x.toArray⟩, .int .i64 n, v] 43 (0, 0) := by
  show Obj.cells #[.int .u8 k, posV 0 0, .string ⟨x.toArray⟩, .int .i64 n, v] _ _ = _
  rw [pos00]
theorem IsT.wide {w : World} {B B' : Nat} {t : Tr} (h : IsT w (B ≤ ·) t) (hB : B' ≤ B) : IsT w (B' ≤ ·) t := h.keep (fun j hj _ => Nat.le_trans hB hj) (fun j _ _ => rfl)
theorem size_of (l : List UInt8) : (⟨l.toArray⟩ : ByteArray).size = l.length := by
  show l.toArray.size = _
  simp
theorem grown_un (k : Nat) (hk : k ≤ 11) (d n : Nat) (r : List (Nat × Nat)) (hd : d ≤ 255) (hn : n ≤ 65535) (hl : r.length ≤ 59) (hr : ∀ x ∈ r, x.2 ≤ 65535) (h9 : d % 9 = 3) (v : Value) (w : World) (hv : SeedRow w v ((d, n) :: r))
    (ih : ∀ v' w', SeedRow w' v' r → Calls Try.prog 14 #[v', .int .i64 k] w' (Grows w' k r)) :
    Calls Try.prog 14 #[v, .int .i64 ((k + 1 : Nat) : Int)] w (Grows w (k + 1) ((d, n) :: r)) := by
  obtain ⟨q, cap, rfl, h2, h3, h4⟩ := hv
  obtain ⟨g, o, rfl, hg, hc⟩ := h4 (by simp)
  obtain ⟨c0, c1⟩ := hc 0 (d, n) rfl
  simp only [Nat.zero_mul, Nat.add_zero] at c0 c1
  have HV : Hid (SeedRow w (.slice (some ⟨g, o, none⟩) ((d, n) :: r).length cap) ((d, n) :: r)) := Lib.hid ⟨_, cap, rfl, h2, h3, h4⟩
  have HIH := Lib.hid ih
  obtain ⟨m, hm⟩ : ∃ m, r.length = m := ⟨_, rfl⟩
  simp only [List.length_cons] at h2 ⊢
  rw [hm] at h2 ⊢
  have HM := Lib.hid hm
  have t1 : ((m : Int) + 1 == 0) = false := beq_eq_false_iff_ne.2 (by omega)
  have t2 : ((k : Int) + 1 == 0) = false := beq_eq_false_iff_ne.2 (by omega)
  have m1 : (1 : Int) ≤ (m : Int) + 1 := by omega
  have m2 : (m : Int) + 1 ≤ (cap : Int) := by omega
  obtain ⟨g1, g2⟩ := grow_ok k r hr
  have g3 := grow_used k r
  have w1 : wrap64 ((k : Int) + 1 - 1) = (k : Int) := by rw [w64 _ (by omega) (by omega)]; omega
  obtain ⟨wa, hwa⟩ : ∃ wa, w.alloc (.cells #[.int .u8 d, .int .u16 n] 55) = wa := ⟨_, rfl⟩
  obtain ⟨wb, hwb⟩ : ∃ wb, wa.alloc (.cells #[.string ⟨#[42]⟩, .string ⟨#[47]⟩, .string ⟨#[68, 73, 86]⟩, .string ⟨#[77, 79, 68]⟩, .string ⟨#[65, 78, 68]⟩, .string ⟨#[43]⟩, .string ⟨#[45]⟩, .string ⟨#[79, 82]⟩, .string ⟨#[61]⟩, .string ⟨#[35]⟩, .string ⟨#[60]⟩, .string ⟨#[60, 61]⟩, .string ⟨#[62]⟩, .string ⟨#[62, 61]⟩, .string ⟨#[73, 78]⟩] 9) = wb := ⟨_, rfl⟩
  have sa : wa.heap.size = w.heap.size + 1 := by rw [← hwa]; simp
  have sb : wb.heap.size = w.heap.size + 2 := by rw [← hwb]; simp [sa]
  have Ba : Below w.heap.size w wa := by rw [← hwa]; exact below_new _ _
  have Bb : Below wa.heap.size wa wb := by rw [← hwb]; exact below_new _ _
  have BAB := Lib.hid (bt Ba Bb)
  have e0 : wa.heap[w.heap.size]? = some (.cells #[.int .u8 d, .int .u16 n] 55 (0, 0)) := by rw [← hwa]; exact heap_alloc_new _ _
  have e1 : wb.heap[w.heap.size]? = some (.cells #[.int .u8 d, .int .u16 n] 55 (0, 0)) := (Bb.block _ (by omega)).trans e0
  have HE1 := Lib.hid e1
  have a0 : wb.cell? ⟨w.heap.size, 0, none⟩ = some (.int .u8 d) := by rw [Lib.cell_of_heap e1]; rfl
  have HSB := Lib.hid (And.intro sa sb)
  have HR : ∀ (q : Option Addr) (c : Nat), (1 < m + 1 → q = some ⟨g, o + 2, none⟩) → c = cap - 1 → SeedRow wb (.slice q m c) r := fun q c hq hc => by
    have h0 := (HV.out.drop 1 (by simp) q (by simpa [hm] using hq)).bel BAB.out
    rw [hc]
    simpa [hm] using h0
  have HR := Lib.hid HR
  have t3 : (d : Int) % 9 = 3 := by omega
  have hgr : grow (k + 1) ((d, n) :: r) = (.un (n % 3) (grow k r).1, 1 + (grow k r).2) := by
    conv => lhs; unfold grow
    rw [if_neg (by omega), if_pos h9]
  have hlt : n % 3 < 3 := Nat.mod_lt _ (by decide)
  obtain ⟨x, hxn⟩ : ∃ x, n % 3 = x := ⟨_, rfl⟩
  have hx : (n : Int) % 3 = (x : Int) := by omega
  rw [hxn] at hgr hlt
  have hu : ∀ w : World, (w.alloc (.cells #[.string ⟨#[43]⟩, .string ⟨#[45]⟩, .string ⟨#[78, 79, 84]⟩] 9)).cell? ⟨w.heap.size, x, none⟩ = some (.string ⟨(unB x).toArray⟩) := fun w => unL_cell w _ hlt
  have zu : (unB x).length ≤ 3 := un_len3 _ hlt
  obtain ⟨U, hU⟩ : ∃ U : ByteArray, ⟨(unB x).toArray⟩ = U := ⟨_, rfl⟩
  obtain ⟨T, hT⟩ : ∃ T : ByteArray, ⟨(grow k r).1.tx.toArray⟩ = T := ⟨_, rfl⟩
  have zU : U.size ≤ 3 := by rw [← hU, size_of]; exact zu
  have zT : T.size ≤ 2000 := by rw [← hT, size_of]; omega
  have f1 : ¬ (9223372036854775807 : Nat) < 1 + U.size := by omega
  have f2 : ¬ (9223372036854775807 : Nat) < 1 + U.size + 1 := by omega
  have f2b : ¬ (9223372036854775807 : Nat) ≤ 1 + U.size := by omega
  have f3 : ¬ (9223372036854775807 : Nat) < 1 + U.size + 1 + T.size := by omega
  have f4 : ¬ (9223372036854775807 : Nat) < 1 + U.size + 1 + T.size + 1 := by omega
  have f4b : ¬ (9223372036854775807 : Nat) ≤ 1 + U.size + 1 + T.size := by omega
  obtain ⟨u, hu2⟩ : ∃ u, (grow k r).2 = u := ⟨_, rfl⟩
  have u60 : u ≤ 60 := by omega
  have x0 : (0 : Int) ≤ (x : Int) := by omega
  have x1 : (x : Int) < 3 := by omega
  have HU := Lib.hid hu
  have HG := Lib.hid hgr
  have HUT := Lib.hid (And.intro hU (And.intro hT hu2))
  clear hc h4 ih hm hgr hU hT hu2 g1 g2 g3 zu zU zT Ba Bb e0 e1 sa sb hu h9 hr hxn hlt
  go_enter Try.func14, Try.ntmps14
  go_wp2_with fail
  all_goals
    refine (HIH.out _ _ (HR.out _ _ (by intro h; first | rfl | omega) (by omega))).mono ?_
    rintro e wc ⟨t, rfl, Bc, It, Dt⟩
    rw [HUT.out.2.1, HUT.out.2.2]
    obtain ⟨wd, hwd⟩ : ∃ wd, wc.alloc (.cells #[.string ⟨#[43]⟩, .string ⟨#[45]⟩, .string ⟨#[78, 79, 84]⟩] 9) = wd := ⟨_, rfl⟩
    have Bd : Below wc.heap.size wc wd := by rw [← hwd]; exact below_new _ _
    have Bcd := bt Bc Bd
    have a1 : wd.cell? ⟨w.heap.size, 1, none⟩ = some (.int .u16 n) := by
      rw [Lib.cell_of_heap ((Bcd.block _ (by have := HSB.out.2; omega)).trans HE1.out)]; rfl
    have hu := HU.out wc
    rw [HUT.out.1, hwd] at hu
    have HC := Lib.hid (And.intro Bcd (And.intro (It.below Bd) Dt))
    clear Bc It Dt Bd Bcd
    obtain ⟨tp, htp⟩ : ∃ tp, t.p = tp := ⟨_, rfl⟩
    rw [htp]
    have HXV := Lib.hid htp
    clear htp
    simp only [ptrV]
    go_wp2_with fail
    go_ret3
    obtain ⟨Bcd, It, Dt⟩ := HC.out
    have hsb := HSB.out.2
    have hN : IsT ((wd.alloc (.cells #[.pointer (some ⟨tp, 0, none⟩)] 26)).alloc (.cells #[.int .u8 12, .complex .f64 0 0, .string U, .int .i64 0, .slice (some ⟨wd.heap.size, 0, none⟩) 1 1] 43)) (w.heap.size ≤ ·) (.node (wd.heap.size + 1) (n0 12 (unB x) 0) [t]) := by
      have h := node_new (w := wd) (B := w.heap.size) (by have := Bcd.size; omega) (n0 12 (unB x) 0) [t] (by simp) (by intro k hk; simp at hk; subst hk; exact It.wide (by omega))
      rw [nodeO0, HUT.out.1] at h
      have e : [t].map (fun k => ptrV k.p) = [.pointer (some ⟨tp, 0, none⟩)] := by show [ptrV t.p] = _; rw [HXV.out]; rfl
      rw [e] at h
      exact h
    have hs : ((((⟨#[40]⟩ : ByteArray) ++ U) ++ ⟨#[32]⟩) ++ T) ++ ⟨#[41]⟩ = ⟨((GT.un x (grow k r).1).tx).toArray⟩ := bytes_of2 (by rw [← HUT.out.1, ← HUT.out.2.1]; simp [bd2, GT.tx])
    have hi : ((1 + u : Nat) : Int) = 1 + (u : Int) := by omega
    refine ⟨.node (wd.heap.size + 1) (n0 12 (unB x) 0) [t], ?_, bt (bt BAB.out Bcd) (bt (below_new _ _) (below_new _ _)), hN, ?_⟩
    · rw [HG.out]
      simp only
      rw [HUT.out.2.2, hi, ← hs]
      rfl
    · rw [HG.out]
      show DT.node _ [t.dt] = _
      rw [Dt]; rfl
end Go.Proofs.Ytnaihncmichfaaa
/- Law 6: nodes that are made, in worlds that have names. -/
namespace Go.Proofs.Ytnaihncmichfaaa
open Go.RowKit Go.Op
set_option maxHeartbeats 2000000
set_option linter.unusedVariables false
set_option linter.unusedSimpArgs false

theorem leaf_in {w w1 : World} {B : Nat} (hB : B ≤ w.heap.size) (d : ND) (h : w.alloc (nodeO d (.slice none 0 0)) = w1) : IsT w1 (B ≤ ·) (.node w.heap.size d []) ∧ Below w.heap.size w w1 := by
  subst h
  exact ⟨leaf_new hB d, below_new _ _⟩
theorem node_in {w w1 w2 : World} {B : Nat} (hB : B ≤ w.heap.size) (d : ND) (ks : List Tr) (ps : List Nat) (hp : ks.map Tr.p = ps) (hl : ks.length ≤ 8) (hks : ∀ k ∈ ks, IsT w (B ≤ ·) k)
    (h1 : w.alloc (.cells (ps.map fun p => Value.pointer (some ⟨p, 0, none⟩)).toArray 26) = w1) (h2 : w1.alloc (nodeO d (.slice (some ⟨w.heap.size, 0, none⟩) ks.length ks.length)) = w2) :
    IsT w2 (B ≤ ·) (.node w1.heap.size d ks) ∧ Below w.heap.size w w2 := by
  have e : ps.map (fun p => Value.pointer (some ⟨p, 0, none⟩)) = ks.map fun k => ptrV k.p := by rw [← hp, List.map_map]; rfl
  rw [e] at h1
  have s1 : w1.heap.size = w.heap.size + 1 := by rw [← h1]; simp
  have h := node_new hB d ks hl hks
  rw [h1, h2] at h
  rw [s1]
  refine ⟨h, ?_⟩
  have b1 : Below w.heap.size w w1 := by rw [← h1]; exact below_new _ _
  have b2 : Below w1.heap.size w1 w2 := by rw [← h2]; exact below_new _ _
  exact bt b1 b2
end Go.Proofs.Ytnaihncmichfaaa
/- Law 6: Grown, walked: a string. -/
namespace Go.Proofs.Ytnaihncmichfaaa
open Go.RowKit Go.Op
set_option maxHeartbeats 2000000
set_option maxRecDepth 100000
set_option linter.unusedVariables false
set_option linter.unusedSimpArgs false

theorem grown_str (k : Nat) (hk : k ≤ 11) (d n : Nat) (r : List (Nat × Nat)) (hd : d ≤ 255) (hn : n ≤ 65535) (hl : r.length ≤ 59) (hr : ∀ x ∈ r, x.2 ≤ 65535) (h9 : 8 ≤ d % 9) (v : Value) (w : World) (hv : SeedRow w v ((d, n) :: r))
    (ih : ∀ v' w', SeedRow w' v' r → Calls Try.prog 14 #[v', .int .i64 k] w' (Grows w' k r)) :
    Calls Try.prog 14 #[v, .int .i64 ((k + 1 : Nat) : Int)] w (Grows w (k + 1) ((d, n) :: r)) := by
  obtain ⟨q, cap, rfl, h2, h3, h4⟩ := hv
  obtain ⟨g, o, rfl, hg, hc⟩ := h4 (by simp)
  obtain ⟨c0, c1⟩ := hc 0 (d, n) rfl
  simp only [Nat.zero_mul, Nat.add_zero] at c0 c1
  have HV : Hid (SeedRow w (.slice (some ⟨g, o, none⟩) ((d, n) :: r).length cap) ((d, n) :: r)) := Lib.hid ⟨_, cap, rfl, h2, h3, h4⟩
  have HIH := Lib.hid ih
  obtain ⟨m, hm⟩ : ∃ m, r.length = m := ⟨_, rfl⟩
  simp only [List.length_cons] at h2 ⊢
  rw [hm] at h2 ⊢
  have HM := Lib.hid hm
  have t1 : ((m : Int) + 1 == 0) = false := beq_eq_false_iff_ne.2 (by omega)
  have t2 : ((k : Int) + 1 == 0) = false := beq_eq_false_iff_ne.2 (by omega)
  have m1 : (1 : Int) ≤ (m : Int) + 1 := by omega
  have m2 : (m : Int) + 1 ≤ (cap : Int) := by omega
  obtain ⟨g1, g2⟩ := grow_ok k r hr
  have g3 := grow_used k r
  have w1 : wrap64 ((k : Int) + 1 - 1) = (k : Int) := by rw [w64 _ (by omega) (by omega)]; omega
  obtain ⟨wa, hwa⟩ : ∃ wa, w.alloc (.cells #[.int .u8 d, .int .u16 n] 55) = wa := ⟨_, rfl⟩
  obtain ⟨wb, hwb⟩ : ∃ wb, wa.alloc (.cells #[.string ⟨#[42]⟩, .string ⟨#[47]⟩, .string ⟨#[68, 73, 86]⟩, .string ⟨#[77, 79, 68]⟩, .string ⟨#[65, 78, 68]⟩, .string ⟨#[43]⟩, .string ⟨#[45]⟩, .string ⟨#[79, 82]⟩, .string ⟨#[61]⟩, .string ⟨#[35]⟩, .string ⟨#[60]⟩, .string ⟨#[60, 61]⟩, .string ⟨#[62]⟩, .string ⟨#[62, 61]⟩, .string ⟨#[73, 78]⟩] 9) = wb := ⟨_, rfl⟩
  have sa : wa.heap.size = w.heap.size + 1 := by rw [← hwa]; simp
  have sb : wb.heap.size = w.heap.size + 2 := by rw [← hwb]; simp [sa]
  have Ba : Below w.heap.size w wa := by rw [← hwa]; exact below_new _ _
  have Bb : Below wa.heap.size wa wb := by rw [← hwb]; exact below_new _ _
  have BAB := Lib.hid (bt Ba Bb)
  have e0 : wa.heap[w.heap.size]? = some (.cells #[.int .u8 d, .int .u16 n] 55 (0, 0)) := by rw [← hwa]; exact heap_alloc_new _ _
  have e1 : wb.heap[w.heap.size]? = some (.cells #[.int .u8 d, .int .u16 n] 55 (0, 0)) := (Bb.block _ (by omega)).trans e0
  have HE1 := Lib.hid e1
  have a0 : wb.cell? ⟨w.heap.size, 0, none⟩ = some (.int .u8 d) := by rw [Lib.cell_of_heap e1]; rfl
  have HSB := Lib.hid (And.intro sa sb)
  have HR : ∀ (q : Option Addr) (c : Nat), (1 < m + 1 → q = some ⟨g, o + 2, none⟩) → c = cap - 1 → SeedRow wb (.slice q m c) r := fun q c hq hc => by
    have h0 := (HV.out.drop 1 (by simp) q (by simpa [hm] using hq)).bel BAB.out
    rw [hc]
    simpa [hm] using h0
  have HR := Lib.hid HR
  have t3 : (d : Int) % 9 = 8 := by omega
  have hgr : grow (k + 1) ((d, n) :: r) = (.str, 1) := by
    conv => lhs; unfold grow
    rw [if_neg (by omega), if_neg (by omega), if_neg (by omega), if_neg (by omega), if_neg (by omega), if_neg (by omega)]
  have HG := Lib.hid hgr
  clear hc h4 ih hm hgr g1 g2 g3 Ba Bb e0 e1 sa sb h9 hr
  go_enter Try.func14, Try.ntmps14
  go_wp2_with fail
  go_ret3
  have hsb := HSB.out.2
  have h := leaf_in (w := wb) (B := w.heap.size) (by omega) (n0 7 [113] 0) rfl
  rw [nodeO0] at h
  refine ⟨.node wb.heap.size (n0 7 [113] 0) [], ?_, bt BAB.out h.2, h.1, ?_⟩
  · rw [HG.out]; rfl
  · rw [HG.out]; rfl
end Go.Proofs.Ytnaihncmichfaaa
/- Law 6: Grown, walked: an index. -/
namespace Go.Proofs.Ytnaihncmichfaaa
open Go.RowKit Go.Op
set_option maxHeartbeats 2000000
set_option maxRecDepth 100000
set_option linter.unusedVariables false
set_option linter.unusedSimpArgs false

theorem grown_idx (k : Nat) (hk : k ≤ 11) (d n : Nat) (r : List (Nat × Nat)) (hd : d ≤ 255) (hn : n ≤ 65535) (hl : r.length ≤ 59) (hr : ∀ x ∈ r, x.2 ≤ 65535) (h9 : d % 9 = 5) (v : Value) (w : World) (hv : SeedRow w v ((d, n) :: r))
    (ih : ∀ v' w', SeedRow w' v' r → Calls Try.prog 14 #[v', .int .i64 k] w' (Grows w' k r)) :
    Calls Try.prog 14 #[v, .int .i64 ((k + 1 : Nat) : Int)] w (Grows w (k + 1) ((d, n) :: r)) := by
  obtain ⟨q, cap, rfl, h2, h3, h4⟩ := hv
  obtain ⟨g, o, rfl, hg, hc⟩ := h4 (by simp)
  obtain ⟨c0, c1⟩ := hc 0 (d, n) rfl
  simp only [Nat.zero_mul, Nat.add_zero] at c0 c1
  have HV : Hid (SeedRow w (.slice (some ⟨g, o, none⟩) ((d, n) :: r).length cap) ((d, n) :: r)) := Lib.hid ⟨_, cap, rfl, h2, h3, h4⟩
  have HIH := Lib.hid ih
  obtain ⟨m, hm⟩ : ∃ m, r.length = m := ⟨_, rfl⟩
  simp only [List.length_cons] at h2 ⊢
  rw [hm] at h2 ⊢
  have HM := Lib.hid hm
  have t1 : ((m : Int) + 1 == 0) = false := beq_eq_false_iff_ne.2 (by omega)
  have t2 : ((k : Int) + 1 == 0) = false := beq_eq_false_iff_ne.2 (by omega)
  have m1 : (1 : Int) ≤ (m : Int) + 1 := by omega
  have m2 : (m : Int) + 1 ≤ (cap : Int) := by omega
  obtain ⟨g1, g2⟩ := grow_ok k r hr
  have g3 := grow_used k r
  have w1 : wrap64 ((k : Int) + 1 - 1) = (k : Int) := by rw [w64 _ (by omega) (by omega)]; omega
  obtain ⟨wa, hwa⟩ : ∃ wa, w.alloc (.cells #[.int .u8 d, .int .u16 n] 55) = wa := ⟨_, rfl⟩
  obtain ⟨wb, hwb⟩ : ∃ wb, wa.alloc (.cells #[.string ⟨#[42]⟩, .string ⟨#[47]⟩, .string ⟨#[68, 73, 86]⟩, .string ⟨#[77, 79, 68]⟩, .string ⟨#[65, 78, 68]⟩, .string ⟨#[43]⟩, .string ⟨#[45]⟩, .string ⟨#[79, 82]⟩, .string ⟨#[61]⟩, .string ⟨#[35]⟩, .string ⟨#[60]⟩, .string ⟨#[60, 61]⟩, .string ⟨#[62]⟩, .string ⟨#[62, 61]⟩, .string ⟨#[73, 78]⟩] 9) = wb := ⟨_, rfl⟩
  have sa : wa.heap.size = w.heap.size + 1 := by rw [← hwa]; simp
  have sb : wb.heap.size = w.heap.size + 2 := by rw [← hwb]; simp [sa]
  have Ba : Below w.heap.size w wa := by rw [← hwa]; exact below_new _ _
  have Bb : Below wa.heap.size wa wb := by rw [← hwb]; exact below_new _ _
  have BAB := Lib.hid (bt Ba Bb)
  have e0 : wa.heap[w.heap.size]? = some (.cells #[.int .u8 d, .int .u16 n] 55 (0, 0)) := by rw [← hwa]; exact heap_alloc_new _ _
  have e1 : wb.heap[w.heap.size]? = some (.cells #[.int .u8 d, .int .u16 n] 55 (0, 0)) := (Bb.block _ (by omega)).trans e0
  have HE1 := Lib.hid e1
  have a0 : wb.cell? ⟨w.heap.size, 0, none⟩ = some (.int .u8 d) := by rw [Lib.cell_of_heap e1]; rfl
  have HSB := Lib.hid (And.intro sa sb)
  have HR : ∀ (q : Option Addr) (c : Nat), (1 < m + 1 → q = some ⟨g, o + 2, none⟩) → c = cap - 1 → SeedRow wb (.slice q m c) r := fun q c hq hc => by
    have h0 := (HV.out.drop 1 (by simp) q (by simpa [hm] using hq)).bel BAB.out
    rw [hc]
    simpa [hm] using h0
  have HR := Lib.hid HR
  have t3 : (d : Int) % 9 = 5 := by omega
  have hgr : grow (k + 1) ((d, n) :: r) = (.idx (grow k r).1, 1 + (grow k r).2) := by
    conv => lhs; unfold grow
    rw [if_neg (by omega), if_neg (by omega), if_neg (by omega), if_pos h9]
  have HG := Lib.hid hgr
  obtain ⟨T, hT⟩ : ∃ T : ByteArray, ⟨(grow k r).1.tx.toArray⟩ = T := ⟨_, rfl⟩
  have zT : T.size ≤ 2000 := by rw [← hT, size_of]; omega
  have f1 : ¬ (9223372036854775807 : Nat) < 2 + T.size := by omega
  have f2 : ¬ (9223372036854775807 : Nat) < 2 + T.size + 4 := by omega
  obtain ⟨u, hu2⟩ : ∃ u, (grow k r).2 = u := ⟨_, rfl⟩
  have u60 : u ≤ 60 := by omega
  have HUT := Lib.hid (And.intro hT hu2)
  have HR : ∀ (q : Option Addr) (c : Nat), (1 < m + 1 → q = some ⟨g, o + 2, none⟩) → c = cap - 1 → SeedRow wb (.slice q m c) r := fun q c hq hc => by
    have h0 := (HV.out.drop 1 (by simp) q (by simpa [hm] using hq)).bel BAB.out
    rw [hc]
    simpa [hm] using h0
  have HR := Lib.hid HR
  clear hT hu2 zT
  clear hc h4 ih hm hgr g1 g2 g3 Ba Bb e0 e1 sa sb h9 hr
  go_enter Try.func14, Try.ntmps14
  go_wp2_with fail
  all_goals
    refine (HIH.out _ _ (HR.out _ _ (by intro h; first | rfl | omega) (by omega))).mono ?_
    rintro e wc ⟨t, rfl, Bc, It, Dt⟩
    rw [HUT.out.1, HUT.out.2]
    have HC := Lib.hid (And.intro Bc (And.intro It Dt))
    clear Bc It Dt
    obtain ⟨tp, htp⟩ : ∃ tp, t.p = tp := ⟨_, rfl⟩
    rw [htp]
    have HXV := Lib.hid htp
    clear htp
    simp only [ptrV]
    obtain ⟨W1, hW1⟩ : ∃ W1, wc.alloc (.cells #[.int .u8 1, .complex .f64 0 0, .string ⟨#[118]⟩, .int .i64 0, .slice none 0 0] 43) = W1 := ⟨_, rfl⟩
    obtain ⟨W2, hW2⟩ : ∃ W2, W1.alloc (.cells #[.pointer (some ⟨wc.heap.size, 0, none⟩), .pointer (some ⟨tp, 0, none⟩)] 26) = W2 := ⟨_, rfl⟩
    obtain ⟨W3, hW3⟩ : ∃ W3, W2.alloc (.cells #[.int .u8 3, .complex .f64 0 0, .string ⟨#[]⟩, .int .i64 0, .slice (some ⟨W1.heap.size, 0, none⟩) 2 2] 43) = W3 := ⟨_, rfl⟩
    obtain ⟨W4, hW4⟩ : ∃ W4, W3.alloc (.cells #[.pointer (some ⟨W2.heap.size, 0, none⟩)] 26) = W4 := ⟨_, rfl⟩
    obtain ⟨W5, hW5⟩ : ∃ W5, W4.alloc (.cells #[.int .u8 4, .complex .f64 0 0, .string ⟨#[]⟩, .int .i64 0, .slice (some ⟨W3.heap.size, 0, none⟩) 1 1] 43) = W5 := ⟨_, rfl⟩
    obtain ⟨W6, hW6⟩ : ∃ W6, W5.alloc (.cells #[.pointer (some ⟨W4.heap.size, 0, none⟩)] 26) = W6 := ⟨_, rfl⟩
    obtain ⟨W7, hW7⟩ : ∃ W7, W6.alloc (.cells #[.int .u8 2, .complex .f64 0 0, .string ⟨#[102]⟩, .int .i64 0, .slice (some ⟨W5.heap.size, 0, none⟩) 1 1] 43) = W7 := ⟨_, rfl⟩
    go_wp2_with fail
    go_ret3
    obtain ⟨Bc, It, Dt⟩ := HC.out
    have hsb := HSB.out.2
    have hz := Bc.size
    have S1 : W1.heap.size = wc.heap.size + 1 := by rw [← hW1]; simp
    have S2 : W2.heap.size = wc.heap.size + 2 := by rw [← hW2]; simp [S1]
    have S3 : W3.heap.size = wc.heap.size + 3 := by rw [← hW3]; simp [S2]
    have S4 : W4.heap.size = wc.heap.size + 4 := by rw [← hW4]; simp [S3]
    have S5 : W5.heap.size = wc.heap.size + 5 := by rw [← hW5]; simp [S4]
    obtain ⟨L1, B1⟩ := leaf_in (w := wc) (w1 := W1) (B := w.heap.size) (by omega) (n0 1 [118] 0) (by rw [nodeO0]; exact hW1)
    have It1 := (It.wide (B' := w.heap.size) (by omega)).below B1
    obtain ⟨L2, B2⟩ := node_in (w := W1) (w1 := W2) (w2 := W3) (B := w.heap.size) (by omega) (n0 3 [] 0) [.node wc.heap.size (n0 1 [118] 0) [], t] [wc.heap.size, tp] (by show [wc.heap.size, t.p] = _; rw [HXV.out]) (by simp) (by intro k hk; simp at hk; rcases hk with rfl | rfl; exact L1; exact It1) hW2 (by rw [nodeO0]; exact hW3)
    obtain ⟨L3, B3⟩ := node_in (w := W3) (w1 := W4) (w2 := W5) (B := w.heap.size) (by omega) (n0 4 [] 0) [.node W2.heap.size (n0 3 [] 0) [.node wc.heap.size (n0 1 [118] 0) [], t]] [W2.heap.size] rfl (by simp) (by intro k hk; simp at hk; subst hk; exact L2) hW4 (by rw [nodeO0]; exact hW5)
    obtain ⟨L4, B4⟩ := node_in (w := W5) (w1 := W6) (w2 := W7) (B := w.heap.size) (by omega) (n0 2 [102] 0) [.node W4.heap.size (n0 4 [] 0) [.node W2.heap.size (n0 3 [] 0) [.node wc.heap.size (n0 1 [118] 0) [], t]]] [W4.heap.size] rfl (by simp) (by intro k hk; simp at hk; subst hk; exact L3) hW6 (by rw [nodeO0]; exact hW7)
    have hs : (((⟨#[118, 91]⟩ : ByteArray) ++ T) ++ ⟨#[93, 94, 46, 102]⟩) = ⟨((GT.idx (grow k r).1).tx).toArray⟩ := bytes_of2 (by rw [← HUT.out.1]; simp [bd2, GT.tx])
    have hi : ((1 + u : Nat) : Int) = 1 + (u : Int) := by omega
    refine ⟨_, ?_, bt (bt (bt (bt (bt BAB.out Bc) B1) B2) B3) B4, L4, ?_⟩
    · rw [HG.out]
      simp only
      rw [HUT.out.2, hi, ← hs]
      rfl
    · rw [HG.out]
      show DT.node _ [DT.node _ [DT.node _ [DT.node _ [], t.dt]]] = _
      rw [Dt]; rfl
end Go.Proofs.Ytnaihncmichfaaa
