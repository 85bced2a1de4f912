/- Several texts in one. -/
import Derived.Test.YtldecbaaajmmcaaMsC
import Derived.Test.YtldecbaaajmmcaaMsB
import Derived.Test.YtldecbaaajmmcaaEyU
import Derived.Test.YtldecbaaajmmcaaMsE
/- The document's row of layer 6: factors. -/
namespace Go.Proofs.Ytldecbaaajmmcaa
open Go.RowKit
set_option maxHeartbeats 4000000
set_option maxRecDepth 100000
set_option linter.unusedVariables false
set_option linter.unusedSimpArgs false

theorem qua_dot {d : ND} {x : DT} {l : List DT} (h : d.k = 2) : quaD (.node d (x :: l)) = quaD x ∧ dotsD (.node d (x :: l)) = dotsD x := by
  constructor
  · rw [quaD.eq_def]; simp only [h, if_true]
  · rw [dotsD.eq_def]; simp only [h, if_true]
theorem qua_no {d : ND} {l : List DT} (h : d.k ≠ 2) : quaD (.node d l) = (d.k == 1) ∧ dotsD (.node d l) = true := by
  constructor
  · rw [quaD.eq_def]; simp only [h, if_false]
  · rw [dotsD.eq_def]; simp only [h, if_false]
section
variable (ts : List TK) (E : Nat → Re)
theorem dots_qua : ∀ (m : Nat) (x : DT) (i : Nat) (y : DT) (j : Nat), dotsM ts m x i = .ok y j → quaD x = true → dotsD x = true → quaD y = true ∧ dotsD y = true ∧ isS (tk ts j) [46] = false
  | 0, x, i, y, j, h, _, _ => by cases h
  | m + 1, x, i, y, j, h, hq, hd => by
    unfold dotsM at h
    split at h
    · split at h
      · rename_i z hz
        unfold dotM at hz
        split at hz
        · cases hz
          exact dots_qua m _ (i + 2) y j h (by rw [(qua_dot (by rfl)).1]; exact hq) (by rw [(qua_dot (by rfl)).2]; exact hd)
        · cases hz
      · cases h
    · rename_i hs
      cases h
      exact ⟨hq, hd, by simpa using hs⟩
theorem sel_qua : ∀ (m : Nat) (f : Bool) (x : DT) (i : Nat) (y : DT) (k : Nat), selM ts E m f x i = .ok y k → dotsD x = true →
    dotsD y = true ∧ (quaD x = false → quaD y = false) ∧ (f = true → quaD y = false) ∧ (f = false → isS (tk ts i) [46] = false → (y = x ∧ k = i) ∨ quaD y = false)
  | 0, f, x, i, y, k, h, _ => by cases h
  | m + 1, true, x, i, y, k, h, hd => by
    rw [sel_idx] at h
    have hnode : ∀ e, quaD (.node (nd 3 (tk ts i) [] 0) [x, e]) = false ∧ dotsD (.node (nd 3 (tk ts i) [] 0) [x, e]) = true := fun e => ⟨(qua_no (by show (3 : Nat) ≠ 2; decide)).1, (qua_no (by show (3 : Nat) ≠ 2; decide)).2⟩
    cases hE : E (i + 1) with
    | bad j => rw [hE] at h; cases h
    | out => rw [hE] at h; cases h
    | ok e j =>
      rw [hE] at h
      have h : idxT ts E m (.node (nd 3 (tk ts i) [] 0) [x, e]) j = .ok y k := h
      unfold idxT at h
      split at h
      · obtain ⟨a, b, c, d⟩ := sel_qua m true _ j y k h (hnode e).2
        exact ⟨a, fun _ => c rfl, fun _ => c rfl, by simp⟩
      · split at h
        · obtain ⟨a, b, c, d⟩ := sel_qua m false _ (j + 1) y k h (hnode e).2
          exact ⟨a, fun _ => b (hnode e).1, fun _ => b (hnode e).1, by simp⟩
        · cases h
  | m + 1, false, x, i, y, k, h, hd => by
    cases h1 : isS (tk ts i) [46] with
    | true =>
      rw [sel_dot ts E m x i h1] at h
      split at h
      · rename_i z hz
        unfold dotM at hz
        split at hz
        · cases hz
          have hdn : dotsD (.node (nd 2 (tk ts i) (tk ts (i + 1)).1.x 0) [x]) = true := by rw [(qua_dot (by rfl)).2]; exact hd
          obtain ⟨a, b, c, d⟩ := sel_qua m false _ (i + 2) y k h hdn
          exact ⟨a, fun hq => b (by rw [(qua_dot (by rfl)).1]; exact hq), by simp, by simp⟩
        · cases hz
      · cases h
    | false =>
      cases h2 : isS (tk ts i) [94] with
      | true =>
        rw [sel_up ts E m x i h1 h2] at h
        have hn : quaD (.node (nd 4 (tk ts i) [] 0) [x]) = false ∧ dotsD (.node (nd 4 (tk ts i) [] 0) [x]) = true := ⟨(qua_no (by show (4 : Nat) ≠ 2; decide)).1, (qua_no (by show (4 : Nat) ≠ 2; decide)).2⟩
        obtain ⟨a, b, c, d⟩ := sel_qua m false _ (i + 1) y k h hn.2
        exact ⟨a, fun _ => b hn.1, by simp, fun _ _ => .inr (b hn.1)⟩
      | false =>
        cases h3 : isS (tk ts i) [91] with
        | true =>
          rw [sel_br ts E m x i h1 h2 h3] at h
          obtain ⟨a, b, c, d⟩ := sel_qua m true x i y k h hd
          exact ⟨a, fun _ => c rfl, by simp, fun _ _ => .inr (c rfl)⟩
        | false =>
          rw [sel_end ts E m x i h1 h2 h3] at h
          cases h
          exact ⟨hd, id, by simp, fun _ _ => .inl ⟨rfl, rfl⟩⟩
theorem brace_sel {x : DT} {j : Nat} {m : Nat} (h : isS (tk ts j) [123] = true) : selM ts E (m + 1) false x j = .ok x j := by
  unfold isS at h
  simp only [Bool.and_eq_true, beq_iff_eq] at h
  obtain ⟨hk, hx⟩ := h
  have f : ∀ s, s ≠ [123] → isS (tk ts j) s = false := fun s hs => by
    unfold isS
    rw [hx, beq_eq_false_iff_ne.2 (Ne.symm hs), Bool.and_false]
  exact sel_end ts E m x j (f _ (by decide)) (f _ (by decide)) (f _ (by decide))
theorem brace_paren {j : Nat} (h : isS (tk ts j) [123] = true) : isS (tk ts j) [40] = false := by
  unfold isS at h ⊢
  simp only [Bool.and_eq_true, beq_iff_eq] at h
  rw [h.2]
  simp
theorem nmd_ok {i j : Nat} {d : DT} (h : desM ts E i = .ok d j) : dotsD d = true ∧ (tk ts i).1.k = 1 ∧
    nmdM ts E i = (if isS (tk ts j) [123] = true ∧ quaD d = true then setM ts E (tk ts i) (some d) j else if isS (tk ts j) [40] = true then callM ts E d j else .ok d j) := by
  have hk : (tk ts i).1.k = 1 := by
    by_cases hk : (tk ts i).1.k = 1
    · exact hk
    · rw [des_bad ts E i hk] at h; cases h
  unfold desM at h
  cases hq : qualM ts i with
  | bad a => rw [hq] at h; cases h
  | out => rw [hq] at h; cases h
  | ok x j0 =>
    rw [hq] at h
    have h : selM ts E (2 * ts.length + 2) false x j0 = .ok d j := h
    have hq2 := hq
    unfold qualM at hq2
    rw [if_pos hk] at hq2
    obtain ⟨q1, q2, q3⟩ := dots_qua ts _ _ _ _ _ hq2 (by rw [(qua_no (by show (1 : Nat) ≠ 2; decide)).1]; rfl) (by rw [(qua_no (by show (1 : Nat) ≠ 2; decide)).2])
    obtain ⟨s1, s2, s3, s4⟩ := sel_qua ts E _ _ _ _ _ _ h q2
    refine ⟨s1, hk, ?_⟩
    unfold nmdM
    rw [hq]
    show (if isS (tk ts j0) [123] = true then _ else _) = _
    cases hb : isS (tk ts j0) [123] with
    | true =>
      have h2 := brace_sel ts E (x := x) (m := 2 * ts.length + 1) hb
      have h3 : selM ts E (2 * ts.length + 2) false x j0 = .ok x j0 := h2
      rw [h3] at h
      cases h
      rw [if_pos rfl, if_pos ⟨hb, q1⟩]
    | false =>
      rw [if_neg (by simp), h]
      have hno : ¬ (isS (tk ts j) [123] = true ∧ quaD d = true) := fun ⟨a, b⟩ => by
        rcases s4 rfl q3 with ⟨rfl, rfl⟩ | c
        · rw [hb] at a; cases a
        · rw [b] at c; cases c
      rw [if_neg hno]
theorem nmd_bad {i j : Nat} (hk : (tk ts i).1.k = 1) (h : desM ts E i = .bad j) : nmdM ts E i = .bad j := by
  unfold desM at h
  unfold nmdM
  cases hq : qualM ts i with
  | bad a => rw [hq] at h; exact h
  | out => rw [hq] at h; cases h
  | ok x j0 =>
    rw [hq] at h
    have h : selM ts E (2 * ts.length + 2) false x j0 = .bad j := h
    show (if isS (tk ts j0) [123] = true then _ else _) = _
    cases hb : isS (tk ts j0) [123] with
    | true =>
      have h2 := brace_sel ts E (x := x) (m := 2 * ts.length + 1) hb
      have h3 : selM ts E (2 * ts.length + 2) false x j0 = .ok x j0 := h2
      rw [h3] at h
      cases h
    | false => rw [if_neg (by simp), h]
theorem nmd_out {i : Nat} (h : desM ts E i = .out) : nmdM ts E i = .out := by
  unfold desM at h
  unfold nmdM
  cases hq : qualM ts i with
  | bad a => rw [hq] at h; cases h
  | out => rfl
  | ok x j0 =>
    rw [hq] at h
    have h : selM ts E (2 * ts.length + 2) false x j0 = .out := h
    show (if isS (tk ts j0) [123] = true then _ else _) = _
    cases hb : isS (tk ts j0) [123] with
    | true =>
      have h2 := brace_sel ts E (x := x) (m := 2 * ts.length + 1) hb
      have h3 : selM ts E (2 * ts.length + 2) false x j0 = .ok x j0 := h2
      rw [h3] at h
      cases h
    | false => rw [if_neg (by simp), h]
theorem oper_rest {i : Nat} (h2 : (tk ts i).1.k ≠ 2) (h3 : (tk ts i).1.k ≠ 3) (h4 : (tk ts i).1.k ≠ 4) (hb : isS (tk ts i) [123] = false) (hp : isS (tk ts i) [40] = false) : operM ts E i = if (tk ts i).1.k = 1 then nmdM ts E i else .bad i := by
  unfold operM
  by_cases h1 : (tk ts i).1.k = 1
  · rw [if_pos h1, if_pos h1]
  · rw [if_neg h1, if_neg h2, if_neg h3, if_neg h4, if_neg (by rw [hb]; simp), if_neg (by rw [hp]; simp), if_neg h1]
theorem isS_k {i : Nat} {x : List UInt8} (h : isS (tk ts i) x = true) : (tk ts i).1.k = 5 := by
  unfold isS at h
  simp only [Bool.and_eq_true, beq_iff_eq] at h
  exact h.1
theorem oper_brace {i : Nat} (hb : isS (tk ts i) [123] = true) : operM ts E i = setM ts E (tk ts i) none i := by
  have hk := isS_k ts hb
  unfold operM
  rw [if_neg (by omega), if_neg (by omega), if_neg (by omega), if_neg (by omega), if_pos hb]
theorem oper_paren {i : Nat} (hp : isS (tk ts i) [40] = true) : operM ts E i = (match E (i + 1) with | .ok x j => if isS (tk ts j) [41] then .ok x (j + 1) else .bad j | .bad j => .bad j | .out => .out) := by
  have hk := isS_k ts hp
  have hb : isS (tk ts i) [123] = false := by
    cases h : isS (tk ts i) [123] with
    | false => rfl
    | true => rw [brace_paren ts h] at hp; cases hp
  unfold operM
  rw [if_neg (by omega), if_neg (by omega), if_neg (by omega), if_neg (by omega), if_neg (by rw [hb]; simp), if_pos hp]
  cases E (i + 1) <;> rfl
theorem no_not {i : Nat} (h : (tk ts i).1.k ≠ 6) : isO notT (tk ts i) = false := by
  rw [isNot, beq_eq_false_iff_ne.2 h, Bool.false_and]
end
theorem KJ.setN {C p : Nat} {d : ND} {w : World} {v : Value} (h : KJ C p d w v []) (x : Int) : KJ C p { d with n := x } (w.setCell ⟨p, 3, none⟩ (.int .i64 x)) v [] := by
  have hpv := row_node h.r h.n
  exact ⟨by simp [World.setCell, Array.getElem?_modify, h.n, nodeO], h.r.frame (Fr.set w p 3 _) (fun j hj hm => hpv ((show j = p by simpa using hm) ▸ hj)), trivial, h.hp⟩
theorem KJ.setK {C p : Nat} {d : ND} {w : World} {v : Value} (h : KJ C p d w v []) (k : Nat) (kk : Int) (hk : (k : Int) = kk) : KJ C p { d with k := k } (w.setCell ⟨p, 0, none⟩ (.int .u8 kk)) v [] := by
  have hpv := row_node h.r h.n
  subst hk
  exact ⟨by simp [World.setCell, Array.getElem?_modify, h.n, nodeO], h.r.frame (Fr.set w p 0 _) (fun j hj hm => hpv ((show j = p by simpa using hm) ▸ hj)), trivial, h.hp⟩
/-- Kids that are appended at once. -/
theorem KJ.onL {C p : Nat} {d : ND} {w4 w5 w6 : World} {v : Value} {ts us : List Tr} {N : List Nat} (h : KJ C p d w4 v ts) (F : Fr N w4 w5) (hN : ∀ j ∈ N, j < C) (hC : C ≤ w4.heap.size)
    (hus : IsTL w5 (w4.heap.size ≤ ·) us) (g cap : Nat)
    (hown : w6.ownsRow 0 26 1 (.slice (some ⟨g, 0, none⟩) (ts.length + us.length) cap) (ts.length + us.length) ((ts.map Tr.p).map ptrV ++ (us.map Tr.p).map ptrV)) (hgrow : w5.grownBy w6 v.ownBlock) (hat : v.ownBlock = some g ∨ g = w5.heap.size) :
    KJ C p d (w6.setCell ⟨p, 4, none⟩ (.slice (some ⟨g, 0, none⟩) (ts.length + us.length) cap)) (.slice (some ⟨g, 0, none⟩) (ts.length + us.length) cap) (ts ++ us) := by
  have h5 := h.fr F hN
  have F12 : Fr (obL v) w5 w6 := Fr.of_grown hgrow
  have F3 := Fr.set w6 p 4 (.slice (some ⟨g, 0, none⟩) (ts.length + us.length) cap)
  have hpv := row_node h5.r h5.n
  have n3 : w6.heap[p]? = some (nodeO d v) := (F12.block p (lt_heap h5.n) hpv).trans h5.n
  have hvold : ∀ j ∈ obL v, C ≤ j ∧ j < w4.heap.size := fun j hj => h.r.base j hj
  have hs45 := F.size
  have hgw : C ≤ g ∧ (g ∈ obL v ∨ w5.heap.size ≤ g) := by
    rcases hat with h1 | h1
    · have := (mem_ob v g).2 h1
      exact ⟨(hvold g this).1, .inl this⟩
    · exact ⟨by omega, .inr (by omega)⟩
  have hR3 : Row w6 (C ≤ ·) (.slice (some ⟨g, 0, none⟩) (ts.length + us.length) cap) ((ts ++ us).map Tr.p) := by
    refine ⟨?_, fun k hk => ?_⟩
    · have e1 : ((ts ++ us).map Tr.p).length = ts.length + us.length := by simp
      have e2 : ((ts ++ us).map Tr.p).map ptrV = (ts.map Tr.p).map ptrV ++ (us.map Tr.p).map ptrV := by simp
      rw [e1, e2]
      exact hown
    · obtain rfl : g = k := by simpa [Value.ownBlock] using hk
      exact hgw.1
  have hpg : p ∉ obL (.slice (some ⟨g, 0, none⟩) (ts.length + us.length) cap) := row_node hR3 n3
  have hob : ∀ j, j ∈ obL (.slice (some ⟨g, 0, none⟩) (ts.length + us.length) cap) → j = g := fun j hj => by simpa [obL, Value.ownBlock] using hj
  have F123 : Fr (p :: obL v) w5 (w6.setCell ⟨p, 4, none⟩ (.slice (some ⟨g, 0, none⟩) (ts.length + us.length) cap)) := (F12.mono (fun j hj => List.mem_cons_of_mem _ hj)).trans F3 (fun j hj => .inl (by
    obtain rfl : j = p := by simpa using hj
    exact List.mem_cons_self))
  have hpn4 : p < w4.heap.size := lt_heap h.n
  refine ⟨by simp [World.setCell, Array.getElem?_modify, n3, nodeO], hR3.frame F3 (fun j hj hm => ?_), ?_, h.hp⟩
  · obtain rfl : j = p := by simpa using hm
    exact hpg hj
  · refine IsTL.of fun u hu => ?_
    rcases List.mem_append.1 hu with hu | hu
    · have q1 : ∀ j, (C ≤ j ∧ j ≠ p ∧ j ∉ obL v) → j < w5.heap.size → (C ≤ j ∧ j ≠ p ∧ j ∉ obL (.slice (some ⟨g, 0, none⟩) (ts.length + us.length) cap)) := fun j hj hl => ⟨hj.1, hj.2.1, fun hm => by
        have e := hob j hm
        subst e
        rcases hgw.2 with h1 | h1
        · exact hj.2.2 h1
        · omega⟩
      have q2 : ∀ j, (C ≤ j ∧ j ≠ p ∧ j ∉ obL v) → j < w5.heap.size → (w6.setCell ⟨p, 4, none⟩ (.slice (some ⟨g, 0, none⟩) (ts.length + us.length) cap)).heap[j]? = w5.heap[j]? := fun j hj hl => F123.block j hl (fun hm => by
        rcases List.mem_cons.1 hm with e | hm
        · exact hj.2.1 e
        · exact hj.2.2 hm)
      exact (h5.k.at u hu).keep q1 q2
    · have q1 : ∀ j, w4.heap.size ≤ j → j < w5.heap.size → (C ≤ j ∧ j ≠ p ∧ j ∉ obL (.slice (some ⟨g, 0, none⟩) (ts.length + us.length) cap)) := fun j hj hl => ⟨by omega, by omega, fun hm => by
        have e := hob j hm
        subst e
        rcases hgw.2 with h1 | h1
        · have := (hvold j h1).2; omega
        · omega⟩
      have q2 : ∀ j, w4.heap.size ≤ j → j < w5.heap.size → (w6.setCell ⟨p, 4, none⟩ (.slice (some ⟨g, 0, none⟩) (ts.length + us.length) cap)).heap[j]? = w5.heap[j]? := fun j hj hl => F123.block j hl (fun hm => by
        rcases List.mem_cons.1 hm with e | hm
        · omega
        · have := (hvold j hm).2; omega)
      exact (hus.at u hu).keep q1 q2
theorem fac_num (c : Rc) (E : Nat → Re) (w : World) (i : Nat) (h : RF c w i false) (hk : (tk c.ts i).1.k = 2) : Calls Try.prog 71 #[.pointer (some ⟨c.R, 0, none⟩)] w (Tl c w.heap.size w (facM c.ts E i)) := by
  have hlt : i < c.ts.length := tk_some (by omega)
  have hm : facM c.ts E i = .ok (.node (nd 5 (tk c.ts i) [] (tk c.ts i).1.n) []) (i + 1) := by
    rw [fac_none c.ts E (no_not c.ts (by omega))]
    unfold operM
    rw [if_neg (by omega), if_pos hk]
  rw [hm]
  have hsc := fun w a x y m => store_cx (P := Try.prog) w a .f64 x y m
  obtain ⟨px, py, e1⟩ := posV_cx (tk c.ts i).2.1.1 (tk c.ts i).2.1.2
  obtain ⟨ex, ey, e2⟩ := posV_cx (tk c.ts i).2.2.1 (tk c.ts i).2.2.2
  have HN := dNow_cx c w i false h px py ex ey e1 e2
  obtain ⟨t3, ht3⟩ : ∃ t3, (⟨(tk c.ts i).1.x.toArray⟩ : ByteArray) = t3 := ⟨_, rfl⟩
  have HPX := Lib.hid (And.intro e1 ht3)
  rw [ht3] at HN
  have HT := Lib.hid h
  have hle := h.le
  have hw1 : wrap64 ((i : Int) + 1) = (i : Int) + 1 := w64 _ (by omega) (by omega)
  obtain ⟨t4, ht4⟩ : ∃ t4, (tk c.ts i).1.n = t4 := ⟨_, rfl⟩
  have HT4 := Lib.hid ht4
  rw [ht4] at HN
  rw [hk] at HN
  have hcast : ((2 : Nat) : Int) = 2 := rfl
  rw [hcast] at HN
  obtain ⟨t0, ht0⟩ : ∃ t0 : Int, 2 = t0 := ⟨_, rfl⟩
  have HL := Lib.hid hlt
  clear h hm e1 e2 ht3 ht4 hk hlt hcast ht0
  go_enter Try.func71, Try.ntmps71
  go_wp2_with fail
  refine HN.mono ?_
  rintro e w1 ⟨rfl, F1⟩
  clear HN
  go_upto_region 2 with fail
  obtain ⟨w2, hw2⟩ : ∃ w2, w1.alloc (.cells #[.int .u8 2, .complex .f64 px py, .complex .f64 ex ey, .string t3, .int .i64 t4] 56) = w2 := ⟨_, rfl⟩
  have F2 : Fr [] w1 w2 := by rw [← hw2]; exact Fr.alloc _ _
  have T2 : Fv w2 w1.heap.size (.int .u8 2) (.complex .f64 px py) (.complex .f64 ex ey) (.string t3) (.int .i64 t4) := by rw [← hw2]; exact Fv.new _ _ _ _ _ _ _ _ rfl
  try rw [hw2]
  obtain ⟨tb, htb⟩ : ∃ tb, w1.heap.size = tb := ⟨_, rfl⟩
  rw [htb] at T2
  try rw [htb]
  have HTN : Hid (tb ≠ c.R ∧ w.heap.size ≤ tb) := Lib.hid (by have h1 := HT.out.lt; have h2 := F1.size; omega)
  have X := HT.out.up (F1.on F2)
  have c2 := X.c2
  have d0 := T2.c0
  have H2 := Lib.hid (And.intro (F1.on F2) (And.intro X T2))
  have c1 := X.c1
  have f1 := X.f 1
  have X3 := X.next HL.out
  have H3 := Lib.hid X3
  clear hw2 htb F1 F2 T2 X X3
  go_upto_region 6 with fail
  obtain ⟨w3, hw3⟩ : ∃ w3, w2.setCell ⟨c.R, 1, none⟩ (.int .i64 ((i : Int) + 1)) = w3 := ⟨_, rfl⟩
  have F3 := Fr.set w2 c.R 1 (.int .i64 ((i : Int) + 1))
  rw [hw3] at F3 H3
  try rw [hw3]
  have T3 := H2.out.2.2.fr F3 (by simp; exact HTN.out.1)
  have d1 := T3.c1
  have HNO := dNode_at w3 5 5 rfl (tk c.ts i) [] px py HPX.out.1 ⟨#[]⟩ rfl none none _ _ rfl rfl
  have HF3 := Lib.hid ((H2.out.1.up0 (N := [c.R])).on F3)
  have HT3 := Lib.hid T3
  clear F3 hw3 T3 c1 f1 c2 d0
  simp only [encP] at HNO
  go_wp2_with fail
  refine HNO.mono ?_
  rintro e w5 h5
  obtain ⟨p, v, rfl, F5, hp, hK⟩ := NoV.kj (ts := []) h5 (C := w.heap.size) (Nat.le_trans HF3.out.size (Nat.le_refl _)) (by simp)
  have T5 := HT3.out.fr F5 (by simp)
  have e0 := T5.c0
  have e4 := T5.c4
  have q3 := (NodeAt.mk hK.n).c3
  have g3 := (NodeAt.mk hK.n).f 3
  have HPN : Hid (p ≠ tb ∧ p ≠ c.R ∧ w.heap.size ≤ p) := Lib.hid (by
    have h1 := HT3.out.lt
    have h2 := H3.out.lt
    have h3 := HF3.out.size
    omega)
  have hpt := HPN.out.1
  have H5 := Lib.hid (And.intro F5 (And.intro hK (H3.out.up F5)))
  clear h5 F5 hp hK T5 HNO d1
  simp only [ptrV]
  go_wp2_with fail
  go_ret
  have hK2 := H5.out.2.1.setN t4
  have FS := Fr.set w5 p 3 (.int .i64 t4)
  refine Tl.mk_ok (u := .node p (nd 5 (tk c.ts i) [] t4) []) (j := i + 1) (by rw [HT4.out]; rfl) ((HF3.out.on0 H5.out.1).trans FS (fun j hj => .inr (by simp at hj; have := HPN.out.2.2; omega))) (H5.out.2.2.stay FS (by
    intro j hj
    have h1 := HPN.out.2.2
    have h2 := HT.out.lt
    simp at hj
    omega)) hK2.tree rfl
theorem fac_char (c : Rc) (E : Nat → Re) (w : World) (i : Nat) (h : RF c w i false) (hk : (tk c.ts i).1.k = 3) : Calls Try.prog 71 #[.pointer (some ⟨c.R, 0, none⟩)] w (Tl c w.heap.size w (facM c.ts E i)) := by
  have hlt : i < c.ts.length := tk_some (by omega)
  have hm : facM c.ts E i = .ok (.node (nd 6 (tk c.ts i) [] (tk c.ts i).1.n) []) (i + 1) := by
    rw [fac_none c.ts E (no_not c.ts (by omega))]
    unfold operM
    rw [if_neg (by omega), if_neg (by omega), if_pos hk]
  rw [hm]
  have hsc := fun w a x y m => store_cx (P := Try.prog) w a .f64 x y m
  obtain ⟨px, py, e1⟩ := posV_cx (tk c.ts i).2.1.1 (tk c.ts i).2.1.2
  obtain ⟨ex, ey, e2⟩ := posV_cx (tk c.ts i).2.2.1 (tk c.ts i).2.2.2
  have HN := dNow_cx c w i false h px py ex ey e1 e2
  obtain ⟨t3, ht3⟩ : ∃ t3, (⟨(tk c.ts i).1.x.toArray⟩ : ByteArray) = t3 := ⟨_, rfl⟩
  have HPX := Lib.hid (And.intro e1 ht3)
  rw [ht3] at HN
  have HT := Lib.hid h
  have hle := h.le
  have hw1 : wrap64 ((i : Int) + 1) = (i : Int) + 1 := w64 _ (by omega) (by omega)
  obtain ⟨t4, ht4⟩ : ∃ t4, (tk c.ts i).1.n = t4 := ⟨_, rfl⟩
  have HT4 := Lib.hid ht4
  rw [ht4] at HN
  rw [hk] at HN
  have hcast : ((3 : Nat) : Int) = 3 := rfl
  rw [hcast] at HN
  obtain ⟨t0, ht0⟩ : ∃ t0 : Int, 3 = t0 := ⟨_, rfl⟩
  have HL := Lib.hid hlt
  clear h hm e1 e2 ht3 ht4 hk hlt hcast ht0
  go_enter Try.func71, Try.ntmps71
  go_wp2_with fail
  refine HN.mono ?_
  rintro e w1 ⟨rfl, F1⟩
  clear HN
  go_upto_region 2 with fail
  obtain ⟨w2, hw2⟩ : ∃ w2, w1.alloc (.cells #[.int .u8 3, .complex .f64 px py, .complex .f64 ex ey, .string t3, .int .i64 t4] 56) = w2 := ⟨_, rfl⟩
  have F2 : Fr [] w1 w2 := by rw [← hw2]; exact Fr.alloc _ _
  have T2 : Fv w2 w1.heap.size (.int .u8 3) (.complex .f64 px py) (.complex .f64 ex ey) (.string t3) (.int .i64 t4) := by rw [← hw2]; exact Fv.new _ _ _ _ _ _ _ _ rfl
  try rw [hw2]
  obtain ⟨tb, htb⟩ : ∃ tb, w1.heap.size = tb := ⟨_, rfl⟩
  rw [htb] at T2
  try rw [htb]
  have HTN : Hid (tb ≠ c.R ∧ w.heap.size ≤ tb) := Lib.hid (by have h1 := HT.out.lt; have h2 := F1.size; omega)
  have X := HT.out.up (F1.on F2)
  have c2 := X.c2
  have d0 := T2.c0
  have H2 := Lib.hid (And.intro (F1.on F2) (And.intro X T2))
  have c1 := X.c1
  have f1 := X.f 1
  have X3 := X.next HL.out
  have H3 := Lib.hid X3
  clear hw2 htb F1 F2 T2 X X3
  go_upto_region 6 with fail
  obtain ⟨w3, hw3⟩ : ∃ w3, w2.setCell ⟨c.R, 1, none⟩ (.int .i64 ((i : Int) + 1)) = w3 := ⟨_, rfl⟩
  have F3 := Fr.set w2 c.R 1 (.int .i64 ((i : Int) + 1))
  rw [hw3] at F3 H3
  try rw [hw3]
  have T3 := H2.out.2.2.fr F3 (by simp; exact HTN.out.1)
  have d1 := T3.c1
  have HNO := dNode_at w3 5 5 rfl (tk c.ts i) [] px py HPX.out.1 ⟨#[]⟩ rfl none none _ _ rfl rfl
  have HF3 := Lib.hid ((H2.out.1.up0 (N := [c.R])).on F3)
  have HT3 := Lib.hid T3
  clear F3 hw3 T3 c1 f1 c2 d0
  simp only [encP] at HNO
  go_wp2_with fail
  refine HNO.mono ?_
  rintro e w5 h5
  obtain ⟨p, v, rfl, F5, hp, hK⟩ := NoV.kj (ts := []) h5 (C := w.heap.size) (Nat.le_trans HF3.out.size (Nat.le_refl _)) (by simp)
  have T5 := HT3.out.fr F5 (by simp)
  have e0 := T5.c0
  have e4 := T5.c4
  have q3 := (NodeAt.mk hK.n).c3
  have g3 := (NodeAt.mk hK.n).f 3
  have q0 := (NodeAt.mk hK.n).c0
  have g0 := (NodeAt.mk hK.n).f 0
  have HPN : Hid (p ≠ tb ∧ p ≠ c.R ∧ w.heap.size ≤ p) := Lib.hid (by
    have h1 := HT3.out.lt
    have h2 := H3.out.lt
    have h3 := HF3.out.size
    omega)
  have hpt := HPN.out.1
  have H5 := Lib.hid (And.intro F5 (And.intro hK (H3.out.up F5)))
  clear h5 F5 hp hK T5 HNO d1
  simp only [ptrV]
  go_upto_region 9 with fail
  obtain ⟨w6, hw6⟩ : ∃ w6, w5.setCell ⟨p, 0, none⟩ (.int .u8 6) = w6 := ⟨_, rfl⟩
  have FS0 := Fr.set w5 p 0 (.int .u8 6)
  have K6 := H5.out.2.1.setK 6 6 rfl
  rw [hw6] at FS0 K6
  try rw [hw6]
  have X6 := H5.out.2.2.stay FS0 (by
    intro j hj
    have h1 := HPN.out.2.2
    have h2 := HT.out.lt
    simp at hj
    omega)
  have T6 := (HT3.out.fr H5.out.1 (by simp)).fr FS0 (by simp; exact Ne.symm HPN.out.1)
  have y4 := T6.c4
  have y3 := (NodeAt.mk K6.n).c3
  have z3 := (NodeAt.mk K6.n).f 3
  have H6 := Lib.hid (And.intro FS0 (And.intro K6 X6))
  clear FS0 K6 X6 T6 hw6 q3 g3 q0 g0 e0 e4
  go_wp2_with fail
  go_ret
  have hK2 := H6.out.2.1.setN t4
  have FS := Fr.set w6 p 3 (.int .i64 t4)
  have hfp : ∀ j ∈ [p], j ∈ [c.R] ∨ w.heap.size ≤ j := fun j hj => .inr (by simp at hj; have := HPN.out.2.2; omega)
  refine Tl.mk_ok (u := .node p (nd 6 (tk c.ts i) [] t4) []) (j := i + 1) (by rw [HT4.out]; rfl) (((HF3.out.on0 H5.out.1).trans H6.out.1 hfp).trans FS hfp) (H6.out.2.2.stay FS (by
    intro j hj
    have h1 := HPN.out.2.2
    have h2 := HT.out.lt
    simp at hj
    omega)) hK2.tree rfl
theorem fac_str (c : Rc) (E : Nat → Re) (w : World) (i : Nat) (h : RF c w i false) (hk : (tk c.ts i).1.k = 4) : Calls Try.prog 71 #[.pointer (some ⟨c.R, 0, none⟩)] w (Tl c w.heap.size w (facM c.ts E i)) := by
  have hlt : i < c.ts.length := tk_some (by omega)
  have hm : facM c.ts E i = .ok (.node (nd 7 (tk c.ts i) (tk c.ts i).1.x 0) []) (i + 1) := by
    rw [fac_none c.ts E (no_not c.ts (by omega))]
    unfold operM
    rw [if_neg (by omega), if_neg (by omega), if_neg (by omega), if_pos hk]
  rw [hm]
  have hsc := fun w a x y m => store_cx (P := Try.prog) w a .f64 x y m
  obtain ⟨px, py, e1⟩ := posV_cx (tk c.ts i).2.1.1 (tk c.ts i).2.1.2
  obtain ⟨ex, ey, e2⟩ := posV_cx (tk c.ts i).2.2.1 (tk c.ts i).2.2.2
  have HN := dNow_cx c w i false h px py ex ey e1 e2
  obtain ⟨t3, ht3⟩ : ∃ t3, (⟨(tk c.ts i).1.x.toArray⟩ : ByteArray) = t3 := ⟨_, rfl⟩
  have HPX := Lib.hid (And.intro e1 ht3)
  rw [ht3] at HN
  have HT := Lib.hid h
  have hle := h.le
  have hw1 : wrap64 ((i : Int) + 1) = (i : Int) + 1 := w64 _ (by omega) (by omega)
  obtain ⟨t4, ht4⟩ : ∃ t4, (tk c.ts i).1.n = t4 := ⟨_, rfl⟩
  have HT4 := Lib.hid ht4
  rw [ht4] at HN
  rw [hk] at HN
  have hcast : ((4 : Nat) : Int) = 4 := rfl
  rw [hcast] at HN
  have HL := Lib.hid hlt
  clear h hm e1 e2 ht3 ht4 hk hlt hcast
  go_enter Try.func71, Try.ntmps71
  go_wp2_with fail
  refine HN.mono ?_
  rintro e w1 ⟨rfl, F1⟩
  clear HN
  go_upto_region 2 with fail
  obtain ⟨w2, hw2⟩ : ∃ w2, w1.alloc (.cells #[.int .u8 4, .complex .f64 px py, .complex .f64 ex ey, .string t3, .int .i64 t4] 56) = w2 := ⟨_, rfl⟩
  have F2 : Fr [] w1 w2 := by rw [← hw2]; exact Fr.alloc _ _
  have T2 : Fv w2 w1.heap.size (.int .u8 4) (.complex .f64 px py) (.complex .f64 ex ey) (.string t3) (.int .i64 t4) := by rw [← hw2]; exact Fv.new _ _ _ _ _ _ _ _ rfl
  try rw [hw2]
  obtain ⟨tb, htb⟩ : ∃ tb, w1.heap.size = tb := ⟨_, rfl⟩
  rw [htb] at T2
  try rw [htb]
  have HTN : Hid (tb ≠ c.R ∧ w.heap.size ≤ tb) := Lib.hid (by have h1 := HT.out.lt; have h2 := F1.size; omega)
  have X := HT.out.up (F1.on F2)
  have c2 := X.c2
  have d0 := T2.c0
  have H2 := Lib.hid (And.intro (F1.on F2) (And.intro X T2))
  have c1 := X.c1
  have f1 := X.f 1
  have X3 := X.next HL.out
  have H3 := Lib.hid X3
  clear hw2 htb F1 F2 T2 X X3
  go_upto_region 13 with fail
  obtain ⟨w3, hw3⟩ : ∃ w3, w2.setCell ⟨c.R, 1, none⟩ (.int .i64 ((i : Int) + 1)) = w3 := ⟨_, rfl⟩
  have F3 := Fr.set w2 c.R 1 (.int .i64 ((i : Int) + 1))
  rw [hw3] at F3 H3
  try rw [hw3]
  have T3 := H2.out.2.2.fr F3 (by simp; exact HTN.out.1)
  have d1 := T3.c1
  have d3 := T3.c3
  have HNO := dNode_at w3 7 7 rfl (tk c.ts i) (tk c.ts i).1.x px py HPX.out.1 t3 HPX.out.2 none none _ _ rfl rfl
  have HF3 := Lib.hid ((H2.out.1.up0 (N := [c.R])).on F3)
  clear F3 hw3 T3 c1 f1 c2 d0
  simp only [encP] at HNO
  go_wp2_with fail
  refine HNO.mono ?_
  rintro e w5 h5
  obtain ⟨p, v, rfl, F5, hp, hK⟩ := NoV.kj (ts := []) h5 (C := w.heap.size) HF3.out.size (by simp)
  have H5 := Lib.hid (And.intro F5 (And.intro hK (H3.out.up F5)))
  clear h5 F5 hp hK HNO d1 d3
  simp only [ptrV]
  go_wp2_with fail
  go_ret
  exact Tl.mk_ok (u := .node p (nd 7 (tk c.ts i) (tk c.ts i).1.x 0) []) (j := i + 1) rfl (HF3.out.on0 H5.out.1) H5.out.2.2 H5.out.2.1.tree rfl
theorem fac_brace (c : Rc) (E : Nat → Re) (hM : Mono E) (hE : CG c 15 E) (w : World) (i : Nat) (h : RF c w i false) (hb : isS (tk c.ts i) [123] = true) (hne : facM c.ts E i ≠ .out) : Calls Try.prog 71 #[.pointer (some ⟨c.R, 0, none⟩)] w (Tl c w.heap.size w (facM c.ts E i)) := by
  have hk := isS_k c.ts hb
  have hm : facM c.ts E i = (withM c.ts [125] (elemM c.ts E) i).re fun l => .node (nd 8 (tk c.ts i) [] 0) (dt0 :: l) := by
    rw [fac_none c.ts E (no_not c.ts (by omega)), oper_brace c.ts E hb]
    rfl
  rw [hm] at hne ⊢
  have hne2 : withM c.ts [125] (elemM c.ts E) i ≠ .out := fun e => hne (by rw [e]; rfl)
  have hsc := fun w a x y m => store_cx (P := Try.prog) w a .f64 x y m
  obtain ⟨px, py, e1⟩ := posV_cx (tk c.ts i).2.1.1 (tk c.ts i).2.1.2
  obtain ⟨ex, ey, e2⟩ := posV_cx (tk c.ts i).2.2.1 (tk c.ts i).2.2.2
  have HN := dNow_cx c w i false h px py ex ey e1 e2
  obtain ⟨t3, ht3⟩ : ∃ t3, (⟨(tk c.ts i).1.x.toArray⟩ : ByteArray) = t3 := ⟨_, rfl⟩
  have HPX := Lib.hid (And.intro e1 ht3)
  rw [ht3] at HN
  have HT := Lib.hid h
  have hle := h.le
  have hw1 : wrap64 ((i : Int) + 1) = (i : Int) + 1 := w64 _ (by omega) (by omega)
  obtain ⟨t4, ht4⟩ : ∃ t4, (tk c.ts i).1.n = t4 := ⟨_, rfl⟩
  have HT4 := Lib.hid ht4
  rw [ht4] at HN
  obtain ⟨t0, ht0⟩ : ∃ t0 : Int, ((tk c.ts i).1.k : Int) = t0 := ⟨_, rfl⟩
  rw [ht0] at HN
  have g2 : (t0 == 2) = false := by rw [← ht0]; exact beq_eq_false_iff_ne.2 (by omega)
  have g3 : (t0 == 3) = false := by rw [← ht0]; exact beq_eq_false_iff_ne.2 (by omega)
  have g4 : (t0 == 4) = false := by rw [← ht0]; exact beq_eq_false_iff_ne.2 (by omega)
  have HB := Lib.hid (And.intro hb hne2)
  have HSET := Lib.hid (fun w h px py e1 C hR hC u hu => dSet_any c E hM hE w i h (tk c.ts i) px py e1 C hR hC u hu hb hne2)
  clear h hm e1 e2 ht3 ht4 hk ht0 hb hne hne2 hM hE
  go_enter Try.func71, Try.ntmps71
  go_wp2_with fail
  refine HN.mono ?_
  rintro e w1 ⟨rfl, F1⟩
  clear HN
  go_upto_region 2 with fail
  obtain ⟨w2, hw2⟩ : ∃ w2, w1.alloc (.cells #[.int .u8 t0, .complex .f64 px py, .complex .f64 ex ey, .string t3, .int .i64 t4] 56) = w2 := ⟨_, rfl⟩
  have F2 : Fr [] w1 w2 := by rw [← hw2]; exact Fr.alloc _ _
  have T2 : Fv w2 w1.heap.size (.int .u8 t0) (.complex .f64 px py) (.complex .f64 ex ey) (.string t3) (.int .i64 t4) := by rw [← hw2]; exact Fv.new _ _ _ _ _ _ _ _ rfl
  try rw [hw2]
  obtain ⟨tb, htb⟩ : ∃ tb, w1.heap.size = tb := ⟨_, rfl⟩
  rw [htb] at T2
  try rw [htb]
  have HTN : Hid (tb ≠ c.R ∧ w.heap.size ≤ tb) := Lib.hid (by have h1 := HT.out.lt; have h2 := F1.size; omega)
  have X := HT.out.up (F1.on F2)
  have c2 := X.c2
  have d0 := T2.c0
  have H2 := Lib.hid (And.intro (F1.on F2) (And.intro X T2))
  have HS := dSym_any c w2 i false [123] X
  clear hw2 htb F1 F2 T2 X
  simp only [pt] at HS
  rw [HB.out.1] at HS
  go_wp2_with fail
  refine HS.mono ?_
  rintro e w3 ⟨rfl, F3⟩
  have X3 := H2.out.2.1.up F3
  have T3 := H2.out.2.2.fr F3 (by simp)
  have d1 := T3.c1
  have H3 := Lib.hid (And.intro (H2.out.1.on F3) X3)
  clear F3 X3 T3 HS c2 d0
  have FA := Fr.alloc w3 (.cells #[.int .u8 0, .complex .f64 0 0, .string ⟨#[]⟩, .int .i64 0, .slice none 0 0] 36)
  have hu : IsT (w3.alloc (.cells #[.int .u8 0, .complex .f64 0 0, .string ⟨#[]⟩, .int .i64 0, .slice none 0 0] 36)) (w.heap.size ≤ ·) (.node w3.heap.size d0 []) :=
    ⟨H3.out.1.size, ⟨.slice none 0 0, heap_alloc_new _ _, ⟨World.ownsRow_nil _ _ _ _, fun g hg => (by cases hg)⟩⟩, trivial⟩
  have HC := HSET.out _ (H3.out.2.up FA) px py HPX.out.1 w.heap.size HT.out.lt (Nat.le_trans H3.out.1.size FA.size) _ hu
  have HFA := Lib.hid FA
  clear FA hu
  simp only [Tr.p] at HC
  go_wp2_with fail
  refine HC.mono ?_
  rintro e w4 ⟨o, rfl, F4, hres⟩
  obtain ⟨ov, hov⟩ : ∃ ov, encP o = ov := ⟨_, rfl⟩
  rw [hov]
  have H4 := Lib.hid (And.intro F4 (And.intro hres hov))
  clear F4 hres hov HC
  go_wp2_with fail
  go_ret
  refine ⟨o, by rw [H4.out.2.2]; rfl, ((H3.out.1.on HFA.out).up0).on H4.out.1, H4.out.2.1⟩
theorem fac_paren (c : Rc) (E : Nat → Re) (hE : CG c 15 E) (w : World) (i : Nat) (h : RF c w i false) (hp : isS (tk c.ts i) [40] = true) (hne : facM c.ts E i ≠ .out) : Calls Try.prog 71 #[.pointer (some ⟨c.R, 0, none⟩)] w (Tl c w.heap.size w (facM c.ts E i)) := by
  have hk := isS_k c.ts hp
  have hb : isS (tk c.ts i) [123] = false := by
    cases h : isS (tk c.ts i) [123] with
    | false => rfl
    | true => rw [brace_paren c.ts h] at hp; cases hp
  obtain ⟨RES, hRES⟩ : ∃ RES, facM c.ts E i = RES := ⟨_, rfl⟩
  have hm : RES = (match E (i + 1) with | .ok x j => if isS (tk c.ts j) [41] then .ok x (j + 1) else .bad j | .bad j => .bad j | .out => .out) := by
    rw [← hRES, fac_none c.ts E (no_not c.ts (by omega)), oper_paren c.ts E hp]
  rw [hRES] at hne ⊢
  have hE2 : E (i + 1) ≠ .out := fun e => hne (by rw [hm, e])
  have hsc := fun w a x y m => store_cx (P := Try.prog) w a .f64 x y m
  obtain ⟨px, py, e1⟩ := posV_cx (tk c.ts i).2.1.1 (tk c.ts i).2.1.2
  obtain ⟨ex, ey, e2⟩ := posV_cx (tk c.ts i).2.2.1 (tk c.ts i).2.2.2
  have HN := dNow_cx c w i false h px py ex ey e1 e2
  obtain ⟨t3, ht3⟩ : ∃ t3, (⟨(tk c.ts i).1.x.toArray⟩ : ByteArray) = t3 := ⟨_, rfl⟩
  have HPX := Lib.hid (And.intro e1 ht3)
  rw [ht3] at HN
  have HT := Lib.hid h
  have hle := h.le
  have hw1 : wrap64 ((i : Int) + 1) = (i : Int) + 1 := w64 _ (by omega) (by omega)
  obtain ⟨t4, ht4⟩ : ∃ t4, (tk c.ts i).1.n = t4 := ⟨_, rfl⟩
  have HT4 := Lib.hid ht4
  rw [ht4] at HN
  obtain ⟨t0, ht0⟩ : ∃ t0 : Int, ((tk c.ts i).1.k : Int) = t0 := ⟨_, rfl⟩
  rw [ht0] at HN
  have g2 : (t0 == 2) = false := by rw [← ht0]; exact beq_eq_false_iff_ne.2 (by omega)
  have g3 : (t0 == 3) = false := by rw [← ht0]; exact beq_eq_false_iff_ne.2 (by omega)
  have g4 : (t0 == 4) = false := by rw [← ht0]; exact beq_eq_false_iff_ne.2 (by omega)
  have HB := Lib.hid (And.intro hb (And.intro hp (And.intro hm hE2)))
  have HE := Lib.hid hE
  clear h hm e1 e2 ht3 ht4 hk ht0 hb hp hne hE2 hE hRES
  go_enter Try.func71, Try.ntmps71
  go_wp2_with fail
  refine HN.mono ?_
  rintro e w1 ⟨rfl, F1⟩
  clear HN
  go_upto_region 2 with fail
  obtain ⟨w2, hw2⟩ : ∃ w2, w1.alloc (.cells #[.int .u8 t0, .complex .f64 px py, .complex .f64 ex ey, .string t3, .int .i64 t4] 56) = w2 := ⟨_, rfl⟩
  have F2 : Fr [] w1 w2 := by rw [← hw2]; exact Fr.alloc _ _
  have T2 : Fv w2 w1.heap.size (.int .u8 t0) (.complex .f64 px py) (.complex .f64 ex ey) (.string t3) (.int .i64 t4) := by rw [← hw2]; exact Fv.new _ _ _ _ _ _ _ _ rfl
  try rw [hw2]
  obtain ⟨tb, htb⟩ : ∃ tb, w1.heap.size = tb := ⟨_, rfl⟩
  rw [htb] at T2
  try rw [htb]
  have HTN : Hid (tb ≠ c.R ∧ w.heap.size ≤ tb) := Lib.hid (by have h1 := HT.out.lt; have h2 := F1.size; omega)
  have X := HT.out.up (F1.on F2)
  have c2 := X.c2
  have d0 := T2.c0
  have H2 := Lib.hid (And.intro (F1.on F2) (And.intro X T2))
  have HS := dSym_any c w2 i false [123] X
  clear hw2 htb F1 F2 T2 X
  simp only [pt] at HS
  rw [HB.out.1] at HS
  go_wp2_with fail
  refine HS.mono ?_
  rintro e w3 ⟨rfl, F3⟩
  have HS := dEat_hit c w3 i [40] (H2.out.2.1.up F3) HB.out.2.1
  have H3 := Lib.hid (H2.out.1.on F3)
  clear F3 c2 d0
  simp only [pt] at HS
  go_wp2_with fail
  refine HS.mono ?_
  rintro e w4 ⟨rfl, F4, X4⟩
  have HC := HE.out w4 (i + 1) X4 HB.out.2.2.2
  have H4 := Lib.hid ((H3.out.up0 (N := [c.R])).on F4)
  clear F4 X4 HS H3 H2
  go_wp2_with fail
  refine HC.mono ?_
  rintro e w5 ⟨o, rfl, F5, ⟨d, j, u, hr, rfl, X, hT, hd⟩ | ⟨j, hr, X⟩⟩
  · have hm2 : RES = if isS (tk c.ts j) [41] = true then .ok d (j + 1) else .bad j := by rw [HB.out.2.2.1, hr]
    have H5 := Lib.hid (And.intro (H4.out.on F5) (And.intro hT hd))
    have hs : w.heap.size ≤ w4.heap.size := H4.out.size
    have HSZ := Lib.hid hs
    clear F5 hT hd hr HC hs
    cases hq : isS (tk c.ts j) [41]
    · have HQ := dNeed_miss c w5 j false [41] X (by rw [hq]; rfl)
      rw [if_neg (by rw [hq]; simp)] at hm2
      have HM2 := Lib.hid hm2
      clear X hq hm2
      simp only [pt, encP, ptrV] at HQ ⊢
      go_wp2_with fail
      refine HQ.mono ?_
      rintro e w6 ⟨rfl, F6, X6⟩
      have H6 := Lib.hid (And.intro F6 X6)
      clear F6 X6 HQ
      go_wp2_with fail
      go_ret
      exact Tl.mk_bad (o := some u.p) rfl HM2.out (H5.out.1.on H6.out.1) H6.out.2
    · have HQ := dNeed_hit c w5 j [41] X hq
      rw [if_pos hq] at hm2
      have HM2 := Lib.hid hm2
      clear X hq hm2
      simp only [pt, encP, ptrV] at HQ ⊢
      go_wp2_with fail
      refine HQ.mono ?_
      rintro e w6 ⟨rfl, F6, X6⟩
      have H6 := Lib.hid (And.intro F6 X6)
      clear F6 X6 HQ
      go_wp2_with fail
      go_ret
      exact Tl.mk_ok HM2.out (H5.out.1.on H6.out.1) H6.out.2 (ist_low (ist_fr H5.out.2.1 H6.out.1 (by have h1 := HT.out.lt; have h2 := HSZ.out; simp; omega)) HSZ.out) H5.out.2.2
  · have hm2 : RES = .bad j := by rw [HB.out.2.2.1, hr]
    obtain ⟨ov, hov⟩ : ∃ ov, encP o = ov := ⟨_, rfl⟩
    rw [hov]
    have HQ := dNeed_miss c w5 j true [41] X rfl
    have H5 := Lib.hid (And.intro (H4.out.on F5) (And.intro hm2 hov))
    clear F5 hr X hm2 hov HC
    simp only [pt] at HQ
    go_wp2_with fail
    refine HQ.mono ?_
    rintro e w6 ⟨rfl, F6, X6⟩
    have H6 := Lib.hid (And.intro F6 X6)
    clear F6 X6 HQ
    go_wp2_with fail
    go_ret
    exact Tl.mk_bad H5.out.2.2 H5.out.2.1 (H5.out.1.on H6.out.1) H6.out.2
theorem un_next {c : Rc} {G : Nat → Re} {w0 w1 w2 w3 : World} {i : Nat} {o : Option Nat} {e : Ending} {x : List UInt8} {RES : Re} (hs : w0.heap.size ≤ w1.heap.size) (F1 : Fr [c.R] w0 w1) (F2 : Fr [c.R] w1 w2) (hres : Itm c G (i + 1) w1 w2 o)
    (hun : RES = (match G (i + 1) with | .ok y j => .ok (.node (nd 12 (tk c.ts i) x 0) [y]) j | .bad j => .bad j | .out => .out))
    (hN : NoV w2 (nd 12 (tk c.ts i) x 0) (o.toList ++ (none : Option Nat).toList) e w3) : ∃ p, e = .returned (.pointer (some ⟨p, 0, none⟩)) ∧ Tl c w0.heap.size w0 RES (.returned (.pointer (some ⟨p, 0, none⟩))) w3 := by
  have hs2 := F2.size
  rcases hres with ⟨d, j, v, hE, rfl, X, hv, hd⟩ | ⟨j, hE, X⟩
  · obtain ⟨p, vv, rfl, F3, hp, hK⟩ := NoV.kj (ts := [v]) hN (C := w0.heap.size) (by omega) (by simpa using ist_low hv hs)
    refine ⟨p, rfl, Tl.mk_ok (u := .node p (nd 12 (tk c.ts i) x 0) [v]) (j := j) ?_ ((F1.on F2).on0 F3) (X.up F3) hK.tree rfl⟩
    rw [hun, hE, ← hd]
    rfl
  · obtain ⟨p, vv, rfl, F3, hp, _⟩ := hN
    exact ⟨p, rfl, Tl.mk_bad (o := some p) (j := j) rfl (by rw [hun, hE]) ((F1.on F2).on0 F3) (X.up F3)⟩
theorem fac_nots (c : Rc) (E : Nat → Re) (w : World) (i : Nat) (h : RF c w i false) (hn : isO notT (tk c.ts i) = true) (hF : ∀ w', RF c w' (i + 1) false → Calls Try.prog 71 #[.pointer (some ⟨c.R, 0, none⟩)] w' (Tl c w'.heap.size w' (facM c.ts E (i + 1)))) : Calls Try.prog 71 #[.pointer (some ⟨c.R, 0, none⟩)] w (Tl c w.heap.size w (facM c.ts E i)) := by
  have hn2 := hn
  rw [isNot] at hn2
  simp only [Bool.and_eq_true, beq_iff_eq] at hn2
  obtain ⟨hk, hx⟩ := hn2
  have hb : isS (tk c.ts i) [123] = false := by unfold isS; rw [beq_eq_false_iff_ne.2 (by omega), Bool.false_and]
  have hp : isS (tk c.ts i) [40] = false := by unfold isS; rw [beq_eq_false_iff_ne.2 (by omega), Bool.false_and]
  have hW : isW (tk c.ts i) [78, 79, 84] = true := by unfold isW; rw [hk, hx]; rfl
  obtain ⟨RES, hRES⟩ : ∃ RES, facM c.ts E i = RES := ⟨_, rfl⟩
  have hm : RES = (match facM c.ts E (i + 1) with | .ok y j => .ok (.node (nd 12 (tk c.ts i) [78, 79, 84] 0) [y]) j | .bad j => .bad j | .out => .out) := by
    rw [← hRES, fac_not c.ts E hn, hx]
    cases facM c.ts E (i + 1) <;> rfl
  rw [hRES]
  have hsc := fun w a x y m => store_cx (P := Try.prog) w a .f64 x y m
  obtain ⟨px, py, e1⟩ := posV_cx (tk c.ts i).2.1.1 (tk c.ts i).2.1.2
  obtain ⟨ex, ey, e2⟩ := posV_cx (tk c.ts i).2.2.1 (tk c.ts i).2.2.2
  have HN := dNow_cx c w i false h px py ex ey e1 e2
  obtain ⟨t3, ht3⟩ : ∃ t3, (⟨(tk c.ts i).1.x.toArray⟩ : ByteArray) = t3 := ⟨_, rfl⟩
  have HPX := Lib.hid (And.intro e1 ht3)
  rw [ht3] at HN
  have HT := Lib.hid h
  have hle := h.le
  have hw1 : wrap64 ((i : Int) + 1) = (i : Int) + 1 := w64 _ (by omega) (by omega)
  obtain ⟨t4, ht4⟩ : ∃ t4, (tk c.ts i).1.n = t4 := ⟨_, rfl⟩
  have HT4 := Lib.hid ht4
  rw [ht4] at HN
  obtain ⟨t0, ht0⟩ : ∃ t0 : Int, ((tk c.ts i).1.k : Int) = t0 := ⟨_, rfl⟩
  rw [ht0] at HN
  have g2 : (t0 == 2) = false := by rw [← ht0]; exact beq_eq_false_iff_ne.2 (by omega)
  have g3 : (t0 == 3) = false := by rw [← ht0]; exact beq_eq_false_iff_ne.2 (by omega)
  have g4 : (t0 == 4) = false := by rw [← ht0]; exact beq_eq_false_iff_ne.2 (by omega)
  have HB := Lib.hid (And.intro hb (And.intro hp (And.intro hW hm)))
  have HF := Lib.hid hF
  clear h hm e1 e2 ht3 ht4 hk ht0 hb hp hn hx hW hF hRES
  go_enter Try.func71, Try.ntmps71
  go_wp2_with fail
  refine HN.mono ?_
  rintro e w1 ⟨rfl, F1⟩
  clear HN
  go_upto_region 2 with fail
  obtain ⟨w2, hw2⟩ : ∃ w2, w1.alloc (.cells #[.int .u8 t0, .complex .f64 px py, .complex .f64 ex ey, .string t3, .int .i64 t4] 56) = w2 := ⟨_, rfl⟩
  have F2 : Fr [] w1 w2 := by rw [← hw2]; exact Fr.alloc _ _
  have T2 : Fv w2 w1.heap.size (.int .u8 t0) (.complex .f64 px py) (.complex .f64 ex ey) (.string t3) (.int .i64 t4) := by rw [← hw2]; exact Fv.new _ _ _ _ _ _ _ _ rfl
  try rw [hw2]
  obtain ⟨tb, htb⟩ : ∃ tb, w1.heap.size = tb := ⟨_, rfl⟩
  rw [htb] at T2
  try rw [htb]
  have HTN : Hid (tb ≠ c.R ∧ w.heap.size ≤ tb) := Lib.hid (by have h1 := HT.out.lt; have h2 := F1.size; omega)
  have X := HT.out.up (F1.on F2)
  have c2 := X.c2
  have d0 := T2.c0
  have H2 := Lib.hid (And.intro (F1.on F2) (And.intro X T2))
  have HS := dSym_any c w2 i false [123] X
  clear hw2 htb F1 F2 T2 X
  simp only [pt] at HS
  rw [HB.out.1] at HS
  go_wp2_with fail
  refine HS.mono ?_
  rintro e w3 ⟨rfl, F3⟩
  have HS := dEat_miss c w3 i false [40] (H2.out.2.1.up F3) (by rw [HB.out.2.1]; rfl)
  have H3 := Lib.hid F3
  clear F3 c2 d0
  simp only [pt] at HS
  go_wp2_with fail
  refine HS.mono ?_
  rintro e w4 ⟨rfl, F4⟩
  have HS := dEatWord_hit c w4 i [78, 79, 84] ((H2.out.2.1.up H3.out).up F4) HB.out.2.2.1
  have H4 := Lib.hid (H3.out.on F4)
  clear F4 H3
  simp only [pt] at HS
  go_wp2_with fail
  refine HS.mono ?_
  rintro e w5 ⟨rfl, F5, X5⟩
  have HX := Lib.hid X5
  have HTB := Lib.hid ((H2.out.2.2.fr H4.out (by simp)).fr F5 (by simp; exact HTN.out.1))
  have HF05 := Lib.hid ((H2.out.1.on H4.out).up0.on F5)
  clear F5 X5 HS H2 H4
  have d1 := HTB.out.c1
  have HSS : ∀ w' : World, Fr [c.R] w5 w' → w'.cell? ⟨tb, 1, none⟩ = some (.complex .f64 px py) := fun w' F => (HTB.out.fr F (by simp; exact HTN.out.1)).c1
  have HR : ∀ w1 : World, Fr [] w5 w1 → Calls Try.prog 71 #[.pointer (some ⟨c.R, 0, none⟩)] w1 fun e wz => ∃ o a, encP o = .pointer a ∧ e = .returned (.pointer a) ∧ Fr [c.R] w5 wz ∧ Itm c (facM c.ts E) (i + 1) w5 wz o := fun w1 F1 => by
    refine (HF.out w1 (HX.out.up F1)).mono ?_
    rintro e wz ⟨o, rfl, F, hres⟩
    obtain ⟨a, ha⟩ := encP_cases o
    refine ⟨o, a, ha, by rw [ha], F1.up0.on F, ?_⟩
    rcases hres with ⟨d, j, u, h1, h2, h3, h4, h5⟩ | h
    · exact .inl ⟨d, j, u, h1, h2, h3, ist_low h4 F1.size, h5⟩
    · exact .inr h
  have HNN : ∀ (wz : World) (o : Option Nat) (a : Option Addr), encP o = .pointer a → Calls Try.prog 33 #[.int .u8 12, .complex .f64 px py, .string ⟨#[78, 79, 84]⟩, .pointer a, .pointer none] wz (NoV wz (nd 12 (tk c.ts i) [78, 79, 84] 0) (o.toList ++ (none : Option Nat).toList)) := fun wz o a ha => dNode_at wz 12 12 rfl (tk c.ts i) [78, 79, 84] px py HPX.out.1 ⟨#[78, 79, 84]⟩ rfl o none _ _ ha rfl
  have F0 : Fr [] w5 w5.drew := Fr.drew w5
  go_wp2_with fail
  go_region_law (first
      | (go_simp; go_at_call 71; refine (HR _ F0).mono ?_; rintro e w9 ⟨o, a, ha, rfl, F9, hres⟩; have t1 := HSS w9 F9)
      | (go_simp; go_at_call 33; refine (HNN _ o a ha).mono ?_; rintro e w10 hN; obtain ⟨p10, rfl, hfin⟩ := un_next HF05.out.size HF05.out F9 hres HB.out.2.2.2 hN))
  all_goals
    have HFIN := Lib.hid hfin
    clear hN ha F9 hres HR HNN HSS F0 t1 d1 hfin
    go_simp
    go_wp2_with fail
    go_ret
    exact HFIN.out
end Go.Proofs.Ytldecbaaajmmcaa
/- The document's row of layer 6: factors that begin with a designator; the knot. -/
namespace Go.Proofs.Ytldecbaaajmmcaa
open Go.RowKit
set_option maxHeartbeats 4000000
set_option maxRecDepth 100000
set_option linter.unusedVariables false
set_option linter.unusedSimpArgs false

/-- What a factor is that begins with a designator. -/
theorem fac_des (c : Rc) (E : Nat → Re) (i : Nat) (h2 : (tk c.ts i).1.k ≠ 2) (h3 : (tk c.ts i).1.k ≠ 3) (h4 : (tk c.ts i).1.k ≠ 4) (hb : isS (tk c.ts i) [123] = false) (hp : isS (tk c.ts i) [40] = false) (hn : isO notT (tk c.ts i) = false) :
    (∀ j, desM c.ts E i = .bad j → facM c.ts E i = .bad j) ∧ (desM c.ts E i = .out → facM c.ts E i = .out) ∧ ∀ d j, desM c.ts E i = .ok d j → dotsD d = true ∧
      facM c.ts E i = (if isS (tk c.ts j) [123] = true ∧ quaD d = true then setM c.ts E (tk c.ts i) (some d) j else if isS (tk c.ts j) [40] = true then callM c.ts E d j else .ok d j) := by
  rw [fac_none c.ts E hn, oper_rest c.ts E h2 h3 h4 hb hp]
  refine ⟨fun j hd => ?_, fun hd => ?_, fun d j hd => ?_⟩
  · by_cases hk : (tk c.ts i).1.k = 1
    · rw [if_pos hk]; exact nmd_bad c.ts E hk hd
    · rw [if_neg hk]
      rw [des_bad c.ts E i hk] at hd
      exact hd
  · by_cases hk : (tk c.ts i).1.k = 1
    · rw [if_pos hk]; exact nmd_out c.ts E hd
    · rw [des_bad c.ts E i hk] at hd; cases hd
  · obtain ⟨a, hk, b⟩ := nmd_ok c.ts E hd
    rw [if_pos hk]
    exact ⟨a, b⟩
theorem fac_rest (c : Rc) (E : Nat → Re) (hM : Mono E) (hE : CG c 15 E) (w : World) (i : Nat) (h : RF c w i false) (h2 : (tk c.ts i).1.k ≠ 2) (h3 : (tk c.ts i).1.k ≠ 3) (h4 : (tk c.ts i).1.k ≠ 4) (hb : isS (tk c.ts i) [123] = false) (hp : isS (tk c.ts i) [40] = false) (hn : isO notT (tk c.ts i) = false) (hne : facM c.ts E i ≠ .out) :
    Calls Try.prog 71 #[.pointer (some ⟨c.R, 0, none⟩)] w (Tl c w.heap.size w (facM c.ts E i)) := by
  have hW : isW (tk c.ts i) [78, 79, 84] = false := by rw [← hn, isNot]; rfl
  have hfd := field1
  obtain ⟨i0, hi, hz0, hz1, hz2⟩ := info_parts infoP
  have HFD := Lib.hid (fac_des c E i h2 h3 h4 hb hp hn)
  have hD : desM c.ts E i ≠ .out := fun e => hne (HFD.out.2.1 e)
  obtain ⟨RES, hRES⟩ : ∃ RES, facM c.ts E i = RES := ⟨_, rfl⟩
  rw [hRES] at HFD hne ⊢
  have hsc := fun w a x y m => store_cx (P := Try.prog) w a .f64 x y m
  obtain ⟨px, py, e1⟩ := posV_cx (tk c.ts i).2.1.1 (tk c.ts i).2.1.2
  obtain ⟨ex, ey, e2⟩ := posV_cx (tk c.ts i).2.2.1 (tk c.ts i).2.2.2
  have HN := dNow_cx c w i false h px py ex ey e1 e2
  obtain ⟨t3, ht3⟩ : ∃ t3, (⟨(tk c.ts i).1.x.toArray⟩ : ByteArray) = t3 := ⟨_, rfl⟩
  have HPX := Lib.hid (And.intro e1 ht3)
  rw [ht3] at HN
  have HT := Lib.hid h
  have hle := h.le
  have hw1 : wrap64 ((i : Int) + 1) = (i : Int) + 1 := w64 _ (by omega) (by omega)
  obtain ⟨t4, ht4⟩ : ∃ t4, (tk c.ts i).1.n = t4 := ⟨_, rfl⟩
  have HT4 := Lib.hid ht4
  rw [ht4] at HN
  obtain ⟨t0, ht0⟩ : ∃ t0 : Int, ((tk c.ts i).1.k : Int) = t0 := ⟨_, rfl⟩
  rw [ht0] at HN
  have g2 : (t0 == 2) = false := by rw [← ht0]; exact beq_eq_false_iff_ne.2 (by omega)
  have g3 : (t0 == 3) = false := by rw [← ht0]; exact beq_eq_false_iff_ne.2 (by omega)
  have g4 : (t0 == 4) = false := by rw [← ht0]; exact beq_eq_false_iff_ne.2 (by omega)
  have HB := Lib.hid (And.intro hb (And.intro hp (And.intro hW hD)))
  have HDES := Lib.hid (dDes_any c E hM hE)
  have HSET := Lib.hid (fun w j h px py e1 C hR hC u hu hb hne => dSet_any c E hM hE w j h (tk c.ts i) px py e1 C hR hC u hu hb hne)
  have HARN := Lib.hid (fun w j h hb hq => dArgs_none c w j h hb hq)
  have HARS := Lib.hid (fun w j h hb hq hne => dArgs_some c E hM hE w j h hb hq hne)
  have HNE := Lib.hid hne
  clear h e1 e2 ht3 ht4 h2 h3 h4 ht0 hb hp hn hW hE hRES hD hne hM
  go_enter Try.func71, Try.ntmps71
  go_wp2_with fail
  refine HN.mono ?_
  rintro e w1 ⟨rfl, F1⟩
  clear HN
  go_upto_region 2 with fail
  obtain ⟨w2, hw2⟩ : ∃ w2, w1.alloc (.cells #[.int .u8 t0, .complex .f64 px py, .complex .f64 ex ey, .string t3, .int .i64 t4] 56) = w2 := ⟨_, rfl⟩
  have F2 : Fr [] w1 w2 := by rw [← hw2]; exact Fr.alloc _ _
  have T2 : Fv w2 w1.heap.size (.int .u8 t0) (.complex .f64 px py) (.complex .f64 ex ey) (.string t3) (.int .i64 t4) := by rw [← hw2]; exact Fv.new _ _ _ _ _ _ _ _ rfl
  try rw [hw2]
  obtain ⟨tb, htb⟩ : ∃ tb, w1.heap.size = tb := ⟨_, rfl⟩
  rw [htb] at T2
  try rw [htb]
  have HTN : Hid (tb ≠ c.R ∧ w.heap.size ≤ tb) := Lib.hid (by have h1 := HT.out.lt; have h2 := F1.size; omega)
  have X := HT.out.up (F1.on F2)
  have c2 := X.c2
  have d0 := T2.c0
  have H2 := Lib.hid (And.intro (F1.on F2) (And.intro X T2))
  have HS := dSym_any c w2 i false [123] X
  clear hw2 htb F1 F2 T2 X
  simp only [pt] at HS
  rw [HB.out.1] at HS
  go_wp2_with fail
  refine HS.mono ?_
  rintro e w3 ⟨rfl, F3⟩
  have HS := dEat_miss c w3 i false [40] (H2.out.2.1.up F3) (by rw [HB.out.2.1]; rfl)
  have H3 := Lib.hid F3
  clear F3 c2 d0
  simp only [pt] at HS
  go_wp2_with fail
  refine HS.mono ?_
  rintro e w4 ⟨rfl, F4⟩
  have HS := dEatWord_miss c w4 i false [78, 79, 84] ((H2.out.2.1.up H3.out).up F4) (by rw [HB.out.2.2.1]; rfl)
  have H4 := Lib.hid (H3.out.on F4)
  clear F4 H3
  simp only [pt] at HS
  go_wp2_with fail
  refine HS.mono ?_
  rintro e w5 ⟨rfl, F5⟩
  have HC := HDES.out w5 i ((H2.out.2.1.up H4.out).up F5) HB.out.2.2.2
  have H5 := Lib.hid ((H2.out.1.on H4.out).on F5)
  have HTB := Lib.hid ((H2.out.2.2.fr H4.out (by simp)).fr F5 (by simp))
  clear F5 HS H2 H4
  go_wp2_with fail
  refine HC.mono ?_
  rintro e w6 ⟨o, rfl, F6, ⟨d, j, u, hr, rfl, X, hT, hd⟩ | ⟨j, hr, X⟩⟩
  · obtain ⟨hdd, hm⟩ := HFD.out.2.2 d j hr
    have hX0 := HT.out.lt
    have hT2 : IsT w6 (w.heap.size ≤ ·) u := ist_low hT H5.out.size
    have H6 := Lib.hid (And.intro ((H5.out.up0 (N := [c.R])).on F6) (And.intro X (And.intro hT2 (And.intro hd (HTB.out.fr F6 (by simp; exact HTN.out.1))))))
    have HS := dSym_any c w6 j false [123] X
    cases hb : isS (tk c.ts j) [123]
    · rw [hb] at HS
      rw [if_neg (by rw [hb]; simp)] at hm
      have HMH := Lib.hid hm
      clear F6 X hT hT2 hd hr HC hdd hb hm
      have HS2 := Lib.hid (fun w F => dSym_any c w j false [40] (H6.out.2.1.up (w' := w) F))
      simp only [pt, encP, ptrV] at HS HS2 ⊢
      go_wp2_with fail
      refine HS.mono ?_
      rintro e w7 ⟨rfl, F7⟩
      have HS := HS2.out w7 F7
      have H7 := Lib.hid F7
      have hm := HMH.out
      clear F7 HS2 HMH
      cases hq : isS (tk c.ts j) [40]
      · rw [hq] at HS
        rw [if_neg (by rw [hq]; simp)] at hm
        have HM := Lib.hid hm
        clear hm hq
        go_wp2_with fail
        refine HS.mono ?_
        rintro e w8 ⟨rfl, F8⟩
        have H8 := Lib.hid (H7.out.on F8)
        clear F8 HS H7
        go_wp2_with fail
        go_ret
        obtain ⟨F, X, hT, hd, _⟩ := H6.out
        exact Tl.mk_ok HM.out (F.on0 H8.out) (X.up H8.out) (ist_fr hT H8.out (by simp)) hd
      · rw [hq] at HS
        rw [if_pos hq] at hm
        have HM := Lib.hid (And.intro hm hq)
        obtain ⟨qx, qy, e3⟩ := posV_cx (tk c.ts j).2.1.1 (tk c.ts j).2.1.2
        obtain ⟨rx, ry, e4⟩ := posV_cx (tk c.ts j).2.2.1 (tk c.ts j).2.2.2
        have HNW := Lib.hid (fun w F2 => dNow_cx c w j false (H6.out.2.1.up (w' := w) F2) qx qy rx ry e3 e4)
        have HE3 := Lib.hid e3
        clear hm hq e3 e4
        generalize ((tk c.ts j).1.k : Int) = s0 at *
        generalize (⟨(tk c.ts j).1.x.toArray⟩ : ByteArray) = s3 at *
        generalize (tk c.ts j).1.n = s4 at *
        go_wp2_with fail
        refine HS.mono ?_
        rintro e w8 ⟨rfl, F8⟩
        have HN := HNW.out w8 (H7.out.on F8)
        have H8 := Lib.hid (H7.out.on F8)
        clear F8 HS H7 HNW
        go_wp2_with fail
        refine HN.mono ?_
        rintro e w9 ⟨rfl, F9⟩
        have HNO := dNode_at w9 10 10 rfl (tk c.ts j) [] qx qy HE3.out ⟨#[]⟩ rfl (some u.p) none _ _ rfl rfl
        have H9 := Lib.hid (H8.out.on F9)
        clear F9 HN H8
        simp only [encP, ptrV] at HNO
        go_wp2_with fail
        refine HNO.mono ?_
        rintro e w10 h10
        have hVB := h10
        obtain ⟨p, v, rfl, F10, hp, hK⟩ := NoV.kj (ts := [u]) h10 (C := w.heap.size) (Nat.le_trans H6.out.1.size H9.out.size) (by simpa using ist_fr H6.out.2.2.1 H9.out (by simp))
        have X10 := H6.out.2.1.up (H9.out.on F10)
        have F010 := (H6.out.1.on0 H9.out).on0 F10
        have hR0 := HT.out.lt
        have HVB : Hid (∀ q ∈ obL v, w.heap.size ≤ q) := Lib.hid (fun q hq => (hK.r.base q hq).1)
        have HK := Lib.hid (And.intro F010 (And.intro hK (And.intro X10 (Nat.le_trans (Nat.le_trans H6.out.1.size H9.out.size) hp))))
        have y4 := (NodeAt.mk hK.n).c4
        have fy4 := (NodeAt.mk hK.n).f 4
        clear hVB h10 F10 hp hK X10 F010 HNO
        have HSS : ∀ w' : World, Fr (c.R :: obL v) w10 w' → (w'.cell? ⟨p, 4, none⟩ = some v ∧ w'.frozen? ⟨p, 4, none⟩ = false) := fun w' F => by
          have e3 := F.block p (lt_heap HK.out.2.1.n) (fun hm => by
            rcases List.mem_cons.1 hm with e | hm
            · have := HK.out.2.1.hp; omega
            · exact row_node HK.out.2.1.r HK.out.2.1.n hm)
          exact ⟨(World.cell?_of_block (a := ⟨p, 4, none⟩) e3).trans y4, (World.frozen?_of_block (a := ⟨p, 4, none⟩) e3).trans fy4⟩
        have F0 : Fr [] w10 w10.drew := Fr.drew w10
        have hto : ∀ {w'}, Fr [c.R] w10 w' → Fr (c.R :: obL v) w10 w' := fun h => h.mono (by simp)
        cases hz : isS (tk c.ts (j + 1)) [41]
        · have hw : withM c.ts [41] E j ≠ .out := fun e => HNE.out (by rw [HM.out.1]; show (withM c.ts [41] E j).re _ = _; rw [e]; rfl)
          have HR : ∀ w1 : World, Fr [] w10 w1 → Calls Try.prog 91 #[.pointer (some ⟨c.R, 0, none⟩)] w1 fun e wz => ∃ g m cap news, e = .returned (.slice (some ⟨g, 0, none⟩) m cap) ∧ Fr [c.R] w10 wz ∧ 0 < m ∧ m ≤ 20000 ∧ news.length = m ∧ (∀ j u, news[j]? = some u → wz.cell? ((⟨g, 0, none⟩ : Addr).add j) = some u) ∧ (∀ u ∈ news, u.oneCell' = true) ∧
              ((∃ l k us, withM c.ts [41] E j = .ok l k ∧ RF c wz k false ∧ news = (us.map Tr.p).map ptrV ∧ IsTL wz (w10.heap.size ≤ ·) us ∧ dtL us = l) ∨ ∃ k, withM c.ts [41] E j = .bad k ∧ RF c wz k true) := fun w1 F1 => by
            refine (HARS.out w1 j (HK.out.2.2.1.up F1) HM.out.2 hz hw).mono ?_
            rintro e wz ⟨va, rfl, F, g, m, cap, news, rfl, a1, a2, a3, a4, a5, a6⟩
            refine ⟨g, m, cap, news, rfl, F1.up0.on F, a1, a2, a3, a4, a5, ?_⟩
            rcases a6 with ⟨l, k, us, b1, b2, b3, b4, b5⟩ | b
            · exact .inl ⟨l, k, us, b1, b2, b3, b4.keep (fun q hq _ => Nat.le_trans F1.size hq) (fun _ _ _ => rfl), b5⟩
            · exact .inr b
          obtain ⟨xs, hxs⟩ : ∃ xs, (([u] : List Tr).map Tr.p).map ptrV = xs := ⟨_, rfl⟩
          have HXS := Lib.hid hxs
          have hrow : ∀ w', Fr [c.R] w10 w' → w'.ownsRow 0 26 1 v 1 xs := fun w' F => by
            have h1 := own_keep HK.out.2.1.r.1 F (fun j hj hm => by
              have h2 := (HK.out.2.1.r.base j hj).1
              have h3 : j = c.R := by simpa using hm
              omega)
            rw [hxs] at h1
            exact h1
          clear hxs hw hz hR0
          simp only [ptrV]
          go_wp2_with fail
          go_region_law (first
              | (refine step_append_lies _ (by rfl) _ _ _ (by rfl) 0 26 i0 _ 1 8 Try.underlying34 hi hz0 hz1 hz2 rfl (by omega) v 1 _ (by rfl) (hrow _ F9) ⟨g, 0, none⟩ m cap news (by rfl) (by omega) hnews hone hm0 (by unfold maxLen; omega) (by omega) (by omega) w9.heap.size rfl ?_; intro gl capl w6 hown hgrow hat hlt6; obtain ⟨s1, s2⟩ := HSS w6 ((hto F9).trans (Fr.of_grown hgrow) (fun q hq => .inl (List.mem_cons_of_mem _ hq))))
              | (go_simp; go_at_call 91; refine (HR _ F0).mono ?_; rintro e w9 ⟨g, m, cap, news, rfl, F9, hm0, hm1, hml, hnews, hone, hres⟩; obtain ⟨t1, t2⟩ := HSS w9 (hto F9)))
          all_goals
            have FA : Fr (p :: obL v) w9 (w6.setCell ⟨p, 4, none⟩ (.slice (some ⟨gl, 0, none⟩) (1 + m) capl)) := ((Fr.of_grown hgrow).mono (fun q hq => List.mem_cons_of_mem _ hq)).trans (Fr.set w6 p 4 _) (fun q hq => .inl (by simp at hq; simp [hq]))
            have hfar : ∀ q ∈ p :: obL v, w.heap.size ≤ q := fun q hq => by
              rcases List.mem_cons.1 hq with rfl | hq
              · exact HK.out.2.2.2
              · exact HVB.out q hq
            have hfarR : ∀ q ∈ p :: obL v, c.R < q := fun q hq => by have := hfar q hq; have := HT.out.lt; omega
            have hfin : Tl c w.heap.size w RES (.returned (.pointer (some ⟨p, 0, none⟩))) (w6.setCell ⟨p, 4, none⟩ (.slice (some ⟨gl, 0, none⟩) (1 + m) capl)) := by
              have FT := (HK.out.1.on F9).trans FA (fun q hq => .inr (hfar q hq))
              rcases hres with ⟨l, k, us, b1, b2, b3, b4, b5⟩ | ⟨k, b1, b2⟩
              · have hmu : m = us.length := by rw [← hml, b3]; simp
                subst hmu
                have hKL := HK.out.2.1.onL F9 (by simp; have := HT.out.lt; exact this) (Nat.le_trans HK.out.1.size (Nat.le_refl _)) b4 gl capl (by rw [HXS.out, ← b3]; exact hown) hgrow hat
                refine Tl.mk_ok (u := .node p (nd 10 (tk c.ts j) [] 0) ([u] ++ us)) (j := k) ?_ FT (b2.stay FA hfarR) hKL.tree rfl
                rw [HM.out.1]
                show (withM c.ts [41] E j).re _ = _
                rw [b1, ← b5, ← H6.out.2.2.2.1]
                rfl
              · refine Tl.mk_bad (o := some p) (j := k) rfl ?_ FT (b2.stay FA hfarR)
                rw [HM.out.1]
                show (withM c.ts [41] E j).re _ = _
                rw [b1]
                rfl
            have HFIN := Lib.hid hfin
            clear hfin FA hfar hfarR hown hgrow hat hlt6 HR HSS hrow F0 t1 t2 s1 s2 y4 fy4 hto F9 hres hnews hone
            go_wp2_with fail
            go_ret
            exact HFIN.out
        · have HW := Lib.hid (show withM c.ts [41] E j = .ok [] (j + 2) by rw [with_un, if_pos hz])
          have HR : ∀ w1 : World, Fr [] w10 w1 → Calls Try.prog 91 #[.pointer (some ⟨c.R, 0, none⟩)] w1 fun e wz => e = .returned (.slice none 0 0) ∧ Fr [c.R] w10 wz ∧ RF c wz (j + 2) false := fun w1 F1 => by
            refine (HARN.out w1 j (HK.out.2.2.1.up F1) HM.out.2 hz).mono ?_
            rintro e wz ⟨rfl, F, X⟩
            exact ⟨rfl, F1.up0.on F, X⟩
          obtain ⟨gv, capv, hv, _, _⟩ := own_open HK.out.2.1.r.1 (by simp)
          have hv1 : v = .slice (some ⟨gv, 0, none⟩) 1 capv := hv
          have HV1 := Lib.hid hv1
          have hcap : 1 ≤ capv := by
            have h1 := HK.out.2.1.r.1
            rw [hv] at h1
            rcases h1.2 with ⟨h3, h4⟩ | ⟨g, cap', cur, e1, e2, e3, e4, e5, e6, e7⟩
            · simp at h4
            · injection e1 with e1 _ e8
              subst e8
              simpa using e4
          have hcap2 : ¬ capv < 1 := by omega
          clear hz hR0 hv
          subst hv1
          simp only [ptrV]
          go_wp2_with fail
          go_region_law (first
              | (go_simp; go_at_call 91; refine (HR _ F0).mono ?_; rintro e w9 ⟨rfl, F9, X9⟩; obtain ⟨t1, t2⟩ := HSS w9 (hto F9)))
          all_goals
            have hfin : Tl c w.heap.size w RES (.returned (.pointer (some ⟨p, 0, none⟩))) (w9.setCell ⟨p, 4, none⟩ (.slice (some ⟨gv, 0, none⟩) 1 capv)) := by
              have hK9 := HK.out.2.1.fr F9 (by simp; exact HT.out.lt)
              have FS := Fr.set w9 p 4 (.slice (some ⟨gv, 0, none⟩) 1 capv)
              have hpv := row_node hK9.r hK9.n
              have hK' : KJ w.heap.size p (nd 10 (tk c.ts j) [] 0) (w9.setCell ⟨p, 4, none⟩ (.slice (some ⟨gv, 0, none⟩) 1 capv)) (.slice (some ⟨gv, 0, none⟩) 1 capv) [u] :=
                ⟨by simp [World.setCell, Array.getElem?_modify, hK9.n, nodeO], hK9.r.frame FS (fun q hq hm => hpv ((show q = p by simpa using hm) ▸ hq)), hK9.k.keep (fun _ h _ => h) (fun q hq hl => FS.block q hl (by simp; exact hq.2.1)), hK9.hp⟩
              refine Tl.mk_ok (u := .node p (nd 10 (tk c.ts j) [] 0) [u]) (j := j + 2) ?_ ((HK.out.1.on F9).trans FS (fun q hq => .inr (by simp at hq; have := HK.out.2.2.2; omega))) (X9.stay FS (fun q hq => by simp at hq; have := HK.out.2.2.2; have := HT.out.lt; omega)) hK'.tree rfl
              rw [HM.out.1]
              show (withM c.ts [41] E j).re _ = _
              rw [HW.out, ← H6.out.2.2.2.1]
              rfl
            have HFIN := Lib.hid hfin
            clear hfin HR HSS F0 t1 t2 y4 fy4 hto F9 X9
            go_wp2_with fail
            go_ret
            exact HFIN.out
    · rw [hb] at HS
      have HPL := Lib.hid (fun wq (F : Fr [] w6 wq) => dPlain_any u.cnt u w.heap.size wq (Nat.le_refl _) (ist_fr hT2 F (by simp)) (by rw [hd]; exact hdd))
      have HQD : Hid (quaD u.dt = quaD d) := Lib.hid (by rw [hd])
      have HBB := Lib.hid hb
      have HSN := Lib.hid (fun w F => dSym_any c w j false [40] (H6.out.2.1.up (w' := w) F))
      have HPN := Lib.hid (brace_paren c.ts hb)
      have HMH := Lib.hid hm
      clear F6 X hT hT2 hd hr HC hdd hb hm
      simp only [pt, encP, ptrV] at HS HSN HPL ⊢
      go_wp2_with fail
      refine HS.mono ?_
      rintro e w7 ⟨rfl, F7⟩
      have HP := HPL.out w7 F7
      rw [HQD.out] at HP
      have H7 := Lib.hid F7
      have hm := HMH.out
      clear F7 HPL HS HMH
      cases hq : quaD d
      · rw [hq] at HP
        rw [if_neg (by rw [hq]; simp), if_neg (by rw [HPN.out]; simp)] at hm
        have HS := HSN.out w7 H7.out
        rw [HPN.out] at HS
        have HM := Lib.hid hm
        clear hm hq HSN
        go_wp2_with fail
        refine HP.mono ?_
        rintro e w8 ⟨rfl, rfl⟩
        clear HP
        go_wp2_with fail
        refine HS.mono ?_
        rintro e w9 ⟨rfl, F9⟩
        have H9 := Lib.hid (H7.out.on F9)
        clear F9 HS H7
        go_wp2_with fail
        go_ret
        obtain ⟨F, X, hT, hd, _⟩ := H6.out
        exact Tl.mk_ok HM.out (F.on0 H9.out) (X.up H9.out) (ist_fr hT H9.out (by simp)) hd
      · rw [hq] at HP
        rw [if_pos ⟨HBB.out, hq⟩] at hm
        have hw : withM c.ts [125] (elemM c.ts E) j ≠ .out := fun e => HNE.out (by rw [hm]; show (withM c.ts [125] (elemM c.ts E) j).re _ = _; rw [e]; rfl)
        have HM := Lib.hid (And.intro hm hw)
        clear hm hq HSN hw
        go_wp2_with fail
        refine HP.mono ?_
        rintro e w8 ⟨rfl, rfl⟩
        have T8 := H6.out.2.2.2.2.fr H7.out (by simp)
        have d1 := T8.c1
        have HC := HSET.out w8 j (H6.out.2.1.up H7.out) px py HPX.out.1 w.heap.size HT.out.lt (Nat.le_trans H6.out.1.size H7.out.size) u (ist_fr H6.out.2.2.1 H7.out (by simp)) HBB.out HM.out.2
        clear HP T8
        go_wp2_with fail
        refine HC.mono ?_
        rintro e w9 ⟨o, rfl, F9, hres⟩
        obtain ⟨ov, hov⟩ : ∃ ov, encP o = ov := ⟨_, rfl⟩
        rw [hov]
        have H9 := Lib.hid (And.intro F9 (And.intro hres hov))
        clear F9 hres hov HC
        go_wp2_with fail
        go_ret
        refine ⟨o, by rw [H9.out.2.2]; rfl, (H6.out.1.on0 H7.out).on H9.out.1, ?_⟩
        have he : RES = (withM c.ts [125] (elemM c.ts E) j).re fun l => .node (nd 8 (tk c.ts i) [] 0) (u.dt :: l) := by rw [HM.out.1, ← H6.out.2.2.2.1]; rfl
        rw [he]
        exact H9.out.2.1
  · have hm := HFD.out.1 j hr
    obtain ⟨ov, hov⟩ : ∃ ov, encP o = ov := ⟨_, rfl⟩
    rw [hov]
    have HS := dSym_any c w6 j true [123] X
    have HS2 := Lib.hid (fun w F => dSym_any c w j true [40] (X.up (w' := w) F))
    have H6 := Lib.hid (And.intro ((H5.out.up0 (N := [c.R])).on F6) (And.intro X (And.intro hm hov)))
    clear F6 X hm hov hr HC
    simp only [pt, Bool.not_true, Bool.false_and] at HS HS2
    go_wp2_with fail
    refine HS.mono ?_
    rintro e w7 ⟨rfl, F7⟩
    have HS := HS2.out w7 F7
    have H7 := Lib.hid F7
    clear F7 HS2
    go_wp2_with fail
    refine HS.mono ?_
    rintro e w8 ⟨rfl, F8⟩
    have H8 := Lib.hid (H7.out.on F8)
    clear F8 HS H7
    go_wp2_with fail
    go_ret
    obtain ⟨F, X, hm, hov⟩ := H6.out
    exact Tl.mk_bad hov hm (F.on0 H8.out) (X.up H8.out)
theorem dFac_any (c : Rc) (hS : Scd c.ts) (E : Nat → Re) (hM : Mono E) (hE : CG c 15 E) : ∀ (n : Nat) (w : World) (i : Nat), c.ts.length - i ≤ n → RF c w i false → facM c.ts E i ≠ .out → Calls Try.prog 71 #[.pointer (some ⟨c.R, 0, none⟩)] w (Tl c w.heap.size w (facM c.ts E i)) := by
  intro n
  induction n with
  | zero =>
    intro w i hn h hne
    have hz : tk c.ts i = zTK := tk_ge (by omega)
    have f : ∀ s, isS (tk c.ts i) s = false := fun s => by rw [hz]; rfl
    exact fac_rest c E hM hE w i h (by rw [hz]; decide) (by rw [hz]; decide) (by rw [hz]; decide) (f _) (f _) (by rw [hz]; rfl) hne
  | succ n ih =>
    intro w i hn h hne
    by_cases h2 : (tk c.ts i).1.k = 2
    · exact fac_num c E w i h h2
    by_cases h3 : (tk c.ts i).1.k = 3
    · exact fac_char c E w i h h3
    by_cases h4 : (tk c.ts i).1.k = 4
    · exact fac_str c E w i h h4
    cases hb : isS (tk c.ts i) [123] with
    | true => exact fac_brace c E hM hE w i h hb hne
    | false =>
      cases hp : isS (tk c.ts i) [40] with
      | true => exact fac_paren c E hE w i h hp hne
      | false =>
        cases ho : isO notT (tk c.ts i) with
        | false => exact fac_rest c E hM hE w i h h2 h3 h4 hb hp ho hne
        | true =>
          have hl := isO_lt rfl ho
          exact fac_nots c E w i h ho (fun w' h' => ih w' (i + 1) (by omega) h' (fun e => hne (by rw [fac_not c.ts E ho, e])))
/-- THE KNOT: the document's expressions are the model's. -/
theorem dExpr_all (c : Rc) (hS : Scd c.ts) : ∀ n, CG c 15 (exprM c.ts n)
  | 0 => fun w i h hne => absurd rfl hne
  | n + 1 => by
    have hM := mono_expr (ts := c.ts) n
    have h1 : CG c 71 (facM c.ts (exprM c.ts n)) := fun w i h hne => dFac_any c hS _ hM (dExpr_all c hS n) _ w i (Nat.le_refl _) h hne
    exact dExpr_any c hS _ hM (dSim_any c hS _ hM (dTerm_any c hS _ hM h1))
end Go.Proofs.Ytldecbaaajmmcaa
/- The document's answer of layer 6; law 6: what stands there. -/
namespace Go.Proofs.Ytldecbaaajmmcaa
open Go.RowKit
set_option maxHeartbeats 4000000
set_option maxRecDepth 100000
set_option linter.unusedVariables false
set_option linter.unusedSimpArgs false

theorem dTold_ok (c : Rc) (w : World) (i : Nat) (h : RF c w i false) (a : Option Addr) : Calls Try.prog 19 #[.pointer (some ⟨c.R, 0, none⟩), .pointer a] w fun e w' => e = .returned (.tuple #[.pointer a, .int .i64 i, .int .i64 0]) ∧ Fr [] w w' := by
  have c1 := h.c1
  have c2 := h.c2
  clear h
  go_enter Try.func19, Try.ntmps19
  go_wp2_with fail
  go_quiet (fail)
  go_wp2_with fail
  go_ret3
  exact ⟨rfl, Fr.drewN _ _⟩
theorem dTold_bad (c : Rc) (w : World) (i : Nat) (h : RF c w i true) (a : Option Addr) : Calls Try.prog 19 #[.pointer (some ⟨c.R, 0, none⟩), .pointer a] w fun e w' => e = .returned (.tuple #[.pointer none, .int .i64 i, .int .i64 60]) ∧ Fr [] w w' := by
  have c1 := h.c1
  have c2 := h.c2
  clear h
  go_enter Try.func19, Try.ntmps19
  go_wp2_with fail
  go_quiet (fail)
  go_wp2_with fail
  go_ret3
  exact ⟨rfl, Fr.drewN _ _⟩
theorem dQualC (c : Rc) : CG c 17 (qualM c.ts) := dQual_any c
theorem do_in (k : Nat) (ts : List TK) (hk : k < 4) (i : Nat) : doM k ts i ≠ .out := by
  have hF : Fin' (exprM ts (ts.length + 2)) 0 := fin_expr_all (ts.length + 1) (by omega)
  rcases (by omega : k = 0 ∨ k = 1 ∨ k = 2 ∨ k = 3) with rfl | rfl | rfl | rfl
  · exact hF i (Nat.zero_le _)
  · exact fin_des (mono_expr _) hF i (Nat.zero_le _)
  · exact fin_qual i
  · exact lab_in ts i
/-- The document's answer at a place of a row. -/
theorem rDo_any (ts : List TK) (hS : Scd ts) (rv : Value) (i k : Nat) (w : World) (hrow : RowAt w w.heap.size rv ts) (hk : k < 4) (hi : i ≤ 16384) (htl : ts.length ≤ 16384) (htx : ∀ x ∈ ts, x.1.x.length ≤ 65536) :
    Calls Try.prog 8 #[rv, .int .i64 i, .int .i64 k] w (Says w.heap.size w (doM k ts i)) := by
  obtain ⟨w1, hw1⟩ : ∃ w1, w.alloc (.cells #[rv, .int .i64 i, .bool false] 41) = w1 := ⟨_, rfl⟩
  have F1 : Fr [] w w1 := by rw [← hw1]; exact Fr.alloc _ _
  have r1 : w1.heap[w.heap.size]? = some (.cells #[rv, .int .i64 i, .bool false] 41 (0, 0)) := by rw [← hw1]; exact heap_alloc_new _ _
  obtain ⟨c, hc⟩ : ∃ c : Rc, c = ⟨ts, rv, w.heap.size, w.heap.size, 41, Nat.le_refl _⟩ := ⟨_, rfl⟩
  have hts : c.ts = ts := by rw [hc]
  have hcR : c.R = w.heap.size := by rw [hc]
  have X : RF c w1 i false := by
    subst hc
    exact ⟨r1, hrow.fc (Fc.of_fr F1 (B := w.heap.size) (by simp) (Nat.le_refl _)), hi, htl, htx⟩
  have hne := do_in k ts hk i
  have HC : ∃ f : FuncId, (k = 0 → f = 15) ∧ (k = 1 → f = 16) ∧ (k = 2 → f = 17) ∧ (k = 3 → f = 18) ∧ Calls Try.prog f #[.pointer (some ⟨w.heap.size, 0, none⟩)] w1 (Tl c w1.heap.size w1 (doM k ts i)) := by
    have hE := dExpr_all c (by rw [hts]; exact hS) (c.ts.length + 2)
    rw [← hcR]
    rw [← hts] at hne ⊢
    rcases (by omega : k = 0 ∨ k = 1 ∨ k = 2 ∨ k = 3) with rfl | rfl | rfl | rfl
    · exact ⟨15, fun _ => rfl, by decide, by decide, by decide, hE w1 i X hne⟩
    · exact ⟨16, by decide, fun _ => rfl, by decide, by decide, dDes_any c _ (mono_expr _) hE w1 i X hne⟩
    · exact ⟨17, by decide, by decide, fun _ => rfl, by decide, dQual_any c w1 i X hne⟩
    · exact ⟨18, by decide, by decide, by decide, fun _ => rfl, dLab_any c _ (mono_expr _) hE w1 i X hne⟩
  obtain ⟨f, f0, f1, f2, f3, HC⟩ := HC
  have HTO := Lib.hid (fun w i h a => dTold_ok c w i h a)
  have HTB := Lib.hid (fun w i h a => dTold_bad c w i h a)
  have hi0 : ¬ (i : Int) < 0 := by omega
  have HH := Lib.hid (And.intro F1 (And.intro hcR hts))
  obtain ⟨q, cap, hq, _⟩ := hrow
  rw [hcR] at HTO HTB
  clear hS htl htx hne F1 r1 hts X hi hcR hc
  subst hq
  rcases (by omega : k = 0 ∨ k = 1 ∨ k = 2 ∨ k = 3) with rfl | rfl | rfl | rfl
  · obtain rfl := f0 rfl
    clear f0 f1 f2 f3 hk
    go_enter Try.func8, Try.ntmps8
    go_wp2_with fail
    refine HC.mono ?_
    rintro e w2 ⟨o, rfl, F2, ⟨d, j, u, hr, rfl, X, hT, hd⟩ | ⟨j, hr, X⟩⟩
    · have HQ := HTO.out w2 j X (some ⟨u.p, 0, none⟩)
      have H2 := Lib.hid (And.intro F2 (And.intro hr (And.intro hT hd)))
      clear F2 X hr hT hd HC HTO HTB
      simp only [encP, ptrV]
      go_wp2_with fail
      refine HQ.mono ?_
      rintro e w3 ⟨rfl, F3⟩
      have H3 := Lib.hid F3
      clear F3 HQ
      go_wp2_with fail
      go_ret3
      obtain ⟨F1, hcR, hts⟩ := HH.out
      obtain ⟨F2, hr, hT, hd⟩ := H2.out
      rw [hcR] at F2
      refine ⟨(((F1.up0 (N := [w.heap.size])).on F2).on0 H3.out).below w.heap.size (by simp) (Nat.le_refl _), .inl ⟨d, j, u, hr, rfl, ist_low (ist_fr hT H3.out (by simp)) F1.size, hd⟩⟩
    · obtain ⟨a, ha⟩ := encP_cases o
      have HQ := HTB.out w2 j X a
      have H2 := Lib.hid (And.intro F2 hr)
      rw [ha]
      clear F2 X hr HC HTO HTB ha
      go_wp2_with fail
      refine HQ.mono ?_
      rintro e w3 ⟨rfl, F3⟩
      have H3 := Lib.hid F3
      clear F3 HQ
      go_wp2_with fail
      go_ret3
      obtain ⟨F1, hcR, hts⟩ := HH.out
      obtain ⟨F2, hr⟩ := H2.out
      rw [hcR] at F2
      exact ⟨(((F1.up0 (N := [w.heap.size])).on F2).on0 H3.out).below w.heap.size (by simp) (Nat.le_refl _), .inr ⟨j, hr, rfl⟩⟩
  · obtain rfl := f1 rfl
    clear f0 f1 f2 f3 hk
    go_enter Try.func8, Try.ntmps8
    go_wp2_with fail
    refine HC.mono ?_
    rintro e w2 ⟨o, rfl, F2, ⟨d, j, u, hr, rfl, X, hT, hd⟩ | ⟨j, hr, X⟩⟩
    · have HQ := HTO.out w2 j X (some ⟨u.p, 0, none⟩)
      have H2 := Lib.hid (And.intro F2 (And.intro hr (And.intro hT hd)))
      clear F2 X hr hT hd HC HTO HTB
      simp only [encP, ptrV]
      go_wp2_with fail
      refine HQ.mono ?_
      rintro e w3 ⟨rfl, F3⟩
      have H3 := Lib.hid F3
      clear F3 HQ
      go_wp2_with fail
      go_ret3
      obtain ⟨F1, hcR, hts⟩ := HH.out
      obtain ⟨F2, hr, hT, hd⟩ := H2.out
      rw [hcR] at F2
      refine ⟨(((F1.up0 (N := [w.heap.size])).on F2).on0 H3.out).below w.heap.size (by simp) (Nat.le_refl _), .inl ⟨d, j, u, hr, rfl, ist_low (ist_fr hT H3.out (by simp)) F1.size, hd⟩⟩
    · obtain ⟨a, ha⟩ := encP_cases o
      have HQ := HTB.out w2 j X a
      have H2 := Lib.hid (And.intro F2 hr)
      rw [ha]
      clear F2 X hr HC HTO HTB ha
      go_wp2_with fail
      refine HQ.mono ?_
      rintro e w3 ⟨rfl, F3⟩
      have H3 := Lib.hid F3
      clear F3 HQ
      go_wp2_with fail
      go_ret3
      obtain ⟨F1, hcR, hts⟩ := HH.out
      obtain ⟨F2, hr⟩ := H2.out
      rw [hcR] at F2
      exact ⟨(((F1.up0 (N := [w.heap.size])).on F2).on0 H3.out).below w.heap.size (by simp) (Nat.le_refl _), .inr ⟨j, hr, rfl⟩⟩
  · obtain rfl := f2 rfl
    clear f0 f1 f2 f3 hk
    go_enter Try.func8, Try.ntmps8
    go_wp2_with fail
    refine HC.mono ?_
    rintro e w2 ⟨o, rfl, F2, ⟨d, j, u, hr, rfl, X, hT, hd⟩ | ⟨j, hr, X⟩⟩
    · have HQ := HTO.out w2 j X (some ⟨u.p, 0, none⟩)
      have H2 := Lib.hid (And.intro F2 (And.intro hr (And.intro hT hd)))
      clear F2 X hr hT hd HC HTO HTB
      simp only [encP, ptrV]
      go_wp2_with fail
      refine HQ.mono ?_
      rintro e w3 ⟨rfl, F3⟩
      have H3 := Lib.hid F3
      clear F3 HQ
      go_wp2_with fail
      go_ret3
      obtain ⟨F1, hcR, hts⟩ := HH.out
      obtain ⟨F2, hr, hT, hd⟩ := H2.out
      rw [hcR] at F2
      refine ⟨(((F1.up0 (N := [w.heap.size])).on F2).on0 H3.out).below w.heap.size (by simp) (Nat.le_refl _), .inl ⟨d, j, u, hr, rfl, ist_low (ist_fr hT H3.out (by simp)) F1.size, hd⟩⟩
    · obtain ⟨a, ha⟩ := encP_cases o
      have HQ := HTB.out w2 j X a
      have H2 := Lib.hid (And.intro F2 hr)
      rw [ha]
      clear F2 X hr HC HTO HTB ha
      go_wp2_with fail
      refine HQ.mono ?_
      rintro e w3 ⟨rfl, F3⟩
      have H3 := Lib.hid F3
      clear F3 HQ
      go_wp2_with fail
      go_ret3
      obtain ⟨F1, hcR, hts⟩ := HH.out
      obtain ⟨F2, hr⟩ := H2.out
      rw [hcR] at F2
      exact ⟨(((F1.up0 (N := [w.heap.size])).on F2).on0 H3.out).below w.heap.size (by simp) (Nat.le_refl _), .inr ⟨j, hr, rfl⟩⟩
  · obtain rfl := f3 rfl
    clear f0 f1 f2 f3 hk
    go_enter Try.func8, Try.ntmps8
    go_wp2_with fail
    refine HC.mono ?_
    rintro e w2 ⟨o, rfl, F2, ⟨d, j, u, hr, rfl, X, hT, hd⟩ | ⟨j, hr, X⟩⟩
    · have HQ := HTO.out w2 j X (some ⟨u.p, 0, none⟩)
      have H2 := Lib.hid (And.intro F2 (And.intro hr (And.intro hT hd)))
      clear F2 X hr hT hd HC HTO HTB
      simp only [encP, ptrV]
      go_wp2_with fail
      refine HQ.mono ?_
      rintro e w3 ⟨rfl, F3⟩
      have H3 := Lib.hid F3
      clear F3 HQ
      go_wp2_with fail
      go_ret3
      obtain ⟨F1, hcR, hts⟩ := HH.out
      obtain ⟨F2, hr, hT, hd⟩ := H2.out
      rw [hcR] at F2
      refine ⟨(((F1.up0 (N := [w.heap.size])).on F2).on0 H3.out).below w.heap.size (by simp) (Nat.le_refl _), .inl ⟨d, j, u, hr, rfl, ist_low (ist_fr hT H3.out (by simp)) F1.size, hd⟩⟩
    · obtain ⟨a, ha⟩ := encP_cases o
      have HQ := HTB.out w2 j X a
      have H2 := Lib.hid (And.intro F2 hr)
      rw [ha]
      clear F2 X hr HC HTO HTB ha
      go_wp2_with fail
      refine HQ.mono ?_
      rintro e w3 ⟨rfl, F3⟩
      have H3 := Lib.hid F3
      clear F3 HQ
      go_wp2_with fail
      go_ret3
      obtain ⟨F1, hcR, hts⟩ := HH.out
      obtain ⟨F2, hr⟩ := H2.out
      rw [hcR] at F2
      exact ⟨(((F1.up0 (N := [w.heap.size])).on F2).on0 H3.out).below w.heap.size (by simp) (Nat.le_refl _), .inr ⟨j, hr, rfl⟩⟩
theorem rDo_neg (rv : Value) (a : Int) (ha : a < 0) (k : Int) (w : World) (hv : ∃ q n cap, rv = .slice q n cap) : Calls Try.prog 8 #[rv, .int .i64 a, .int .i64 k] w (Neg w) := by
  obtain ⟨q, n, cap, rfl⟩ := hv
  go_enter Try.func8, Try.ntmps8
  go_wp2_with fail
  go_ret3
  exact ⟨rfl, (Fr.refl [] w).below _ (by simp) (Nat.le_refl _)⟩
/-- One of the four, by the program, at any place. -/
theorem does_all (ts : List TK) (rv : Value) (i k : Nat) (w : World) (hrow : RowAt w w.heap.size rv ts) (hk : k < 4) (hi2 : i ≤ 16384) (htl : ts.length ≤ 16384) (htx : ∀ x ∈ ts, x.1.x.length ≤ 65536) :
    Calls Try.prog 7 #[rv, .int .i64 i, .int .i64 k] w (Says w.heap.size w (doM k ts i)) := by
  rcases (by omega : k = 0 ∨ k = 1 ∨ k = 2 ∨ k = 3) with rfl | rfl | rfl | rfl
  · have HC := Expr_any ts rv i w hrow hi2 htl htx
    clear hrow hi2 htl htx
    rw [show doM 0 ts i = exprM ts (ts.length + 2) i from rfl]
    go_enter Try.func7, Try.ntmps7
    go_wp2_with fail
    refine HC.mono ?_
    rintro e w1 ⟨hb, ⟨d, j, u, h1, rfl, h3, h4⟩ | ⟨j, h1, rfl⟩⟩
    · have H := Lib.hid (And.intro hb (And.intro h1 (And.intro h3 h4)))
      clear hb h1 h3 h4 HC
      go_wp2_with fail
      go_ret3
      exact ⟨H.out.1, .inl ⟨d, j, u, H.out.2.1, rfl, H.out.2.2⟩⟩
    · have H := Lib.hid (And.intro hb h1)
      clear hb h1 HC
      go_wp2_with fail
      go_ret3
      exact ⟨H.out.1, .inr ⟨j, H.out.2, rfl⟩⟩
  · have HC := Designator_any ts rv i w hrow hi2 htl htx
    clear hrow hi2 htl htx
    rw [show doM 1 ts i = desM ts (exprM ts (ts.length + 2)) i from rfl]
    go_enter Try.func7, Try.ntmps7
    go_wp2_with fail
    refine HC.mono ?_
    rintro e w1 ⟨hb, ⟨d, j, u, h1, rfl, h3, h4⟩ | ⟨j, h1, rfl⟩⟩
    · have H := Lib.hid (And.intro hb (And.intro h1 (And.intro h3 h4)))
      clear hb h1 h3 h4 HC
      go_wp2_with fail
      go_ret3
      exact ⟨H.out.1, .inl ⟨d, j, u, H.out.2.1, rfl, H.out.2.2⟩⟩
    · have H := Lib.hid (And.intro hb h1)
      clear hb h1 HC
      go_wp2_with fail
      go_ret3
      exact ⟨H.out.1, .inr ⟨j, H.out.2, rfl⟩⟩
  · have HC := Qualident_any ts rv i w hrow hi2 htl htx
    clear hrow hi2 htl htx
    rw [show doM 2 ts i = qualM ts i from rfl]
    go_enter Try.func7, Try.ntmps7
    go_wp2_with fail
    refine HC.mono ?_
    rintro e w1 ⟨hb, ⟨d, j, u, h1, rfl, h3, h4⟩ | ⟨j, h1, rfl⟩⟩
    · have H := Lib.hid (And.intro hb (And.intro h1 (And.intro h3 h4)))
      clear hb h1 h3 h4 HC
      go_wp2_with fail
      go_ret3
      exact ⟨H.out.1, .inl ⟨d, j, u, H.out.2.1, rfl, H.out.2.2⟩⟩
    · have H := Lib.hid (And.intro hb h1)
      clear hb h1 HC
      go_wp2_with fail
      go_ret3
      exact ⟨H.out.1, .inr ⟨j, H.out.2, rfl⟩⟩
  · have HC := Labels_all ts rv i w hrow hi2 htl htx
    clear hrow hi2 htl htx
    rw [show doM 3 ts i = labM ts (exprM ts (ts.length + 2)) i from rfl]
    go_enter Try.func7, Try.ntmps7
    go_wp2_with fail
    refine HC.mono ?_
    rintro e w1 ⟨hb, ⟨d, j, u, h1, rfl, h3, h4⟩ | ⟨j, h1, rfl⟩⟩
    · have H := Lib.hid (And.intro hb (And.intro h1 (And.intro h3 h4)))
      clear hb h1 h3 h4 HC
      go_wp2_with fail
      go_ret3
      exact ⟨H.out.1, .inl ⟨d, j, u, H.out.2.1, rfl, H.out.2.2⟩⟩
    · have H := Lib.hid (And.intro hb h1)
      clear hb h1 HC
      go_wp2_with fail
      go_ret3
      exact ⟨H.out.1, .inr ⟨j, H.out.2, rfl⟩⟩
theorem does_neg (ts : List TK) (rv : Value) (a : Int) (ha : a < 0) (k : Nat) (w : World) (hrow : RowAt w w.heap.size rv ts) (hk : k < 4) :
    Calls Try.prog 7 #[rv, .int .i64 a, .int .i64 k] w (Neg w) := by
  rcases (by omega : k = 0 ∨ k = 1 ∨ k = 2 ∨ k = 3) with rfl | rfl | rfl | rfl
  · have HC := Expr_neg ts rv a ha w hrow
    clear hrow ha
    go_enter Try.func7, Try.ntmps7
    go_wp2_with fail
    refine HC.mono ?_
    rintro e w1 ⟨rfl, hb⟩
    have H := Lib.hid hb
    clear hb HC
    go_wp2_with fail
    go_ret3
    exact ⟨rfl, H.out⟩
  · have HC := Designator_neg ts rv a ha w hrow
    clear hrow ha
    go_enter Try.func7, Try.ntmps7
    go_wp2_with fail
    refine HC.mono ?_
    rintro e w1 ⟨rfl, hb⟩
    have H := Lib.hid hb
    clear hb HC
    go_wp2_with fail
    go_ret3
    exact ⟨rfl, H.out⟩
  · have HC := Qualident_neg ts rv a ha w hrow
    clear hrow ha
    go_enter Try.func7, Try.ntmps7
    go_wp2_with fail
    refine HC.mono ?_
    rintro e w1 ⟨rfl, hb⟩
    have H := Lib.hid hb
    clear hb HC
    go_wp2_with fail
    go_ret3
    exact ⟨rfl, H.out⟩
  · have HC := Labels_neg ts rv a ha w hrow
    clear hrow ha
    go_enter Try.func7, Try.ntmps7
    go_wp2_with fail
    refine HC.mono ?_
    rintro e w1 ⟨rfl, hb⟩
    have H := Lib.hid hb
    clear hb HC
    go_wp2_with fail
    go_ret3
    exact ⟨rfl, H.out⟩
theorem exact_nil (w : World) : Calls Try.prog 9 #[.pointer none, .pointer none] w fun e w' => e = .returned (.bool true) ∧ Below w.heap.size w w' := by
  have HS : Calls Try.prog 20 #[.pointer none, .pointer none] w fun e w' => e = .returned (.bool true) ∧ Below w.heap.size w w' := by
    go_enter Try.func20, Try.ntmps20
    go_wp2_with fail
    go_ret
    exact ⟨rfl, (Fr.refl [] w).below _ (by simp) (Nat.le_refl _)⟩
  go_enter Try.func9, Try.ntmps9
  go_wp2_with fail
  refine HS.mono ?_
  rintro e w1 ⟨rfl, B⟩
  have H := Lib.hid B
  clear B HS
  go_wp2_with fail
  go_ret
  exact ⟨rfl, H.out⟩
theorem reads_skip (s : ByteArray) (at' : Int) (a1 : Int) (h : 2048 < s.size ∨ 1024 < at') (w : World) :
    Calls Try.prog 3 #[.string s, .int .i64 at', .int .u8 a1] w fun e w' => e = .returned (.bool true) ∧ Below w.heap.size w w' := by
  have H1 := rheavy_any s w
  have HW := Lib.hid (rworks_any w)
  by_cases hs : 2048 < s.size
  · rw [decide_eq_true (by omega)] at H1
    clear h hs
    go_enter Try.func3, Try.ntmps3
    go_wp2_with fail
    refine H1.mono ?_
    rintro e w1 ⟨rfl, rfl⟩
    go_wp2_with fail
    refine HW.out.mono ?_
    rintro e w2 ⟨rfl, hb⟩
    go_wp2_with fail
    go_ret
    exact ⟨rfl, hb⟩
  · rw [decide_eq_false (by omega)] at H1
    have ha : (1024 : Int) < at' := by omega
    clear h hs
    go_enter Try.func3, Try.ntmps3
    go_wp2_with fail
    refine H1.mono ?_
    rintro e w1 ⟨rfl, rfl⟩
    go_wp2_with fail
    refine HW.out.mono ?_
    rintro e w2 ⟨rfl, hb⟩
    go_wp2_with fail
    go_ret
    exact ⟨rfl, hb⟩
theorem reads_at (s : ByteArray) (i : Nat) (hi : i ≤ 1024) (a1 : Int) (l1 : 0 ≤ a1) (u1 : a1 ≤ 255) (hs : ¬ 2048 < s.size) (w : World) :
    Calls Try.prog 3 #[.string s, .int .i64 i, .int .u8 a1] w fun e w' => e = .returned (.bool true) ∧ Below w.heap.size w w' := by
  have H1 := rheavy_any s w
  rw [decide_eq_false (by omega)] at H1
  have H2 := Row_any s (by omega) w
  obtain ⟨hl, hx⟩ := row_at s (by omega)
  have hsc := row_scd s.data.toList
  obtain ⟨ts, hts⟩ : ∃ ts, rowT s.data.toList = ts := ⟨_, rfl⟩
  rw [hts] at hl hx H2 hsc
  obtain ⟨k, hk, hk4⟩ : ∃ k : Nat, a1 % 4 = (k : Int) ∧ k < 4 := ⟨(a1 % 4).toNat, by omega, by omega⟩
  have HW := Lib.hid rworks_any
  have HX := Lib.hid (And.intro hx hsc)
  have HKK := Lib.hid hk4
  clear hts hx hsc
  have hat : ¬ (1024 : Int) < (i : Int) := by omega
  go_enter Try.func3, Try.ntmps3
  go_wp2_with fail
  refine H1.mono ?_
  rintro e w1 ⟨rfl, rfl⟩
  clear H1
  go_wp2_with fail
  refine H2.mono ?_
  rintro e w2 ⟨v, rfl, B2, hR⟩
  clear H2
  have H3 := does_all ts v i k w2 hR.1 HKK.out (by omega) hl HX.out.1
  have HDO := Lib.hid (fun w3 (B : Below w2.heap.size w2 w3) => rDo_any ts HX.out.2 v i k w3 ((hR.bel B).1) HKK.out (by omega) hl HX.out.1)
  obtain ⟨q, cap, rfl, hc1, hc2⟩ := hR.2
  clear hR
  go_wp2_with fail
  refine H3.mono ?_
  rintro e w3 ⟨B3, ⟨d, j, u, h1, rfl, h3, h4⟩ | ⟨j, h1, rfl⟩⟩
  · have HC := HDO.out w3 B3
    have H := Lib.hid (And.intro (bt B2 B3) (And.intro h1 (And.intro h3 h4)))
    clear B2 B3 h1 h3 h4 H3 HDO
    simp only [ptrV]
    go_wp2_with fail
    refine HC.mono ?_
    rintro e w4 ⟨B4, ⟨d2, j2, u2, g1, rfl, g3, g4⟩ | ⟨j2, g1, rfl⟩⟩
    · obtain ⟨B13, h1, h3, h4⟩ := H.out
      rw [h1] at g1
      injection g1 with e1 e2
      subst e2
      have HEX := rExact_any u.cnt u u2 w4 (Nat.le_refl _) (h3.below B4) g3 (sim_dt u u2 (by rw [g4, h4, e1]))
      have H5 := Lib.hid (bt B13 B4)
      clear B13 h1 h3 h4 B4 g3 g4 e1 HC H
      simp only [ptrV] at HEX ⊢
      go_wp2_with fail
      refine HEX.mono ?_
      rintro e w5 ⟨rfl, B5⟩
      have H6 := Lib.hid (bt H5.out B5)
      clear B5 HEX H5
      go_wp2_with fail
      refine (HW.out _).mono ?_
      rintro e w6 ⟨rfl, B6⟩
      go_wp2_with fail
      go_ret
      exact ⟨rfl, bt H6.out B6⟩
    · rw [H.out.2.1] at g1
      cases g1
  · have HC := HDO.out w3 B3
    have H := Lib.hid (And.intro (bt B2 B3) h1)
    clear B2 B3 h1 H3 HDO
    go_wp2_with fail
    refine HC.mono ?_
    rintro e w4 ⟨B4, ⟨d2, j2, u2, g1, rfl, g3, g4⟩ | ⟨j2, g1, rfl⟩⟩
    · rw [H.out.2] at g1
      cases g1
    · obtain ⟨B13, h1⟩ := H.out
      rw [h1] at g1
      injection g1 with e2
      subst e2
      have HEX := exact_nil w4
      have H5 := Lib.hid (bt B13 B4)
      clear B13 h1 B4 HC H
      go_wp2_with fail
      refine HEX.mono ?_
      rintro e w5 ⟨rfl, B5⟩
      have H6 := Lib.hid (bt H5.out B5)
      clear B5 HEX H5
      go_wp2_with fail
      refine (HW.out _).mono ?_
      rintro e w6 ⟨rfl, B6⟩
      go_wp2_with fail
      go_ret
      exact ⟨rfl, bt H6.out B6⟩
theorem reads_neg (s : ByteArray) (a : Int) (ha : a < 0) (a1 : Int) (l1 : 0 ≤ a1) (u1 : a1 ≤ 255) (hs : ¬ 2048 < s.size) (w : World) :
    Calls Try.prog 3 #[.string s, .int .i64 a, .int .u8 a1] w fun e w' => e = .returned (.bool true) ∧ Below w.heap.size w w' := by
  have H1 := rheavy_any s w
  rw [decide_eq_false (by omega)] at H1
  have H2 := Row_any s (by omega) w
  obtain ⟨hl, hx⟩ := row_at s (by omega)
  have hsc := row_scd s.data.toList
  obtain ⟨ts, hts⟩ : ∃ ts, rowT s.data.toList = ts := ⟨_, rfl⟩
  rw [hts] at hl hx H2 hsc
  obtain ⟨k, hk, hk4⟩ : ∃ k : Nat, a1 % 4 = (k : Int) ∧ k < 4 := ⟨(a1 % 4).toNat, by omega, by omega⟩
  have HW := Lib.hid rworks_any
  have HX := Lib.hid (And.intro hx hsc)
  have HKK := Lib.hid hk4
  clear hts hx hsc
  have hat : ¬ (1024 : Int) < a := by omega
  have HA := Lib.hid ha
  go_enter Try.func3, Try.ntmps3
  go_wp2_with fail
  refine H1.mono ?_
  rintro e w1 ⟨rfl, rfl⟩
  clear H1
  go_wp2_with fail
  refine H2.mono ?_
  rintro e w2 ⟨v, rfl, B2, hR⟩
  clear H2
  have H3 := does_neg ts v a HA.out k w2 hR.1 HKK.out
  have HDO := Lib.hid (fun w3 => rDo_neg v a HA.out k w3 (by obtain ⟨q, cap, e, _⟩ := hR.2; exact ⟨q, _, cap, e⟩))
  obtain ⟨q, cap, rfl, hc1, hc2⟩ := hR.2
  clear hR
  go_wp2_with fail
  refine H3.mono ?_
  rintro e w3 ⟨rfl, B3⟩
  have HC := HDO.out w3
  have H := Lib.hid (bt B2 B3)
  clear B2 B3 H3 HDO
  go_wp2_with fail
  refine HC.mono ?_
  rintro e w4 ⟨rfl, B4⟩
  have HEX := exact_nil w4
  have H5 := Lib.hid (bt H.out B4)
  clear B4 HC H
  go_wp2_with fail
  refine HEX.mono ?_
  rintro e w5 ⟨rfl, B5⟩
  have H6 := Lib.hid (bt H5.out B5)
  clear B5 HEX H5
  go_wp2_with fail
  refine (HW.out _).mono ?_
  rintro e w6 ⟨rfl, B6⟩
  go_wp2_with fail
  go_ret
  exact ⟨rfl, bt H6.out B6⟩
theorem reads_any (s : ByteArray) (a a1 : Int) (l1 : 0 ≤ a1) (u1 : a1 ≤ 255) (w : World) :
    Calls Try.prog 3 #[.string s, .int .i64 a, .int .u8 a1] w fun e w' => e = .returned (.bool true) ∧ Below w.heap.size w w' := by
  by_cases h : 2048 < s.size ∨ 1024 < a
  · exact reads_skip s a a1 h w
  · by_cases ha : a < 0
    · exact reads_neg s a ha a1 l1 u1 (by omega) w
    · obtain ⟨i, rfl⟩ : ∃ i : Nat, a = i := ⟨a.toNat, by omega⟩
      exact reads_at s i (by omega) a1 l1 u1 (by omega) w
end Go.Proofs.Ytldecbaaajmmcaa
