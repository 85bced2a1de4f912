/- Law 6: operators of levels, walked: the second one binds. -/
import Derived.Test.YtnaihncmichfaaaEyFB
namespace Go.Proofs.Ytnaihncmichfaaa
open Go.RowKit Go.Op
set_option maxHeartbeats 4000000
set_option maxRecDepth 100000
set_option linter.unusedVariables false
set_option linter.unusedSimpArgs false

theorem sides_C (p q : Nat) (hp : p < 15) (hq : q < 15) (a b : Int) (l1 : 0 ≤ a) (u1 : a ≤ 255) (l2 : 0 ≤ b) (u2 : b ≤ 255) (ha : a % 15 = (p : Int)) (hb : b % 15 = (q : Int)) (hc : lvO p < lvO q) (w : World) :
    Calls Try.prog 6 #[.int .u8 a, .int .u8 b] w fun e w' => e = .returned (.bool true) ∧ Below w.heap.size w w' := by
  obtain ⟨s, hs⟩ : ∃ s, (((((⟨#[117, 32]⟩ : ByteArray) ++ ⟨(opB p).toArray⟩) ++ ⟨#[32, 118, 32]⟩) ++ ⟨(opB q).toArray⟩) ++ ⟨#[32, 119]⟩) = s := ⟨_, rfl⟩
  have hsd : s.data.toList = srcO p q := by rw [← hs]; exact src_data p q
  have hsz : s.size ≤ 16384 := by
    have h1 := op_len ⟨p, hp⟩
    have h2 := op_len ⟨q, hq⟩
    simp only at h1 h2
    have h3 : s.size = s.data.toList.length := by rw [Array.length_toList]; rfl
    rw [h3, hsd]
    unfold srcO
    simp only [List.length_append, List.length_cons, List.length_nil]
    omega
  have HR0 := fun w => Row_any s hsz w
  obtain ⟨hl, hx⟩ := row_at s hsz
  have HE := fun v w h => Expr_any (rowT s.data.toList) v 0 w h (by omega) hl hx
  have HS : shapeOf (exprM (rowT s.data.toList) ((rowT s.data.toList).length + 2) 0) = some (11, opB p, [1, 11], 5) := by
    rw [hsd]
    refine (sides_all ⟨p, hp⟩ ⟨q, hq⟩).trans ?_
    unfold sideB
    rw [if_neg (fun h : lvO p = 0 ∧ lvO q = 0 => by omega), if_neg (show ¬ lvO q ≤ lvO p by omega)]
  have hPQ : p = q ∨ opB p ≠ opB q := by
    have h0 := ops_ne ⟨p, hp⟩ ⟨q, hq⟩
    simp only [Fin.mk.injEq] at h0
    by_cases h : p = q
    · exact .inl h
    · exact .inr (fun e => h (h0.mp e))
  obtain ⟨res, hres⟩ : ∃ res, exprM (rowT s.data.toList) ((rowT s.data.toList).length + 2) 0 = res := ⟨_, rfl⟩
  rw [hres] at HE HS
  obtain ⟨P, hP⟩ : ∃ P : ByteArray, ⟨(opB p).toArray⟩ = P := ⟨_, rfl⟩
  obtain ⟨Q, hQ⟩ : ∃ P : ByteArray, ⟨(opB q).toArray⟩ = P := ⟨_, rfl⟩
  have cp := opL_cell w p hp
  have cq := opL_cell w q hq
  have b0 := below_new w (.cells (opsL.map fun x => Value.string ⟨x.toArray⟩).toArray 9)
  rw [hP] at cp hs
  rw [hQ] at cq hs
  obtain ⟨w0, hw0⟩ : ∃ w0, w.alloc (.cells (opsL.map fun x => Value.string ⟨x.toArray⟩).toArray 9) = w0 := ⟨_, rfl⟩
  have hw0' : w.alloc (.cells #[.string ⟨#[42]⟩, .string ⟨#[47]⟩, .string ⟨#[68, 73, 86]⟩, .string ⟨#[77, 79, 68]⟩, .string ⟨#[65, 78, 68]⟩, .string ⟨#[43]⟩, .string ⟨#[45]⟩, .string ⟨#[79, 82]⟩, .string ⟨#[61]⟩, .string ⟨#[35]⟩, .string ⟨#[60]⟩, .string ⟨#[60, 61]⟩, .string ⟨#[62]⟩, .string ⟨#[62, 61]⟩, .string ⟨#[73, 78]⟩] 9) = w0 := hw0
  rw [hw0] at cp cq b0
  obtain ⟨ts, hts⟩ : ∃ ts, rowT s.data.toList = ts := ⟨_, rfl⟩
  rw [hts] at HR0 HE
  have HR : ∀ w, Calls Try.prog 10 #[.string (((((⟨#[117, 32]⟩ : ByteArray) ++ P) ++ ⟨#[32, 118, 32]⟩) ++ Q) ++ ⟨#[32, 119]⟩)] w fun e w' => ∃ v, e = .returned v ∧ Below w.heap.size w w' ∧ RowC w' w'.heap.size v ts := by rw [hs]; exact HR0
  have zP : P.size ≤ 3 := by
    have h1 := op_len ⟨p, hp⟩
    simp only at h1
    rw [← hP]; simpa [ByteArray.size] using h1
  have zQ : Q.size ≤ 3 := by
    have h1 := op_len ⟨q, hq⟩
    simp only at h1
    rw [← hQ]; simpa [ByteArray.size] using h1
  have f1 : ¬ (9223372036854775807 : Nat) < 2 + P.size := by omega
  have f2 : ¬ (9223372036854775807 : Nat) < 2 + P.size + 3 := by omega
  have f3 : ¬ (9223372036854775807 : Nat) < 2 + P.size + 3 + Q.size := by omega
  have f4 : ¬ (9223372036854775807 : Nat) < 2 + P.size + 3 + Q.size + 2 := by omega
  have HB := Lib.hid b0
  have HL := Lib.hid (show w.heap.size < w0.heap.size by rw [← hw0]; simp)
  have HRH := Lib.hid HR
  have HEH := Lib.hid HE
  have HSH := Lib.hid HS
  have HWH := Lib.hid rworks_any
  have HPH := Lib.hid hP
  have HQH := Lib.hid hQ
  have HNE : Hid (lvO p < lvO q → (P.toList == Q.toList) = false) := Lib.hid (fun hlt => by
    rcases hPQ with h | h
    · rw [h] at hlt; exact absurd hlt (Nat.lt_irrefl _)
    · refine beq_eq_false_iff_ne.2 ?_
      rw [← hP, ← hQ, ByteArray.toList_eq, ByteArray.toList_eq]
      exact h)
  have p0 : (0 : Int) ≤ (p : Int) := by omega
  have p1 : (p : Int) < 15 := by omega
  have q0 : (0 : Int) ≤ (q : Int) := by omega
  have q1 : (q : Int) < 15 := by omega
  have L1 := fun w => level_any p hp w
  have L2 := fun w => level_any q hq w
  obtain ⟨lp, hlp⟩ : ∃ n, lvO p = n := ⟨_, rfl⟩
  obtain ⟨lq, hlq⟩ : ∃ n, lvO q = n := ⟨_, rfl⟩
  rw [hlp] at L1
  rw [hlq] at L2
  rw [hlp, hlq] at hc HNE
  have LH1 := Lib.hid L1
  have LH2 := Lib.hid L2
  have HC := Lib.hid hc
  clear zP zQ HR0 hts hx HR HE HS hs hsd b0 hw0 hP hQ hres hsz hl hPQ L1 L2 hlp hlq hc
  go_enter Try.func6, Try.ntmps6
  go_wp2_with fail
  try simp only [ha, hb]
  clear ha hb
  have hlt0 : w.heap.size < w0.heap.size := HL.out
  go_region_held3 (fun w' => w'.cell? ⟨w.heap.size, p, none⟩ = some (.string P) ∧ w'.cell? ⟨w.heap.size, q, none⟩ = some (.string Q)) (first | exact ⟨cp, cq⟩ | exact ⟨cp1, cq1⟩ | exact ⟨cp2, cq2⟩ | go_keep)
    (first
      | (go_at_call 10; refine (HRH.out _).mono ?_; rintro e w1 ⟨v1, rfl, B1, r1⟩; have cp1 := (B1.cell (p := ⟨w.heap.size, p, none⟩) hlt0).trans cp; have cq1 := (B1.cell (p := ⟨w.heap.size, q, none⟩) hlt0).trans cq; have hlt1 : w.heap.size < w1.heap.size := Nat.lt_of_lt_of_le hlt0 B1.size; have C1 := Lib.hid (HEH.out v1 w1 r1.1))
      | (go_at_call 15; refine C1.out.mono ?_; rintro e w2 h2; have B2 := h2.1; have cp2 := (B2.cell (p := ⟨w.heap.size, p, none⟩) hlt1).trans cp1; have cq2 := (B2.cell (p := ⟨w.heap.size, q, none⟩) hlt1).trans cq1; obtain ⟨r0, r1', r2, g, cap, d, d1, d2, v1', v2, rfl, _, n0, dk, dx, g0, g1, n1, dk1, n2, dk2⟩ := h2.shape HSH.out))
  have hk : KC w2 w.heap.size p q r0 g cap r1' r2 P Q ⟨(opB p).toArray⟩ 1 11 := by
    refine ⟨cp2, cq2, ?_, ?_, ?_, g0, g1, ?_, ?_⟩
    · rw [Lib.cell_of_heap n0]; show some (Value.int .u8 (d.k : Int)) = _; rw [dk]; try rfl
    · rw [Lib.cell_of_heap n0]; show some (Value.string ⟨d.x.toArray⟩) = _; rw [dx]
    · rw [Lib.cell_of_heap n0]; rfl
    · rw [Lib.cell_of_heap n1]; show some (Value.int .u8 (d1.k : Int)) = _; rw [dk1]; try rfl
    · rw [Lib.cell_of_heap n2]; show some (Value.int .u8 (d2.k : Int)) = _; rw [dk2]; try rfl
  have B02 : Below w.heap.size w w2 := (HB.out.drew.trans (B1.mono (Nat.le_of_lt hlt0))).trans (B2.mono (Nat.le_of_lt hlt1))
  have HB2 := Lib.hid B02
  simp only [HPH.out, ptrV] at hk
  clear n0 dk dx g0 g1 n1 dk1 n2 dk2 cp cq cp1 cq1 cp2 cq2 h2 B1 B2 B02 hlt0 hlt1 r1 C1
  try simp only [ptrV]
  obtain ⟨k1, k2, k3, k4, k5, k6, k7, k8, k9⟩ := hk
  by_cases hz : lp = 0
  · have h0 := HC.out
    have t2 : ¬ (lq : Int) ≤ (lp : Int) := by omega
    have t2n : ¬ lq ≤ lp := by omega
    have t3 : (P.toList == Q.toList) = false := HNE.out h0
    obtain rfl : lp = 0 := hz
    have t4 : ((lq : Int) == 0) = false := beq_eq_false_iff_ne.2 (by omega)
    have t5 : ¬ lq = 0 := by omega
    clear h0
    go_wp2_with fail
    refine (LH1.out _).mono ?_
    rintro e w3 ⟨rfl, rfl⟩
    go_wp2_with fail
    refine (LH2.out _).mono ?_
    rintro e w3 ⟨rfl, rfl⟩
    go_wp2_with fail
    refine (LH1.out _).mono ?_
    rintro e w3 ⟨rfl, rfl⟩
    go_wp2_with fail
    refine (LH2.out _).mono ?_
    rintro e w3 ⟨rfl, rfl⟩
    go_wp2_with fail
    have hk : KC _ w.heap.size p q r0 g cap r1' r2 P Q P 1 11 := ⟨k1, k2, k3, k4, k5, k6, k7, k8, k9⟩
    refine wp_region_held_drew (S := fun w' => w'.cell? ⟨w.heap.size, p, none⟩ = some (.string P) ∧ w'.cell? ⟨w.heap.size, q, none⟩ = some (.string Q) ∧ w'.cell? ⟨r0, 0, none⟩ = some (.int .u8 11) ∧ w'.cell? ⟨r0, 2, none⟩ = some (.string (P)) ∧ w'.cell? ⟨r0, 4, none⟩ = some (.slice (some ⟨g, 0, none⟩) 2 cap) ∧ w'.cell? ⟨g, 0, none⟩ = some (.pointer (some ⟨r1', 0, none⟩)) ∧ w'.cell? ⟨g, 1, none⟩ = some (.pointer (some ⟨r2, 0, none⟩)) ∧ w'.cell? ⟨r1', 0, none⟩ = some (.int .u8 1) ∧ w'.cell? ⟨r2, 0, none⟩ = some (.int .u8 11)) (by kernel_rfl) hk (fun hHeld => ?_)
    refine wpAnyH_take (i := 0) (oi := ?oz0) (v := ?vz0) ?hz0 (by kernel_rfl) (by kernel_rfl) (by kernel_rfl) ?qz0 ?yz0 (by assumption) ?rz0
    case hz0 => simp only [List.getElem?_toArray, List.getElem?_cons_succ, List.getElem?_cons_zero]; (try rfl)
    case qz0 => exact fun _ _ _ h => h
    case yz0 => (refine Or.inl ⟨by rfl, ?_⟩; intro w hSw; (try dsimp only at hSw); go_simp; (try with_reducible rfl))
    try simp only [Act.put, List.setIfInBounds_toArray, List.set_cons_zero, List.set_cons_succ]
    refine wpAnyH_take (i := 1) (oi := ?oz1) (v := ?vz1) ?hz1 (by kernel_rfl) (by kernel_rfl) (by kernel_rfl) ?qz1 ?yz1 (by assumption) ?rz1
    case hz1 => simp only [List.getElem?_toArray, List.getElem?_cons_succ, List.getElem?_cons_zero]; (try rfl)
    case qz1 => exact fun _ _ _ h => h
    case yz1 => (refine Or.inl ⟨by rfl, ?_⟩; intro w hSw; (try dsimp only at hSw); go_simp; (try with_reducible rfl))
    try simp only [Act.put, List.setIfInBounds_toArray, List.set_cons_zero, List.set_cons_succ]
    refine wpAnyH_take (i := 2) (oi := ?oz2) (v := ?vz2) ?hz2 (by kernel_rfl) (by kernel_rfl) (by kernel_rfl) ?qz2 ?yz2 (by assumption) ?rz2
    case hz2 => simp only [List.getElem?_toArray, List.getElem?_cons_succ, List.getElem?_cons_zero]; (try rfl)
    case qz2 => exact fun _ _ _ h => h
    case yz2 => (refine Or.inl ⟨by rfl, ?_⟩; intro w hSw; (try dsimp only at hSw); go_simp; (try with_reducible rfl))
    try simp only [Act.put, List.setIfInBounds_toArray, List.set_cons_zero, List.set_cons_succ]
    refine wpAnyH_take (i := 3) (oi := ?oz3) (v := ?vz3) ?hz3 (by kernel_rfl) (by kernel_rfl) (by kernel_rfl) ?qz3 ?yz3 (by assumption) ?rz3
    case hz3 => simp only [List.getElem?_toArray, List.getElem?_cons_succ, List.getElem?_cons_zero]; (try rfl)
    case qz3 => exact fun _ _ _ h => h
    case yz3 => (refine Or.inl ⟨by rfl, ?_⟩; intro w hSw; (try dsimp only at hSw); go_simp; (try with_reducible rfl))
    try simp only [Act.put, List.setIfInBounds_toArray, List.set_cons_zero, List.set_cons_succ]
    refine wpAnyH_take (i := 4) (oi := ?oz4) (v := ?vz4) ?hz4 (by kernel_rfl) (by kernel_rfl) (by kernel_rfl) ?qz4 ?yz4 (by assumption) ?rz4
    case hz4 => simp only [List.getElem?_toArray, List.getElem?_cons_succ, List.getElem?_cons_zero]; (try rfl)
    case qz4 => exact fun _ _ _ h => h
    case yz4 => (refine Or.inl ⟨by rfl, ?_⟩; intro w hSw; (try dsimp only at hSw); go_simp; (try with_reducible rfl))
    try simp only [Act.put, List.setIfInBounds_toArray, List.set_cons_zero, List.set_cons_succ]
    refine wpAnyH_take (i := 5) (oi := ?oz5) (v := ?vz5) ?hz5 (by kernel_rfl) (by kernel_rfl) (by kernel_rfl) ?qz5 ?yz5 (by assumption) ?rz5
    case hz5 => simp only [List.getElem?_toArray, List.getElem?_cons_succ, List.getElem?_cons_zero]; (try rfl)
    case qz5 => exact fun _ _ _ h => h
    case yz5 => (refine Or.inl ⟨by rfl, ?_⟩; intro w hSw; (try dsimp only at hSw); go_simp; (try with_reducible rfl))
    try simp only [Act.put, List.setIfInBounds_toArray, List.set_cons_zero, List.set_cons_succ]
    refine wpAnyH_take (i := 6) (oi := ?oz6) (v := ?vz6) ?hz6 (by kernel_rfl) (by kernel_rfl) (by kernel_rfl) ?qz6 ?yz6 (by assumption) ?rz6
    case hz6 => simp only [List.getElem?_toArray, List.getElem?_cons_succ, List.getElem?_cons_zero]; (try rfl)
    case qz6 => exact fun _ _ _ h => h
    case yz6 => (refine Or.inl ⟨by rfl, ?_⟩; intro w hSw; (try dsimp only at hSw); go_simp; (try with_reducible rfl))
    try simp only [Act.put, List.setIfInBounds_toArray, List.set_cons_zero, List.set_cons_succ]
    refine wpAnyH_take (i := 7) (oi := ?oz7) (v := ?vz7) ?hz7 (by kernel_rfl) (by kernel_rfl) (by kernel_rfl) ?qz7 ?yz7 (by assumption) ?rz7
    case hz7 => simp only [List.getElem?_toArray, List.getElem?_cons_succ, List.getElem?_cons_zero]; (try rfl)
    case qz7 => exact fun _ _ _ h => h
    case yz7 => (refine Or.inl ⟨by rfl, ?_⟩; intro w hSw; (try dsimp only at hSw); go_simp; (try with_reducible rfl))
    try simp only [Act.put, List.setIfInBounds_toArray, List.set_cons_zero, List.set_cons_succ]
    refine wpAnyH_take (i := 8) (oi := ?oz8) (v := ?vz8) ?hz8 (by kernel_rfl) (by kernel_rfl) (by kernel_rfl) ?qz8 ?yz8 (by assumption) ?rz8
    case hz8 => simp only [List.getElem?_toArray, List.getElem?_cons_succ, List.getElem?_cons_zero]; (try rfl)
    case qz8 => exact fun _ _ _ h => h
    case yz8 => (refine Or.inl ⟨by rfl, ?_⟩; intro w hSw; (try dsimp only at hSw); go_simp; (try with_reducible rfl))
    try simp only [Act.put, List.setIfInBounds_toArray, List.set_cons_zero, List.set_cons_succ]
    refine wpAnyH_take (i := 9) (oi := ?oz9) (v := ?vz9) ?hz9 (by kernel_rfl) (by kernel_rfl) (by kernel_rfl) ?qz9 ?yz9 (by assumption) ?rz9
    case hz9 => simp only [List.getElem?_toArray, List.getElem?_cons_succ, List.getElem?_cons_zero]; (try rfl)
    case qz9 => exact fun _ _ _ h => h
    case yz9 => (refine Or.inl ⟨by rfl, ?_⟩; intro w hSw; (try dsimp only at hSw); go_simp; (try with_reducible rfl))
    try simp only [Act.put, List.setIfInBounds_toArray, List.set_cons_zero, List.set_cons_succ]
    refine wpAnyH_take (i := 10) (oi := ?oz10) (v := ?vz10) ?hz10 (by kernel_rfl) (by kernel_rfl) (by kernel_rfl) ?qz10 ?yz10 (by assumption) ?rz10
    case hz10 => simp only [List.getElem?_toArray, List.getElem?_cons_succ, List.getElem?_cons_zero]; (try rfl)
    case qz10 => exact fun _ _ _ h => h
    case yz10 => (refine Or.inl ⟨by rfl, ?_⟩; intro w hSw; (try dsimp only at hSw); go_simp; (try with_reducible rfl))
    try simp only [Act.put, List.setIfInBounds_toArray, List.set_cons_zero, List.set_cons_succ]
    refine wpAnyH_take (i := 11) (oi := ?oz11) (v := ?vz11) ?hz11 (by kernel_rfl) (by kernel_rfl) (by kernel_rfl) ?qz11 ?yz11 (by assumption) ?rz11
    case hz11 => simp only [List.getElem?_toArray, List.getElem?_cons_succ, List.getElem?_cons_zero]; (try rfl)
    case qz11 => exact fun _ _ _ h => h
    case yz11 => (refine Or.inl ⟨by rfl, ?_⟩; intro w hSw; (try dsimp only at hSw); go_simp; (try with_reducible rfl))
    try simp only [Act.put, List.setIfInBounds_toArray, List.set_cons_zero, List.set_cons_succ]
    refine wpAnyH_take (i := 12) (oi := ?oz12) (v := ?vz12) ?hz12 (by kernel_rfl) (by kernel_rfl) (by kernel_rfl) ?qz12 ?yz12 (by assumption) ?rz12
    case hz12 => simp only [List.getElem?_toArray, List.getElem?_cons_succ, List.getElem?_cons_zero]; (try rfl)
    case qz12 => exact fun _ _ _ h => h
    case yz12 => (refine Or.inl ⟨by rfl, ?_⟩; intro w hSw; (try dsimp only at hSw); go_simp; (try with_reducible rfl))
    try simp only [Act.put, List.setIfInBounds_toArray, List.set_cons_zero, List.set_cons_succ]
    refine wpAnyH_take (i := 13) (oi := ?oz13) (v := ?vz13) ?hz13 (by kernel_rfl) (by kernel_rfl) (by kernel_rfl) ?qz13 ?yz13 (by assumption) ?rz13
    case hz13 => simp only [List.getElem?_toArray, List.getElem?_cons_succ, List.getElem?_cons_zero]; (try rfl)
    case qz13 => exact fun _ _ _ h => h
    case yz13 => (refine Or.inl ⟨by rfl, ?_⟩; intro w hSw; (try dsimp only at hSw); go_simp; (try with_reducible rfl))
    try simp only [Act.put, List.setIfInBounds_toArray, List.set_cons_zero, List.set_cons_succ]
    refine wpAnyH_take (i := 14) (oi := ?oz14) (v := ?vz14) ?hz14 (by kernel_rfl) (by kernel_rfl) (by kernel_rfl) ?qz14 ?yz14 (by assumption) ?rz14
    case hz14 => simp only [List.getElem?_toArray, List.getElem?_cons_succ, List.getElem?_cons_zero]; (try rfl)
    case qz14 => exact fun _ _ _ h => h
    case yz14 => (refine Or.inl ⟨by rfl, ?_⟩; intro w hSw; (try dsimp only at hSw); go_simp; (try with_reducible rfl))
    try simp only [Act.put, List.setIfInBounds_toArray, List.set_cons_zero, List.set_cons_succ]
    refine wpAnyH_take (i := 15) (oi := ?oz15) (v := ?vz15) ?hz15 (by kernel_rfl) (by kernel_rfl) (by kernel_rfl) ?qz15 ?yz15 (by assumption) ?rz15
    case hz15 => simp only [List.getElem?_toArray, List.getElem?_cons_succ, List.getElem?_cons_zero]; (try rfl)
    case qz15 => exact fun _ _ _ h => h
    case yz15 => (refine Or.inl ⟨by rfl, ?_⟩; intro w hSw; (try dsimp only at hSw); go_simp; (try with_reducible rfl))
    try simp only [Act.put, List.setIfInBounds_toArray, List.set_cons_zero, List.set_cons_succ]
    refine wpAnyH_take (i := 16) (oi := ?oz16) (v := ?vz16) ?hz16 (by kernel_rfl) (by kernel_rfl) (by kernel_rfl) ?qz16 ?yz16 (by assumption) ?rz16
    case hz16 => simp only [List.getElem?_toArray, List.getElem?_cons_succ, List.getElem?_cons_zero]; (try rfl)
    case qz16 => exact fun _ _ _ h => h
    case yz16 => (refine Or.inl ⟨by rfl, ?_⟩; intro w hSw; (try dsimp only at hSw); go_simp; (try with_reducible rfl))
    try simp only [Act.put, List.setIfInBounds_toArray, List.set_cons_zero, List.set_cons_succ]
    refine wpAnyH_take (i := 17) (oi := ?oz17) (v := ?vz17) ?hz17 (by kernel_rfl) (by kernel_rfl) (by kernel_rfl) ?qz17 ?yz17 (by assumption) ?rz17
    case hz17 => simp only [List.getElem?_toArray, List.getElem?_cons_succ, List.getElem?_cons_zero]; (try rfl)
    case qz17 => exact fun _ _ _ h => h
    case yz17 => (refine Or.inl ⟨by rfl, ?_⟩; intro w hSw; (try dsimp only at hSw); go_simp; (try with_reducible rfl))
    try simp only [Act.put, List.setIfInBounds_toArray, List.set_cons_zero, List.set_cons_succ]
    refine wpAnyH_take (i := 18) (oi := ?oz18) (v := ?vz18) ?hz18 (by kernel_rfl) (by kernel_rfl) (by kernel_rfl) ?qz18 ?yz18 (by assumption) ?rz18
    case hz18 => simp only [List.getElem?_toArray, List.getElem?_cons_succ, List.getElem?_cons_zero]; (try rfl)
    case qz18 => exact fun _ _ _ h => h
    case yz18 => (refine Or.inl ⟨by rfl, ?_⟩; intro w hSw; (try dsimp only at hSw); go_simp; (try with_reducible rfl))
    try simp only [Act.put, List.setIfInBounds_toArray, List.set_cons_zero, List.set_cons_succ]
    refine wpAnyH_take (i := 19) (oi := ?oz19) (v := ?vz19) ?hz19 (by kernel_rfl) (by kernel_rfl) (by kernel_rfl) ?qz19 ?yz19 (by assumption) ?rz19
    case hz19 => simp only [List.getElem?_toArray, List.getElem?_cons_succ, List.getElem?_cons_zero]; (try rfl)
    case qz19 => exact fun _ _ _ h => h
    case yz19 => (refine Or.inl ⟨by rfl, ?_⟩; intro w hSw; (try dsimp only at hSw); go_simp; (try with_reducible rfl))
    try simp only [Act.put, List.setIfInBounds_toArray, List.set_cons_zero, List.set_cons_succ]
    refine wpAnyH_take (i := 20) (oi := ?oz20) (v := ?vz20) ?hz20 (by kernel_rfl) (by kernel_rfl) (by kernel_rfl) ?qz20 ?yz20 (by assumption) ?rz20
    case hz20 => simp only [List.getElem?_toArray, List.getElem?_cons_succ, List.getElem?_cons_zero]; (try rfl)
    case qz20 => exact fun _ _ _ h => h
    case yz20 => (refine Or.inl ⟨by rfl, ?_⟩; intro w hSw; (try dsimp only at hSw); go_simp; (try with_reducible rfl))
    try simp only [Act.put, List.setIfInBounds_toArray, List.set_cons_zero, List.set_cons_succ]
    refine wpAnyH_take (i := 21) (oi := ?oz21) (v := ?vz21) ?hz21 (by kernel_rfl) (by kernel_rfl) (by kernel_rfl) ?qz21 ?yz21 (by assumption) ?rz21
    case hz21 => simp only [List.getElem?_toArray, List.getElem?_cons_succ, List.getElem?_cons_zero]; (try rfl)
    case qz21 => exact fun _ _ _ h => h
    case yz21 => (refine Or.inl ⟨by rfl, ?_⟩; intro w hSw; (try dsimp only at hSw); go_simp; (try with_reducible rfl))
    try simp only [Act.put, List.setIfInBounds_toArray, List.set_cons_zero, List.set_cons_succ]
    refine wpAnyH_take (i := 22) (oi := ?oz22) (v := ?vz22) ?hz22 (by kernel_rfl) (by kernel_rfl) (by kernel_rfl) ?qz22 ?yz22 (by assumption) ?rz22
    case hz22 => simp only [List.getElem?_toArray, List.getElem?_cons_succ, List.getElem?_cons_zero]; (try rfl)
    case qz22 => exact fun _ _ _ h => h
    case yz22 => (refine Or.inl ⟨by rfl, ?_⟩; intro w hSw; (try dsimp only at hSw); go_simp; (try with_reducible rfl))
    try simp only [Act.put, List.setIfInBounds_toArray, List.set_cons_zero, List.set_cons_succ]
    refine wpAnyH_take (i := 23) (oi := ?oz23) (v := ?vz23) ?hz23 (by kernel_rfl) (by kernel_rfl) (by kernel_rfl) ?qz23 ?yz23 (by assumption) ?rz23
    case hz23 => simp only [List.getElem?_toArray, List.getElem?_cons_succ, List.getElem?_cons_zero]; (try rfl)
    case qz23 => exact fun _ _ _ h => h
    case yz23 => (refine Or.inl ⟨by rfl, ?_⟩; intro w hSw; (try dsimp only at hSw); go_simp; (try with_reducible rfl))
    try simp only [Act.put, List.setIfInBounds_toArray, List.set_cons_zero, List.set_cons_succ]
    refine wpAnyH_take (i := 24) (oi := ?oz24) (v := ?vz24) ?hz24 (by kernel_rfl) (by kernel_rfl) (by kernel_rfl) ?qz24 ?yz24 (by assumption) ?rz24
    case hz24 => simp only [List.getElem?_toArray, List.getElem?_cons_succ, List.getElem?_cons_zero]; (try rfl)
    case qz24 => exact fun _ _ _ h => h
    case yz24 => (refine Or.inl ⟨by rfl, ?_⟩; intro w hSw; (try dsimp only at hSw); go_simp; (try with_reducible rfl))
    try simp only [Act.put, List.setIfInBounds_toArray, List.set_cons_zero, List.set_cons_succ]
    refine wpAnyH_take (i := 25) (oi := ?oz25) (v := ?vz25) ?hz25 (by kernel_rfl) (by kernel_rfl) (by kernel_rfl) ?qz25 ?yz25 (by assumption) ?rz25
    case hz25 => simp only [List.getElem?_toArray, List.getElem?_cons_succ, List.getElem?_cons_zero]; (try rfl)
    case qz25 => exact fun _ _ _ h => h
    case yz25 => (refine Or.inl ⟨by rfl, ?_⟩; intro w hSw; (try dsimp only at hSw); go_simp; (try with_reducible rfl))
    try simp only [Act.put, List.setIfInBounds_toArray, List.set_cons_zero, List.set_cons_succ]
    refine wpAnyH_take (i := 26) (oi := ?oz26) (v := ?vz26) ?hz26 (by kernel_rfl) (by kernel_rfl) (by kernel_rfl) ?qz26 ?yz26 (by assumption) ?rz26
    case hz26 => simp only [List.getElem?_toArray, List.getElem?_cons_succ, List.getElem?_cons_zero]; (try rfl)
    case qz26 => exact fun _ _ _ h => h
    case yz26 => (refine Or.inl ⟨by rfl, ?_⟩; intro w hSw; (try dsimp only at hSw); go_simp; (try with_reducible rfl))
    try simp only [Act.put, List.setIfInBounds_toArray, List.set_cons_zero, List.set_cons_succ]
    refine wpAnyH_take (i := 27) (oi := ?oz27) (v := ?vz27) ?hz27 (by kernel_rfl) (by kernel_rfl) (by kernel_rfl) ?qz27 ?yz27 (by assumption) ?rz27
    case hz27 => simp only [List.getElem?_toArray, List.getElem?_cons_succ, List.getElem?_cons_zero]; (try rfl)
    case qz27 => exact fun _ _ _ h => h
    case yz27 => (refine Or.inl ⟨by rfl, ?_⟩; intro w hSw; (try dsimp only at hSw); go_simp; (try with_reducible rfl))
    try simp only [Act.put, List.setIfInBounds_toArray, List.set_cons_zero, List.set_cons_succ]
    refine wpAnyH_take (i := 28) (oi := ?oz28) (v := ?vz28) ?hz28 (by kernel_rfl) (by kernel_rfl) (by kernel_rfl) ?qz28 ?yz28 (by assumption) ?rz28
    case hz28 => simp only [List.getElem?_toArray, List.getElem?_cons_succ, List.getElem?_cons_zero]; (try rfl)
    case qz28 => exact fun _ _ _ h => h
    case yz28 => (refine Or.inl ⟨by rfl, ?_⟩; intro w hSw; (try dsimp only at hSw); go_simp; (try with_reducible rfl))
    try simp only [Act.put, List.setIfInBounds_toArray, List.set_cons_zero, List.set_cons_succ]
    refine wpAnyH_take (i := 29) (oi := ?oz29) (v := ?vz29) ?hz29 (by kernel_rfl) (by kernel_rfl) (by kernel_rfl) ?qz29 ?yz29 (by assumption) ?rz29
    case hz29 => simp only [List.getElem?_toArray, List.getElem?_cons_succ, List.getElem?_cons_zero]; (try rfl)
    case qz29 => exact fun _ _ _ h => h
    case yz29 => (refine Or.inl ⟨by rfl, ?_⟩; intro w hSw; (try dsimp only at hSw); go_simp; (try with_reducible rfl))
    try simp only [Act.put, List.setIfInBounds_toArray, List.set_cons_zero, List.set_cons_succ]
    refine wpAnyH_take (i := 30) (oi := ?oz30) (v := ?vz30) ?hz30 (by kernel_rfl) (by kernel_rfl) (by kernel_rfl) ?qz30 ?yz30 (by assumption) ?rz30
    case hz30 => simp only [List.getElem?_toArray, List.getElem?_cons_succ, List.getElem?_cons_zero]; (try rfl)
    case qz30 => exact fun _ _ _ h => h
    case yz30 => (refine Or.inl ⟨by rfl, ?_⟩; intro w hSw; (try dsimp only at hSw); go_simp; (try with_reducible rfl))
    try simp only [Act.put, List.setIfInBounds_toArray, List.set_cons_zero, List.set_cons_succ]
    refine wpAnyH_take (i := 31) (oi := ?oz31) (v := ?vz31) ?hz31 (by kernel_rfl) (by kernel_rfl) (by kernel_rfl) ?qz31 ?yz31 (by assumption) ?rz31
    case hz31 => simp only [List.getElem?_toArray, List.getElem?_cons_succ, List.getElem?_cons_zero]; (try rfl)
    case qz31 => exact fun _ _ _ h => h
    case yz31 => (refine Or.inl ⟨by rfl, ?_⟩; intro w hSw; (try dsimp only at hSw); go_simp; (try with_reducible rfl))
    try simp only [Act.put, List.setIfInBounds_toArray, List.set_cons_zero, List.set_cons_succ]
    refine wpAnyH_take (i := 32) (oi := ?oz32) (v := ?vz32) ?hz32 (by kernel_rfl) (by kernel_rfl) (by kernel_rfl) ?qz32 ?yz32 (by assumption) ?rz32
    case hz32 => simp only [List.getElem?_toArray, List.getElem?_cons_succ, List.getElem?_cons_zero]; (try rfl)
    case qz32 => exact fun _ _ _ h => h
    case yz32 => (refine Or.inl ⟨by rfl, ?_⟩; intro w hSw; (try dsimp only at hSw); go_simp; (try with_reducible rfl))
    try simp only [Act.put, List.setIfInBounds_toArray, List.set_cons_zero, List.set_cons_succ]
    refine wpAnyH_take (i := 33) (oi := ?oz33) (v := ?vz33) ?hz33 (by kernel_rfl) (by kernel_rfl) (by kernel_rfl) ?qz33 ?yz33 (by assumption) ?rz33
    case hz33 => simp only [List.getElem?_toArray, List.getElem?_cons_succ, List.getElem?_cons_zero]; (try rfl)
    case qz33 => exact fun _ _ _ h => h
    case yz33 => (refine Or.inl ⟨by rfl, ?_⟩; intro w hSw; (try dsimp only at hSw); go_simp; (try with_reducible rfl))
    try simp only [Act.put, List.setIfInBounds_toArray, List.set_cons_zero, List.set_cons_succ]
    refine wpAnyH_take (i := 34) (oi := ?oz34) (v := ?vz34) ?hz34 (by kernel_rfl) (by kernel_rfl) (by kernel_rfl) ?qz34 ?yz34 (by assumption) ?rz34
    case hz34 => simp only [List.getElem?_toArray, List.getElem?_cons_succ, List.getElem?_cons_zero]; (try rfl)
    case qz34 => exact fun _ _ _ h => h
    case yz34 => (refine Or.inl ⟨by rfl, ?_⟩; intro w hSw; (try dsimp only at hSw); go_simp; (try with_reducible rfl))
    try simp only [Act.put, List.setIfInBounds_toArray, List.set_cons_zero, List.set_cons_succ]
    refine wpAnyH_take (i := 35) (oi := ?oz35) (v := ?vz35) ?hz35 (by kernel_rfl) (by kernel_rfl) (by kernel_rfl) ?qz35 ?yz35 (by assumption) ?rz35
    case hz35 => simp only [List.getElem?_toArray, List.getElem?_cons_succ, List.getElem?_cons_zero]; (try rfl)
    case qz35 => exact fun _ _ _ h => h
    case yz35 => (refine Or.inl ⟨by rfl, ?_⟩; intro w hSw; (try dsimp only at hSw); go_simp; (try with_reducible rfl))
    try simp only [Act.put, List.setIfInBounds_toArray, List.set_cons_zero, List.set_cons_succ]
    refine wpAnyH_take (i := 36) (oi := ?oz36) (v := ?vz36) ?hz36 (by kernel_rfl) (by kernel_rfl) (by kernel_rfl) ?qz36 ?yz36 (by assumption) ?rz36
    case hz36 => simp only [List.getElem?_toArray, List.getElem?_cons_succ, List.getElem?_cons_zero]; (try rfl)
    case qz36 => exact fun _ _ _ h => h
    case yz36 => (refine Or.inl ⟨by rfl, ?_⟩; intro w hSw; (try dsimp only at hSw); go_simp; (try with_reducible rfl))
    try simp only [Act.put, List.setIfInBounds_toArray, List.set_cons_zero, List.set_cons_succ]
    refine wpAnyH_take (i := 37) (oi := ?oz37) (v := ?vz37) ?hz37 (by kernel_rfl) (by kernel_rfl) (by kernel_rfl) ?qz37 ?yz37 (by assumption) ?rz37
    case hz37 => simp only [List.getElem?_toArray, List.getElem?_cons_succ, List.getElem?_cons_zero]; (try rfl)
    case qz37 => exact fun _ _ _ h => h
    case yz37 => (refine Or.inl ⟨by rfl, ?_⟩; intro w hSw; (try dsimp only at hSw); go_simp; (try with_reducible rfl))
    try simp only [Act.put, List.setIfInBounds_toArray, List.set_cons_zero, List.set_cons_succ]
    refine wpAnyH_take (i := 38) (oi := ?oz38) (v := ?vz38) ?hz38 (by kernel_rfl) (by kernel_rfl) (by kernel_rfl) ?qz38 ?yz38 (by assumption) ?rz38
    case hz38 => simp only [List.getElem?_toArray, List.getElem?_cons_succ, List.getElem?_cons_zero]; (try rfl)
    case qz38 => exact fun _ _ _ h => h
    case yz38 => (refine Or.inl ⟨by rfl, ?_⟩; intro w hSw; (try dsimp only at hSw); go_simp; (try with_reducible rfl))
    try simp only [Act.put, List.setIfInBounds_toArray, List.set_cons_zero, List.set_cons_succ]
    refine wpAnyH_take (i := 39) (oi := ?oz39) (v := ?vz39) ?hz39 (by kernel_rfl) (by kernel_rfl) (by kernel_rfl) ?qz39 ?yz39 (by assumption) ?rz39
    case hz39 => simp only [List.getElem?_toArray, List.getElem?_cons_succ, List.getElem?_cons_zero]; (try rfl)
    case qz39 => exact fun _ _ _ h => h
    case yz39 => (refine Or.inl ⟨by rfl, ?_⟩; intro w hSw; (try dsimp only at hSw); go_simp; (try with_reducible rfl))
    try simp only [Act.put, List.setIfInBounds_toArray, List.set_cons_zero, List.set_cons_succ]
    refine wpAnyH_take (i := 40) (oi := ?oz40) (v := ?vz40) ?hz40 (by kernel_rfl) (by kernel_rfl) (by kernel_rfl) ?qz40 ?yz40 (by assumption) ?rz40
    case hz40 => simp only [List.getElem?_toArray, List.getElem?_cons_succ, List.getElem?_cons_zero]; (try rfl)
    case qz40 => exact fun _ _ _ h => h
    case yz40 => (refine Or.inl ⟨by rfl, ?_⟩; intro w hSw; (try dsimp only at hSw); go_simp; (try with_reducible rfl))
    try simp only [Act.put, List.setIfInBounds_toArray, List.set_cons_zero, List.set_cons_succ]
    refine wpAnyH_take (i := 41) (oi := ?oz41) (v := ?vz41) ?hz41 (by kernel_rfl) (by kernel_rfl) (by kernel_rfl) ?qz41 ?yz41 (by assumption) ?rz41
    case hz41 => simp only [List.getElem?_toArray, List.getElem?_cons_succ, List.getElem?_cons_zero]; (try rfl)
    case qz41 => exact fun _ _ _ h => h
    case yz41 => (refine Or.inl ⟨by rfl, ?_⟩; intro w hSw; (try dsimp only at hSw); go_simp; (try with_reducible rfl))
    try simp only [Act.put, List.setIfInBounds_toArray, List.set_cons_zero, List.set_cons_succ]
    refine wpAnyH_take (i := 42) (oi := ?oz42) (v := ?vz42) ?hz42 (by kernel_rfl) (by kernel_rfl) (by kernel_rfl) ?qz42 ?yz42 (by assumption) ?rz42
    case hz42 => simp only [List.getElem?_toArray, List.getElem?_cons_succ, List.getElem?_cons_zero]; (try rfl)
    case qz42 => exact fun _ _ _ h => h
    case yz42 => (refine Or.inl ⟨by rfl, ?_⟩; intro w hSw; (try dsimp only at hSw); go_simp; (try with_reducible rfl))
    try simp only [Act.put, List.setIfInBounds_toArray, List.set_cons_zero, List.set_cons_succ]
    refine wpAnyH_take (i := 43) (oi := ?oz43) (v := ?vz43) ?hz43 (by kernel_rfl) (by kernel_rfl) (by kernel_rfl) ?qz43 ?yz43 (by assumption) ?rz43
    case hz43 => simp only [List.getElem?_toArray, List.getElem?_cons_succ, List.getElem?_cons_zero]; (try rfl)
    case qz43 => exact fun _ _ _ h => h
    case yz43 => (refine Or.inl ⟨by rfl, ?_⟩; intro w hSw; (try dsimp only at hSw); go_simp; (try with_reducible rfl))
    try simp only [Act.put, List.setIfInBounds_toArray, List.set_cons_zero, List.set_cons_succ]
    refine wpAnyH_take (i := 44) (oi := ?oz44) (v := ?vz44) ?hz44 (by kernel_rfl) (by kernel_rfl) (by kernel_rfl) ?qz44 ?yz44 (by assumption) ?rz44
    case hz44 => simp only [List.getElem?_toArray, List.getElem?_cons_succ, List.getElem?_cons_zero]; (try rfl)
    case qz44 => exact fun _ _ _ h => h
    case yz44 => (refine Or.inl ⟨by rfl, ?_⟩; intro w hSw; (try dsimp only at hSw); go_simp; (try with_reducible rfl))
    try simp only [Act.put, List.setIfInBounds_toArray, List.set_cons_zero, List.set_cons_succ]
    refine wpAnyH_take (i := 45) (oi := ?oz45) (v := ?vz45) ?hz45 (by kernel_rfl) (by kernel_rfl) (by kernel_rfl) ?qz45 ?yz45 (by assumption) ?rz45
    case hz45 => simp only [List.getElem?_toArray, List.getElem?_cons_succ, List.getElem?_cons_zero]; (try rfl)
    case qz45 => exact fun _ _ _ h => h
    case yz45 => (refine Or.inl ⟨by rfl, ?_⟩; intro w hSw; (try dsimp only at hSw); go_simp; (try with_reducible rfl))
    try simp only [Act.put, List.setIfInBounds_toArray, List.set_cons_zero, List.set_cons_succ]
    refine wpAnyH_take (i := 46) (oi := ?oz46) (v := ?vz46) ?hz46 (by kernel_rfl) (by kernel_rfl) (by kernel_rfl) ?qz46 ?yz46 (by assumption) ?rz46
    case hz46 => simp only [List.getElem?_toArray, List.getElem?_cons_succ, List.getElem?_cons_zero]; (try rfl)
    case qz46 => exact fun _ _ _ h => h
    case yz46 => (refine Or.inl ⟨by rfl, ?_⟩; intro w hSw; (try dsimp only at hSw); go_simp; (try with_reducible rfl))
    try simp only [Act.put, List.setIfInBounds_toArray, List.set_cons_zero, List.set_cons_succ]
    refine wpAnyH_take (i := 47) (oi := ?oz47) (v := ?vz47) ?hz47 (by kernel_rfl) (by kernel_rfl) (by kernel_rfl) ?qz47 ?yz47 (by assumption) ?rz47
    case hz47 => simp only [List.getElem?_toArray, List.getElem?_cons_succ, List.getElem?_cons_zero]; (try rfl)
    case qz47 => exact fun _ _ _ h => h
    case yz47 => (refine Or.inl ⟨by rfl, ?_⟩; intro w hSw; (try dsimp only at hSw); go_simp; (try with_reducible rfl))
    try simp only [Act.put, List.setIfInBounds_toArray, List.set_cons_zero, List.set_cons_succ]
    refine wpAnyH_take (i := 48) (oi := ?oz48) (v := ?vz48) ?hz48 (by kernel_rfl) (by kernel_rfl) (by kernel_rfl) ?qz48 ?yz48 (by assumption) ?rz48
    case hz48 => simp only [List.getElem?_toArray, List.getElem?_cons_succ, List.getElem?_cons_zero]; (try rfl)
    case qz48 => exact fun _ _ _ h => h
    case yz48 => (refine Or.inl ⟨by rfl, ?_⟩; intro w hSw; (try dsimp only at hSw); go_simp; (try with_reducible rfl))
    try simp only [Act.put, List.setIfInBounds_toArray, List.set_cons_zero, List.set_cons_succ]
    refine wpAnyH_take (i := 49) (oi := ?oz49) (v := ?vz49) ?hz49 (by kernel_rfl) (by kernel_rfl) (by kernel_rfl) ?qz49 ?yz49 (by assumption) ?rz49
    case hz49 => simp only [List.getElem?_toArray, List.getElem?_cons_succ, List.getElem?_cons_zero]; (try rfl)
    case qz49 => exact fun _ _ _ h => h
    case yz49 => (refine Or.inl ⟨by rfl, ?_⟩; intro w hSw; (try dsimp only at hSw); go_simp; (try with_reducible rfl))
    try simp only [Act.put, List.setIfInBounds_toArray, List.set_cons_zero, List.set_cons_succ]
    refine wpAnyH_take (i := 50) (oi := ?oz50) (v := ?vz50) ?hz50 (by kernel_rfl) (by kernel_rfl) (by kernel_rfl) ?qz50 ?yz50 (by assumption) ?rz50
    case hz50 => simp only [List.getElem?_toArray, List.getElem?_cons_succ, List.getElem?_cons_zero]; (try rfl)
    case qz50 => exact fun _ _ _ h => h
    case yz50 => (refine Or.inl ⟨by rfl, ?_⟩; intro w hSw; (try dsimp only at hSw); go_simp; (try with_reducible rfl))
    try simp only [Act.put, List.setIfInBounds_toArray, List.set_cons_zero, List.set_cons_succ]
    refine wpAnyH_take (i := 51) (oi := ?oz51) (v := ?vz51) ?hz51 (by kernel_rfl) (by kernel_rfl) (by kernel_rfl) ?qz51 ?yz51 (by assumption) ?rz51
    case hz51 => simp only [List.getElem?_toArray, List.getElem?_cons_succ, List.getElem?_cons_zero]; (try rfl)
    case qz51 => exact fun _ _ _ h => h
    case yz51 => (refine Or.inl ⟨by rfl, ?_⟩; intro w hSw; (try dsimp only at hSw); go_simp; (try with_reducible rfl))
    try simp only [Act.put, List.setIfInBounds_toArray, List.set_cons_zero, List.set_cons_succ]
    refine wpAnyH_take (i := 52) (oi := ?oz52) (v := ?vz52) ?hz52 (by kernel_rfl) (by kernel_rfl) (by kernel_rfl) ?qz52 ?yz52 (by assumption) ?rz52
    case hz52 => simp only [List.getElem?_toArray, List.getElem?_cons_succ, List.getElem?_cons_zero]; (try rfl)
    case qz52 => exact fun _ _ _ h => h
    case yz52 => (refine Or.inl ⟨by rfl, ?_⟩; intro w hSw; (try dsimp only at hSw); go_simp; (try with_reducible rfl))
    try simp only [Act.put, List.setIfInBounds_toArray, List.set_cons_zero, List.set_cons_succ]
    refine wpAnyH_take (i := 53) (oi := ?oz53) (v := ?vz53) ?hz53 (by kernel_rfl) (by kernel_rfl) (by kernel_rfl) ?qz53 ?yz53 (by assumption) ?rz53
    case hz53 => simp only [List.getElem?_toArray, List.getElem?_cons_succ, List.getElem?_cons_zero]; (try rfl)
    case qz53 => exact fun _ _ _ h => h
    case yz53 => (refine Or.inl ⟨by rfl, ?_⟩; intro w hSw; (try dsimp only at hSw); go_simp; (try with_reducible rfl))
    try simp only [Act.put, List.setIfInBounds_toArray, List.set_cons_zero, List.set_cons_succ]
    refine wpAnyH_take (i := 54) (oi := ?oz54) (v := ?vz54) ?hz54 (by kernel_rfl) (by kernel_rfl) (by kernel_rfl) ?qz54 ?yz54 (by assumption) ?rz54
    case hz54 => simp only [List.getElem?_toArray, List.getElem?_cons_succ, List.getElem?_cons_zero]; (try rfl)
    case qz54 => exact fun _ _ _ h => h
    case yz54 => (refine Or.inl ⟨by rfl, ?_⟩; intro w hSw; (try dsimp only at hSw); go_simp; (try with_reducible rfl))
    try simp only [Act.put, List.setIfInBounds_toArray, List.set_cons_zero, List.set_cons_succ]
    refine wpAnyH_take (i := 55) (oi := ?oz55) (v := ?vz55) ?hz55 (by kernel_rfl) (by kernel_rfl) (by kernel_rfl) ?qz55 ?yz55 (by assumption) ?rz55
    case hz55 => simp only [List.getElem?_toArray, List.getElem?_cons_succ, List.getElem?_cons_zero]; (try rfl)
    case qz55 => exact fun _ _ _ h => h
    case yz55 => (refine Or.inl ⟨by rfl, ?_⟩; intro w hSw; (try dsimp only at hSw); go_simp; (try with_reducible rfl))
    try simp only [Act.put, List.setIfInBounds_toArray, List.set_cons_zero, List.set_cons_succ]
    refine wpAnyH_ready (rs := [56]) (by kernel_rfl) (by simp) ?_
    refine AllReadyH.cons (o := ?ocz) ?hcz ?kcz AllReadyH.nil
    case hcz => simp only [List.getElem?_toArray, List.getElem?_cons_succ, List.getElem?_cons_zero]; (try rfl)
    intro K hK
    go_simp
    refine (HWH.out _).mono ?_
    rintro e w4 ⟨rfl, B4⟩
    go_wp2_with fail
    have hk4 := KC.below (b := w.heap.size) (p := p) (q := q) (p0 := r0) (g := g) (cap := cap) (p1 := r1') (p2 := r2) (P := P) (Q := Q) (X := (P)) (k1 := 1) (k2 := 11) hk ((Below.refl _ _).drew.trans B4)
    refine hK.out _ _ hk4 (fun hHeld4 => ?_)
    clear hK K
    try simp only [Act.put, List.setIfInBounds_toArray, List.set_cons_zero, List.set_cons_succ]
    refine wpAnyH_take (i := 57) (oi := ?oz57) (v := ?vz57) ?hz57 (by kernel_rfl) (by kernel_rfl) (by kernel_rfl) ?qz57 ?yz57 (by assumption) ?rz57
    case hz57 => simp only [List.getElem?_toArray, List.getElem?_cons_succ, List.getElem?_cons_zero]; (try rfl)
    case qz57 => exact fun _ _ _ h => h
    case yz57 => (refine Or.inl ⟨by rfl, ?_⟩; intro w hSw; (try dsimp only at hSw); go_simp; (try with_reducible rfl))
    try simp only [Act.put, List.setIfInBounds_toArray, List.set_cons_zero, List.set_cons_succ]
    refine wpAnyH_take (i := 58) (oi := ?oz58) (v := ?vz58) ?hz58 (by kernel_rfl) (by kernel_rfl) (by kernel_rfl) ?qz58 ?yz58 (by assumption) ?rz58
    case hz58 => simp only [List.getElem?_toArray, List.getElem?_cons_succ, List.getElem?_cons_zero]; (try rfl)
    case qz58 => exact fun _ _ _ h => h
    case yz58 => (refine Or.inl ⟨by rfl, ?_⟩; intro w hSw; (try dsimp only at hSw); go_simp; (try with_reducible rfl))
    try simp only [Act.put, List.setIfInBounds_toArray, List.set_cons_zero, List.set_cons_succ]
    refine wpAnyH_done (by kernel_rfl) ?_ _
    go_wp2_with fail
    go_ret
    exact ⟨rfl, bt HB2.out ((Below.refl _ _).drew.trans B4)⟩
  · have h0 := HC.out
    have t2 : ¬ (lq : Int) ≤ (lp : Int) := by omega
    have t2n : ¬ lq ≤ lp := by omega
    have t3 : (P.toList == Q.toList) = false := HNE.out h0
    have t4 : ((lp : Int) == 0) = false := beq_eq_false_iff_ne.2 (by omega)
    clear h0 hz
    go_wp2_with fail
    refine (LH1.out _).mono ?_
    rintro e w3 ⟨rfl, rfl⟩
    go_wp2_with fail
    refine (LH1.out _).mono ?_
    rintro e w3 ⟨rfl, rfl⟩
    go_wp2_with fail
    refine (LH2.out _).mono ?_
    rintro e w3 ⟨rfl, rfl⟩
    go_wp2_with fail
    have hk : KC _ w.heap.size p q r0 g cap r1' r2 P Q P 1 11 := ⟨k1, k2, k3, k4, k5, k6, k7, k8, k9⟩
    refine wp_region_held_drew (S := fun w' => w'.cell? ⟨w.heap.size, p, none⟩ = some (.string P) ∧ w'.cell? ⟨w.heap.size, q, none⟩ = some (.string Q) ∧ w'.cell? ⟨r0, 0, none⟩ = some (.int .u8 11) ∧ w'.cell? ⟨r0, 2, none⟩ = some (.string (P)) ∧ w'.cell? ⟨r0, 4, none⟩ = some (.slice (some ⟨g, 0, none⟩) 2 cap) ∧ w'.cell? ⟨g, 0, none⟩ = some (.pointer (some ⟨r1', 0, none⟩)) ∧ w'.cell? ⟨g, 1, none⟩ = some (.pointer (some ⟨r2, 0, none⟩)) ∧ w'.cell? ⟨r1', 0, none⟩ = some (.int .u8 1) ∧ w'.cell? ⟨r2, 0, none⟩ = some (.int .u8 11)) (by kernel_rfl) hk (fun hHeld => ?_)
    refine wpAnyH_take (i := 0) (oi := ?on0) (v := ?vn0) ?hn0 (by kernel_rfl) (by kernel_rfl) (by kernel_rfl) ?qn0 ?yn0 (by assumption) ?rn0
    case hn0 => simp only [List.getElem?_toArray, List.getElem?_cons_succ, List.getElem?_cons_zero]; (try rfl)
    case qn0 => exact fun _ _ _ h => h
    case yn0 => (refine Or.inl ⟨by rfl, ?_⟩; intro w hSw; (try dsimp only at hSw); go_simp; (try with_reducible rfl))
    try simp only [Act.put, List.setIfInBounds_toArray, List.set_cons_zero, List.set_cons_succ]
    refine wpAnyH_take (i := 1) (oi := ?on1) (v := ?vn1) ?hn1 (by kernel_rfl) (by kernel_rfl) (by kernel_rfl) ?qn1 ?yn1 (by assumption) ?rn1
    case hn1 => simp only [List.getElem?_toArray, List.getElem?_cons_succ, List.getElem?_cons_zero]; (try rfl)
    case qn1 => exact fun _ _ _ h => h
    case yn1 => (refine Or.inl ⟨by rfl, ?_⟩; intro w hSw; (try dsimp only at hSw); go_simp; (try with_reducible rfl))
    try simp only [Act.put, List.setIfInBounds_toArray, List.set_cons_zero, List.set_cons_succ]
    refine wpAnyH_take (i := 2) (oi := ?on2) (v := ?vn2) ?hn2 (by kernel_rfl) (by kernel_rfl) (by kernel_rfl) ?qn2 ?yn2 (by assumption) ?rn2
    case hn2 => simp only [List.getElem?_toArray, List.getElem?_cons_succ, List.getElem?_cons_zero]; (try rfl)
    case qn2 => exact fun _ _ _ h => h
    case yn2 => (refine Or.inl ⟨by rfl, ?_⟩; intro w hSw; (try dsimp only at hSw); go_simp; (try with_reducible rfl))
    try simp only [Act.put, List.setIfInBounds_toArray, List.set_cons_zero, List.set_cons_succ]
    refine wpAnyH_take (i := 3) (oi := ?on3) (v := ?vn3) ?hn3 (by kernel_rfl) (by kernel_rfl) (by kernel_rfl) ?qn3 ?yn3 (by assumption) ?rn3
    case hn3 => simp only [List.getElem?_toArray, List.getElem?_cons_succ, List.getElem?_cons_zero]; (try rfl)
    case qn3 => exact fun _ _ _ h => h
    case yn3 => (refine Or.inl ⟨by rfl, ?_⟩; intro w hSw; (try dsimp only at hSw); go_simp; (try with_reducible rfl))
    try simp only [Act.put, List.setIfInBounds_toArray, List.set_cons_zero, List.set_cons_succ]
    refine wpAnyH_take (i := 4) (oi := ?on4) (v := ?vn4) ?hn4 (by kernel_rfl) (by kernel_rfl) (by kernel_rfl) ?qn4 ?yn4 (by assumption) ?rn4
    case hn4 => simp only [List.getElem?_toArray, List.getElem?_cons_succ, List.getElem?_cons_zero]; (try rfl)
    case qn4 => exact fun _ _ _ h => h
    case yn4 => (refine Or.inl ⟨by rfl, ?_⟩; intro w hSw; (try dsimp only at hSw); go_simp; (try with_reducible rfl))
    try simp only [Act.put, List.setIfInBounds_toArray, List.set_cons_zero, List.set_cons_succ]
    refine wpAnyH_take (i := 5) (oi := ?on5) (v := ?vn5) ?hn5 (by kernel_rfl) (by kernel_rfl) (by kernel_rfl) ?qn5 ?yn5 (by assumption) ?rn5
    case hn5 => simp only [List.getElem?_toArray, List.getElem?_cons_succ, List.getElem?_cons_zero]; (try rfl)
    case qn5 => exact fun _ _ _ h => h
    case yn5 => (refine Or.inl ⟨by rfl, ?_⟩; intro w hSw; (try dsimp only at hSw); go_simp; (try with_reducible rfl))
    try simp only [Act.put, List.setIfInBounds_toArray, List.set_cons_zero, List.set_cons_succ]
    refine wpAnyH_take (i := 6) (oi := ?on6) (v := ?vn6) ?hn6 (by kernel_rfl) (by kernel_rfl) (by kernel_rfl) ?qn6 ?yn6 (by assumption) ?rn6
    case hn6 => simp only [List.getElem?_toArray, List.getElem?_cons_succ, List.getElem?_cons_zero]; (try rfl)
    case qn6 => exact fun _ _ _ h => h
    case yn6 => (refine Or.inl ⟨by rfl, ?_⟩; intro w hSw; (try dsimp only at hSw); go_simp; (try with_reducible rfl))
    try simp only [Act.put, List.setIfInBounds_toArray, List.set_cons_zero, List.set_cons_succ]
    refine wpAnyH_take (i := 7) (oi := ?on7) (v := ?vn7) ?hn7 (by kernel_rfl) (by kernel_rfl) (by kernel_rfl) ?qn7 ?yn7 (by assumption) ?rn7
    case hn7 => simp only [List.getElem?_toArray, List.getElem?_cons_succ, List.getElem?_cons_zero]; (try rfl)
    case qn7 => exact fun _ _ _ h => h
    case yn7 => (refine Or.inl ⟨by rfl, ?_⟩; intro w hSw; (try dsimp only at hSw); go_simp; (try with_reducible rfl))
    try simp only [Act.put, List.setIfInBounds_toArray, List.set_cons_zero, List.set_cons_succ]
    refine wpAnyH_take (i := 8) (oi := ?on8) (v := ?vn8) ?hn8 (by kernel_rfl) (by kernel_rfl) (by kernel_rfl) ?qn8 ?yn8 (by assumption) ?rn8
    case hn8 => simp only [List.getElem?_toArray, List.getElem?_cons_succ, List.getElem?_cons_zero]; (try rfl)
    case qn8 => exact fun _ _ _ h => h
    case yn8 => (refine Or.inl ⟨by rfl, ?_⟩; intro w hSw; (try dsimp only at hSw); go_simp; (try with_reducible rfl))
    try simp only [Act.put, List.setIfInBounds_toArray, List.set_cons_zero, List.set_cons_succ]
    refine wpAnyH_take (i := 9) (oi := ?on9) (v := ?vn9) ?hn9 (by kernel_rfl) (by kernel_rfl) (by kernel_rfl) ?qn9 ?yn9 (by assumption) ?rn9
    case hn9 => simp only [List.getElem?_toArray, List.getElem?_cons_succ, List.getElem?_cons_zero]; (try rfl)
    case qn9 => exact fun _ _ _ h => h
    case yn9 => (refine Or.inl ⟨by rfl, ?_⟩; intro w hSw; (try dsimp only at hSw); go_simp; (try with_reducible rfl))
    try simp only [Act.put, List.setIfInBounds_toArray, List.set_cons_zero, List.set_cons_succ]
    refine wpAnyH_take (i := 10) (oi := ?on10) (v := ?vn10) ?hn10 (by kernel_rfl) (by kernel_rfl) (by kernel_rfl) ?qn10 ?yn10 (by assumption) ?rn10
    case hn10 => simp only [List.getElem?_toArray, List.getElem?_cons_succ, List.getElem?_cons_zero]; (try rfl)
    case qn10 => exact fun _ _ _ h => h
    case yn10 => (refine Or.inl ⟨by rfl, ?_⟩; intro w hSw; (try dsimp only at hSw); go_simp; (try with_reducible rfl))
    try simp only [Act.put, List.setIfInBounds_toArray, List.set_cons_zero, List.set_cons_succ]
    refine wpAnyH_take (i := 11) (oi := ?on11) (v := ?vn11) ?hn11 (by kernel_rfl) (by kernel_rfl) (by kernel_rfl) ?qn11 ?yn11 (by assumption) ?rn11
    case hn11 => simp only [List.getElem?_toArray, List.getElem?_cons_succ, List.getElem?_cons_zero]; (try rfl)
    case qn11 => exact fun _ _ _ h => h
    case yn11 => (refine Or.inl ⟨by rfl, ?_⟩; intro w hSw; (try dsimp only at hSw); go_simp; (try with_reducible rfl))
    try simp only [Act.put, List.setIfInBounds_toArray, List.set_cons_zero, List.set_cons_succ]
    refine wpAnyH_take (i := 12) (oi := ?on12) (v := ?vn12) ?hn12 (by kernel_rfl) (by kernel_rfl) (by kernel_rfl) ?qn12 ?yn12 (by assumption) ?rn12
    case hn12 => simp only [List.getElem?_toArray, List.getElem?_cons_succ, List.getElem?_cons_zero]; (try rfl)
    case qn12 => exact fun _ _ _ h => h
    case yn12 => (refine Or.inl ⟨by rfl, ?_⟩; intro w hSw; (try dsimp only at hSw); go_simp; (try with_reducible rfl))
    try simp only [Act.put, List.setIfInBounds_toArray, List.set_cons_zero, List.set_cons_succ]
    refine wpAnyH_take (i := 13) (oi := ?on13) (v := ?vn13) ?hn13 (by kernel_rfl) (by kernel_rfl) (by kernel_rfl) ?qn13 ?yn13 (by assumption) ?rn13
    case hn13 => simp only [List.getElem?_toArray, List.getElem?_cons_succ, List.getElem?_cons_zero]; (try rfl)
    case qn13 => exact fun _ _ _ h => h
    case yn13 => (refine Or.inl ⟨by rfl, ?_⟩; intro w hSw; (try dsimp only at hSw); go_simp; (try with_reducible rfl))
    try simp only [Act.put, List.setIfInBounds_toArray, List.set_cons_zero, List.set_cons_succ]
    refine wpAnyH_take (i := 14) (oi := ?on14) (v := ?vn14) ?hn14 (by kernel_rfl) (by kernel_rfl) (by kernel_rfl) ?qn14 ?yn14 (by assumption) ?rn14
    case hn14 => simp only [List.getElem?_toArray, List.getElem?_cons_succ, List.getElem?_cons_zero]; (try rfl)
    case qn14 => exact fun _ _ _ h => h
    case yn14 => (refine Or.inl ⟨by rfl, ?_⟩; intro w hSw; (try dsimp only at hSw); go_simp; (try with_reducible rfl))
    try simp only [Act.put, List.setIfInBounds_toArray, List.set_cons_zero, List.set_cons_succ]
    refine wpAnyH_take (i := 15) (oi := ?on15) (v := ?vn15) ?hn15 (by kernel_rfl) (by kernel_rfl) (by kernel_rfl) ?qn15 ?yn15 (by assumption) ?rn15
    case hn15 => simp only [List.getElem?_toArray, List.getElem?_cons_succ, List.getElem?_cons_zero]; (try rfl)
    case qn15 => exact fun _ _ _ h => h
    case yn15 => (refine Or.inl ⟨by rfl, ?_⟩; intro w hSw; (try dsimp only at hSw); go_simp; (try with_reducible rfl))
    try simp only [Act.put, List.setIfInBounds_toArray, List.set_cons_zero, List.set_cons_succ]
    refine wpAnyH_take (i := 16) (oi := ?on16) (v := ?vn16) ?hn16 (by kernel_rfl) (by kernel_rfl) (by kernel_rfl) ?qn16 ?yn16 (by assumption) ?rn16
    case hn16 => simp only [List.getElem?_toArray, List.getElem?_cons_succ, List.getElem?_cons_zero]; (try rfl)
    case qn16 => exact fun _ _ _ h => h
    case yn16 => (refine Or.inl ⟨by rfl, ?_⟩; intro w hSw; (try dsimp only at hSw); go_simp; (try with_reducible rfl))
    try simp only [Act.put, List.setIfInBounds_toArray, List.set_cons_zero, List.set_cons_succ]
    refine wpAnyH_take (i := 17) (oi := ?on17) (v := ?vn17) ?hn17 (by kernel_rfl) (by kernel_rfl) (by kernel_rfl) ?qn17 ?yn17 (by assumption) ?rn17
    case hn17 => simp only [List.getElem?_toArray, List.getElem?_cons_succ, List.getElem?_cons_zero]; (try rfl)
    case qn17 => exact fun _ _ _ h => h
    case yn17 => (refine Or.inl ⟨by rfl, ?_⟩; intro w hSw; (try dsimp only at hSw); go_simp; (try with_reducible rfl))
    try simp only [Act.put, List.setIfInBounds_toArray, List.set_cons_zero, List.set_cons_succ]
    refine wpAnyH_take (i := 18) (oi := ?on18) (v := ?vn18) ?hn18 (by kernel_rfl) (by kernel_rfl) (by kernel_rfl) ?qn18 ?yn18 (by assumption) ?rn18
    case hn18 => simp only [List.getElem?_toArray, List.getElem?_cons_succ, List.getElem?_cons_zero]; (try rfl)
    case qn18 => exact fun _ _ _ h => h
    case yn18 => (refine Or.inl ⟨by rfl, ?_⟩; intro w hSw; (try dsimp only at hSw); go_simp; (try with_reducible rfl))
    try simp only [Act.put, List.setIfInBounds_toArray, List.set_cons_zero, List.set_cons_succ]
    refine wpAnyH_take (i := 19) (oi := ?on19) (v := ?vn19) ?hn19 (by kernel_rfl) (by kernel_rfl) (by kernel_rfl) ?qn19 ?yn19 (by assumption) ?rn19
    case hn19 => simp only [List.getElem?_toArray, List.getElem?_cons_succ, List.getElem?_cons_zero]; (try rfl)
    case qn19 => exact fun _ _ _ h => h
    case yn19 => (refine Or.inl ⟨by rfl, ?_⟩; intro w hSw; (try dsimp only at hSw); go_simp; (try with_reducible rfl))
    try simp only [Act.put, List.setIfInBounds_toArray, List.set_cons_zero, List.set_cons_succ]
    refine wpAnyH_take (i := 20) (oi := ?on20) (v := ?vn20) ?hn20 (by kernel_rfl) (by kernel_rfl) (by kernel_rfl) ?qn20 ?yn20 (by assumption) ?rn20
    case hn20 => simp only [List.getElem?_toArray, List.getElem?_cons_succ, List.getElem?_cons_zero]; (try rfl)
    case qn20 => exact fun _ _ _ h => h
    case yn20 => (refine Or.inl ⟨by rfl, ?_⟩; intro w hSw; (try dsimp only at hSw); go_simp; (try with_reducible rfl))
    try simp only [Act.put, List.setIfInBounds_toArray, List.set_cons_zero, List.set_cons_succ]
    refine wpAnyH_take (i := 21) (oi := ?on21) (v := ?vn21) ?hn21 (by kernel_rfl) (by kernel_rfl) (by kernel_rfl) ?qn21 ?yn21 (by assumption) ?rn21
    case hn21 => simp only [List.getElem?_toArray, List.getElem?_cons_succ, List.getElem?_cons_zero]; (try rfl)
    case qn21 => exact fun _ _ _ h => h
    case yn21 => (refine Or.inl ⟨by rfl, ?_⟩; intro w hSw; (try dsimp only at hSw); go_simp; (try with_reducible rfl))
    try simp only [Act.put, List.setIfInBounds_toArray, List.set_cons_zero, List.set_cons_succ]
    refine wpAnyH_take (i := 22) (oi := ?on22) (v := ?vn22) ?hn22 (by kernel_rfl) (by kernel_rfl) (by kernel_rfl) ?qn22 ?yn22 (by assumption) ?rn22
    case hn22 => simp only [List.getElem?_toArray, List.getElem?_cons_succ, List.getElem?_cons_zero]; (try rfl)
    case qn22 => exact fun _ _ _ h => h
    case yn22 => (refine Or.inl ⟨by rfl, ?_⟩; intro w hSw; (try dsimp only at hSw); go_simp; (try with_reducible rfl))
    try simp only [Act.put, List.setIfInBounds_toArray, List.set_cons_zero, List.set_cons_succ]
    refine wpAnyH_take (i := 23) (oi := ?on23) (v := ?vn23) ?hn23 (by kernel_rfl) (by kernel_rfl) (by kernel_rfl) ?qn23 ?yn23 (by assumption) ?rn23
    case hn23 => simp only [List.getElem?_toArray, List.getElem?_cons_succ, List.getElem?_cons_zero]; (try rfl)
    case qn23 => exact fun _ _ _ h => h
    case yn23 => (refine Or.inl ⟨by rfl, ?_⟩; intro w hSw; (try dsimp only at hSw); go_simp; (try with_reducible rfl))
    try simp only [Act.put, List.setIfInBounds_toArray, List.set_cons_zero, List.set_cons_succ]
    refine wpAnyH_take (i := 24) (oi := ?on24) (v := ?vn24) ?hn24 (by kernel_rfl) (by kernel_rfl) (by kernel_rfl) ?qn24 ?yn24 (by assumption) ?rn24
    case hn24 => simp only [List.getElem?_toArray, List.getElem?_cons_succ, List.getElem?_cons_zero]; (try rfl)
    case qn24 => exact fun _ _ _ h => h
    case yn24 => (refine Or.inl ⟨by rfl, ?_⟩; intro w hSw; (try dsimp only at hSw); go_simp; (try with_reducible rfl))
    try simp only [Act.put, List.setIfInBounds_toArray, List.set_cons_zero, List.set_cons_succ]
    refine wpAnyH_take (i := 25) (oi := ?on25) (v := ?vn25) ?hn25 (by kernel_rfl) (by kernel_rfl) (by kernel_rfl) ?qn25 ?yn25 (by assumption) ?rn25
    case hn25 => simp only [List.getElem?_toArray, List.getElem?_cons_succ, List.getElem?_cons_zero]; (try rfl)
    case qn25 => exact fun _ _ _ h => h
    case yn25 => (refine Or.inl ⟨by rfl, ?_⟩; intro w hSw; (try dsimp only at hSw); go_simp; (try with_reducible rfl))
    try simp only [Act.put, List.setIfInBounds_toArray, List.set_cons_zero, List.set_cons_succ]
    refine wpAnyH_take (i := 26) (oi := ?on26) (v := ?vn26) ?hn26 (by kernel_rfl) (by kernel_rfl) (by kernel_rfl) ?qn26 ?yn26 (by assumption) ?rn26
    case hn26 => simp only [List.getElem?_toArray, List.getElem?_cons_succ, List.getElem?_cons_zero]; (try rfl)
    case qn26 => exact fun _ _ _ h => h
    case yn26 => (refine Or.inl ⟨by rfl, ?_⟩; intro w hSw; (try dsimp only at hSw); go_simp; (try with_reducible rfl))
    try simp only [Act.put, List.setIfInBounds_toArray, List.set_cons_zero, List.set_cons_succ]
    refine wpAnyH_take (i := 27) (oi := ?on27) (v := ?vn27) ?hn27 (by kernel_rfl) (by kernel_rfl) (by kernel_rfl) ?qn27 ?yn27 (by assumption) ?rn27
    case hn27 => simp only [List.getElem?_toArray, List.getElem?_cons_succ, List.getElem?_cons_zero]; (try rfl)
    case qn27 => exact fun _ _ _ h => h
    case yn27 => (refine Or.inl ⟨by rfl, ?_⟩; intro w hSw; (try dsimp only at hSw); go_simp; (try with_reducible rfl))
    try simp only [Act.put, List.setIfInBounds_toArray, List.set_cons_zero, List.set_cons_succ]
    refine wpAnyH_take (i := 28) (oi := ?on28) (v := ?vn28) ?hn28 (by kernel_rfl) (by kernel_rfl) (by kernel_rfl) ?qn28 ?yn28 (by assumption) ?rn28
    case hn28 => simp only [List.getElem?_toArray, List.getElem?_cons_succ, List.getElem?_cons_zero]; (try rfl)
    case qn28 => exact fun _ _ _ h => h
    case yn28 => (refine Or.inl ⟨by rfl, ?_⟩; intro w hSw; (try dsimp only at hSw); go_simp; (try with_reducible rfl))
    try simp only [Act.put, List.setIfInBounds_toArray, List.set_cons_zero, List.set_cons_succ]
    refine wpAnyH_take (i := 29) (oi := ?on29) (v := ?vn29) ?hn29 (by kernel_rfl) (by kernel_rfl) (by kernel_rfl) ?qn29 ?yn29 (by assumption) ?rn29
    case hn29 => simp only [List.getElem?_toArray, List.getElem?_cons_succ, List.getElem?_cons_zero]; (try rfl)
    case qn29 => exact fun _ _ _ h => h
    case yn29 => (refine Or.inl ⟨by rfl, ?_⟩; intro w hSw; (try dsimp only at hSw); go_simp; (try with_reducible rfl))
    try simp only [Act.put, List.setIfInBounds_toArray, List.set_cons_zero, List.set_cons_succ]
    refine wpAnyH_take (i := 30) (oi := ?on30) (v := ?vn30) ?hn30 (by kernel_rfl) (by kernel_rfl) (by kernel_rfl) ?qn30 ?yn30 (by assumption) ?rn30
    case hn30 => simp only [List.getElem?_toArray, List.getElem?_cons_succ, List.getElem?_cons_zero]; (try rfl)
    case qn30 => exact fun _ _ _ h => h
    case yn30 => (refine Or.inl ⟨by rfl, ?_⟩; intro w hSw; (try dsimp only at hSw); go_simp; (try with_reducible rfl))
    try simp only [Act.put, List.setIfInBounds_toArray, List.set_cons_zero, List.set_cons_succ]
    refine wpAnyH_take (i := 31) (oi := ?on31) (v := ?vn31) ?hn31 (by kernel_rfl) (by kernel_rfl) (by kernel_rfl) ?qn31 ?yn31 (by assumption) ?rn31
    case hn31 => simp only [List.getElem?_toArray, List.getElem?_cons_succ, List.getElem?_cons_zero]; (try rfl)
    case qn31 => exact fun _ _ _ h => h
    case yn31 => (refine Or.inl ⟨by rfl, ?_⟩; intro w hSw; (try dsimp only at hSw); go_simp; (try with_reducible rfl))
    try simp only [Act.put, List.setIfInBounds_toArray, List.set_cons_zero, List.set_cons_succ]
    refine wpAnyH_take (i := 32) (oi := ?on32) (v := ?vn32) ?hn32 (by kernel_rfl) (by kernel_rfl) (by kernel_rfl) ?qn32 ?yn32 (by assumption) ?rn32
    case hn32 => simp only [List.getElem?_toArray, List.getElem?_cons_succ, List.getElem?_cons_zero]; (try rfl)
    case qn32 => exact fun _ _ _ h => h
    case yn32 => (refine Or.inl ⟨by rfl, ?_⟩; intro w hSw; (try dsimp only at hSw); go_simp; (try with_reducible rfl))
    try simp only [Act.put, List.setIfInBounds_toArray, List.set_cons_zero, List.set_cons_succ]
    refine wpAnyH_take (i := 33) (oi := ?on33) (v := ?vn33) ?hn33 (by kernel_rfl) (by kernel_rfl) (by kernel_rfl) ?qn33 ?yn33 (by assumption) ?rn33
    case hn33 => simp only [List.getElem?_toArray, List.getElem?_cons_succ, List.getElem?_cons_zero]; (try rfl)
    case qn33 => exact fun _ _ _ h => h
    case yn33 => (refine Or.inl ⟨by rfl, ?_⟩; intro w hSw; (try dsimp only at hSw); go_simp; (try with_reducible rfl))
    try simp only [Act.put, List.setIfInBounds_toArray, List.set_cons_zero, List.set_cons_succ]
    refine wpAnyH_take (i := 34) (oi := ?on34) (v := ?vn34) ?hn34 (by kernel_rfl) (by kernel_rfl) (by kernel_rfl) ?qn34 ?yn34 (by assumption) ?rn34
    case hn34 => simp only [List.getElem?_toArray, List.getElem?_cons_succ, List.getElem?_cons_zero]; (try rfl)
    case qn34 => exact fun _ _ _ h => h
    case yn34 => (refine Or.inl ⟨by rfl, ?_⟩; intro w hSw; (try dsimp only at hSw); go_simp; (try with_reducible rfl))
    try simp only [Act.put, List.setIfInBounds_toArray, List.set_cons_zero, List.set_cons_succ]
    refine wpAnyH_take (i := 35) (oi := ?on35) (v := ?vn35) ?hn35 (by kernel_rfl) (by kernel_rfl) (by kernel_rfl) ?qn35 ?yn35 (by assumption) ?rn35
    case hn35 => simp only [List.getElem?_toArray, List.getElem?_cons_succ, List.getElem?_cons_zero]; (try rfl)
    case qn35 => exact fun _ _ _ h => h
    case yn35 => (refine Or.inl ⟨by rfl, ?_⟩; intro w hSw; (try dsimp only at hSw); go_simp; (try with_reducible rfl))
    try simp only [Act.put, List.setIfInBounds_toArray, List.set_cons_zero, List.set_cons_succ]
    refine wpAnyH_take (i := 36) (oi := ?on36) (v := ?vn36) ?hn36 (by kernel_rfl) (by kernel_rfl) (by kernel_rfl) ?qn36 ?yn36 (by assumption) ?rn36
    case hn36 => simp only [List.getElem?_toArray, List.getElem?_cons_succ, List.getElem?_cons_zero]; (try rfl)
    case qn36 => exact fun _ _ _ h => h
    case yn36 => (refine Or.inl ⟨by rfl, ?_⟩; intro w hSw; (try dsimp only at hSw); go_simp; (try with_reducible rfl))
    try simp only [Act.put, List.setIfInBounds_toArray, List.set_cons_zero, List.set_cons_succ]
    refine wpAnyH_take (i := 37) (oi := ?on37) (v := ?vn37) ?hn37 (by kernel_rfl) (by kernel_rfl) (by kernel_rfl) ?qn37 ?yn37 (by assumption) ?rn37
    case hn37 => simp only [List.getElem?_toArray, List.getElem?_cons_succ, List.getElem?_cons_zero]; (try rfl)
    case qn37 => exact fun _ _ _ h => h
    case yn37 => (refine Or.inl ⟨by rfl, ?_⟩; intro w hSw; (try dsimp only at hSw); go_simp; (try with_reducible rfl))
    try simp only [Act.put, List.setIfInBounds_toArray, List.set_cons_zero, List.set_cons_succ]
    refine wpAnyH_take (i := 38) (oi := ?on38) (v := ?vn38) ?hn38 (by kernel_rfl) (by kernel_rfl) (by kernel_rfl) ?qn38 ?yn38 (by assumption) ?rn38
    case hn38 => simp only [List.getElem?_toArray, List.getElem?_cons_succ, List.getElem?_cons_zero]; (try rfl)
    case qn38 => exact fun _ _ _ h => h
    case yn38 => (refine Or.inl ⟨by rfl, ?_⟩; intro w hSw; (try dsimp only at hSw); go_simp; (try with_reducible rfl))
    try simp only [Act.put, List.setIfInBounds_toArray, List.set_cons_zero, List.set_cons_succ]
    refine wpAnyH_take (i := 39) (oi := ?on39) (v := ?vn39) ?hn39 (by kernel_rfl) (by kernel_rfl) (by kernel_rfl) ?qn39 ?yn39 (by assumption) ?rn39
    case hn39 => simp only [List.getElem?_toArray, List.getElem?_cons_succ, List.getElem?_cons_zero]; (try rfl)
    case qn39 => exact fun _ _ _ h => h
    case yn39 => (refine Or.inl ⟨by rfl, ?_⟩; intro w hSw; (try dsimp only at hSw); go_simp; (try with_reducible rfl))
    try simp only [Act.put, List.setIfInBounds_toArray, List.set_cons_zero, List.set_cons_succ]
    refine wpAnyH_take (i := 40) (oi := ?on40) (v := ?vn40) ?hn40 (by kernel_rfl) (by kernel_rfl) (by kernel_rfl) ?qn40 ?yn40 (by assumption) ?rn40
    case hn40 => simp only [List.getElem?_toArray, List.getElem?_cons_succ, List.getElem?_cons_zero]; (try rfl)
    case qn40 => exact fun _ _ _ h => h
    case yn40 => (refine Or.inl ⟨by rfl, ?_⟩; intro w hSw; (try dsimp only at hSw); go_simp; (try with_reducible rfl))
    try simp only [Act.put, List.setIfInBounds_toArray, List.set_cons_zero, List.set_cons_succ]
    refine wpAnyH_take (i := 41) (oi := ?on41) (v := ?vn41) ?hn41 (by kernel_rfl) (by kernel_rfl) (by kernel_rfl) ?qn41 ?yn41 (by assumption) ?rn41
    case hn41 => simp only [List.getElem?_toArray, List.getElem?_cons_succ, List.getElem?_cons_zero]; (try rfl)
    case qn41 => exact fun _ _ _ h => h
    case yn41 => (refine Or.inl ⟨by rfl, ?_⟩; intro w hSw; (try dsimp only at hSw); go_simp; (try with_reducible rfl))
    try simp only [Act.put, List.setIfInBounds_toArray, List.set_cons_zero, List.set_cons_succ]
    refine wpAnyH_take (i := 42) (oi := ?on42) (v := ?vn42) ?hn42 (by kernel_rfl) (by kernel_rfl) (by kernel_rfl) ?qn42 ?yn42 (by assumption) ?rn42
    case hn42 => simp only [List.getElem?_toArray, List.getElem?_cons_succ, List.getElem?_cons_zero]; (try rfl)
    case qn42 => exact fun _ _ _ h => h
    case yn42 => (refine Or.inl ⟨by rfl, ?_⟩; intro w hSw; (try dsimp only at hSw); go_simp; (try with_reducible rfl))
    try simp only [Act.put, List.setIfInBounds_toArray, List.set_cons_zero, List.set_cons_succ]
    refine wpAnyH_take (i := 43) (oi := ?on43) (v := ?vn43) ?hn43 (by kernel_rfl) (by kernel_rfl) (by kernel_rfl) ?qn43 ?yn43 (by assumption) ?rn43
    case hn43 => simp only [List.getElem?_toArray, List.getElem?_cons_succ, List.getElem?_cons_zero]; (try rfl)
    case qn43 => exact fun _ _ _ h => h
    case yn43 => (refine Or.inl ⟨by rfl, ?_⟩; intro w hSw; (try dsimp only at hSw); go_simp; (try with_reducible rfl))
    try simp only [Act.put, List.setIfInBounds_toArray, List.set_cons_zero, List.set_cons_succ]
    refine wpAnyH_take (i := 44) (oi := ?on44) (v := ?vn44) ?hn44 (by kernel_rfl) (by kernel_rfl) (by kernel_rfl) ?qn44 ?yn44 (by assumption) ?rn44
    case hn44 => simp only [List.getElem?_toArray, List.getElem?_cons_succ, List.getElem?_cons_zero]; (try rfl)
    case qn44 => exact fun _ _ _ h => h
    case yn44 => (refine Or.inl ⟨by rfl, ?_⟩; intro w hSw; (try dsimp only at hSw); go_simp; (try with_reducible rfl))
    try simp only [Act.put, List.setIfInBounds_toArray, List.set_cons_zero, List.set_cons_succ]
    refine wpAnyH_take (i := 45) (oi := ?on45) (v := ?vn45) ?hn45 (by kernel_rfl) (by kernel_rfl) (by kernel_rfl) ?qn45 ?yn45 (by assumption) ?rn45
    case hn45 => simp only [List.getElem?_toArray, List.getElem?_cons_succ, List.getElem?_cons_zero]; (try rfl)
    case qn45 => exact fun _ _ _ h => h
    case yn45 => (refine Or.inl ⟨by rfl, ?_⟩; intro w hSw; (try dsimp only at hSw); go_simp; (try with_reducible rfl))
    try simp only [Act.put, List.setIfInBounds_toArray, List.set_cons_zero, List.set_cons_succ]
    refine wpAnyH_take (i := 46) (oi := ?on46) (v := ?vn46) ?hn46 (by kernel_rfl) (by kernel_rfl) (by kernel_rfl) ?qn46 ?yn46 (by assumption) ?rn46
    case hn46 => simp only [List.getElem?_toArray, List.getElem?_cons_succ, List.getElem?_cons_zero]; (try rfl)
    case qn46 => exact fun _ _ _ h => h
    case yn46 => (refine Or.inl ⟨by rfl, ?_⟩; intro w hSw; (try dsimp only at hSw); go_simp; (try with_reducible rfl))
    try simp only [Act.put, List.setIfInBounds_toArray, List.set_cons_zero, List.set_cons_succ]
    refine wpAnyH_take (i := 47) (oi := ?on47) (v := ?vn47) ?hn47 (by kernel_rfl) (by kernel_rfl) (by kernel_rfl) ?qn47 ?yn47 (by assumption) ?rn47
    case hn47 => simp only [List.getElem?_toArray, List.getElem?_cons_succ, List.getElem?_cons_zero]; (try rfl)
    case qn47 => exact fun _ _ _ h => h
    case yn47 => (refine Or.inl ⟨by rfl, ?_⟩; intro w hSw; (try dsimp only at hSw); go_simp; (try with_reducible rfl))
    try simp only [Act.put, List.setIfInBounds_toArray, List.set_cons_zero, List.set_cons_succ]
    refine wpAnyH_take (i := 48) (oi := ?on48) (v := ?vn48) ?hn48 (by kernel_rfl) (by kernel_rfl) (by kernel_rfl) ?qn48 ?yn48 (by assumption) ?rn48
    case hn48 => simp only [List.getElem?_toArray, List.getElem?_cons_succ, List.getElem?_cons_zero]; (try rfl)
    case qn48 => exact fun _ _ _ h => h
    case yn48 => (refine Or.inl ⟨by rfl, ?_⟩; intro w hSw; (try dsimp only at hSw); go_simp; (try with_reducible rfl))
    try simp only [Act.put, List.setIfInBounds_toArray, List.set_cons_zero, List.set_cons_succ]
    refine wpAnyH_take (i := 49) (oi := ?on49) (v := ?vn49) ?hn49 (by kernel_rfl) (by kernel_rfl) (by kernel_rfl) ?qn49 ?yn49 (by assumption) ?rn49
    case hn49 => simp only [List.getElem?_toArray, List.getElem?_cons_succ, List.getElem?_cons_zero]; (try rfl)
    case qn49 => exact fun _ _ _ h => h
    case yn49 => (refine Or.inl ⟨by rfl, ?_⟩; intro w hSw; (try dsimp only at hSw); go_simp; (try with_reducible rfl))
    try simp only [Act.put, List.setIfInBounds_toArray, List.set_cons_zero, List.set_cons_succ]
    refine wpAnyH_take (i := 50) (oi := ?on50) (v := ?vn50) ?hn50 (by kernel_rfl) (by kernel_rfl) (by kernel_rfl) ?qn50 ?yn50 (by assumption) ?rn50
    case hn50 => simp only [List.getElem?_toArray, List.getElem?_cons_succ, List.getElem?_cons_zero]; (try rfl)
    case qn50 => exact fun _ _ _ h => h
    case yn50 => (refine Or.inl ⟨by rfl, ?_⟩; intro w hSw; (try dsimp only at hSw); go_simp; (try with_reducible rfl))
    try simp only [Act.put, List.setIfInBounds_toArray, List.set_cons_zero, List.set_cons_succ]
    refine wpAnyH_take (i := 51) (oi := ?on51) (v := ?vn51) ?hn51 (by kernel_rfl) (by kernel_rfl) (by kernel_rfl) ?qn51 ?yn51 (by assumption) ?rn51
    case hn51 => simp only [List.getElem?_toArray, List.getElem?_cons_succ, List.getElem?_cons_zero]; (try rfl)
    case qn51 => exact fun _ _ _ h => h
    case yn51 => (refine Or.inl ⟨by rfl, ?_⟩; intro w hSw; (try dsimp only at hSw); go_simp; (try with_reducible rfl))
    try simp only [Act.put, List.setIfInBounds_toArray, List.set_cons_zero, List.set_cons_succ]
    refine wpAnyH_take (i := 52) (oi := ?on52) (v := ?vn52) ?hn52 (by kernel_rfl) (by kernel_rfl) (by kernel_rfl) ?qn52 ?yn52 (by assumption) ?rn52
    case hn52 => simp only [List.getElem?_toArray, List.getElem?_cons_succ, List.getElem?_cons_zero]; (try rfl)
    case qn52 => exact fun _ _ _ h => h
    case yn52 => (refine Or.inl ⟨by rfl, ?_⟩; intro w hSw; (try dsimp only at hSw); go_simp; (try with_reducible rfl))
    try simp only [Act.put, List.setIfInBounds_toArray, List.set_cons_zero, List.set_cons_succ]
    refine wpAnyH_take (i := 53) (oi := ?on53) (v := ?vn53) ?hn53 (by kernel_rfl) (by kernel_rfl) (by kernel_rfl) ?qn53 ?yn53 (by assumption) ?rn53
    case hn53 => simp only [List.getElem?_toArray, List.getElem?_cons_succ, List.getElem?_cons_zero]; (try rfl)
    case qn53 => exact fun _ _ _ h => h
    case yn53 => (refine Or.inl ⟨by rfl, ?_⟩; intro w hSw; (try dsimp only at hSw); go_simp; (try with_reducible rfl))
    try simp only [Act.put, List.setIfInBounds_toArray, List.set_cons_zero, List.set_cons_succ]
    refine wpAnyH_take (i := 54) (oi := ?on54) (v := ?vn54) ?hn54 (by kernel_rfl) (by kernel_rfl) (by kernel_rfl) ?qn54 ?yn54 (by assumption) ?rn54
    case hn54 => simp only [List.getElem?_toArray, List.getElem?_cons_succ, List.getElem?_cons_zero]; (try rfl)
    case qn54 => exact fun _ _ _ h => h
    case yn54 => (refine Or.inl ⟨by rfl, ?_⟩; intro w hSw; (try dsimp only at hSw); go_simp; (try with_reducible rfl))
    try simp only [Act.put, List.setIfInBounds_toArray, List.set_cons_zero, List.set_cons_succ]
    refine wpAnyH_take (i := 55) (oi := ?on55) (v := ?vn55) ?hn55 (by kernel_rfl) (by kernel_rfl) (by kernel_rfl) ?qn55 ?yn55 (by assumption) ?rn55
    case hn55 => simp only [List.getElem?_toArray, List.getElem?_cons_succ, List.getElem?_cons_zero]; (try rfl)
    case qn55 => exact fun _ _ _ h => h
    case yn55 => (refine Or.inl ⟨by rfl, ?_⟩; intro w hSw; (try dsimp only at hSw); go_simp; (try with_reducible rfl))
    try simp only [Act.put, List.setIfInBounds_toArray, List.set_cons_zero, List.set_cons_succ]
    refine wpAnyH_ready (rs := [56]) (by kernel_rfl) (by simp) ?_
    refine AllReadyH.cons (o := ?ocn) ?hcn ?kcn AllReadyH.nil
    case hcn => simp only [List.getElem?_toArray, List.getElem?_cons_succ, List.getElem?_cons_zero]; (try rfl)
    intro K hK
    go_simp
    refine (HWH.out _).mono ?_
    rintro e w4 ⟨rfl, B4⟩
    go_wp2_with fail
    have hk4 := KC.below (b := w.heap.size) (p := p) (q := q) (p0 := r0) (g := g) (cap := cap) (p1 := r1') (p2 := r2) (P := P) (Q := Q) (X := (P)) (k1 := 1) (k2 := 11) hk ((Below.refl _ _).drew.trans B4)
    refine hK.out _ _ hk4 (fun hHeld4 => ?_)
    clear hK K
    try simp only [Act.put, List.setIfInBounds_toArray, List.set_cons_zero, List.set_cons_succ]
    refine wpAnyH_take (i := 57) (oi := ?on57) (v := ?vn57) ?hn57 (by kernel_rfl) (by kernel_rfl) (by kernel_rfl) ?qn57 ?yn57 (by assumption) ?rn57
    case hn57 => simp only [List.getElem?_toArray, List.getElem?_cons_succ, List.getElem?_cons_zero]; (try rfl)
    case qn57 => exact fun _ _ _ h => h
    case yn57 => (refine Or.inl ⟨by rfl, ?_⟩; intro w hSw; (try dsimp only at hSw); go_simp; (try with_reducible rfl))
    try simp only [Act.put, List.setIfInBounds_toArray, List.set_cons_zero, List.set_cons_succ]
    refine wpAnyH_take (i := 58) (oi := ?on58) (v := ?vn58) ?hn58 (by kernel_rfl) (by kernel_rfl) (by kernel_rfl) ?qn58 ?yn58 (by assumption) ?rn58
    case hn58 => simp only [List.getElem?_toArray, List.getElem?_cons_succ, List.getElem?_cons_zero]; (try rfl)
    case qn58 => exact fun _ _ _ h => h
    case yn58 => (refine Or.inl ⟨by rfl, ?_⟩; intro w hSw; (try dsimp only at hSw); go_simp; (try with_reducible rfl))
    try simp only [Act.put, List.setIfInBounds_toArray, List.set_cons_zero, List.set_cons_succ]
    refine wpAnyH_done (by kernel_rfl) ?_ _
    go_wp2_with fail
    go_ret
    exact ⟨rfl, bt HB2.out ((Below.refl _ _).drew.trans B4)⟩
theorem sides_any (a b : Int) (l1 : 0 ≤ a) (u1 : a ≤ 255) (l2 : 0 ≤ b) (u2 : b ≤ 255) (w : World) :
    Calls Try.prog 6 #[.int .u8 a, .int .u8 b] w fun e w' => e = .returned (.bool true) ∧ Below w.heap.size w w' := by
  obtain ⟨p, ha, hp⟩ : ∃ p : Nat, a % 15 = (p : Int) ∧ p < 15 := ⟨(a % 15).toNat, by omega, by omega⟩
  obtain ⟨q, hb, hq⟩ : ∃ p : Nat, b % 15 = (p : Int) ∧ p < 15 := ⟨(b % 15).toNat, by omega, by omega⟩
  by_cases hA : lvO p = 0 ∧ lvO q = 0
  · exact sides_A p q hp hq a b l1 u1 l2 u2 ha hb hA w
  by_cases hB : lvO q ≤ lvO p
  · exact sides_B p q hp hq a b l1 u1 l2 u2 ha hb ⟨hB, fun h => hA ⟨h, by omega⟩⟩ w
  · exact sides_C p q hp hq a b l1 u1 l2 u2 ha hb (by omega) w
end Go.Proofs.Ytnaihncmichfaaa
