/- Law 6: operators of levels, walked. -/
import Derived.Test.YtnaihncmichfaaaEyE
import Derived.Deep.RegionHeld3
namespace Go.Proofs.Ytnaihncmichfaaa
open Go.RowKit Go.Op
set_option maxHeartbeats 4000000
set_option maxRecDepth 100000
set_option linter.unusedVariables false
set_option linter.unusedSimpArgs false

theorem op_len : ∀ p : Fin 15, (opB p).length ≤ 3 := by decide
theorem data_app (a b : ByteArray) : (a ++ b).data.toList = a.data.toList ++ b.data.toList := by simp [ByteArray.data_append]
theorem src_data (p q : Nat) : (((((⟨#[117, 32]⟩ : ByteArray) ++ ⟨(opB p).toArray⟩) ++ ⟨#[32, 118, 32]⟩) ++ ⟨(opB q).toArray⟩) ++ ⟨#[32, 119]⟩).data.toList = srcO p q := by
  simp only [data_app]
  rfl
/-- What the walk reads. -/
abbrev KC (w : World) (b p q p0 g cap p1 p2 : Nat) (P Q X : ByteArray) (k1 k2 : Nat) : Prop :=
  w.cell? ⟨b, p, none⟩ = some (.string P) ∧ w.cell? ⟨b, q, none⟩ = some (.string Q) ∧ w.cell? ⟨p0, 0, none⟩ = some (.int .u8 11) ∧ w.cell? ⟨p0, 2, none⟩ = some (.string X) ∧ w.cell? ⟨p0, 4, none⟩ = some (.slice (some ⟨g, 0, none⟩) 2 cap) ∧
  w.cell? ⟨g, 0, none⟩ = some (.pointer (some ⟨p1, 0, none⟩)) ∧ w.cell? ⟨g, 1, none⟩ = some (.pointer (some ⟨p2, 0, none⟩)) ∧ w.cell? ⟨p1, 0, none⟩ = some (.int .u8 k1) ∧ w.cell? ⟨p2, 0, none⟩ = some (.int .u8 k2)
theorem KC.below {w w' : World} {b p q p0 g cap p1 p2 : Nat} {P Q X : ByteArray} {k1 k2 : Nat} (h : KC w b p q p0 g cap p1 p2 P Q X k1 k2) (hb : Below w.heap.size w w') : KC w' b p q p0 g cap p1 p2 P Q X k1 k2 := by
  have lt : ∀ {a : Addr} {v : Value}, w.cell? a = some v → w'.cell? a = some v := fun {a v} hc => (hb.cell (World.block_lt_of_cell? _ _ hc)).trans hc
  obtain ⟨h1, h2, h3, h4, h5, h6, h7, h8, h9⟩ := h
  exact ⟨lt h1, lt h2, lt h3, lt h4, lt h5, lt h6, lt h7, lt h8, lt h9⟩
theorem sides_A (p q : Nat) (hp : p < 15) (hq : q < 15) (a b : Int) (l1 : 0 ≤ a) (u1 : a ≤ 255) (l2 : 0 ≤ b) (u2 : b ≤ 255) (ha : a % 15 = (p : Int)) (hb : b % 15 = (q : Int)) (hc : lvO p = 0 ∧ lvO q = 0) (w : World) :
    Calls Try.prog 6 #[.int .u8 a, .int .u8 b] w fun e w' => e = .returned (.bool true) ∧ Below w.heap.size w w' := by
  obtain ⟨s, hs⟩ : ∃ s, (((((⟨#[117, 32]⟩ : ByteArray) ++ ⟨(opB p).toArray⟩) ++ ⟨#[32, 118, 32]⟩) ++ ⟨(opB q).toArray⟩) ++ ⟨#[32, 119]⟩) = s := ⟨_, rfl⟩
  have hsd : s.data.toList = srcO p q := by rw [← hs]; exact src_data p q
  have hsz : s.size ≤ 16384 := by
    have h1 := op_len ⟨p, hp⟩
    have h2 := op_len ⟨q, hq⟩
    simp only at h1 h2
    have h3 : s.size = s.data.toList.length := by rw [Array.length_toList]; rfl
    rw [h3, hsd]
    unfold srcO
    simp only [List.length_append, List.length_cons, List.length_nil]
    omega
  have HR0 := fun w => Row_any s hsz w
  obtain ⟨hl, hx⟩ := row_at s hsz
  have HE := fun v w h => Expr_any (rowT s.data.toList) v 0 w h (by omega) hl hx
  have HS : shapeOf (exprM (rowT s.data.toList) ((rowT s.data.toList).length + 2) 0) = some (11, opB p, [1, 1], 3) := by
    rw [hsd]
    refine (sides_all ⟨p, hp⟩ ⟨q, hq⟩).trans ?_
    unfold sideB
    rw [if_pos hc]
  have hPQ : p = q ∨ opB p ≠ opB q := by
    have h0 := ops_ne ⟨p, hp⟩ ⟨q, hq⟩
    simp only [Fin.mk.injEq] at h0
    by_cases h : p = q
    · exact .inl h
    · exact .inr (fun e => h (h0.mp e))
  obtain ⟨res, hres⟩ : ∃ res, exprM (rowT s.data.toList) ((rowT s.data.toList).length + 2) 0 = res := ⟨_, rfl⟩
  rw [hres] at HE HS
  obtain ⟨P, hP⟩ : ∃ P : ByteArray, ⟨(opB p).toArray⟩ = P := ⟨_, rfl⟩
  obtain ⟨Q, hQ⟩ : ∃ P : ByteArray, ⟨(opB q).toArray⟩ = P := ⟨_, rfl⟩
  have cp := opL_cell w p hp
  have cq := opL_cell w q hq
  have b0 := below_new w (.cells (opsL.map fun x => Value.string ⟨x.toArray⟩).toArray 9)
  rw [hP] at cp hs
  rw [hQ] at cq hs
  obtain ⟨w0, hw0⟩ : ∃ w0, w.alloc (.cells (opsL.map fun x => Value.string ⟨x.toArray⟩).toArray 9) = w0 := ⟨_, rfl⟩
  have hw0' : w.alloc (.cells #[.string ⟨#[42]⟩, .string ⟨#[47]⟩, .string ⟨#[68, 73, 86]⟩, .string ⟨#[77, 79, 68]⟩, .string ⟨#[65, 78, 68]⟩, .string ⟨#[43]⟩, .string ⟨#[45]⟩, .string ⟨#[79, 82]⟩, .string ⟨#[61]⟩, .string ⟨#[35]⟩, .string ⟨#[60]⟩, .string ⟨#[60, 61]⟩, .string ⟨#[62]⟩, .string ⟨#[62, 61]⟩, .string ⟨#[73, 78]⟩] 9) = w0 := hw0
  rw [hw0] at cp cq b0
  obtain ⟨ts, hts⟩ : ∃ ts, rowT s.data.toList = ts := ⟨_, rfl⟩
  rw [hts] at HR0 HE
  have HR : ∀ w, Calls Try.prog 10 #[.string (((((⟨#[117, 32]⟩ : ByteArray) ++ P) ++ ⟨#[32, 118, 32]⟩) ++ Q) ++ ⟨#[32, 119]⟩)] w fun e w' => ∃ v, e = .returned v ∧ Below w.heap.size w w' ∧ RowC w' w'.heap.size v ts := by rw [hs]; exact HR0
  have zP : P.size ≤ 3 := by
    have h1 := op_len ⟨p, hp⟩
    simp only at h1
    rw [← hP]; simpa [ByteArray.size] using h1
  have zQ : Q.size ≤ 3 := by
    have h1 := op_len ⟨q, hq⟩
    simp only at h1
    rw [← hQ]; simpa [ByteArray.size] using h1
  have f1 : ¬ (9223372036854775807 : Nat) < 2 + P.size := by omega
  have f2 : ¬ (9223372036854775807 : Nat) < 2 + P.size + 3 := by omega
  have f3 : ¬ (9223372036854775807 : Nat) < 2 + P.size + 3 + Q.size := by omega
  have f4 : ¬ (9223372036854775807 : Nat) < 2 + P.size + 3 + Q.size + 2 := by omega
  have HB := Lib.hid b0
  have HL := Lib.hid (show w.heap.size < w0.heap.size by rw [← hw0]; simp)
  have HRH := Lib.hid HR
  have HEH := Lib.hid HE
  have HSH := Lib.hid HS
  have HWH := Lib.hid rworks_any
  have HPH := Lib.hid hP
  have HQH := Lib.hid hQ
  have HNE : Hid (lvO p < lvO q → (P.toList == Q.toList) = false) := Lib.hid (fun hlt => by
    rcases hPQ with h | h
    · rw [h] at hlt; exact absurd hlt (Nat.lt_irrefl _)
    · refine beq_eq_false_iff_ne.2 ?_
      rw [← hP, ← hQ, ByteArray.toList_eq, ByteArray.toList_eq]
      exact h)
  have p0 : (0 : Int) ≤ (p : Int) := by omega
  have p1 : (p : Int) < 15 := by omega
  have q0 : (0 : Int) ≤ (q : Int) := by omega
  have q1 : (q : Int) < 15 := by omega
  have L1 := fun w => level_any p hp w
  have L2 := fun w => level_any q hq w
  obtain ⟨lp, hlp⟩ : ∃ n, lvO p = n := ⟨_, rfl⟩
  obtain ⟨lq, hlq⟩ : ∃ n, lvO q = n := ⟨_, rfl⟩
  rw [hlp] at L1
  rw [hlq] at L2
  rw [hlp, hlq] at hc HNE
  have LH1 := Lib.hid L1
  have LH2 := Lib.hid L2
  have HC := Lib.hid hc
  clear zP zQ HR0 hts hx HR HE HS hs hsd b0 hw0 hP hQ hres hsz hl hPQ L1 L2 hlp hlq hc
  go_enter Try.func6, Try.ntmps6
  go_wp2_with fail
  try simp only [ha, hb]
  clear ha hb
  have hlt0 : w.heap.size < w0.heap.size := HL.out
  go_region_held3 (fun w' => w'.cell? ⟨w.heap.size, p, none⟩ = some (.string P) ∧ w'.cell? ⟨w.heap.size, q, none⟩ = some (.string Q)) (first | exact ⟨cp, cq⟩ | exact ⟨cp1, cq1⟩ | exact ⟨cp2, cq2⟩ | go_keep)
    (first
      | (go_at_call 10; refine (HRH.out _).mono ?_; rintro e w1 ⟨v1, rfl, B1, r1⟩; have cp1 := (B1.cell (p := ⟨w.heap.size, p, none⟩) hlt0).trans cp; have cq1 := (B1.cell (p := ⟨w.heap.size, q, none⟩) hlt0).trans cq; have hlt1 : w.heap.size < w1.heap.size := Nat.lt_of_lt_of_le hlt0 B1.size; have C1 := Lib.hid (HEH.out v1 w1 r1.1))
      | (go_at_call 15; refine C1.out.mono ?_; rintro e w2 h2; have B2 := h2.1; have cp2 := (B2.cell (p := ⟨w.heap.size, p, none⟩) hlt1).trans cp1; have cq2 := (B2.cell (p := ⟨w.heap.size, q, none⟩) hlt1).trans cq1; obtain ⟨r0, r1', r2, g, cap, d, d1, d2, v1', v2, rfl, _, n0, dk, dx, g0, g1, n1, dk1, n2, dk2⟩ := h2.shape HSH.out))
  have hk : KC w2 w.heap.size p q r0 g cap r1' r2 P Q ⟨(opB p).toArray⟩ 1 1 := by
    refine ⟨cp2, cq2, ?_, ?_, ?_, g0, g1, ?_, ?_⟩
    · rw [Lib.cell_of_heap n0]; show some (Value.int .u8 (d.k : Int)) = _; rw [dk]; try rfl
    · rw [Lib.cell_of_heap n0]; show some (Value.string ⟨d.x.toArray⟩) = _; rw [dx]
    · rw [Lib.cell_of_heap n0]; rfl
    · rw [Lib.cell_of_heap n1]; show some (Value.int .u8 (d1.k : Int)) = _; rw [dk1]; try rfl
    · rw [Lib.cell_of_heap n2]; show some (Value.int .u8 (d2.k : Int)) = _; rw [dk2]; try rfl
  have B02 : Below w.heap.size w w2 := (HB.out.drew.trans (B1.mono (Nat.le_of_lt hlt0))).trans (B2.mono (Nat.le_of_lt hlt1))
  have HB2 := Lib.hid B02
  simp only [HPH.out, ptrV] at hk
  clear n0 dk dx g0 g1 n1 dk1 n2 dk2 cp cq cp1 cq1 cp2 cq2 h2 B1 B2 B02 hlt0 hlt1 r1 C1
  try simp only [ptrV]
  obtain ⟨k1, k2, k3, k4, k5, k6, k7, k8, k9⟩ := hk
  obtain ⟨rfl, rfl⟩ := HC.out
  go_wp2_with fail
  refine (LH1.out _).mono ?_
  rintro e w3 ⟨rfl, rfl⟩
  go_wp2_with fail
  refine (LH2.out _).mono ?_
  rintro e w3 ⟨rfl, rfl⟩
  go_wp2_with fail
  have hk : KC _ w.heap.size p q r0 g cap r1' r2 P Q P 1 1 := ⟨k1, k2, k3, k4, k5, k6, k7, k8, k9⟩
  go_region_held3 (fun w' => w'.cell? ⟨w.heap.size, p, none⟩ = some (.string P) ∧ w'.cell? ⟨w.heap.size, q, none⟩ = some (.string Q) ∧ w'.cell? ⟨r0, 0, none⟩ = some (.int .u8 11) ∧ w'.cell? ⟨r0, 2, none⟩ = some (.string (P)) ∧ w'.cell? ⟨r0, 4, none⟩ = some (.slice (some ⟨g, 0, none⟩) 2 cap) ∧ w'.cell? ⟨g, 0, none⟩ = some (.pointer (some ⟨r1', 0, none⟩)) ∧ w'.cell? ⟨g, 1, none⟩ = some (.pointer (some ⟨r2, 0, none⟩)) ∧ w'.cell? ⟨r1', 0, none⟩ = some (.int .u8 1) ∧ w'.cell? ⟨r2, 0, none⟩ = some (.int .u8 1)) (first | exact hk | exact hk4 | go_keep)
    (first
      | (go_at_call 9; refine (HWH.out _).mono ?_; rintro e w4 ⟨rfl, B4⟩; have hk4 := KC.below (b := w.heap.size) (p := p) (q := q) (p0 := r0) (g := g) (cap := cap) (p1 := r1') (p2 := r2) (P := P) (Q := Q) (X := (P)) (k1 := 1) (k2 := 1) hk ((Below.refl _ _).drew.trans B4)))
  all_goals
    go_wp2_with fail
    go_ret
    exact ⟨rfl, bt HB2.out ((Below.refl _ _).drew.trans B4)⟩
end Go.Proofs.Ytnaihncmichfaaa
