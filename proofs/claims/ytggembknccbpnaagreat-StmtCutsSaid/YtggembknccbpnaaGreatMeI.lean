/- Several texts in one. -/
import Derived.Test.YtggembknccbpnaaGreatExX
import Derived.Test.YtggembknccbpnaaGreatMpA
/- Law 6: bounds of a row, one of the four by its number, and what is heavy. -/
namespace Go.Proofs.YtggembknccbpnaaGreat
open Go.RowKit
set_option maxHeartbeats 2000000
set_option maxRecDepth 100000
set_option linter.unusedVariables false
set_option linter.unusedSimpArgs false

theorem rscan_cnt : ∀ (m : Nat) (s : List UInt8) (off : Nat), s.length ≤ m → (scanS off s).1.length ≤ s.length ∧ ∀ x ∈ (scanS off s).1, x.1.x.length ≤ 3 * s.length
  | _, [], off, _ => by rw [scanS_nil]; exact ⟨Nat.le_refl _, fun x hx => by simp at hx⟩
  | 0, c :: r, off, h => by simp at h
  | m + 1, c :: r, off, h => by
    have hne : (c :: r) ≠ [] := by simp
    have hcl : (c :: r).length = r.length + 1 := rfl
    rcases hq : stp (c :: r) with ⟨o, n, e⟩
    cases o with
    | some t =>
      obtain ⟨k0, k1, k2, k3, k4⟩ := stp_ok _ hne t n e hq
      have hl : ((c :: r).drop n).length = (c :: r).length - n := List.length_drop
      rw [scanS_tok off _ hne t n e hq]
      obtain ⟨g1, g2⟩ := rscan_cnt m ((c :: r).drop n) (off + n) (by omega)
      refine ⟨by simp only [List.length_cons] at g1 ⊢; omega, fun x hx => ?_⟩
      rcases List.mem_cons.1 hx with rfl | hx
      · have hx : t.x.length ≤ (txtT t).length := by
          rcases k0 with h | h | h | h | h | h
          · unfold txtT; rw [if_neg (by omega), if_neg (by omega), if_neg (by omega)]; exact Nat.le_refl _
          · unfold txtT; rw [if_neg (by omega), if_neg (by omega), if_neg (by omega)]; exact Nat.le_refl _
          · rw [h.2.1]; exact Nat.zero_le _
          · rw [h.2.1]; exact Nat.zero_le _
          · unfold txtT; rw [if_neg (by omega), if_neg (by omega), if_pos h.1]; split <;> simp <;> omega
          · unfold txtT; rw [if_neg (by omega), if_neg (by omega), if_neg (by omega)]; exact Nat.le_refl _
        simp only; omega
      · have := g2 x hx; omega
    | none =>
      by_cases he : e = 0
      · subst he
        obtain ⟨k1, k2⟩ := stp_skip _ hne n hq
        have hl : ((c :: r).drop n).length = (c :: r).length - n := List.length_drop
        rw [scanS_skip off _ hne n hq]
        obtain ⟨g1, g2⟩ := rscan_cnt m ((c :: r).drop n) (off + n) (by omega)
        exact ⟨by omega, fun x hx => by have := g2 x hx; omega⟩
      · rw [scanS_err off _ hne n e he hq]
        exact ⟨by simp, fun x hx => by simp at hx⟩
theorem row_len (S : List UInt8) : (rowT S).length ≤ S.length := by
  unfold rowT
  split
  · rw [List.length_map]; exact (rscan_cnt _ S 0 (Nat.le_refl _)).1
  · simp
theorem row_txt (S : List UInt8) (h : S.length ≤ 16384) : ∀ x ∈ rowT S, x.1.x.length ≤ 65536 := fun x hx => by
  unfold rowT at hx
  split at hx
  · obtain ⟨y, hy, rfl⟩ := List.mem_map.1 hx
    have := (rscan_cnt _ S 0 (Nat.le_refl _)).2 y hy
    show y.1.x.length ≤ 65536
    omega
  · simp at hx
theorem RowAt.up {w : World} {B B' : Nat} {v : Value} {ts : List TK} (h : RowAt w B v ts) (hB : B ≤ B') : RowAt w B' v ts := by
  obtain ⟨q, cap, h1, h2⟩ := h
  refine ⟨q, cap, h1, fun i x hx => ?_⟩
  obtain ⟨g, e, hg, r⟩ := h2 i x hx
  exact ⟨g, e, by omega, r⟩
theorem RowC.bel {w w' : World} {v : Value} {ts : List TK} (h : RowC w w.heap.size v ts) (hb : Below w.heap.size w w') : RowC w' w'.heap.size v ts := ⟨(h.1.bel hb).up hb.size, h.2⟩
theorem RowC.cut {w : World} {B : Nat} {v : Value} {ts : List TK} (h : RowC w B v ts) (n : Nat) (hn : n ≤ ts.length) : ∃ q cap, v = .slice q ts.length cap ∧ ts.length ≤ cap ∧ cap ≤ 9223372036854775807 ∧ RowAt w B (.slice q n cap) (ts.take n) := by
  obtain ⟨h1, q, cap, rfl, h2, h3⟩ := h
  have e : ts = ts.take n ++ ts.drop n := (List.take_append_drop n ts).symm
  obtain ⟨q', cap', e1, h4⟩ := RowAt.pre (l := ts.take n) (r := ts.drop n) (by rw [← e]; exact h1)
  rw [← e] at e1
  injection e1 with e2 e3 e4
  subst e2 e4
  rw [List.length_take, Nat.min_eq_left hn] at h4
  exact ⟨q, cap, rfl, h2, h3, h4⟩
end Go.Proofs.YtggembknccbpnaaGreat
