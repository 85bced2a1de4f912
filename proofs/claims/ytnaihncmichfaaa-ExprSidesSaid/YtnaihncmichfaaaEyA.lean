/- Law 6: bounds of a row, one of the four by its number, and what is heavy. -/
import Derived.Test.YtnaihncmichfaaaExX
import Derived.Test.YtnaihncmichfaaaMpA
namespace Go.Proofs.Ytnaihncmichfaaa
open Go.RowKit
set_option maxHeartbeats 2000000
set_option maxRecDepth 100000
set_option linter.unusedVariables false
set_option linter.unusedSimpArgs false

theorem rscan_cnt : ∀ (m : Nat) (s : List UInt8) (off : Nat), s.length ≤ m → (scanS off s).1.length ≤ s.length ∧ ∀ x ∈ (scanS off s).1, x.1.x.length ≤ 3 * s.length
  | _, [], off, _ => by rw [scanS_nil]; exact ⟨Nat.le_refl _, fun x hx => by simp at hx⟩
  | 0, c :: r, off, h => by simp at h
  | m + 1, c :: r, off, h => by
    have hne : (c :: r) ≠ [] := by simp
    have hcl : (c :: r).length = r.length + 1 := rfl
    rcases hq : stp (c :: r) with ⟨o, n, e⟩
    cases o with
    | some t =>
      obtain ⟨k0, k1, k2, k3, k4⟩ := stp_ok _ hne t n e hq
      have hl : ((c :: r).drop n).length = (c :: r).length - n := List.length_drop
      rw [scanS_tok off _ hne t n e hq]
      obtain ⟨g1, g2⟩ := rscan_cnt m ((c :: r).drop n) (off + n) (by omega)
      refine ⟨by simp only [List.length_cons] at g1 ⊢; omega, fun x hx => ?_⟩
      rcases List.mem_cons.1 hx with rfl | hx
      · have hx : t.x.length ≤ (txtT t).length := by
          rcases k0 with h | h | h | h | h | h
          · unfold txtT; rw [if_neg (by omega), if_neg (by omega), if_neg (by omega)]; exact Nat.le_refl _
          · unfold txtT; rw [if_neg (by omega), if_neg (by omega), if_neg (by omega)]; exact Nat.le_refl _
          · rw [h.2.1]; exact Nat.zero_le _
          · rw [h.2.1]; exact Nat.zero_le _
          · unfold txtT; rw [if_neg (by omega), if_neg (by omega), if_pos h.1]; split <;> simp <;> omega
          · unfold txtT; rw [if_neg (by omega), if_neg (by omega), if_neg (by omega)]; exact Nat.le_refl _
        simp only; omega
      · have := g2 x hx; omega
    | none =>
      by_cases he : e = 0
      · subst he
        obtain ⟨k1, k2⟩ := stp_skip _ hne n hq
        have hl : ((c :: r).drop n).length = (c :: r).length - n := List.length_drop
        rw [scanS_skip off _ hne n hq]
        obtain ⟨g1, g2⟩ := rscan_cnt m ((c :: r).drop n) (off + n) (by omega)
        exact ⟨by omega, fun x hx => by have := g2 x hx; omega⟩
      · rw [scanS_err off _ hne n e he hq]
        exact ⟨by simp, fun x hx => by simp at hx⟩
theorem row_len (S : List UInt8) : (rowT S).length ≤ S.length := by
  unfold rowT
  split
  · rw [List.length_map]; exact (rscan_cnt _ S 0 (Nat.le_refl _)).1
  · simp
theorem row_txt (S : List UInt8) (h : S.length ≤ 16384) : ∀ x ∈ rowT S, x.1.x.length ≤ 65536 := fun x hx => by
  unfold rowT at hx
  split at hx
  · obtain ⟨y, hy, rfl⟩ := List.mem_map.1 hx
    have := (rscan_cnt _ S 0 (Nat.le_refl _)).2 y hy
    show y.1.x.length ≤ 65536
    omega
  · simp at hx
theorem RowAt.up {w : World} {B B' : Nat} {v : Value} {ts : List TK} (h : RowAt w B v ts) (hB : B ≤ B') : RowAt w B' v ts := by
  obtain ⟨q, cap, h1, h2⟩ := h
  refine ⟨q, cap, h1, fun i x hx => ?_⟩
  obtain ⟨g, e, hg, r⟩ := h2 i x hx
  exact ⟨g, e, by omega, r⟩
theorem RowC.bel {w w' : World} {v : Value} {ts : List TK} (h : RowC w w.heap.size v ts) (hb : Below w.heap.size w w') : RowC w' w'.heap.size v ts := ⟨(h.1.bel hb).up hb.size, h.2⟩
theorem RowC.cut {w : World} {B : Nat} {v : Value} {ts : List TK} (h : RowC w B v ts) (n : Nat) (hn : n ≤ ts.length) : ∃ q cap, v = .slice q ts.length cap ∧ ts.length ≤ cap ∧ cap ≤ 9223372036854775807 ∧ RowAt w B (.slice q n cap) (ts.take n) := by
  obtain ⟨h1, q, cap, rfl, h2, h3⟩ := h
  have e : ts = ts.take n ++ ts.drop n := (List.take_append_drop n ts).symm
  obtain ⟨q', cap', e1, h4⟩ := RowAt.pre (l := ts.take n) (r := ts.drop n) (by rw [← e]; exact h1)
  rw [← e] at e1
  injection e1 with e2 e3 e4
  subst e2 e4
  rw [List.length_take, Nat.min_eq_left hn] at h4
  exact ⟨q, cap, rfl, h2, h3, h4⟩
theorem rheavy_any (s : ByteArray) (w : World) :
    Calls Try.prog 8 #[.string s] w fun e w' => e = .returned (.bool (decide ((2048 : Int) < (s.size : Int)))) ∧ w' = w := by
  go_enter Try.func8, Try.ntmps8
  go_wp2_with fail
  go_ret
  exact ⟨rfl, rfl⟩
theorem does_any (ts : List TK) (rv : Value) (i k : Nat) (w : World) (hrow : RowAt w w.heap.size rv ts) (hk : k < 4) (hi : i ≤ ts.length) (htl : ts.length ≤ 16384) (htx : ∀ x ∈ ts, x.1.x.length ≤ 65536) :
    Calls Try.prog 11 #[rv, .int .i64 i, .int .i64 k] w (Says w.heap.size w (doM k ts i)) := by
  have hi2 : i ≤ 16384 := by omega
  rcases (by omega : k = 0 ∨ k = 1 ∨ k = 2 ∨ k = 3) with rfl | rfl | rfl | rfl
  · have HC := Expr_any ts rv i w hrow hi2 htl htx
    clear hrow hi hi2 htl htx
    rw [show doM 0 ts i = exprM ts (ts.length + 2) i from rfl]
    go_enter Try.func11, Try.ntmps11
    go_wp2_with fail
    refine HC.mono ?_
    rintro e w1 ⟨hb, ⟨d, j, u, h1, rfl, h3, h4⟩ | ⟨j, h1, rfl⟩⟩
    · have H := Lib.hid (And.intro hb (And.intro h1 (And.intro h3 h4)))
      clear hb h1 h3 h4 HC
      go_wp2_with fail
      go_ret3
      exact ⟨H.out.1, .inl ⟨d, j, u, H.out.2.1, rfl, H.out.2.2⟩⟩
    · have H := Lib.hid (And.intro hb h1)
      clear hb h1 HC
      go_wp2_with fail
      go_ret3
      exact ⟨H.out.1, .inr ⟨j, H.out.2, rfl⟩⟩
  · have HC := Designator_any ts rv i w hrow hi2 htl htx
    clear hrow hi hi2 htl htx
    rw [show doM 1 ts i = desM ts (exprM ts (ts.length + 2)) i from rfl]
    go_enter Try.func11, Try.ntmps11
    go_wp2_with fail
    refine HC.mono ?_
    rintro e w1 ⟨hb, ⟨d, j, u, h1, rfl, h3, h4⟩ | ⟨j, h1, rfl⟩⟩
    · have H := Lib.hid (And.intro hb (And.intro h1 (And.intro h3 h4)))
      clear hb h1 h3 h4 HC
      go_wp2_with fail
      go_ret3
      exact ⟨H.out.1, .inl ⟨d, j, u, H.out.2.1, rfl, H.out.2.2⟩⟩
    · have H := Lib.hid (And.intro hb h1)
      clear hb h1 HC
      go_wp2_with fail
      go_ret3
      exact ⟨H.out.1, .inr ⟨j, H.out.2, rfl⟩⟩
  · have HC := Qualident_any ts rv i w hrow hi2 htl htx
    clear hrow hi hi2 htl htx
    rw [show doM 2 ts i = qualM ts i from rfl]
    go_enter Try.func11, Try.ntmps11
    go_wp2_with fail
    refine HC.mono ?_
    rintro e w1 ⟨hb, ⟨d, j, u, h1, rfl, h3, h4⟩ | ⟨j, h1, rfl⟩⟩
    · have H := Lib.hid (And.intro hb (And.intro h1 (And.intro h3 h4)))
      clear hb h1 h3 h4 HC
      go_wp2_with fail
      go_ret3
      exact ⟨H.out.1, .inl ⟨d, j, u, H.out.2.1, rfl, H.out.2.2⟩⟩
    · have H := Lib.hid (And.intro hb h1)
      clear hb h1 HC
      go_wp2_with fail
      go_ret3
      exact ⟨H.out.1, .inr ⟨j, H.out.2, rfl⟩⟩
  · have HC := Labels_any ts rv i w hrow hi2 htl htx hi
    clear hrow hi hi2 htl htx
    rw [show doM 3 ts i = labM ts (exprM ts (ts.length + 2)) i from rfl]
    go_enter Try.func11, Try.ntmps11
    go_wp2_with fail
    refine HC.mono ?_
    rintro e w1 ⟨hb, ⟨d, j, u, h1, rfl, h3, h4⟩ | ⟨j, h1, rfl⟩⟩
    · have H := Lib.hid (And.intro hb (And.intro h1 (And.intro h3 h4)))
      clear hb h1 h3 h4 HC
      go_wp2_with fail
      go_ret3
      exact ⟨H.out.1, .inl ⟨d, j, u, H.out.2.1, rfl, H.out.2.2⟩⟩
    · have H := Lib.hid (And.intro hb h1)
      clear hb h1 HC
      go_wp2_with fail
      go_ret3
      exact ⟨H.out.1, .inr ⟨j, H.out.2, rfl⟩⟩
end Go.Proofs.Ytnaihncmichfaaa
