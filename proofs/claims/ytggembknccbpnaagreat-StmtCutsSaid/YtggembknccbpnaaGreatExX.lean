/- Row of law 6: a source's tokens, without the end. -/
import Derived.Test.YtggembknccbpnaaGreatMeG
import Derived.Test.YtggembknccbpnaaGreatMgA
namespace Go.Proofs.YtggembknccbpnaaGreat
open Go.RowKit
set_option maxHeartbeats 2000000
set_option maxRecDepth 100000
set_option linter.unusedVariables false
set_option linter.unusedSimpArgs false

def rowT (S : List UInt8) : List TK := if (scanS 0 S).2.2 = 0 then (scanS 0 S).1.map (plOf S) else []
theorem RowAt.pre {w : World} {B : Nat} {v : Value} {l r : List TK} (h : RowAt w B v (l ++ r)) : ∃ q cap, v = .slice q (l ++ r).length cap ∧ RowAt w B (.slice q l.length cap) l := by
  obtain ⟨q, cap, hv, hr⟩ := h
  refine ⟨q, cap, hv, q, cap, rfl, fun i x hx => hr i x ?_⟩
  have hi := (List.getElem?_eq_some_iff.1 hx).1
  rw [List.getElem?_append_left hi]
  exact hx
theorem RowAt.none (w : World) (B : Nat) (cap : Nat) (q : Option Addr) : RowAt w B (.slice q 0 cap) [] := ⟨q, cap, rfl, fun i x hx => by simp at hx⟩
/-- A row that may be cut. -/
def RowC (w : World) (B : Nat) (v : Value) (ts : List TK) : Prop := RowAt w B v ts ∧ ∃ q cap, v = .slice q ts.length cap ∧ ts.length ≤ cap ∧ cap ≤ 9223372036854775807
theorem Row_any (s : ByteArray) (hs : s.size ≤ 16384) (w : World) :
    Calls Tryz.prog 9 #[.string s] w fun e w' => ∃ v, e = .returned v ∧ Below w.heap.size w w' ∧ RowC w' w'.heap.size v (rowT s.data.toList) := by
  have HS := scan_any s hs w
  obtain ⟨S, hS⟩ : ∃ S, s.data.toList = S := ⟨_, rfl⟩
  rw [hS] at HS ⊢
  unfold ScanPost at HS
  obtain ⟨z, hz⟩ : ∃ z, (scanS 0 S).2.2 = z := ⟨_, rfl⟩
  obtain ⟨L, hL⟩ : ∃ L, (scanS 0 S).1.map (plOf S) = L := ⟨_, rfl⟩
  have HR : Hid (rowT S = if z = 0 then L else []) := Lib.hid (by unfold rowT; rw [hz, hL])
  rw [hz, hL] at HS
  clear hz hL hS
  go_enter Tryz.func9, Tryz.ntmps9
  go_wp2_with fail
  refine HS.mono ?_
  rintro e w1 ⟨v, at', rfl, hb, ⟨rfl, rfl, ho⟩ | ⟨hne, rfl, hat⟩⟩
  · obtain ⟨q, cap, hv, hrow⟩ := (tkL_row ho).pre
    have hcap : L.length + 1 ≤ cap ∧ cap ≤ 9223372036854775807 := by
      rcases ho.2 with ⟨h1, h2⟩ | ⟨g, cap', cur, h1, h2, h3, h4, h5, _⟩
      · simp at h2
      · rw [hv] at h1
        injection h1 with e1 e2 e3
        subst e3
        unfold maxLen at h5
        simp at h4
        omega
    obtain ⟨m, hm⟩ : ∃ m, L.length = m := ⟨_, rfl⟩
    have hlen : (L ++ [endT S (scanS 0 S).2.1]).length = m + 1 := by simp [hm]
    rw [hlen] at hv
    have H := Lib.hid (And.intro hb (And.intro hrow hm))
    rw [hm] at hcap
    clear hb ho hrow hm hlen HS
    subst hv
    have hw1 : wrap64 (((m + 1 : Nat) : Int) - 1) = (m : Int) := by rw [w64 _ (by omega) (by omega)]; omega
    have hm0 : (0 : Int) ≤ (m : Int) := by omega
    have hm1 : (m : Int) ≤ (cap : Int) := by omega
    go_wp2_with fail
    go_ret
    obtain ⟨hb, hrow, hm⟩ := H.out
    rw [hm] at hrow
    rw [HR.out]
    simp only [if_true]
    exact ⟨_, rfl, hb, by simpa using hrow, q, cap, by simp [hm], by omega, hcap.2⟩
  · have hzz : (z == 0) = false := beq_eq_false_iff_ne.2 hne
    have H := Lib.hid (And.intro hb hne)
    clear hb hne hat HS
    go_wp2_with fail
    go_ret
    rw [HR.out, if_neg H.out.2]
    exact ⟨_, rfl, H.out.1, RowAt.none _ _ 0 none, none, 0, rfl, Nat.le_refl _, by omega⟩
end Go.Proofs.YtggembknccbpnaaGreat
