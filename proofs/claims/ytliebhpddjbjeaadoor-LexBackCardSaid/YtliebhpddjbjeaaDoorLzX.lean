/- Every token that may be is written as it is. -/
import Derived.Test.YtliebhpddjbjeaaDoorFmB
import Derived.Test.YtliebhpddjbjeaaDoorLzP
import Derived.Test.YtliebhpddjbjeaaDoorLyU
namespace Go.Proofs.YtliebhpddjbjeaaDoor
open Go.RowKit
set_option maxHeartbeats 2000000
set_option maxRecDepth 100000
set_option linter.unusedVariables false

theorem writes_any (t : T0) (ht : tokOk t) (hl : (txtT t).length ≤ 65536) (w : World) (hE : Env w) : Writes w t := by
  have hf := tok_fits t ht hl
  have htl := txt_len t hf
  refine ⟨htl, fun w' px py qx qy hb => ?_⟩
  have E1 := hE.below hb
  obtain ⟨h0, h1, hx⟩ := hf
  obtain ⟨k, x, n⟩ := t
  rcases ht with ⟨hk, _, _⟩ | ⟨hk, _, _⟩ | ⟨hk, _, _, _⟩ | ⟨hk, _, _, h255⟩ | ⟨hk, _, _, _⟩ | ⟨hk, _, _⟩ <;> (simp only at hk; subst hk)
  · exact zw_plain1 x n hx h0 h1 px py qx qy w' E1
  · exact zw_plain6 x n hx h0 h1 px py qx qy w' E1
  · exact zw_num x n hx h0 h1 px py qx qy w' E1
  · exact zw_char x n hx h0 h1 px py qx qy w' E1 (by simp only at h255; omega)
  · cases hq : x.contains 34
    · exact zw_strf x n hx h0 h1 px py qx qy w' E1 hq
    · exact zw_strt x n hx h0 h1 px py qx qy w' E1 hq
  · exact zw_plain5 x n hx h0 h1 px py qx qy w' E1
/-- A source's tokens, each at its place, with the end. -/
theorem all_map (S : List UInt8) (L : List (T0 × Nat × Nat)) (off : Nat) : (L.map (plOf S) ++ [endT S off]).map (·.1) = L.map (·.1) ++ [⟨0, [], 0⟩] := by
  rw [List.map_append, List.map_map]; rfl
/-- What Join writes of a source's tokens. -/
theorem zjoin_scan (S : List UInt8) (hS : S.length ≤ 16384) (L : List (T0 × Nat × Nat)) (off : Nat) (hL : ∀ x ∈ L, tokOk x.1) (hf : ∀ x ∈ L, (txtT x.1).length ≤ 3 * S.length) (hc : L.length ≤ S.length) (v : Value) (B0 : Nat) (w : World) (hE : Env w) (hown : OwnT w B0 v (L.map (plOf S) ++ [endT S off])) :
    Calls Tryd.prog 6 #[v] w fun e w' => e = .returned (.string ⟨(joinT (L.map (·.1))).toArray⟩) ∧ Below w.heap.size w w' := by
  have := zJoin_any _ (by simp; omega) v B0 w hown (fun x hx hk => by
    rcases List.mem_append.1 hx with hx | hx
    · obtain ⟨y, hy, rfl⟩ := List.mem_map.1 hx
      exact writes_any _ (hL y hy) (by have := hf y hy; show (txtT y.1).length ≤ _; omega) w hE
    · obtain rfl := List.mem_singleton.1 hx
      exact absurd rfl hk)
  rw [all_map, joinD_end _ ⟨0, [], 0⟩ rfl (fun t ht => by obtain ⟨y, hy, rfl⟩ := List.mem_map.1 ht; exact hL y hy)] at this
  exact this
end Go.Proofs.YtliebhpddjbjeaaDoor
