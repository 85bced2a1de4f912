/- Aids for a law's row: the bounds of arguments; a list of ints that came in, read, and read again behind the call. -/
import Derived.Test.YtcecjjjehhjldaaBiE
import Derived.Test.YtcecjjjehhjldaaRows
import Derived.ProofKit
import Derived.OpenShut
import Derived.ChangeSlices
namespace Go.Proofs.Ytcecjjjehhjldaa
open Go Go.ChangeShapes Go.WideShapes Go.ChangeAt Go.RowKit
set_option linter.unusedVariables false

theorem of_wf_u16 {n : Int} (h : (Lit.int .u16 n).wf = true) : 0 ≤ n ∧ n ≤ 65535 := by
  have e1 : IntKind.u16.min = 0 := rfl
  have e2 : IntKind.u16.max = 65535 := rfl
  simp [Lit.wf, e1, e2] at h
  exact h
theorem of_wf_u8 {n : Int} (h : (Lit.int .u8 n).wf = true) : 0 ≤ n ∧ n ≤ 255 := by
  have e1 : IntKind.u8.min = 0 := rfl
  have e2 : IntKind.u8.max = 255 := rfl
  simp [Lit.wf, e1, e2] at h
  exact h
theorem of_wf_i64 {n : Int} (h : (Lit.int .i64 n).wf = true) : -9223372036854775808 ≤ n ∧ n ≤ 9223372036854775807 := by
  have e1 : IntKind.i64.min = -9223372036854775808 := rfl
  have e2 : IntKind.i64.max = 9223372036854775807 := rfl
  simp [Lit.wf, e1, e2] at h
  exact h
theorem cellsI : Try.prog.cellsOf 3 = 1 := by kernel_rfl
theorem ownK : ownKnob Try.prog.godebug = none := by kernel_rfl

theorem take_ints {P : Program} {H : Type} {enc : TypeId × Value → H} {W : World} {base : Nat} {t e : TypeId} {v : Value} {d : DataW H} {p : List MemPlace}
    (ht : P.underlying t = some (.slice e)) (he : P.underlying e = some (.int .i64)) (hc : P.cellsOf e = 1)
    (hval : Value.okWide P W .any base t v) (h : DataW.Trod enc P W 0 (fun _ => true) true t v d p) :
    ∃ (ao : Option Addr) (cap : Nat) (l : List Int), v = .slice ao l.length cap ∧ l.length ≤ maxLen ∧ IntsIn W ao l ∧ IntsOk l ∧
      ∀ W', Below W.heap.size W W' → DataW.Trod enc P W' 0 (fun b => decide (b < W.heap.size)) true t v d p := by
  obtain ⟨a0, len, cap, rfl⟩ := okWide_slice ht hval
  obtain ⟨fuel, hf⟩ := h
  rcases open_ints ht he hc hf with ⟨hcs, hx⟩ | ⟨a, len', cap', zs, hcs, _, hl, hm, hz, hx, hcell, hwz⟩
  · simp [Value.cells] at hcs
    obtain ⟨rfl, rfl, rfl⟩ := hcs
    simp only [Prod.mk.injEq] at hx
    obtain ⟨rfl, rfl⟩ := hx
    exact ⟨none, 0, [], rfl, by simp, fun j hj => absurd hj (by simp), fun j hj => absurd hj (by simp), fun W' _ => shut_slice_nil ht⟩
  · simp [Value.cells] at hcs
    obtain ⟨rfl, rfl, rfl⟩ := hcs
    simp only [Prod.mk.injEq] at hx
    obtain ⟨rfl, rfl⟩ := hx
    simp only [if_true] at hz
    have hlen : (zs.take len).length = len := by rw [List.length_take]; omega
    have hget : ∀ j, j < len → (zs.take len).getD j 0 = zs.getD j 0 := fun j hj => by
      simp [List.getD, hj]
    refine ⟨some a, cap, zs.take len, by rw [hlen], by omega, fun j hj => ⟨a, rfl, ?_⟩, fun j hj => ?_, fun W' hb => ⟨2, ?_⟩⟩
    · rw [hlen] at hj
      rw [hget j hj]
      exact hcell j (by omega)
    · rw [hlen] at hj
      rw [hget j hj]
      refine of_wf_i64 (hwz _ ?_)
      have : zs.getD j 0 = zs[j]'(by omega) := by simp [List.getD, show j < zs.length by omega]
      rw [this]
      exact List.getElem_mem _
    · have hblk : ∀ i, i < zs.length → a.block < W.heap.size := fun i hi => by
        have h1 := World.block_lt_of_cell? _ _ (hcell i hi)
        unfold Addr.add at h1
        split at h1 <;> exact h1
      have hkept : ∀ i, i < zs.length → W'.cell? (a.add i) = some (.int .i64 (zs.getD i 0)) := fun i hi => by
        rw [hb.cell (by have h1 := hblk i hi; unfold Addr.add; split <;> exact h1)]
        exact hcell i hi
      have hz2 : zs.length = (if decide (a.block < W.heap.size) = true then cap else len) := by
        by_cases hq : a.block < W.heap.size
        · simp [hq, hz]
        · have h0 : zs.length = 0 := by
            by_cases h1 : 0 < zs.length
            · exact absurd (hblk 0 h1) hq
            · omega
          simp [hq]; omega
      simpa [Value.cells] using shut_ints (enc := enc) (w := W') (base := 0) (spare := fun b => decide (b < W.heap.size)) (held := true) 0 ht he hc (Nat.zero_le _) hl hm hz2 hkept hwz
end Go.Proofs.Ytcecjjjehhjldaa
