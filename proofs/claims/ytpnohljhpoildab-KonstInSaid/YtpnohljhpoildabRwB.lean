/- A list of bytes that came in, read, and read again behind the call. -/
import Derived.Test.YtpnohljhpoildabRwN
import Derived.Test.YtpnohljhpoildabKnQ
import Derived.ChangeSlices
namespace Go.Proofs.Ytpnohljhpoildab
open Go Go.ChangeShapes Go.WideShapes Go.ChangeAt Go.RowKit
set_option linter.unusedVariables false

theorem cellsB : Try.prog.cellsOf 5 = 1 := by kernel_rfl
theorem take_bytes {P : Program} {H : Type} {enc : TypeId × Value → H} {W : World} {base : Nat} {t e : TypeId} {v : Value} {d : DataW H} {p : List MemPlace}
    (ht : P.underlying t = some (.slice e)) (he : P.underlying e = some (.int .u8)) (hc : P.cellsOf e = 1)
    (hval : Value.okWide P W .any base t v) (h : DataW.Trod enc P W 0 (fun _ => true) true t v d p) :
    ∃ (ao : Option Addr) (cap : Nat) (l : List Int), v = .slice ao l.length cap ∧ l.length ≤ maxLen ∧ BytesIn W ao l ∧
      ∀ W', Below W.heap.size W W' → DataW.Trod enc P W' 0 (fun b => decide (b < W.heap.size)) true t v d p := by
  obtain ⟨a0, len, cap, rfl⟩ := okWide_slice ht hval
  obtain ⟨fuel, hf⟩ := h
  rcases open_ints ht he hc hf with ⟨hcs, hx⟩ | ⟨a, len', cap', zs, hcs, _, hl, hm, hz, hx, hcell, hwz⟩
  · simp [Value.cells] at hcs
    obtain ⟨rfl, rfl, rfl⟩ := hcs
    simp only [Prod.mk.injEq] at hx
    obtain ⟨rfl, rfl⟩ := hx
    exact ⟨none, 0, [], rfl, by simp, fun j hj => absurd hj (by simp), fun W' _ => shut_slice_nil ht⟩
  · simp [Value.cells] at hcs
    obtain ⟨rfl, rfl, rfl⟩ := hcs
    simp only [Prod.mk.injEq] at hx
    obtain ⟨rfl, rfl⟩ := hx
    simp only [if_true] at hz
    have hlen : (zs.take len).length = len := by rw [List.length_take]; omega
    have hget : ∀ j, j < len → (zs.take len).getD j 0 = zs.getD j 0 := fun j hj => by
      simp [List.getD, hj]
    have hblk : ∀ i, i < zs.length → a.block < W.heap.size := fun i hi => by
      have h1 := World.block_lt_of_cell? _ _ (hcell i hi)
      unfold Addr.add at h1
      split at h1 <;> exact h1
    refine ⟨some a, cap, zs.take len, by rw [hlen], by omega, fun j hj => ⟨a, rfl, ?_, ?_, ?_⟩, fun W' hb => ⟨2, ?_⟩⟩
    · rw [hlen] at hj
      exact hblk j (by omega)
    · rw [hlen] at hj
      rw [hget j hj]
      exact hcell j (by omega)
    · rw [hlen] at hj
      rw [hget j hj]
      refine of_wf_u8 (hwz _ ?_)
      have : zs.getD j 0 = zs[j]'(by omega) := by simp [List.getD, show j < zs.length by omega]
      rw [this]
      exact List.getElem_mem _
    · have hkept : ∀ i, i < zs.length → W'.cell? (a.add i) = some (.int .u8 (zs.getD i 0)) := fun i hi => by
        rw [hb.cell (by have h1 := hblk i hi; unfold Addr.add; split <;> exact h1)]
        exact hcell i hi
      have hz2 : zs.length = (if decide (a.block < W.heap.size) = true then cap else len) := by
        by_cases hq : a.block < W.heap.size
        · simp [hq, hz]
        · have h0 : zs.length = 0 := by
            by_cases h1 : 0 < zs.length
            · exact absurd (hblk 0 h1) hq
            · omega
          simp [hq]; omega
      simpa [Value.cells] using shut_ints (enc := enc) (w := W') (base := 0) (spare := fun b => decide (b < W.heap.size)) (held := true) 0 ht he hc (Nat.zero_le _) hl hm hz2 hkept hwz
end Go.Proofs.Ytpnohljhpoildab
