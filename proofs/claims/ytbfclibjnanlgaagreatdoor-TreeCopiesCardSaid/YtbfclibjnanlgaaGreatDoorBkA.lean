/- What TreeBack wants of trees and texts. -/
import Derived.Test.YtbfclibjnanlgaaGreatDoorRbP
import Derived.Test.YtbfclibjnanlgaaGreatDoorNiA
import Derived.Test.YtbfclibjnanlgaaGreatDoorReC
import Derived.Test.YtbfclibjnanlgaaGreatDoorGrB
import Derived.Lib.ConvBytes
namespace Go.Proofs.YtbfclibjnanlgaaGreatDoor
open Go.RowKit
set_option maxHeartbeats 400000
set_option maxRecDepth 100000
set_option linter.unusedVariables false
set_option linter.unusedSimpArgs false

def OkN (d : ND) : Prop := OkD d ∧ d.x.length ≤ 4096
theorem head_bound (d : ND) (h : OkN d) : (headT d).length ≤ 90 + 4096 := by
  obtain ⟨⟨h1, h2, h3⟩, h4⟩ := h
  have a1 := itoa_len (d.k : Int) (by omega) (by omega)
  have a2 := itoa_len (d.x.length : Int) (by omega) (by omega)
  have a3 := itoa_len d.n h2 h3
  have a4 : (atT d).length ≤ 21 := by
    unfold atT
    split
    · simp
    · unfold txtOf
      split
      · exact txt_short _ _ (by assumption)
      · simp
  simp only [headT, List.length_cons, List.length_append]
  omega
mutual
theorem text_bound : ∀ t : Tr, AllD OkN t → (textT t).length + 1 ≤ t.cnt * 4191
  | .node p d ks, h => by
    have h1 := head_bound d h.1
    have h2 := text_boundL ks h.2
    simp only [textT, Tr.cnt, List.length_append, List.length_cons, List.length_nil, Nat.add_mul]
    omega
theorem text_boundL : ∀ l : List Tr, AllDL OkN l → (textTL l).length ≤ cntL l * 4191
  | [], _ => by simp [textTL]
  | t :: r, h => by
    have h1 := text_bound t h.1
    have h2 := text_boundL r h.2
    have h3 := cnt_pos t
    simp only [textTL, cntL, List.length_cons, List.length_append, Nat.add_mul]
    omega
end
mutual
theorem allD_okT : ∀ t : Tr, AllD OkN t → OkT t
  | .node p d ks, h => ⟨h.1.1, allDL_okT ks h.2⟩
theorem allDL_okT : ∀ l : List Tr, AllDL OkN l → OkTL l
  | [], _ => trivial
  | t :: r, h => ⟨allD_okT t h.1, allDL_okT r h.2⟩
end
theorem fromP_ok {ps : List PC} (hok : ∀ p ∈ ps, OkC p) (hs : sumX ps ≤ 4096) {d : ND} (h : FromP ps d) : OkN d := by
  obtain ⟨p, hp, rfl⟩ := h
  have h1 := hok p hp
  have h2 := sumX_mem ps p hp
  exact ⟨⟨h1.k, h1.n0, h1.n1⟩, by show p.x.length ≤ 4096; omega⟩
theorem pos_nrm (d : ND) : posV d.l d.c = posV (ndN d).l (ndN d).c := by
  unfold ndN
  cases h : isP d.l d.c
  · simp only [Bool.false_eq_true, if_false]
    unfold posV
    rw [h, show isP 0 0 = false from by decide]
    simp only [fpart, Bool.false_eq_true, if_false]
  · simp
mutual
theorem sim_nrm : ∀ t u : Tr, u.dt = t.dt.nrm → SimT t u
  | .node p d ks, .node q e ls, h => by
    simp only [Tr.dt, DT.nrm] at h
    injection h with h1 h2
    refine ⟨?_, sim_nrmL ks ls h2⟩
    rw [h1]
    exact ⟨rfl, rfl, rfl, pos_nrm d⟩
theorem sim_nrmL : ∀ ks ls : List Tr, dtL ls = nrmL (dtL ks) → SimTL ks ls
  | [], [], _ => trivial
  | [], _ :: _, h => by simp [dtL, nrmL] at h
  | _ :: _, [], h => by simp [dtL, nrmL] at h
  | t :: r, u :: s, h => by
    simp only [dtL, nrmL] at h
    injection h with h1 h2
    exact ⟨sim_nrm t u h1, sim_nrmL r s h2⟩
end
/-- The text of a tree, or of none. -/
def textO : Option Tr → List UInt8
  | none => []
  | some t => textT t
theorem tTextO_any (w : World) (hE : Env w) (o : Option Tr) {P : Nat → Prop} (h : ∀ t, o = some t → IsT w P t ∧ t.nodes.Nodup ∧ t.cnt ≤ 1048576 ∧ OkT t ∧ (textT t).length ≤ 1099511627776) :
    Calls Tryz.prog 14 #[encP (o.map Tr.p)] w fun e w' => e = .returned (.string ⟨(textO o).toArray⟩) ∧ Below w.heap.size w w' := by
  cases o with
  | none =>
    have h := tText_nil w
    simp only [Option.map_none, encP, textO]
    exact h
  | some t =>
    obtain ⟨h1, h2, h3, h4, h5⟩ := h t rfl
    have h := tText_any w hE t h1 h2 h3 h4 h5
    simp only [Option.map_some, encP, textO]
    exact h
/-- Texts in a row. -/
def TL (w : World) (v : Value) (S : List (List UInt8)) : Prop := ∃ g cap, v = .slice (some ⟨g, 0, none⟩) S.length cap ∧ g < w.heap.size ∧ ∀ i x, S[i]? = some x → w.cell? ⟨g, i, none⟩ = some (.string ⟨x.toArray⟩)
theorem byte_of (n : Int) (h0 : 0 ≤ n) (h1 : n ≤ 255) : ∃ c : UInt8, n = (c.toNat : Int) := by
  obtain ⟨k, rfl⟩ := Int.eq_ofNat_of_zero_le h0
  refine ⟨UInt8.ofNat k, ?_⟩
  rw [UInt8.toNat_ofNat']
  have : k % 2 ^ 8 = k := Nat.mod_eq_of_lt (by omega)
  rw [this]
theorem xor_byte (a b : Int) : ∃ c : UInt8, bits .xor .u8 a b = (c.toNat : Int) := by
  obtain ⟨z, hz⟩ : ∃ z : Int, bits .xor .u8 a b = IntKind.u8.wrap z := ⟨_, rfl⟩
  rw [hz]
  refine byte_of _ ?_ ?_ <;> (rw [IntKind.wrap_u8]; omega)
end Go.Proofs.YtbfclibjnanlgaaGreatDoor
