/- Five cells of a block: what is read there, behind stores and calls; how far bytes of a kind go. -/
import Derived.Test.YtggembknccbpnaaGreatLyZ
namespace Go.Proofs.YtggembknccbpnaaGreat
open Go.RowKit
set_option linter.unusedVariables false

/-- Block b holds these five values, and may be written. -/
structure Fv (w : World) (b : Nat) (v0 v1 v2 v3 v4 : Value) : Prop where
  c0 : w.cell? ⟨b, 0, none⟩ = some v0
  c1 : w.cell? ⟨b, 1, none⟩ = some v1
  c2 : w.cell? ⟨b, 2, none⟩ = some v2
  c3 : w.cell? ⟨b, 3, none⟩ = some v3
  c4 : w.cell? ⟨b, 4, none⟩ = some v4
  f0 : w.frozen? ⟨b, 0, none⟩ = false
  f1 : w.frozen? ⟨b, 1, none⟩ = false
  f2 : w.frozen? ⟨b, 2, none⟩ = false
  f3 : w.frozen? ⟨b, 3, none⟩ = false
  f4 : w.frozen? ⟨b, 4, none⟩ = false
theorem Fv.below {w w' : World} {b B : Nat} {v0 v1 v2 v3 v4 : Value} (h : Fv w b v0 v1 v2 v3 v4) (hb : Below B w w') (hlt : b < B) : Fv w' b v0 v1 v2 v3 v4 :=
  ⟨(hb.cell hlt).trans h.c0, (hb.cell hlt).trans h.c1, (hb.cell hlt).trans h.c2, (hb.cell hlt).trans h.c3, (hb.cell hlt).trans h.c4, (hb.frozen hlt).trans h.f0, (hb.frozen hlt).trans h.f1, (hb.frozen hlt).trans h.f2, (hb.frozen hlt).trans h.f3, (hb.frozen hlt).trans h.f4⟩
theorem Fv.set0 {w : World} {b : Nat} {v0 v1 v2 v3 v4 : Value} (h : Fv w b v0 v1 v2 v3 v4) (u : Value) : Fv (w.setCell ⟨b, 0, none⟩ u) b u v1 v2 v3 v4 :=
  ⟨World.cell?_setCell_same _ _ _ h.c0, (World.cell?_setCell_other _ _ _ _ (by simp)).trans h.c1, (World.cell?_setCell_other _ _ _ _ (by simp)).trans h.c2, (World.cell?_setCell_other _ _ _ _ (by simp)).trans h.c3, (World.cell?_setCell_other _ _ _ _ (by simp)).trans h.c4, (World.frozen?_setCell _ _ _ _).trans h.f0, (World.frozen?_setCell _ _ _ _).trans h.f1, (World.frozen?_setCell _ _ _ _).trans h.f2, (World.frozen?_setCell _ _ _ _).trans h.f3, (World.frozen?_setCell _ _ _ _).trans h.f4⟩
theorem Fv.set1 {w : World} {b : Nat} {v0 v1 v2 v3 v4 : Value} (h : Fv w b v0 v1 v2 v3 v4) (u : Value) : Fv (w.setCell ⟨b, 1, none⟩ u) b v0 u v2 v3 v4 :=
  ⟨(World.cell?_setCell_other _ _ _ _ (by simp)).trans h.c0, World.cell?_setCell_same _ _ _ h.c1, (World.cell?_setCell_other _ _ _ _ (by simp)).trans h.c2, (World.cell?_setCell_other _ _ _ _ (by simp)).trans h.c3, (World.cell?_setCell_other _ _ _ _ (by simp)).trans h.c4, (World.frozen?_setCell _ _ _ _).trans h.f0, (World.frozen?_setCell _ _ _ _).trans h.f1, (World.frozen?_setCell _ _ _ _).trans h.f2, (World.frozen?_setCell _ _ _ _).trans h.f3, (World.frozen?_setCell _ _ _ _).trans h.f4⟩
theorem Fv.set2 {w : World} {b : Nat} {v0 v1 v2 v3 v4 : Value} (h : Fv w b v0 v1 v2 v3 v4) (u : Value) : Fv (w.setCell ⟨b, 2, none⟩ u) b v0 v1 u v3 v4 :=
  ⟨(World.cell?_setCell_other _ _ _ _ (by simp)).trans h.c0, (World.cell?_setCell_other _ _ _ _ (by simp)).trans h.c1, World.cell?_setCell_same _ _ _ h.c2, (World.cell?_setCell_other _ _ _ _ (by simp)).trans h.c3, (World.cell?_setCell_other _ _ _ _ (by simp)).trans h.c4, (World.frozen?_setCell _ _ _ _).trans h.f0, (World.frozen?_setCell _ _ _ _).trans h.f1, (World.frozen?_setCell _ _ _ _).trans h.f2, (World.frozen?_setCell _ _ _ _).trans h.f3, (World.frozen?_setCell _ _ _ _).trans h.f4⟩
theorem Fv.set3 {w : World} {b : Nat} {v0 v1 v2 v3 v4 : Value} (h : Fv w b v0 v1 v2 v3 v4) (u : Value) : Fv (w.setCell ⟨b, 3, none⟩ u) b v0 v1 v2 u v4 :=
  ⟨(World.cell?_setCell_other _ _ _ _ (by simp)).trans h.c0, (World.cell?_setCell_other _ _ _ _ (by simp)).trans h.c1, (World.cell?_setCell_other _ _ _ _ (by simp)).trans h.c2, World.cell?_setCell_same _ _ _ h.c3, (World.cell?_setCell_other _ _ _ _ (by simp)).trans h.c4, (World.frozen?_setCell _ _ _ _).trans h.f0, (World.frozen?_setCell _ _ _ _).trans h.f1, (World.frozen?_setCell _ _ _ _).trans h.f2, (World.frozen?_setCell _ _ _ _).trans h.f3, (World.frozen?_setCell _ _ _ _).trans h.f4⟩
theorem Fv.set4 {w : World} {b : Nat} {v0 v1 v2 v3 v4 : Value} (h : Fv w b v0 v1 v2 v3 v4) (u : Value) : Fv (w.setCell ⟨b, 4, none⟩ u) b v0 v1 v2 v3 u :=
  ⟨(World.cell?_setCell_other _ _ _ _ (by simp)).trans h.c0, (World.cell?_setCell_other _ _ _ _ (by simp)).trans h.c1, (World.cell?_setCell_other _ _ _ _ (by simp)).trans h.c2, (World.cell?_setCell_other _ _ _ _ (by simp)).trans h.c3, World.cell?_setCell_same _ _ _ h.c4, (World.frozen?_setCell _ _ _ _).trans h.f0, (World.frozen?_setCell _ _ _ _).trans h.f1, (World.frozen?_setCell _ _ _ _).trans h.f2, (World.frozen?_setCell _ _ _ _).trans h.f3, (World.frozen?_setCell _ _ _ _).trans h.f4⟩
theorem Fv.new (w : World) (v0 v1 v2 v3 v4 : Value) (T : TypeId) (b : Nat) (hb : b = w.heap.size) : Fv (w.alloc (.cells #[v0, v1, v2, v3, v4] T)) b v0 v1 v2 v3 v4 := by
  subst hb
  exact ⟨by rw [World.cell?_alloc_at _ _ _ _ rfl]; rfl, by rw [World.cell?_alloc_at _ _ _ _ rfl]; rfl, by rw [World.cell?_alloc_at _ _ _ _ rfl]; rfl, by rw [World.cell?_alloc_at _ _ _ _ rfl]; rfl, by rw [World.cell?_alloc_at _ _ _ _ rfl]; rfl, World.frozen?_alloc_at _ _ _ _ rfl, World.frozen?_alloc_at _ _ _ _ rfl, World.frozen?_alloc_at _ _ _ _ rfl, World.frozen?_alloc_at _ _ _ _ rfl, World.frozen?_alloc_at _ _ _ _ rfl⟩
theorem Fv.drew {w : World} {b : Nat} {v0 v1 v2 v3 v4 : Value} (h : Fv w b v0 v1 v2 v3 v4) : Fv w.drew b v0 v1 v2 v3 v4 := ⟨h.c0, h.c1, h.c2, h.c3, h.c4, h.f0, h.f1, h.f2, h.f3, h.f4⟩
/-- Five stores into a block that the call has made. -/
theorem below_set5 {w w' : World} {b : Nat} (h : Below w.heap.size w w') (hb : w.heap.size ≤ b) (u0 u1 u2 u3 u4 : Value) : Below w.heap.size w (((((w'.setCell ⟨b, 0, none⟩ u0).setCell ⟨b, 1, none⟩ u1).setCell ⟨b, 2, none⟩ u2).setCell ⟨b, 3, none⟩ u3).setCell ⟨b, 4, none⟩ u4) :=
  ((((h.setCell hb _).setCell hb _).setCell hb _).setCell hb _).setCell hb _
/-- How far bytes of a kind go: as far as has been seen, and on. -/
def farI (p : UInt8 → Bool) (u : List UInt8) (k : Nat) : Prop := u.takeWhile p = u.take k ++ (u.drop k).takeWhile p
theorem far_start (p : UInt8 → Bool) (u : List UInt8) : farI p u 0 := by unfold farI; simp
theorem far_step (p : UInt8 → Bool) (u : List UInt8) (k : Nat) (b : UInt8) (hb : u[k]? = some b) (hp : p b = true) (h : farI p u k) : farI p u (k + 1) := by
  unfold farI at h ⊢
  have hlt : k < u.length := by
    rcases Nat.lt_or_ge k u.length with q | q
    · exact q
    · rw [List.getElem?_eq_none q] at hb; cases hb
  have hd : u.drop k = b :: u.drop (k + 1) := by
    rw [List.drop_eq_getElem_cons hlt]
    rw [List.getElem?_eq_getElem hlt] at hb
    rw [Option.some.inj hb]
  have ht : u.take (k + 1) = u.take k ++ [b] := by
    rw [List.take_add_one, hb]; rfl
  rw [h, hd, List.takeWhile_cons, if_pos hp, ht, List.append_assoc]; rfl
theorem far_end (p : UInt8 → Bool) (u : List UInt8) (k : Nat) (hk : k ≤ u.length) (h : farI p u k) (he : ∀ b, u[k]? = some b → p b = false) : u.takeWhile p = u.take k ∧ (u.takeWhile p).length = k := by
  have hd : (u.drop k).takeWhile p = [] := by
    cases hq : u.drop k with
    | nil => rfl
    | cons b r =>
      have hb : u[k]? = some b := by
        have := List.head?_drop (l := u) (i := k)
        rw [hq] at this
        exact this.symm
      rw [List.takeWhile_cons, if_neg (by rw [he b hb]; decide)]
  unfold farI at h
  rw [hd, List.append_nil] at h
  exact ⟨h, by rw [h, List.length_take]; omega⟩
end Go.Proofs.YtggembknccbpnaaGreat
