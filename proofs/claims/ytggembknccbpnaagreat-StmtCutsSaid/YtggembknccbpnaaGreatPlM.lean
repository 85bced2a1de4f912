/- Two cells of a block: what is read there, behind stores, new blocks and calls. -/
import Derived.Test.YtggembknccbpnaaGreatPlZ
namespace Go.Proofs.YtggembknccbpnaaGreat
open Go.RowKit
set_option linter.unusedVariables false

/-- Block b holds the numbers x, y, and may be written. -/
structure Two (w : World) (b : Nat) (x y : Int) : Prop where
  c0 : w.cell? ⟨b, 0, none⟩ = some (.int .i64 x)
  c1 : w.cell? ⟨b, 1, none⟩ = some (.int .i64 y)
  f0 : w.frozen? ⟨b, 0, none⟩ = false
  f1 : w.frozen? ⟨b, 1, none⟩ = false
theorem Two.below {w w' : World} {b B : Nat} {x y : Int} (h : Two w b x y) (hb : Below B w w') (hlt : b < B) : Two w' b x y :=
  ⟨(hb.cell hlt).trans h.c0, (hb.cell hlt).trans h.c1, (hb.frozen hlt).trans h.f0, (hb.frozen hlt).trans h.f1⟩
theorem Two.set0 {w : World} {b : Nat} {x y : Int} (h : Two w b x y) (z : Int) : Two (w.setCell ⟨b, 0, none⟩ (.int .i64 z)) b z y :=
  ⟨World.cell?_setCell_same _ _ _ h.c0, (World.cell?_setCell_other _ _ _ _ (by simp)).trans h.c1, (World.frozen?_setCell _ _ _ _).trans h.f0, (World.frozen?_setCell _ _ _ _).trans h.f1⟩
theorem Two.set1 {w : World} {b : Nat} {x y : Int} (h : Two w b x y) (z : Int) : Two (w.setCell ⟨b, 1, none⟩ (.int .i64 z)) b x z :=
  ⟨(World.cell?_setCell_other _ _ _ _ (by simp)).trans h.c0, World.cell?_setCell_same _ _ _ h.c1, (World.frozen?_setCell _ _ _ _).trans h.f0, (World.frozen?_setCell _ _ _ _).trans h.f1⟩
theorem addr_ne {b d o p : Nat} (hd : d ≠ b) : (⟨b, p, none⟩ : Addr) ≠ ⟨d, o, none⟩ := fun h => hd (congrArg Addr.block h).symm
theorem Two.other {w : World} {b : Nat} {x y : Int} (h : Two w b x y) (d o : Nat) (v : Value) (hd : d ≠ b) : Two (w.setCell ⟨d, o, none⟩ v) b x y :=
  ⟨(World.cell?_setCell_other _ _ _ _ (addr_ne (Ne.symm hd))).trans h.c0, (World.cell?_setCell_other _ _ _ _ (addr_ne (Ne.symm hd))).trans h.c1, (World.frozen?_setCell _ _ _ _).trans h.f0, (World.frozen?_setCell _ _ _ _).trans h.f1⟩
theorem Two.new (w : World) (x y : Int) (T : TypeId) (b : Nat) (hb : b = w.heap.size) : Two (w.alloc (.cells #[.int .i64 x, .int .i64 y] T)) b x y := by
  subst hb
  exact ⟨by rw [World.cell?_alloc_at _ _ _ _ rfl]; rfl, by rw [World.cell?_alloc_at _ _ _ _ rfl]; rfl, World.frozen?_alloc_at _ _ _ _ rfl, World.frozen?_alloc_at _ _ _ _ rfl⟩
theorem Two.alloc {w : World} {b : Nat} {x y : Int} (h : Two w b x y) (o : Obj) (hb : b < w.heap.size) : Two (w.alloc o) b x y := h.below (below_new w o) hb
theorem Two.drew {w : World} {b : Nat} {x y : Int} (h : Two w b x y) : Two w.drew b x y := ⟨h.c0, h.c1, h.f0, h.f1⟩
end Go.Proofs.YtggembknccbpnaaGreat
