/- Reading a tree's text: what stands ahead, and numbers. -/
import Derived.Test.YtbfclibjnanlgaaGreatDoorRdP
import Derived.Test.YtbfclibjnanlgaaGreatDoorTwA
import Derived.Test.YtbfclibjnanlgaaGreatDoorPpG
import Derived.Shelf.Strings.SlTrimAscii
import Derived.Deep.RegionHeld3
import Derived.BigQuiet
namespace Go.Proofs.YtbfclibjnanlgaaGreatDoor
open Go.RowKit
set_option maxHeartbeats 2000000
set_option maxRecDepth 100000
set_option linter.unusedVariables false
set_option linter.unusedSimpArgs false

/-- What is left of a text, in block b. -/
def RV (b : Nat) (s : List UInt8) (w : World) : Prop := Var w b 52 (.string ⟨s.toArray⟩)
theorem RV.keep {b : Nat} {s : List UInt8} {w w' : World} (h : RV b s w) (hB : Below w.heap.size w w') : RV b s w' := (hB.block b (lt_heap h)).trans h
theorem data_lit (s : List UInt8) : (⟨s.toArray⟩ : ByteArray).data.toList = s := by simp
theorem take_hit (b : Nat) (p r : List UInt8) (w : World) (h : RV b (p ++ r) w) :
    Calls Tryz.prog 26 #[.pointer (some ⟨b, 0, none⟩), .string ⟨p.toArray⟩] w fun e w' => e = .returned (.bool true) ∧ RV b r w' ∧ Fr [b] w w' := by
  have HC := Tryz.strings_CutPrefix ⟨(p ++ r).toArray⟩ ⟨p.toArray⟩ w
  have hp : Lib.hasPrefix (p ++ r) p = true := by unfold Lib.hasPrefix; rw [List.isPrefixOf_iff_prefix]; exact List.prefix_append p r
  rw [data_lit, data_lit, hp, show Lib.trimPrefix (p ++ r) p = r by unfold Lib.trimPrefix; rw [if_pos hp]; simp] at HC
  have c0 := Var.c h
  have f0 := Var.f h
  have HH := Lib.hid h
  clear h hp
  generalize (⟨(p ++ r).toArray⟩ : ByteArray) = sb at *
  generalize (⟨p.toArray⟩ : ByteArray) = pb at *
  generalize hrb : (⟨r.toArray⟩ : ByteArray) = rb at *
  have HRB := Lib.hid hrb
  clear hrb
  go_enter Tryz.func26, Tryz.ntmps26
  go_wp2_with fail
  refine HC.mono ?_
  rintro e w1 ⟨rfl, rfl⟩
  go_wp2_with fail
  go_ret
  refine ⟨rfl, ?_, Fr.set _ b 0 _⟩
  have := Var.set HH.out (.string rb)
  rw [← HRB.out] at this ⊢
  exact this
theorem take_miss (b : Nat) (s p : List UInt8) (w : World) (h : RV b s w) (hp : Lib.hasPrefix s p = false) :
    Calls Tryz.prog 26 #[.pointer (some ⟨b, 0, none⟩), .string ⟨p.toArray⟩] w fun e w' => e = .returned (.bool false) ∧ w' = w := by
  have HC := Tryz.strings_CutPrefix ⟨s.toArray⟩ ⟨p.toArray⟩ w
  rw [data_lit, data_lit, hp] at HC
  have c0 := Var.c h
  have f0 := Var.f h
  clear h hp
  generalize (⟨s.toArray⟩ : ByteArray) = sb at *
  generalize (⟨p.toArray⟩ : ByteArray) = pb at *
  go_enter Tryz.func26, Tryz.ntmps26
  go_wp2_with fail
  refine HC.mono ?_
  rintro e w1 ⟨rfl, rfl⟩
  go_wp2_with fail
  go_ret
  exact ⟨rfl, rfl⟩
theorem tk_some {c : UInt8} {s r : List UInt8} (h : tkM c s = some r) : s = [c] ++ r := by
  cases s with
  | nil => simp [tkM] at h
  | cons b q => simp only [tkM] at h; split at h <;> simp_all
theorem tk_none {c : UInt8} {s : List UInt8} (h : tkM c s = none) : Lib.hasPrefix s [c] = false := by
  cases s with
  | nil => rfl
  | cons b q =>
    simp only [tkM] at h
    split at h
    · cases h
    · rename_i hb
      simp [Lib.hasPrefix, List.isPrefixOf]
      exact fun e => hb e.symm
theorem numCh_set : (fun c : UInt8 => ([45, 48, 49, 50, 51, 52, 53, 54, 55, 56, 57] : List UInt8).contains c) = numCh := by
  funext c
  rw [Bool.eq_iff_iff]
  simp only [numCh, List.contains_iff_mem, List.mem_cons, List.not_mem_nil, or_false, Bool.or_eq_true, Bool.and_eq_true, decide_eq_true_iff, ← UInt8.toNat_inj]
  simp
  omega
theorem trim_num (s : List UInt8) (w : World) :
    Calls Tryz.prog 53 #[.string ⟨s.toArray⟩, .string ⟨#[45, 48, 49, 50, 51, 52, 53, 54, 55, 56, 57]⟩] w fun e w' => e = .returned (.string ⟨(s.dropWhile numCh).toArray⟩) ∧ Below w.heap.size w w' := by
  have h := Any.strings_TrimLeft_laid Tryz.lays161 (by kernel_rfl) ⟨s.toArray⟩ ⟨#[45, 48, 49, 50, 51, 52, 53, 54, 55, 56, 57]⟩ w (by decide) (ascii_of_all (by decide))
  have e : Lib.trimLeftS (⟨s.toArray⟩ : ByteArray).data.toList (⟨#[45, 48, 49, 50, 51, 52, 53, 54, 55, 56, 57]⟩ : ByteArray).data.toList = s.dropWhile numCh := by
    unfold Lib.trimLeftS
    rw [data_lit, ← numCh_set]
  rw [e] at h
  exact h
end Go.Proofs.YtbfclibjnanlgaaGreatDoor
