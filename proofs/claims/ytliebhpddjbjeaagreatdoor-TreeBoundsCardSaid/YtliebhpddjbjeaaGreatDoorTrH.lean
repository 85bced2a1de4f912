/- The beginning of a node's text, walked. -/
import Derived.Test.YtliebhpddjbjeaaGreatDoorTrY
import Derived.Test.YtliebhpddjbjeaaGreatDoorPpF
import Derived.Test.YtliebhpddjbjeaaGreatDoorTwA
import Derived.Deep.RegionHeld3
import Derived.BigQuiet
namespace Go.Proofs.YtliebhpddjbjeaaGreatDoor
open Go.RowKit
set_option maxHeartbeats 4000000
set_option maxRecDepth 100000
set_option linter.unusedVariables false

/-- How long a string is at most, found by its form. -/
class BLen (a : ByteArray) (n : outParam Nat) : Prop where
  h : a.size ≤ n * 281474976710656
instance BLen.app (a b : ByteArray) (n m : Nat) [ha : BLen a n] [hb : BLen b m] : BLen (a ++ b) (n + m) :=
  ⟨by have := ha.h; have := hb.h; simp only [ByteArray.size_append, Nat.add_mul]; omega⟩
instance BLen.one (c : UInt8) : BLen ⟨#[c]⟩ 1 := ⟨by show 1 ≤ _; decide⟩
theorem run_add_b {P : Program} (w : World) (a b : ByteArray) (n m : Nat) [ha : BLen a n] [hb : BLen b m] (h : n + m ≤ 1000) : (Op.stringOp .add a b).run P w = .ok (.string (a ++ b)) w :=
  run_string_add_sum w a b (by have := ha.h; have := hb.h; omega)
theorem itoa_len (n : Int) (h0 : -9223372036854775808 ≤ n) (h1 : n ≤ 9223372036854775807) : (Lib.itoa n).length ≤ 20 := by
  have e : (10 : Nat) ^ (18 + 1) = 10000000000000000000 := by decide
  unfold Lib.itoa
  split
  · have := dec_len 18 n.natAbs (by omega)
    simp only [List.length_cons]; omega
  · have := dec_len 18 n.toNat (by omega)
    omega
attribute [local go_sem ↓] run_add_b
/-- Worlds that stand behind w, where the library's variables are as they were. -/
def EB (w w' : World) : Prop := Env w' ∧ Below w.heap.size w w'
theorem EB.drew {w w' : World} (h : EB w w') : EB w w'.drew := ⟨h.1.below (below_drewN w' 1), h.2.drew⟩
theorem EB.of {w w1 w2 : World} (h : EB w w1) (hb : Below w1.heap.size w1 w2) : EB w w2 := ⟨h.1.below hb, h.2.trans (hb.mono h.2.size)⟩
/-- What a walk reads of a node, whatever was made behind it. -/
@[reducible] def NC (w' : World) (p : Nat) (dk : Int) (dx : ByteArray) (dn : Int) : Prop := w'.cell? ⟨p, 0, none⟩ = some (.int .u8 dk) ∧ w'.cell? ⟨p, 2, none⟩ = some (.string dx) ∧ w'.cell? ⟨p, 3, none⟩ = some (.int .i64 dn)
theorem NC.of {w w' : World} {p : Nat} {dk dn : Int} {dx : ByteArray} (h : NC w p dk dx dn) (hb : Below w.heap.size w w') : NC w' p dk dx dn :=
  ⟨(hb.cell (Lib.lt_of_cell h.1)).trans h.1, (hb.cell (Lib.lt_of_cell h.2.1)).trans h.2.1, (hb.cell (Lib.lt_of_cell h.2.2)).trans h.2.2⟩
theorem itoa_eb (w : World) (p : Nat) (dk dn : Int) (dx : ByteArray) (n : Int) (h0 : -9223372036854775808 ≤ n) (h1 : n ≤ 9223372036854775807) (w1 : World) (hS : EB w w1 ∧ NC w1 p dk dx dn) :
    Calls Tryz.prog 85 #[.int .i64 n] w1 fun e w2 => e = .returned (.string ⟨(Lib.itoa n).toArray⟩) ∧ EB w w2 ∧ NC w2 p dk dx dn := by
  refine (Tryz.strconv_Itoa n h0 h1 _ hS.1.1.tab).mono ?_
  rintro e w' ⟨rfl, k, os, rfl⟩
  have hb := Lib.below_grow w1.heap.size w1 (Nat.le_refl _) k os
  exact ⟨rfl, hS.1.of hb, hS.2.of hb⟩
theorem format_eb (w : World) (p : Nat) (dk dn : Int) (dx : ByteArray) (n : Int) (h0 : -9223372036854775808 ≤ n) (h1 : n ≤ 9223372036854775807) (w1 : World) (hS : EB w w1 ∧ NC w1 p dk dx dn) :
    Calls Tryz.prog 76 #[.int .i64 n, .int .i64 10] w1 fun e w2 => e = .returned (.string ⟨(Lib.itoa n).toArray⟩) ∧ EB w w2 ∧ NC w2 p dk dx dn := by
  refine (Tryz.strconv_FormatInt_10 n h0 h1 _ hS.1.1.tab).mono ?_
  rintro e w' ⟨rfl, k, os, rfl⟩
  have hb := Lib.below_grow w1.heap.size w1 (Nat.le_refl _) k os
  exact ⟨rfl, hS.1.of hb, hS.2.of hb⟩
theorem head_cat (a b c e : List UInt8) (x : ByteArray) : (⟨#[40]⟩ : ByteArray) ++ ⟨a.toArray⟩ ++ ⟨#[32]⟩ ++ ⟨b.toArray⟩ ++ ⟨#[32]⟩ ++ ⟨c.toArray⟩ ++ ⟨#[58]⟩ ++ x ++ ⟨#[32]⟩ ++ ⟨e.toArray⟩ = ⟨(40 :: (a ++ 32 :: (b ++ 32 :: (c ++ 58 :: (x.data.toList ++ 32 :: e))))).toArray⟩ := by
  apply ByteArray.ext
  simp
theorem head_any (w : World) (p : Nat) (d : ND) (v : Value) (hN : w.heap[p]? = some (nodeO d v)) (hE : Env w) (hd : OkD d) (hx : d.x.length ≤ 281474976710656) :
    Calls Tryz.prog 58 #[ptrV p] w fun e w' => e = .returned (.string ⟨(headT d).toArray⟩) ∧ Below w.heap.size w w' := by
  obtain ⟨hd1, hd2, hd3⟩ := hd
  have HT := Text_any d.l d.c w hE
  have hA : NodeAt w p d v := ⟨hN⟩
  have c1 := hA.c1
  have hnc : NC w p d.k ⟨d.x.toArray⟩ d.n := ⟨hA.c0, hA.c2, hA.c3⟩
  have hsz : (⟨d.x.toArray⟩ : ByteArray).size = d.x.length := by simp [ByteArray.size]
  have hxl : (⟨d.x.toArray⟩ : ByteArray).data.toList = d.x := by simp
  have HH : Hid (headT d = 40 :: (Lib.itoa d.k ++ 32 :: ((if txtOf d.l d.c = [] then [45] else txtOf d.l d.c) ++ 32 :: (Lib.itoa d.x.length ++ 58 :: (d.x ++ 32 :: Lib.itoa d.n))))) := Lib.hid rfl
  obtain ⟨px, py, hp⟩ := posV_cx d.l d.c
  rw [hp] at c1 HT
  have hal : (txtOf d.l d.c).length ≤ 21 := by
    unfold txtOf
    split
    · exact txt_short _ _ (by assumption)
    · simp
  generalize txtOf d.l d.c = at0 at *
  generalize hdx : (⟨d.x.toArray⟩ : ByteArray) = dx at *
  have hwk : IntKind.i64.wrap (d.k : Int) = (d.k : Int) := wrap_i64 _ (by omega) (by omega)
  generalize hdk : (d.k : Int) = dk at *
  have HK := itoa_eb w p dk d.n dx dk (by omega) (by omega)
  have HL := itoa_eb w p dk d.n dx dx.size (by omega) (by omega)
  have HF := format_eb w p dk d.n dx d.n hd2 hd3
  have i1 : BLen ⟨(Lib.itoa dk).toArray⟩ 1 := ⟨by have := itoa_len dk (by omega) (by omega); show (Lib.itoa dk).toArray.size ≤ _; rw [List.size_toArray]; omega⟩
  have i2 : BLen ⟨(Lib.itoa (dx.size : Int)).toArray⟩ 1 := ⟨by have := itoa_len (dx.size : Int) (by omega) (by omega); show (Lib.itoa (dx.size : Int)).toArray.size ≤ _; rw [List.size_toArray]; omega⟩
  have i3 : BLen ⟨(Lib.itoa d.n).toArray⟩ 1 := ⟨by have := itoa_len d.n hd2 hd3; show (Lib.itoa d.n).toArray.size ≤ _; rw [List.size_toArray]; omega⟩
  have i4 : BLen dx 1 := ⟨by omega⟩
  have i5 : BLen ⟨at0.toArray⟩ 1 := ⟨by show at0.toArray.size ≤ _; rw [List.size_toArray]; omega⟩
  have HX := Lib.hid (And.intro hsz hxl)
  generalize d.n = dn at *
  have HNC := Lib.hid hnc
  have HE := Lib.hid hE
  clear hA hN hnc hsz hxl hE hdk hdx hp
  simp only [ptrV]
  go_enter Tryz.func58, Tryz.ntmps58
  go_wp2_with fail
  refine HT.mono ?_
  rintro e w1 ⟨rfl, B1⟩
  have hEB : EB w w1 := ⟨HE.out.below B1, B1⟩
  have hNC := HNC.out.of B1
  clear HT
  by_cases ht : at0 = []
  · subst ht
    go_wp2_with fail
    go_region_held3 (fun w' => EB w w' ∧ w'.cell? ⟨p, 0, none⟩ = some (.int .u8 dk) ∧ w'.cell? ⟨p, 2, none⟩ = some (.string dx) ∧ w'.cell? ⟨p, 3, none⟩ = some (.int .i64 dn))
      (first | assumption | (exact ⟨hEB.drew, hNC⟩) | (exact ⟨hS.1.drew, hS.2⟩))
      (first
        | (go_at_call 85; first | (refine (HK _ (by assumption)).mono ?_; rintro e w2 ⟨rfl, hS⟩) | (refine (HL _ (by assumption)).mono ?_; rintro e w2 ⟨rfl, hS⟩))
        | (go_at_call 76; refine (HF _ (by assumption)).mono ?_; rintro e w2 ⟨rfl, hS⟩))
    all_goals
      clear HK HL HF i1 i2 i3 i4 i5
      go_wp2_with fail
      go_ret
      refine ⟨?_, hS.1.2⟩
      rw [HH.out, if_pos trivial, ← HX.out.1, ← HX.out.2]
      exact congrArg (fun b => Ending.returned (Value.string b)) (head_cat (Lib.itoa dk) [45] (Lib.itoa (dx.size : Int)) (Lib.itoa dn) dx)
  · have htn : at0.isEmpty = false := by cases at0 <;> simp_all
    go_wp2_with fail
    go_region_held3 (fun w' => EB w w' ∧ w'.cell? ⟨p, 0, none⟩ = some (.int .u8 dk) ∧ w'.cell? ⟨p, 2, none⟩ = some (.string dx) ∧ w'.cell? ⟨p, 3, none⟩ = some (.int .i64 dn))
      (first | assumption | (exact ⟨hEB.drew, hNC⟩) | (exact ⟨hS.1.drew, hS.2⟩))
      (first
        | (go_at_call 85; first | (refine (HK _ (by assumption)).mono ?_; rintro e w2 ⟨rfl, hS⟩) | (refine (HL _ (by assumption)).mono ?_; rintro e w2 ⟨rfl, hS⟩))
        | (go_at_call 76; refine (HF _ (by assumption)).mono ?_; rintro e w2 ⟨rfl, hS⟩))
    all_goals
      clear HK HL HF i1 i2 i3 i4 i5
      go_wp2_with fail
      go_ret
      refine ⟨?_, hS.1.2⟩
      rw [HH.out, if_neg ht, ← HX.out.1, ← HX.out.2]
      exact congrArg (fun b => Ending.returned (Value.string b)) (head_cat (Lib.itoa dk) at0 (Lib.itoa (dx.size : Int)) (Lib.itoa dn) dx)
end Go.Proofs.YtliebhpddjbjeaaGreatDoor
