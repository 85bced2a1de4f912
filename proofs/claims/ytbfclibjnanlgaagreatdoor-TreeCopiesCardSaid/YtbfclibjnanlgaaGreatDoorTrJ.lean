/- Several texts in one. -/
import Derived.Test.YtbfclibjnanlgaaGreatDoorTrZ
import Derived.Test.YtbfclibjnanlgaaGreatDoorPpF
import Derived.Test.YtbfclibjnanlgaaGreatDoorTwA
import Derived.Deep.RegionHeld3
import Derived.BigQuiet
import Derived.Test.YtbfclibjnanlgaaGreatDoorTrX
import Derived.Test.YtbfclibjnanlgaaGreatDoorTrV
/- The beginning of a node's text, walked. -/
namespace Go.Proofs.YtbfclibjnanlgaaGreatDoor
open Go.RowKit
set_option maxHeartbeats 4000000
set_option maxRecDepth 100000
set_option linter.unusedVariables false

/-- How long a string is at most, found by its form. -/
class BLen (a : ByteArray) (n : outParam Nat) : Prop where
  h : a.size ≤ n * 281474976710656
instance BLen.app (a b : ByteArray) (n m : Nat) [ha : BLen a n] [hb : BLen b m] : BLen (a ++ b) (n + m) :=
  ⟨by have := ha.h; have := hb.h; simp only [ByteArray.size_append, Nat.add_mul]; omega⟩
instance BLen.one (c : UInt8) : BLen ⟨#[c]⟩ 1 := ⟨by show 1 ≤ _; decide⟩
theorem run_add_b {P : Program} (w : World) (a b : ByteArray) (n m : Nat) [ha : BLen a n] [hb : BLen b m] (h : n + m ≤ 1000) : (Op.stringOp .add a b).run P w = .ok (.string (a ++ b)) w :=
  run_string_add_sum w a b (by have := ha.h; have := hb.h; omega)
theorem itoa_len (n : Int) (h0 : -9223372036854775808 ≤ n) (h1 : n ≤ 9223372036854775807) : (Lib.itoa n).length ≤ 20 := by
  have e : (10 : Nat) ^ (18 + 1) = 10000000000000000000 := by decide
  unfold Lib.itoa
  split
  · have := dec_len 18 n.natAbs (by omega)
    simp only [List.length_cons]; omega
  · have := dec_len 18 n.toNat (by omega)
    omega
attribute [local go_sem ↓] run_add_b
/-- Worlds that stand behind w, where the library's variables are as they were. -/
def EB (w w' : World) : Prop := Env w' ∧ Below w.heap.size w w'
theorem EB.drew {w w' : World} (h : EB w w') : EB w w'.drew := ⟨h.1.below (below_drewN w' 1), h.2.drew⟩
theorem EB.of {w w1 w2 : World} (h : EB w w1) (hb : Below w1.heap.size w1 w2) : EB w w2 := ⟨h.1.below hb, h.2.trans (hb.mono h.2.size)⟩
/-- What a walk reads of a node, whatever was made behind it. -/
@[reducible] def NC (w' : World) (p : Nat) (dk : Int) (dx : ByteArray) (dn : Int) : Prop := w'.cell? ⟨p, 0, none⟩ = some (.int .u8 dk) ∧ w'.cell? ⟨p, 2, none⟩ = some (.string dx) ∧ w'.cell? ⟨p, 3, none⟩ = some (.int .i64 dn)
theorem NC.of {w w' : World} {p : Nat} {dk dn : Int} {dx : ByteArray} (h : NC w p dk dx dn) (hb : Below w.heap.size w w') : NC w' p dk dx dn :=
  ⟨(hb.cell (Lib.lt_of_cell h.1)).trans h.1, (hb.cell (Lib.lt_of_cell h.2.1)).trans h.2.1, (hb.cell (Lib.lt_of_cell h.2.2)).trans h.2.2⟩
theorem itoa_eb (w : World) (p : Nat) (dk dn : Int) (dx : ByteArray) (n : Int) (h0 : -9223372036854775808 ≤ n) (h1 : n ≤ 9223372036854775807) (w1 : World) (hS : EB w w1 ∧ NC w1 p dk dx dn) :
    Calls Tryz.prog 49 #[.int .i64 n] w1 fun e w2 => e = .returned (.string ⟨(Lib.itoa n).toArray⟩) ∧ EB w w2 ∧ NC w2 p dk dx dn := by
  refine (Tryz.strconv_Itoa n h0 h1 _ hS.1.1.tab).mono ?_
  rintro e w' ⟨rfl, k, os, rfl⟩
  have hb := Lib.below_grow w1.heap.size w1 (Nat.le_refl _) k os
  exact ⟨rfl, hS.1.of hb, hS.2.of hb⟩
theorem format_eb (w : World) (p : Nat) (dk dn : Int) (dx : ByteArray) (n : Int) (h0 : -9223372036854775808 ≤ n) (h1 : n ≤ 9223372036854775807) (w1 : World) (hS : EB w w1 ∧ NC w1 p dk dx dn) :
    Calls Tryz.prog 50 #[.int .i64 n, .int .i64 10] w1 fun e w2 => e = .returned (.string ⟨(Lib.itoa n).toArray⟩) ∧ EB w w2 ∧ NC w2 p dk dx dn := by
  refine (Tryz.strconv_FormatInt_10 n h0 h1 _ hS.1.1.tab).mono ?_
  rintro e w' ⟨rfl, k, os, rfl⟩
  have hb := Lib.below_grow w1.heap.size w1 (Nat.le_refl _) k os
  exact ⟨rfl, hS.1.of hb, hS.2.of hb⟩
theorem head_cat (a b c e : List UInt8) (x : ByteArray) : (⟨#[40]⟩ : ByteArray) ++ ⟨a.toArray⟩ ++ ⟨#[32]⟩ ++ ⟨b.toArray⟩ ++ ⟨#[32]⟩ ++ ⟨c.toArray⟩ ++ ⟨#[58]⟩ ++ x ++ ⟨#[32]⟩ ++ ⟨e.toArray⟩ = ⟨(40 :: (a ++ 32 :: (b ++ 32 :: (c ++ 58 :: (x.data.toList ++ 32 :: e))))).toArray⟩ := by
  apply ByteArray.ext
  simp
theorem head_any (w : World) (p : Nat) (d : ND) (v : Value) (hN : w.heap[p]? = some (nodeO d v)) (hE : Env w) (hd : OkD d) (hx : d.x.length ≤ 281474976710656) :
    Calls Tryz.prog 32 #[ptrV p] w fun e w' => e = .returned (.string ⟨(headT d).toArray⟩) ∧ Below w.heap.size w w' := by
  obtain ⟨hd1, hd2, hd3⟩ := hd
  have HT := Text_any d.l d.c w hE
  have hA : NodeAt w p d v := ⟨hN⟩
  have c1 := hA.c1
  have hnc : NC w p d.k ⟨d.x.toArray⟩ d.n := ⟨hA.c0, hA.c2, hA.c3⟩
  have hsz : (⟨d.x.toArray⟩ : ByteArray).size = d.x.length := by simp [ByteArray.size]
  have hxl : (⟨d.x.toArray⟩ : ByteArray).data.toList = d.x := by simp
  have HH : Hid (headT d = 40 :: (Lib.itoa d.k ++ 32 :: ((if txtOf d.l d.c = [] then [45] else txtOf d.l d.c) ++ 32 :: (Lib.itoa d.x.length ++ 58 :: (d.x ++ 32 :: Lib.itoa d.n))))) := Lib.hid rfl
  obtain ⟨px, py, hp⟩ := posV_cx d.l d.c
  rw [hp] at c1 HT
  have hal : (txtOf d.l d.c).length ≤ 21 := by
    unfold txtOf
    split
    · exact txt_short _ _ (by assumption)
    · simp
  generalize txtOf d.l d.c = at0 at *
  generalize hdx : (⟨d.x.toArray⟩ : ByteArray) = dx at *
  have hwk : IntKind.i64.wrap (d.k : Int) = (d.k : Int) := wrap_i64 _ (by omega) (by omega)
  generalize hdk : (d.k : Int) = dk at *
  have HK := itoa_eb w p dk d.n dx dk (by omega) (by omega)
  have HL := itoa_eb w p dk d.n dx dx.size (by omega) (by omega)
  have HF := format_eb w p dk d.n dx d.n hd2 hd3
  have i1 : BLen ⟨(Lib.itoa dk).toArray⟩ 1 := ⟨by have := itoa_len dk (by omega) (by omega); show (Lib.itoa dk).toArray.size ≤ _; rw [List.size_toArray]; omega⟩
  have i2 : BLen ⟨(Lib.itoa (dx.size : Int)).toArray⟩ 1 := ⟨by have := itoa_len (dx.size : Int) (by omega) (by omega); show (Lib.itoa (dx.size : Int)).toArray.size ≤ _; rw [List.size_toArray]; omega⟩
  have i3 : BLen ⟨(Lib.itoa d.n).toArray⟩ 1 := ⟨by have := itoa_len d.n hd2 hd3; show (Lib.itoa d.n).toArray.size ≤ _; rw [List.size_toArray]; omega⟩
  have i4 : BLen dx 1 := ⟨by omega⟩
  have i5 : BLen ⟨at0.toArray⟩ 1 := ⟨by show at0.toArray.size ≤ _; rw [List.size_toArray]; omega⟩
  have HX := Lib.hid (And.intro hsz hxl)
  generalize d.n = dn at *
  have HNC := Lib.hid hnc
  have HE := Lib.hid hE
  clear hA hN hnc hsz hxl hE hdk hdx hp
  simp only [ptrV]
  go_enter Tryz.func32, Tryz.ntmps32
  go_wp2_with fail
  refine HT.mono ?_
  rintro e w1 ⟨rfl, B1⟩
  have hEB : EB w w1 := ⟨HE.out.below B1, B1⟩
  have hNC := HNC.out.of B1
  clear HT
  by_cases ht : at0 = []
  · subst ht
    go_wp2_with fail
    go_region_held3 (fun w' => EB w w' ∧ w'.cell? ⟨p, 0, none⟩ = some (.int .u8 dk) ∧ w'.cell? ⟨p, 2, none⟩ = some (.string dx) ∧ w'.cell? ⟨p, 3, none⟩ = some (.int .i64 dn))
      (first | assumption | (exact ⟨hEB.drew, hNC⟩) | (exact ⟨hS.1.drew, hS.2⟩))
      (first
        | (go_at_call 49; first | (refine (HK _ (by assumption)).mono ?_; rintro e w2 ⟨rfl, hS⟩) | (refine (HL _ (by assumption)).mono ?_; rintro e w2 ⟨rfl, hS⟩))
        | (go_at_call 50; refine (HF _ (by assumption)).mono ?_; rintro e w2 ⟨rfl, hS⟩))
    all_goals
      clear HK HL HF i1 i2 i3 i4 i5
      go_wp2_with fail
      go_ret
      refine ⟨?_, hS.1.2⟩
      rw [HH.out, if_pos trivial, ← HX.out.1, ← HX.out.2]
      exact congrArg (fun b => Ending.returned (Value.string b)) (head_cat (Lib.itoa dk) [45] (Lib.itoa (dx.size : Int)) (Lib.itoa dn) dx)
  · have htn : at0.isEmpty = false := by cases at0 <;> simp_all
    go_wp2_with fail
    go_region_held3 (fun w' => EB w w' ∧ w'.cell? ⟨p, 0, none⟩ = some (.int .u8 dk) ∧ w'.cell? ⟨p, 2, none⟩ = some (.string dx) ∧ w'.cell? ⟨p, 3, none⟩ = some (.int .i64 dn))
      (first | assumption | (exact ⟨hEB.drew, hNC⟩) | (exact ⟨hS.1.drew, hS.2⟩))
      (first
        | (go_at_call 49; first | (refine (HK _ (by assumption)).mono ?_; rintro e w2 ⟨rfl, hS⟩) | (refine (HL _ (by assumption)).mono ?_; rintro e w2 ⟨rfl, hS⟩))
        | (go_at_call 50; refine (HF _ (by assumption)).mono ?_; rintro e w2 ⟨rfl, hS⟩))
    all_goals
      clear HK HL HF i1 i2 i3 i4 i5
      go_wp2_with fail
      go_ret
      refine ⟨?_, hS.1.2⟩
      rw [HH.out, if_neg ht, ← HX.out.1, ← HX.out.2]
      exact congrArg (fun b => Ending.returned (Value.string b)) (head_cat (Lib.itoa dk) at0 (Lib.itoa (dx.size : Int)) (Lib.itoa dn) dx)
end Go.Proofs.YtbfclibjnanlgaaGreatDoor
/- tree.Text, walked. -/
namespace Go.Proofs.YtbfclibjnanlgaaGreatDoor
open Go.RowKit
set_option maxHeartbeats 2000000
set_option maxRecDepth 100000
set_option linter.unusedVariables false

/-- What the closures of Text keep: a builder, in block b, and what was there before. -/
def TxI (w0 : World) (b : Nat) (s : List UInt8) (M : List Nat) (w : World) : Prop := ∃ v, Bld w0.heap.size b s w v ∧ M = b :: obL v ∧ Below w0.heap.size w0 w
theorem txi_keep {w0 : World} {b : Nat} {s : List UInt8} {M : List Nat} {w w' : World} {N : List Nat} (h : TxI w0 b s M w) (hF : Fr N w w') (hN : ∀ j ∈ N, j ∉ M ∧ w0.heap.size ≤ j) : TxI w0 b s M w' := by
  obtain ⟨v, h1, rfl, h3⟩ := h
  refine ⟨v, h1.keep hF (fun hm => (hN b hm).1 List.mem_cons_self) (fun j hj hm => (hN j hm).1 (List.mem_cons_of_mem _ hj)), rfl, h3.trans (hF.below _ (fun j hj => (hN j hj).2) h3.size)⟩
theorem txi_old {w0 : World} {b : Nat} {s : List UInt8} {M : List Nat} {w : World} (h : TxI w0 b s M w) : ∀ j ∈ M, w0.heap.size ≤ j ∧ j < w.heap.size := by
  obtain ⟨v, h1, rfl, h3⟩ := h
  intro j hj
  rcases List.mem_cons.1 hj with rfl | hj
  · exact ⟨h1.b, h1.lt⟩
  · exact h1.old j hj
/-- One writing on. -/
theorem txi_on {w0 : World} {b : Nat} {s s' : List UInt8} {M : List Nat} {w w' : World} {v v' : Value} (h : TxI w0 b s M w) (hM : M = b :: obL v) (h1 : Bld w0.heap.size b s' w' v') (hF : Fr (b :: obL v) w w') (hj : ∀ j ∈ obL v', j ∈ obL v ∨ w.heap.size ≤ j) :
    TxI w0 b s' (b :: obL v') w' ∧ Fr M w w' ∧ ∀ j ∈ b :: obL v', j ∈ M ∨ w.heap.size ≤ j := by
  have ho := txi_old h
  subst hM
  obtain ⟨_, _, _, h3⟩ := h
  refine ⟨⟨v', h1, rfl, h3.trans (hF.below _ (fun j hj => (ho j hj).1) h3.size)⟩, hF, fun j hm => ?_⟩
  rcases List.mem_cons.1 hm with rfl | hm
  · exact .inl List.mem_cons_self
  · rcases hj j hm with h | h
    · exact .inl (List.mem_cons_of_mem _ h)
    · exact .inr h
theorem text2 (w0 : World) (b : Nat) (s : List UInt8) (M : List Nat) (w : World) (h : TxI w0 b s M w) (hs : s.length + 1 ≤ 140737488355328) :
    Calls Tryz.prog 33 #[.pointer (some ⟨b, 0, none⟩)] w fun e w' => e = .returned (.tuple #[]) ∧ ∃ M', TxI w0 b (txLv s) M' w' ∧ Fr M w w' ∧ ∀ j ∈ M', j ∈ M ∨ w.heap.size ≤ j := by
  obtain ⟨v, h1, hM, h3⟩ := id h
  have HB := bldF_byte 41 h1 hs h3.size
  rw [show ((41 : UInt8).toNat : Int) = 41 from rfl] at HB
  have HH := Lib.hid (And.intro h hM)
  clear h h1 h3 hM
  go_enter Tryz.func33, Tryz.ntmps33
  go_wp2_with fail
  refine HB.mono ?_
  rintro e w1 ⟨rfl, v', h1, hF, hj⟩
  have HR := Lib.hid (txi_on HH.out.1 HH.out.2 h1 hF hj)
  clear h1 hF hj HB
  go_wp2_with fail
  go_end0
  exact ⟨rfl, _, HR.out⟩
/-- What Text$1 does behind the blank. -/
theorem text1 (w0 : World) (hE : Env w0) (b : Nat) (s : List UInt8) (M : List Nat) (w : World) (p : Nat) (d : ND) (u : Value) (h : TxI w0 b s M w) (hN : w.heap[p]? = some (nodeO d u)) (hp : p < w0.heap.size) (hd : OkD d) (hx : d.x.length ≤ 281474976710656) (hs : s.length + 1 + (headT d).length ≤ 140737488355328) :
    Calls Tryz.prog 28 #[ptrV p, .pointer (some ⟨b, 0, none⟩)] w fun e w' => e = .returned (.bool true) ∧ ∃ M', TxI w0 b ((s ++ sepT s) ++ headT d) M' w' ∧ Fr M w w' ∧ ∀ j ∈ M', j ∈ M ∨ w.heap.size ≤ j := by
  obtain ⟨v, h1, hM, h3⟩ := id h
  have HL := Tryz.Builder_Len w0.heap.size b (byC s) w h1.isB
  rw [show (byC s).length = s.length from by simp [byC]] at HL
  have hold := txi_old h
  have HO := Lib.hid hold
  by_cases he : s = []
  · have hl : (s.length : Int) = 0 := by rw [he]; rfl
    rw [hl] at HL
    have HX := fun w1 (B : Fr [] w w1) => head_any w1 p d u ((B.block p (lt_heap hN) (by simp)).trans hN) (hE.below (h3.trans (B.below _ (by simp) h3.size))) hd hx
    have hsep : sepT s = [] := by unfold sepT; rw [if_pos he]
    have HH := Lib.hid (And.intro h (And.intro hM (And.intro h1 h3)))
    have HX0 := HX w (Fr.refl _ _)
    have HS := Lib.hid hsep
    clear h h1 h3 hM hN HX hE hl he hsep hold
    simp only [ptrV] at HX0 ⊢
    go_enter Tryz.func28, Tryz.ntmps28
    go_wp2_with fail
    refine HL.mono ?_
    rintro e w1 ⟨rfl, rfl⟩
    go_wp2_with fail
    refine HX0.mono ?_
    rintro e w2 ⟨rfl, B2⟩
    have F2 := Fr.of_below B2
    have h2 := HH.out.2.2.1.keep F2 (by simp) (by simp)
    have t2 := txi_keep HH.out.1 F2 (by simp)
    have HB := bldF_str (headT d) h2 (by omega) (Nat.le_trans HH.out.2.2.2.size F2.size)
    have HT := Lib.hid (And.intro t2 F2)
    clear HX0 h2 t2 F2 B2 HL
    go_wp2_with fail
    refine HB.mono ?_
    rintro e w3 ⟨rfl, v', h1, hF, hj⟩
    obtain ⟨q1, q2, q3⟩ := txi_on HT.out.1 HH.out.2.1 h1 hF hj
    have HR := Lib.hid (And.intro q1 (And.intro q2 q3))
    clear h1 hF hj HB q1 q2 q3
    go_wp2_with fail
    go_ret
    refine ⟨rfl, b :: obL v', ?_, ?_, ?_⟩
    · rw [HS.out, List.append_nil]; exact HR.out.1
    · exact (HT.out.2.mono (by simp)).trans HR.out.2.1 (fun j hj => .inl hj)
    · intro j hj
      rcases HR.out.2.2 j hj with h | h
      · exact .inl h
      · have := HT.out.2.size; exact .inr (by omega)
  · have hl : 0 < s.length := List.length_pos_iff.2 he
    have HBy := bldF_byte 32 h1 (by omega) h3.size
    rw [show ((32 : UInt8).toNat : Int) = 32 from rfl] at HBy
    have HX := fun w1 (B : Fr M w w1) => head_any w1 p d u ((B.block p (lt_heap hN) (fun hm => by have := (hold p hm).1; omega)).trans hN) (hE.below (h3.trans (B.below _ (fun j hj => (hold j hj).1) h3.size))) hd hx
    have hsep : sepT s = [32] := by unfold sepT; rw [if_neg he]
    have HH := Lib.hid (And.intro h (And.intro hM (And.intro h1 h3)))
    have HXH := Lib.hid HX
    have HS := Lib.hid hsep
    have hlt : (0 : Int) < (s.length : Int) := by omega
    clear h h1 h3 hM hN HX hE he hsep hold
    simp only [ptrV]
    go_enter Tryz.func28, Tryz.ntmps28
    go_wp2_with fail
    refine HL.mono ?_
    rintro e w1 ⟨rfl, rfl⟩
    go_wp2_with fail
    refine HBy.mono ?_
    rintro e w2 ⟨rfl, v2, k1, kF, kj⟩
    obtain ⟨q1, q2, q3⟩ := txi_on HH.out.1 HH.out.2.1 k1 kF kj
    have HX0 := HXH.out w2 q2
    simp only [ptrV] at HX0
    have HT := Lib.hid (And.intro q1 (And.intro q2 (And.intro q3 k1)))
    clear k1 kF kj q1 q2 q3 HBy HL HXH
    go_wp2_with fail
    refine HX0.mono ?_
    rintro e w3 ⟨rfl, B3⟩
    have F3 := Fr.of_below B3
    have h2 := HT.out.2.2.2.keep F3 (by simp) (by simp)
    have t2 := txi_keep HT.out.1 F3 (by simp)
    have HB := bldF_str (headT d) h2 (by simp; omega) (Nat.le_trans HH.out.2.2.2.size (Nat.le_trans HT.out.2.1.size F3.size))
    have HT2 := Lib.hid (And.intro t2 F3)
    clear HX0 h2 t2 F3 B3
    go_wp2_with fail
    refine HB.mono ?_
    rintro e w4 ⟨rfl, v', h1, hF, hj⟩
    obtain ⟨q1, q2, q3⟩ := txi_on HT2.out.1 rfl h1 hF hj
    have HR := Lib.hid (And.intro q1 (And.intro q2 q3))
    clear h1 hF hj HB q1 q2 q3
    go_wp2_with fail
    go_ret
    refine ⟨rfl, b :: obL v', ?_, ?_, ?_⟩
    · rw [HS.out]; exact HR.out.1
    · exact HT.out.2.1.trans ((HT2.out.2.mono (N := b :: obL v2) (by simp)).trans HR.out.2.1 (fun j hj => .inl hj)) (fun j hj => HT.out.2.2.1 j hj)
    · intro j hj
      rcases HR.out.2.2 j hj with h | h
      · exact HT.out.2.2.1 j h
      · have := HT.out.2.1.size; have := HT2.out.2.size; exact .inr (by omega)
theorem cl_text (w0 : World) (hE : Env w0) (b : Nat) : Clt w0.heap.size (TxI w0 b) txEn txLv txQ [.pointer (some ⟨b, 0, none⟩)] [.pointer (some ⟨b, 0, none⟩)] where
  lt := fun s M w h j hj => (txi_old h j hj).2
  keep := fun s M w w' N h hF hN => txi_keep h hF hN
  ent := fun s M w n t r v h hq hn hp hb => by
    obtain ⟨q1, q2⟩ := hq
    simp only [textTL, textT_eq, List.length_cons, List.length_append, List.length_nil] at q1
    have hxl : t.d.x.length ≤ (headT t.d).length := by simp [headT]; omega
    refine (text1 w0 hE b s M w t.p t.d v h hn hp ((okT_eq t).1 q2.1).1 (by omega) (by omega)).mono ?_
    rintro e w' ⟨rfl, M', h1, h2, h3⟩
    exact ⟨rfl, M', h1, h2, h3⟩
  lev := fun s M w n r h hq hb => by
    obtain ⟨q1, q2⟩ := hq
    refine (text2 w0 b s M w h (by omega)).mono ?_
    rintro e w' ⟨rfl, M', h1, h2, h3⟩
    exact ⟨rfl, M', h1, h2, h3⟩
  qent := tx_qent
  qlev := tx_qlev
  big := fun s M w h j hj => (txi_old h j hj).1
/-- tree.Text of a tree. -/
theorem tText_any (w : World) (hE : Env w) (t : Tr) {P : Nat → Prop} (hT : IsT w P t) (hnd : t.nodes.Nodup) (hc : t.cnt ≤ 1048576) (hok : OkT t) (hlen : (textT t).length ≤ 1099511627776) :
    Calls Tryz.prog 14 #[ptrV t.p] w fun e w' => e = .returned (.string ⟨(textT t).toArray⟩) ∧ Below w.heap.size w w' := by
  have HR := rising_any w t hT hnd hc
  have hTb : IsT w (· < w.heap.size) t := hT.keep (fun j _ h => h) (fun j _ h => rfl)
  have HW := fun (w1 : World) (B1 : Below w.heap.size w w1) => walk_t (cl_text w hE w1.heap.size) [] [w1.heap.size] (w1.alloc (.cells #[.pointer none, .slice none 0 0] 60)) t
    ⟨.slice none 0 0, ⟨⟨_, heap_alloc_new _ _, .inl rfl⟩, World.ownsRow_nil _ _ _ _, B1.size⟩, rfl, B1.trans ((below_new w1 _).mono B1.size)⟩
    ⟨by simp only [textTL, List.length_cons, List.length_append, List.length_nil]; omega, hok, trivial⟩
    (hTb.keep (fun _ _ h => h) (fun j h _ => (B1.trans ((below_new w1 _).mono B1.size)).block j h)) hc (by have := B1.size; simp; omega)
  have HPL := Lib.hid (And.intro (post_len t) (cnt_pos t))
  have HWH := Lib.hid HW
  have hlen2 : Hid ((textT t).length ≤ 1099511627776) := Lib.hid hlen
  clear HW hT hTb hE hok hnd hlen
  simp only [ptrV] at HR ⊢
  go_enter Tryz.func14, Tryz.ntmps14
  go_wp2_with fail
  refine HR.mono ?_
  rintro e w1 ⟨rv, rfl, B1, R1⟩
  obtain ⟨q, cap, hq⟩ := R1.form
  rw [List.length_map, HPL.out.1] at hq
  subst hq
  have hc1 := HPL.out.2
  have hne : ((t.cnt : Int) == 0) = false := beq_eq_false_iff_ne.2 (by omega)
  have HW1 := HWH.out w1 B1
  have HB1 := Lib.hid B1
  clear R1 HR B1 HWH
  simp only [ptrV] at HW1
  go_wp2_with fail
  refine HW1.mono ?_
  rintro e w2 ⟨rfl, M', ⟨v, hb, hM, hB2⟩, F2, _⟩
  rw [run_tx, show sepT [] = [] from rfl, List.nil_append, List.nil_append] at hb
  have HS := Tryz.Builder_String_any w.heap.size w1.heap.size (textT t) w2 hb.isB hB2.size
  have HB2 := Lib.hid hB2
  clear hb hM hB2 F2 HW1
  go_wp2_with fail
  refine HS.mono ?_
  rintro e w3 ⟨rfl, B3⟩
  have HB3 := Lib.hid (HB2.out.trans B3)
  clear B3 HS
  go_wp2_with fail
  go_ret
  exact ⟨rfl, HB3.out⟩
end Go.Proofs.YtbfclibjnanlgaaGreatDoor
