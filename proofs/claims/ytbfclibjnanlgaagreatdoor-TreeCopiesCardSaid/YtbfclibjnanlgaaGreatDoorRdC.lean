/- Reading a tree's text: places, and a node's beginning. -/
import Derived.Test.YtbfclibjnanlgaaGreatDoorRdB
import Derived.Test.YtbfclibjnanlgaaGreatDoorTrN
namespace Go.Proofs.YtbfclibjnanlgaaGreatDoor
open Go.RowKit
set_option maxHeartbeats 2000000
set_option maxRecDepth 100000
set_option linter.unusedVariables false
set_option linter.unusedSimpArgs false

def TkP (b : Nat) (s : List UInt8) (o : Option (List UInt8)) (w : World) (e : Ending) (w' : World) : Prop :=
  match o with
  | none => e = .returned (.bool false) ∧ RV b s w' ∧ Fr [b] w w'
  | some r => e = .returned (.bool true) ∧ RV b r w' ∧ Fr [b] w w'
theorem take_any (b : Nat) (c : UInt8) (s : List UInt8) (w : World) (h : RV b s w) :
    Calls Tryz.prog 26 #[.pointer (some ⟨b, 0, none⟩), .string ⟨#[c]⟩] w fun e w' => TkP b s (tkM c s) w e w' := by
  cases hq : tkM c s with
  | none =>
    refine (take_miss b s [c] w h (tk_none hq)).mono ?_
    rintro e w' ⟨rfl, rfl⟩
    exact ⟨rfl, h, Fr.refl _ _⟩
  | some r => 
    rw [tk_some hq] at h
    exact take_hit b [c] r w h
def NumP (b : Nat) (s : List UInt8) (o : Option (Int × List UInt8)) (w : World) (e : Ending) (w' : World) : Prop :=
  match o with
  | none => e = .returned (.tuple #[.int .i64 0, .bool false]) ∧ RV b s w' ∧ Fr [b] w w'
  | some (v, r) => e = .returned (.tuple #[.int .i64 v, .bool true]) ∧ RV b r w' ∧ Fr [b] w w'
theorem number_any (b : Nat) (s : List UInt8) (lo hi : Int) (w : World) (hR : RV b s w) (hE : Env w) (hl : s.length ≤ 1048576) (l0 : -9223372036854775808 ≤ lo) (l1 : hi ≤ 9223372036854775807) :
    Calls Tryz.prog 45 #[.pointer (some ⟨b, 0, none⟩), .int .i64 lo, .int .i64 hi] w fun e w' => NumP b s (numM lo hi s) w e w' := by
  cases hq : numM lo hi s with
  | none =>
    refine (number_none b s lo hi w hR hE hl l0 l1 hq).mono ?_
    rintro e w' ⟨rfl, B⟩
    exact ⟨rfl, hR.keep B, (Fr.of_below B).mono (by simp)⟩
  | some x => exact number_some b s lo hi x.1 x.2 w hR hE hl l0 l1 hq
theorem index_bl : ∀ s : List UInt8, (0 ≤ Lib.index s [32] → (Lib.index s [32]).toNat = (s.takeWhile noBl).length) ∧ (Lib.index s [32] < 0 → s.takeWhile noBl = s) ∧ -1 ≤ Lib.index s [32]
  | [] => by simp [Lib.index]
  | b :: r => by
    obtain ⟨i1, i2, i3⟩ := index_bl r
    by_cases hb : b = 32
    · subst hb
      simp [Lib.index, List.isPrefixOf, noBl]
    · have hn : noBl b = true := by simp [noBl, hb]
      have hp : ([32] : List UInt8).isPrefixOf (b :: r) = false := by simp [List.isPrefixOf]; exact fun e => hb e.symm
      simp only [Lib.index, hp, Bool.false_eq_true, if_false, List.takeWhile_cons, hn, if_true]
      by_cases h1 : Lib.index r [32] = -1
      · simp [h1, i2 (by omega)]
      · have h2 : (Lib.index r [32] == -1) = false := beq_eq_false_iff_ne.2 h1
        simp only [h2, Bool.false_eq_true, if_false]
        have h3 : 0 ≤ Lib.index r [32] := by omega
        have h4 := i1 h3
        refine ⟨fun _ => ?_, fun h => ?_, ?_⟩
        · simp only [List.length_cons]; omega
        · omega
        · omega
theorem cut_bl (s : List UInt8) : (Lib.cut s [32]).1 = s.takeWhile noBl := by
  obtain ⟨i1, i2, i3⟩ := index_bl s
  unfold Lib.cut
  by_cases h : 0 ≤ Lib.index s [32]
  · rw [if_pos h, i1 h]
    show s.take _ = _
    have := List.takeWhile_append_dropWhile (p := noBl) (l := s)
    conv => lhs; arg 2; rw [← this]
    exact List.take_left
  · rw [if_neg h]
    exact (i2 (by omega)).symm
def PosP (b : Nat) (s : List UInt8) (o : Option ((Int × Int) × List UInt8)) (w : World) (e : Ending) (w' : World) : Prop :=
  match o with
  | none => ∃ x y, e = .returned (.tuple #[.complex .f64 x y, .bool false]) ∧ RV b s w' ∧ Fr [b] w w'
  | some (p, r) => e = .returned (.tuple #[posV p.1 p.2, .bool true]) ∧ RV b r w' ∧ Fr [b] w w'
/-- The reader's block lies behind w0, where the library's variables are known. -/
structure RC (w0 : World) (b : Nat) (s : List UInt8) (w : World) : Prop where
  e : Env w0
  lb : w0.heap.size ≤ b
  bl : Below w0.heap.size w0 w
  rv : RV b s w
theorem RC.env {w0 w : World} {b : Nat} {s : List UInt8} (h : RC w0 b s w) : Env w := h.e.below h.bl
theorem RC.on {w0 w w' : World} {b : Nat} {s r : List UInt8} (h : RC w0 b s w) (hr : RV b r w') (hF : Fr [b] w w') : RC w0 b r w' :=
  ⟨h.e, h.lb, h.bl.trans (hF.below _ (fun j hj => by
    obtain rfl : j = b := by simpa using hj
    exact h.lb) h.bl.size), hr⟩
theorem RC.below {w0 w w' : World} {b : Nat} {s : List UInt8} (h : RC w0 b s w) (hB : Below w.heap.size w w') : RC w0 b s w' := h.on (h.rv.keep hB) ((Fr.of_below hB).mono (by simp))
theorem fr_bl {b : Nat} {w w' : World} (hB : Below w.heap.size w w') : Fr [b] w w' := (Fr.of_below hB).mono (by simp)
theorem pos_any (w0 : World) (b : Nat) (s : List UInt8) (w : World) (hR : RC w0 b s w) (hl : s.length ≤ 1048576) :
    Calls Tryz.prog 46 #[.pointer (some ⟨b, 0, none⟩)] w fun e w' => PosP b s (posM s) w e w' := by
  have HT := take_any b 45 s w hR.rv
  cases hq : tkM 45 s with
  | some r =>
    rw [hq] at HT
    have hp : posM s = some ((0, 0), r) := by unfold posM; rw [hq]
    rw [hp]
    go_enter Tryz.func46, Tryz.ntmps46
    go_wp2_with fail
    refine HT.mono ?_
    rintro e w1 ⟨rfl, h1, F1⟩
    have HX := Lib.hid (And.intro h1 F1)
    clear h1 F1 HT
    go_wp2_with fail
    go_ret2
    exact ⟨rfl, HX.out⟩
  | none =>
    rw [hq] at HT
    have hz := size_lit s
    have hC := fun m w1 hm1 => Tryz.strings_Cut ⟨s.toArray⟩ ⟨#[32]⟩ m w1 (by omega) hm1
    rw [data_lit, show (⟨#[32]⟩ : ByteArray).data.toList = [32] from rfl, cut_bl] at hC
    generalize (Lib.cut s [32]).2.1 = b1 at hC
    generalize (Lib.cut s [32]).2.2 = f1 at hC
    have htl : (⟨(s.takeWhile noBl).toArray⟩ : ByteArray).size ≤ 1048576 := by rw [size_lit]; exact Nat.le_trans (List.takeWhile_sublist noBl).length_le hl
    have HRD := fun w1 h1 => Read_any ⟨(s.takeWhile noBl).toArray⟩ htl w1 h1
    simp only [data_lit] at HRD
    obtain ⟨x, y, hxy⟩ := posV_cx (readGo [] (s.takeWhile noBl)).1 (readGo [] (s.takeWhile noBl)).2
    have HXY := Lib.hid hxy
    rw [hxy] at HRD
    clear hxy
    have hpm : posM s = if isP (readGo [] (s.takeWhile noBl)).1 (readGo [] (s.takeWhile noBl)).2 then some (readGo [] (s.takeWhile noBl), s.dropWhile noBl) else none := by unfold posM; rw [hq]
    have HTK := fun w1 h1 => take_hit b (s.takeWhile noBl) (s.dropWhile noBl) w1 h1
    rw [List.takeWhile_append_dropWhile] at HTK
    rw [hpm]
    have HR := Lib.hid hR
    clear hR hz htl hpm hq
    generalize (⟨(s.takeWhile noBl).toArray⟩ : ByteArray) = tb at *
    generalize hsb : (⟨s.toArray⟩ : ByteArray) = sb at *
    have HSB := Lib.hid hsb
    clear hsb
    generalize hip : isP (readGo [] (s.takeWhile noBl)).1 (readGo [] (s.takeWhile noBl)).2 = ip at *
    clear hip
    go_enter Tryz.func46, Tryz.ntmps46
    go_wp2_with fail
    refine HT.mono ?_
    rintro e w1 ⟨rfl, h1, F1⟩
    have c1 := Var.c h1
    rw [HSB.out] at c1
    obtain ⟨m, hm⟩ := (HR.out.on h1 F1).env.mx
    have hC1 := hC m w1 hm
    have HH1 := Lib.hid (And.intro h1 F1)
    clear hC hm h1 F1 HT
    go_wp2_with fail
    refine hC1.mono ?_
    rintro e w2 ⟨rfl, n, rfl⟩
    have B2 := below_drewN w1 n
    have F2 : Fr [b] w (w1.drewN n) := HH1.out.2.trans (fr_bl B2) (fun j hj => .inl hj)
    have R2 := HH1.out.1.keep B2
    have HRD2 := HRD _ (HR.out.on R2 F2).env
    have HH2 := Lib.hid (And.intro R2 F2)
    clear hC1 HRD R2 F2 B2
    generalize w1.drewN n = w2 at *
    go_wp2_with fail
    refine HRD2.mono ?_
    rintro e w3 ⟨rfl, B3⟩
    have F3 : Fr [b] w w3 := HH2.out.2.trans (fr_bl B3) (fun j hj => .inl hj)
    have R3 := HH2.out.1.keep B3
    have HTK3 := HTK w3 R3
    have HH3 := Lib.hid (And.intro R3 F3)
    clear HTK HRD2 R3 F3 B3
    cases ip
    · clear HTK3
      go_wp2_with fail
      go_ret2
      exact ⟨_, _, rfl, HH3.out⟩
    · go_wp2_with fail
      refine HTK3.mono ?_
      rintro e w4 ⟨rfl, h4, F4⟩
      have HH4 := Lib.hid (And.intro h4 (HH3.out.2.trans F4 (fun j hj => .inl hj)))
      clear h4 F4 HTK3
      go_wp2_with fail
      go_ret2
      refine ⟨?_, HH4.out⟩
      rw [HXY.out]; rfl
end Go.Proofs.YtbfclibjnanlgaaGreatDoor
