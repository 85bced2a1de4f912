/- WordTells, walked. -/
import Derived.Test.YtgghdllbegkioaaDoorWdU
namespace Go.Proofs.YtgghdllbegkioaaDoor
open Go.RowKit
set_option maxHeartbeats 4000000
set_option maxRecDepth 100000
set_option linter.unusedVariables false

theorem tells_any (a lo hi n : Int) (s : Bool) (a0 : 0 ≤ a) (a1 : a ≤ 65535) (l0 : 0 ≤ lo) (l1 : lo ≤ 65535) (h0 : 0 ≤ hi) (h1 : hi ≤ 65535) (n0 : -9223372036854775808 ≤ n) (n1 : n ≤ 9223372036854775807) (w : World) (htab : Lib.TabIs Tryd.prog w "internal/strconv.uint64pow10" .u64 Lib.pow10Tab) :
    Calls Tryd.prog 4 #[.int .u16 a, .int .u16 lo, .int .u16 hi, .int .i64 n, .bool s] w fun e w' => e = .returned (.bool true) ∧ Below w.heap.size w w' := by
  have HT := Lib.hid htab
  clear htab
  go_enter Tryd.func4, Tryd.ntmps4
  go_wp2_with fail
  refine (Of_any n n0 n1 _).mono ?_
  rintro e w1 ⟨rfl, rfl⟩
  obtain ⟨o, ho⟩ : ∃ o, (ofN n).1 = o := ⟨_, rfl⟩
  obtain ⟨q, hq⟩ : ∃ q, (ofN n).2 = q := ⟨_, rfl⟩
  rw [ho, hq]
  have HO := Lib.hid ho
  have HQ := Lib.hid hq
  clear ho hq
  go_wp2_with fail
  refine (refOf_any n n0 n1 _).mono ?_
  rintro e w1 ⟨rfl, rfl⟩
  rw [HO.out, HQ.out]
  go_wp2_with fail
  refine (Int_any a a0 a1 _).mono ?_
  rintro e w1 ⟨rfl, rfl⟩
  go_wp2_with fail
  refine (refInt_any a a0 a1 _).mono ?_
  rintro e w1 ⟨rfl, rfl⟩
  go_wp2_with fail
  refine (Within_any s a lo hi a0 a1 l0 l1 h0 h1 _).mono ?_
  rintro e w1 ⟨rfl, rfl⟩
  go_wp2_with fail
  refine (refWithin_any s a lo hi a0 a1 l0 l1 h0 h1 _).mono ?_
  rintro e w1 ⟨rfl, rfl⟩
  go_wp2_with fail
  refine (Text_s s a a0 a1 _ HT.out).mono ?_
  rintro e w1 ⟨rfl, b1⟩
  go_wp2_with fail
  refine (refText_any s a a0 a1 _).mono ?_
  rintro e w2 ⟨rfl, b2⟩
  have B := bt b1 b2
  have HT2 := Lib.hid (Joins.tab_stays gTab HT.out B (Nat.le_refl _))
  go_wp2_with fail
  refine (alive_any _ HT2.out).mono ?_
  rintro e w3 ⟨rfl, b3⟩
  have B3 := bt B b3
  go_wp2_with fail
  go_ret
  exact ⟨rfl, B3⟩
end Go.Proofs.YtgghdllbegkioaaDoor
