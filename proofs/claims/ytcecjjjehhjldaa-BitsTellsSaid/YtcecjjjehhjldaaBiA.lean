/- Package bits, walked: one, union, Has, With, Without, Row, Part, Len. -/
import Derived.Test.YtcecjjjehhjldaaProg
import Derived.Test.YtcecjjjehhjldaaBiP
import Derived.WalkKit
import Derived.WalkLawsBesides
import Derived.Deep.QuietTactic
import Derived.BigQuiet
import Derived.Lib.Hide
namespace Go.Proofs.Ytcecjjjehhjldaa
open Go.RowKit
set_option maxHeartbeats 400000
set_option maxRecDepth 100000
set_option linter.unusedVariables false

/-- The set of i alone, as a word. -/
def oneI (i : Int) : Int := (oneN i : Nat)
theorem oneI_bd (i : Int) : 0 ≤ oneI i ∧ oneI i ≤ 65535 := by
  have := oneN_lt i
  unfold oneI; omega
theorem one_in (k : Nat) (hk : k < 16) : oneI (k : Int) = ((2 ^ k : Nat) : Int) := by
  unfold oneI oneN; rw [if_pos (by omega)]; simp
theorem one_out (i : Int) (h : i < 0 ∨ 16 ≤ i) : oneI i = 0 := by
  unfold oneI oneN; rw [if_neg (by omega)]; rfl

theorem one_any (i : Int) (h0 : -9223372036854775808 ≤ i) (h1 : i ≤ 9223372036854775807) (w : World) :
    Calls Try.prog 23 #[.int .i64 i] w fun e w' => e = .returned (.int .u16 (oneI i)) ∧ w = w' := by
  have hc : i < 0 ∨ 16 ≤ i ∨ (0 ≤ i ∧ i < 16) := by omega
  rcases hc with h | h | ⟨g0, g1⟩
  · have HT := Lib.hid (one_out i (by omega))
    go_enter Try.func23, Try.ntmps23
    go_wp2
    go_ret
    exact ⟨by rw [HT.out]; rfl, rfl⟩
  · have HT := Lib.hid (one_out i (by omega))
    go_enter Try.func23, Try.ntmps23
    go_wp2
    go_ret
    exact ⟨by rw [HT.out]; rfl, rfl⟩
  · have HT : Hid (oneI i = IntKind.u16.wrap (2 ^ i.toNat)) := Lib.hid (by
      rw [shl_one i.toNat (by omega), ← one_in i.toNat (by omega), Int.toNat_of_nonneg g0])
    go_enter Try.func23, Try.ntmps23
    go_wp2
    go_ret
    exact ⟨by rw [HT.out]; rfl, rfl⟩

/-- The set of all numbers of l, as a word. -/
def uniI (l : List Int) : Int := (uni l : Nat)
theorem uniI_bd (l : List Int) : 0 ≤ uniI l ∧ uniI l ≤ 65535 := by
  have := uni_lt l
  unfold uniI; omega
theorem uni_step (l : List Int) (k : Nat) (hk : k < l.length) : bits .or .u16 (uniI (l.take k)) (oneI (l.getD k 0)) = uniI (l.take (k + 1)) := by
  unfold uniI oneI
  rw [u16_or_nat _ _ (uni_lt _) (oneN_lt _), uni_take l k hk]
/-- A list of numbers that lies in w. -/
def IntsIn (w : World) (ao : Option Addr) (l : List Int) : Prop :=
  ∀ j, j < l.length → ∃ a, ao = some a ∧ w.cell? (a.add j) = some (.int .i64 (l.getD j 0))
/-- The numbers of a list are ints. -/
def IntsOk (l : List Int) : Prop := ∀ j, j < l.length → -9223372036854775808 ≤ l.getD j 0 ∧ l.getD j 0 ≤ 9223372036854775807

theorem union_any (ao : Option Addr) (cap : Nat) (l : List Int) (hl : l.length ≤ 140737488355328) (w : World) (hin : IntsIn w ao l) (hok : IntsOk l) :
    Calls Try.prog 25 #[.slice ao l.length cap] w fun e w' => e = .returned (.int .u16 (uniI l)) ∧ w = w' := by
  go_enter Try.func25, Try.ntmps25
  go_wp2
  go_loop [3, 8] (fun s i => ∃ k : Nat, k ≤ l.length ∧ i = .int .i64 k ∧ s = .int .u16 (uniI (l.take k)))
    (fun _ i => l.length - (intOf i).toNat)
  case atStart => exact ⟨0, Nat.zero_le _, rfl, rfl⟩
  case round =>
    obtain ⟨k, hk, rfl, rfl⟩ := hrel
    by_cases hlt : k < l.length
    · obtain ⟨a, rfl, hcell⟩ := hin k hlt
      obtain ⟨b0, b1⟩ := hok k hlt
      have HS := Lib.hid (uni_step l k hlt)
      generalize l.getD k 0 = x at *
      go_wp2_with fail
      refine (one_any x b0 b1 _).mono ?_
      rintro e w' ⟨rfl, rfl⟩
      go_wp2
      go_round
      case rel => exact ⟨k + 1, by omega, by simp, by rw [HS.out]⟩
      case measure => simp [intOf]; omega
    · have hkl : k = l.length := by omega
      subst hkl
      go_wp2
      go_ret
      exact ⟨rfl, rfl⟩
end Go.Proofs.Ytcecjjjehhjldaa
