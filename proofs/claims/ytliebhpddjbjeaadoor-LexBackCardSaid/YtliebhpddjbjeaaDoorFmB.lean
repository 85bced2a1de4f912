/- strconv.FormatInt to the base 8, walked; a character's token as Join writes it. -/
import Derived.Test.YtliebhpddjbjeaaDoorFmA
import Derived.Test.YtliebhpddjbjeaaDoorLzO
namespace Go.Proofs.YtliebhpddjbjeaaDoor
open Go.RowKit
set_option maxHeartbeats 2000000
set_option maxRecDepth 100000
set_option linter.unusedVariables false

theorem octD1 (u : Nat) (h : u < 8) : octD u = [UInt8.ofNat (48 + u)] := by
  rw [octD]; simp [h]
theorem octD2 (u : Nat) (h : 8 ≤ u) : octD u = octD (u / 8) ++ [UInt8.ofNat (48 + u % 8)] := by
  rw [octD]; simp [Nat.not_lt.2 h]
theorem fbits (u : Nat) (h : u ≤ 511) (w : World) (hE : Env w) :
    Calls Tryd.prog 51 #[.slice none 0 0, .int .u64 (u : Int), .int .i64 8, .bool false, .bool false] w fun e w' => e = .returned (.tuple #[.slice none 0 0, .string ⟨(octD u).toArray⟩]) ∧ Below w.heap.size w w' := by
  by_cases h8 : u < 8
  · rw [octD1 u h8]; exact fb1 u h8 w hE.tz
  · by_cases h64 : u < 64
    · have := fb2 u (u / 8) (u % 8) (by omega) (by omega) (by omega) (and7 u (by omega)) (by omega) (by omega) h64 w hE.tz
      rw [octD2 u (by omega), octD1 (u / 8) (by omega)]
      exact this
    · have := fb3 u (u / 8) (u / 8 / 8) (u / 8 % 8) (u % 8) (by omega) (by omega) (by omega) (by omega) (and7 u (by omega)) (and7 (u / 8) (by omega)) (by omega) (by omega) (by omega) (by omega) (by omega) (by omega) w hE.tz
      rw [octD2 u (by omega), octD2 (u / 8) (by omega), octD1 (u / 8 / 8) (by omega)]
      exact this
theorem ifmt8 (u : Nat) (h : u ≤ 511) (w : World) (hE : Env w) :
    Calls Tryd.prog 40 #[.int .i64 (u : Int), .int .i64 8] w fun e w' => e = .returned (.string ⟨(octD u).toArray⟩) ∧ Below w.heap.size w w' := by
  have HF := fun w h' => fbits u h w h'
  go_enter Tryd.func40, Tryd.ntmps40
  go_wp2_with fail
  refine (HF _ hE).mono ?_
  rintro e w1 ⟨rfl, B1⟩
  go_wp2_with fail
  go_ret
  exact ⟨rfl, B1⟩
theorem fmt8 (u : Nat) (h : u ≤ 511) (w : World) (hE : Env w) :
    Calls Tryd.prog 26 #[.int .i64 (u : Int), .int .i64 8] w fun e w' => e = .returned (.string ⟨(octD u).toArray⟩) ∧ Below w.heap.size w w' := by
  have HF := fun w h' => ifmt8 u h w h'
  go_enter Tryd.func26, Tryd.ntmps26
  go_wp2_with fail
  refine (HF _ hE).mono ?_
  rintro e w1 ⟨rfl, B1⟩
  go_wp2_with fail
  go_ret
  exact ⟨rfl, B1⟩
theorem zw_char (tx : List UInt8) (tn : Int) (hx : tx.length ≤ 65536) (h0 : 0 ≤ tn) (h1 : tn ≤ 65535) (px py qx qy : Nat) (w : World) (hE : Env w)(h2 : tn ≤ 511) :
    Calls Tryd.prog 15 #[.agg #[.int .u8 3, .complex .f64 px py, .complex .f64 qx qy, .string ⟨tx.toArray⟩, .int .i64 tn]] w fun e w' => e = .returned (.string ⟨(txtT ⟨3, tx, tn⟩).toArray⟩) ∧ Below w.heap.size w w' := by
  have hsc := fun w a x y m => store_cx (P := Tryd.prog) w a .f64 x y m
  have HT : Hid (txtT ⟨3, tx, tn⟩ = octD tn.toNat ++ [67]) := Lib.hid (by rfl)
  have D0 := below_new w (.cells #[.int .u8 3, .complex .f64 px py, .complex .f64 qx qy, .string ⟨tx.toArray⟩, .int .i64 tn] 32)
  have HF := fun w' hb => fmt8 tn.toNat (by omega) w' (hE.below hb)
  rw [Int.toNat_of_nonneg h0] at HF
  have HX := Lib.hid (bcat_end (octD tn.toNat) 67)
  have hsz : (⟨(octD tn.toNat).toArray⟩ : ByteArray).size ≤ 6 := by rw [size_of_lit]; exact oct_short8 5 tn.toNat (by omega)
  generalize (⟨(octD tn.toNat).toArray⟩ : ByteArray) = t at HF HX hsz
  clear hE
  go_enter Tryd.func15, Tryd.ntmps15
  go_wp2_with fail
  refine (HF _ D0).mono ?_
  rintro e w1 ⟨rfl, B1⟩
  go_wp2_with fail
  go_ret
  exact ⟨by rw [HT.out, ← HX.out]; first | done | rfl, bt D0 B1⟩

end Go.Proofs.YtliebhpddjbjeaaDoor
