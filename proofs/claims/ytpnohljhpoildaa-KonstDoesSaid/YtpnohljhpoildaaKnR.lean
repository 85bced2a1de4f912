/- KonstOrder, KonstDoes: what values are made of. -/
import Derived.Test.YtpnohljhpoildaaKnL
import Derived.Laws.BitsLemmas
namespace Go.Proofs.Ytpnohljhpoildaa
open Go.RowKit
set_option maxHeartbeats 1000000
set_option maxRecDepth 100000
set_option linter.unusedVariables false
set_option linter.unusedSimpArgs false

/-- What a value is made of. -/
structure RV where
  k : Int
  n : Int
  x : ByteArray
  t : Int
def RV.cells (r : RV) : Array Value := #[.int .u8 r.k, .int .i64 r.n, .string r.x, .int .i64 r.t]
def RV.val (r : RV) : Value := .agg #[.int .u8 r.k, .int .i64 r.n, .string r.x, .int .i64 r.t]
def RV.wf (r : RV) : Prop := (0 ≤ r.k ∧ r.k ≤ 255) ∧ i64b r.n ∧ i64b r.t
def anyP (r : RV) : PV :=
  if r.k % 9 = 1 then .whole r.n
  else if r.k % 9 = 2 then .letter (r.n % 256)
  else if r.k % 9 = 3 then .truth (bits .and .i64 r.n 1 == 1)
  else if r.k % 9 = 4 then .bits (r.n % 65536)
  else if r.k % 9 = 5 then .str r.x
  else if r.k % 9 = 6 then .item r.t r.n
  else if r.k % 9 = 7 then .null
  else if r.k % 9 = 8 then .num r.n
  else .none
theorem anyP_wf (r : RV) (h : r.wf) (hx : r.x.size ≤ 9223372036854775807) : (anyP r).wf := by
  obtain ⟨_, hn, ht⟩ := h
  unfold anyP
  repeat' split
  · exact hn
  · exact ⟨by omega, by omega⟩
  · trivial
  · exact ⟨by omega, by omega⟩
  · exact hx
  · exact ⟨ht, hn⟩
  · trivial
  · exact hn
  · trivial
theorem any_0 (k n : Int) (x : ByteArray) (t : Int) (h : k.tmod 9 = 0) (h9 : k % 9 = 0) (w : World) : Calls Try.prog 10 #[.agg #[.int .u8 k, .int .i64 n, .string x, .int .i64 t]] w fun e w' => e = .returned (anyP ⟨k, n, x, t⟩).val ∧ Bl w w' := by
  rw [show anyP ⟨k, n, x, t⟩ = .none from by unfold anyP; simp only [h9]; rfl]
  clear h9
  have h2 : IntKind.u8.wrap n = n % 256 := IntKind.wrap_u8 n
  have h3 : IntKind.u16.wrap n = n % 65536 := IntKind.wrap_u16 n
  go_enter Try.func10, Try.ntmps10
  go_wp2
  go_ret
  refine ⟨rfl, ?_⟩
  repeat (first | exact Below.refl _ _ | assumption | refine Below.alloc ?_ (by simp <;> omega) _ | refine Below.setCell ?_ (by simp <;> omega) _)
theorem any_1 (k n : Int) (x : ByteArray) (t : Int) (h : k.tmod 9 = 1) (h9 : k % 9 = 1) (w : World) : Calls Try.prog 10 #[.agg #[.int .u8 k, .int .i64 n, .string x, .int .i64 t]] w fun e w' => e = .returned (anyP ⟨k, n, x, t⟩).val ∧ Bl w w' := by
  rw [show anyP ⟨k, n, x, t⟩ = .whole n from by unfold anyP; simp only [h9]; rfl]
  clear h9
  have h2 : IntKind.u8.wrap n = n % 256 := IntKind.wrap_u8 n
  have h3 : IntKind.u16.wrap n = n % 65536 := IntKind.wrap_u16 n
  go_enter Try.func10, Try.ntmps10
  go_wp2
  go_ret
  refine ⟨rfl, ?_⟩
  repeat (first | exact Below.refl _ _ | assumption | refine Below.alloc ?_ (by simp <;> omega) _ | refine Below.setCell ?_ (by simp <;> omega) _)
theorem any_2 (k n : Int) (x : ByteArray) (t : Int) (h : k.tmod 9 = 2) (h9 : k % 9 = 2) (w : World) : Calls Try.prog 10 #[.agg #[.int .u8 k, .int .i64 n, .string x, .int .i64 t]] w fun e w' => e = .returned (anyP ⟨k, n, x, t⟩).val ∧ Bl w w' := by
  rw [show anyP ⟨k, n, x, t⟩ = .letter (n % 256) from by unfold anyP; simp only [h9]; rfl]
  clear h9
  have h2 : IntKind.u8.wrap n = n % 256 := IntKind.wrap_u8 n
  have h3 : IntKind.u16.wrap n = n % 65536 := IntKind.wrap_u16 n
  go_enter Try.func10, Try.ntmps10
  go_wp2
  go_ret
  refine ⟨rfl, ?_⟩
  repeat (first | exact Below.refl _ _ | assumption | refine Below.alloc ?_ (by simp <;> omega) _ | refine Below.setCell ?_ (by simp <;> omega) _)
theorem any_3 (k n : Int) (x : ByteArray) (t : Int) (h : k.tmod 9 = 3) (h9 : k % 9 = 3) (w : World) : Calls Try.prog 10 #[.agg #[.int .u8 k, .int .i64 n, .string x, .int .i64 t]] w fun e w' => e = .returned (anyP ⟨k, n, x, t⟩).val ∧ Bl w w' := by
  rw [show anyP ⟨k, n, x, t⟩ = .truth (bits .and .i64 n 1 == 1) from by unfold anyP; simp only [h9]; rfl]
  clear h9
  have h2 : IntKind.u8.wrap n = n % 256 := IntKind.wrap_u8 n
  have h3 : IntKind.u16.wrap n = n % 65536 := IntKind.wrap_u16 n
  go_enter Try.func10, Try.ntmps10
  go_wp2
  go_ret
  refine ⟨rfl, ?_⟩
  repeat (first | exact Below.refl _ _ | assumption | refine Below.alloc ?_ (by simp <;> omega) _ | refine Below.setCell ?_ (by simp <;> omega) _)
theorem any_4 (k n : Int) (x : ByteArray) (t : Int) (h : k.tmod 9 = 4) (h9 : k % 9 = 4) (w : World) : Calls Try.prog 10 #[.agg #[.int .u8 k, .int .i64 n, .string x, .int .i64 t]] w fun e w' => e = .returned (anyP ⟨k, n, x, t⟩).val ∧ Bl w w' := by
  rw [show anyP ⟨k, n, x, t⟩ = .bits (n % 65536) from by unfold anyP; simp only [h9]; rfl]
  clear h9
  have h2 : IntKind.u8.wrap n = n % 256 := IntKind.wrap_u8 n
  have h3 : IntKind.u16.wrap n = n % 65536 := IntKind.wrap_u16 n
  go_enter Try.func10, Try.ntmps10
  go_wp2
  go_ret
  refine ⟨rfl, ?_⟩
  repeat (first | exact Below.refl _ _ | assumption | refine Below.alloc ?_ (by simp <;> omega) _ | refine Below.setCell ?_ (by simp <;> omega) _)
theorem any_5 (k n : Int) (x : ByteArray) (t : Int) (h : k.tmod 9 = 5) (h9 : k % 9 = 5) (w : World) : Calls Try.prog 10 #[.agg #[.int .u8 k, .int .i64 n, .string x, .int .i64 t]] w fun e w' => e = .returned (anyP ⟨k, n, x, t⟩).val ∧ Bl w w' := by
  rw [show anyP ⟨k, n, x, t⟩ = .str x from by unfold anyP; simp only [h9]; rfl]
  clear h9
  have h2 : IntKind.u8.wrap n = n % 256 := IntKind.wrap_u8 n
  have h3 : IntKind.u16.wrap n = n % 65536 := IntKind.wrap_u16 n
  go_enter Try.func10, Try.ntmps10
  go_wp2
  go_ret
  refine ⟨rfl, ?_⟩
  repeat (first | exact Below.refl _ _ | assumption | refine Below.alloc ?_ (by simp <;> omega) _ | refine Below.setCell ?_ (by simp <;> omega) _)
theorem any_6 (k n : Int) (x : ByteArray) (t : Int) (h : k.tmod 9 = 6) (h9 : k % 9 = 6) (w : World) : Calls Try.prog 10 #[.agg #[.int .u8 k, .int .i64 n, .string x, .int .i64 t]] w fun e w' => e = .returned (anyP ⟨k, n, x, t⟩).val ∧ Bl w w' := by
  rw [show anyP ⟨k, n, x, t⟩ = .item t n from by unfold anyP; simp only [h9]; rfl]
  clear h9
  have h2 : IntKind.u8.wrap n = n % 256 := IntKind.wrap_u8 n
  have h3 : IntKind.u16.wrap n = n % 65536 := IntKind.wrap_u16 n
  go_enter Try.func10, Try.ntmps10
  go_wp2
  go_ret
  refine ⟨rfl, ?_⟩
  repeat (first | exact Below.refl _ _ | assumption | refine Below.alloc ?_ (by simp <;> omega) _ | refine Below.setCell ?_ (by simp <;> omega) _)
theorem any_7 (k n : Int) (x : ByteArray) (t : Int) (h : k.tmod 9 = 7) (h9 : k % 9 = 7) (w : World) : Calls Try.prog 10 #[.agg #[.int .u8 k, .int .i64 n, .string x, .int .i64 t]] w fun e w' => e = .returned (anyP ⟨k, n, x, t⟩).val ∧ Bl w w' := by
  rw [show anyP ⟨k, n, x, t⟩ = .null from by unfold anyP; simp only [h9]; rfl]
  clear h9
  have h2 : IntKind.u8.wrap n = n % 256 := IntKind.wrap_u8 n
  have h3 : IntKind.u16.wrap n = n % 65536 := IntKind.wrap_u16 n
  go_enter Try.func10, Try.ntmps10
  go_wp2
  go_ret
  refine ⟨rfl, ?_⟩
  repeat (first | exact Below.refl _ _ | assumption | refine Below.alloc ?_ (by simp <;> omega) _ | refine Below.setCell ?_ (by simp <;> omega) _)
theorem any_8 (k n : Int) (x : ByteArray) (t : Int) (h : k.tmod 9 = 8) (h9 : k % 9 = 8) (w : World) : Calls Try.prog 10 #[.agg #[.int .u8 k, .int .i64 n, .string x, .int .i64 t]] w fun e w' => e = .returned (anyP ⟨k, n, x, t⟩).val ∧ Bl w w' := by
  rw [show anyP ⟨k, n, x, t⟩ = .num n from by unfold anyP; simp only [h9]; rfl]
  clear h9
  have h2 : IntKind.u8.wrap n = n % 256 := IntKind.wrap_u8 n
  have h3 : IntKind.u16.wrap n = n % 65536 := IntKind.wrap_u16 n
  go_enter Try.func10, Try.ntmps10
  go_wp2
  go_ret
  refine ⟨rfl, ?_⟩
  repeat (first | exact Below.refl _ _ | assumption | refine Below.alloc ?_ (by simp <;> omega) _ | refine Below.setCell ?_ (by simp <;> omega) _)
theorem any_any (r : RV) (hr : r.wf) (w : World) : Calls Try.prog 10 #[r.val] w fun e w' => e = .returned (anyP r).val ∧ Bl w w' := by
  obtain ⟨k, n, x, t⟩ := r
  have hk : 0 ≤ k := hr.1.1
  have h : k % 9 = 0 ∨ k % 9 = 1 ∨ k % 9 = 2 ∨ k % 9 = 3 ∨ k % 9 = 4 ∨ k % 9 = 5 ∨ k % 9 = 6 ∨ k % 9 = 7 ∨ k % 9 = 8 := by omega
  rcases h with h | h | h | h | h | h | h | h | h
  · exact any_0 k n x t (by rw [Int.tmod_eq_emod_of_nonneg hk]; exact h) h w
  · exact any_1 k n x t (by rw [Int.tmod_eq_emod_of_nonneg hk]; exact h) h w
  · exact any_2 k n x t (by rw [Int.tmod_eq_emod_of_nonneg hk]; exact h) h w
  · exact any_3 k n x t (by rw [Int.tmod_eq_emod_of_nonneg hk]; exact h) h w
  · exact any_4 k n x t (by rw [Int.tmod_eq_emod_of_nonneg hk]; exact h) h w
  · exact any_5 k n x t (by rw [Int.tmod_eq_emod_of_nonneg hk]; exact h) h w
  · exact any_6 k n x t (by rw [Int.tmod_eq_emod_of_nonneg hk]; exact h) h w
  · exact any_7 k n x t (by rw [Int.tmod_eq_emod_of_nonneg hk]; exact h) h w
  · exact any_8 k n x t (by rw [Int.tmod_eq_emod_of_nonneg hk]; exact h) h w
def hvB (r s : RV) : Bool := decide ((4096 : Int) < wrap64 ((r.x.size : Int) + (s.x.size : Int)))
theorem heavy_any (r s : RV) (w : World) : Calls Try.prog 6 #[r.val, s.val] w fun e w' => e = .returned (.bool (hvB r s)) ∧ Bl w w' := by
  obtain ⟨k, n, x, t⟩ := r
  obtain ⟨k2, n2, x2, t2⟩ := s
  unfold RV.val hvB
  simp only
  go_enter Try.func6, Try.ntmps6
  go_wp2
  go_ret
  refine ⟨rfl, ?_⟩
  repeat (first | exact Below.refl _ _ | assumption | refine Below.alloc ?_ (by simp <;> omega) _ | refine Below.setCell ?_ (by simp <;> omega) _)
end Go.Proofs.Ytpnohljhpoildaa
