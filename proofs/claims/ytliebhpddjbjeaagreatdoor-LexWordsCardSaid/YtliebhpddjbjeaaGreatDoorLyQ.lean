/- The document's answers of layer 4, walked: Text. -/
import Derived.Test.YtliebhpddjbjeaaGreatDoorLyP
import Derived.Test.YtliebhpddjbjeaaGreatDoorLyV
namespace Go.Proofs.YtliebhpddjbjeaaGreatDoor
open Go.RowKit
set_option maxHeartbeats 1000000
set_option maxRecDepth 100000
set_option linter.unusedVariables false

theorem Text_num (tk : Nat) (tx : List UInt8) (tn : Int) (a b c d : Nat) (h0 : 0 ≤ tn) (h1 : tn ≤ 65535) (hx : tx.length ≤ 65536) (hk : tk = 2) (w : World) :
    Calls Tryz.prog 48 #[.agg #[.int .u8 tk, .complex .f64 a b, .complex .f64 c d, .string ⟨tx.toArray⟩, .int .i64 tn]] w fun e w' => e = .returned (.string ⟨(txtT ⟨tk, tx, tn⟩).toArray⟩) ∧ Below w.heap.size w w' := by
  subst hk
  have B0 := below_new w (.cells #[.int .u8 2, .complex .f64 a b, .complex .f64 c d, .string ⟨tx.toArray⟩, .int .i64 tn] 51)
  by_cases hz : tn = 0
  · subst hz
    have HT : Hid (txtT ⟨2, tx, 0⟩ = [48]) := Lib.hid (by
      show Lib.decDigits 0 = [48]
      rw [Lib.decDigits, dif_pos (by omega)]; rfl)
    go_enter Tryz.func48, Tryz.ntmps48
    go_wp2_with fail
    go_ret
    exact ⟨by rw [HT.out]; rfl, B0⟩
  · have hD := fun w => rDigits_any tn.toNat (by omega) w
    rw [Int.toNat_of_nonneg h0] at hD
    have HT : Hid (txtT ⟨2, tx, tn⟩ = dgs tn.toNat) := Lib.hid (by
      show Lib.decDigits tn.toNat = dgs tn.toNat
      unfold dgs; rw [if_neg (by omega)])
    have tz : (tn == 0) = false := beq_eq_false_iff_ne.2 hz
    go_enter Tryz.func48, Tryz.ntmps48
    go_wp2_with fail
    refine (hD _).mono ?_
    rintro e w2 ⟨rfl, B1⟩
    go_wp2_with fail
    go_ret
    exact ⟨by rw [HT.out]; rfl, bt B0 B1⟩
theorem Text_char (tk : Nat) (tx : List UInt8) (tn : Int) (a b c d : Nat) (h0 : 0 ≤ tn) (h1 : tn ≤ 65535) (hx : tx.length ≤ 65536) (hk : tk = 3) (w : World) :
    Calls Tryz.prog 48 #[.agg #[.int .u8 tk, .complex .f64 a b, .complex .f64 c d, .string ⟨tx.toArray⟩, .int .i64 tn]] w fun e w' => e = .returned (.string ⟨(txtT ⟨tk, tx, tn⟩).toArray⟩) ∧ Below w.heap.size w w' := by
  subst hk
  have B0 := below_new w (.cells #[.int .u8 3, .complex .f64 a b, .complex .f64 c d, .string ⟨tx.toArray⟩, .int .i64 tn] 51)
  have hD := fun w => octal_any tn.toNat (by omega) w
  rw [Int.toNat_of_nonneg h0] at hD
  have HT : Hid (txtT ⟨3, tx, tn⟩ = octD tn.toNat ++ [67]) := Lib.hid rfl
  have hl : (octD tn.toNat).length ≤ 6 := oct_short8 5 tn.toNat (by omega)
  go_enter Tryz.func48, Tryz.ntmps48
  go_wp2_with fail
  refine (hD _).mono ?_
  rintro e w2 ⟨rfl, B1⟩
  go_wp2_with fail
  go_ret
  exact ⟨ret_str (by rw [HT.out, bcat_end]), bt B0 B1⟩
theorem Text_plain (tk : Nat) (tx : List UInt8) (tn : Int) (a b c d : Nat) (h0 : 0 ≤ tn) (h1 : tn ≤ 65535) (hx : tx.length ≤ 65536) (hk2 : tk ≠ 2) (hk3 : tk ≠ 3) (hk4 : tk ≠ 4) (w : World) :
    Calls Tryz.prog 48 #[.agg #[.int .u8 tk, .complex .f64 a b, .complex .f64 c d, .string ⟨tx.toArray⟩, .int .i64 tn]] w fun e w' => e = .returned (.string ⟨(txtT ⟨tk, tx, tn⟩).toArray⟩) ∧ Below w.heap.size w w' := by
  have B0 := below_new w (.cells #[.int .u8 tk, .complex .f64 a b, .complex .f64 c d, .string ⟨tx.toArray⟩, .int .i64 tn] 51)
  have HT : Hid (txtT ⟨tk, tx, tn⟩ = tx) := Lib.hid (by
    unfold txtT
    rw [if_neg hk2, if_neg hk3, if_neg hk4])
  have t2 : ((tk : Int) == 2) = false := by rw [beq_eq_false_iff_ne]; omega
  have t3 : ((tk : Int) == 3) = false := by rw [beq_eq_false_iff_ne]; omega
  have t4 : ((tk : Int) == 4) = false := by rw [beq_eq_false_iff_ne]; omega
  clear hk2 hk3 hk4
  go_enter Tryz.func48, Tryz.ntmps48
  go_wp2_with fail
  go_ret
  exact ⟨by rw [HT.out]; rfl, B0⟩
theorem Text_str (tk : Nat) (tx : List UInt8) (tn : Int) (a b c d : Nat) (h0 : 0 ≤ tn) (h1 : tn ≤ 65535) (hx : tx.length ≤ 65536) (hk : tk = 4) (w : World) :
    Calls Tryz.prog 48 #[.agg #[.int .u8 tk, .complex .f64 a b, .complex .f64 c d, .string ⟨tx.toArray⟩, .int .i64 tn]] w fun e w' => e = .returned (.string ⟨(txtT ⟨tk, tx, tn⟩).toArray⟩) ∧ Below w.heap.size w w' := by
  subst hk
  have hsz := size_of_lit tx
  have hdl : (⟨tx.toArray⟩ : ByteArray).data.toList = tx := by simp
  have HT : Hid (txtT ⟨4, tx, tn⟩ = if tx.contains 34 then 39 :: (tx ++ [39]) else 34 :: (tx ++ [34])) := Lib.hid rfl
  have HQ : Hid (∀ q : UInt8, (⟨#[q]⟩ : ByteArray) ++ (⟨tx.toArray⟩ : ByteArray) ++ ⟨#[q]⟩ = ⟨(q :: (tx ++ [q])).toArray⟩) := Lib.hid (fun q => by
    apply ByteArray.ext; simp)
  generalize (⟨tx.toArray⟩ : ByteArray) = s at hsz hdl HQ ⊢
  have B0 := below_new w (.cells #[.int .u8 4, .complex .f64 a b, .complex .f64 c d, .string s, .int .i64 tn] 51)
  have A0 := Fv.new w (.int .u8 4) (.complex .f64 a b) (.complex .f64 c d) (.string s) (.int .i64 tn) 51 w.heap.size rfl
  have HD := Lib.hid hdl
  clear hdl
  go_enter Tryz.func48, Tryz.ntmps48
  go_wp2_with fail
  generalize w.alloc (.cells #[.int .u8 4, .complex .f64 a b, .complex .f64 c d, .string s, .int .i64 tn] 51) = w0 at B0 A0 ⊢
  have c3 := A0.c3
  clear A0
  go_loop [3] (fun i => ∃ k : Nat, k ≤ s.size ∧ i = .int .i64 k ∧ ∀ j, j < k → tx[j]? ≠ some 34)
    (fun i => s.size - (intOf i).toNat)
  case atStart => exact ⟨0, by omega, rfl, fun j hj => absurd hj (by omega)⟩
  case round =>
    obtain ⟨k, hk, rfl, hno⟩ := hrel
    have HN := Lib.hid hno
    clear hno
    by_cases hlt : k < s.size
    · have hget := byte_get s k hlt
      rw [HD.out] at hget
      obtain ⟨b', hb⟩ : ∃ b', s[k] = b' := ⟨_, rfl⟩
      rw [hb] at hget
      by_cases h34 : b' = 34
      · have t34 : ((b'.toNat : Int) == 34) = true := by rw [h34]; rfl
        have HR : Hid (txtT ⟨4, tx, tn⟩ = 39 :: (tx ++ [39])) := Lib.hid (by
          rw [HT.out, if_pos]
          rw [h34] at hget
          exact List.contains_iff_mem.2 (List.mem_of_getElem? hget))
        clear hget h34
        go_wp2_with fail
        go_ret
        exact ⟨ret_str (by rw [HR.out, ← HQ.out]), B0⟩
      · have t34 : ((b'.toNat : Int) == 34) = false := byte_no b' 34 h34
        have HK : Hid (∀ j, j < k + 1 → tx[j]? ≠ some 34) := Lib.hid (by
          intro j hj
          by_cases hjk : j = k
          · subst hjk; rw [hget]; intro e; exact h34 (Option.some.inj e)
          · exact HN.out j (by omega))
        clear hget h34
        go_wp2_with fail
        go_round
        case rel => exact ⟨k + 1, by omega, by simp, HK.out⟩
        case measure => simp [intOf]; omega
    · have hnl : ¬ (k : Int) < (s.size : Int) := by omega
      have HR : Hid (txtT ⟨4, tx, tn⟩ = 34 :: (tx ++ [34])) := Lib.hid (by
        rw [HT.out, if_neg]
        intro hq
        obtain ⟨j, hj, hje⟩ := List.getElem_of_mem (List.contains_iff_mem.1 hq)
        exact HN.out j (by omega) (by rw [List.getElem?_eq_getElem hj, hje]))
      go_wp2_with fail
      go_ret
      exact ⟨ret_str (by rw [HR.out, ← HQ.out]), B0⟩
theorem Text_any (t : T0) (h : txtOk t) (a b c d : Nat) (w : World) :
    Calls Tryz.prog 48 #[.agg #[.int .u8 t.k, .complex .f64 a b, .complex .f64 c d, .string ⟨t.x.toArray⟩, .int .i64 t.n]] w fun e w' => e = .returned (.string ⟨(txtT t).toArray⟩) ∧ Below w.heap.size w w' := by
  obtain ⟨tk, tx, tn⟩ := t
  obtain ⟨h0, h1, h2⟩ := h
  by_cases k2 : tk = 2
  · exact Text_num tk tx tn a b c d h0 h1 h2 k2 w
  · by_cases k3 : tk = 3
    · exact Text_char tk tx tn a b c d h0 h1 h2 k3 w
    · by_cases k4 : tk = 4
      · exact Text_str tk tx tn a b c d h0 h1 h2 k4 w
      · exact Text_plain tk tx tn a b c d h0 h1 h2 k2 k3 k4 w
end Go.Proofs.YtliebhpddjbjeaaGreatDoor
