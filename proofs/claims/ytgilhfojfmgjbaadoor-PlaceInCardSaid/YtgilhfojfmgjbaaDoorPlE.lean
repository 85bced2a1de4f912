/- The document's answers of layer 3, walked: Number, Read. -/
import Derived.Test.YtgilhfojfmgjbaaDoorPlD
namespace Go.Proofs.YtgilhfojfmgjbaaDoor
open Go.RowKit
set_option maxHeartbeats 1000000
set_option maxRecDepth 100000
set_option linter.unusedVariables false

/-- The number that digits are, the first one not 0 (the flag: it is the first one); 0: it is none, or above the most. -/
def numR (first : Bool) (n : Int) : List UInt8 → Int
  | [] => if 1073741824 < n then 0 else n
  | b :: r => if (b.toNat : Int) < 48 ∨ 57 < (b.toNat : Int) ∨ (first = true ∧ (b.toNat : Int) = 48) ∨ 1073741824 < n then 0 else numR false (10 * n + ((b.toNat : Int) - 48)) r
theorem numR_nil (f : Bool) (n : Int) (h : ¬ 1073741824 < n) : numR f n [] = n := by unfold numR; rw [if_neg h]
theorem numR_big (f : Bool) (n : Int) (s : List UInt8) (h : 1073741824 < n) : numR f n s = 0 := by
  cases s
  · unfold numR; rw [if_pos h]
  · unfold numR; rw [if_pos (.inr (.inr (.inr h)))]
theorem numR_bad (f : Bool) (n : Int) (b : UInt8) (r : List UInt8) (h : (b.toNat : Int) < 48 ∨ 57 < (b.toNat : Int) ∨ (f = true ∧ (b.toNat : Int) = 48)) : numR f n (b :: r) = 0 := by
  unfold numR
  rw [if_pos]
  rcases h with h | h | h
  · exact .inl h
  · exact .inr (.inl h)
  · exact .inr (.inr (.inl h))
theorem numR_good (f : Bool) (n : Int) (b : UInt8) (r : List UInt8) (h1 : 48 ≤ (b.toNat : Int)) (h2 : (b.toNat : Int) ≤ 57) (h3 : f = true → (b.toNat : Int) ≠ 48) (h4 : ¬ 1073741824 < n) : numR f n (b :: r) = numR false (10 * n + ((b.toNat : Int) - 48)) r := by
  rw [numR, if_neg]
  rintro (h | h | ⟨h, g⟩ | h)
  · omega
  · omega
  · exact h3 h g
  · exact h4 h
theorem numR_bd : ∀ (s : List UInt8) (f : Bool) (n : Int), 0 ≤ n → 0 ≤ numR f n s ∧ numR f n s ≤ 1073741824
  | [], f, n, h => by unfold numR; split <;> omega
  | b :: r, f, n, h => by
    unfold numR
    split
    · omega
    · rename_i hc
      exact numR_bd r false _ (by omega)

theorem rNumber_any (s : ByteArray) (hs : s.size ≤ 1048576) (w : World) :
    Calls Tryd.prog 31 #[.string s] w fun e w' => e = .returned (.int .i64 (numR true 0 s.data.toList)) ∧ w = w' := by
  go_enter Tryd.func31, Tryd.ntmps31
  go_wp2_with fail
  go_loop [3, 4] (fun n i => ∃ (k : Nat) (n1 : Int), k ≤ s.size ∧ i = .int .i64 k ∧ n = .int .i64 n1 ∧ 0 ≤ n1 ∧ n1 ≤ 10737418249 ∧ numR true 0 s.data.toList = numR (k == 0) n1 (s.data.toList.drop k))
    (fun _ i => s.size - (intOf i).toNat)
  case atStart => exact ⟨0, 0, Nat.zero_le _, rfl, rfl, by omega, by omega, rfl⟩
  case round =>
    obtain ⟨k, n1, hk, rfl, rfl, n0, nm, hgo⟩ := hrel
    have HG := Lib.hid hgo
    clear hgo
    by_cases hlt : k < s.size
    · have hd := byte_drop s k hlt
      obtain ⟨b, hb⟩ : ∃ b, s[k] = b := ⟨_, rfl⟩
      rw [hb] at hd
      have hb8 : (b.toNat : Int) ≤ 255 := by have := b.toNat_lt; omega
      obtain ⟨x, hx⟩ : ∃ x : Nat, b.toNat = x := ⟨_, rfl⟩
      have HD : Hid (numR true 0 s.data.toList = numR (k == 0) n1 (b :: s.data.toList.drop (k + 1))) := Lib.hid (by rw [HG.out, hd])
      have hc : (x : Int) < 48 ∨ 57 < (x : Int) ∨ (48 ≤ (x : Int) ∧ (x : Int) ≤ 57 ∧ k = 0 ∧ (x : Int) = 48) ∨ (48 ≤ (x : Int) ∧ (x : Int) ≤ 57 ∧ ¬ (k = 0 ∧ (x : Int) = 48) ∧ 1073741824 < n1) ∨ (48 ≤ (x : Int) ∧ (x : Int) ≤ 57 ∧ ¬ (k = 0 ∧ (x : Int) = 48) ∧ ¬ 1073741824 < n1) := by omega
      clear hd
      rcases hc with h1 | h1 | ⟨h1, h2, h3, h4⟩ | ⟨h1, h2, h3, h4⟩ | ⟨h1, h2, h3, h4⟩
      · have HT : Hid (numR true 0 s.data.toList = 0) := Lib.hid (by rw [HD.out]; exact numR_bad _ _ _ _ (.inl (by rw [hx]; exact h1)))
        go_wp2_with fail
        go_ret
        exact ⟨by rw [HT.out]; rfl, rfl⟩
      · have HT : Hid (numR true 0 s.data.toList = 0) := Lib.hid (by rw [HD.out]; exact numR_bad _ _ _ _ (.inr (.inl (by rw [hx]; exact h1))))
        go_wp2_with fail
        go_ret
        exact ⟨by rw [HT.out]; rfl, rfl⟩
      · subst h3
        have HT : Hid (numR true 0 s.data.toList = 0) := Lib.hid (by rw [HD.out]; exact numR_bad _ _ _ _ (.inr (.inr ⟨rfl, by rw [hx]; exact h4⟩)))
        obtain rfl : x = 48 := by omega
        go_wp2_with fail
        go_ret
        exact ⟨by rw [HT.out]; rfl, rfl⟩
      · have HT : Hid (numR true 0 s.data.toList = 0) := Lib.hid (by rw [HD.out]; exact numR_big _ _ _ h4)
        have h5 : ((x : Int) == 48) = false ∨ ((x : Int) == 48) = true := by cases ((x : Int) == 48) <;> simp
        by_cases hk0 : k = 0
        · subst hk0
          have h6 : ((x : Int) == 48) = false := by rw [beq_eq_false_iff_ne]; intro h; exact h3 ⟨rfl, h⟩
          clear h5 h3
          go_wp2_with fail
          go_ret
          exact ⟨by rw [HT.out]; rfl, rfl⟩
        · have h6 : ((k : Int) == 0) = false := by rw [beq_eq_false_iff_ne]; omega
          clear h5 h3
          go_wp2_with fail
          go_ret
          exact ⟨by rw [HT.out]; rfl, rfl⟩
      · have HT : Hid (numR true 0 s.data.toList = numR false (10 * n1 + ((x : Int) - 48)) (s.data.toList.drop (k + 1))) := Lib.hid (by
          rw [HD.out, numR_good _ _ _ _ (by rw [hx]; exact h1) (by rw [hx]; exact h2) (fun h => by rw [hx]; intro g; exact h3 ⟨by simpa using h, g⟩) h4, hx])
        by_cases hk0 : k = 0
        · subst hk0
          have h6 : ((x : Int) == 48) = false := by rw [beq_eq_false_iff_ne]; intro h; exact h3 ⟨rfl, h⟩
          clear h3
          go_wp2_with fail
          go_round
          case rel => exact ⟨1, 10 * n1 + ((x : Int) - 48), by omega, by simp, rfl, by omega, by omega, HT.out⟩
          case measure => simp [intOf]; omega
        · have h6 : ((k : Int) == 0) = false := by rw [beq_eq_false_iff_ne]; omega
          have h7 : (k + 1 == 0) = false := by simp
          clear h3
          go_wp2_with fail
          go_round
          case rel => exact ⟨k + 1, 10 * n1 + ((x : Int) - 48), by omega, by simp, rfl, by omega, by omega, by rw [h7]; exact HT.out⟩
          case measure => simp [intOf]; omega
    · have hks : k = s.size := by omega
      subst hks
      have hdr : s.data.toList.drop s.size = [] := List.drop_eq_nil_of_le (by rw [Array.length_toList]; exact Nat.le_refl _)
      rw [hdr] at HG
      clear hdr
      by_cases h4 : 1073741824 < n1
      · have HT : Hid (numR true 0 s.data.toList = 0) := Lib.hid (by rw [HG.out]; exact numR_big _ _ _ h4)
        go_wp2_with fail
        go_ret
        exact ⟨by rw [HT.out]; rfl, rfl⟩
      · have HT : Hid (numR true 0 s.data.toList = n1) := Lib.hid (by rw [HG.out]; exact numR_nil _ _ h4)
        go_wp2_with fail
        go_ret
        exact ⟨by rw [HT.out]; rfl, rfl⟩
end Go.Proofs.YtgilhfojfmgjbaaDoor
