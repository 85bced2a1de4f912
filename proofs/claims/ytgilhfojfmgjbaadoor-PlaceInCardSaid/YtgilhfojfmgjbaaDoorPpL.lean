/- Layer 3's laws: PlacePlain. -/
import Derived.Test.YtgilhfojfmgjbaaDoorPpH
namespace Go.Proofs.YtgilhfojfmgjbaaDoor
open Go.RowKit
set_option maxHeartbeats 400000
set_option maxRecDepth 100000
set_option linter.unusedVariables false

theorem plain_heavy (a b : Int) (s : ByteArray) (h : decide (4096 < s.size) = true) (w : World) (hE : Env w) :
    Calls Tryd.prog 8 #[.int .u16 a, .int .u16 b, .string s] w fun e w' => e = .returned (.bool true) ∧ Below w.heap.size w w' := by
  have hh := fun w => heavy_any s w
  rw [h] at hh
  have HE := Lib.hid hE
  clear hE h
  go_enter Tryd.func8, Tryd.ntmps8
  go_wp2_with fail
  refine (hh _).mono ?_
  rintro e v1 ⟨rfl, rfl⟩
  go_wp2_with fail
  refine (works_any _ HE.out).mono ?_
  rintro e vv ⟨rfl, B⟩
  go_wp2_with fail
  go_ret
  exact ⟨rfl, B⟩
/-- Bytes that are no line ends lead on within the line. -/
theorem go_plain : ∀ (s : List UInt8) (l c : Int), (∀ b ∈ s, b ≠ 10) → 1 ≤ l → l ≤ 1073741824 → 1 ≤ c → c + s.length ≤ 1073741824 → goB l c s = (l, c + s.length)
  | [], l, c, _, h1, h2, h3, h4 => by
    rw [goB_nil l c ((isP_iff _ _).2 ⟨h1, h2, h3, by simpa using h4⟩)]; simp
  | b :: r, l, c, h, h1, h2, h3, h4 => by
    have e : ((b :: r).length : Int) = r.length + 1 := by simp
    rw [e] at h4
    rw [goB_cons l c b r ((isP_iff _ _).2 ⟨h1, h2, h3, by omega⟩), show stepL l b = l by unfold stepL; rw [if_neg (h b (by simp))], show stepC c b = c + 1 by unfold stepC; rw [if_neg (h b (by simp))], go_plain r l (c + 1) (fun x hx => h x (by simp [hx])) h1 h2 (by omega) (by omega), e]
    congr 1; omega
/-- What is the same. -/
theorem pEq_self (l c : Int) : pEq l c l c = true := by unfold pEq; simp
/-- What stands behind a line's bytes. -/
structure PlainF (a b : Int) (s : ByteArray) (k : Nat) : Prop where
  sz : (s.extract 0 k).size = k
  sz2 : (s.extract 0 k ++ ⟨#[10]⟩).size = k + 1
  g1 : goB (a + 1) (b + 1) (s.extract 0 k).data.toList = (a + 1, b + 1 + k)
  g2 : goB (a + 1) (b + 1) (s.extract 0 k ++ ⟨#[10]⟩).data.toList = (a + 2, 1)
  g3 : goB (a + 1) (b + 1) (⟨#[]⟩ : ByteArray).data.toList = (a + 1, b + 1)
theorem plain_facts (a b : Int) (a0 : 0 ≤ a) (a1 : a ≤ 65535) (b0 : 0 ≤ b) (b1 : b ≤ 65535) (s : ByteArray) (k : Nat) (hk : k ≤ s.size ∧ s.size ≤ 4096) (h : ∀ b ∈ s.data.toList.take k, b ≠ 10) : PlainF a b s k := by
  have hlen : s.data.toList.length = s.size := by rw [Array.length_toList]; rfl
  have hl : (s.extract 0 k).data.toList = s.data.toList.take k := extract_take s k hk.1
  have hz : (s.extract 0 k).size = k := by
    have := congrArg List.length hl
    rw [List.length_take, Array.length_toList] at this
    have e : (s.extract 0 k).data.size = (s.extract 0 k).size := rfl
    omega
  have hlk : (s.data.toList.take k).length = k := by rw [List.length_take]; omega
  have g1 := go_plain (s.data.toList.take k) (a + 1) (b + 1) h (by omega) (by omega) (by omega) (by rw [hlk]; omega)
  rw [hlk] at g1
  refine ⟨hz, ?_, by rw [hl]; exact g1, ?_, ?_⟩
  · rw [ByteArray.size_append, hz]; rfl
  · have e : (s.extract 0 k ++ (⟨#[10]⟩ : ByteArray)).data.toList = s.data.toList.take k ++ [10] := by
      rw [ByteArray.data_append, Array.toList_append, hl]
    rw [e, goB_append, g1]
    show goB (a + 1) (b + 1 + k) [10] = _
    rw [goB_cons _ _ _ _ ((isP_iff _ _).2 ⟨by omega, by omega, by omega, by omega⟩), show stepL (a + 1) 10 = a + 2 by unfold stepL; rw [if_pos rfl]; omega, show stepC (b + 1 + k) 10 = 1 from rfl, goB_nil _ _ ((isP_iff _ _).2 ⟨by omega, by omega, by omega, by omega⟩)]
  · exact goB_nil _ _ ((isP_iff _ _).2 ⟨by omega, by omega, by omega, by omega⟩)
theorem plain_light (a b : Int) (a0 : 0 ≤ a) (a1 : a ≤ 65535) (b0 : 0 ≤ b) (b1 : b ≤ 65535) (s : ByteArray) (h : decide (4096 < s.size) = false) (w : World) (hE : Env w) :
    Calls Tryd.prog 8 #[.int .u16 a, .int .u16 b, .string s] w fun e w' => e = .returned (.bool true) ∧ Below w.heap.size w w' := by
  have hh := fun w => heavy_any s w
  rw [h] at hh
  have hs : s.size ≤ 4096 := by simpa using h
  have hlen : s.data.toList.length = s.size := by rw [Array.length_toList]; rfl
  have HL := Lib.hid hlen
  have HE := Lib.hid hE
  have o1 := fun w => Of_any (a + 1) (b + 1) (by omega) (by omega) (by omega) (by omega) w
  obtain ⟨x1, y1, e1⟩ := posV_cx (a + 1) (b + 1)
  simp only [e1] at o1
  have H1 := Lib.hid e1
  clear hE h hlen e1
  go_enter Tryd.func8, Tryd.ntmps8
  go_wp2_with fail
  refine (hh _).mono ?_
  rintro e v1 ⟨rfl, rfl⟩
  clear hh
  go_wp2_with fail
  refine (o1 _).mono ?_
  rintro e v1 ⟨rfl, rfl⟩
  clear o1
  go_wp2_with fail
  go_loop [8] (fun n => ∃ (k : Nat), k ≤ s.size ∧ n = .int .i64 k ∧ (∀ b ∈ s.data.toList.take k, b ≠ 10))
    (fun n => s.size - (intOf n).toNat)
  case atStart => exact ⟨0, by omega, rfl, fun b hb => by simp at hb⟩
  case round =>
    obtain ⟨k, hk, rfl, hno⟩ := hrel
    have HN := Lib.hid hno
    clear hno
    by_cases hlt : k < s.size
    · obtain ⟨b', hb⟩ : ∃ b', s[k] = b' := ⟨_, rfl⟩
      have hbt := byte_ten b'
      by_cases h10 : b' = 10
      · rw [decide_eq_true h10] at hbt
        clear h10
        have HT := Lib.hid (plain_facts a b a0 a1 b0 b1 s k (by omega) HN.out)
        have P1 := fun w => Behind_any (a + 1) (b + 1) (s.extract 0 k) (by rw [HT.out.sz]; omega) w
        have P2 := fun w => Behind_any (a + 1) (b + 1) (s.extract 0 k ++ ⟨#[10]⟩) (by rw [HT.out.sz2]; omega) w
        have P3 := fun w => Behind_any (a + 1) (b + 1) ⟨#[]⟩ (by decide) w
        rw [HT.out.g1] at P1
        rw [HT.out.g2] at P2
        rw [HT.out.g3] at P3
        have o2 := fun w => Of_any (a + 1) (b + 1 + k) (by omega) (by omega) (by omega) (by omega) w
        have o3 := fun w => Of_any (a + 2) 1 (by omega) (by omega) (by omega) (by omega) w
        have q1 := fun t w => eql_pos (P := Tryd.prog) (a + 1) (b + 1 + k) (a + 1) (b + 1 + k) t w
        have q2 := fun t w => eql_pos (P := Tryd.prog) (a + 2) 1 (a + 2) 1 t w
        have q3 := fun t w => eql_pos (P := Tryd.prog) (a + 1) (b + 1) (a + 1) (b + 1) t w
        rw [pEq_self] at q1 q2 q3
        obtain ⟨x2, y2, e2⟩ := posV_cx (a + 1) (b + 1 + k)
        obtain ⟨x3, y3, e3⟩ := posV_cx (a + 2) 1
        have e1 := H1.out
        simp only [e1, e2, e3] at P1 P2 P3 o2 o3 q1 q2 q3
        have z1 := HT.out.sz
        clear e1 e2 e3 HN
        go_wp2_with fail
        refine (P1 _).mono ?_
        rintro e v3 ⟨rfl, rfl⟩
        go_wp2_with fail
        refine (o2 _).mono ?_
        rintro e v4 ⟨rfl, rfl⟩
        go_wp2_with fail
        refine (P2 _).mono ?_
        rintro e v5 ⟨rfl, rfl⟩
        go_wp2_with fail
        refine (o3 _).mono ?_
        rintro e v6 ⟨rfl, rfl⟩
        go_wp2_with fail
        refine (P3 _).mono ?_
        rintro e v7 ⟨rfl, rfl⟩
        go_wp2_with fail
        refine (works_any _ HE.out).mono ?_
        rintro e vv ⟨rfl, B⟩
        go_wp2_with fail
        go_ret
        exact ⟨rfl, B⟩
      · rw [decide_eq_false h10] at hbt
        have HK : Hid (∀ x ∈ s.data.toList.take (k + 1), x ≠ 10) := Lib.hid (by
          rw [take_next1 s k hlt, extract_one s k hlt]
          intro x hx
          rcases List.mem_append.1 hx with hx | hx
          · exact HN.out x hx
          · rw [List.mem_singleton] at hx; rw [hx, hb]; exact h10)
        clear h10 HN
        go_wp2_with fail
        go_round
        case rel => exact ⟨k + 1, by omega, by simp, HK.out⟩
        case measure => simp [intOf]; omega
    · have hke : k = s.size := by omega
      have HT := Lib.hid (plain_facts a b a0 a1 b0 b1 s k (by omega) HN.out)
      have P1 := fun w => Behind_any (a + 1) (b + 1) (s.extract 0 k) (by rw [HT.out.sz]; omega) w
      have P2 := fun w => Behind_any (a + 1) (b + 1) (s.extract 0 k ++ ⟨#[10]⟩) (by rw [HT.out.sz2]; omega) w
      have P3 := fun w => Behind_any (a + 1) (b + 1) ⟨#[]⟩ (by decide) w
      rw [HT.out.g1] at P1
      rw [HT.out.g2] at P2
      rw [HT.out.g3] at P3
      have o2 := fun w => Of_any (a + 1) (b + 1 + k) (by omega) (by omega) (by omega) (by omega) w
      have o3 := fun w => Of_any (a + 2) 1 (by omega) (by omega) (by omega) (by omega) w
      have q1 := fun t w => eql_pos (P := Tryd.prog) (a + 1) (b + 1 + k) (a + 1) (b + 1 + k) t w
      have q2 := fun t w => eql_pos (P := Tryd.prog) (a + 2) 1 (a + 2) 1 t w
      have q3 := fun t w => eql_pos (P := Tryd.prog) (a + 1) (b + 1) (a + 1) (b + 1) t w
      rw [pEq_self] at q1 q2 q3
      obtain ⟨x2, y2, e2⟩ := posV_cx (a + 1) (b + 1 + k)
      obtain ⟨x3, y3, e3⟩ := posV_cx (a + 2) 1
      have e1 := H1.out
      simp only [e1, e2, e3] at P1 P2 P3 o2 o3 q1 q2 q3
      have z1 := HT.out.sz
      subst hke
      rw [show s.extract 0 s.size = s by simp] at P1 P2

      clear e1 e2 e3 HN
      go_wp2_with fail
      refine (P1 _).mono ?_
      rintro e v3 ⟨rfl, rfl⟩
      go_wp2_with fail
      refine (o2 _).mono ?_
      rintro e v4 ⟨rfl, rfl⟩
      go_wp2_with fail
      refine (P2 _).mono ?_
      rintro e v5 ⟨rfl, rfl⟩
      go_wp2_with fail
      refine (o3 _).mono ?_
      rintro e v6 ⟨rfl, rfl⟩
      go_wp2_with fail
      refine (P3 _).mono ?_
      rintro e v7 ⟨rfl, rfl⟩
      go_wp2_with fail
      refine (works_any _ HE.out).mono ?_
      rintro e vv ⟨rfl, B⟩
      go_wp2_with fail
      go_ret
      exact ⟨rfl, B⟩
theorem plain_any (a b : Int) (s : ByteArray) (a0 : 0 ≤ a) (a1 : a ≤ 65535) (b0 : 0 ≤ b) (b1 : b ≤ 65535) (w : World) (hE : Env w) :
    Calls Tryd.prog 8 #[.int .u16 a, .int .u16 b, .string s] w fun e w' => e = .returned (.bool true) ∧ Below w.heap.size w w' := by
  cases h : decide (4096 < s.size)
  · exact plain_light a b a0 a1 b0 b1 s h w hE
  · exact plain_heavy a b s h w hE
end Go.Proofs.YtgilhfojfmgjbaaDoor
