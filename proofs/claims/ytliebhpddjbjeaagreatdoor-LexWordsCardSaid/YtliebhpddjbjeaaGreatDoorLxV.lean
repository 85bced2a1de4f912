/- Layer 4 by plain functions: numbers in all ways in which they may be written. No program stands in here. -/
import Derived.Test.YtliebhpddjbjeaaGreatDoorLxU
namespace Go.Proofs.YtliebhpddjbjeaaGreatDoor
open Go
set_option linter.unusedVariables false
set_option maxRecDepth 10000

/-- A digit of a base up to 16. -/
def hexC (k : Nat) : UInt8 := if k < 10 then UInt8.ofNat (48 + k) else UInt8.ofNat (55 + k)
/-- A number's digits by a base above 1. -/
def digsB (base : Nat) (hb : 2 ≤ base) (u : Nat) : List UInt8 := if h : u < base then [hexC u] else digsB base hb (u / base) ++ [hexC (u % base)]
termination_by u
decreasing_by exact Nat.div_lt_self (by omega) (by omega)
theorem hexC_ok (k : Nat) (h : k < 16) : digV (hexC k) = (k : Int) ∧ isHx (hexC k) = true ∧ (k < 10 → isDg (hexC k) = true) := by
  unfold hexC
  by_cases h10 : k < 10
  · rw [if_pos h10]
    have e := dgN k h10
    refine ⟨digV_dig k h10, ?_, fun _ => ?_⟩
    · unfold isHx isDg; rw [e]; simp; omega
    · unfold isDg; rw [e]; simp; omega
  · rw [if_neg h10]
    have e : (UInt8.ofNat (55 + k)).toNat = 55 + k := by rw [UInt8.toNat_ofNat']; omega
    refine ⟨?_, ?_, fun h' => absurd h' h10⟩
    · unfold digV; rw [e, if_pos (by omega)]; omega
    · unfold isHx isDg; rw [e]; simp; omega
theorem digs_ok (base : Nat) (hb : 2 ≤ base) (h16 : base ≤ 16) (u : Nat) : (∀ b ∈ digsB base hb u, isHx b = true ∧ 0 ≤ digV b ∧ digV b < base ∧ (base ≤ 10 → isDg b = true)) ∧ vOf base 0 (digsB base hb u) = u ∧ digsB base hb u ≠ [] := by
  induction u using Nat.strongRecOn with
  | _ u ih =>
    rw [digsB]
    by_cases h : u < base
    · rw [dif_pos h]
      obtain ⟨e1, e2, e3⟩ := hexC_ok u (by omega)
      refine ⟨fun b hb => ?_, ?_, by simp⟩
      · rw [List.mem_singleton] at hb; subst hb
        exact ⟨e2, by omega, by omega, fun hq => e3 (by omega)⟩
      · show 0 * base + (digV (hexC u)).toNat = u
        rw [e1]; omega
    · rw [dif_neg h]
      have hlt := Nat.mod_lt u (show 0 < base by omega)
      obtain ⟨i1, i2, i3⟩ := ih (u / base) (Nat.div_lt_self (by omega) (by omega))
      obtain ⟨e1, e2, e3⟩ := hexC_ok (u % base) (by omega)
      refine ⟨fun b hb => ?_, ?_, by simp⟩
      · rcases List.mem_append.1 hb with hb | hb
        · exact i1 b hb
        · rw [List.mem_singleton] at hb; subst hb
          exact ⟨e2, by omega, by omega, fun hq => e3 (by omega)⟩
      · rw [vOf_snoc, i2, e1, Int.toNat_natCast, Nat.mul_comm]
        exact Nat.div_add_mod u base
theorem vOf_zeros (base : Nat) (s : List UInt8) : ∀ k : Nat, vOf base 0 (List.replicate k 48 ++ s) = vOf base 0 s
  | 0 => rfl
  | k + 1 => by
    show vOf base (0 * base + (digV 48).toNat) (List.replicate k 48 ++ s) = _
    rw [show 0 * base + (digV 48).toNat = 0 by rw [Nat.zero_mul]; rfl]
    exact vOf_zeros base s k
theorem valS_ok (base : Nat) (hb : 1 ≤ base) (most : Int) (s : List UInt8) (hs : s ≠ []) (hd : ∀ b ∈ s, 0 ≤ digV b ∧ digV b < base) (h : ((vOf base 0 s : Nat) : Int) ≤ most) : valS base most s = some ((vOf base 0 s : Nat) : Int) := by
  unfold valS
  rw [if_neg hs]
  exact valL_ok base hb most s 0 hd h
theorem numS_all (s : List UInt8) (h : ∀ b ∈ s, isHx b = true) : numS s = s := by
  have := numS_back s [] h (fun c hc => by simp at hc)
  simpa using this
/-- A source that is one number: a step that takes all of it. -/
theorem stp_num (s : List UInt8) (hs : s ≠ []) (hd : isDg (s.headD 0) = true) (hn : numS s = s) : stp s = match num s with
    | some t => (some t, s.length, 0)
    | none => (none, 0, 41) := by
  cases s with
  | nil => exact absurd rfl hs
  | cons c r =>
    have := stp_digit c r hd
    rw [hn] at this
    rw [this]
    cases num (c :: r) <;> rfl
theorem num_way10 (s : List UInt8) (hs : s ≠ []) (hd : ∀ b ∈ s, isHx b = true ∧ 0 ≤ digV b ∧ digV b < (10 : Nat) ∧ isDg b = true) (hv : vOf 10 0 s ≤ 65535) : num s = some ⟨2, [], ((vOf 10 0 s : Nat) : Int)⟩ := by
  unfold num
  rw [if_neg (fun e => by
    have h1 := (hd 72 (List.mem_of_getLast? e)).2.2.2
    revert h1; decide)]
  have := valS_ok 10 (by omega) 65535 s hs (fun b hb => ⟨(hd b hb).2.1, (hd b hb).2.2.1⟩) (by omega)
  rw [show ((10 : Nat) : Int) = 10 from rfl] at this
  rw [this]
theorem num_way16 (s : List UInt8) (hs : s ≠ []) (hd : ∀ b ∈ s, isHx b = true ∧ 0 ≤ digV b ∧ digV b < (16 : Nat)) (hv : vOf 16 0 s ≤ 65535) : num (s ++ [72]) = some ⟨2, [], ((vOf 16 0 s : Nat) : Int)⟩ := by
  have hl : (s ++ [72]).getLast? = some (72 : UInt8) := by simp
  have hdl : (s ++ [(72 : UInt8)]).dropLast = s := by simp
  unfold num
  rw [hl, hdl, if_pos rfl]
  have := valS_ok 16 (by omega) 65535 s hs (fun b hb => ⟨(hd b hb).2.1, (hd b hb).2.2⟩) (by omega)
  rw [show ((16 : Nat) : Int) = 16 from rfl] at this
  rw [this]; rfl
theorem val10_no (s : List UInt8) (k : UInt8) (hk : 10 ≤ digV k) : valS 10 65535 (s ++ [k]) = none := by
  unfold valS
  rw [if_neg (by simp)]
  exact valL_none 10 65535 _ 0 k (by simp) hk
theorem num_way8 (s : List UInt8) (hs : s ≠ []) (hd : ∀ b ∈ s, isHx b = true ∧ 0 ≤ digV b ∧ digV b < (8 : Nat)) (hv : vOf 8 0 s ≤ 65535) : num (s ++ [66]) = some ⟨2, [], ((vOf 8 0 s : Nat) : Int)⟩ := by
  have hl : (s ++ [66]).getLast? = some (66 : UInt8) := by simp
  have hdl : (s ++ [(66 : UInt8)]).dropLast = s := by simp
  unfold num
  rw [hl, hdl, if_neg (by decide), val10_no s 66 (by decide)]
  simp only
  rw [if_pos trivial]
  have := valS_ok 8 (by omega) 65535 s hs (fun b hb => ⟨(hd b hb).2.1, (hd b hb).2.2⟩) (by omega)
  rw [show ((8 : Nat) : Int) = 8 from rfl] at this
  rw [this]; rfl
theorem num_way8c (s : List UInt8) (hs : s ≠ []) (hd : ∀ b ∈ s, isHx b = true ∧ 0 ≤ digV b ∧ digV b < (8 : Nat)) : num (s ++ [67]) = if vOf 8 0 s ≤ 255 then some ⟨3, [], ((vOf 8 0 s : Nat) : Int)⟩ else none := by
  have hl : (s ++ [67]).getLast? = some (67 : UInt8) := by simp
  have hdl : (s ++ [(67 : UInt8)]).dropLast = s := by simp
  unfold num
  rw [hl, hdl, if_neg (by decide), val10_no s 67 (by decide)]
  simp only
  rw [if_neg (by decide), if_pos trivial]
  by_cases hv : vOf 8 0 s ≤ 255
  · have := valS_ok 8 (by omega) 255 s hs (fun b hb => ⟨(hd b hb).2.1, (hd b hb).2.2⟩) (by omega)
    rw [show ((8 : Nat) : Int) = 8 from rfl] at this
    rw [this, if_pos hv]; rfl
  · rw [if_neg hv]
    cases hq : valS 8 255 s with
    | none => rfl
    | some n =>
      obtain ⟨_, _, a2, a3⟩ := valS_inv 8 255 s n (fun b hb => (hd b hb).2.1) hq
      omega
/-- Zeros ahead of digits. -/
def zers (k : Nat) (s : List UInt8) : List UInt8 := List.replicate k 48 ++ s
theorem zers_all (k : Nat) (s : List UInt8) (p : UInt8 → Prop) (h0 : p 48) (h : ∀ b ∈ s, p b) : ∀ b ∈ zers k s, p b := fun b hb => by
  rcases List.mem_append.1 hb with hb | hb
  · rw [(List.mem_replicate.1 hb).2]; exact h0
  · exact h b hb
theorem zers_ne (k : Nat) (s : List UInt8) (h : s ≠ []) : zers k s ≠ [] := fun e => by
  unfold zers at e
  rw [List.append_eq_nil_iff] at e
  exact h e.2
theorem head_of (s : List UInt8) (hs : s ≠ []) (p : UInt8 → Prop) (h : ∀ b ∈ s, p b) (x : List UInt8) : p ((s ++ x).headD 0) := by
  cases s with
  | nil => exact absurd rfl hs
  | cons c r => exact h c (by simp)
/-- Scanning a source that is one number. -/
theorem scan_one (s : List UInt8) (hs : s ≠ []) (t : T0) (h : stp s = (some t, s.length, 0)) : scanS 0 s = ([(t, 0, s.length)], s.length, 0) := by
  rw [scanS_tok 0 s hs t _ _ h, List.drop_of_length_le (Nat.le_refl _), Nat.zero_add, scanS_nil]
theorem way10 (k u : Nat) (hu : u ≤ 65535) : scanS 0 (zers k (digsB 10 (by omega) u)) = ([(⟨2, [], u⟩, 0, (zers k (digsB 10 (by omega) u)).length)], (zers k (digsB 10 (by omega) u)).length, 0) := by
  obtain ⟨d1, d2, d3⟩ := digs_ok 10 (by omega) (by omega) u
  have hall := zers_all k (digsB 10 (by omega) u) (fun b => isHx b = true ∧ 0 ≤ digV b ∧ digV b < (10 : Nat) ∧ isDg b = true) (by decide) (fun b hb => ⟨(d1 b hb).1, (d1 b hb).2.1, (d1 b hb).2.2.1, (d1 b hb).2.2.2 (by omega)⟩)
  have hne := zers_ne k _ d3
  have hv : vOf 10 0 (zers k (digsB 10 (by omega) u)) = u := by unfold zers; rw [vOf_zeros, d2]
  have hn := num_way10 _ hne hall (by omega)
  rw [hv] at hn
  refine scan_one _ hne _ ?_
  have hh := head_of _ hne (fun b => isDg b = true) (fun b hb => (hall b hb).2.2.2) []
  rw [List.append_nil] at hh
  rw [stp_num _ hne hh (numS_all _ fun b hb => (hall b hb).1), hn]
theorem numS_H (s : List UInt8) (h : ∀ b ∈ s, isHx b = true) : numS (s ++ [72]) = s ++ [72] := by
  have e := tw_app isHx s [72] h (fun c hc => by rw [← Option.some.inj hc]; rfl)
  unfold numS
  rw [e, List.drop_left]
  rfl
theorem way16 (k u : Nat) (hu : u ≤ 65535) : scanS 0 (zers (k + 1) (digsB 16 (by omega) u) ++ [72]) = ([(⟨2, [], u⟩, 0, (zers (k + 1) (digsB 16 (by omega) u) ++ [72]).length)], (zers (k + 1) (digsB 16 (by omega) u) ++ [72]).length, 0) := by
  obtain ⟨d1, d2, d3⟩ := digs_ok 16 (by omega) (by omega) u
  have hall := zers_all (k + 1) (digsB 16 (by omega) u) (fun b => isHx b = true ∧ 0 ≤ digV b ∧ digV b < (16 : Nat)) (by decide) (fun b hb => ⟨(d1 b hb).1, (d1 b hb).2.1, (d1 b hb).2.2.1⟩)
  have hne := zers_ne (k + 1) _ d3
  have hv : vOf 16 0 (zers (k + 1) (digsB 16 (by omega) u)) = u := by unfold zers; rw [vOf_zeros, d2]
  have hn := num_way16 _ hne hall (by omega)
  rw [hv] at hn
  refine scan_one _ (by simp) _ ?_
  have hh : isDg ((zers (k + 1) (digsB 16 (by omega) u) ++ [72]).headD 0) = true := rfl
  rw [stp_num _ (by simp) hh (numS_H _ fun b hb => (hall b hb).1), hn]
theorem way8 (k u : Nat) (hu : u ≤ 65535) : scanS 0 (zers k (digsB 8 (by omega) u) ++ [66]) = ([(⟨2, [], u⟩, 0, (zers k (digsB 8 (by omega) u) ++ [66]).length)], (zers k (digsB 8 (by omega) u) ++ [66]).length, 0) := by
  obtain ⟨d1, d2, d3⟩ := digs_ok 8 (by omega) (by omega) u
  have hall := zers_all k (digsB 8 (by omega) u) (fun b => isHx b = true ∧ 0 ≤ digV b ∧ digV b < (8 : Nat) ∧ isDg b = true) (by decide) (fun b hb => ⟨(d1 b hb).1, (d1 b hb).2.1, (d1 b hb).2.2.1, (d1 b hb).2.2.2 (by omega)⟩)
  have hne := zers_ne k _ d3
  have hv : vOf 8 0 (zers k (digsB 8 (by omega) u)) = u := by unfold zers; rw [vOf_zeros, d2]
  have hn := num_way8 _ hne (fun b hb => ⟨(hall b hb).1, (hall b hb).2.1, (hall b hb).2.2.1⟩) (by omega)
  rw [hv] at hn
  refine scan_one _ (by simp) _ ?_
  have hh := head_of _ hne (fun b => isDg b = true) (fun b hb => (hall b hb).2.2.2) [66]
  rw [stp_num _ (by simp) hh (numS_all _ fun b hb => by
    rcases List.mem_append.1 hb with hb | hb
    · exact (hall b hb).1
    · rw [List.mem_singleton] at hb; subst hb; rfl), hn]
theorem way8c (k u : Nat) : scanS 0 (zers k (digsB 8 (by omega) u) ++ [67]) = if u ≤ 255 then ([(⟨3, [], u⟩, 0, (zers k (digsB 8 (by omega) u) ++ [67]).length)], (zers k (digsB 8 (by omega) u) ++ [67]).length, 0) else ([], 0, 41) := by
  obtain ⟨d1, d2, d3⟩ := digs_ok 8 (by omega) (by omega) u
  have hall := zers_all k (digsB 8 (by omega) u) (fun b => isHx b = true ∧ 0 ≤ digV b ∧ digV b < (8 : Nat) ∧ isDg b = true) (by decide) (fun b hb => ⟨(d1 b hb).1, (d1 b hb).2.1, (d1 b hb).2.2.1, (d1 b hb).2.2.2 (by omega)⟩)
  have hne := zers_ne k _ d3
  have hv : vOf 8 0 (zers k (digsB 8 (by omega) u)) = u := by unfold zers; rw [vOf_zeros, d2]
  have hn := num_way8c _ hne (fun b hb => ⟨(hall b hb).1, (hall b hb).2.1, (hall b hb).2.2.1⟩)
  rw [hv] at hn
  have hh := head_of _ hne (fun b => isDg b = true) (fun b hb => (hall b hb).2.2.2) [67]
  have hst := stp_num (zers k (digsB 8 (by omega) u) ++ [67]) (by simp) hh (numS_all _ fun b hb => by
    rcases List.mem_append.1 hb with hb | hb
    · exact (hall b hb).1
    · rw [List.mem_singleton] at hb; subst hb; rfl)
  rw [hn] at hst
  by_cases h : u ≤ 255
  · rw [if_pos h] at hst ⊢
    exact scan_one _ (by simp) _ hst
  · rw [if_neg h] at hst ⊢
    exact scanS_err 0 _ (by simp) 0 41 (by decide) hst
end Go.Proofs.YtliebhpddjbjeaaGreatDoor
