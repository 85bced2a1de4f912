/- Layer 4 by plain functions: scanning. No program stands in here. -/
import Derived.Test.YtliebhpddjbjeaaGreatDoorLxS
namespace Go.Proofs.YtliebhpddjbjeaaGreatDoor
open Go
set_option linter.unusedVariables false
set_option maxRecDepth 10000

theorem oneL_none (s : List UInt8) (n : Nat) (e : Int) (h : oneL s = (none, n, e)) : e ≠ 0 := by
  unfold oneL at h
  split at h
  · split at h
    · injection h with _ h; injection h with _ h; omega
    · cases h
  · split at h
    · split at h
      · cases h
      · injection h with _ h; injection h with _ h; omega
    · split at h
      · split at h
        · cases h
        · injection h with _ h; injection h with _ h; omega
      · split at h
        · injection h with _ h; injection h with _ h; omega
        · cases h
theorem stp_skip (s : List UInt8) (hs : s ≠ []) (n : Nat) (h : stp s = (none, n, 0)) : 1 ≤ n ∧ n ≤ s.length := by
  have hl : 1 ≤ s.length := by
    cases s with
    | nil => exact absurd rfl hs
    | cons c r => simp
  unfold stp at h
  split at h
  · injection h with _ h; injection h with h _; omega
  · split at h
    · cases hq : cmt 0 s with
      | none => rw [hq] at h; injection h with _ h; injection h with _ h; omega
      | some m =>
        rw [hq] at h
        injection h with _ h; injection h with h _
        have := cmt_bd s 0 m hq
        omega
    · exact absurd rfl (oneL_none s n 0 h)
theorem scanO_fuel : ∀ (f : Nat) (s : List UInt8) (off : Nat), s.length ≤ f → scanO f off s = scanO s.length off s
  | 0, s, off, h => by rw [show s.length = 0 by omega]
  | f + 1, [], off, h => rfl
  | f + 1, c :: r, off, h => by
    have hne : (c :: r) ≠ [] := by simp
    have hr : r.length ≤ f := by simpa using h
    rw [show (c :: r).length = r.length + 1 from rfl]
    rw [scanO, scanO, if_neg hne, if_neg hne]
    have hd : ∀ n, 1 ≤ n → ((c :: r).drop n).length ≤ r.length := fun n hn => by rw [List.length_drop]; simp; omega
    rcases hq : stp (c :: r) with ⟨o, n, e⟩
    cases o with
    | some t =>
      obtain ⟨_, h1, h2, _⟩ := stp_ok _ hne t n e hq
      simp only
      rw [scanO_fuel f _ _ (Nat.le_trans (hd n h1) hr), scanO_fuel r.length _ _ (hd n h1)]
    | none =>
      simp only
      by_cases he : e = 0
      · subst he
        obtain ⟨h1, h2⟩ := stp_skip _ hne n hq
        rw [if_pos rfl, if_pos rfl, scanO_fuel f _ _ (Nat.le_trans (hd n h1) hr), scanO_fuel r.length _ _ (hd n h1)]
      · rw [if_neg he, if_neg he]
theorem scanS_nil (off : Nat) : scanS off [] = ([], off, 0) := rfl
theorem scan_unf (off : Nat) (s : List UInt8) (hs : s ≠ []) : scanS off s = match stp s with
    | (some t, n, _) => ((t, off, off + n) :: (scanO (s.length - 1) (off + n) (s.drop n)).1, (scanO (s.length - 1) (off + n) (s.drop n)).2)
    | (none, n, e) => if e = 0 then scanO (s.length - 1) (off + n) (s.drop n) else ([], off, e) := by
  cases s with
  | nil => exact absurd rfl hs
  | cons c r =>
    unfold scanS
    rw [show (c :: r).length = r.length + 1 from rfl, scanO, if_neg hs]
    rfl
theorem scanS_tok (off : Nat) (s : List UInt8) (hs : s ≠ []) (t : T0) (n : Nat) (e : Int) (h : stp s = (some t, n, e)) : scanS off s = ((t, off, off + n) :: (scanS (off + n) (s.drop n)).1, (scanS (off + n) (s.drop n)).2) := by
  obtain ⟨_, h1, h2, _⟩ := stp_ok s hs t n e h
  rw [scan_unf off s hs, h]
  simp only
  rw [scanO_fuel (s.length - 1) (s.drop n) (off + n) (by rw [List.length_drop]; omega)]
  rfl
theorem scanS_skip (off : Nat) (s : List UInt8) (hs : s ≠ []) (n : Nat) (h : stp s = (none, n, 0)) : scanS off s = scanS (off + n) (s.drop n) := by
  obtain ⟨h1, h2⟩ := stp_skip s hs n h
  rw [scan_unf off s hs, h]
  simp only
  rw [if_pos trivial, scanO_fuel (s.length - 1) (s.drop n) (off + n) (by rw [List.length_drop]; omega)]
  rfl
theorem scanS_err (off : Nat) (s : List UInt8) (hs : s ≠ []) (n : Nat) (e : Int) (he : e ≠ 0) (h : stp s = (none, n, e)) : scanS off s = ([], off, e) := by
  rw [scan_unf off s hs, h]
  simp only
  rw [if_neg he]
/-- Tokens stand one behind the other. -/
def chainO : Nat → List (T0 × Nat × Nat) → Nat → Prop
  | a, [], b => a ≤ b
  | a, (t, x, y) :: r, b => a ≤ x ∧ x < y ∧ chainO y r b
/-- WHAT SCANNING GIVES. -/
theorem scan_ok : ∀ (m : Nat) (s : List UInt8) (off : Nat), s.length ≤ m →
    (∀ x ∈ (scanS off s).1, tokOk x.1) ∧ off ≤ (scanS off s).2.1 ∧ (scanS off s).2.1 ≤ off + s.length ∧ ((scanS off s).2.2 = 0 → (scanS off s).2.1 = off + s.length) ∧ ((scanS off s).2.2 ≠ 0 → (scanS off s).2.1 < off + s.length) ∧
    chainO off (scanS off s).1 (scanS off s).2.1 ∧ (joinT ((scanS off s).1.map (·.1))).length ≤ 4 * s.length ∧ ((scanS off s).1 ≠ [] → (joinT ((scanS off s).1.map (·.1))).length + 1 ≤ 4 * s.length)
  | _, [], off, _ => by
    rw [scanS_nil]
    exact ⟨fun x hx => by simp at hx, Nat.le_refl _, by simp, fun _ => by simp, fun h => absurd rfl h, Nat.le_refl _, by simp [joinT], fun h => absurd rfl h⟩
  | 0, c :: r, off, h => by simp at h
  | m + 1, c :: r, off, h => by
    have hne : (c :: r) ≠ [] := by simp
    have hc : (c :: r).length = r.length + 1 := rfl
    rcases hq : stp (c :: r) with ⟨o, n, e⟩
    cases o with
    | some t =>
      obtain ⟨k0, k1, k2, k3, k4⟩ := stp_ok _ hne t n e hq
      have hl : ((c :: r).drop n).length = (c :: r).length - n := List.length_drop
      obtain ⟨i1, i2, i3, i4, i5, i6, i7, i8⟩ := scan_ok m ((c :: r).drop n) (off + n) (by omega)
      rw [scanS_tok off _ hne t n e hq]
      generalize scanS (off + n) ((c :: r).drop n) = R at *
      refine ⟨fun x hx => ?_, by simp only; omega, by simp only; omega, fun he => by have := i4 he; simp only; omega, fun he => by have := i5 he; simp only; omega, ⟨Nat.le_refl _, by omega, i6⟩, ?_, fun _ => ?_⟩
      · rcases List.mem_cons.1 hx with rfl | hx
        · exact k0
        · exact i1 x hx
      all_goals
        simp only [List.map_cons, joinT]
        split
        · omega
        · rename_i hz
          have := i8 (fun hz2 => hz (by rw [hz2]; rfl))
          simp
          omega
    | none =>
      by_cases he : e = 0
      · subst he
        obtain ⟨k1, k2⟩ := stp_skip _ hne n hq
        have hl : ((c :: r).drop n).length = (c :: r).length - n := List.length_drop
        obtain ⟨i1, i2, i3, i4, i5, i6, i7, i8⟩ := scan_ok m ((c :: r).drop n) (off + n) (by omega)
        rw [scanS_skip off _ hne n hq]
        generalize scanS (off + n) ((c :: r).drop n) = R at *
        refine ⟨i1, by omega, by omega, fun he => by have := i4 he; omega, fun he => by have := i5 he; omega, ?_, by omega, fun h => by have := i8 h; omega⟩
        cases hR : R.1 with
        | nil => rw [hR] at i6; have : off + n ≤ R.2.1 := i6; show off ≤ R.2.1; omega
        | cons x l => rw [hR] at i6; obtain ⟨t, a, b⟩ := x; exact ⟨by have := i6.1; omega, i6.2⟩
      · rw [scanS_err off _ hne n e he hq]
        exact ⟨fun x hx => by simp at hx, Nat.le_refl _, by simp only; omega, fun h => absurd h he, fun _ => by simp, Nat.le_refl _, by simp [joinT], fun h => absurd rfl h⟩
/-- JOINED TOKENS ARE SCANNED AS THEMSELVES. -/
theorem join_back : ∀ (l : List T0) (off : Nat), (∀ t ∈ l, tokOk t) → (scanS off (joinT l)).1.map (·.1) = l ∧ (scanS off (joinT l)).2.2 = 0
  | [], off, _ => ⟨rfl, rfl⟩
  | t :: r, off, h => by
    have ht := h t (by simp)
    have hr := fun x hx => h x (List.mem_cons_of_mem t hx)
    by_cases hz : r = []
    · subst hz
      have e : joinT [t] = txtT t ++ [] := by simp [joinT]
      have hb := resc t ht [] (fun c hc => by simp at hc)
      have hne : txtT t ++ [] ≠ [] := fun k => by
        have : (stp []).1 = none := rfl
        rw [k] at hb
        rw [hb] at this; cases this
      rw [e, scanS_tok off _ hne t _ _ hb, List.drop_left, scanS_nil]
      exact ⟨rfl, rfl⟩
    · have e : joinT (t :: r) = txtT t ++ 32 :: joinT r := by simp [joinT, hz]
      have hb := resc t ht (32 :: joinT r) (fun c hc => .inr (.inr (.inr (.inl (Option.some.inj hc).symm))))
      have hs : stp (32 :: joinT r) = (none, 1, 0) := rfl
      rw [e, scanS_tok off _ (by simp) t _ _ hb, List.drop_left, scanS_skip _ _ (by simp) 1 hs]
      obtain ⟨i1, i2⟩ := join_back r (off + (txtT t).length + 1) hr
      rw [show (32 :: joinT r).drop 1 = joinT r from rfl]
      simp only [List.map_cons, i1]
      exact ⟨trivial, i2⟩
end Go.Proofs.YtliebhpddjbjeaaGreatDoor
