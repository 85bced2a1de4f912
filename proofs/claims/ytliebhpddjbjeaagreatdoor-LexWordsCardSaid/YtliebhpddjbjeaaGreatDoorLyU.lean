/- Layer 4: what is scanned may be joined, and what Join writes is joinT. -/
import Derived.Test.YtliebhpddjbjeaaGreatDoorLyV
namespace Go.Proofs.YtliebhpddjbjeaaGreatDoor
open Go
set_option maxRecDepth 10000
set_option linter.unusedVariables false

theorem tok_txt (t : T0) (h : tokOk t) : t.k ≠ 0 ∧ txtT t ≠ [] := by
  refine ⟨?_, fun e => ?_⟩
  · rcases h with ⟨h, _⟩ | ⟨h, _⟩ | ⟨h, _⟩ | ⟨h, _⟩ | ⟨h, _⟩ | ⟨h, _⟩ <;> omega
  · have := resc t h [] (fun c hc => by simp at hc)
    rw [e] at this
    have h2 : (stp []).1 = none := rfl
    rw [show ([] : List UInt8) ++ [] = [] from rfl] at this
    rw [this] at h2; cases h2
theorem tok_fits (t : T0) (h : tokOk t) (hl : (txtT t).length ≤ 65536) : txtOk t := by
  unfold txtT at hl
  rcases h with ⟨hk, h1, h2⟩ | ⟨hk, h1, h2⟩ | ⟨hk, h1, h2, h3⟩ | ⟨hk, h1, h2, h3⟩ | ⟨hk, h1, h2, h3⟩ | ⟨hk, h1, h2⟩
  · rw [if_neg (by omega), if_neg (by omega), if_neg (by omega)] at hl; exact ⟨by omega, by omega, hl⟩
  · rw [if_neg (by omega), if_neg (by omega), if_neg (by omega)] at hl; exact ⟨by omega, by omega, hl⟩
  · exact ⟨h2, h3, by rw [h1]; simp⟩
  · exact ⟨h2, by omega, by rw [h1]; simp⟩
  · refine ⟨by omega, by omega, ?_⟩
    rw [if_neg (by omega), if_neg (by omega), if_pos hk] at hl
    split at hl <;> (simp at hl; omega)
  · rw [if_neg (by omega), if_neg (by omega), if_neg (by omega)] at hl; exact ⟨by omega, by omega, hl⟩
theorem jn_go : ∀ (l : List T0) (acc : List UInt8), (∀ t ∈ l, tokOk t) → acc ≠ [] → l.foldl jn acc = if l = [] then acc else acc ++ 32 :: joinT l
  | [], acc, _, _ => rfl
  | t :: r, acc, h, ha => by
    obtain ⟨h1, h2⟩ := tok_txt t (h t (by simp))
    have e : jn acc t = acc ++ 32 :: txtT t := by unfold jn; rw [if_neg h1, if_neg ha]
    have hne : acc ++ 32 :: txtT t ≠ [] := fun k => by simp at k
    have ih := jn_go r (acc ++ 32 :: txtT t) (fun x hx => h x (List.mem_cons_of_mem t hx)) hne
    rw [List.foldl_cons, e, ih, if_neg (List.cons_ne_nil t r)]
    by_cases hr : r = []
    · subst hr; rw [if_pos rfl]; simp [joinT]
    · rw [if_neg hr]; simp [joinT, hr]
/-- What Join writes of tokens that may be. -/
theorem jn_join (l : List T0) (h : ∀ t ∈ l, tokOk t) : l.foldl jn [] = joinT l := by
  cases l with
  | nil => rfl
  | cons t r =>
    obtain ⟨h1, h2⟩ := tok_txt t (h t (by simp))
    rw [List.foldl_cons, show jn [] t = txtT t by unfold jn; rw [if_neg h1, if_pos rfl], jn_go r _ (fun x hx => h x (List.mem_cons_of_mem t hx)) h2]
    by_cases hr : r = []
    · subst hr; rw [if_pos rfl]; simp [joinT]
    · rw [if_neg hr]; simp [joinT, hr]
/-- The token that ends a source is not written. -/
theorem jn_end (l : List T0) (t : T0) (ht : t.k = 0) (h : ∀ t ∈ l, tokOk t) : (l ++ [t]).foldl jn [] = joinT l := by
  rw [List.foldl_append, jn_join l h]
  show jn (joinT l) t = joinT l
  unfold jn; rw [if_pos ht]
theorem scan_fits : ∀ (m : Nat) (s : List UInt8) (off : Nat), s.length ≤ m → ∀ x ∈ (scanS off s).1, (txtT x.1).length ≤ 3 * s.length
  | _, [], off, _, x, hx => by rw [scanS_nil] at hx; simp at hx
  | 0, c :: r, off, h, _, _ => by simp at h
  | m + 1, c :: r, off, h, x, hx => by
    have hne : (c :: r) ≠ [] := by simp
    have hcl : (c :: r).length = r.length + 1 := rfl
    rcases hq : stp (c :: r) with ⟨o, n, e⟩
    cases o with
    | some t =>
      obtain ⟨k0, k1, k2, k3, k4⟩ := stp_ok _ hne t n e hq
      have hl : ((c :: r).drop n).length = (c :: r).length - n := List.length_drop
      rw [scanS_tok off _ hne t n e hq] at hx
      rcases List.mem_cons.1 hx with rfl | hx
      · simp only; omega
      · have := scan_fits m ((c :: r).drop n) (off + n) (by omega) x hx
        omega
    | none =>
      by_cases he : e = 0
      · subst he
        obtain ⟨k1, k2⟩ := stp_skip _ hne n hq
        have hl : ((c :: r).drop n).length = (c :: r).length - n := List.length_drop
        rw [scanS_skip off _ hne n hq] at hx
        have := scan_fits m ((c :: r).drop n) (off + n) (by omega) x hx
        omega
      · rw [scanS_err off _ hne n e he hq] at hx; simp at hx
end Go.Proofs.YtliebhpddjbjeaaGreatDoor
