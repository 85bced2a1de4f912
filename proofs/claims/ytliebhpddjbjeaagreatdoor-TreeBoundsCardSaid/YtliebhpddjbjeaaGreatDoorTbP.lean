/- Texts of deep trees, and of wide ones. -/
import Derived.Test.YtliebhpddjbjeaaGreatDoorRdP
namespace Go.Proofs.YtliebhpddjbjeaaGreatDoor
open Go.RowKit
set_option maxHeartbeats 1000000
set_option linter.unusedVariables false
set_option linter.unusedSimpArgs false

def d1 : ND := ⟨1, 0, 0, [], 0⟩
def d2 : ND := ⟨2, 0, 0, [], 0⟩
theorem bd1 (u : Nat) (h : u < 10) : Lib.decDigits u = [UInt8.ofNat (48 + u)] := by rw [Lib.decDigits, dif_pos h]
theorem bit0 : Lib.itoa 0 = [48] := by unfold Lib.itoa; rw [if_neg (by decide)]; exact bd1 0 (by decide)
theorem bit1 : Lib.itoa 1 = [49] := by unfold Lib.itoa; rw [if_neg (by decide)]; exact bd1 1 (by decide)
theorem bit2 : Lib.itoa 2 = [50] := by unfold Lib.itoa; rw [if_neg (by decide)]; exact bd1 2 (by decide)
theorem btx00 : txtOf 0 0 = [] := by
  unfold txtOf
  rw [show isP 0 0 = false from by decide]; rfl
theorem head_d1 : headT d1 = [40, 49, 32, 45, 32, 48, 58, 32, 48] := by simp [headT, atT, d1, btx00, bit0, bit1]
theorem head_d2 : headT d2 = [40, 50, 32, 45, 32, 48, 58, 32, 48] := by simp [headT, atT, d2, btx00, bit0, bit2]
theorem ok_d1 : OkD d1 := ⟨by decide, by decide, by decide⟩
theorem ok_d2 : OkD d2 := ⟨by decide, by decide, by decide⟩
/-- n nodes, one below the other, above one. -/
def chT : Nat → Tr
  | 0 => .node 0 d1 []
  | n + 1 => .node 0 d1 [chT n]
/-- The bytes of l, n times. -/
def repB (l : List UInt8) : Nat → List UInt8
  | 0 => []
  | n + 1 => l ++ repB l n
theorem repB_snoc (l : List UInt8) : ∀ n, repB l (n + 1) = repB l n ++ l
  | 0 => by simp [repB]
  | n + 1 => by
    show l ++ repB l (n + 1) = (l ++ repB l n) ++ l
    rw [repB_snoc l n, List.append_assoc]
theorem repB_len (l : List UInt8) : ∀ n, (repB l n).length = n * l.length
  | 0 => by simp [repB]
  | n + 1 => by rw [repB, List.length_append, repB_len l n, Nat.add_mul]; omega
def dwB : List UInt8 := [40, 49, 32, 45, 32, 48, 58, 32, 48, 32]
def lf1 : List UInt8 := [40, 49, 32, 45, 32, 48, 58, 32, 48, 41]
def lf2 : List UInt8 := [40, 50, 32, 45, 32, 48, 58, 32, 48, 41]
theorem text_ch : ∀ n, textT (chT n) = repB dwB n ++ lf1 ++ repB [41] n
  | 0 => by simp [chT, textT, textTL, head_d1, repB, lf1]
  | n + 1 => by
    rw [chT, textT, textTL, textTL, text_ch n, head_d1, repB_snoc [41] n, repB]
    simp [dwB]
theorem ch_ok : ∀ n, OkT (chT n)
  | 0 => ⟨ok_d1, trivial⟩
  | n + 1 => ⟨ok_d1, ch_ok n, trivial⟩
theorem ch_deep : ∀ n, (chT n).deep = n + 1
  | 0 => rfl
  | n + 1 => by simp [chT, Tr.deep, deepL, ch_deep n]
theorem ch_cnt : ∀ n, (chT n).cnt = n + 1
  | 0 => rfl
  | n + 1 => by simp [chT, Tr.cnt, cntL, ch_cnt n]; omega
theorem ch_len (n : Nat) : (textT (chT n)).length = 11 * n + 10 := by
  rw [text_ch, List.length_append, List.length_append, repB_len, repB_len]
  simp [dwB, lf1]; omega
theorem read_ch (n : Nat) (h : n + 1 ≤ 100) : readM (repB dwB n ++ lf1 ++ repB [41] n) = .ok (chT n).dt.nrm [] (n + 1) := by
  rw [← text_ch, ← ch_cnt n]
  exact read_text _ (ch_ok n) (by rw [ch_len]; omega) (by rw [ch_deep]; omega) (by rw [ch_cnt]; omega)
theorem deep_err : ∀ (n f deep many : Nat) (r : List UInt8), deep ≤ 101 → 101 ≤ deep + n → many + n ≤ 8192 → 2 * n < f → rdM f deep many (repB dwB n ++ 40 :: r) = .err 50
  | 0, f, deep, many, r, h1, h2, h3, h4 => by
    obtain ⟨f, rfl⟩ : ∃ g, f = g + 1 := ⟨f - 1, by omega⟩
    rw [repB, List.nil_append, rdM]
    simp only [tkM, if_true]
    rw [if_pos (by omega)]
  | n + 1, f, deep, many, r, h1, h2, h3, h4 => by
    obtain ⟨f, rfl⟩ : ∃ g, f = g + 1 + 1 := ⟨f - 2, by omega⟩
    have e : repB dwB (n + 1) ++ 40 :: r = headT d1 ++ 32 :: (repB dwB n ++ 40 :: r) := by
      rw [repB, head_d1]; simp [dwB]
    obtain ⟨s, e1, e2⟩ := head_text d1 (32 :: (repB dwB n ++ 40 :: r)) ok_d1 (by decide) (by intro b hb; simp at hb; subst hb; rfl)
    rw [e, e1, rdM]
    simp only [tkM, if_true]
    by_cases hd : 100 < deep
    · rw [if_pos hd]
    · rw [if_neg hd, if_neg (by omega), e2]
      simp only
      rw [rdK]
      simp only [tkM, if_true]
      rw [deep_err n f (deep + 1) (many + 1) r (by omega) (by omega) (by omega) (by omega)]
theorem read_deep (n : Nat) (h : 100 ≤ n) (hn : n ≤ 255) : readM (repB dwB n ++ lf1 ++ repB [41] n) = .err 50 := by
  unfold readM
  have hl : (repB dwB n ++ lf1 ++ repB [41] n).length = 11 * n + 10 := by rw [← text_ch, ch_len]
  rw [hl, List.append_assoc, show lf1 ++ repB [41] n = 40 :: ([49, 32, 45, 32, 48, 58, 32, 48, 41] ++ repB [41] n) from rfl, deep_err n _ 1 0 _ (by omega) (by omega) (by omega) (by omega)]
/-- n nodes below one. -/
def wdT (n : Nat) : Tr := .node 0 d1 (List.replicate n (.node 0 d2 []))
theorem text_lf2 : textT (.node 0 d2 []) = lf2 := by simp [textT, textTL, head_d2, lf2]
theorem textTL_rep : ∀ n, textTL (List.replicate n (.node 0 d2 [])) = repB (32 :: lf2) n
  | 0 => rfl
  | n + 1 => by rw [List.replicate_succ, textTL, text_lf2, textTL_rep n, repB]; rfl
theorem text_wd (n : Nat) : textT (wdT n) = headT d1 ++ (repB (32 :: lf2) n ++ [41]) := by rw [wdT, textT, textTL_rep]
theorem wd_ok (n : Nat) : OkT (wdT n) := by
  refine ⟨ok_d1, ?_⟩
  induction n with
  | zero => exact trivial
  | succ n ih => exact ⟨⟨ok_d2, trivial⟩, ih⟩
theorem wd_cnt (n : Nat) : (wdT n).cnt = n + 1 := by
  have h : ∀ n, cntL (List.replicate n (Tr.node 0 d2 [])) = n := fun n => by
    induction n with
    | zero => rfl
    | succ n ih => rw [List.replicate_succ, cntL, ih]; simp [Tr.cnt, cntL]; omega
  rw [wdT, Tr.cnt, h]; omega
theorem wd_deep (n : Nat) : (wdT n).deep ≤ 2 := by
  have h : ∀ n, deepL (List.replicate n (Tr.node 0 d2 [])) ≤ 1 := fun n => by
    induction n with
    | zero => exact Nat.zero_le _
    | succ n ih => rw [List.replicate_succ, deepL]; simp [Tr.deep, deepL]; omega
  have := h n
  rw [wdT, Tr.deep]; omega
theorem wd_len (n : Nat) : (textT (wdT n)).length = 11 * n + 10 := by
  rw [text_wd, List.length_append, List.length_append, repB_len, head_d1]
  simp [lf2]; omega
theorem wide_err : ∀ (n f many : Nat), many ≤ 8192 → 8192 < many + n → 11 * n < f → rdK f 1 many (repB (32 :: lf2) n ++ [41]) = .err 51
  | 0, f, many, h1, h2, h3 => by omega
  | n + 1, f, many, h1, h2, h3 => by
    obtain ⟨f, rfl⟩ : ∃ g, f = g + 1 := ⟨f - 1, by omega⟩
    have e : repB (32 :: lf2) (n + 1) ++ [41] = 32 :: (textT (.node 0 d2 []) ++ (repB (32 :: lf2) n ++ [41])) := by rw [repB, text_lf2]; simp
    rw [e, rdK]
    simp only [tkM, if_true]
    by_cases hm : 8192 < many + 1
    · obtain ⟨f, rfl⟩ : ∃ g, f = g + 1 := ⟨f - 1, by omega⟩
      rw [text_lf2, show lf2 ++ (repB (32 :: lf2) n ++ [41]) = 40 :: ([50, 32, 45, 32, 48, 58, 32, 48, 41] ++ (repB (32 :: lf2) n ++ [41])) from rfl, rdM]
      simp only [tkM, if_true]
      rw [if_neg (by omega), if_pos hm]
    · have h := rd_text (.node 0 d2 []) f 2 many (repB (32 :: lf2) n ++ [41]) ⟨ok_d2, trivial⟩ (by rw [text_lf2]; decide) (by simp [Tr.deep, deepL]) (by simp [Tr.cnt, cntL]; omega) (by rw [text_lf2]; simp [lf2]; omega)
      rw [h]
      simp only [Tr.cnt, cntL]
      rw [wide_err n f (many + (1 + 0)) (by omega) (by omega) (by omega)]
theorem read_wide_ok (n : Nat) (h : n + 1 ≤ 8192) : readM (headT d1 ++ (repB (32 :: lf2) n ++ [41])) = .ok (wdT n).dt.nrm [] (n + 1) := by
  rw [← text_wd, ← wd_cnt n]
  exact read_text _ (wd_ok n) (by rw [wd_len]; omega) (by have := wd_deep n; omega) (by rw [wd_cnt]; omega)
theorem read_wide_err (n : Nat) (h : 8192 < n + 1) : readM (headT d1 ++ (repB (32 :: lf2) n ++ [41])) = .err 51 := by
  obtain ⟨s, e1, e2⟩ := head_text d1 (repB (32 :: lf2) n ++ [41]) ok_d1 (by decide) (by
    intro b hb
    cases n with
    | zero => omega
    | succ n => rw [repB] at hb; simp at hb; subst hb; rfl)
  have hl : (headT d1 ++ (repB (32 :: lf2) n ++ [41])).length = 11 * n + 10 := by rw [← text_wd, wd_len]
  unfold readM
  rw [hl, e1, rdM]
  simp only [tkM, if_true]
  rw [if_neg (by omega), if_neg (by omega), e2]
  simp only
  rw [wide_err n _ 1 (by omega) (by omega) (by omega)]
mutual
theorem cnt_dt : ∀ t u : Tr, u.dt = t.dt.nrm → u.cnt = t.cnt
  | .node p d ks, .node q e ls, h => by
    simp only [Tr.dt, DT.nrm] at h
    injection h with h1 h2
    rw [Tr.cnt, Tr.cnt, cnt_dtL ks ls h2]
theorem cnt_dtL : ∀ ks ls : List Tr, dtL ls = nrmL (dtL ks) → cntL ls = cntL ks
  | [], [], _ => rfl
  | [], _ :: _, h => by simp [dtL, nrmL] at h
  | _ :: _, [], h => by simp [dtL, nrmL] at h
  | t :: r, u :: s, h => by
    simp only [dtL, nrmL] at h
    injection h with h1 h2
    rw [cntL, cntL, cnt_dt t u h1, cnt_dtL r s h2]
end
mutual
theorem deep_dt : ∀ t u : Tr, u.dt = t.dt.nrm → u.deep = t.deep
  | .node p d ks, .node q e ls, h => by
    simp only [Tr.dt, DT.nrm] at h
    injection h with h1 h2
    rw [Tr.deep, Tr.deep, deep_dtL ks ls h2]
theorem deep_dtL : ∀ ks ls : List Tr, dtL ls = nrmL (dtL ks) → deepL ls = deepL ks
  | [], [], _ => rfl
  | [], _ :: _, h => by simp [dtL, nrmL] at h
  | _ :: _, [], h => by simp [dtL, nrmL] at h
  | t :: r, u :: s, h => by
    simp only [dtL, nrmL] at h
    injection h with h1 h2
    rw [deepL, deepL, deep_dt t u h1, deep_dtL r s h2]
end
end Go.Proofs.YtliebhpddjbjeaaGreatDoor
