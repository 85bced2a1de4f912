/- Reading a tree's text: the model. -/
import Derived.Test.YtbfclibjnanlgaaGreatDoorTrZ
import Derived.Lib.ParseIntB
namespace Go.Proofs.YtbfclibjnanlgaaGreatDoor
open Go.RowKit
set_option maxHeartbeats 1000000
set_option linter.unusedVariables false

/-- A tree without addresses. -/
inductive DT where
  | node (d : ND) (ks : List DT)
mutual
def Tr.dt : Tr → DT
  | .node _ d ks => .node d (dtL ks)
def dtL : List Tr → List DT
  | [] => []
  | t :: r => t.dt :: dtL r
end
theorem dtL_app (a b : List Tr) : dtL (a ++ b) = dtL a ++ dtL b := by
  induction a with
  | nil => rfl
  | cons t r ih => simp [dtL, ih]
/-- What numbers are written with. -/
def numCh (c : UInt8) : Bool := decide (c.toNat = 45) || (decide (48 ≤ c.toNat) && decide (c.toNat ≤ 57))
def numM (lo hi : Int) (s : List UInt8) : Option (Int × List UInt8) :=
  match Lib.parseIntB 64 (s.takeWhile numCh) with
  | .ok v => if lo ≤ v ∧ v ≤ hi ∧ Lib.itoa v = s.takeWhile numCh then some (v, s.dropWhile numCh) else none
  | _ => none
def noBl (c : UInt8) : Bool := decide (c ≠ 32)
def tkM (c : UInt8) : List UInt8 → Option (List UInt8)
  | [] => none
  | b :: r => if b = c then some r else none
def posM (s : List UInt8) : Option ((Int × Int) × List UInt8) :=
  match tkM 45 s with
  | some r => some ((0, 0), r)
  | none => if isP (readGo [] (s.takeWhile noBl)).1 (readGo [] (s.takeWhile noBl)).2 then some (readGo [] (s.takeWhile noBl), s.dropWhile noBl) else none
def nameM (z : Int) (s : List UInt8) : Option (List UInt8 × List UInt8) := if (s.length : Int) < z then none else some (s.take z.toNat, s.drop z.toNat)
def hdM (s : List UInt8) : Option (ND × List UInt8) :=
  match numM 0 255 s with
  | none => none
  | some (k, s1) =>
  match tkM 32 s1 with
  | none => none
  | some s2 =>
  match posM s2 with
  | none => none
  | some (p, s3) =>
  match tkM 32 s3 with
  | none => none
  | some s4 =>
  match numM 0 9223372036854775807 s4 with
  | none => none
  | some (z, s5) =>
  match tkM 58 s5 with
  | none => none
  | some s6 =>
  match nameM z s6 with
  | none => none
  | some (x, s7) =>
  match tkM 32 s7 with
  | none => none
  | some s8 =>
  match numM (-9223372036854775808) 9223372036854775807 s8 with
  | none => none
  | some (n, s9) => some (⟨k.toNat, p.1, p.2, x, n⟩, s9)
inductive Res (α : Type) where
  | err (e : Int)
  | ok (x : α) (r : List UInt8) (m : Nat)
mutual
def rdM : Nat → Nat → Nat → List UInt8 → Res DT
  | 0, _, _, _ => .err 7
  | f + 1, deep, many, s =>
    match tkM 40 s with
    | none => .err 7
    | some s1 =>
      if 100 < deep then .err 50 else if 8192 < many + 1 then .err 51 else
      match hdM s1 with
      | none => .err 7
      | some (d, s2) =>
        match rdK f deep (many + 1) s2 with
        | .err e => .err e
        | .ok ks r m => .ok (.node d ks) r m
def rdK : Nat → Nat → Nat → List UInt8 → Res (List DT)
  | 0, _, _, _ => .err 7
  | f + 1, deep, many, s =>
    match tkM 32 s with
    | some s1 =>
      match rdM f (deep + 1) many s1 with
      | .err e => .err e
      | .ok t r m =>
        match rdK f deep m r with
        | .err e => .err e
        | .ok ks r2 m2 => .ok (t :: ks) r2 m2
    | none =>
      match tkM 41 s with
      | some s1 => .ok [] s1 many
      | none => .err 7
end
def readM (s : List UInt8) : Res DT :=
  match rdM (s.length + 1) 1 0 s with
  | .err e => .err e
  | .ok t [] m => .ok t [] m
  | .ok _ (_ :: _) _ => .err 7

/-! ### What was written is read -/
theorem parseM_dig (M : Nat) (hM : M ≤ 18446744073709551615) : ∀ (s : List UInt8) (a : Nat), (∀ b ∈ s, isD b) → valD a s ≤ M → Lib.parseUintM M a s = .ok (valD a s)
  | [], a, _, _ => rfl
  | b :: r, a, h, hv => by
    obtain ⟨h1, h2⟩ := h b List.mem_cons_self
    have h3 := valD_ge r (10 * a + (b.toNat - 48))
    have h4 : valD (10 * a + (b.toNat - 48)) r ≤ M := hv
    have e : a * 10 + (b.toNat - 48) = 10 * a + (b.toNat - 48) := by omega
    rw [Lib.parseUintM, if_pos ⟨h1, h2⟩, if_neg (by omega), if_neg (by omega), e]
    exact parseM_dig M hM r _ (fun c hc => h c (List.mem_cons_of_mem _ hc)) h4
theorem parse_itoa (n : Int) (h0 : -9223372036854775808 ≤ n) (h1 : n ≤ 9223372036854775807) : Lib.parseIntB 64 (Lib.itoa n) = .ok n := by
  by_cases hn : n < 0
  · obtain ⟨a1, a2, a3, _⟩ := dec_all n.natAbs
    have hp := parseM_dig (2 ^ 64 - 1) (by decide) (Lib.decDigits n.natAbs) 0 a1 (by rw [a2]; omega)
    rw [a2] at hp
    have hu : Lib.parseUintB 64 (Lib.decDigits n.natAbs) = .ok n.natAbs := by unfold Lib.parseUintB; rw [if_neg a3]; exact hp
    unfold Lib.itoa
    rw [if_pos hn]
    unfold Lib.parseIntB
    simp only [show (45 : UInt8).toNat = 45 from rfl, or_true, if_true, hu, not_true, false_and, if_false, true_and]
    rw [if_neg (by have : (2 : Nat) ^ (64 - 1) = 9223372036854775808 := by decide
                   omega)]
    congr 1
    omega
  · obtain ⟨a1, a2, a3, _⟩ := dec_all n.toNat
    have hp := parseM_dig (2 ^ 64 - 1) (by decide) (Lib.decDigits n.toNat) 0 a1 (by rw [a2]; omega)
    rw [a2] at hp
    have hu : Lib.parseUintB 64 (Lib.decDigits n.toNat) = .ok n.toNat := by unfold Lib.parseUintB; rw [if_neg a3]; exact hp
    unfold Lib.itoa
    rw [if_neg hn]
    cases hd : Lib.decDigits n.toNat with
    | nil => exact absurd hd a3
    | cons c r =>
      have hc : isD c := a1 c (by rw [hd]; exact List.mem_cons_self)
      have hc1 := hc.1
      have hc2 := hc.2
      rw [hd] at hu
      unfold Lib.parseIntB
      have e1 : ¬ (c.toNat = 43) := by omega
      have e2 : ¬ (c.toNat = 45) := by omega
      simp only [e1, e2, or_self, if_false, hu, not_false_eq_true, true_and, false_and]
      rw [if_neg (by have : (2 : Nat) ^ (64 - 1) = 9223372036854775808 := by decide
                     omega)]
      congr 1
      omega
theorem numCh_dig (b : UInt8) (h : isD b) : numCh b = true := by
  obtain ⟨h1, h2⟩ := h
  unfold numCh
  simp [h1, h2]
theorem numCh_itoa (n : Int) : ∀ b ∈ Lib.itoa n, numCh b = true := by
  intro b hb
  unfold Lib.itoa at hb
  split at hb
  · rcases List.mem_cons.1 hb with rfl | hb
    · decide
    · exact numCh_dig b ((dec_all n.natAbs).1 b hb)
  · exact numCh_dig b ((dec_all n.toNat).1 b hb)
theorem tw_app {α : Type} (p : α → Bool) (a r : List α) (h : ∀ b ∈ a, p b = true) (hr : ∀ b, r.head? = some b → p b = false) : (a ++ r).takeWhile p = a ∧ (a ++ r).dropWhile p = r := by
  induction a with
  | nil =>
    cases r with
    | nil => simp
    | cons b r => have := hr b rfl; simp [this]
  | cons b a ih =>
    obtain ⟨i1, i2⟩ := ih (fun c hc => h c (List.mem_cons_of_mem _ hc))
    have hb := h b List.mem_cons_self
    simp [hb, i1, i2]
theorem num_text (lo hi n : Int) (r : List UInt8) (h0 : -9223372036854775808 ≤ n) (h1 : n ≤ 9223372036854775807) (h2 : lo ≤ n) (h3 : n ≤ hi) (hr : ∀ b, r.head? = some b → numCh b = false) : numM lo hi (Lib.itoa n ++ r) = some (n, r) := by
  obtain ⟨e1, e2⟩ := tw_app numCh (Lib.itoa n) r (numCh_itoa n) hr
  unfold numM
  rw [e1, parse_itoa n h0 h1]
  simp [h2, h3, e2]
/-- A node's place, as it is read again. -/
def ndN (d : ND) : ND := ⟨d.k, if isP d.l d.c then d.l else 0, if isP d.l d.c then d.c else 0, d.x, d.n⟩
mutual
def DT.nrm : DT → DT
  | .node d ks => .node (ndN d) (nrmL ks)
def nrmL : List DT → List DT
  | [] => []
  | t :: r => t.nrm :: nrmL r
end
theorem noBl_txt (l c : Int) : ∀ b ∈ txt l c, noBl b = true := by
  intro b hb
  unfold txt at hb
  have hd : ∀ u : Nat, ∀ b ∈ Lib.decDigits u, noBl b = true := fun u b hb => by
    have h := (dec_all u).1 b hb
    unfold noBl
    rw [decide_eq_true_iff]
    rintro rfl
    exact absurd h.1 (by decide)
  rcases List.mem_append.1 hb with hb | hb
  · exact hd _ b hb
  · rcases List.mem_cons.1 hb with rfl | hb
    · decide
    · exact hd _ b hb
theorem pos_text (d : ND) (r : List UInt8) : posM (atT d ++ 32 :: r) = some (((ndN d).l, (ndN d).c), 32 :: r) := by
  unfold atT ndN
  cases hp : isP d.l d.c
  · rw [show txtOf d.l d.c = [] from by unfold txtOf; rw [hp]; rfl]
    simp [posM, tkM]
  · rw [show txtOf d.l d.c = txt d.l d.c from by unfold txtOf; rw [hp]; rfl]
    have hne : txt d.l d.c ≠ [] := by simp [txt]
    rw [if_neg hne]
    obtain ⟨e1, e2⟩ := tw_app noBl (txt d.l d.c) (32 :: r) (noBl_txt _ _) (by intro b hb; simp at hb; subst hb; rfl)
    have h45 : tkM 45 (txt d.l d.c ++ 32 :: r) = none := by
      cases hx : txt d.l d.c with
      | nil => exact absurd hx hne
      | cons b q =>
        have hb : b ≠ 45 := by
          rintro rfl
          have hdd : Lib.decDigits d.l.toNat ≠ [] := (dec_all _).2.2.1
          cases hq : Lib.decDigits d.l.toNat with
          | nil => exact hdd hq
          | cons b' q' =>
            have hd := (dec_all d.l.toNat).1 b' (by rw [hq]; exact List.mem_cons_self)
            unfold txt at hx
            rw [hq] at hx
            injection hx with hx _
            rw [hx] at hd
            exact absurd hd.1 (by decide)
        simp [tkM, hb]
    unfold posM
    rw [h45, e1, e2, readGo_txt _ _ hp]
    simp [hp]
theorem head_text (d : ND) (r : List UInt8) (hd : OkD d) (hx : d.x.length ≤ 9223372036854775807) (hr : ∀ b, r.head? = some b → numCh b = false) : ∃ s, headT d ++ r = 40 :: s ∧ hdM s = some (ndN d, r) := by
  obtain ⟨h1, h2, h3⟩ := hd
  refine ⟨Lib.itoa (d.k : Int) ++ (32 :: (atT d ++ 32 :: (Lib.itoa (d.x.length : Int) ++ 58 :: (d.x ++ 32 :: (Lib.itoa d.n ++ r))))), by simp [headT], ?_⟩
  have n1 := num_text 0 255 (d.k : Int) (32 :: (atT d ++ 32 :: (Lib.itoa (d.x.length : Int) ++ 58 :: (d.x ++ 32 :: (Lib.itoa d.n ++ r))))) (by omega) (by omega) (by omega) (by omega) (by intro b hb; simp at hb; subst hb; rfl)
  have n2 := num_text 0 9223372036854775807 (d.x.length : Int) (58 :: (d.x ++ 32 :: (Lib.itoa d.n ++ r))) (by omega) (by omega) (by omega) (by omega) (by intro b hb; simp at hb; subst hb; rfl)
  have n3 := num_text (-9223372036854775808) 9223372036854775807 d.n r h2 h3 h2 h3 hr
  have n4 : nameM (d.x.length : Int) (d.x ++ 32 :: (Lib.itoa d.n ++ r)) = some (d.x, 32 :: (Lib.itoa d.n ++ r)) := by
    unfold nameM
    rw [if_neg (by simp only [List.length_append]; omega)]
    simp
  unfold hdM
  simp only [n1, tkM, if_true, pos_text, n2, n4, n3]
  simp [ndN]
mutual
theorem rd_text : ∀ (t : Tr) (f deep many : Nat) (r : List UInt8), OkT t → (textT t).length ≤ 1048576 → deep + t.deep ≤ 101 → many + t.cnt ≤ 8192 → (textT t).length < f → rdM f deep many (textT t ++ r) = .ok t.dt.nrm r (many + t.cnt)
  | .node p d ks, f, deep, many, r, hok, hlen, hdeep, hcnt, hf => by
    simp only [OkT] at hok
    simp only [textT, List.length_append, List.length_cons, List.length_nil] at hlen hf
    simp only [Tr.deep] at hdeep
    simp only [Tr.cnt] at hcnt
    obtain ⟨f, rfl⟩ : ∃ g, f = g + 1 := ⟨f - 1, by omega⟩
    have hxl : d.x.length ≤ (headT d).length := by simp [headT]; omega
    obtain ⟨s, e1, e2⟩ := head_text d (textTL ks ++ ([41] ++ r)) hok.1 (by omega) (by
      intro b hb
      cases ks with
      | nil => simp [textTL] at hb; subst hb; rfl
      | cons t l => simp [textTL] at hb; subst hb; rfl)
    have hk := rd_textL ks f deep (many + 1) r hok.2 (by omega) (by omega) (by omega) (by have : 1 ≤ (headT d).length := by simp [headT]
                                                                                          omega)
    have hdp : 1 ≤ deepL ks + 1 := by omega
    rw [textT, List.append_assoc, List.append_assoc, e1, rdM]
    simp only [tkM, if_true]
    rw [if_neg (by omega), if_neg (by omega), e2]
    simp only
    rw [← List.append_assoc] 
    rw [List.append_assoc, hk]
    simp only [Tr.dt, DT.nrm, Tr.cnt]
    congr 1
    omega
theorem rd_textL : ∀ (l : List Tr) (f deep many : Nat) (r : List UInt8), OkTL l → (textTL l).length ≤ 1048576 → deep + deepL l ≤ 100 → many + cntL l ≤ 8192 → (textTL l).length < f → rdK f deep many (textTL l ++ ([41] ++ r)) = .ok (nrmL (dtL l)) r (many + cntL l)
  | [], f, deep, many, r, _, _, _, _, hf => by
    obtain ⟨f, rfl⟩ : ∃ g, f = g + 1 := ⟨f - 1, by omega⟩
    simp [rdK, textTL, tkM, dtL, nrmL, cntL]
  | t :: l, f, deep, many, r, hok, hlen, hdeep, hcnt, hf => by
    simp only [OkTL] at hok
    simp only [textTL, List.length_append, List.length_cons] at hlen hf
    simp only [deepL] at hdeep
    simp only [cntL] at hcnt
    obtain ⟨f, rfl⟩ : ∃ g, f = g + 1 := ⟨f - 1, by omega⟩
    have h1 := rd_text t f (deep + 1) many (textTL l ++ ([41] ++ r)) hok.1 (by omega) (by omega) (by omega) (by omega)
    have h2 := rd_textL l f deep (many + t.cnt) r hok.2 (by omega) (by omega) (by omega) (by omega)
    rw [textTL, List.cons_append, List.append_assoc, rdK]
    simp only [tkM, if_true]
    rw [h1]
    simp only
    rw [h2]
    simp only [dtL, nrmL, cntL]
    congr 1
    omega
end
theorem read_text (t : Tr) (hok : OkT t) (hlen : (textT t).length ≤ 1048576) (hd : t.deep ≤ 100) (hc : t.cnt ≤ 8192) : readM (textT t) = .ok t.dt.nrm [] t.cnt := by
  have := rd_text t ((textT t).length + 1) 1 0 [] hok hlen (by omega) (by omega) (by omega)
  rw [List.append_nil] at this
  unfold readM
  rw [this]
  simp
end Go.Proofs.YtbfclibjnanlgaaGreatDoor
