/- What was read is written as it was. -/
import Derived.Test.YtbfclibjnanlgaaGreatDoorRdP
import Derived.Test.YtbfclibjnanlgaaGreatDoorPlT
namespace Go.Proofs.YtbfclibjnanlgaaGreatDoor
open Go.RowKit
set_option maxHeartbeats 1000000
set_option linter.unusedVariables false
set_option linter.unusedSimpArgs false

mutual
/-- The text of a tree without addresses. -/
def textD : DT → List UInt8
  | .node d ks => headT d ++ (textDL ks ++ [41])
def textDL : List DT → List UInt8
  | [] => []
  | t :: r => 32 :: (textD t ++ textDL r)
end
mutual
theorem textD_dt : ∀ t : Tr, textD t.dt = textT t
  | .node p d ks => by rw [Tr.dt, textD, textT, textDL_dt ks]
theorem textDL_dt : ∀ l : List Tr, textDL (dtL l) = textTL l
  | [] => rfl
  | t :: r => by rw [dtL, textDL, textTL, textD_dt t, textDL_dt r]
end
mutual
def OkDT : DT → Prop
  | .node d ks => OkD d ∧ OkDTL ks
def OkDTL : List DT → Prop
  | [] => True
  | t :: r => OkDT t ∧ OkDTL r
end
mutual
theorem okDT_dt : ∀ t : Tr, OkDT t.dt → OkT t
  | .node p d ks, h => by
    rw [Tr.dt, OkDT] at h
    exact ⟨h.1, okDTL_dt ks h.2⟩
theorem okDTL_dt : ∀ l : List Tr, OkDTL (dtL l) → OkTL l
  | [], _ => trivial
  | t :: r, h => by
    rw [dtL, OkDTL] at h
    exact ⟨okDT_dt t h.1, okDTL_dt r h.2⟩
end
theorem nmb_back {lo hi : Int} {s : List UInt8} {n : Int} {r : List UInt8} (h : numM lo hi s = some (n, r)) : s = Lib.itoa n ++ r ∧ lo ≤ n ∧ n ≤ hi := by
  unfold numM at h
  split at h
  · split at h
    · rename_i hc
      injection h with h
      injection h with h1 h2
      subst h1 h2
      exact ⟨by rw [hc.2.2]; exact (List.takeWhile_append_dropWhile (p := numCh)).symm, hc.1, hc.2.1⟩
    · cases h
  · cases h
theorem tkb_back {c : UInt8} {s r : List UInt8} (h : tkM c s = some r) : s = c :: r := by
  cases s with
  | nil => cases h
  | cons b q =>
    rw [tkM] at h
    by_cases e : b = c
    · rw [if_pos e] at h
      rw [e, Option.some.inj h]
    · rw [if_neg e] at h
      cases h
theorem txt_ne (l c : Int) : txt l c ≠ [] := by simp [txt]
theorem psb_back {s : List UInt8} {p : Int × Int} {r : List UInt8} (h : posM s = some (p, r)) (k : Nat) (x : List UInt8) (n : Int) : s = atT ⟨k, p.1, p.2, x, n⟩ ++ r := by
  unfold posM at h
  split at h
  · rename_i r' h1
    injection h with h
    injection h with h2 h3
    subst h2 h3
    rw [tkb_back h1]
    rfl
  · split at h
    · rename_i hp
      injection h with h
      injection h with h2 h3
      subst h2 h3
      have hb := readGo_back (s.takeWhile noBl) [] hp
      rw [List.nil_append] at hb
      unfold atT
      simp only [txtOf, hp, if_true]
      rw [if_neg (txt_ne _ _), ← hb]
      exact (List.takeWhile_append_dropWhile (p := noBl)).symm
    · cases h
theorem nab_back {z : Int} {s x r : List UInt8} (h : nameM z s = some (x, r)) (h0 : 0 ≤ z) : s = x ++ r ∧ (x.length : Int) = z := by
  unfold nameM at h
  split at h
  · cases h
  · injection h with h
    injection h with h1 h2
    subst h1 h2
    exact ⟨(List.take_append_drop _ _).symm, by rw [List.length_take]; omega⟩
theorem hd_back {s : List UInt8} {d : ND} {r : List UInt8} (h : hdM s = some (d, r)) : 40 :: s = headT d ++ r ∧ OkD d := by
  unfold hdM at h
  split at h; · cases h
  rename_i k s1 h1
  split at h; · cases h
  rename_i s2 h2
  split at h; · cases h
  rename_i p s3 h3
  split at h; · cases h
  rename_i s4 h4
  split at h; · cases h
  rename_i z s5 h5
  split at h; · cases h
  rename_i s6 h6
  split at h; · cases h
  rename_i x s7 h7
  split at h; · cases h
  rename_i s8 h8
  split at h; · cases h
  rename_i n s9 h9
  injection h with h
  injection h with e1 e2
  subst e1 e2
  obtain ⟨b1, c1, c2⟩ := nmb_back h1
  have b2 := tkb_back h2
  have b3 := psb_back h3 k.toNat x n
  have b4 := tkb_back h4
  obtain ⟨b5, c3, c4⟩ := nmb_back h5
  have b6 := tkb_back h6
  obtain ⟨b7, c5⟩ := nab_back h7 c3
  have b8 := tkb_back h8
  obtain ⟨b9, c6, c7⟩ := nmb_back h9
  refine ⟨?_, ⟨by show k.toNat ≤ 255; omega, c6, c7⟩⟩
  have hk : ((k.toNat : Nat) : Int) = k := by omega
  unfold headT
  simp only [hk, c5]
  rw [b1, b2, b3, b4, b5, b6, b7, b8, b9]
  simp
theorem rd_back : ∀ (f : Nat), (∀ (deep many : Nat) (s : List UInt8) (t : DT) (r : List UInt8) (m : Nat), rdM f deep many s = .ok t r m → s = textD t ++ r ∧ OkDT t) ∧
    (∀ (deep many : Nat) (s : List UInt8) (l : List DT) (r : List UInt8) (m : Nat), rdK f deep many s = .ok l r m → s = textDL l ++ (41 :: r) ∧ OkDTL l)
  | 0 => ⟨fun _ _ _ _ _ _ h => by simp [rdM] at h, fun _ _ _ _ _ _ h => by simp [rdK] at h⟩
  | f + 1 => by
    obtain ⟨ih1, ih2⟩ := rd_back f
    refine ⟨fun deep many s t r m h => ?_, fun deep many s l r m h => ?_⟩
    · rw [rdM] at h
      split at h
      · cases h
      · rename_i s1 h1
        split at h
        · cases h
        · split at h
          · cases h
          · split at h
            · cases h
            · rename_i d s2 h2
              split at h
              · cases h
              · rename_i ks r' m' h3
                injection h with e1 e2 e3
                subst e1 e2 e3
                obtain ⟨b1, c1⟩ := hd_back h2
                obtain ⟨b2, c2⟩ := ih2 _ _ _ _ _ _ h3
                refine ⟨?_, by rw [OkDT]; exact ⟨c1, c2⟩⟩
                rw [tkb_back h1, b1, b2, textD]
                simp
    · rw [rdK] at h
      split at h
      · rename_i s1 h1
        split at h
        · cases h
        · rename_i t r1 m1 h2
          split at h
          · cases h
          · rename_i ks r2 m2 h3
            injection h with e1 e2 e3
            subst e1 e2 e3
            obtain ⟨b1, c1⟩ := ih1 _ _ _ _ _ _ h2
            obtain ⟨b2, c2⟩ := ih2 _ _ _ _ _ _ h3
            refine ⟨?_, by rw [OkDTL]; exact ⟨c1, c2⟩⟩
            rw [tkb_back h1, b1, b2, textDL]
            simp
      · split at h
        · rename_i s1 h1
          injection h with e1 e2 e3
          subst e1 e2 e3
          refine ⟨?_, by rw [OkDTL]; trivial⟩
          rw [tkb_back h1, textDL]
          simp
        · cases h
/-- What was read is written as it was. -/
theorem read_back {s : List UInt8} {t : DT} {r : List UInt8} {m : Nat} (h : readM s = .ok t r m) : s = textD t ∧ OkDT t := by
  unfold readM at h
  split at h
  · cases h
  · rename_i t' m' h1
    injection h with e1 e2 e3
    subst e1
    obtain ⟨b, c⟩ := (rd_back _).1 _ _ _ _ _ _ h1
    exact ⟨by rw [b]; simp, c⟩
  · cases h
mutual
theorem cnt_text : ∀ t : Tr, t.cnt ≤ (textT t).length
  | .node p d ks => by
    have := cnt_textL ks
    simp only [Tr.cnt, textT, List.length_append, List.length_cons, List.length_nil]
    omega
theorem cnt_textL : ∀ l : List Tr, cntL l ≤ (textTL l).length
  | [] => by simp [cntL]
  | t :: r => by
    have h1 := cnt_text t
    have h2 := cnt_textL r
    simp only [cntL, textTL, List.length_cons, List.length_append]
    omega
end
end Go.Proofs.YtbfclibjnanlgaaGreatDoor
