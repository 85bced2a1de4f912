/- Several texts in one. -/
import Derived.Test.YtbfclibjnanlgaaGreatDoorTrM
import Derived.Deep.RegionHeld3
import Derived.Lib.AtoiErrMem
import Derived.Test.YtbfclibjnanlgaaGreatDoorPpC
import Derived.Test.YtbfclibjnanlgaaGreatDoorTrW
import Derived.Test.YtbfclibjnanlgaaGreatDoorGrB
import Derived.Test.YtbfclibjnanlgaaGreatDoorRdP
import Derived.Deep.AppendLies
import Derived.RegionTactic
import Derived.Deep.RegionHeldLaw
/- The document's Same of layer 5, walked. -/
namespace Go.Proofs.YtbfclibjnanlgaaGreatDoor
open Go.RowKit
set_option maxHeartbeats 4000000
set_option maxRecDepth 100000
set_option linter.unusedVariables false
set_option linter.unusedSimpArgs false

theorem allS_mem {L : List (Tr × Tr)} {x : Tr × Tr} (h : x ∈ L) (hx : sameT x.1 x.2 = false) : allS L = false := by
  rw [allS, List.all_eq_false]
  exact ⟨x, h, by rw [hx]; decide⟩
theorem rSame_any : ∀ (n : Nat) (t u : Tr) (w : World) {P Q : Nat → Prop}, t.cnt ≤ n → IsT w P t → IsT w Q u →
    Calls Tryz.prog 22 #[ptrV t.p, ptrV u.p] w fun e w' => e = .returned (.bool (sameT t u)) ∧ Below w.heap.size w w' := by
  intro n
  induction n with
  | zero => intro t u w P Q hn; have := cnt_pos t; omega
  | succ n ih =>
  intro t u w P Q hn hT hU
  have HIH := Lib.hid ih
  clear ih
  obtain ⟨qa, ca, ha, hra⟩ := ist_node hT
  obtain ⟨qb, cb, hb, hrb⟩ := ist_node hU
  have hkT : ∀ k ∈ t.ks, IsT w P k := by cases t; exact fun k hk => hT.2.2.at k hk
  have hkU : ∀ k ∈ u.ks, IsT w Q k := by cases u; exact fun k hk => hU.2.2.at k hk
  have hcnt : ∀ k ∈ t.ks, k.cnt ≤ n := fun k hk => by
    have h1 := cnt_leL k t.ks hk
    have h2 := cnt_ks t
    omega
  have hP : NodeAt w t.p t.d (.slice qa t.ks.length ca) := ⟨ha⟩
  have hQ : NodeAt w u.p u.d (.slice qb u.ks.length cb) := ⟨hb⟩
  have p0 := hP.c0
  have p2 := hP.c2
  have p3 := hP.c3
  have p4 := hP.c4
  have q0 := hQ.c0
  have q2 := hQ.c2
  have q3 := hQ.c3
  have q4 := hQ.c4
  have ex : (⟨t.d.x.toArray⟩ : ByteArray).toList = t.d.x := by rw [ByteArray.toList_eq]
  have ey : (⟨u.d.x.toArray⟩ : ByteArray).toList = u.d.x := by rw [ByteArray.toList_eq]
  have hml : t.ks.length ≤ 9223372036854775807 := by have := Row.len_le hra; rwa [List.length_map] at this
  have HEQ := Lib.hid (sameT_eq t u)
  have HKS := Lib.hid (And.intro hra (And.intro hrb (And.intro hkT (And.intro hkU hcnt))))
  clear hP hQ ha hb hT hU hra hrb hkT hkU hcnt hn
  simp only [ptrV]
  generalize hres : sameT t u = res at *
  clear hres
  obtain ⟨m, hm⟩ : ∃ m, t.ks.length = m := ⟨_, rfl⟩
  obtain ⟨m2, hm2⟩ : ∃ m2, u.ks.length = m2 := ⟨_, rfl⟩
  rw [hm] at p4 hml
  rw [hm2] at q4
  by_cases h1 : t.d.k = u.d.k
  · have b1 : ((t.d.k : Int) == (u.d.k : Int)) = true := by simp [h1]
    have n1 : ((t.d.k : Int) != (u.d.k : Int)) = false := by rw [bne, b1]; rfl
    by_cases h2 : t.d.x = u.d.x
    · have b2 : ((⟨t.d.x.toArray⟩ : ByteArray).toList == (⟨u.d.x.toArray⟩ : ByteArray).toList) = true := by rw [ex, ey]; simp [h2]
      have n2 : ((⟨t.d.x.toArray⟩ : ByteArray).toList != (⟨u.d.x.toArray⟩ : ByteArray).toList) = false := by rw [bne, b2]; rfl
      by_cases h3 : t.d.n = u.d.n
      · have b3 : (t.d.n == u.d.n) = true := by simp [h3]
        have n3 : (t.d.n != u.d.n) = false := by rw [bne, b3]; rfl
        by_cases h4 : m = m2
        · have b4 : ((m : Int) == (m2 : Int)) = true := by simp [h4]
          have n4 : ((m : Int) != (m2 : Int)) = false := by rw [bne, b4]; rfl
          subst h4
          have HAL : Hid (alikeD t.d u.d t.ks.length u.ks.length = true) := Lib.hid (by unfold alikeD; rw [hm, hm2]; simp [h1, h2, h3])
          have HMM := Lib.hid (And.intro hm hm2)
          clear ex ey h1 h2 h3 hm hm2
          generalize (t.d.k : Int) = dk at *
          generalize (u.d.k : Int) = ek at *
          generalize (⟨t.d.x.toArray⟩ : ByteArray) = dx at *
          generalize (⟨u.d.x.toArray⟩ : ByteArray) = exx at *
          generalize t.d.n = dn at *
          generalize u.d.n = en at *
          go_enter Tryz.func22, Tryz.ntmps22
          go_wp2_with fail
          go_quiet (fail)
          go_wp2_with fail
          go_loopw [5] (fun i wr => ∃ j : Nat, j ≤ m ∧ i = .int .i64 j ∧ Below w.heap.size w wr ∧ allS ((t.ks.zip u.ks).take j) = true) (fun i _ => m - (intOf i).toNat)
          case atStart => exact ⟨0, Nat.zero_le _, rfl, (Fr.drewN w _).below _ (by simp) (Nat.le_refl _), by simp [allS]⟩
          case round =>
            obtain ⟨j, hj, rfl, hB, hall⟩ := hrel
            have pp4 := (hB.cell (Lib.lt_of_cell p4)).trans p4
            have qq4 := (hB.cell (Lib.lt_of_cell q4)).trans q4
            by_cases hjm : j < m
            · obtain ⟨r1, r2, r3, r4, r5⟩ := HKS.out
              obtain ⟨z1, z2⟩ := HMM.out
              obtain ⟨k, hk⟩ : ∃ k, t.ks[j]? = some k := ⟨_, List.getElem?_eq_getElem (by omega)⟩
              obtain ⟨l, hl⟩ : ∃ l, u.ks[j]? = some l := ⟨_, List.getElem?_eq_getElem (by omega)⟩
              have hz : (t.ks.zip u.ks)[j]? = some (k, l) := by rw [List.getElem?_zip_eq_some]; exact ⟨hk, hl⟩
              obtain ⟨ga, cpa, hva, cK⟩ := Row.cell r1 j k.p (by rw [List.getElem?_map, hk]; rfl)
              obtain ⟨gb, cpb, hvb, cL⟩ := Row.cell r2 j l.p (by rw [List.getElem?_map, hl]; rfl)
              have hqa : qa = some ⟨ga, 0, none⟩ := by injection hva
              have hqb : qb = some ⟨gb, 0, none⟩ := by injection hvb
              subst hqa; subst hqb
              have cK := (hB.cell (Lib.lt_of_cell cK)).trans cK
              have cL := (hB.cell (Lib.lt_of_cell cL)).trans cL
              simp only [ptrV] at cK cL
              have HR : ∀ w1 : World, (w1.cell? ⟨t.p, 4, none⟩ = some (.slice (some ⟨ga, 0, none⟩) m ca) ∧ w1.cell? ⟨u.p, 4, none⟩ = some (.slice (some ⟨gb, 0, none⟩) m cb) ∧ w1.cell? ⟨ga, j, none⟩ = some (.pointer (some ⟨k.p, 0, none⟩)) ∧ w1.cell? ⟨gb, j, none⟩ = some (.pointer (some ⟨l.p, 0, none⟩)) ∧ Below w.heap.size w w1) →
                  Calls Tryz.prog 22 #[.pointer (some ⟨k.p, 0, none⟩), .pointer (some ⟨l.p, 0, none⟩)] w1 fun e w2 => e = .returned (.bool (sameT k l)) ∧ (w2.cell? ⟨t.p, 4, none⟩ = some (.slice (some ⟨ga, 0, none⟩) m ca) ∧ w2.cell? ⟨u.p, 4, none⟩ = some (.slice (some ⟨gb, 0, none⟩) m cb) ∧ w2.cell? ⟨ga, j, none⟩ = some (.pointer (some ⟨k.p, 0, none⟩)) ∧ w2.cell? ⟨gb, j, none⟩ = some (.pointer (some ⟨l.p, 0, none⟩)) ∧ Below w.heap.size w w2) := fun w1 ⟨s1, s2, s3, s4, s5⟩ => by
                refine (HIH.out k l w1 (r5 k (List.mem_of_getElem? hk)) ((r3 k (List.mem_of_getElem? hk)).below s5) ((r4 l (List.mem_of_getElem? hl)).below s5)).mono ?_
                rintro e w2 ⟨rfl, B⟩
                exact ⟨rfl, (B.cell (Lib.lt_of_cell s1)).trans s1, (B.cell (Lib.lt_of_cell s2)).trans s2, (B.cell (Lib.lt_of_cell s3)).trans s3, (B.cell (Lib.lt_of_cell s4)).trans s4, s5.trans (B.mono s5.size)⟩
              have htk : (t.ks.zip u.ks).take (j + 1) = (t.ks.zip u.ks).take j ++ [(k, l)] := by rw [List.take_add_one, hz]; rfl
              have HTK := Lib.hid (And.intro htk (And.intro (List.mem_of_getElem? hz) hall))
              have hj0 : (0 : Int) ≤ (j : Int) := by omega
              have hj1 : (j : Int) < (m : Int) := by omega
              clear hk hl hz hva hvb r1 r2 r3 r4 r5 z1 z2 htk hall
              obtain ⟨sk, hsk⟩ : ∃ sk, sameT k l = sk := ⟨_, rfl⟩
              have HSK := Lib.hid hsk
              rw [hsk] at HR
              clear hsk
              go_wp2_with fail
              go_region_held3 (fun w' => w'.cell? ⟨t.p, 4, none⟩ = some (.slice (some ⟨ga, 0, none⟩) m ca) ∧ w'.cell? ⟨u.p, 4, none⟩ = some (.slice (some ⟨gb, 0, none⟩) m cb) ∧ w'.cell? ⟨ga, j, none⟩ = some (.pointer (some ⟨k.p, 0, none⟩)) ∧ w'.cell? ⟨gb, j, none⟩ = some (.pointer (some ⟨l.p, 0, none⟩)) ∧ Below w.heap.size w w')
                (first | assumption | (exact ⟨pp4, qq4, cK, cL, hB⟩) | (exact ⟨pp4, qq4, cK, cL, hB.drew⟩) | (exact ⟨hS.1, hS.2.1, hS.2.2.1, hS.2.2.2.1, hS.2.2.2.2.drew⟩))
                (first | (go_at_call 22; refine (HR _ (by assumption)).mono ?_; rintro e w9 ⟨rfl, hS⟩))
              have HB9 := Lib.hid hS.2.2.2.2
              clear HR hS pp4 qq4 cK cL
              cases sk
              · go_wp2_with fail
                go_ret
                refine ⟨?_, HB9.out⟩
                rw [HEQ.out, allS_mem HTK.out.2.1 HSK.out, Bool.and_false]; rfl
              · go_wp2_with fail
                go_roundw
                case rel => exact ⟨j + 1, by omega, by simp, HB9.out, by rw [HTK.out.1, allS_app, HTK.out.2.2]; simp [allS, HSK.out]⟩
                case measure => simp [intOf]; omega
            · obtain rfl : j = m := by omega
              have HB := Lib.hid hB
              have hfin : Hid (res = true) := Lib.hid (by
                obtain ⟨z1, z2⟩ := HMM.out
                rw [List.take_of_length_le (by rw [List.length_zip]; omega)] at hall
                rw [HEQ.out, HAL.out, hall]; rfl)
              clear hB hall
              go_wp2_with fail
              go_ret
              exact ⟨by rw [hfin.out]; rfl, HB.out⟩
        · have b4 : ((m : Int) == (m2 : Int)) = false := beq_eq_false_iff_ne.2 (fun h => h4 (by omega))
          have n4 : ((m : Int) != (m2 : Int)) = true := by rw [bne, b4]; rfl
          have HF : Hid (res = false) := Lib.hid (by rw [HEQ.out]; unfold alikeD; rw [hm, hm2]; simp [h1, h2, h3, h4])
          clear ex ey hm hm2 h1 h2 h3 h4
          generalize (t.d.k : Int) = dk at *
          generalize (u.d.k : Int) = ek at *
          generalize (⟨t.d.x.toArray⟩ : ByteArray) = dx at *
          generalize (⟨u.d.x.toArray⟩ : ByteArray) = exx at *
          generalize t.d.n = dn at *
          generalize u.d.n = en at *
          go_enter Tryz.func22, Tryz.ntmps22
          go_wp2_with fail
          go_quiet (fail)
          go_wp2_with fail
          go_ret
          exact ⟨by rw [HF.out]; rfl, (Fr.drewN w _).below _ (by simp) (Nat.le_refl _)⟩
      · have b3 : (t.d.n == u.d.n) = false := beq_eq_false_iff_ne.2 h3
        have n3 : (t.d.n != u.d.n) = true := by rw [bne, b3]; rfl
        have HF : Hid (res = false) := Lib.hid (by rw [HEQ.out]; unfold alikeD; rw [hm, hm2]; simp [h1, h2, h3])
        clear ex ey hm hm2 h1 h2 h3
        generalize (t.d.k : Int) = dk at *
        generalize (u.d.k : Int) = ek at *
        generalize (⟨t.d.x.toArray⟩ : ByteArray) = dx at *
        generalize (⟨u.d.x.toArray⟩ : ByteArray) = exx at *
        generalize t.d.n = dn at *
        generalize u.d.n = en at *
        go_enter Tryz.func22, Tryz.ntmps22
        go_wp2_with fail
        go_quiet (fail)
        go_wp2_with fail
        go_ret
        exact ⟨by rw [HF.out]; rfl, (Fr.drewN w _).below _ (by simp) (Nat.le_refl _)⟩
    · have b2 : ((⟨t.d.x.toArray⟩ : ByteArray).toList == (⟨u.d.x.toArray⟩ : ByteArray).toList) = false := by rw [ex, ey]; exact beq_eq_false_iff_ne.2 h2
      have n2 : ((⟨t.d.x.toArray⟩ : ByteArray).toList != (⟨u.d.x.toArray⟩ : ByteArray).toList) = true := by rw [bne, b2]; rfl
      have HF : Hid (res = false) := Lib.hid (by rw [HEQ.out]; unfold alikeD; rw [hm, hm2]; simp [h1, h2])
      clear ex ey hm hm2 h1 h2
      generalize (t.d.k : Int) = dk at *
      generalize (u.d.k : Int) = ek at *
      generalize (⟨t.d.x.toArray⟩ : ByteArray) = dx at *
      generalize (⟨u.d.x.toArray⟩ : ByteArray) = exx at *
      generalize t.d.n = dn at *
      generalize u.d.n = en at *
      go_enter Tryz.func22, Tryz.ntmps22
      go_wp2_with fail
      go_quiet (fail)
      go_wp2_with fail
      go_ret
      exact ⟨by rw [HF.out]; rfl, (Fr.drewN w _).below _ (by simp) (Nat.le_refl _)⟩
  · have b1 : ((t.d.k : Int) == (u.d.k : Int)) = false := beq_eq_false_iff_ne.2 (fun h => h1 (by omega))
    have n1 : ((t.d.k : Int) != (u.d.k : Int)) = true := by rw [bne, b1]; rfl
    have HF : Hid (res = false) := Lib.hid (by rw [HEQ.out]; unfold alikeD; rw [hm, hm2]; simp [h1])
    clear ex ey hm hm2 h1
    generalize (t.d.k : Int) = dk at *
    generalize (u.d.k : Int) = ek at *
    generalize (⟨t.d.x.toArray⟩ : ByteArray) = dx at *
    generalize (⟨u.d.x.toArray⟩ : ByteArray) = exx at *
    generalize t.d.n = dn at *
    generalize u.d.n = en at *
    go_enter Tryz.func22, Tryz.ntmps22
    go_wp2_with fail
    go_quiet (fail)
    go_wp2_with fail
    go_ret
    exact ⟨by rw [HF.out]; rfl, (Fr.drewN w _).below _ (by simp) (Nat.le_refl _)⟩
end Go.Proofs.YtbfclibjnanlgaaGreatDoor
/- The document's Exact of layer 5, walked, where two trees are the same with all places. -/
namespace Go.Proofs.YtbfclibjnanlgaaGreatDoor
open Go.RowKit
set_option maxHeartbeats 4000000
set_option maxRecDepth 100000
set_option linter.unusedVariables false
set_option linter.unusedSimpArgs false

theorem neq_self {P : Program} (l c : Int) (t : TypeId) (w : World) : (binOp .neq t (posV l c) (posV l c)).run P w = .ok (.bool false) w := by
  have h := eql_pos (P := P) l c l c t w
  have hp : pEq l c l c = true := by unfold pEq; simp
  rw [hp] at h
  obtain ⟨l', c', a1, a2, a3, a4, a5, _, a7⟩ := posV_as l c
  rw [a5] at h ⊢
  rw [run_eql_complex] at h
  rw [run_neq_complex]
  injection h with h1 _
  injection h1 with h2
  rw [h2]; rfl
/-- What two nodes have is the same, with the places. -/
def SimD (d e : ND) : Prop := d.k = e.k ∧ d.x = e.x ∧ d.n = e.n ∧ posV d.l d.c = posV e.l e.c
mutual
def SimT : Tr → Tr → Prop
  | .node _ d ks, .node _ e ls => SimD d e ∧ SimTL ks ls
def SimTL : List Tr → List Tr → Prop
  | [], [] => True
  | t :: r, u :: s => SimT t u ∧ SimTL r s
  | [], _ :: _ => False
  | _ :: _, [] => False
end
theorem simTL_len : ∀ {ks ls : List Tr}, SimTL ks ls → ks.length = ls.length
  | [], [], _ => rfl
  | _ :: _, _ :: _, h => by simp [simTL_len h.2]
  | [], _ :: _, h => h.elim
  | _ :: _, [], h => h.elim
theorem simTL_at : ∀ {ks ls : List Tr}, SimTL ks ls → ∀ (j : Nat) (k l : Tr), ks[j]? = some k → ls[j]? = some l → SimT k l
  | [], [], _, j, k, l, h1, _ => by simp at h1
  | t :: r, u :: s, h, 0, k, l, h1, h2 => by
    simp at h1 h2
    rw [← h1, ← h2]; exact h.1
  | t :: r, u :: s, h, j + 1, k, l, h1, h2 => simTL_at h.2 j k l (by simpa using h1) (by simpa using h2)
  | [], _ :: _, h, _, _, _, _, _ => h.elim
  | _ :: _, [], h, _, _, _, _, _ => h.elim
theorem simT_parts {t u : Tr} (h : SimT t u) : SimD t.d u.d ∧ SimTL t.ks u.ks := by cases t; cases u; exact h
mutual
theorem sim_same : ∀ t u : Tr, SimT t u → sameT t u = true
  | .node p d ks, .node q e ls, h => by
    obtain ⟨⟨h1, h2, h3, _⟩, h4⟩ := h
    rw [sameT, sim_sameL ks ls h4, ← simTL_len h4]
    simp [alikeD, h1, h2, h3]
theorem sim_sameL : ∀ ks ls : List Tr, SimTL ks ls → sameTL ks ls = true
  | [], _, _ => by simp [sameTL]
  | _ :: _, [], h => h.elim
  | t :: r, u :: s, h => by rw [sameTL, sim_same t u h.1, sim_sameL r s h.2]; rfl
end
mutual
theorem sim_dt : ∀ t u : Tr, u.dt = t.dt → SimT t u
  | .node p d ks, .node q e ls, h => by
    simp only [Tr.dt] at h
    injection h with h1 h2
    exact ⟨by rw [h1]; exact ⟨rfl, rfl, rfl, rfl⟩, sim_dtL ks ls h2⟩
theorem sim_dtL : ∀ ks ls : List Tr, dtL ls = dtL ks → SimTL ks ls
  | [], [], _ => trivial
  | [], _ :: _, h => by simp [dtL] at h
  | _ :: _, [], h => by simp [dtL] at h
  | t :: r, u :: s, h => by
    simp only [dtL] at h
    injection h with h1 h2
    exact ⟨sim_dt t u h1, sim_dtL r s h2⟩
end
theorem rExact_any : ∀ (n : Nat) (t u : Tr) (w : World) {P Q : Nat → Prop}, t.cnt ≤ n → IsT w P t → IsT w Q u → SimT t u →
    Calls Tryz.prog 9 #[ptrV t.p, ptrV u.p] w fun e w' => e = .returned (.bool true) ∧ Below w.heap.size w w' := by
  intro n
  induction n with
  | zero => intro t u w P Q hn; have := cnt_pos t; omega
  | succ n ih =>
  intro t u w P Q hn hT hU hS
  have HSM := rSame_any (n + 1) t u w hn hT hU
  rw [sim_same t u hS] at HSM
  obtain ⟨⟨_, _, _, hpos⟩, hks⟩ := simT_parts hS
  have HIH := Lib.hid ih
  clear ih
  obtain ⟨qa, ca, ha, hra⟩ := ist_node hT
  obtain ⟨qb, cb, hb, hrb⟩ := ist_node hU
  have hkT : ∀ k ∈ t.ks, IsT w P k := by cases t; exact fun k hk => hT.2.2.at k hk
  have hkU : ∀ k ∈ u.ks, IsT w Q k := by cases u; exact fun k hk => hU.2.2.at k hk
  have hcnt : ∀ k ∈ t.ks, k.cnt ≤ n := fun k hk => by
    have h1 := cnt_leL k t.ks hk
    have h2 := cnt_ks t
    omega
  have hP : NodeAt w t.p t.d (.slice qa t.ks.length ca) := ⟨ha⟩
  have hQ : NodeAt w u.p u.d (.slice qb u.ks.length cb) := ⟨hb⟩
  have p1 := hP.c1
  have p4 := hP.c4
  have q1 := hQ.c1
  have q4 := hQ.c4
  have hml : t.ks.length ≤ 9223372036854775807 := by have := Row.len_le hra; rwa [List.length_map] at this
  have hqq := fun T w => neq_self (P := Tryz.prog) t.d.l t.d.c T w
  rw [← hpos] at q1
  obtain ⟨px, py, hpx⟩ := posV_cx t.d.l t.d.c
  rw [hpx] at p1 q1 hqq
  have HKS := Lib.hid (And.intro hra (And.intro hrb (And.intro hkT (And.intro hkU (And.intro hcnt hks)))))
  have HLN := Lib.hid (simTL_len hks)
  rw [← simTL_len hks] at q4
  clear hP hQ ha hb hT hU hra hrb hkT hkU hcnt hn hS hpos hks hpx
  obtain ⟨m, hm⟩ : ∃ m, t.ks.length = m := ⟨_, rfl⟩
  rw [hm] at p4 q4 hml
  have HMM := Lib.hid hm
  clear hm
  simp only [ptrV] at HSM ⊢
  go_enter Tryz.func9, Tryz.ntmps9
  go_wp2_with fail
  refine HSM.mono ?_
  rintro e w1 ⟨rfl, B1⟩
  have pp1 := (B1.cell (Lib.lt_of_cell p1)).trans p1
  have qq1 := (B1.cell (Lib.lt_of_cell q1)).trans q1
  have HB1 := Lib.hid B1
  clear HSM B1
  go_wp2_with fail
  go_quiet (fail)
  clear pp1 qq1 p1 q1
  go_wp2_with fail
  go_loopw [5] (fun i wr => ∃ j : Nat, j ≤ m ∧ i = .int .i64 j ∧ Below w.heap.size w wr) (fun i _ => m - (intOf i).toNat)
  case atStart => exact ⟨0, Nat.zero_le _, rfl, HB1.out.trans ((Fr.drewN w1 _).below _ (by simp) HB1.out.size)⟩
  case round =>
    obtain ⟨j, hj, rfl, hB⟩ := hrel
    have pp4 := (hB.cell (Lib.lt_of_cell p4)).trans p4
    have qq4 := (hB.cell (Lib.lt_of_cell q4)).trans q4
    by_cases hjm : j < m
    · obtain ⟨r1, r2, r3, r4, r5, r6⟩ := HKS.out
      have z1 := HMM.out
      have z2 := HLN.out
      obtain ⟨k, hk⟩ : ∃ k, t.ks[j]? = some k := ⟨_, List.getElem?_eq_getElem (by omega)⟩
      obtain ⟨l, hl⟩ : ∃ l, u.ks[j]? = some l := ⟨_, List.getElem?_eq_getElem (by omega)⟩
      have hsk := simTL_at r6 j k l hk hl
      obtain ⟨ga, cpa, hva, cK⟩ := Row.cell r1 j k.p (by rw [List.getElem?_map, hk]; rfl)
      obtain ⟨gb, cpb, hvb, cL⟩ := Row.cell r2 j l.p (by rw [List.getElem?_map, hl]; rfl)
      have hqa : qa = some ⟨ga, 0, none⟩ := by injection hva
      have hqb : qb = some ⟨gb, 0, none⟩ := by injection hvb
      subst hqa; subst hqb
      have cK := (hB.cell (Lib.lt_of_cell cK)).trans cK
      have cL := (hB.cell (Lib.lt_of_cell cL)).trans cL
      simp only [ptrV] at cK cL
      have HR : ∀ w1 : World, (w1.cell? ⟨t.p, 4, none⟩ = some (.slice (some ⟨ga, 0, none⟩) m ca) ∧ w1.cell? ⟨u.p, 4, none⟩ = some (.slice (some ⟨gb, 0, none⟩) m cb) ∧ w1.cell? ⟨ga, j, none⟩ = some (.pointer (some ⟨k.p, 0, none⟩)) ∧ w1.cell? ⟨gb, j, none⟩ = some (.pointer (some ⟨l.p, 0, none⟩)) ∧ Below w.heap.size w w1) →
          Calls Tryz.prog 9 #[.pointer (some ⟨k.p, 0, none⟩), .pointer (some ⟨l.p, 0, none⟩)] w1 fun e w2 => e = .returned (.bool true) ∧ (w2.cell? ⟨t.p, 4, none⟩ = some (.slice (some ⟨ga, 0, none⟩) m ca) ∧ w2.cell? ⟨u.p, 4, none⟩ = some (.slice (some ⟨gb, 0, none⟩) m cb) ∧ w2.cell? ⟨ga, j, none⟩ = some (.pointer (some ⟨k.p, 0, none⟩)) ∧ w2.cell? ⟨gb, j, none⟩ = some (.pointer (some ⟨l.p, 0, none⟩)) ∧ Below w.heap.size w w2) := fun w1 ⟨s1, s2, s3, s4, s5⟩ => by
        refine (HIH.out k l w1 (r5 k (List.mem_of_getElem? hk)) ((r3 k (List.mem_of_getElem? hk)).below s5) ((r4 l (List.mem_of_getElem? hl)).below s5) hsk).mono ?_
        rintro e w2 ⟨rfl, B⟩
        exact ⟨rfl, (B.cell (Lib.lt_of_cell s1)).trans s1, (B.cell (Lib.lt_of_cell s2)).trans s2, (B.cell (Lib.lt_of_cell s3)).trans s3, (B.cell (Lib.lt_of_cell s4)).trans s4, s5.trans (B.mono s5.size)⟩
      have hj0 : (0 : Int) ≤ (j : Int) := by omega
      have hj1 : (j : Int) < (m : Int) := by omega
      clear hk hl hva hvb r1 r2 r3 r4 r5 r6 z1 z2 hsk
      go_wp2_with fail
      go_region_held3 (fun w' => w'.cell? ⟨t.p, 4, none⟩ = some (.slice (some ⟨ga, 0, none⟩) m ca) ∧ w'.cell? ⟨u.p, 4, none⟩ = some (.slice (some ⟨gb, 0, none⟩) m cb) ∧ w'.cell? ⟨ga, j, none⟩ = some (.pointer (some ⟨k.p, 0, none⟩)) ∧ w'.cell? ⟨gb, j, none⟩ = some (.pointer (some ⟨l.p, 0, none⟩)) ∧ Below w.heap.size w w')
        (first | assumption | (exact ⟨pp4, qq4, cK, cL, hB⟩) | (exact ⟨pp4, qq4, cK, cL, hB.drew⟩) | (exact ⟨hS.1, hS.2.1, hS.2.2.1, hS.2.2.2.1, hS.2.2.2.2.drew⟩))
        (first | (go_at_call 9; refine (HR _ (by assumption)).mono ?_; rintro e w9 ⟨rfl, hS⟩))
      have HB9 := Lib.hid hS.2.2.2.2
      clear HR hS pp4 qq4 cK cL
      go_wp2_with fail
      go_roundw
      case rel => exact ⟨j + 1, by omega, by simp, HB9.out⟩
      case measure => simp [intOf]; omega
    · obtain rfl : j = m := by omega
      have HB := Lib.hid hB
      clear hB
      go_wp2_with fail
      go_ret
      exact ⟨rfl, HB.out⟩
end Go.Proofs.YtbfclibjnanlgaaGreatDoor
/- The document's Copy of layer 5, walked. -/
namespace Go.Proofs.YtbfclibjnanlgaaGreatDoor
open Go.RowKit
set_option maxHeartbeats 4000000
set_option maxRecDepth 100000
set_option linter.unusedVariables false
set_option linter.unusedSimpArgs false

theorem dtL_snoc (l : List Tr) (t : Tr) : dtL (l ++ [t]) = dtL l ++ [t.dt] := by rw [dtL_app]; rfl
theorem dtL_map : ∀ l : List Tr, dtL l = l.map Tr.dt
  | [] => rfl
  | t :: r => by simp [dtL, dtL_map r]
theorem KI.tree {w wr : World} {pn : Nat} {d : ND} {v : Value} {ts : List Tr} (h : KI w pn d wr v ts) : IsT wr (w.heap.size ≤ ·) (.node pn d ts) ∧ (Tr.node pn d ts).nodes.Nodup :=
  ⟨⟨h.p, ⟨v, h.n, h.r⟩, h.k.keep (fun j hj _ => hj.1) (fun _ _ _ => rfl)⟩, by
    simp only [Tr.nodes, List.nodup_cons]
    exact ⟨fun hm => (IsTL.lt h.k pn hm).2.2.1 rfl, h.nd⟩⟩
theorem ist_node2 {w : World} {P : Nat → Prop} {t : Tr} (h : IsT w P t) : ∃ q cap, w.heap[t.p]? = some (nodeO t.d (.slice q t.ks.length cap)) ∧ Row w P (.slice q t.ks.length cap) (t.ks.map Tr.p) := by
  cases t
  obtain ⟨_, ⟨v, h2, h3⟩, _⟩ := h
  obtain ⟨q, cap, rfl⟩ := h3.form
  rw [List.length_map] at h2 h3
  exact ⟨q, cap, h2, h3⟩
theorem rCopy_any : ∀ (n : Nat) (t : Tr) (w : World) {P : Nat → Prop}, t.cnt ≤ n → t.cnt ≤ 1048576 → IsT w P t →
    Calls Tryz.prog 8 #[ptrV t.p] w fun e w' => ∃ u : Tr, e = .returned (ptrV u.p) ∧ Below w.heap.size w w' ∧ IsT w' (w.heap.size ≤ ·) u ∧ u.nodes.Nodup ∧ u.dt = t.dt := by
  intro n
  induction n with
  | zero => intro t w P hn; have := cnt_pos t; omega
  | succ n ih =>
  intro t w P hn hcb hT
  have HIH := Lib.hid ih
  clear ih
  obtain ⟨i0, hi, hz0, hz1, hz2⟩ := info_parts infoP
  obtain ⟨qa, ca, ha, hra⟩ := ist_node2 hT
  have hkT : ∀ k ∈ t.ks, IsT w P k := by cases t; exact fun k hk => hT.2.2.at k hk
  have hcnt : ∀ k ∈ t.ks, k.cnt ≤ n ∧ k.cnt ≤ 1048576 := fun k hk => by
    have h1 := cnt_leL k t.ks hk
    have h2 := cnt_ks t
    omega
  have hml : t.ks.length ≤ 1048576 := by
    have h1 := kslen_le t.ks
    have h2 := cnt_ks t
    omega
  have hA : NodeAt w t.p t.d (.slice qa t.ks.length ca) := ⟨ha⟩
  have p0 := hA.c0
  have p1 := hA.c1
  have p2 := hA.c2
  have p3 := hA.c3
  have p4 := hA.c4
  obtain ⟨px, py, hpx⟩ := posV_cx t.d.l t.d.c
  have HND : Hid (∀ v, nodeO t.d v = .cells #[.int .u8 t.d.k, .complex .f64 px py, .string ⟨t.d.x.toArray⟩, .int .i64 t.d.n, v] 44 (0, 0)) := Lib.hid (fun v => by unfold nodeO; rw [hpx])
  have HDT := Lib.hid (show t.dt = .node t.d (dtL t.ks) by cases t; rfl)
  rw [hpx] at p1
  have hltp : t.p < w.heap.size := lt_heap ha
  have HKS := Lib.hid (And.intro hra (And.intro hkT (And.intro hcnt hltp)))
  obtain ⟨m, hm⟩ : ∃ m, t.ks.length = m := ⟨_, rfl⟩
  rw [hm] at p4 hml
  have HMM := Lib.hid hm
  clear hA ha hra hkT hcnt hT hpx hn hcb hm
  generalize hdx : (⟨t.d.x.toArray⟩ : ByteArray) = dx at *
  generalize hdk : (t.d.k : Int) = dk at *
  generalize hdn : t.d.n = dn at *
  clear hdx hdk hdn
  have hWn : ((w.alloc (.cells #[.int .u8 dk, .complex .f64 px py, .string dx, .int .i64 dn, .slice none 0 0] 44)).drew).heap[w.heap.size]? = some (nodeO t.d (.slice none 0 0)) := by
    rw [HND.out]
    exact heap_alloc_new w _
  have HKI : Hid (KI w w.heap.size t.d ((w.alloc (.cells #[.int .u8 dk, .complex .f64 px py, .string dx, .int .i64 dn, .slice none 0 0] 44)).drew) (.slice none 0 0) []) :=
    Lib.hid ⟨(below_new w _).drew, hWn, ⟨World.ownsRow_nil _ _ _ _, fun g hg => (by cases hg)⟩, trivial, by simp [nodesL], Nat.le_refl _⟩
  clear hWn
  simp only [ptrV]
  go_enter Tryz.func8, Tryz.ntmps8
  go_wp2_with fail
  go_region_held3 (fun w' => w'.cell? ⟨t.p, 0, none⟩ = some (.int .u8 dk) ∧ w'.cell? ⟨t.p, 1, none⟩ = some (.complex .f64 px py) ∧ w'.cell? ⟨t.p, 2, none⟩ = some (.string dx) ∧ w'.cell? ⟨t.p, 3, none⟩ = some (.int .i64 dn))
    (first | assumption | (exact ⟨p0, p1, p2, p3⟩) | go_keep)
    (first | fail)
  clear p0 p1 p2 p3
  generalize hWZ : (w.alloc (.cells #[.int .u8 dk, .complex .f64 px py, .string dx, .int .i64 dn, .slice none 0 0] 44)).drew = wZ at *
  clear hWZ
  go_wp2_with fail
  go_loopw [4] (fun i wr => ∃ (j : Nat) (v : Value) (ts : List Tr), j ≤ m ∧ i = .int .i64 j ∧ KI w w.heap.size t.d wr v ts ∧ ts.map Tr.dt = (t.ks.take j).map Tr.dt) (fun i _ => m - (intOf i).toNat)
  case atStart => exact ⟨0, _, [], Nat.zero_le _, rfl, HKI.out, by simp⟩
  case round =>
    obtain ⟨j, v, ts, hj, rfl, ki, hdt⟩ := hrel
    have pp4 := (ki.b.cell (Lib.lt_of_cell p4)).trans p4
    have hlen : ts.length = j := by
      have := congrArg List.length hdt
      rw [List.length_map, List.length_map, List.length_take, HMM.out] at this
      omega
    have HK := Lib.hid (And.intro ki (And.intro hdt hlen))
    by_cases hjm : j < m
    · obtain ⟨r1, r2, r3, r4⟩ := HKS.out
      have z1 := HMM.out
      obtain ⟨k, hk⟩ : ∃ k, t.ks[j]? = some k := ⟨_, List.getElem?_eq_getElem (by omega)⟩
      obtain ⟨ga, cpa, hva, cK⟩ := Row.cell r1 j k.p (by rw [List.getElem?_map, hk]; rfl)
      have hqa : qa = some ⟨ga, 0, none⟩ := by injection hva
      subst hqa
      have hga : ga < w.heap.size := Lib.lt_of_cell cK
      have cK := (ki.b.cell hga).trans cK
      simp only [ptrV] at cK
      have nn : NodeAt wr w.heap.size t.d v := ⟨ki.n⟩
      have y4 := nn.c4
      have fy4 := nn.f 4
      have hvb : ∀ q ∈ obL v, w.heap.size ≤ q ∧ q ≠ w.heap.size := fun q hq => ⟨(ki.r.base q hq).1, fun e => row_node ki.r ki.n (e ▸ hq)⟩
      have HSS : ∀ w' : World, Fr (obL v) wr w' → (w'.cell? ⟨t.p, 4, none⟩ = some (.slice (some ⟨ga, 0, none⟩) m ca) ∧ w'.cell? ⟨ga, j, none⟩ = some (.pointer (some ⟨k.p, 0, none⟩)) ∧ w'.cell? ⟨w.heap.size, 4, none⟩ = some v ∧ w'.frozen? ⟨w.heap.size, 4, none⟩ = false) := fun w' F => by
        have e1 := F.block t.p (Nat.lt_of_lt_of_le r4 ki.b.size) (fun hm => by have := (hvb _ hm).1; omega)
        have e2 := F.block ga (Nat.lt_of_lt_of_le hga ki.b.size) (fun hm => by have := (hvb _ hm).1; omega)
        have e3 := F.block w.heap.size (lt_heap ki.n) (fun hm => (hvb _ hm).2 rfl)
        refine ⟨(World.cell?_of_block (a := ⟨t.p, 4, none⟩) e1).trans pp4, (World.cell?_of_block (a := ⟨ga, j, none⟩) e2).trans cK, (World.cell?_of_block (a := ⟨w.heap.size, 4, none⟩) e3).trans y4, (World.frozen?_of_block (a := ⟨w.heap.size, 4, none⟩) e3).trans fy4⟩
      have HR : ∀ w1 : World, Fr [] wr w1 → Calls Tryz.prog 8 #[.pointer (some ⟨k.p, 0, none⟩)] w1 fun e w2 => ∃ u : Tr, e = .returned (.pointer (some ⟨u.p, 0, none⟩)) ∧ Fr [] wr w2 ∧ IsT w2 (wr.heap.size ≤ ·) u ∧ u.nodes.Nodup ∧ u.dt = k.dt := fun w1 F1 => by
        refine (HIH.out k w1 (r3 k (List.mem_of_getElem? hk)).1 (r3 k (List.mem_of_getElem? hk)).2 ((r2 k (List.mem_of_getElem? hk)).below (ki.b.trans (F1.below w.heap.size (by simp) ki.b.size)))).mono ?_
        rintro e w2 ⟨u, rfl, B, h1, h2, h3⟩
        exact ⟨u, rfl, F1.trans (Fr.of_below B) (by simp), h1.keep (fun q hq _ => Nat.le_trans F1.size hq) (fun _ _ _ => rfl), h2, h3⟩
      have F0 : Fr [] wr wr.drew := Fr.drew wr
      have hto : ∀ {w'}, Fr [] wr w' → Fr (obL v) wr w' := fun h => h.mono (by simp)
      have hj0 : (0 : Int) ≤ (j : Int) := by omega
      have hj1 : (j : Int) < (m : Int) := by omega
      have hjb : j ≤ 1048576 := by omega
      have hrow : ∀ w', Fr [] wr w' → w'.ownsRow 0 25 1 v j ((ts.map Tr.p).map ptrV) := fun w' F => by
        have h1 := own_keep ki.r.1 F (by simp)
        rw [List.length_map, hlen] at h1
        exact h1
      have HKK := Lib.hid hk
      clear hva r1 r2 r3 r4 z1 nn ki hdt hk
      go_wp2_with fail
      go_region_law (first
          | (refine step_append_lies _ (by rfl) _ _ _ (by rfl) 0 25 i0 _ 1 8 Tryz.underlying42 hi hz0 hz1 hz2 rfl (by omega) v j _ (by rfl) ((hrow _ F9).alloc _) ⟨w9.heap.size, 0, none⟩ 1 1 [.pointer (some ⟨u.p, 0, none⟩)] (by rfl) (by rfl) (new1 w9 (.pointer (some ⟨u.p, 0, none⟩)) 25) (one1 u.p) (by omega) (by unfold maxLen; omega) (by omega) (by simp <;> omega) (w9.heap.size + 1) (by simp) ?_; intro gl capl w6 hown hgrow hat hlt6; obtain ⟨s1, s2, s3, s4⟩ := HSS w6 ((hto (F9.trans (Fr.alloc _ _) (by simp))).trans (Fr.of_grown hgrow) (fun q hq => .inl hq)))
          | (go_simp; go_at_call 8; refine (HR _ F0).mono ?_; rintro e w9 ⟨u, rfl, F9, hu1, hu2, hu3⟩; obtain ⟨t1, t2, t3, t4⟩ := HSS w9 (hto F9); obtain ⟨a1, a2, a3, a4⟩ := HSS (w9.alloc (.cells #[.pointer (some ⟨u.p, 0, none⟩)] 25)) (hto (F9.trans (Fr.alloc _ _) (by simp)))))
      all_goals
        have hst := HK.out.1.on (w6 := w6) (F9.below wr.heap.size (by simp) (Nat.le_refl _)) u hu1 hu2 _ gl capl (by rw [HK.out.2.2]; simpa [ptrV, Function.comp_def] using hown) hgrow hat
        rw [HK.out.2.2] at hst
        have HST := Lib.hid hst
        have HU := Lib.hid hu3
        clear hst hu1 hu2 hu3 F9 hown hgrow hat hlt6 HR HSS hrow F0 t1 t2 t3 t4 s1 s2 s3 s4 a1 a2 a3 a4 y4 fy4 cK pp4 hvb hto
        go_wp2_with fail
        go_roundw
        case rel => exact ⟨j + 1, _, ts ++ [u], by omega, by simp, HST.out, by rw [List.map_append, HK.out.2.1, List.take_add_one, HKK.out, List.map_append]; simp [HU.out]⟩
        case measure => simp [intOf]; omega
    · obtain rfl : j = m := by omega
      go_wp2_with fail
      go_ret
      obtain ⟨k1, k2, k3⟩ := HK.out
      obtain ⟨d1, d2⟩ := k1.tree
      refine ⟨.node w.heap.size t.d ts, rfl, k1.b, d1, d2, ?_⟩
      rw [HDT.out]
      simp only [Tr.dt]
      rw [dtL_map, dtL_map, k2, List.take_of_length_le (by rw [HMM.out]; exact Nat.le_refl _)]
end Go.Proofs.YtbfclibjnanlgaaGreatDoor
