/- The document's Same of layer 5, walked. -/
import Derived.Test.YtldecbaaajmmcaaTrN
import Derived.Deep.RegionHeld3
import Derived.Lib.AtoiErrMem
import Derived.Deep.AppendLies
import Derived.RegionTactic
import Derived.Deep.RegionHeldLaw
namespace Go.Proofs.Ytldecbaaajmmcaa
open Go.RowKit
set_option maxHeartbeats 2000000
set_option maxRecDepth 100000
set_option linter.unusedVariables false
set_option linter.unusedSimpArgs false

def alikeD (d e : ND) (m n : Nat) : Bool := decide (d.k = e.k) && decide (d.x = e.x) && decide (d.n = e.n) && decide (m = n)
theorem cnt_ks (t : Tr) : t.cnt = cntL t.ks + 1 := by cases t; simp only [Tr.cnt, Tr.ks]; omega
mutual
/-- Are two trees the same, but for their places? -/
def sameT : Tr → Tr → Bool
  | .node _ d ks, .node _ e ls => alikeD d e ks.length ls.length && sameTL ks ls
def sameTL : List Tr → List Tr → Bool
  | t :: r, u :: s => sameT t u && sameTL r s
  | [], _ => true
  | _ :: _, [] => true
end
def allS (L : List (Tr × Tr)) : Bool := L.all fun x => sameT x.1 x.2
theorem sameTL_zip : ∀ ks ls : List Tr, sameTL ks ls = allS (ks.zip ls)
  | [], ls => by simp [sameTL, allS]
  | t :: r, [] => by simp [sameTL, allS]
  | t :: r, u :: s => by
    have := sameTL_zip r s
    simp only [allS] at this
    simp [sameTL, allS, this]
theorem allS_app (a b : List (Tr × Tr)) : allS (a ++ b) = (allS a && allS b) := by simp [allS]
theorem sameT_eq (t u : Tr) : sameT t u = (alikeD t.d u.d t.ks.length u.ks.length && allS (t.ks.zip u.ks)) := by
  cases t; cases u
  simp [sameT, sameTL_zip, Tr.d, Tr.ks]
theorem ist_node {w : World} {P : Nat → Prop} {t : Tr} (h : IsT w P t) : ∃ q cap, w.heap[t.p]? = some (nodeO t.d (.slice q t.ks.length cap)) ∧ Row w P (.slice q t.ks.length cap) (t.ks.map Tr.p) := by
  cases t
  obtain ⟨_, ⟨v, h2, h3⟩, _⟩ := h
  obtain ⟨q, cap, rfl⟩ := h3.form
  rw [List.length_map] at h2 h3
  exact ⟨q, cap, h2, h3⟩
theorem allS_mem {L : List (Tr × Tr)} {x : Tr × Tr} (h : x ∈ L) (hx : sameT x.1 x.2 = false) : allS L = false := by
  rw [allS, List.all_eq_false]
  exact ⟨x, h, by rw [hx]; decide⟩
theorem rSame_any : ∀ (n : Nat) (t u : Tr) (w : World) {P Q : Nat → Prop}, t.cnt ≤ n → IsT w P t → IsT w Q u →
    Calls Try.prog 20 #[ptrV t.p, ptrV u.p] w fun e w' => e = .returned (.bool (sameT t u)) ∧ Below w.heap.size w w' := by
  intro n
  induction n with
  | zero => intro t u w P Q hn; have := cnt_pos t; omega
  | succ n ih =>
  intro t u w P Q hn hT hU
  have HIH := Lib.hid ih
  clear ih
  obtain ⟨qa, ca, ha, hra⟩ := ist_node hT
  obtain ⟨qb, cb, hb, hrb⟩ := ist_node hU
  have hkT : ∀ k ∈ t.ks, IsT w P k := by cases t; exact fun k hk => hT.2.2.at k hk
  have hkU : ∀ k ∈ u.ks, IsT w Q k := by cases u; exact fun k hk => hU.2.2.at k hk
  have hcnt : ∀ k ∈ t.ks, k.cnt ≤ n := fun k hk => by
    have h1 := cnt_leL k t.ks hk
    have h2 := cnt_ks t
    omega
  have hP : NodeAt w t.p t.d (.slice qa t.ks.length ca) := ⟨ha⟩
  have hQ : NodeAt w u.p u.d (.slice qb u.ks.length cb) := ⟨hb⟩
  have p0 := hP.c0
  have p2 := hP.c2
  have p3 := hP.c3
  have p4 := hP.c4
  have q0 := hQ.c0
  have q2 := hQ.c2
  have q3 := hQ.c3
  have q4 := hQ.c4
  have ex : (⟨t.d.x.toArray⟩ : ByteArray).toList = t.d.x := by rw [ByteArray.toList_eq]
  have ey : (⟨u.d.x.toArray⟩ : ByteArray).toList = u.d.x := by rw [ByteArray.toList_eq]
  have hml : t.ks.length ≤ 9223372036854775807 := by have := Row.len_le hra; rwa [List.length_map] at this
  have HEQ := Lib.hid (sameT_eq t u)
  have HKS := Lib.hid (And.intro hra (And.intro hrb (And.intro hkT (And.intro hkU hcnt))))
  clear hP hQ ha hb hT hU hra hrb hkT hkU hcnt hn
  simp only [ptrV]
  generalize hres : sameT t u = res at *
  clear hres
  obtain ⟨m, hm⟩ : ∃ m, t.ks.length = m := ⟨_, rfl⟩
  obtain ⟨m2, hm2⟩ : ∃ m2, u.ks.length = m2 := ⟨_, rfl⟩
  rw [hm] at p4 hml
  rw [hm2] at q4
  by_cases h1 : t.d.k = u.d.k
  · have b1 : ((t.d.k : Int) == (u.d.k : Int)) = true := by simp [h1]
    have n1 : ((t.d.k : Int) != (u.d.k : Int)) = false := by rw [bne, b1]; rfl
    by_cases h2 : t.d.x = u.d.x
    · have b2 : ((⟨t.d.x.toArray⟩ : ByteArray).toList == (⟨u.d.x.toArray⟩ : ByteArray).toList) = true := by rw [ex, ey]; simp [h2]
      have n2 : ((⟨t.d.x.toArray⟩ : ByteArray).toList != (⟨u.d.x.toArray⟩ : ByteArray).toList) = false := by rw [bne, b2]; rfl
      by_cases h3 : t.d.n = u.d.n
      · have b3 : (t.d.n == u.d.n) = true := by simp [h3]
        have n3 : (t.d.n != u.d.n) = false := by rw [bne, b3]; rfl
        by_cases h4 : m = m2
        · have b4 : ((m : Int) == (m2 : Int)) = true := by simp [h4]
          have n4 : ((m : Int) != (m2 : Int)) = false := by rw [bne, b4]; rfl
          subst h4
          have HAL : Hid (alikeD t.d u.d t.ks.length u.ks.length = true) := Lib.hid (by unfold alikeD; rw [hm, hm2]; simp [h1, h2, h3])
          have HMM := Lib.hid (And.intro hm hm2)
          clear ex ey h1 h2 h3 hm hm2
          generalize (t.d.k : Int) = dk at *
          generalize (u.d.k : Int) = ek at *
          generalize (⟨t.d.x.toArray⟩ : ByteArray) = dx at *
          generalize (⟨u.d.x.toArray⟩ : ByteArray) = exx at *
          generalize t.d.n = dn at *
          generalize u.d.n = en at *
          go_enter Try.func20, Try.ntmps20
          go_wp2_with fail
          go_quiet (fail)
          go_wp2_with fail
          go_loopw [5] (fun i wr => ∃ j : Nat, j ≤ m ∧ i = .int .i64 j ∧ Below w.heap.size w wr ∧ allS ((t.ks.zip u.ks).take j) = true) (fun i _ => m - (intOf i).toNat)
          case atStart => exact ⟨0, Nat.zero_le _, rfl, (Fr.drewN w _).below _ (by simp) (Nat.le_refl _), by simp [allS]⟩
          case round =>
            obtain ⟨j, hj, rfl, hB, hall⟩ := hrel
            have pp4 := (hB.cell (Lib.lt_of_cell p4)).trans p4
            have qq4 := (hB.cell (Lib.lt_of_cell q4)).trans q4
            by_cases hjm : j < m
            · obtain ⟨r1, r2, r3, r4, r5⟩ := HKS.out
              obtain ⟨z1, z2⟩ := HMM.out
              obtain ⟨k, hk⟩ : ∃ k, t.ks[j]? = some k := ⟨_, List.getElem?_eq_getElem (by omega)⟩
              obtain ⟨l, hl⟩ : ∃ l, u.ks[j]? = some l := ⟨_, List.getElem?_eq_getElem (by omega)⟩
              have hz : (t.ks.zip u.ks)[j]? = some (k, l) := by rw [List.getElem?_zip_eq_some]; exact ⟨hk, hl⟩
              obtain ⟨ga, cpa, hva, cK⟩ := Row.cell r1 j k.p (by rw [List.getElem?_map, hk]; rfl)
              obtain ⟨gb, cpb, hvb, cL⟩ := Row.cell r2 j l.p (by rw [List.getElem?_map, hl]; rfl)
              have hqa : qa = some ⟨ga, 0, none⟩ := by injection hva
              have hqb : qb = some ⟨gb, 0, none⟩ := by injection hvb
              subst hqa; subst hqb
              have cK := (hB.cell (Lib.lt_of_cell cK)).trans cK
              have cL := (hB.cell (Lib.lt_of_cell cL)).trans cL
              simp only [ptrV] at cK cL
              have HR : ∀ w1 : World, (w1.cell? ⟨t.p, 4, none⟩ = some (.slice (some ⟨ga, 0, none⟩) m ca) ∧ w1.cell? ⟨u.p, 4, none⟩ = some (.slice (some ⟨gb, 0, none⟩) m cb) ∧ w1.cell? ⟨ga, j, none⟩ = some (.pointer (some ⟨k.p, 0, none⟩)) ∧ w1.cell? ⟨gb, j, none⟩ = some (.pointer (some ⟨l.p, 0, none⟩)) ∧ Below w.heap.size w w1) →
                  Calls Try.prog 20 #[.pointer (some ⟨k.p, 0, none⟩), .pointer (some ⟨l.p, 0, none⟩)] w1 fun e w2 => e = .returned (.bool (sameT k l)) ∧ (w2.cell? ⟨t.p, 4, none⟩ = some (.slice (some ⟨ga, 0, none⟩) m ca) ∧ w2.cell? ⟨u.p, 4, none⟩ = some (.slice (some ⟨gb, 0, none⟩) m cb) ∧ w2.cell? ⟨ga, j, none⟩ = some (.pointer (some ⟨k.p, 0, none⟩)) ∧ w2.cell? ⟨gb, j, none⟩ = some (.pointer (some ⟨l.p, 0, none⟩)) ∧ Below w.heap.size w w2) := fun w1 ⟨s1, s2, s3, s4, s5⟩ => by
                refine (HIH.out k l w1 (r5 k (List.mem_of_getElem? hk)) ((r3 k (List.mem_of_getElem? hk)).below s5) ((r4 l (List.mem_of_getElem? hl)).below s5)).mono ?_
                rintro e w2 ⟨rfl, B⟩
                exact ⟨rfl, (B.cell (Lib.lt_of_cell s1)).trans s1, (B.cell (Lib.lt_of_cell s2)).trans s2, (B.cell (Lib.lt_of_cell s3)).trans s3, (B.cell (Lib.lt_of_cell s4)).trans s4, s5.trans (B.mono s5.size)⟩
              have htk : (t.ks.zip u.ks).take (j + 1) = (t.ks.zip u.ks).take j ++ [(k, l)] := by rw [List.take_add_one, hz]; rfl
              have HTK := Lib.hid (And.intro htk (And.intro (List.mem_of_getElem? hz) hall))
              have hj0 : (0 : Int) ≤ (j : Int) := by omega
              have hj1 : (j : Int) < (m : Int) := by omega
              clear hk hl hz hva hvb r1 r2 r3 r4 r5 z1 z2 htk hall
              obtain ⟨sk, hsk⟩ : ∃ sk, sameT k l = sk := ⟨_, rfl⟩
              have HSK := Lib.hid hsk
              rw [hsk] at HR
              clear hsk
              go_wp2_with fail
              go_region_held3 (fun w' => w'.cell? ⟨t.p, 4, none⟩ = some (.slice (some ⟨ga, 0, none⟩) m ca) ∧ w'.cell? ⟨u.p, 4, none⟩ = some (.slice (some ⟨gb, 0, none⟩) m cb) ∧ w'.cell? ⟨ga, j, none⟩ = some (.pointer (some ⟨k.p, 0, none⟩)) ∧ w'.cell? ⟨gb, j, none⟩ = some (.pointer (some ⟨l.p, 0, none⟩)) ∧ Below w.heap.size w w')
                (first | assumption | (exact ⟨pp4, qq4, cK, cL, hB⟩) | (exact ⟨pp4, qq4, cK, cL, hB.drew⟩) | (exact ⟨hS.1, hS.2.1, hS.2.2.1, hS.2.2.2.1, hS.2.2.2.2.drew⟩))
                (first | (go_at_call 20; refine (HR _ (by assumption)).mono ?_; rintro e w9 ⟨rfl, hS⟩))
              have HB9 := Lib.hid hS.2.2.2.2
              clear HR hS pp4 qq4 cK cL
              cases sk
              · go_wp2_with fail
                go_ret
                refine ⟨?_, HB9.out⟩
                rw [HEQ.out, allS_mem HTK.out.2.1 HSK.out, Bool.and_false]; rfl
              · go_wp2_with fail
                go_roundw
                case rel => exact ⟨j + 1, by omega, by simp, HB9.out, by rw [HTK.out.1, allS_app, HTK.out.2.2]; simp [allS, HSK.out]⟩
                case measure => simp [intOf]; omega
            · obtain rfl : j = m := by omega
              have HB := Lib.hid hB
              have hfin : Hid (res = true) := Lib.hid (by
                obtain ⟨z1, z2⟩ := HMM.out
                rw [List.take_of_length_le (by rw [List.length_zip]; omega)] at hall
                rw [HEQ.out, HAL.out, hall]; rfl)
              clear hB hall
              go_wp2_with fail
              go_ret
              exact ⟨by rw [hfin.out]; rfl, HB.out⟩
        · have b4 : ((m : Int) == (m2 : Int)) = false := beq_eq_false_iff_ne.2 (fun h => h4 (by omega))
          have n4 : ((m : Int) != (m2 : Int)) = true := by rw [bne, b4]; rfl
          have HF : Hid (res = false) := Lib.hid (by rw [HEQ.out]; unfold alikeD; rw [hm, hm2]; simp [h1, h2, h3, h4])
          clear ex ey hm hm2 h1 h2 h3 h4
          generalize (t.d.k : Int) = dk at *
          generalize (u.d.k : Int) = ek at *
          generalize (⟨t.d.x.toArray⟩ : ByteArray) = dx at *
          generalize (⟨u.d.x.toArray⟩ : ByteArray) = exx at *
          generalize t.d.n = dn at *
          generalize u.d.n = en at *
          go_enter Try.func20, Try.ntmps20
          go_wp2_with fail
          go_quiet (fail)
          go_wp2_with fail
          go_ret
          exact ⟨by rw [HF.out]; rfl, (Fr.drewN w _).below _ (by simp) (Nat.le_refl _)⟩
      · have b3 : (t.d.n == u.d.n) = false := beq_eq_false_iff_ne.2 h3
        have n3 : (t.d.n != u.d.n) = true := by rw [bne, b3]; rfl
        have HF : Hid (res = false) := Lib.hid (by rw [HEQ.out]; unfold alikeD; rw [hm, hm2]; simp [h1, h2, h3])
        clear ex ey hm hm2 h1 h2 h3
        generalize (t.d.k : Int) = dk at *
        generalize (u.d.k : Int) = ek at *
        generalize (⟨t.d.x.toArray⟩ : ByteArray) = dx at *
        generalize (⟨u.d.x.toArray⟩ : ByteArray) = exx at *
        generalize t.d.n = dn at *
        generalize u.d.n = en at *
        go_enter Try.func20, Try.ntmps20
        go_wp2_with fail
        go_quiet (fail)
        go_wp2_with fail
        go_ret
        exact ⟨by rw [HF.out]; rfl, (Fr.drewN w _).below _ (by simp) (Nat.le_refl _)⟩
    · have b2 : ((⟨t.d.x.toArray⟩ : ByteArray).toList == (⟨u.d.x.toArray⟩ : ByteArray).toList) = false := by rw [ex, ey]; exact beq_eq_false_iff_ne.2 h2
      have n2 : ((⟨t.d.x.toArray⟩ : ByteArray).toList != (⟨u.d.x.toArray⟩ : ByteArray).toList) = true := by rw [bne, b2]; rfl
      have HF : Hid (res = false) := Lib.hid (by rw [HEQ.out]; unfold alikeD; rw [hm, hm2]; simp [h1, h2])
      clear ex ey hm hm2 h1 h2
      generalize (t.d.k : Int) = dk at *
      generalize (u.d.k : Int) = ek at *
      generalize (⟨t.d.x.toArray⟩ : ByteArray) = dx at *
      generalize (⟨u.d.x.toArray⟩ : ByteArray) = exx at *
      generalize t.d.n = dn at *
      generalize u.d.n = en at *
      go_enter Try.func20, Try.ntmps20
      go_wp2_with fail
      go_quiet (fail)
      go_wp2_with fail
      go_ret
      exact ⟨by rw [HF.out]; rfl, (Fr.drewN w _).below _ (by simp) (Nat.le_refl _)⟩
  · have b1 : ((t.d.k : Int) == (u.d.k : Int)) = false := beq_eq_false_iff_ne.2 (fun h => h1 (by omega))
    have n1 : ((t.d.k : Int) != (u.d.k : Int)) = true := by rw [bne, b1]; rfl
    have HF : Hid (res = false) := Lib.hid (by rw [HEQ.out]; unfold alikeD; rw [hm, hm2]; simp [h1])
    clear ex ey hm hm2 h1
    generalize (t.d.k : Int) = dk at *
    generalize (u.d.k : Int) = ek at *
    generalize (⟨t.d.x.toArray⟩ : ByteArray) = dx at *
    generalize (⟨u.d.x.toArray⟩ : ByteArray) = exx at *
    generalize t.d.n = dn at *
    generalize u.d.n = en at *
    go_enter Try.func20, Try.ntmps20
    go_wp2_with fail
    go_quiet (fail)
    go_wp2_with fail
    go_ret
    exact ⟨by rw [HF.out]; rfl, (Fr.drewN w _).below _ (by simp) (Nat.le_refl _)⟩
end Go.Proofs.Ytldecbaaajmmcaa
