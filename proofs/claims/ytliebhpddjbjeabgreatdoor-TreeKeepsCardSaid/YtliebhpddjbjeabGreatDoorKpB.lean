/- Several texts in one. -/
import Derived.Test.YtliebhpddjbjeabGreatDoorGrB
import Derived.Test.YtliebhpddjbjeabGreatDoorReC
import Derived.Test.YtliebhpddjbjeabGreatDoorTrW
import Derived.Laws.OwnMore
import Derived.Test.YtliebhpddjbjeabGreatDoorPaB
import Derived.Test.YtliebhpddjbjeabGreatDoorTrO
/- The kids that are handed in, one behind the other. -/
namespace Go.Proofs.YtliebhpddjbjeabGreatDoor
open Go.RowKit
set_option maxHeartbeats 4000000
set_option maxRecDepth 100000
set_option linter.unusedVariables false
set_option linter.unusedSimpArgs false

def encO (o : Option Tr) : Value := encP (o.map Tr.p)
/-- The kids, so far. -/
structure KL (w wr : World) (v : Value) (os : List (Option Tr)) : Prop where
  b : Below w.heap.size w wr
  r : wr.ownsRow 0 27 1 v os.length (os.map encO)
  g : ∀ g, v.ownBlock = some g → w.heap.size ≤ g
  t : ∀ t, some t ∈ os → IsT wr (fun j => w.heap.size ≤ j ∧ j ∉ obL v) t ∧ t.cnt ≤ 1000
theorem KL.fr {w wr w' : World} {v : Value} {os : List (Option Tr)} (h : KL w wr v os) (hB : Below wr.heap.size wr w') : KL w w' v os :=
  ⟨h.b.trans (hB.mono h.b.size), ownsRow_keep h.r (fun g hg => hB.block g (h.r.lt g hg).2), h.g, fun t ht => ⟨(h.t t ht).1.below hB, (h.t t ht).2⟩⟩
theorem KL.on {w w4 w5 w6 : World} {v : Value} {os : List (Option Tr)} (h : KL w w4 v os) (hB : Below w4.heap.size w4 w5)
    (o : Option Tr) (ht : ∀ t, o = some t → IsT w5 (w4.heap.size ≤ ·) t ∧ t.cnt ≤ 1000) (c : Obj) (g cap : Nat)
    (hown : w6.ownsRow 0 27 1 (.slice (some ⟨g, 0, none⟩) (os.length + 1) cap) (os.length + 1) (os.map encO ++ [encO o])) (hgrow : (w5.alloc c).grownBy w6 v.ownBlock) (hat : v.ownBlock = some g ∨ g = w5.heap.size + 1) :
    KL w w6 (.slice (some ⟨g, 0, none⟩) (os.length + 1) cap) (os ++ [o]) := by
  have h5 := h.fr hB
  have F1 := Fr.alloc w5 c
  have F2 := Fr.of_grown hgrow
  have F12 : Fr (obL v) w5 w6 := (F1.mono (by simp)).trans F2 (fun j hj => .inl hj)
  have hs45 := hB.size
  have hvold : ∀ j ∈ obL v, w.heap.size ≤ j ∧ j < w4.heap.size := fun j hj => ⟨h.g j ((mem_ob v j).1 hj), (h.r.lt j ((mem_ob v j).1 hj)).2⟩
  have hgw : w.heap.size ≤ g ∧ (g ∈ obL v ∨ w5.heap.size ≤ g) := by
    rcases hat with h1 | h1
    · have := (mem_ob v g).2 h1
      exact ⟨(hvold g this).1, .inl this⟩
    · have := h.b.size
      exact ⟨by omega, .inr (by omega)⟩
  have hob : ∀ j, j ∈ obL (.slice (some ⟨g, 0, none⟩) (os.length + 1) cap) → j = g := fun j hj => by simpa [obL, Value.ownBlock] using hj
  refine ⟨h5.b.trans (F12.below w.heap.size (fun j hj => (hvold j hj).1) h5.b.size), ?_, fun k hk => ?_, fun u hu => ?_⟩
  · rw [List.length_append, List.map_append]
    exact hown
  · obtain rfl : g = k := by simpa [Value.ownBlock] using hk
    exact hgw.1
  · rcases List.mem_append.1 hu with hu | hu
    · have q1 : ∀ j, (w.heap.size ≤ j ∧ j ∉ obL v) → j < w5.heap.size → (w.heap.size ≤ j ∧ j ∉ obL (.slice (some ⟨g, 0, none⟩) (os.length + 1) cap)) := fun j hj hl => ⟨hj.1, fun hm => by
        have e := hob j hm
        subst e
        rcases hgw.2 with h1 | h1
        · exact hj.2 h1
        · omega⟩
      exact ⟨(h5.t u hu).1.keep q1 (fun j hj hl => F12.block j hl hj.2), (h.t u hu).2⟩
    · obtain rfl : o = some u := by
        have h := List.mem_singleton.1 hu
        exact h.symm
      obtain ⟨t1, t2⟩ := ht u rfl
      have q1 : ∀ j, w4.heap.size ≤ j → j < w5.heap.size → (w.heap.size ≤ j ∧ j ∉ obL (.slice (some ⟨g, 0, none⟩) (os.length + 1) cap)) := fun j hj hl => ⟨Nat.le_trans h.b.size hj, fun hm => by
        have e := hob j hm
        subst e
        rcases hgw.2 with h1 | h1
        · have := (hvold j h1).2; omega
        · omega⟩
      exact ⟨t1.keep q1 (fun j hj hl => F12.block j hl (fun hm => by have := (hvold j hm).2; omega)), t2⟩
theorem KL.form {w wr : World} {v : Value} {os : List (Option Tr)} (h : KL w wr v os) : ∃ q cap, v = .slice q os.length cap := by
  rcases h.r.2 with ⟨h1, h2⟩ | ⟨g, cap, cur, h1, _⟩
  · exact ⟨none, 0, by rw [h1, h2]⟩
  · exact ⟨_, _, h1⟩
theorem KL.cell {w wr : World} {v : Value} {os : List (Option Tr)} (h : KL w wr v os) (i : Nat) (o : Option Tr) (hi : os[i]? = some o) :
    ∃ g cap, v = .slice (some ⟨g, 0, none⟩) os.length cap ∧ w.heap.size ≤ g ∧ g < wr.heap.size ∧ wr.cell? ⟨g, i, none⟩ = some (encO o) ∧ wr.frozen? ⟨g, i, none⟩ = false := by
  have hlt : i < os.length := (List.getElem?_eq_some_iff.1 hi).1
  obtain ⟨g, cap, hv, hl⟩ : ∃ g cap, v = .slice (some ⟨g, 0, none⟩) os.length cap ∧ True := by
    rcases h.r.2 with ⟨_, h2⟩ | ⟨g, cap, cur, h1, _⟩
    · omega
    · exact ⟨g, cap, h1, trivial⟩
  subst hv
  refine ⟨g, cap, rfl, h.g g rfl, (h.r.lt g rfl).2, ?_, h.r.frozenAt i⟩
  rw [h.r.cellAt i (by omega), List.getElem?_map, hi]
  rfl
theorem KL.args {w wr : World} {v : Value} {os : List (Option Tr)} (h : KL w wr v os) : ArgL wr v os := by
  obtain ⟨q, cap, hv⟩ := h.form
  refine ⟨q, cap, hv, fun i o hi => ?_⟩
  obtain ⟨g, cap', h1, h2, h3, h4, h5⟩ := h.cell i o hi
  rw [hv] at h1
  injection h1 with h1
  exact ⟨g, h1, h3, h4⟩
theorem cntL_bound (l : List Tr) (n : Nat) (h : ∀ t ∈ l, t.cnt ≤ n) : cntL l ≤ l.length * n := by
  induction l with
  | nil => simp [cntL]
  | cons t r ih =>
    have h1 := h t List.mem_cons_self
    have h2 := ih (fun u hu => h u (List.mem_cons_of_mem _ hu))
    simp only [cntL, List.length_cons, Nat.succ_mul]
    omega
/-- What New left, of what was handed in. -/
theorem NS.kept {w wr w' : World} {p : Nat} {d : ND} {os : List (Option Tr)} {v v2 : Value} {out : List Tr} (h : NS wr p d os w' v out) (k : KL w wr v2 os) :
    IsT w' (fun j => w.heap.size ≤ j ∧ j ∉ obL v2) (.node p d out) ∧ cntL out ≤ os.length * 1000 ∧ out.length = os.length := by
  have hlt : ∀ j ∈ obL v2, j < wr.heap.size := fun j hj => (k.r.lt j ((mem_ob v2 j).1 hj)).2
  refine ⟨(h.tree (P := fun j => w.heap.size ≤ j ∧ j ∉ obL v2) (fun t ht => (k.t t ht).1)).keep (fun j hj _ => ?_) (fun _ _ _ => rfl), ?_, h.f.len⟩
  · rcases hj with hj | hj
    · exact hj
    · exact ⟨Nat.le_trans k.b.size hj, fun hm => by have := hlt j hm; omega⟩
  · rw [← h.f.len]
    refine cntL_bound out 1000 (fun t ht => ?_)
    rcases h.l t ht with h1 | ⟨g, rfl, _⟩
    · exact (k.t t h1).2
    · simp [Tr.cnt, cntL]
end Go.Proofs.YtliebhpddjbjeabGreatDoor
/- TreeKeeps, walked. -/
namespace Go.Proofs.YtliebhpddjbjeabGreatDoor
open Go.RowKit
set_option maxHeartbeats 4000000
set_option maxRecDepth 100000
set_option linter.unusedVariables false
set_option linter.unusedSimpArgs false

def dK : ND := ⟨9, 0, 0, [110], 4⟩
theorem one0 (o : Option Tr) : ∀ u ∈ [encO o], u.oneCell' = true := fun u hu => by
  cases o <;> (simp at hu; subst hu; rfl)
theorem encO_ptr (o : Option Tr) : ∃ a, encO o = .pointer a := by cases o <;> exact ⟨_, rfl⟩
theorem encO_some (t : Tr) : encO (some t) = .pointer (some ⟨t.p, 0, none⟩) := rfl
theorem encO_none : encO none = .pointer none := rfl
theorem keeps_any (ps : List PC) (bs : List Bool) (v u : Value) (w : World) (hp : PcL w v ps) (hok : ∀ p ∈ ps, OkC p) (hb : BlL w u bs) (hE : Env w) :
    Calls Tryz.prog 3 #[v, u] w fun e w' => e = .returned (.bool true) ∧ Below w.heap.size w w' := by
  have HH := heavy_any ps v w hp hok
  have HE := Lib.hid hE
  obtain ⟨i0, hi, hz0, hz1, hz2⟩ := info_parts infoP
  obtain ⟨qb, cb, rfl, hb1, hb2, hbc⟩ := hb
  obtain ⟨M, hM⟩ : ∃ M, bs.length = M := ⟨_, rfl⟩
  have HB := Lib.hid (And.intro hbc hM)
  rw [hM] at hb1 ⊢
  obtain ⟨q, cap, rfl, hc1, hc2, hcell⟩ := hp
  obtain ⟨L, hL⟩ : ∃ L, ps.length = L := ⟨_, rfl⟩
  have HC := Lib.hid (And.intro hcell (And.intro hok hL))
  rw [hL] at hc1 HH ⊢
  clear hbc hM hcell hok hL hE
  go_enter Tryz.func3, Tryz.ntmps3
  go_wp2_with fail
  refine HH.mono ?_
  rintro e w1 ⟨b, rfl, B1, hsm⟩
  have HB1 := Lib.hid B1
  have HW := works_any w1 (HE.out.below B1)
  clear HH B1
  cases b with
  | true =>
    clear hsm
    go_wp2_with fail
    refine HW.mono ?_
    rintro e w2 ⟨rfl, B2⟩
    have HB2 := Lib.hid (HB1.out.trans (B2.mono HB1.out.size))
    clear B2 HW
    go_wp2_with fail
    go_ret
    exact ⟨rfl, HB2.out⟩
  | false =>
  obtain ⟨hL200, hsx⟩ := hsm rfl
  have hL2 : L ≤ 200 := by have := HC.out.2.2; omega
  clear hsm hsx hL200
  by_cases h20 : (20 : Int) < (M : Int)
  · go_wp2_with fail
    refine HW.mono ?_
    rintro e w2 ⟨rfl, B2⟩
    have HB2 := Lib.hid (HB1.out.trans (B2.mono HB1.out.size))
    clear B2 HW
    go_wp2_with fail
    go_ret
    exact ⟨rfl, HB2.out⟩
  clear HW
  have hM20 : M ≤ 20 := by omega
  go_wp2_with fail
  go_loopw [5, 6] (fun kv i wr => ∃ (j : Nat) (v : Value) (os : List (Option Tr)), j ≤ M ∧ i = .int .i64 j ∧ kv = v ∧ os.length = j ∧ KL w wr v os) (fun _ i _ => M - (intOf i).toNat)
  case atStart => exact ⟨0, _, [], Nat.zero_le _, rfl, rfl, rfl, ⟨HB1.out, World.ownsRow_nil _ _ _ _, fun g hg => (by cases hg), fun t ht => (by cases ht)⟩⟩
  case round =>
    obtain ⟨j, kv, os, hj, rfl, hkv, hos, kl⟩ := hrel
    have hkv := hkv.symm
    subst hkv
    have HK := Lib.hid (And.intro kl hos)
    have HO1 := Lib.hid (one0 none)
    by_cases hjM : j < M
    · obtain ⟨b, hbj⟩ : ∃ b, bs[j]? = some b := ⟨_, List.getElem?_eq_getElem (by have := HB.out.2; omega)⟩
      obtain ⟨gb, ob, rfl, cB⟩ := HB.out.1 j b hbj
      have cB := (kl.b.cell (Lib.lt_of_cell cB)).trans cB
      have hj0 : (0 : Int) ≤ (j : Int) := by omega
      have hj1 : (j : Int) < (M : Int) := by omega
      clear hbj
      cases b with
      | true =>
        have hsr := kl.r.alloc (.cells #[.pointer none] 27)
        have HN1 := Lib.hid (new1 wr (.pointer none) 27)
        rw [hos] at hsr
        clear kl
        go_wp2_with (at_builtin; refine wpList_append_lies _ rfl _ _ 26 rfl 0 27 i0 _ 1 8 Tryz.underlying26 hi hz0 hz1 hz2 rfl (by decide) kv j _ rfl hsr ⟨wr.heap.size, 0, none⟩ 1 1 [.pointer none] rfl rfl HN1.out HO1.out (by decide) (by unfold maxLen; omega) (by omega) (by simp <;> omega) (wr.heap.size + 1) (by simp) ?_)
        intro gl capl w6 hown hgrow hat hlt6
        have HST := Lib.hid (HK.out.1.on (w6 := w6) (Below.refl _ _) none (fun t ht => by cases ht) _ gl capl (by rw [HK.out.2]; exact hown) hgrow hat)
        clear hown hgrow hat hsr HN1 HO1
        go_wp2_with fail
        go_roundw
        case measure => simp [intOf]; omega
        case rel => exact ⟨j + 1, _, os ++ [none], by omega, by simp, rfl, by simp [HK.out.2], by have := HST.out; rw [HK.out.2] at this; exact this⟩
      | false =>
        have hlt : L - (min (j : Int) (L : Int)).toNat ≤ 200 := by omega
        have hn0 : (min (j : Int) (L : Int)).toNat ≤ 200 := by omega
        have hpd : PcL wr (.slice (q.map (fun x => x.add ((min (j : Int) (L : Int)).toNat * 6))) (L - (min (j : Int) (L : Int)).toNat) (cap - (min (j : Int) (L : Int)).toNat)) (ps.drop (min (j : Int) (L : Int)).toNat) := by
          have hl := HC.out.2.2
          refine ⟨_, _, by rw [List.length_drop, hl], by rw [List.length_drop, hl]; omega, by omega, fun i p hi => ?_⟩
          rw [List.getElem?_drop] at hi
          obtain ⟨g', o', e, h1⟩ := HC.out.1 _ p hi
          subst e
          refine ⟨g', o' + (min (j : Int) (L : Int)).toNat * 6, by rw [Option.map_some, WideShapes.add_plain], ?_⟩
          rw [show o' + (min (j : Int) (L : Int)).toNat * 6 + i * 6 = o' + ((min (j : Int) (L : Int)).toNat + i) * 6 by omega]
          exact h1.below kl.b
        obtain ⟨lo, hlo⟩ : ∃ lo, (min (j : Int) (L : Int)).toNat = lo := ⟨_, rfl⟩
        rw [hlo] at hpd hlt hn0
        have hlL : lo ≤ L := by omega
        have key : ∃ qd nd cd, (lo = cap ∧ qd = q ∧ nd = 0 ∧ cd = 0 ∨ cap ≠ lo ∧ qd = q.map (fun x => x.add (lo * 6)) ∧ nd = L - lo ∧ cd = cap - lo) ∧ PcL wr (.slice qd nd cd) (ps.drop lo) := by
          by_cases hac : cap = lo
          · refine ⟨q, 0, 0, .inl ⟨hac.symm, rfl, rfl, rfl⟩, ?_⟩
            have hl := HC.out.2.2
            exact ⟨q, 0, by rw [List.length_drop, hl, show L - lo = 0 by omega], by rw [List.length_drop, hl]; omega, by decide, fun i p hi => by
              rw [List.getElem?_drop, List.getElem?_eq_none (by omega)] at hi
              cases hi⟩
          · exact ⟨_, _, _, .inr ⟨hac, rfl, rfl, rfl⟩, hpd⟩
        obtain ⟨qd, nd, cd, hqd, hpq⟩ := key
        have HG := Grow_any 6 (ps.drop lo) _ wr hpq (fun p' hp' => HC.out.2.1 p' (List.mem_of_mem_drop hp')) (by rw [List.length_drop, HC.out.2.2]; omega) (by decide)
        rw [show ((6 : Nat) : Int) = 6 from rfl] at HG
        have HKF := Lib.hid kl.r
        clear hpd kl hpq
        rcases hqd with ⟨rfl, rfl, rfl, rfl⟩ | ⟨hac, rfl, rfl, rfl⟩
        all_goals
          go_wp2_with fail
          refine HG.mono ?_
          rintro e w5 ⟨o5, n5, rfl, B5, hn5, ht5⟩
          rw [List.length_drop, HC.out.2.2] at hn5
          have hsr := (HK.out.1.fr B5).r.alloc (.cells #[encO o5] 27)
          have HN1 := Lib.hid (new1 w5 (encO o5) 27)
          have HO5 := Lib.hid (one0 o5)
          have HON := Lib.hid (fun (c : Obj) (gg cap' : Nat) (w6 : World) => HK.out.1.on (w6 := w6) B5 o5 (fun t ht => ⟨(ht5 t ht).1, by have := (ht5 t ht).2.2.1; omega⟩) c gg cap')
          rw [hos] at hsr
          clear HG B5 ht5 hn5
          rw [show encP (o5.map Tr.p) = encO o5 from rfl]
          obtain ⟨x5, hx5⟩ := encO_ptr o5
          have HX5 := Lib.hid hx5
          rw [hx5] at hsr HN1 HO5 ⊢
          rw [hx5] at HON
          clear hx5
          go_wp2_with (at_builtin; refine wpList_append_lies _ rfl _ _ 26 rfl 0 27 i0 _ 1 8 Tryz.underlying26 hi hz0 hz1 hz2 rfl (by decide) kv j _ rfl hsr ⟨w5.heap.size, 0, none⟩ 1 1 [.pointer x5] rfl rfl HN1.out HO5.out (by decide) (by unfold maxLen; omega) (by omega) (by simp <;> omega) (w5.heap.size + 1) (by simp) ?_)
          intro gl capl w6 hown hgrow hat hlt6
          have HST := Lib.hid (HON.out _ gl capl w6 (by rw [HK.out.2]; exact hown) hgrow hat)
          clear hown hgrow hat hsr HN1 HO1 HO5 HON
          go_wp2_with fail
          go_roundw
          case measure => simp [intOf]; omega
          case rel => exact ⟨j + 1, _, os ++ [o5], by omega, by simp, rfl, by simp [HK.out.2], by have := HST.out; rw [HK.out.2] at this; exact this⟩
    · obtain rfl : j = M := by omega
      have HX := New_any wr dK kv os (by decide) kl.args (by omega)
      have HBw := Lib.hid kl.b
      clear kl HO1
      simp only [dK] at HX
      rw [posV0] at HX
      go_wp2_with fail
      refine HX.mono ?_
      rintro e w2 ⟨p, vx, out, rfl, ns⟩
      obtain ⟨hT, hcn, hlen⟩ := ns.kept HK.out.1
      obtain ⟨qk, capk, hkf⟩ := HK.out.1.form
      obtain ⟨qx, capx, hvx⟩ := ns.r.form
      rw [List.length_map, hlen, hos] at hvx
      rw [hos] at hkf
      subst hvx
      subst hkf
      have nn : NodeAt w2 p dK (.slice qx j capx) := ⟨ns.n⟩
      have c0 := nn.c0
      have c2 := nn.c2
      have c3 := nn.c3
      have c4 := nn.c4
      have HT := Lib.hid (And.intro hT (And.intro hcn (And.intro hlen ns)))
      have HB2 := Lib.hid (HBw.out.trans (ns.b.mono HBw.out.size))
      simp only [dK] at c0 c2 c3
      clear HX ns hT hcn nn hlen HBw
      simp only [ptrV]
      go_wp2_with fail
      go_loopw [10] (fun i wq => ∃ k : Nat, k ≤ j ∧ i = .int .i64 k ∧ Below w2.heap.size w2 wq) (fun i _ => j - (intOf i).toNat)
      case atStart => exact ⟨0, Nat.zero_le _, rfl, Below.refl _ _⟩
      case round =>
        obtain ⟨k, hk, rfl, hBq⟩ := hrel
        have HBQ := Lib.hid hBq
        by_cases hkj : k < j
        · obtain ⟨o, ho⟩ : ∃ o, os[k]? = some o := ⟨_, List.getElem?_eq_getElem (by omega)⟩
          obtain ⟨gk, capk', hkv2, hg1, hg2, cK, _⟩ := HK.out.1.cell k o ho
          obtain rfl : qk = some ⟨gk, 0, none⟩ := by injection hkv2
          have ns := HT.out.2.2.2
          have cK := (hBq.cell (p := ⟨gk, k, none⟩) (show gk < w2.heap.size from Nat.lt_of_lt_of_le hg2 ns.b.size)).trans ((ns.b.cell (p := ⟨gk, k, none⟩) hg2).trans cK)
          obtain ⟨t', ht', hto⟩ := ns.f.get k o ho
          obtain ⟨gx, capx', hvx2, cX⟩ := Row.cell ns.r k t'.p (by rw [List.getElem?_map, ht']; rfl)
          obtain rfl : qx = some ⟨gx, 0, none⟩ := by injection hvx2
          have cX := (hBq.cell (Lib.lt_of_cell cX)).trans cX
          have c4q := (hBq.cell (Lib.lt_of_cell c4)).trans c4
          have hTt : IsT _ (fun j => w.heap.size ≤ j ∧ j ∉ obL (.slice (some ⟨gk, 0, none⟩) j capk)) t' := (HT.out.1.2.2.at t' (List.mem_of_getElem? ht')).below hBq
          have hk0 : (0 : Int) ≤ (k : Int) := by omega
          have hk1 : (k : Int) < (j : Int) := by omega
          simp only [ptrV] at cX
          cases o with
          | some t =>
            obtain rfl : t' = t := by
              rcases hto with h | ⟨h, _⟩
              · exact (Option.some.inj h).symm
              · cases h
            rw [encO_some] at cK
            have HR := rExact_any t'.cnt t' t' wr (Nat.le_refl _) hTt hTt (sim_dt _ _ rfl)
            simp only [ptrV] at HR
            clear hTt hto ho ht' hkv2 hvx2 ns hBq
            go_wp2_with fail
            refine HR.mono ?_
            rintro e w3 ⟨rfl, B3⟩
            have HB3 := Lib.hid (HBQ.out.trans (B3.mono HBQ.out.size))
            clear HR B3 cK cX c4q
            go_wp2_with fail
            go_roundw
            case rel => exact ⟨k + 1, by omega, by simp, HB3.out⟩
            case measure => simp [intOf]; omega
          | none =>
            obtain ⟨g0, hg0⟩ : ∃ g0, t' = .node g0 d0 [] := by
              rcases hto with h | ⟨_, g, _, _, h⟩
              · cases h
              · exact ⟨g, h⟩
            subst hg0
            rw [encO_none] at cK
            simp only [Tr.p] at cX
            obtain ⟨wa, hwa⟩ : ∃ wa, wr.alloc (.cells #[.int .u8 0, .complex .f64 0 0, .string ⟨#[]⟩, .int .i64 0, .slice none 0 0] 33 (0, 0)) = wa := ⟨_, rfl⟩
            have hBa : Below wr.heap.size wr wa := by rw [← hwa]; exact below_new _ _
            have hna : wa.heap[wr.heap.size]? = some (nodeO d0 (.slice none 0 0)) := by rw [← hwa]; exact heap_alloc_new _ _
            have hTa : IsT wa (fun _ => True) (.node wr.heap.size d0 []) := ⟨trivial, ⟨_, hna, ⟨World.ownsRow_nil _ _ _ _, fun g hg => (by cases hg)⟩⟩, trivial⟩
            have HR := rExact_any 1 (.node g0 d0 []) (.node wr.heap.size d0 []) wa (by simp [Tr.cnt, cntL]) (hTt.below hBa) hTa (sim_dt _ _ rfl)
            have cX := (hBa.cell (Lib.lt_of_cell cX)).trans cX
            have c4q := (hBa.cell (Lib.lt_of_cell c4q)).trans c4q
            have HBA := Lib.hid (HBQ.out.trans (hBa.mono HBQ.out.size))
            simp only [ptrV, Tr.p] at HR
            clear hto ho ht' hkv2 hvx2 ns hBq hTt hTa hna hBa
            go_wp2_with fail
            refine HR.mono ?_
            rintro e w3 ⟨rfl, B3⟩
            have HB3 := Lib.hid (HBA.out.trans (B3.mono HBA.out.size))
            clear HR B3 cK cX c4q hwa
            go_wp2_with fail
            go_roundw
            case rel => exact ⟨k + 1, by omega, by simp, HB3.out⟩
            case measure => simp [intOf]; omega
        · obtain rfl : k = j := by omega
          have hcnt : (Tr.node p dK out).cnt ≤ 1048576 := by
            have h1 := HT.out.2.1
            have h2 : os.length * 1000 ≤ 20 * 1000 := Nat.mul_le_mul_right _ (by omega)
            simp only [Tr.cnt]
            omega
          have hTq := HT.out.1.below hBq
          have HC9 := rCopy_any (Tr.node p dK out).cnt (.node p dK out) wr (Nat.le_refl _) hcnt hTq
          have hrow : wr.ownsRow 0 27 1 (.slice qk k capk) k (os.map encO) := by
            have h1 := HK.out.1.r
            have nsb := HT.out.2.2.2.b
            rw [hos] at h1
            exact ownsRow_keep (ownsRow_keep h1 (fun g hg => nsb.block g (h1.lt g hg).2)) (fun g hg => hBq.block g (Nat.lt_of_lt_of_le (h1.lt g hg).2 nsb.size))
          have HG := Lib.hid (And.intro HK.out.1.g (And.intro hTq (And.intro hrow (fun g hg => (hrow.lt g hg).2 : ∀ g, (Value.slice qk k capk).ownBlock = some g → g < wr.heap.size))))
          have HBW := Lib.hid (HB2.out.trans (hBq.mono HB2.out.size))
          simp only [ptrV, Tr.p] at HC9
          clear hcnt hTq hrow hBq c0 c2 c3 c4
          go_wp2_with fail
          refine HC9.mono ?_
          rintro e w3 ⟨tu, rfl, B3, hx1, hx2, hx3⟩
          have HX3 := Lib.hid (And.intro hx1 (And.intro hx3 (And.intro (HG.out.2.1.below B3) (And.intro (HBW.out.trans (B3.mono HBW.out.size)) (ownsRow_keep HG.out.2.2.1 (fun g hg => B3.block g (HG.out.2.2.2 g hg)))))))
          clear HC9 B3 hx1 hx2 hx3
          go_wp2_with fail
          go_loopw [13] (fun i wq => ∃ (m : Nat) (xs : List Value), m ≤ k ∧ i = .int .i64 m ∧ wq.ownsRow 0 27 1 (.slice qk k capk) k xs ∧ Fr (obL (.slice qk k capk)) w3 wq) (fun i _ => k - (intOf i).toNat)
          case atStart => exact ⟨0, _, Nat.zero_le _, rfl, HX3.out.2.2.2.2, Fr.refl _ _⟩
          case round =>
            obtain ⟨m, xs, hm, rfl, hr, hF⟩ := hrel
            by_cases hmk : m < k
            · obtain ⟨gk, cap9, hv9, _, hg9⟩ := hr.form (by omega)
              obtain rfl : qk = some ⟨gk, 0, none⟩ := by injection hv9
              obtain ⟨y, hy⟩ : ∃ y, xs[m]? = some y := ⟨_, List.getElem?_eq_getElem (by have := hr.1; omega)⟩
              have cY := (hr.cellAt m (by omega)).trans hy
              have fY := hr.frozenAt m
              have HRS := Lib.hid (hr.stored m (.pointer none)).1
              have HFS := Lib.hid (hF.trans (Fr.set wr gk m (.pointer none)) (fun q hq => .inl (by
                obtain rfl : q = gk := by simpa using hq
                simp [obL, Value.ownBlock])))
              have hm0 : (0 : Int) ≤ (m : Int) := by omega
              have hm1 : (m : Int) < (k : Int) := by omega
              clear hr hF hy hv9
              go_wp2_with fail
              go_roundw
              case rel => exact ⟨m + 1, _, by omega, by simp, HRS.out, HFS.out⟩
              case measure => simp [intOf]; omega
            · obtain rfl : m = k := by omega
              have hbl : ∀ q ∈ obL (.slice qk m capk), w.heap.size ≤ q := fun q hq => HG.out.1 q ((mem_ob _ q).1 hq)
              have hTx := HX3.out.2.2.1.keep (w' := wr) (fun q hq _ => hq) (fun q hq hl => hF.block q hl hq.2)
              have hTu := HX3.out.1.keep (w' := wr) (fun q hq _ => hq) (fun q hq hl => hF.block q hl (fun hmm => by have := HG.out.2.2.2 q ((mem_ob _ q).1 hmm); omega))
              have HR := rExact_any (Tr.node p dK out).cnt (.node p dK out) _ wr (Nat.le_refl _) hTx hTu (sim_dt _ _ HX3.out.2.1)
              have hB9 : Below w.heap.size w wr := HX3.out.2.2.2.1.trans (hF.below _ hbl HX3.out.2.2.2.1.size)
              have HB9 := Lib.hid hB9
              simp only [ptrV, Tr.p] at HR
              clear hr hF hbl hTx hTu hB9
              go_wp2_with fail
              refine HR.mono ?_
              rintro e w4 ⟨rfl, B4⟩
              have HB10 := Lib.hid (HB9.out.trans (B4.mono HB9.out.size))
              have HW := works_any w4 (HE.out.below HB10.out)
              clear HR B4
              go_wp2_with fail
              refine HW.mono ?_
              rintro e w5 ⟨rfl, B5⟩
              have HB11 := Lib.hid (HB10.out.trans (B5.mono HB10.out.size))
              clear HW B5
              go_wp2_with fail
              go_ret
              exact ⟨rfl, HB11.out⟩
end Go.Proofs.YtliebhpddjbjeabGreatDoor
