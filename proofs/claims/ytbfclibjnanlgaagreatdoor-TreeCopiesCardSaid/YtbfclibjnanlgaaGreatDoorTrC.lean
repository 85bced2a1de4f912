/- tree.Count, walked. -/
import Derived.Test.YtbfclibjnanlgaaGreatDoorTrV
namespace Go.Proofs.YtbfclibjnanlgaaGreatDoor
open Go.RowKit
set_option maxHeartbeats 2000000
set_option maxRecDepth 100000
set_option linter.unusedVariables false

theorem j_cnt (a b : Nat) (ha : a ≤ 1048576) (hb : b ≤ 1048576) (w : World) : Calls Tryz.prog 37 #[.int .i64 a, .int .i64 b] w fun e w' => e = .returned (.int .i64 ((a + b : Nat) : Int)) ∧ w' = w := by
  go_enter Tryz.func37, Tryz.ntmps37
  go_wp2_with fail
  go_ret
  exact ⟨by simp, rfl⟩
theorem acc_cnt (ks : List Tr) (j : Nat) (k : Tr) (h : ks[j]? = some k) : cntL (ks.take (j + 1)) = cntL (ks.take j) + k.cnt := by
  obtain ⟨h1, h2⟩ := List.getElem?_eq_some_iff.1 h
  rw [List.take_add_one, h]
  exact cntL_snoc _ _
/-- tree.Count of a tree. -/
theorem fold_cnt (w : World) (t : Tr) {P : Nat → Prop} (hT : IsT w P t) (hnd : t.nodes.Nodup) (hc : t.cnt ≤ 1048575) :
    Calls Tryz.prog 36 #[ptrV t.p, .func (.func 37) #[] #[]] w fun e w' => e = .returned (.int .i64 (t.cnt : Int)) ∧ Below w.heap.size w w' := by
  have hmm := @run_makeMap Tryz.prog
  have B0 : Below w.heap.size w (w.alloc (.map #[] 0)) := below_new w _
  have hT1 : IsT (w.alloc (.map #[] 0)) P t := hT.below B0
  have HR := rising_any _ t hT1 hnd (by omega)
  have pm0 := PMap.made w encP (okNd w.heap.size) (.int .i64 0)
  have hTb : IsT w (· < w.heap.size) t := hT.keep (fun j _ h => h) (fun j _ h => rfl)
  have s0 : (w.alloc (.map #[] 0)).heap.size = w.heap.size + 1 := by simp
  rw [s0] at HR
  obtain ⟨L, hL⟩ : ∃ L, (postT t).length = L := ⟨_, rfl⟩
  have hLc : L = t.cnt := hL.symm.trans (post_len t)
  have HLC := Lib.hid (And.intro hL hLc)
  have HB0 := Lib.hid B0
  have HTB := Lib.hid hTb
  have HND := Lib.hid (post_nodup t hnd)
  have hL2 : L ≤ 1048575 := by omega
  clear hT hT1 hnd hTb B0 hL hLc
  simp only [ptrV] at HR ⊢
  go_enter Tryz.func36, Tryz.ntmps36
  go_wp2_with fail
  refine HR.mono ?_
  rintro e w1 ⟨rv, rfl, B1, R1⟩
  have pm1 : PMap w1 encP (okNd w.heap.size) w.heap.size (.int .i64 0) (fun _ => .int .i64 0) := pm0.keep (B1.block _ (by omega)) (fun a ha => ha.below (B1.mono (Nat.le_succ _)))
  have HBB := Lib.hid (HB0.out.trans (B1.mono (Nat.le_succ _)))
  obtain ⟨q, cap, hq⟩ := R1.form
  rw [List.length_map, HLC.out.1] at hq
  subst hq
  have HR1 := Lib.hid R1
  have HP1 := Lib.hid pm1
  clear HR pm0 pm1 R1 B1
  go_wp2_with fail
  go_loopw [15] (fun i wr => ∃ (k : Nat) (f : Option Nat → Value), k ≤ L ∧ i = .int .i64 k ∧ PMap wr encP (okNd w.heap.size) w.heap.size (.int .i64 0) f ∧ (∀ (j : Nat) (u : Tr), j < k → (postT t)[j]? = some u → f (some u.p) = .int .i64 (u.cnt : Int)) ∧ Fr [w.heap.size] w1 wr) (fun i _ => L - (intOf i).toNat)
  case atStart => exact ⟨0, _, Nat.zero_le _, rfl, HP1.out, fun j u hj => (by omega), Fr.refl _ _⟩
  case round =>
    obtain ⟨k, f, hk, rfl, pm, hf, F⟩ := hrel
    have hbl : Below w.heap.size w wr := HBB.out.trans (F.below w.heap.size (fun j hj => by simp at hj; omega) (by have := HBB.out.size; omega))
    by_cases hkL : k = L
    · subst hkL
      have hlast : (postT t)[k - 1]? = some t := by
        have h1 : (postT t).getLast? = some t := by cases t; simp [postT]
        rw [List.getLast?_eq_getElem?, HLC.out.1] at h1
        exact h1
      have hft := hf (k - 1) t (by have := HLC.out.2; have := cnt_pos t; omega) hlast
      have hok : okNd w.heap.size wr (some t.p) := fun p' hp' => by
        obtain rfl : t.p = p' := by simpa using hp'
        cases t
        obtain ⟨h1, ⟨v, h2, _⟩, _⟩ := HTB.out
        exact ⟨h1, _, _, (hbl.block _ h1).trans h2⟩
      have L0 := pm.lookup (keyP w.heap.size) Tryz.underlying74 (zeroI wr) (some t.p) hok
      rw [hft] at L0
      simp only [encP, ptrV] at L0
      have HH := Lib.hid hbl
      clear pm hf hft hok hbl F
      go_wp2_with fail
      go_ret
      exact ⟨rfl, HH.out⟩
    · have hlt : k < L := by omega
      obtain ⟨u, hu⟩ : ∃ u, (postT t)[k]? = some u := ⟨_, List.getElem?_eq_getElem (by have := HLC.out.1; omega)⟩
      have hum : u ∈ postT t := List.mem_of_getElem? hu
      have hTu : IsT wr (· < w.heap.size) u := (HTB.out.post u hum).keep (fun _ h _ => h) (fun j h _ => hbl.block j h)
      have hucnt : u.cnt ≤ t.cnt := post_cnt t u hum
      have R2 := HR1.out.frame F (fun j hj h => by
        have e : j = w.heap.size := by simpa using h
        have := (HR1.out.base j hj).1; omega)
      obtain ⟨g, cp, hv, cU⟩ := Row.cell R2 k u.p (by rw [List.getElem?_map, hu]; rfl)
      have hq2 : q = some ⟨g, 0, none⟩ := by injection hv
      subst hq2
      clear hv
      have hks : ∀ x ∈ u.ks, IsT wr (· < w.heap.size) x := by
        cases u; exact fun x hx => hTu.2.2.at x hx
      have hkf : ∀ x ∈ u.ks, f (some x.p) = .int .i64 (x.cnt : Int) := fun x hx => by
        obtain ⟨j, h1, h2⟩ := ord_post t k u hu x hx
        exact hf j x h1 h2
      have hkc : ∀ x ∈ u.ks, x.cnt ≤ 1048575 := fun x hx => by
        have := cnt_leL x u.ks hx
        have := cnt_ks u
        have := HLC.out.2
        omega
      have hun : ∀ (j : Nat) (x : Tr), j < k → (postT t)[j]? = some x → x.p ≠ u.p := fun j x hj hx e => by
        have hjk := HND.out
        rw [List.nodup_iff_pairwise_ne, List.pairwise_iff_getElem] at hjk
        obtain ⟨h1, h1'⟩ := List.getElem?_eq_some_iff.1 hx
        obtain ⟨h2, h2'⟩ := List.getElem?_eq_some_iff.1 hu
        refine hjk j k (by simpa using h1) (by simpa using h2) hj ?_
        simp [h1', h2', e]
      have huacc : u.cnt = cntL u.ks + 1 := cnt_ks u
      have hulim : cntL u.ks ≤ 1048575 := by have := cnt_ks u; have := HLC.out.2; omega
      obtain ⟨pu, du, ks⟩ := u
      obtain ⟨hpu, ⟨vu, hnu, hru⟩, _⟩ := hTu
      have hN : NodeAt wr pu du vu := ⟨hnu⟩
      have cK := hN.c4
      simp only [ptrV, Tr.p] at cU
      have fK := hN.f
      obtain ⟨qk, capk, hvu⟩ := hru.form
      rw [List.length_map] at hvu
      subst hvu
      have hksl : ks.length ≤ 1048575 := by have := kslen_le ks; have : cntL ks ≤ 1048575 := hulim; omega
      have hok : okNd w.heap.size wr (some pu) := fun p' hp' => by
        obtain rfl : pu = p' := by simpa using hp'
        exact ⟨hpu, _, _, hnu⟩
      have L1 := fun (x : Option Nat) (hx : okNd w.heap.size wr x) => pm.lookup (keyP w.heap.size) Tryz.underlying74 (zeroI wr) x hx
      have HUP := Lib.hid (pm.update (keyP w.heap.size) Tryz.underlying74 (some pu) hok (.int .i64 (((cntL ks : Nat) : Int) + 1)))
      have HL1 := Lib.hid L1
      have HF := Lib.hid F
      have HH := Lib.hid hbl
      have Hf := Lib.hid hf
      have Hks := Lib.hid hks
      have Hkf := Lib.hid hkf
      have Hkc := Lib.hid hkc
      have Hun := Lib.hid hun
      have HA := Lib.hid huacc
      have HRU := Lib.hid hru
      have hul : cntL ks ≤ 1048575 := hulim
      have hal : cntL ks ≤ 1048575 := by omega
      have HU := Lib.hid hu
      clear pm L1 hf F hbl hks hkf hkc hun huacc hru hnu hN R2 hum hucnt hok hulim hu
      go_wp2_with fail
      go_loop [8, 24] (fun b i => ∃ j : Nat, j ≤ ks.length ∧ i = .int .i64 j ∧ b = .int .i64 ((cntL (ks.take j) : Nat) : Int)) (fun _ i => ks.length - (intOf i).toNat)
      case atStart => exact ⟨0, Nat.zero_le _, rfl, rfl⟩
      case round =>
        obtain ⟨j, hj, rfl, rfl⟩ := hrel
        by_cases hjl : j = ks.length
        · subst hjl
          rw [List.take_length]
          obtain ⟨w2, U1, pm2, g2⟩ := HUP.out
          simp only [encP, ptrV] at U1
          have HG := Lib.hid (And.intro pm2 g2)
          have hw1 : IntKind.i64.wrap (((cntL ks : Nat) : Int) + 1) = ((cntL ks : Nat) : Int) + 1 := wrap_i64 _ (by omega) (by omega)
          clear pm2 g2
          go_wp2_with fail
          go_roundw
          case rel =>
            refine ⟨k + 1, _, by omega, by simp, HG.out.1, fun j x hj hx => ?_, HF.out.trans (Fr.of_grown HG.out.2) (fun j hj => .inl hj)⟩
            by_cases hjk : j = k
            · subst hjk
              have hx' := HU.out
              rw [hx] at hx'
              obtain rfl : x = .node pu du ks := by simpa using hx'
              have := HA.out
              show (if some pu = some pu then _ else _) = _
              rw [if_pos rfl, this]
              simp [Tr.ks]
            · have h1 := Hun.out j x (by omega) hx
              show (if some x.p = some pu then _ else _) = _
              rw [if_neg (fun e => h1 (by injection e))]
              exact Hf.out j x (by omega) hx
          case measure => simp [intOf]; omega
        · have hjlt : j < ks.length := by omega
          obtain ⟨x, hx⟩ : ∃ x, ks[j]? = some x := ⟨_, List.getElem?_eq_getElem hjlt⟩
          have hxm : x ∈ ks := List.mem_of_getElem? hx
          obtain ⟨gk, ck, hv2, cX⟩ := Row.cell HRU.out j x.p (by rw [List.getElem?_map, hx]; rfl)
          have hq3 : qk = some ⟨gk, 0, none⟩ := by injection hv2
          subst hq3
          have hokx : okNd w.heap.size wr (some x.p) := fun p' hp' => by
            obtain rfl : x.p = p' := by simpa using hp'
            have := Hks.out x hxm
            cases x
            obtain ⟨h1, ⟨v, h2, _⟩, _⟩ := this
            exact ⟨h1, _, _, h2⟩
          have LX := HL1.out (some x.p) hokx
          rw [Hkf.out x hxm] at LX
          simp only [encP, ptrV] at LX
          have hxc : x.cnt ≤ 1048575 := Hkc.out x hxm
          have hta : cntL (ks.take j) ≤ 1048575 := by have := cntL_take ks j; omega
          have HJ := j_cnt (cntL (ks.take j)) x.cnt (by omega) (by omega) wr
          have HAC := Lib.hid (acc_cnt ks j x hx)
          generalize hA : cntL (ks.take j) = A at *
          generalize hX : x.cnt = X at *
          clear hv2 hokx hxm hx
          simp only [ptrV] at cX
          go_wp2_with fail
          refine HJ.mono ?_
          rintro e w' ⟨rfl, rfl⟩
          go_wp2_with fail
          go_round
          case rel => exact ⟨j + 1, by omega, by simp, by rw [HAC.out] <;> simp⟩
          case measure => simp [intOf]; omega
theorem Count_any (w : World) (t : Tr) {P : Nat → Prop} (hT : IsT w P t) (hnd : t.nodes.Nodup) (hc : t.cnt ≤ 1048575) :
    Calls Tryz.prog 16 #[ptrV t.p] w fun e w' => e = .returned (.int .i64 (t.cnt : Int)) ∧ Below w.heap.size w w' := by
  have HF := fold_cnt w t hT hnd hc
  simp only [ptrV] at HF ⊢
  go_enter Tryz.func16, Tryz.ntmps16
  go_wp2_with fail
  refine HF.mono ?_
  rintro e w1 ⟨rfl, B⟩
  go_wp2_with fail
  go_ret
  exact ⟨rfl, B⟩
end Go.Proofs.YtbfclibjnanlgaaGreatDoor
