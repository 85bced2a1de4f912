/- Several texts in one. -/
import Derived.Test.YtliebhpddjbjeaaGreatDoorReC
import Derived.Test.YtliebhpddjbjeaaGreatDoorPlD
import Derived.Test.YtliebhpddjbjeaaGreatDoorTrJ
import Derived.Test.YtliebhpddjbjeaaGreatDoorPlA
import Derived.Deep.RegionHeld3
/- The document's Count and Deep of layer 5, walked. -/
namespace Go.Proofs.YtliebhpddjbjeaaGreatDoor
open Go.RowKit
set_option maxHeartbeats 4000000
set_option maxRecDepth 100000
set_option linter.unusedVariables false
set_option linter.unusedSimpArgs false

theorem rCount_any : ∀ (n : Nat) (t : Tr) (w : World) {P : Nat → Prop}, t.cnt ≤ n → t.cnt ≤ 1048576 → IsT w P t →
    Calls Tryz.prog 23 #[ptrV t.p] w fun e w' => e = .returned (.int .i64 t.cnt) ∧ Below w.heap.size w w' := by
  intro n
  induction n with
  | zero => intro t w P hn; have := cnt_pos t; omega
  | succ n ih =>
  intro t w P hn hcb hT
  have HIH := Lib.hid ih
  clear ih
  obtain ⟨qa, ca, ha, hra⟩ := ist_node hT
  have hkT : ∀ k ∈ t.ks, IsT w P k := by cases t; exact fun k hk => hT.2.2.at k hk
  have hcnt : ∀ k ∈ t.ks, k.cnt ≤ n ∧ k.cnt ≤ 1048576 := fun k hk => by
    have h1 := cnt_leL k t.ks hk
    have h2 := cnt_ks t
    omega
  have hP : NodeAt w t.p t.d (.slice qa t.ks.length ca) := ⟨ha⟩
  have p4 := hP.c4
  have hml : t.ks.length ≤ 9223372036854775807 := by have := Row.len_le hra; rwa [List.length_map] at this
  have hcl : cntL t.ks ≤ 1048575 := by have := cnt_ks t; omega
  have HKS := Lib.hid (And.intro hra (And.intro hkT (And.intro hcnt (And.intro (cnt_ks t) hcl))))
  clear hP ha hT hra hkT hcnt hn hcb hcl
  obtain ⟨m, hm⟩ : ∃ m, t.ks.length = m := ⟨_, rfl⟩
  rw [hm] at p4 hml
  have HMM := Lib.hid hm
  clear hm
  simp only [ptrV]
  go_enter Tryz.func23, Tryz.ntmps23
  go_wp2_with fail
  go_loopw [3, 4] (fun c i wr => ∃ j s : Nat, j ≤ m ∧ i = .int .i64 j ∧ c = .int .i64 s ∧ s = cntL (t.ks.take j) + 1 ∧ Below w.heap.size w wr) (fun _ i _ => m - (intOf i).toNat)
  case atStart => exact ⟨0, 1, Nat.zero_le _, rfl, rfl, by simp [cntL], Below.refl _ _⟩
  case round =>
    obtain ⟨j, s, hj, rfl, rfl, hs, hB⟩ := hrel
    have HS := Lib.hid hs
    have pp4 := (hB.cell (Lib.lt_of_cell p4)).trans p4
    by_cases hjm : j < m
    · obtain ⟨r1, r3, r5, r6, r7⟩ := HKS.out
      have z1 := HMM.out
      obtain ⟨k, hk⟩ : ∃ k, t.ks[j]? = some k := ⟨_, List.getElem?_eq_getElem (by omega)⟩
      obtain ⟨ga, cpa, hva, cK⟩ := Row.cell r1 j k.p (by rw [List.getElem?_map, hk]; rfl)
      have hqa : qa = some ⟨ga, 0, none⟩ := by injection hva
      subst hqa
      have cK := (hB.cell (Lib.lt_of_cell cK)).trans cK
      simp only [ptrV] at cK
      have HR := HIH.out k wr (r5 k (List.mem_of_getElem? hk)).1 (r5 k (List.mem_of_getElem? hk)).2 ((r3 k (List.mem_of_getElem? hk)).below hB)
      have htk : cntL (t.ks.take (j + 1)) = cntL (t.ks.take j) + k.cnt := by rw [List.take_add_one, hk]; exact cntL_snoc _ _
      have hle := cntL_take t.ks (j + 1)
      have HTK := Lib.hid htk
      have hj0 : (0 : Int) ≤ (j : Int) := by omega
      have hj1 : (j : Int) < (m : Int) := by omega
      have hww : IntKind.i64.wrap ((s : Int) + (k.cnt : Int)) = (s : Int) + (k.cnt : Int) := wrap_i64 _ (by omega) (by omega)
      have HB := Lib.hid hB
      have hB0 : Fr [] wr wr.drew := Fr.drew wr
      clear hk hva r1 r3 r5 r6 r7 z1 htk hle hB hs
      simp only [ptrV] at HR
      go_wp2_with fail
      refine HR.mono ?_
      rintro e w9 ⟨rfl, B9⟩
      have HB9 := Lib.hid (HB.out.trans (B9.mono HB.out.size))
      clear HR
      go_wp2_with fail
      go_roundw
      case rel => exact ⟨j + 1, s + k.cnt, by omega, by simp, by simp, by rw [HTK.out, HS.out]; omega, HB9.out⟩
      case measure => simp [intOf]; omega
    · obtain rfl : j = m := by omega
      have HB := Lib.hid hB
      have hst : s = t.cnt := by
        rw [hs, List.take_of_length_le (by rw [HMM.out]; exact Nat.le_refl _), HKS.out.2.2.2.1]
      clear hB hs
      go_wp2_with fail
      go_ret
      exact ⟨by rw [hst]; rfl, HB.out⟩
theorem rDeep_any : ∀ (n : Nat) (t : Tr) (w : World) {P : Nat → Prop}, t.cnt ≤ n → t.cnt ≤ 1048576 → IsT w P t →
    Calls Tryz.prog 25 #[ptrV t.p] w fun e w' => e = .returned (.int .i64 t.deep) ∧ Below w.heap.size w w' := by
  intro n
  induction n with
  | zero => intro t w P hn; have := cnt_pos t; omega
  | succ n ih =>
  intro t w P hn hcb hT
  have HIH := Lib.hid ih
  clear ih
  obtain ⟨qa, ca, ha, hra⟩ := ist_node hT
  have hkT : ∀ k ∈ t.ks, IsT w P k := by cases t; exact fun k hk => hT.2.2.at k hk
  have hcnt : ∀ k ∈ t.ks, k.cnt ≤ n ∧ k.cnt ≤ 1048576 := fun k hk => by
    have h1 := cnt_leL k t.ks hk
    have h2 := cnt_ks t
    omega
  have hP : NodeAt w t.p t.d (.slice qa t.ks.length ca) := ⟨ha⟩
  have p4 := hP.c4
  have hml : t.ks.length ≤ 9223372036854775807 := by have := Row.len_le hra; rwa [List.length_map] at this
  have hcl : cntL t.ks ≤ 1048575 := by have := cnt_ks t; omega
  have HKS := Lib.hid (And.intro hra (And.intro hkT (And.intro hcnt (And.intro (deep_ks t) hcl))))
  clear hP ha hT hra hkT hcnt hn hcb hcl
  obtain ⟨m, hm⟩ : ∃ m, t.ks.length = m := ⟨_, rfl⟩
  rw [hm] at p4 hml
  have HMM := Lib.hid hm
  clear hm
  simp only [ptrV]
  go_enter Tryz.func25, Tryz.ntmps25
  go_wp2_with fail
  go_loopw [3, 4] (fun c i wr => ∃ j : Nat, j ≤ m ∧ i = .int .i64 j ∧ c = .int .i64 ((deepL (t.ks.take j) : Nat) : Int) ∧ Below w.heap.size w wr) (fun _ i _ => m - (intOf i).toNat)
  case atStart => exact ⟨0, Nat.zero_le _, rfl, by simp [deepL], Below.refl _ _⟩
  case round =>
    obtain ⟨j, hj, rfl, rfl, hB⟩ := hrel
    have pp4 := (hB.cell (Lib.lt_of_cell p4)).trans p4
    by_cases hjm : j < m
    · obtain ⟨r1, r3, r5, r6, r7⟩ := HKS.out
      have z1 := HMM.out
      obtain ⟨k, hk⟩ : ∃ k, t.ks[j]? = some k := ⟨_, List.getElem?_eq_getElem (by omega)⟩
      obtain ⟨ga, cpa, hva, cK⟩ := Row.cell r1 j k.p (by rw [List.getElem?_map, hk]; rfl)
      have hqa : qa = some ⟨ga, 0, none⟩ := by injection hva
      subst hqa
      have cK := (hB.cell (Lib.lt_of_cell cK)).trans cK
      simp only [ptrV] at cK
      have HR := HIH.out k wr (r5 k (List.mem_of_getElem? hk)).1 (r5 k (List.mem_of_getElem? hk)).2 ((r3 k (List.mem_of_getElem? hk)).below hB)
      have htk : deepL (t.ks.take (j + 1)) = max (deepL (t.ks.take j)) k.deep := by rw [List.take_add_one, hk]; exact deepL_snoc _ _
      have hle := cntL_take t.ks (j + 1)
      have HTK := Lib.hid htk
      have hj0 : (0 : Int) ≤ (j : Int) := by omega
      have hj1 : (j : Int) < (m : Int) := by omega
      have HB := Lib.hid hB
      have hB0 : Fr [] wr wr.drew := Fr.drew wr
      clear hk hva r1 r3 r5 r6 r7 z1 htk hle hB
      simp only [ptrV] at HR
      go_wp2_with fail
      refine HR.mono ?_
      rintro e w9 ⟨rfl, B9⟩
      have HB9 := Lib.hid (HB.out.trans (B9.mono HB.out.size))
      clear HR
      go_wp2_with fail
      go_roundw
      case rel => exact ⟨j + 1, by omega, by simp, by rw [HTK.out]; simp <;> omega, HB9.out⟩
      case measure => simp [intOf]; omega
    · obtain rfl : j = m := by omega
      have HB := Lib.hid hB
      have hdl : deepL (t.ks.take j) ≤ 1048576 := by
        have h1 := deepL_le (t.ks.take j)
        have h2 := cntL_take t.ks j
        have h3 := HKS.out.2.2.2.2
        omega
      have hwd : IntKind.i64.wrap ((deepL (t.ks.take j) : Int) + 1) = (deepL (t.ks.take j) : Int) + 1 := wrap_i64 _ (by omega) (by omega)
      clear hB
      go_wp2_with fail
      go_ret
      refine ⟨?_, HB.out⟩
      rw [List.take_of_length_le (by rw [HMM.out]; exact Nat.le_refl _), HKS.out.2.2.2.1]
      simp
end Go.Proofs.YtliebhpddjbjeaaGreatDoor
/- The document's Number of layer 5, walked. -/
namespace Go.Proofs.YtliebhpddjbjeaaGreatDoor
open Go.RowKit
set_option maxHeartbeats 4000000
set_option maxRecDepth 100000
set_option linter.unusedVariables false
set_option linter.unusedSimpArgs false

theorem dgs_len2 (m : Nat) (h : m ≤ 9223372036854775808) : (dgs m).length ≤ 19 := by
  unfold dgs
  split
  · simp
  · exact dec_len 18 m (by omega)
theorem Number_pos (n : Nat) (hn0 : 0 < n) (hn : n ≤ 9223372036854775807) (w : World) :
    Calls Tryz.prog 60 #[.int .i64 n] w fun e w' => e = .returned (.string ⟨(dgs n).toArray⟩) ∧ Below w.heap.size w w' := by
  have conv := conv1
  have hg : ¬ ((n : Int) < 0) := by omega
  have hz : ¬ ((n : Int) = 0) := by omega
  go_enter Tryz.func60, Tryz.ntmps60
  go_wp2_with fail
  go_loopw [0, 3] (fun n' t wr => ∃ (m : Nat) (l : List UInt8), m ≤ 9223372036854775807 ∧ dgs n = dgs m ++ l ∧ n' = .int .i64 m ∧ t = .string ⟨l.toArray⟩ ∧ Below w.heap.size w wr) (fun n' _ _ => (intOf n').toNat)
  case atStart => exact ⟨n, [], hn, by simp, rfl, rfl, Below.refl _ _⟩
  case round =>
    obtain ⟨m, l, hm, hl, rfl, rfl, hb⟩ := hrel
    have hll : l.length ≤ 19 := by
      have h1 := congrArg List.length hl
      have h2 := dgs_len2 n (by omega)
      rw [List.length_append] at h1
      omega
    have HL := Lib.hid hl
    clear hl
    have hsz := hb.size
    by_cases h0 : 0 < m
    · have hm0 : ¬ ((m : Int) = 0) := by omega
      go_wp2_with fail
      go_roundw
      case rel =>
        refine ⟨m / 10, UInt8.ofNat (48 + m % 10) :: l, by omega, ?_, by go_num, ?_, hb.alloc hsz _⟩
        · rw [HL.out, dgs_step m h0, List.append_assoc]; rfl
        · rw [dig_add, bcat]
      case measure => simp [intOf]; omega
    · obtain rfl : m = 0 := by omega
      have HT : Hid (l = dgs n) := Lib.hid (by rw [HL.out]; rfl)
      go_wp2_with fail
      go_ret
      exact ⟨ret_str (by rw [HT.out]), hb⟩
theorem conv1n (W : World) (k : Nat) (hk : k < 10) : (convert 45 9 (.slice (some ⟨W.heap.size, 0, none⟩) 1 1)).run Tryz.prog (W.alloc (.cells #[.int .u8 (48 + (k : Int))] 5)) = .ok (.string ⟨#[UInt8.ofNat (48 + k)]⟩) (W.alloc (.cells #[.int .u8 (48 + (k : Int))] 5)) := by
  rw [conv1]
  have e : ((48 : Int) + (k : Int)).toNat = 48 + k := by omega
  rw [e]
theorem Number_neg (n : Nat) (hn0 : 0 < n) (hn : n ≤ 9223372036854775808) (w : World) :
    Calls Tryz.prog 60 #[.int .i64 (-(n : Int))] w fun e w' => e = .returned (.string ⟨(45 :: dgs n).toArray⟩) ∧ Below w.heap.size w w' := by
  have hg : (-(n : Int)) < 0 := by omega
  have hz : ¬ (-(n : Int) = 0) := by omega
  obtain ⟨zn, hzn⟩ : ∃ zn : Int, -(n : Int) = zn := ⟨_, rfl⟩
  rw [hzn] at hg hz ⊢
  go_enter Tryz.func60, Tryz.ntmps60
  go_wp2_with fail
  go_loopw [0, 3] (fun n' t wr => ∃ (m : Nat) (z : Int) (l : List UInt8), m ≤ 9223372036854775808 ∧ dgs n = dgs m ++ l ∧ n' = .int .i64 z ∧ z = -(m : Int) ∧ t = .string ⟨l.toArray⟩ ∧ Below w.heap.size w wr) (fun n' _ _ => (intOf n').natAbs)
  case atStart => exact ⟨n, zn, [], hn, by simp, rfl, hzn.symm, rfl, Below.refl _ _⟩
  case round =>
    obtain ⟨m, z, l, hm, hl, rfl, hzm, rfl, hb⟩ := hrel
    have hll : l.length ≤ 19 := by
      have h1 := congrArg List.length hl
      have h2 := dgs_len2 n (by omega)
      rw [List.length_append] at h1
      omega
    have HL := Lib.hid hl
    have HZ := Lib.hid hzm
    clear hl
    have hsz := hb.size
    by_cases h0 : 0 < m
    · have hm0 : ¬ (z = 0) := by omega
      obtain ⟨r, hr⟩ : ∃ r : Nat, m % 10 = r := ⟨_, rfl⟩
      have hr10 : r < 10 := by omega
      have hrem : z.tmod 10 = -(r : Int) := by rw [hzm, Int.neg_tmod, Int.tmod_eq_emod_of_nonneg (by omega)]; omega
      have hquo : z.tdiv 10 = -((m / 10 : Nat) : Int) := by rw [hzm, Int.neg_tdiv, Int.tdiv_eq_ediv_of_nonneg (by omega)]; omega
      have HR := Lib.hid hr
      obtain ⟨zq, hzq⟩ : ∃ zq : Int, -((m / 10 : Nat) : Int) = zq := ⟨_, rfl⟩
      have hwq : IntKind.i64.wrap zq = zq := wrap_i64 _ (by omega) (by omega)
      have HQ := Lib.hid hzq
      have hna : zq.natAbs < z.natAbs := by omega
      rw [hzq] at hquo
      have cv := fun W => conv1n W r hr10
      have w8 : IntKind.u8.wrap (48 + (r : Int)) = 48 + (r : Int) := IntWalk.u8_in _ ⟨by omega, by omega⟩
      have w64 : IntKind.i64.wrap (48 + (r : Int)) = 48 + (r : Int) := wrap_i64 _ (by omega) (by omega)
      clear hr hzm hzq
      by_cases hr0 : r = 0
      · subst hr0
        have hrem0 : z.tmod 10 = 0 := by rw [hrem]; rfl
        have cv0 : ∀ W : World, (convert 45 9 (.slice (some ⟨W.heap.size, 0, none⟩) 1 1)).run Tryz.prog (W.alloc (.cells #[.int .u8 48] 5)) = .ok (.string ⟨#[48]⟩) (W.alloc (.cells #[.int .u8 48] 5)) := fun W => conv1 W 48
        clear hrem cv
        go_wp2_with fail
        go_roundw
        case rel =>
          refine ⟨m / 10, _, UInt8.ofNat (48 + 0) :: l, by omega, ?_, rfl, HQ.out.symm, ?_, hb.alloc hsz _⟩
          · rw [HL.out, dgs_step m h0, List.append_assoc, HR.out]; rfl
          · rw [← bcat]; rfl
        case measure => simp [intOf]; omega
      · have hneg : -(r : Int) < 0 := by omega
        have wn : IntKind.i64.wrap (- -(r : Int)) = (r : Int) := by rw [Int.neg_neg]; exact wrap_i64 _ (by omega) (by omega)
        have wn2 : IntKind.i64.wrap (r : Int) = (r : Int) := wrap_i64 _ (by omega) (by omega)
        go_wp2_with fail
        go_roundw
        case rel =>
          refine ⟨m / 10, _, UInt8.ofNat (48 + r) :: l, by omega, ?_, rfl, HQ.out.symm, ?_, hb.alloc hsz _⟩
          · rw [HL.out, dgs_step m h0, List.append_assoc, HR.out]; rfl
          · rw [dig_add, ← bcat]; rfl
        case measure => simp [intOf]; omega
    · obtain rfl : m = 0 := by omega
      have hz0 : z = 0 := by rw [hzm]; rfl
      have HT : Hid (l = dgs n) := Lib.hid (by rw [HL.out]; rfl)
      have hzz : (z == 0) = true := by rw [hz0]; rfl
      have hzb : (z != 0) = false := by rw [hz0]; rfl
      have hb45 : (⟨#[45]⟩ : ByteArray) ++ ⟨l.toArray⟩ = ⟨(45 :: l).toArray⟩ := bcat 45 l
      have HBC := Lib.hid hb45
      clear hb45 hzz hzb HL HZ hzm
      subst hz0
      go_wp2_with fail
      go_ret
      refine ⟨ret_str ?_, hb⟩
      rw [← HT.out]
      first | exact HBC.out | rfl
theorem Number_any (n : Int) (h0 : -9223372036854775808 ≤ n) (h1 : n ≤ 9223372036854775807) (w : World) :
    Calls Tryz.prog 60 #[.int .i64 n] w fun e w' => e = .returned (.string ⟨(Lib.itoa n).toArray⟩) ∧ Below w.heap.size w w' := by
  by_cases hz : n = 0
  · subst hz
    have e : Lib.itoa 0 = [48] := by
      unfold Lib.itoa
      rw [if_neg (by decide), show (0 : Int).toNat = 0 from rfl, Lib.decDigits, dif_pos (by decide)]
      rfl
    rw [e]
    go_enter Tryz.func60, Tryz.ntmps60
    go_wp2_with fail
    go_ret
    exact ⟨rfl, Below.refl _ _⟩
  · by_cases hn : n < 0
    · obtain ⟨k, hk⟩ : ∃ k : Nat, n = -(k : Int) := ⟨n.natAbs, by omega⟩
      have h := Number_neg k (by omega) (by omega) w
      have e : Lib.itoa n = 45 :: dgs k := by
        unfold Lib.itoa dgs
        rw [if_pos hn, if_neg (by omega), show n.natAbs = k by omega]
      rw [e, hk]
      exact h
    · obtain ⟨k, hk⟩ : ∃ k : Nat, n = (k : Int) := ⟨n.toNat, by omega⟩
      have h := Number_pos k (by omega) (by omega) w
      have e : Lib.itoa n = dgs k := by
        unfold Lib.itoa dgs
        rw [if_neg hn, if_neg (by omega), show n.toNat = k by omega]
      rw [e, hk]
      exact h
end Go.Proofs.YtliebhpddjbjeaaGreatDoor
/- The document's place and Text of layer 5, walked. -/
namespace Go.Proofs.YtliebhpddjbjeaaGreatDoor
open Go.RowKit
set_option maxHeartbeats 4000000
set_option maxRecDepth 100000
set_option linter.unusedVariables false
set_option linter.unusedSimpArgs false
attribute [local go_sem ↓] run_add_b

theorem cat_txt (a b : List UInt8) : (⟨a.toArray⟩ : ByteArray) ++ ⟨#[58]⟩ ++ ⟨b.toArray⟩ = ⟨(a ++ 58 :: b).toArray⟩ := by
  apply ByteArray.ext
  simp
theorem rplace_any (l c : Int) (w : World) :
    Calls Tryz.prog 61 #[posV l c] w fun e w' => e = .returned (.string ⟨(if txtOf l c = [] then [45] else txtOf l c).toArray⟩) ∧ Below w.heap.size w w' := by
  obtain ⟨l', c', a1, a2, a3, a4, a5, a6, a7⟩ := posV_as l c
  have e1 : txtOf l c = txtOf l' c' := by
    rcases a7 with ⟨h, h1, h2⟩ | ⟨h, h1, h2⟩
    · rw [h1, h2]
    · rw [h1, h2]
      unfold txtOf
      rw [h, show isP 0 0 = false from by decide]
      rfl
  have hop1 : ∀ w, (convert 100 3 (.float .f64 (floatOfInt .f64 l'))).run Tryz.prog w = .ok (.int .i64 l') w := fun w =>
    run_convert_float_int (P := Tryz.prog) w 100 3 .f64 .i64 _ l' (by kernel_rfl) Tryz.underlying3 (by
      rw [fl_nat l' a1 (by omega)]
      have := to_int_fl l'.toNat (by omega) (by omega)
      rw [Int.toNat_of_nonneg a1] at this
      exact this)
  have hop2 : ∀ w, (convert 100 3 (.float .f64 (floatOfInt .f64 c'))).run Tryz.prog w = .ok (.int .i64 c') w := fun w =>
    run_convert_float_int (P := Tryz.prog) w 100 3 .f64 .i64 _ c' (by kernel_rfl) Tryz.underlying3 (by
      rw [fl_nat c' a3 (by omega)]
      have := to_int_fl c'.toNat (by omega) (by omega)
      rw [Int.toNat_of_nonneg a3] at this
      exact this)
  have HP := fun w => Pos_any l' c' w
  have HN := fun T w => neq_self (P := Tryz.prog) l' c' T w
  have a8 := a6.trans a5
  rw [e1, a5]
  obtain ⟨res, hres⟩ : ∃ res, (if txtOf l' c' = [] then [45] else txtOf l' c') = res := ⟨_, rfl⟩
  rw [hres]
  have HRE := Lib.hid hres
  clear hres
  rw [a8] at HN
  simp only [a8] at HP
  clear a5 a6 a7 a8 e1
  generalize floatOfInt .f64 l' = x at *
  generalize floatOfInt .f64 c' = y at *
  have HA := Lib.hid (And.intro a1 (And.intro a2 (And.intro a3 a4)))
  clear a1 a2 a3 a4
  go_enter Tryz.func61, Tryz.ntmps61
  go_wp2_with fail
  refine (HP _).mono ?_
  rintro e w1 ⟨rfl, hb1⟩
  have hc0 : w1.cell? ⟨w.heap.size, 0, none⟩ = some (.int .i64 l') := (hb1.cell (by simp)).trans (by rw [World.cell?_alloc_at _ _ _ _ rfl]; rfl)
  have hc1 : w1.cell? ⟨w.heap.size, 1, none⟩ = some (.int .i64 c') := (hb1.cell (by simp)).trans (by rw [World.cell?_alloc_at _ _ _ _ rfl]; rfl)
  have HB1 : Hid (Below w.heap.size w w1) := Lib.hid (bt (below_new _ _) hb1)
  clear hb1 HP hop1 hop2
  go_wp2_with fail
  refine (Is_any l' c' _).mono ?_
  rintro e w2 ⟨rfl, hb2⟩
  have hd0 := (hb2.cell (Lib.lt_of_cell hc0)).trans hc0
  have hd1 := (hb2.cell (Lib.lt_of_cell hc1)).trans hc1
  have HB2 := Lib.hid (HB1.out.trans (hb2.mono HB1.out.size))
  clear hb2 hc0 hc1 HN
  cases hp : isP l' c'
  · have ht : txtOf l' c' = [] := by unfold txtOf; rw [hp]; rfl
    have hr : Hid (res = [45]) := Lib.hid (by rw [← HRE.out, ht, if_pos rfl])
    clear hp ht
    go_wp2_with fail
    go_ret
    exact ⟨by rw [hr.out]; rfl, HB2.out⟩
  · obtain ⟨b1, b2, b3, b4⟩ := (isP_iff l' c').1 hp
    have ht : txtOf l' c' = dgs l'.toNat ++ 58 :: dgs c'.toNat := by
      unfold txtOf txt dgs
      rw [hp, if_pos rfl, if_neg (by omega), if_neg (by omega)]
    have hne : ¬ (txtOf l' c' = []) := by rw [ht]; simp
    have hr : Hid (res = dgs l'.toNat ++ 58 :: dgs c'.toNat) := Lib.hid (by rw [← HRE.out, if_neg hne, ht])
    have i1 : BLen ⟨(dgs l'.toNat).toArray⟩ 1 := ⟨by have := dgs_len l'.toNat (by omega); show (dgs l'.toNat).toArray.size ≤ _; rw [List.size_toArray]; omega⟩
    have i2 : BLen ⟨(dgs c'.toNat).toArray⟩ 1 := ⟨by have := dgs_len c'.toNat (by omega); show (dgs c'.toNat).toArray.size ≤ _; rw [List.size_toArray]; omega⟩
    have HK : ∀ (z : Int) (w1 : World), (z = l' ∨ z = c') → (w1.cell? ⟨w.heap.size, 0, none⟩ = some (.int .i64 l') ∧ w1.cell? ⟨w.heap.size, 1, none⟩ = some (.int .i64 c') ∧ Below w.heap.size w w1) → Calls Tryz.prog 78 #[.int .i64 z] w1 fun e w2 => e = .returned (.string ⟨(dgs z.toNat).toArray⟩) ∧ (w2.cell? ⟨w.heap.size, 0, none⟩ = some (.int .i64 l') ∧ w2.cell? ⟨w.heap.size, 1, none⟩ = some (.int .i64 c') ∧ Below w.heap.size w w2) := fun z w1 hz ⟨s1, s2, s3⟩ => by
      have h := rDigits_any z.toNat (by omega) w1
      rw [Int.toNat_of_nonneg (by omega)] at h
      refine h.mono ?_
      rintro e w2 ⟨rfl, B⟩
      exact ⟨rfl, (B.cell (Lib.lt_of_cell s1)).trans s1, (B.cell (Lib.lt_of_cell s2)).trans s2, s3.trans (B.mono s3.size)⟩
    have hB0 := HB2.out
    clear hp ht hne b1 b2 b3 b4
    go_wp2_with fail
    go_region_held3 (fun w' => w'.cell? ⟨w.heap.size, 0, none⟩ = some (.int .i64 l') ∧ w'.cell? ⟨w.heap.size, 1, none⟩ = some (.int .i64 c') ∧ Below w.heap.size w w')
      (first | assumption | (exact ⟨hd0, hd1, hB0⟩) | (exact ⟨hd0, hd1, hB0.drew⟩) | (exact ⟨hS.1, hS.2.1, hS.2.2.drew⟩))
      (first | (go_at_call 78; refine (HK _ _ (by first | exact .inl rfl | exact .inr rfl) (by assumption)).mono ?_; rintro e w9 ⟨rfl, hS⟩))
    all_goals
      clear HK i1 i2
      go_wp2_with fail
      go_ret
      refine ⟨?_, hS.2.2⟩
      rw [hr.out]
      exact congrArg (fun b => Ending.returned (Value.string b)) (cat_txt (dgs l'.toNat) (dgs c'.toNat))
end Go.Proofs.YtliebhpddjbjeaaGreatDoor
/- The document's Text of layer 5, walked. -/
namespace Go.Proofs.YtliebhpddjbjeaaGreatDoor
open Go.RowKit
set_option maxHeartbeats 4000000
set_option maxRecDepth 100000
set_option linter.unusedVariables false
set_option linter.unusedSimpArgs false
attribute [local go_sem ↓] run_add_b

theorem kid_cat (a b : List UInt8) : (⟨a.toArray⟩ : ByteArray) ++ ⟨#[32]⟩ ++ ⟨b.toArray⟩ = ⟨(a ++ 32 :: b).toArray⟩ := by
  apply ByteArray.ext
  simp
theorem end_cat (a : List UInt8) : (⟨a.toArray⟩ : ByteArray) ++ ⟨#[41]⟩ = ⟨(a ++ [41]).toArray⟩ := by
  apply ByteArray.ext
  simp
theorem textTL_take (l : List Tr) (j : Nat) : (textTL (l.take j)).length ≤ (textTL l).length := by
  have h : textTL l = textTL (l.take j) ++ textTL (l.drop j) := by rw [← textTL_app, List.take_append_drop]
  rw [h, List.length_append]
  omega
theorem okTL_at : ∀ {l : List Tr}, OkTL l → ∀ t ∈ l, OkT t
  | [], _, t, h => by cases h
  | u :: r, h, t, hm => by
    rcases List.mem_cons.1 hm with rfl | hm
    · exact h.1
    · exact okTL_at h.2 t hm
theorem rText_any : ∀ (n : Nat) (t : Tr) (w : World) {P : Nat → Prop}, t.cnt ≤ n → IsT w P t → OkT t → (textT t).length ≤ 1099511627776 →
    Calls Tryz.prog 27 #[ptrV t.p] w fun e w' => e = .returned (.string ⟨(textT t).toArray⟩) ∧ Below w.heap.size w w' := by
  intro n
  induction n with
  | zero => intro t w P hn; have := cnt_pos t; omega
  | succ n ih =>
  intro t w P hn hT hok hlen
  have HIH := Lib.hid ih
  clear ih
  obtain ⟨qa, ca, ha, hra⟩ := ist_node hT
  have hkT : ∀ k ∈ t.ks, IsT w P k := by cases t; exact fun k hk => hT.2.2.at k hk
  have hcnt : ∀ k ∈ t.ks, k.cnt ≤ n := fun k hk => by
    have h1 := cnt_leL k t.ks hk
    have h2 := cnt_ks t
    omega
  obtain ⟨⟨hd1, hd2, hd3⟩, hokL⟩ := (okT_eq t).1 hok
  have htt : textT t = headT t.d ++ (textTL t.ks ++ [41]) := by cases t; rfl
  have hln : (headT t.d).length + (textTL t.ks).length + 1 ≤ 1099511627776 := by
    rw [htt] at hlen
    simp only [List.length_append, List.length_cons, List.length_nil] at hlen
    omega
  have hxl : t.d.x.length ≤ (headT t.d).length := by simp [headT]; omega
  have hP : NodeAt w t.p t.d (.slice qa t.ks.length ca) := ⟨ha⟩
  have p0 := hP.c0
  have p1 := hP.c1
  have p2 := hP.c2
  have p3 := hP.c3
  have p4 := hP.c4
  have HPL := fun w => rplace_any t.d.l t.d.c w
  obtain ⟨px, py, hpx⟩ := posV_cx t.d.l t.d.c
  rw [hpx] at p1 HPL
  have hsz : (⟨t.d.x.toArray⟩ : ByteArray).size = t.d.x.length := by simp [ByteArray.size]
  have hxa : (⟨t.d.x.toArray⟩ : ByteArray).data.toList = t.d.x := by simp
  have hal : (if txtOf t.d.l t.d.c = [] then [45] else txtOf t.d.l t.d.c).length ≤ 21 := by
    split
    · simp
    · unfold txtOf
      split
      · exact txt_short _ _ (by assumption)
      · simp
  have HH : Hid (headT t.d = 40 :: (Lib.itoa t.d.k ++ 32 :: ((if txtOf t.d.l t.d.c = [] then [45] else txtOf t.d.l t.d.c) ++ 32 :: (Lib.itoa t.d.x.length ++ 58 :: (t.d.x ++ 32 :: Lib.itoa t.d.n))))) := Lib.hid rfl
  have HTT := Lib.hid (And.intro htt hln)
  have HKS := Lib.hid (And.intro hra (And.intro hkT (And.intro hcnt hokL)))
  have hml : t.ks.length ≤ 9223372036854775807 := by have := Row.len_le hra; rwa [List.length_map] at this
  obtain ⟨m, hm⟩ : ∃ m, t.ks.length = m := ⟨_, rfl⟩
  rw [hm] at p4 hml
  have HMM := Lib.hid hm
  have HRES := Lib.hid (show (⟨(textT t).toArray⟩ : ByteArray) = ⟨(textT t).toArray⟩ from rfl)
  obtain ⟨res, hres⟩ : ∃ res, textT t = res := ⟨_, rfl⟩
  have HR := Lib.hid hres
  rw [hres]
  clear hP ha hT hra hkT hcnt hn hok hokL htt hpx hm hres hlen HRES
  generalize hat0 : (if txtOf t.d.l t.d.c = [] then [45] else txtOf t.d.l t.d.c) = at0 at *
  generalize hdx : (⟨t.d.x.toArray⟩ : ByteArray) = dx at *
  have hwk : IntKind.i64.wrap (t.d.k : Int) = (t.d.k : Int) := wrap_i64 _ (by omega) (by omega)
  generalize hdk : (t.d.k : Int) = dk at *
  have hdk0 : 0 ≤ dk := by omega
  have hdk1 : dk ≤ 255 := by omega
  generalize hdn : t.d.n = dn at *
  have i1 : BLen ⟨(Lib.itoa dk).toArray⟩ 1 := ⟨by have := itoa_len dk (by omega) (by omega); show (Lib.itoa dk).toArray.size ≤ _; rw [List.size_toArray]; omega⟩
  have i2 : BLen ⟨(Lib.itoa (dx.size : Int)).toArray⟩ 1 := ⟨by have := itoa_len (dx.size : Int) (by omega) (by omega); show (Lib.itoa (dx.size : Int)).toArray.size ≤ _; rw [List.size_toArray]; omega⟩
  have i3 : BLen ⟨(Lib.itoa dn).toArray⟩ 1 := ⟨by have := itoa_len dn hd2 hd3; show (Lib.itoa dn).toArray.size ≤ _; rw [List.size_toArray]; omega⟩
  have i4 : BLen dx 1 := ⟨by omega⟩
  have i5 : BLen ⟨at0.toArray⟩ 1 := ⟨by show at0.toArray.size ≤ _; rw [List.size_toArray]; omega⟩
  have HXS := Lib.hid (And.intro hsz hxa)
  have HNU : ∀ (z : Int) (w1 : World), (z = dk ∨ z = (dx.size : Int) ∨ z = dn) → (w1.cell? ⟨t.p, 0, none⟩ = some (.int .u8 dk) ∧ w1.cell? ⟨t.p, 1, none⟩ = some (.complex .f64 px py) ∧ w1.cell? ⟨t.p, 2, none⟩ = some (.string dx) ∧ w1.cell? ⟨t.p, 3, none⟩ = some (.int .i64 dn) ∧ Below w.heap.size w w1) →
      Calls Tryz.prog 60 #[.int .i64 z] w1 fun e w2 => e = .returned (.string ⟨(Lib.itoa z).toArray⟩) ∧ (w2.cell? ⟨t.p, 0, none⟩ = some (.int .u8 dk) ∧ w2.cell? ⟨t.p, 1, none⟩ = some (.complex .f64 px py) ∧ w2.cell? ⟨t.p, 2, none⟩ = some (.string dx) ∧ w2.cell? ⟨t.p, 3, none⟩ = some (.int .i64 dn) ∧ Below w.heap.size w w2) := fun z w1 hz ⟨s0, s1, s2, s3, s4⟩ => by
    refine (Number_any z (by omega) (by omega) w1).mono ?_
    rintro e w2 ⟨rfl, B⟩
    exact ⟨rfl, (B.cell (Lib.lt_of_cell s0)).trans s0, (B.cell (Lib.lt_of_cell s1)).trans s1, (B.cell (Lib.lt_of_cell s2)).trans s2, (B.cell (Lib.lt_of_cell s3)).trans s3, s4.trans (B.mono s4.size)⟩
  have HPC : ∀ (w1 : World), (w1.cell? ⟨t.p, 0, none⟩ = some (.int .u8 dk) ∧ w1.cell? ⟨t.p, 1, none⟩ = some (.complex .f64 px py) ∧ w1.cell? ⟨t.p, 2, none⟩ = some (.string dx) ∧ w1.cell? ⟨t.p, 3, none⟩ = some (.int .i64 dn) ∧ Below w.heap.size w w1) →
      Calls Tryz.prog 61 #[.complex .f64 px py] w1 fun e w2 => e = .returned (.string ⟨at0.toArray⟩) ∧ (w2.cell? ⟨t.p, 0, none⟩ = some (.int .u8 dk) ∧ w2.cell? ⟨t.p, 1, none⟩ = some (.complex .f64 px py) ∧ w2.cell? ⟨t.p, 2, none⟩ = some (.string dx) ∧ w2.cell? ⟨t.p, 3, none⟩ = some (.int .i64 dn) ∧ Below w.heap.size w w2) := fun w1 ⟨s0, s1, s2, s3, s4⟩ => by
    refine (HPL w1).mono ?_
    rintro e w2 ⟨rfl, B⟩
    exact ⟨rfl, (B.cell (Lib.lt_of_cell s0)).trans s0, (B.cell (Lib.lt_of_cell s1)).trans s1, (B.cell (Lib.lt_of_cell s2)).trans s2, (B.cell (Lib.lt_of_cell s3)).trans s3, s4.trans (B.mono s4.size)⟩
  have hB0 : Below w.heap.size w w := Below.refl _ _
  clear HPL hsz hxa hln hxl hal hat0 hdx hdk hdn hd1
  simp only [ptrV]
  go_enter Tryz.func27, Tryz.ntmps27
  go_wp2_with fail
  go_region_held3 (fun w' => w'.cell? ⟨t.p, 0, none⟩ = some (.int .u8 dk) ∧ w'.cell? ⟨t.p, 1, none⟩ = some (.complex .f64 px py) ∧ w'.cell? ⟨t.p, 2, none⟩ = some (.string dx) ∧ w'.cell? ⟨t.p, 3, none⟩ = some (.int .i64 dn) ∧ Below w.heap.size w w')
    (first | assumption | (exact ⟨p0, p1, p2, p3, hB0⟩) | (exact ⟨p0, p1, p2, p3, hB0.drew⟩) | (exact ⟨hS.1, hS.2.1, hS.2.2.1, hS.2.2.2.1, hS.2.2.2.2.drew⟩))
    (first
      | (go_at_call 60; refine (HNU _ _ (by first | exact .inl rfl | exact .inr (.inl rfl) | exact .inr (.inr rfl)) (by assumption)).mono ?_; rintro e w9 ⟨rfl, hS⟩)
      | (go_at_call 61; refine (HPC _ (by assumption)).mono ?_; rintro e w9 ⟨rfl, hS⟩))
  have HB9 := Lib.hid hS.2.2.2.2
  have HHC : Hid ((⟨#[40]⟩ : ByteArray) ++ ⟨(Lib.itoa dk).toArray⟩ ++ ⟨#[32]⟩ ++ ⟨at0.toArray⟩ ++ ⟨#[32]⟩ ++ ⟨(Lib.itoa (dx.size : Int)).toArray⟩ ++ ⟨#[58]⟩ ++ dx ++ ⟨#[32]⟩ ++ ⟨(Lib.itoa dn).toArray⟩ = ⟨(headT t.d).toArray⟩) := Lib.hid (by
    rw [head_cat, HH.out, HXS.out.2, HXS.out.1])
  clear HNU HPC i1 i2 i3 i4 i5 hS hB0 p0 p1 p2 p3
  go_wp2_with fail
  go_loopw [3, 4] (fun sv i wr => ∃ (j : Nat) (acc : List UInt8), j ≤ m ∧ i = .int .i64 j ∧ sv = .string ⟨acc.toArray⟩ ∧ acc = headT t.d ++ textTL (t.ks.take j) ∧ Below w.heap.size w wr) (fun _ i _ => m - (intOf i).toNat)
  case atStart => exact ⟨0, headT t.d, Nat.zero_le _, rfl, congrArg Value.string HHC.out, by simp [textTL], HB9.out⟩
  case round =>
    obtain ⟨j, acc, hj, rfl, rfl, hacc, hB⟩ := hrel
    have pp4 := (hB.cell (Lib.lt_of_cell p4)).trans p4
    have HA := Lib.hid hacc
    have hal : acc.length ≤ 1099511627776 := by
      have h1 := textTL_take t.ks j
      have h2 := HTT.out.2
      rw [hacc, List.length_append]
      omega
    have j1 : BLen ⟨acc.toArray⟩ 1 := ⟨by show acc.toArray.size ≤ _; rw [List.size_toArray]; omega⟩
    by_cases hjm : j < m
    · obtain ⟨r1, r3, r5, r6⟩ := HKS.out
      have z1 := HMM.out
      obtain ⟨k, hk⟩ : ∃ k, t.ks[j]? = some k := ⟨_, List.getElem?_eq_getElem (by omega)⟩
      obtain ⟨ga, cpa, hva, cK⟩ := Row.cell r1 j k.p (by rw [List.getElem?_map, hk]; rfl)
      have hqa : qa = some ⟨ga, 0, none⟩ := by injection hva
      subst hqa
      have cK := (hB.cell (Lib.lt_of_cell cK)).trans cK
      simp only [ptrV] at cK
      have htk : textTL (t.ks.take (j + 1)) = textTL (t.ks.take j) ++ 32 :: textT k := by
        rw [List.take_add_one, hk, textTL_app]
        simp [textTL]
      have hkl : (textT k).length ≤ 1099511627776 := by
        have h1 := textTL_take t.ks (j + 1)
        have h2 := HTT.out.2
        rw [htk] at h1
        simp only [List.length_append, List.length_cons] at h1
        omega
      have HR := HIH.out k wr (r5 k (List.mem_of_getElem? hk)) ((r3 k (List.mem_of_getElem? hk)).below hB) (okTL_at r6 k (List.mem_of_getElem? hk)) hkl
      have HTK := Lib.hid htk
      have j2 : BLen ⟨(textT k).toArray⟩ 1 := ⟨by show (textT k).toArray.size ≤ _; rw [List.size_toArray]; omega⟩
      have hj0 : (0 : Int) ≤ (j : Int) := by omega
      have hj1 : (j : Int) < (m : Int) := by omega
      have HB := Lib.hid hB
      clear hk hva r1 r3 r5 r6 z1 htk hB hacc hkl hal
      simp only [ptrV] at HR
      go_wp2_with fail
      refine HR.mono ?_
      rintro e w9 ⟨rfl, B9⟩
      have HB10 := Lib.hid (HB.out.trans (B9.mono HB.out.size))
      clear HR B9
      go_wp2_with fail
      go_roundw
      case rel => exact ⟨j + 1, acc ++ 32 :: textT k, by omega, by simp, congrArg Value.string (kid_cat acc (textT k)), by rw [HTK.out, HA.out, List.append_assoc], HB10.out⟩
      case measure => simp [intOf]; omega
    · obtain rfl : j = m := by omega
      have HB := Lib.hid hB
      have hfin : Hid (acc ++ [41] = res) := Lib.hid (by
        rw [hacc, List.take_of_length_le (by rw [HMM.out]; exact Nat.le_refl _), ← HR.out, HTT.out.1, List.append_assoc])
      clear hB hacc
      go_wp2_with fail
      go_ret
      refine ⟨?_, HB.out⟩
      rw [← hfin.out]
      exact congrArg (fun b => Ending.returned (Value.string b)) (end_cat acc)
end Go.Proofs.YtliebhpddjbjeaaGreatDoor
