/- Several texts in one. -/
import Derived.Test.YtnaihncmichfaaaMrA
import Derived.Deep.RegionHeld3
import Derived.Test.YtnaihncmichfaaaMrB
/- Law 6: Grown, walked: two operands. -/
namespace Go.Proofs.Ytnaihncmichfaaa
open Go.RowKit Go.Op
set_option maxHeartbeats 2000000
set_option maxRecDepth 100000
set_option linter.unusedVariables false
set_option linter.unusedSimpArgs false

theorem grown_bin0 (k : Nat) (hk : k ≤ 11) (d n : Nat) (r : List (Nat × Nat)) (hd : d ≤ 255) (hn : n ≤ 65535) (hl : r.length ≤ 59) (hr : ∀ x ∈ r, x.2 ≤ 65535) (h9 : d % 9 = 0) (v : Value) (w : World) (hv : SeedRow w v ((d, n) :: r))
    (ih : ∀ v' w', SeedRow w' v' r → Calls Try.prog 14 #[v', .int .i64 k] w' (Grows w' k r)) (ih2 : ∀ v' w', SeedRow w' v' (r.drop (grow k r).2) → Calls Try.prog 14 #[v', .int .i64 k] w' (Grows w' k (r.drop (grow k r).2))) :
    Calls Try.prog 14 #[v, .int .i64 ((k + 1 : Nat) : Int)] w (Grows w (k + 1) ((d, n) :: r)) := by
  obtain ⟨q, cap, rfl, h2, h3, h4⟩ := hv
  obtain ⟨g, o, rfl, hg, hc⟩ := h4 (by simp)
  obtain ⟨c0, c1⟩ := hc 0 (d, n) rfl
  simp only [Nat.zero_mul, Nat.add_zero] at c0 c1
  have HV : Hid (SeedRow w (.slice (some ⟨g, o, none⟩) ((d, n) :: r).length cap) ((d, n) :: r)) := Lib.hid ⟨_, cap, rfl, h2, h3, h4⟩
  have HIH := Lib.hid ih
  obtain ⟨m, hm⟩ : ∃ m, r.length = m := ⟨_, rfl⟩
  simp only [List.length_cons] at h2 ⊢
  rw [hm] at h2 ⊢
  have HM := Lib.hid hm
  have t1 : ((m : Int) + 1 == 0) = false := beq_eq_false_iff_ne.2 (by omega)
  have t2 : ((k : Int) + 1 == 0) = false := beq_eq_false_iff_ne.2 (by omega)
  have m1 : (1 : Int) ≤ (m : Int) + 1 := by omega
  have m2 : (m : Int) + 1 ≤ (cap : Int) := by omega
  obtain ⟨g1, g2⟩ := grow_ok k r hr
  have g3 := grow_used k r
  have w1 : wrap64 ((k : Int) + 1 - 1) = (k : Int) := by rw [w64 _ (by omega) (by omega)]; omega
  obtain ⟨wa, hwa⟩ : ∃ wa, w.alloc (.cells #[.int .u8 d, .int .u16 n] 55) = wa := ⟨_, rfl⟩
  obtain ⟨wb, hwb⟩ : ∃ wb, wa.alloc (.cells #[.string ⟨#[42]⟩, .string ⟨#[47]⟩, .string ⟨#[68, 73, 86]⟩, .string ⟨#[77, 79, 68]⟩, .string ⟨#[65, 78, 68]⟩, .string ⟨#[43]⟩, .string ⟨#[45]⟩, .string ⟨#[79, 82]⟩, .string ⟨#[61]⟩, .string ⟨#[35]⟩, .string ⟨#[60]⟩, .string ⟨#[60, 61]⟩, .string ⟨#[62]⟩, .string ⟨#[62, 61]⟩, .string ⟨#[73, 78]⟩] 9) = wb := ⟨_, rfl⟩
  have sa : wa.heap.size = w.heap.size + 1 := by rw [← hwa]; simp
  have sb : wb.heap.size = w.heap.size + 2 := by rw [← hwb]; simp [sa]
  have Ba : Below w.heap.size w wa := by rw [← hwa]; exact below_new _ _
  have Bb : Below wa.heap.size wa wb := by rw [← hwb]; exact below_new _ _
  have BAB := Lib.hid (bt Ba Bb)
  have e0 : wa.heap[w.heap.size]? = some (.cells #[.int .u8 d, .int .u16 n] 55 (0, 0)) := by rw [← hwa]; exact heap_alloc_new _ _
  have e1 : wb.heap[w.heap.size]? = some (.cells #[.int .u8 d, .int .u16 n] 55 (0, 0)) := (Bb.block _ (by omega)).trans e0
  have HE1 := Lib.hid e1
  have a0 : wb.cell? ⟨w.heap.size, 0, none⟩ = some (.int .u8 d) := by rw [Lib.cell_of_heap e1]; rfl
  have HSB := Lib.hid (And.intro sa sb)
  have HR : ∀ (q : Option Addr) (c : Nat), (1 < m + 1 → q = some ⟨g, o + 2, none⟩) → c = cap - 1 → SeedRow wb (.slice q m c) r := fun q c hq hc => by
    have h0 := (HV.out.drop 1 (by simp) q (by simpa [hm] using hq)).bel BAB.out
    rw [hc]
    simpa [hm] using h0
  have HR := Lib.hid HR
  have t3 : (d : Int) % 9 = 0 := by omega
  have hlt15 : n % 15 < 15 := Nat.mod_lt _ (by decide)
  obtain ⟨x, hxn⟩ : ∃ x, n % 15 = x := ⟨_, rfl⟩
  rw [hxn] at hlt15
  have hx : (n : Int) % 15 = (x : Int) := by omega
  have x0 : (0 : Int) ≤ (x : Int) := by omega
  have x1 : (x : Int) < 15 := by omega
  obtain ⟨U, hU⟩ : ∃ U : ByteArray, ⟨(opB x).toArray⟩ = U := ⟨_, rfl⟩
  have zU : U.size ≤ 3 := by rw [← hU, size_of]; exact op_len3 _ hlt15
  have HUO := Lib.hid hU
  have HO : Hid (wb.cell? ⟨wa.heap.size, x, none⟩ = some (.string U)) := Lib.hid (by rw [← hU, ← hwb]; exact opL_cell2 wa x hlt15)
  have hgr : grow (k + 1) ((d, n) :: r) = (.bin x (grow k r).1 (grow k (r.drop (grow k r).2)).1, 1 + (grow k r).2 + (grow k (r.drop (grow k r).2)).2) := by
    conv => lhs; unfold grow
    rw [if_pos (by omega), hxn]
  obtain ⟨u, hu2⟩ : ∃ u, (grow k r).2 = u := ⟨_, rfl⟩
  rw [hu2] at ih2 hgr g2 g3
  obtain ⟨b1, b2⟩ := grow_ok k (r.drop u) (fun x hx => hr x (List.mem_of_mem_drop hx))
  have b3 := grow_used k (r.drop u)
  rw [List.length_drop] at b3
  obtain ⟨T, hT⟩ : ∃ T : ByteArray, ⟨(grow k r).1.tx.toArray⟩ = T := ⟨_, rfl⟩
  have zT : T.size ≤ 2000 := by rw [← hT, size_of]; omega
  obtain ⟨V, hV⟩ : ∃ T : ByteArray, ⟨(grow k (r.drop u)).1.tx.toArray⟩ = T := ⟨_, rfl⟩
  have zV : V.size ≤ 2000 := by rw [← hV, size_of]; omega
  have HIH2 := Lib.hid ih2
  have f1 : ¬ (9223372036854775807 : Nat) < 1 + T.size := by omega
  have f2 : ¬ (9223372036854775807 : Nat) < 1 + T.size + 1 := by omega
  have f2b : ¬ (9223372036854775807 : Nat) ≤ 1 + T.size := by omega
  have f3 : ¬ (9223372036854775807 : Nat) < 1 + T.size + 1 + U.size := by omega
  have f4 : ¬ (9223372036854775807 : Nat) < 1 + T.size + 1 + U.size + 1 := by omega
  have f4b : ¬ (9223372036854775807 : Nat) ≤ 1 + T.size + 1 + U.size := by omega
  have f5 : ¬ (9223372036854775807 : Nat) < 1 + T.size + 1 + U.size + 1 + V.size := by omega
  have f6 : ¬ (9223372036854775807 : Nat) < 1 + T.size + 1 + U.size + 1 + V.size + 1 := by omega
  have f6b : ¬ (9223372036854775807 : Nat) ≤ 1 + T.size + 1 + U.size + 1 + V.size := by omega
  clear hU zU hxn hlt15

  have HR : ∀ (q : Option Addr) (c : Nat), (1 < m + 1 → q = some ⟨g, o + 2, none⟩) → c = cap - 1 → SeedRow wb (.slice q m c) r := fun q c hq hc => by
    have h0 := (HV.out.drop 1 (by simp) q (by simpa [hm] using hq)).bel BAB.out
    rw [hc]
    simpa [hm] using h0
  obtain ⟨z, hz2⟩ : ∃ y, (grow k (r.drop u)).2 = y := ⟨_, rfl⟩
  rw [hz2] at b3 b2
  rw [hm] at g3 b3
  have HR2 : ∀ (q : Option Addr) (l c : Nat), (1 + u < m + 1 → q = some ⟨g, o + (1 + u) * 2, none⟩) → l = m - u → c = cap - (1 + u) → SeedRow wb (.slice q l c) (r.drop u) := fun q l c hq hl2 hc => by
    have h0 := (HV.out.drop (1 + u) (by simp only [List.length_cons, hm]; omega) q (by simpa [hm] using hq)).bel BAB.out
    rw [hc, hl2]
    have e1 : ((d, n) :: r).drop (1 + u) = r.drop u := by rw [Nat.add_comm]; rfl
    rw [e1] at h0
    simp only [List.length_cons, hm] at h0
    rw [show m + 1 - (1 + u) = m - u by omega] at h0
    exact h0
  have u60 : u ≤ 60 := by omega
  have z60 : z ≤ 60 := by omega
  have v0 : (0 : Int) ≤ 1 + (u : Int) := by omega
  have v1 : 1 + (u : Int) ≤ (m : Int) + 1 := by omega
  have v2 : (u : Int) ≤ (m : Int) := by omega
  have HR := Lib.hid HR
  have HR2 := Lib.hid HR2
  have HG := Lib.hid hgr
  have HUT := Lib.hid (And.intro hT (And.intro hV (And.intro hu2 hz2)))
  have HG3 := Lib.hid (And.intro g3 b3)
  clear hT hV hu2 hz2 zT zV b1 b2 b3 ih2
  clear hc h4 ih hm hgr g1 g2 g3 Ba Bb e0 e1 sa sb h9 hr
  go_enter Try.func14, Try.ntmps14
  go_wp2_with fail
  all_goals
    refine (HIH.out _ _ (HR.out _ _ (by intro h; first | rfl | omega) (by omega))).mono ?_
    rintro e wc ⟨t, rfl, Bc, It, Dt⟩
    rw [HUT.out.1, HUT.out.2.2.1]
    have HC := Lib.hid (And.intro Bc (And.intro It Dt))
    have HB2 := Lib.hid (fun v l (h : SeedRow wb v l) => h.bel (Bc.mono (by have := HSB.out.2; omega)))
    clear Bc It Dt
    obtain ⟨tp, htp⟩ : ∃ tp, t.p = tp := ⟨_, rfl⟩
    rw [htp]
    have HXV := Lib.hid htp
    clear htp
    simp only [ptrV]
    go_wp2_with fail
    all_goals
      refine (HIH2.out _ _ (HB2.out _ _ (HR2.out _ _ _ (by intro h; first | rfl | omega) (by omega) (by omega)))).mono ?_
      rintro e wd ⟨t2, rfl, Bd, It2, Dt2⟩
      rw [HUT.out.2.1, HUT.out.2.2.2]
      have HD := Lib.hid (And.intro Bd (And.intro It2 Dt2))
      have Bcd := bt HC.out.1 Bd
      have a1 : wd.cell? ⟨w.heap.size, 1, none⟩ = some (.int .u16 n) := by
        rw [Lib.cell_of_heap ((Bcd.block _ (by have := HSB.out.2; omega)).trans HE1.out)]; rfl
      have ao : wd.cell? ⟨wa.heap.size, x, none⟩ = some (.string U) := (Bcd.cell (p := ⟨wa.heap.size, x, none⟩) (by have := HSB.out; show wa.heap.size < _; omega)).trans HO.out
      clear Bcd
      clear Bd It2 Dt2
      obtain ⟨tq, htq⟩ : ∃ tp, t2.p = tp := ⟨_, rfl⟩
      rw [htq]
      have HXV2 := Lib.hid htq
      clear htq
      simp only [ptrV]
      obtain ⟨W1, hW1⟩ : ∃ W1, wd.alloc (.cells #[.pointer (some ⟨tp, 0, none⟩), .pointer (some ⟨tq, 0, none⟩)] 26) = W1 := ⟨_, rfl⟩
      obtain ⟨W2, hW2⟩ : ∃ W2, W1.alloc (.cells #[.int .u8 11, .complex .f64 0 0, .string U, .int .i64 0, .slice (some ⟨wd.heap.size, 0, none⟩) 2 2] 43) = W2 := ⟨_, rfl⟩
      go_wp2_with fail
      go_ret3
      obtain ⟨Bc, It, Dt⟩ := HC.out
      obtain ⟨Bd, It2, Dt2⟩ := HD.out
      have hsb := HSB.out.2
      have hz := Bc.size
      have hz2 := Bd.size
      have S1 : W1.heap.size = wd.heap.size + 1 := by rw [← hW1]; simp
      have Ia := (It.wide (B' := w.heap.size) (by omega)).below Bd
      have Ib := It2.wide (B' := w.heap.size) (by omega)
      obtain ⟨LE, B1⟩ := node_in (w := wd) (w1 := W1) (w2 := W2) (B := w.heap.size) (by omega) (n0 11 (opB x) 0) [t, t2] [tp, tq] (by show [t.p, t2.p] = _; rw [HXV.out, HXV2.out]) (by simp) (by intro k hk; simp at hk; rcases hk with rfl | rfl; exact Ia; exact Ib) hW1 (by rw [nodeO0, HUO.out]; exact hW2)
      have BE := bt (bt (bt BAB.out Bc) Bd) B1
      have hs : (((((((⟨#[40]⟩ : ByteArray) ++ T) ++ ⟨#[32]⟩) ++ U) ++ ⟨#[32]⟩) ++ V) ++ ⟨#[41]⟩) = ⟨((GT.bin x (grow k r).1 (grow k (r.drop u)).1).tx).toArray⟩ := bytes_of2 (by rw [← HUT.out.1, ← HUT.out.2.1, ← HUO.out]; simp [bd2, GT.tx])
      have hi : ((1 + u + z : Nat) : Int) = 1 + (u : Int) + (z : Int) := by omega
      refine ⟨_, ?_, BE, LE, ?_⟩
      · rw [HG.out]
        simp only
        rw [HUT.out.2.2.2, hi, ← hs]
        rfl
      · rw [HG.out]
        show DT.node _ [t.dt, t2.dt] = _
        rw [Dt, Dt2]; rfl
end Go.Proofs.Ytnaihncmichfaaa
/- Law 6: Grown, walked: two operands. -/
namespace Go.Proofs.Ytnaihncmichfaaa
open Go.RowKit Go.Op
set_option maxHeartbeats 2000000
set_option maxRecDepth 100000
set_option linter.unusedVariables false
set_option linter.unusedSimpArgs false

theorem grown_bin1 (k : Nat) (hk : k ≤ 11) (d n : Nat) (r : List (Nat × Nat)) (hd : d ≤ 255) (hn : n ≤ 65535) (hl : r.length ≤ 59) (hr : ∀ x ∈ r, x.2 ≤ 65535) (h9 : d % 9 = 1) (v : Value) (w : World) (hv : SeedRow w v ((d, n) :: r))
    (ih : ∀ v' w', SeedRow w' v' r → Calls Try.prog 14 #[v', .int .i64 k] w' (Grows w' k r)) (ih2 : ∀ v' w', SeedRow w' v' (r.drop (grow k r).2) → Calls Try.prog 14 #[v', .int .i64 k] w' (Grows w' k (r.drop (grow k r).2))) :
    Calls Try.prog 14 #[v, .int .i64 ((k + 1 : Nat) : Int)] w (Grows w (k + 1) ((d, n) :: r)) := by
  obtain ⟨q, cap, rfl, h2, h3, h4⟩ := hv
  obtain ⟨g, o, rfl, hg, hc⟩ := h4 (by simp)
  obtain ⟨c0, c1⟩ := hc 0 (d, n) rfl
  simp only [Nat.zero_mul, Nat.add_zero] at c0 c1
  have HV : Hid (SeedRow w (.slice (some ⟨g, o, none⟩) ((d, n) :: r).length cap) ((d, n) :: r)) := Lib.hid ⟨_, cap, rfl, h2, h3, h4⟩
  have HIH := Lib.hid ih
  obtain ⟨m, hm⟩ : ∃ m, r.length = m := ⟨_, rfl⟩
  simp only [List.length_cons] at h2 ⊢
  rw [hm] at h2 ⊢
  have HM := Lib.hid hm
  have t1 : ((m : Int) + 1 == 0) = false := beq_eq_false_iff_ne.2 (by omega)
  have t2 : ((k : Int) + 1 == 0) = false := beq_eq_false_iff_ne.2 (by omega)
  have m1 : (1 : Int) ≤ (m : Int) + 1 := by omega
  have m2 : (m : Int) + 1 ≤ (cap : Int) := by omega
  obtain ⟨g1, g2⟩ := grow_ok k r hr
  have g3 := grow_used k r
  have w1 : wrap64 ((k : Int) + 1 - 1) = (k : Int) := by rw [w64 _ (by omega) (by omega)]; omega
  obtain ⟨wa, hwa⟩ : ∃ wa, w.alloc (.cells #[.int .u8 d, .int .u16 n] 55) = wa := ⟨_, rfl⟩
  obtain ⟨wb, hwb⟩ : ∃ wb, wa.alloc (.cells #[.string ⟨#[42]⟩, .string ⟨#[47]⟩, .string ⟨#[68, 73, 86]⟩, .string ⟨#[77, 79, 68]⟩, .string ⟨#[65, 78, 68]⟩, .string ⟨#[43]⟩, .string ⟨#[45]⟩, .string ⟨#[79, 82]⟩, .string ⟨#[61]⟩, .string ⟨#[35]⟩, .string ⟨#[60]⟩, .string ⟨#[60, 61]⟩, .string ⟨#[62]⟩, .string ⟨#[62, 61]⟩, .string ⟨#[73, 78]⟩] 9) = wb := ⟨_, rfl⟩
  have sa : wa.heap.size = w.heap.size + 1 := by rw [← hwa]; simp
  have sb : wb.heap.size = w.heap.size + 2 := by rw [← hwb]; simp [sa]
  have Ba : Below w.heap.size w wa := by rw [← hwa]; exact below_new _ _
  have Bb : Below wa.heap.size wa wb := by rw [← hwb]; exact below_new _ _
  have BAB := Lib.hid (bt Ba Bb)
  have e0 : wa.heap[w.heap.size]? = some (.cells #[.int .u8 d, .int .u16 n] 55 (0, 0)) := by rw [← hwa]; exact heap_alloc_new _ _
  have e1 : wb.heap[w.heap.size]? = some (.cells #[.int .u8 d, .int .u16 n] 55 (0, 0)) := (Bb.block _ (by omega)).trans e0
  have HE1 := Lib.hid e1
  have a0 : wb.cell? ⟨w.heap.size, 0, none⟩ = some (.int .u8 d) := by rw [Lib.cell_of_heap e1]; rfl
  have HSB := Lib.hid (And.intro sa sb)
  have HR : ∀ (q : Option Addr) (c : Nat), (1 < m + 1 → q = some ⟨g, o + 2, none⟩) → c = cap - 1 → SeedRow wb (.slice q m c) r := fun q c hq hc => by
    have h0 := (HV.out.drop 1 (by simp) q (by simpa [hm] using hq)).bel BAB.out
    rw [hc]
    simpa [hm] using h0
  have HR := Lib.hid HR
  have t3 : (d : Int) % 9 = 1 := by omega
  have hlt15 : n % 15 < 15 := Nat.mod_lt _ (by decide)
  obtain ⟨x, hxn⟩ : ∃ x, n % 15 = x := ⟨_, rfl⟩
  rw [hxn] at hlt15
  have hx : (n : Int) % 15 = (x : Int) := by omega
  have x0 : (0 : Int) ≤ (x : Int) := by omega
  have x1 : (x : Int) < 15 := by omega
  obtain ⟨U, hU⟩ : ∃ U : ByteArray, ⟨(opB x).toArray⟩ = U := ⟨_, rfl⟩
  have zU : U.size ≤ 3 := by rw [← hU, size_of]; exact op_len3 _ hlt15
  have HUO := Lib.hid hU
  have HO : Hid (wb.cell? ⟨wa.heap.size, x, none⟩ = some (.string U)) := Lib.hid (by rw [← hU, ← hwb]; exact opL_cell2 wa x hlt15)
  have hgr : grow (k + 1) ((d, n) :: r) = (.bin x (grow k r).1 (grow k (r.drop (grow k r).2)).1, 1 + (grow k r).2 + (grow k (r.drop (grow k r).2)).2) := by
    conv => lhs; unfold grow
    rw [if_pos (by omega), hxn]
  obtain ⟨u, hu2⟩ : ∃ u, (grow k r).2 = u := ⟨_, rfl⟩
  rw [hu2] at ih2 hgr g2 g3
  obtain ⟨b1, b2⟩ := grow_ok k (r.drop u) (fun x hx => hr x (List.mem_of_mem_drop hx))
  have b3 := grow_used k (r.drop u)
  rw [List.length_drop] at b3
  obtain ⟨T, hT⟩ : ∃ T : ByteArray, ⟨(grow k r).1.tx.toArray⟩ = T := ⟨_, rfl⟩
  have zT : T.size ≤ 2000 := by rw [← hT, size_of]; omega
  obtain ⟨V, hV⟩ : ∃ T : ByteArray, ⟨(grow k (r.drop u)).1.tx.toArray⟩ = T := ⟨_, rfl⟩
  have zV : V.size ≤ 2000 := by rw [← hV, size_of]; omega
  have HIH2 := Lib.hid ih2
  have f1 : ¬ (9223372036854775807 : Nat) < 1 + T.size := by omega
  have f2 : ¬ (9223372036854775807 : Nat) < 1 + T.size + 1 := by omega
  have f2b : ¬ (9223372036854775807 : Nat) ≤ 1 + T.size := by omega
  have f3 : ¬ (9223372036854775807 : Nat) < 1 + T.size + 1 + U.size := by omega
  have f4 : ¬ (9223372036854775807 : Nat) < 1 + T.size + 1 + U.size + 1 := by omega
  have f4b : ¬ (9223372036854775807 : Nat) ≤ 1 + T.size + 1 + U.size := by omega
  have f5 : ¬ (9223372036854775807 : Nat) < 1 + T.size + 1 + U.size + 1 + V.size := by omega
  have f6 : ¬ (9223372036854775807 : Nat) < 1 + T.size + 1 + U.size + 1 + V.size + 1 := by omega
  have f6b : ¬ (9223372036854775807 : Nat) ≤ 1 + T.size + 1 + U.size + 1 + V.size := by omega
  clear hU zU hxn hlt15

  have HR : ∀ (q : Option Addr) (c : Nat), (1 < m + 1 → q = some ⟨g, o + 2, none⟩) → c = cap - 1 → SeedRow wb (.slice q m c) r := fun q c hq hc => by
    have h0 := (HV.out.drop 1 (by simp) q (by simpa [hm] using hq)).bel BAB.out
    rw [hc]
    simpa [hm] using h0
  obtain ⟨z, hz2⟩ : ∃ y, (grow k (r.drop u)).2 = y := ⟨_, rfl⟩
  rw [hz2] at b3 b2
  rw [hm] at g3 b3
  have HR2 : ∀ (q : Option Addr) (l c : Nat), (1 + u < m + 1 → q = some ⟨g, o + (1 + u) * 2, none⟩) → l = m - u → c = cap - (1 + u) → SeedRow wb (.slice q l c) (r.drop u) := fun q l c hq hl2 hc => by
    have h0 := (HV.out.drop (1 + u) (by simp only [List.length_cons, hm]; omega) q (by simpa [hm] using hq)).bel BAB.out
    rw [hc, hl2]
    have e1 : ((d, n) :: r).drop (1 + u) = r.drop u := by rw [Nat.add_comm]; rfl
    rw [e1] at h0
    simp only [List.length_cons, hm] at h0
    rw [show m + 1 - (1 + u) = m - u by omega] at h0
    exact h0
  have u60 : u ≤ 60 := by omega
  have z60 : z ≤ 60 := by omega
  have v0 : (0 : Int) ≤ 1 + (u : Int) := by omega
  have v1 : 1 + (u : Int) ≤ (m : Int) + 1 := by omega
  have v2 : (u : Int) ≤ (m : Int) := by omega
  have HR := Lib.hid HR
  have HR2 := Lib.hid HR2
  have HG := Lib.hid hgr
  have HUT := Lib.hid (And.intro hT (And.intro hV (And.intro hu2 hz2)))
  have HG3 := Lib.hid (And.intro g3 b3)
  clear hT hV hu2 hz2 zT zV b1 b2 b3 ih2
  clear hc h4 ih hm hgr g1 g2 g3 Ba Bb e0 e1 sa sb h9 hr
  go_enter Try.func14, Try.ntmps14
  go_wp2_with fail
  all_goals
    refine (HIH.out _ _ (HR.out _ _ (by intro h; first | rfl | omega) (by omega))).mono ?_
    rintro e wc ⟨t, rfl, Bc, It, Dt⟩
    rw [HUT.out.1, HUT.out.2.2.1]
    have HC := Lib.hid (And.intro Bc (And.intro It Dt))
    have HB2 := Lib.hid (fun v l (h : SeedRow wb v l) => h.bel (Bc.mono (by have := HSB.out.2; omega)))
    clear Bc It Dt
    obtain ⟨tp, htp⟩ : ∃ tp, t.p = tp := ⟨_, rfl⟩
    rw [htp]
    have HXV := Lib.hid htp
    clear htp
    simp only [ptrV]
    go_wp2_with fail
    all_goals
      refine (HIH2.out _ _ (HB2.out _ _ (HR2.out _ _ _ (by intro h; first | rfl | omega) (by omega) (by omega)))).mono ?_
      rintro e wd ⟨t2, rfl, Bd, It2, Dt2⟩
      rw [HUT.out.2.1, HUT.out.2.2.2]
      have HD := Lib.hid (And.intro Bd (And.intro It2 Dt2))
      have Bcd := bt HC.out.1 Bd
      have a1 : wd.cell? ⟨w.heap.size, 1, none⟩ = some (.int .u16 n) := by
        rw [Lib.cell_of_heap ((Bcd.block _ (by have := HSB.out.2; omega)).trans HE1.out)]; rfl
      have ao : wd.cell? ⟨wa.heap.size, x, none⟩ = some (.string U) := (Bcd.cell (p := ⟨wa.heap.size, x, none⟩) (by have := HSB.out; show wa.heap.size < _; omega)).trans HO.out
      clear Bcd
      clear Bd It2 Dt2
      obtain ⟨tq, htq⟩ : ∃ tp, t2.p = tp := ⟨_, rfl⟩
      rw [htq]
      have HXV2 := Lib.hid htq
      clear htq
      simp only [ptrV]
      obtain ⟨W1, hW1⟩ : ∃ W1, wd.alloc (.cells #[.pointer (some ⟨tp, 0, none⟩), .pointer (some ⟨tq, 0, none⟩)] 26) = W1 := ⟨_, rfl⟩
      obtain ⟨W2, hW2⟩ : ∃ W2, W1.alloc (.cells #[.int .u8 11, .complex .f64 0 0, .string U, .int .i64 0, .slice (some ⟨wd.heap.size, 0, none⟩) 2 2] 43) = W2 := ⟨_, rfl⟩
      go_wp2_with fail
      go_ret3
      obtain ⟨Bc, It, Dt⟩ := HC.out
      obtain ⟨Bd, It2, Dt2⟩ := HD.out
      have hsb := HSB.out.2
      have hz := Bc.size
      have hz2 := Bd.size
      have S1 : W1.heap.size = wd.heap.size + 1 := by rw [← hW1]; simp
      have Ia := (It.wide (B' := w.heap.size) (by omega)).below Bd
      have Ib := It2.wide (B' := w.heap.size) (by omega)
      obtain ⟨LE, B1⟩ := node_in (w := wd) (w1 := W1) (w2 := W2) (B := w.heap.size) (by omega) (n0 11 (opB x) 0) [t, t2] [tp, tq] (by show [t.p, t2.p] = _; rw [HXV.out, HXV2.out]) (by simp) (by intro k hk; simp at hk; rcases hk with rfl | rfl; exact Ia; exact Ib) hW1 (by rw [nodeO0, HUO.out]; exact hW2)
      have BE := bt (bt (bt BAB.out Bc) Bd) B1
      have hs : (((((((⟨#[40]⟩ : ByteArray) ++ T) ++ ⟨#[32]⟩) ++ U) ++ ⟨#[32]⟩) ++ V) ++ ⟨#[41]⟩) = ⟨((GT.bin x (grow k r).1 (grow k (r.drop u)).1).tx).toArray⟩ := bytes_of2 (by rw [← HUT.out.1, ← HUT.out.2.1, ← HUO.out]; simp [bd2, GT.tx])
      have hi : ((1 + u + z : Nat) : Int) = 1 + (u : Int) + (z : Int) := by omega
      refine ⟨_, ?_, BE, LE, ?_⟩
      · rw [HG.out]
        simp only
        rw [HUT.out.2.2.2, hi, ← hs]
        rfl
      · rw [HG.out]
        show DT.node _ [t.dt, t2.dt] = _
        rw [Dt, Dt2]; rfl
end Go.Proofs.Ytnaihncmichfaaa
/- Law 6: Grown, walked: two operands. -/
namespace Go.Proofs.Ytnaihncmichfaaa
open Go.RowKit Go.Op
set_option maxHeartbeats 2000000
set_option maxRecDepth 100000
set_option linter.unusedVariables false
set_option linter.unusedSimpArgs false

theorem grown_bin2 (k : Nat) (hk : k ≤ 11) (d n : Nat) (r : List (Nat × Nat)) (hd : d ≤ 255) (hn : n ≤ 65535) (hl : r.length ≤ 59) (hr : ∀ x ∈ r, x.2 ≤ 65535) (h9 : d % 9 = 2) (v : Value) (w : World) (hv : SeedRow w v ((d, n) :: r))
    (ih : ∀ v' w', SeedRow w' v' r → Calls Try.prog 14 #[v', .int .i64 k] w' (Grows w' k r)) (ih2 : ∀ v' w', SeedRow w' v' (r.drop (grow k r).2) → Calls Try.prog 14 #[v', .int .i64 k] w' (Grows w' k (r.drop (grow k r).2))) :
    Calls Try.prog 14 #[v, .int .i64 ((k + 1 : Nat) : Int)] w (Grows w (k + 1) ((d, n) :: r)) := by
  obtain ⟨q, cap, rfl, h2, h3, h4⟩ := hv
  obtain ⟨g, o, rfl, hg, hc⟩ := h4 (by simp)
  obtain ⟨c0, c1⟩ := hc 0 (d, n) rfl
  simp only [Nat.zero_mul, Nat.add_zero] at c0 c1
  have HV : Hid (SeedRow w (.slice (some ⟨g, o, none⟩) ((d, n) :: r).length cap) ((d, n) :: r)) := Lib.hid ⟨_, cap, rfl, h2, h3, h4⟩
  have HIH := Lib.hid ih
  obtain ⟨m, hm⟩ : ∃ m, r.length = m := ⟨_, rfl⟩
  simp only [List.length_cons] at h2 ⊢
  rw [hm] at h2 ⊢
  have HM := Lib.hid hm
  have t1 : ((m : Int) + 1 == 0) = false := beq_eq_false_iff_ne.2 (by omega)
  have t2 : ((k : Int) + 1 == 0) = false := beq_eq_false_iff_ne.2 (by omega)
  have m1 : (1 : Int) ≤ (m : Int) + 1 := by omega
  have m2 : (m : Int) + 1 ≤ (cap : Int) := by omega
  obtain ⟨g1, g2⟩ := grow_ok k r hr
  have g3 := grow_used k r
  have w1 : wrap64 ((k : Int) + 1 - 1) = (k : Int) := by rw [w64 _ (by omega) (by omega)]; omega
  obtain ⟨wa, hwa⟩ : ∃ wa, w.alloc (.cells #[.int .u8 d, .int .u16 n] 55) = wa := ⟨_, rfl⟩
  obtain ⟨wb, hwb⟩ : ∃ wb, wa.alloc (.cells #[.string ⟨#[42]⟩, .string ⟨#[47]⟩, .string ⟨#[68, 73, 86]⟩, .string ⟨#[77, 79, 68]⟩, .string ⟨#[65, 78, 68]⟩, .string ⟨#[43]⟩, .string ⟨#[45]⟩, .string ⟨#[79, 82]⟩, .string ⟨#[61]⟩, .string ⟨#[35]⟩, .string ⟨#[60]⟩, .string ⟨#[60, 61]⟩, .string ⟨#[62]⟩, .string ⟨#[62, 61]⟩, .string ⟨#[73, 78]⟩] 9) = wb := ⟨_, rfl⟩
  have sa : wa.heap.size = w.heap.size + 1 := by rw [← hwa]; simp
  have sb : wb.heap.size = w.heap.size + 2 := by rw [← hwb]; simp [sa]
  have Ba : Below w.heap.size w wa := by rw [← hwa]; exact below_new _ _
  have Bb : Below wa.heap.size wa wb := by rw [← hwb]; exact below_new _ _
  have BAB := Lib.hid (bt Ba Bb)
  have e0 : wa.heap[w.heap.size]? = some (.cells #[.int .u8 d, .int .u16 n] 55 (0, 0)) := by rw [← hwa]; exact heap_alloc_new _ _
  have e1 : wb.heap[w.heap.size]? = some (.cells #[.int .u8 d, .int .u16 n] 55 (0, 0)) := (Bb.block _ (by omega)).trans e0
  have HE1 := Lib.hid e1
  have a0 : wb.cell? ⟨w.heap.size, 0, none⟩ = some (.int .u8 d) := by rw [Lib.cell_of_heap e1]; rfl
  have HSB := Lib.hid (And.intro sa sb)
  have HR : ∀ (q : Option Addr) (c : Nat), (1 < m + 1 → q = some ⟨g, o + 2, none⟩) → c = cap - 1 → SeedRow wb (.slice q m c) r := fun q c hq hc => by
    have h0 := (HV.out.drop 1 (by simp) q (by simpa [hm] using hq)).bel BAB.out
    rw [hc]
    simpa [hm] using h0
  have HR := Lib.hid HR
  have t3 : (d : Int) % 9 = 2 := by omega
  have hlt15 : n % 15 < 15 := Nat.mod_lt _ (by decide)
  obtain ⟨x, hxn⟩ : ∃ x, n % 15 = x := ⟨_, rfl⟩
  rw [hxn] at hlt15
  have hx : (n : Int) % 15 = (x : Int) := by omega
  have x0 : (0 : Int) ≤ (x : Int) := by omega
  have x1 : (x : Int) < 15 := by omega
  obtain ⟨U, hU⟩ : ∃ U : ByteArray, ⟨(opB x).toArray⟩ = U := ⟨_, rfl⟩
  have zU : U.size ≤ 3 := by rw [← hU, size_of]; exact op_len3 _ hlt15
  have HUO := Lib.hid hU
  have HO : Hid (wb.cell? ⟨wa.heap.size, x, none⟩ = some (.string U)) := Lib.hid (by rw [← hU, ← hwb]; exact opL_cell2 wa x hlt15)
  have hgr : grow (k + 1) ((d, n) :: r) = (.bin x (grow k r).1 (grow k (r.drop (grow k r).2)).1, 1 + (grow k r).2 + (grow k (r.drop (grow k r).2)).2) := by
    conv => lhs; unfold grow
    rw [if_pos (by omega), hxn]
  obtain ⟨u, hu2⟩ : ∃ u, (grow k r).2 = u := ⟨_, rfl⟩
  rw [hu2] at ih2 hgr g2 g3
  obtain ⟨b1, b2⟩ := grow_ok k (r.drop u) (fun x hx => hr x (List.mem_of_mem_drop hx))
  have b3 := grow_used k (r.drop u)
  rw [List.length_drop] at b3
  obtain ⟨T, hT⟩ : ∃ T : ByteArray, ⟨(grow k r).1.tx.toArray⟩ = T := ⟨_, rfl⟩
  have zT : T.size ≤ 2000 := by rw [← hT, size_of]; omega
  obtain ⟨V, hV⟩ : ∃ T : ByteArray, ⟨(grow k (r.drop u)).1.tx.toArray⟩ = T := ⟨_, rfl⟩
  have zV : V.size ≤ 2000 := by rw [← hV, size_of]; omega
  have HIH2 := Lib.hid ih2
  have f1 : ¬ (9223372036854775807 : Nat) < 1 + T.size := by omega
  have f2 : ¬ (9223372036854775807 : Nat) < 1 + T.size + 1 := by omega
  have f2b : ¬ (9223372036854775807 : Nat) ≤ 1 + T.size := by omega
  have f3 : ¬ (9223372036854775807 : Nat) < 1 + T.size + 1 + U.size := by omega
  have f4 : ¬ (9223372036854775807 : Nat) < 1 + T.size + 1 + U.size + 1 := by omega
  have f4b : ¬ (9223372036854775807 : Nat) ≤ 1 + T.size + 1 + U.size := by omega
  have f5 : ¬ (9223372036854775807 : Nat) < 1 + T.size + 1 + U.size + 1 + V.size := by omega
  have f6 : ¬ (9223372036854775807 : Nat) < 1 + T.size + 1 + U.size + 1 + V.size + 1 := by omega
  have f6b : ¬ (9223372036854775807 : Nat) ≤ 1 + T.size + 1 + U.size + 1 + V.size := by omega
  clear hU zU hxn hlt15

  have HR : ∀ (q : Option Addr) (c : Nat), (1 < m + 1 → q = some ⟨g, o + 2, none⟩) → c = cap - 1 → SeedRow wb (.slice q m c) r := fun q c hq hc => by
    have h0 := (HV.out.drop 1 (by simp) q (by simpa [hm] using hq)).bel BAB.out
    rw [hc]
    simpa [hm] using h0
  obtain ⟨z, hz2⟩ : ∃ y, (grow k (r.drop u)).2 = y := ⟨_, rfl⟩
  rw [hz2] at b3 b2
  rw [hm] at g3 b3
  have HR2 : ∀ (q : Option Addr) (l c : Nat), (1 + u < m + 1 → q = some ⟨g, o + (1 + u) * 2, none⟩) → l = m - u → c = cap - (1 + u) → SeedRow wb (.slice q l c) (r.drop u) := fun q l c hq hl2 hc => by
    have h0 := (HV.out.drop (1 + u) (by simp only [List.length_cons, hm]; omega) q (by simpa [hm] using hq)).bel BAB.out
    rw [hc, hl2]
    have e1 : ((d, n) :: r).drop (1 + u) = r.drop u := by rw [Nat.add_comm]; rfl
    rw [e1] at h0
    simp only [List.length_cons, hm] at h0
    rw [show m + 1 - (1 + u) = m - u by omega] at h0
    exact h0
  have u60 : u ≤ 60 := by omega
  have z60 : z ≤ 60 := by omega
  have v0 : (0 : Int) ≤ 1 + (u : Int) := by omega
  have v1 : 1 + (u : Int) ≤ (m : Int) + 1 := by omega
  have v2 : (u : Int) ≤ (m : Int) := by omega
  have HR := Lib.hid HR
  have HR2 := Lib.hid HR2
  have HG := Lib.hid hgr
  have HUT := Lib.hid (And.intro hT (And.intro hV (And.intro hu2 hz2)))
  have HG3 := Lib.hid (And.intro g3 b3)
  clear hT hV hu2 hz2 zT zV b1 b2 b3 ih2
  clear hc h4 ih hm hgr g1 g2 g3 Ba Bb e0 e1 sa sb h9 hr
  go_enter Try.func14, Try.ntmps14
  go_wp2_with fail
  all_goals
    refine (HIH.out _ _ (HR.out _ _ (by intro h; first | rfl | omega) (by omega))).mono ?_
    rintro e wc ⟨t, rfl, Bc, It, Dt⟩
    rw [HUT.out.1, HUT.out.2.2.1]
    have HC := Lib.hid (And.intro Bc (And.intro It Dt))
    have HB2 := Lib.hid (fun v l (h : SeedRow wb v l) => h.bel (Bc.mono (by have := HSB.out.2; omega)))
    clear Bc It Dt
    obtain ⟨tp, htp⟩ : ∃ tp, t.p = tp := ⟨_, rfl⟩
    rw [htp]
    have HXV := Lib.hid htp
    clear htp
    simp only [ptrV]
    go_wp2_with fail
    all_goals
      refine (HIH2.out _ _ (HB2.out _ _ (HR2.out _ _ _ (by intro h; first | rfl | omega) (by omega) (by omega)))).mono ?_
      rintro e wd ⟨t2, rfl, Bd, It2, Dt2⟩
      rw [HUT.out.2.1, HUT.out.2.2.2]
      have HD := Lib.hid (And.intro Bd (And.intro It2 Dt2))
      have Bcd := bt HC.out.1 Bd
      have a1 : wd.cell? ⟨w.heap.size, 1, none⟩ = some (.int .u16 n) := by
        rw [Lib.cell_of_heap ((Bcd.block _ (by have := HSB.out.2; omega)).trans HE1.out)]; rfl
      have ao : wd.cell? ⟨wa.heap.size, x, none⟩ = some (.string U) := (Bcd.cell (p := ⟨wa.heap.size, x, none⟩) (by have := HSB.out; show wa.heap.size < _; omega)).trans HO.out
      clear Bcd
      clear Bd It2 Dt2
      obtain ⟨tq, htq⟩ : ∃ tp, t2.p = tp := ⟨_, rfl⟩
      rw [htq]
      have HXV2 := Lib.hid htq
      clear htq
      simp only [ptrV]
      obtain ⟨W1, hW1⟩ : ∃ W1, wd.alloc (.cells #[.pointer (some ⟨tp, 0, none⟩), .pointer (some ⟨tq, 0, none⟩)] 26) = W1 := ⟨_, rfl⟩
      obtain ⟨W2, hW2⟩ : ∃ W2, W1.alloc (.cells #[.int .u8 11, .complex .f64 0 0, .string U, .int .i64 0, .slice (some ⟨wd.heap.size, 0, none⟩) 2 2] 43) = W2 := ⟨_, rfl⟩
      go_wp2_with fail
      go_ret3
      obtain ⟨Bc, It, Dt⟩ := HC.out
      obtain ⟨Bd, It2, Dt2⟩ := HD.out
      have hsb := HSB.out.2
      have hz := Bc.size
      have hz2 := Bd.size
      have S1 : W1.heap.size = wd.heap.size + 1 := by rw [← hW1]; simp
      have Ia := (It.wide (B' := w.heap.size) (by omega)).below Bd
      have Ib := It2.wide (B' := w.heap.size) (by omega)
      obtain ⟨LE, B1⟩ := node_in (w := wd) (w1 := W1) (w2 := W2) (B := w.heap.size) (by omega) (n0 11 (opB x) 0) [t, t2] [tp, tq] (by show [t.p, t2.p] = _; rw [HXV.out, HXV2.out]) (by simp) (by intro k hk; simp at hk; rcases hk with rfl | rfl; exact Ia; exact Ib) hW1 (by rw [nodeO0, HUO.out]; exact hW2)
      have BE := bt (bt (bt BAB.out Bc) Bd) B1
      have hs : (((((((⟨#[40]⟩ : ByteArray) ++ T) ++ ⟨#[32]⟩) ++ U) ++ ⟨#[32]⟩) ++ V) ++ ⟨#[41]⟩) = ⟨((GT.bin x (grow k r).1 (grow k (r.drop u)).1).tx).toArray⟩ := bytes_of2 (by rw [← HUT.out.1, ← HUT.out.2.1, ← HUO.out]; simp [bd2, GT.tx])
      have hi : ((1 + u + z : Nat) : Int) = 1 + (u : Int) + (z : Int) := by omega
      refine ⟨_, ?_, BE, LE, ?_⟩
      · rw [HG.out]
        simp only
        rw [HUT.out.2.2.2, hi, ← hs]
        rfl
      · rw [HG.out]
        show DT.node _ [t.dt, t2.dt] = _
        rw [Dt, Dt2]; rfl
end Go.Proofs.Ytnaihncmichfaaa
/- Law 6: Grown, walked: all of it. -/
namespace Go.Proofs.Ytnaihncmichfaaa
open Go.RowKit Go.Op
set_option maxHeartbeats 1000000
set_option linter.unusedVariables false
set_option linter.unusedSimpArgs false

theorem grown_any : ∀ (k : Nat), k ≤ 12 → ∀ (l : List (Nat × Nat)), l.length ≤ 60 → (∀ x ∈ l, x.1 ≤ 255 ∧ x.2 ≤ 65535) → ∀ (v : Value) (w : World), SeedRow w v l →
    Calls Try.prog 14 #[v, .int .i64 k] w (Grows w k l)
  | 0, hk, l, _, _, v, w, hv => grown_none 0 hk l v w hv (.inr rfl)
  | k + 1, hk, [], _, _, v, w, hv => grown_none (k + 1) hk [] v w hv (.inl rfl)
  | k + 1, hk, (d, n) :: r, hl, hx, v, w, hv => by
    have hl' : r.length ≤ 59 := by simp only [List.length_cons] at hl; omega
    have hd : d ≤ 255 := (hx (d, n) (by simp)).1
    have hn : n ≤ 65535 := (hx (d, n) (by simp)).2
    have hr : ∀ x ∈ r, x.1 ≤ 255 ∧ x.2 ≤ 65535 := fun x hm => hx x (List.mem_cons_of_mem _ hm)
    have hr2 : ∀ x ∈ r, x.2 ≤ 65535 := fun x hm => (hr x hm).2
    have ih : ∀ v' w', SeedRow w' v' r → Calls Try.prog 14 #[v', .int .i64 k] w' (Grows w' k r) := fun v' w' h => grown_any k (by omega) r (by omega) hr v' w' h
    have ih2 : ∀ v' w', SeedRow w' v' (r.drop (grow k r).2) → Calls Try.prog 14 #[v', .int .i64 k] w' (Grows w' k (r.drop (grow k r).2)) := fun v' w' h => grown_any k (by omega) _ (by rw [List.length_drop]; omega) (fun x hm => hr x (List.mem_of_mem_drop hm)) v' w' h
    have hk' : k ≤ 11 := by omega
    rcases (by omega : d % 9 = 0 ∨ d % 9 = 1 ∨ d % 9 = 2 ∨ d % 9 = 3 ∨ d % 9 = 4 ∨ d % 9 = 5 ∨ d % 9 = 6 ∨ d % 9 = 7 ∨ 8 ≤ d % 9) with h | h | h | h | h | h | h | h | h
    · exact grown_bin0 k hk' d n r hd hn hl' hr2 h v w hv ih ih2
    · exact grown_bin1 k hk' d n r hd hn hl' hr2 h v w hv ih ih2
    · exact grown_bin2 k hk' d n r hd hn hl' hr2 h v w hv ih ih2
    · exact grown_un k hk' d n r hd hn hl' hr2 h v w hv ih
    · exact grown_num k hk' d n r hd hn hl' hr2 h v w hv ih
    · exact grown_idx k hk' d n r hd hn hl' hr2 h v w hv ih
    · exact grown_call k hk' d n r hd hn hl' hr2 h v w hv ih ih2
    · exact grown_set k hk' d n r hd hn hl' hr2 h v w hv ih ih2
    · exact grown_str k hk' d n r hd hn hl' hr2 h v w hv ih
end Go.Proofs.Ytnaihncmichfaaa
