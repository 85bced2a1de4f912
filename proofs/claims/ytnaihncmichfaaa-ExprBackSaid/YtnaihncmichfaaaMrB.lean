/- Several texts in one. -/
import Derived.Test.YtnaihncmichfaaaMrA
import Derived.Deep.RegionHeld3
import Derived.IntWalk
/- Law 6: Grown, walked: a number. -/
namespace Go.Proofs.Ytnaihncmichfaaa
open Go.RowKit Go.Op
set_option maxHeartbeats 2000000
set_option maxRecDepth 100000
set_option linter.unusedVariables false
set_option linter.unusedSimpArgs false

theorem grown_num (k : Nat) (hk : k ≤ 11) (d n : Nat) (r : List (Nat × Nat)) (hd : d ≤ 255) (hn : n ≤ 65535) (hl : r.length ≤ 59) (hr : ∀ x ∈ r, x.2 ≤ 65535) (h9 : d % 9 = 4) (v : Value) (w : World) (hv : SeedRow w v ((d, n) :: r))
    (ih : ∀ v' w', SeedRow w' v' r → Calls Try.prog 14 #[v', .int .i64 k] w' (Grows w' k r)) :
    Calls Try.prog 14 #[v, .int .i64 ((k + 1 : Nat) : Int)] w (Grows w (k + 1) ((d, n) :: r)) := by
  obtain ⟨q, cap, rfl, h2, h3, h4⟩ := hv
  obtain ⟨g, o, rfl, hg, hc⟩ := h4 (by simp)
  obtain ⟨c0, c1⟩ := hc 0 (d, n) rfl
  simp only [Nat.zero_mul, Nat.add_zero] at c0 c1
  have HV : Hid (SeedRow w (.slice (some ⟨g, o, none⟩) ((d, n) :: r).length cap) ((d, n) :: r)) := Lib.hid ⟨_, cap, rfl, h2, h3, h4⟩
  have HIH := Lib.hid ih
  obtain ⟨m, hm⟩ : ∃ m, r.length = m := ⟨_, rfl⟩
  simp only [List.length_cons] at h2 ⊢
  rw [hm] at h2 ⊢
  have HM := Lib.hid hm
  have t1 : ((m : Int) + 1 == 0) = false := beq_eq_false_iff_ne.2 (by omega)
  have t2 : ((k : Int) + 1 == 0) = false := beq_eq_false_iff_ne.2 (by omega)
  have m1 : (1 : Int) ≤ (m : Int) + 1 := by omega
  have m2 : (m : Int) + 1 ≤ (cap : Int) := by omega
  obtain ⟨g1, g2⟩ := grow_ok k r hr
  have g3 := grow_used k r
  have w1 : wrap64 ((k : Int) + 1 - 1) = (k : Int) := by rw [w64 _ (by omega) (by omega)]; omega
  obtain ⟨wa, hwa⟩ : ∃ wa, w.alloc (.cells #[.int .u8 d, .int .u16 n] 55) = wa := ⟨_, rfl⟩
  obtain ⟨wb, hwb⟩ : ∃ wb, wa.alloc (.cells #[.string ⟨#[42]⟩, .string ⟨#[47]⟩, .string ⟨#[68, 73, 86]⟩, .string ⟨#[77, 79, 68]⟩, .string ⟨#[65, 78, 68]⟩, .string ⟨#[43]⟩, .string ⟨#[45]⟩, .string ⟨#[79, 82]⟩, .string ⟨#[61]⟩, .string ⟨#[35]⟩, .string ⟨#[60]⟩, .string ⟨#[60, 61]⟩, .string ⟨#[62]⟩, .string ⟨#[62, 61]⟩, .string ⟨#[73, 78]⟩] 9) = wb := ⟨_, rfl⟩
  have sa : wa.heap.size = w.heap.size + 1 := by rw [← hwa]; simp
  have sb : wb.heap.size = w.heap.size + 2 := by rw [← hwb]; simp [sa]
  have Ba : Below w.heap.size w wa := by rw [← hwa]; exact below_new _ _
  have Bb : Below wa.heap.size wa wb := by rw [← hwb]; exact below_new _ _
  have BAB := Lib.hid (bt Ba Bb)
  have e0 : wa.heap[w.heap.size]? = some (.cells #[.int .u8 d, .int .u16 n] 55 (0, 0)) := by rw [← hwa]; exact heap_alloc_new _ _
  have e1 : wb.heap[w.heap.size]? = some (.cells #[.int .u8 d, .int .u16 n] 55 (0, 0)) := (Bb.block _ (by omega)).trans e0
  have HE1 := Lib.hid e1
  have a0 : wb.cell? ⟨w.heap.size, 0, none⟩ = some (.int .u8 d) := by rw [Lib.cell_of_heap e1]; rfl
  have HSB := Lib.hid (And.intro sa sb)
  have HR : ∀ (q : Option Addr) (c : Nat), (1 < m + 1 → q = some ⟨g, o + 2, none⟩) → c = cap - 1 → SeedRow wb (.slice q m c) r := fun q c hq hc => by
    have h0 := (HV.out.drop 1 (by simp) q (by simpa [hm] using hq)).bel BAB.out
    rw [hc]
    simpa [hm] using h0
  have HR := Lib.hid HR
  have t3 : (d : Int) % 9 = 4 := by omega
  have hgr : grow (k + 1) ((d, n) :: r) = (.num n, 1) := by
    conv => lhs; unfold grow
    rw [if_neg (by omega), if_neg (by omega), if_pos h9]
  have HG := Lib.hid hgr
  have HN := Lib.hid (fun w => Number_nat n (by omega) w)
  have a1 : wb.cell? ⟨w.heap.size, 1, none⟩ = some (.int .u16 n) := by rw [Lib.cell_of_heap e1]; rfl
  have hlt : w.heap.size < wb.heap.size := by omega
  have HLT := Lib.hid hlt
  clear hlt hc h4 ih hm hgr g1 g2 g3 Ba Bb e0 e1 sa sb h9 hr
  go_enter Try.func14, Try.ntmps14
  go_wp2_with fail
  have hlt := HLT.out
  refine wp_region_held_drew (S := fun w' => w'.cell? ⟨w.heap.size, 1, none⟩ = some (.int .u16 n)) (by kernel_rfl) a1 (fun hHeld => ?_)
  have hwn : IntKind.i64.wrap (n : Int) = (n : Int) := IntWalk.i64_in _ (by omega)
  have D0 : Below w.heap.size w wb.drew := BAB.out.drew
  have hltv : w.heap.size < wb.drew.heap.size := hlt
  clear a1 hlt
  generalize wb.drew = wv at *
  have hlt := hltv
  have a1 := hHeld
  refine wpAnyH_take (i := 0) (oi := ?op0) (v := ?vp0) ?hp0 (by kernel_rfl) (by kernel_rfl) (by kernel_rfl) ?qp0 ?yp0 (by assumption) ?rp0
  case hp0 => simp only [List.getElem?_toArray, List.getElem?_cons_succ, List.getElem?_cons_zero]; (try rfl)
  case qp0 => exact fun _ _ _ h => h
  case yp0 => (refine Or.inl ⟨by rfl, ?_⟩; intro w hSw; (try dsimp only at hSw); go_simp; (try with_reducible rfl))
  try simp only [Act.put, List.setIfInBounds_toArray, List.set_cons_zero, List.set_cons_succ]
  refine wpAnyH_take (i := 1) (oi := ?op1) (v := ?vp1) ?hp1 (by kernel_rfl) (by kernel_rfl) (by kernel_rfl) ?qp1 ?yp1 (by assumption) ?rp1
  case hp1 => simp only [List.getElem?_toArray, List.getElem?_cons_succ, List.getElem?_cons_zero]; (try rfl)
  case qp1 => exact fun _ _ _ h => h
  case yp1 => (refine Or.inl ⟨by rfl, ?_⟩; intro w hSw; (try dsimp only at hSw); go_simp; (try with_reducible rfl))
  try simp only [Act.put, List.setIfInBounds_toArray, List.set_cons_zero, List.set_cons_succ]
  refine wpAnyH_take (i := 2) (oi := ?op2) (v := ?vp2) ?hp2 (by kernel_rfl) (by kernel_rfl) (by kernel_rfl) ?qp2 ?yp2 (by assumption) ?rp2
  case hp2 => simp only [List.getElem?_toArray, List.getElem?_cons_succ, List.getElem?_cons_zero]; (try rfl)
  case qp2 => exact fun _ _ _ h => h
  case yp2 => (refine Or.inl ⟨by rfl, ?_⟩; intro w hSw; (try dsimp only at hSw); go_simp; (try with_reducible rfl))
  try simp only [Act.put, List.setIfInBounds_toArray, List.set_cons_zero, List.set_cons_succ]
  refine wpAnyH_take (i := 3) (oi := ?op3) (v := ?vp3) ?hp3 (by kernel_rfl) (by kernel_rfl) (by kernel_rfl) ?qp3 ?yp3 (by assumption) ?rp3
  case hp3 => simp only [List.getElem?_toArray, List.getElem?_cons_succ, List.getElem?_cons_zero]; (try rfl)
  case qp3 => exact fun _ _ _ h => h
  case yp3 => (refine Or.inl ⟨by rfl, ?_⟩; intro w hSw; (try dsimp only at hSw); go_simp; (try with_reducible rfl))
  try simp only [Act.put, List.setIfInBounds_toArray, List.set_cons_zero, List.set_cons_succ]
  refine wpAnyH_take (i := 5) (oi := ?op5) (v := ?vp5) ?hp5 (by kernel_rfl) (by kernel_rfl) (by kernel_rfl) ?qp5 ?yp5 (by assumption) ?rp5
  case hp5 => simp only [List.getElem?_toArray, List.getElem?_cons_succ, List.getElem?_cons_zero]; (try rfl)
  case qp5 => exact fun _ _ _ h => h
  case yp5 => (refine Or.inl ⟨by rfl, ?_⟩; intro w hSw; (try dsimp only at hSw); go_simp; (try with_reducible rfl))
  try simp only [Act.put, List.setIfInBounds_toArray, List.set_cons_zero, List.set_cons_succ]
  refine wpAnyH_take (i := 6) (oi := ?op6) (v := ?vp6) ?hp6 (by kernel_rfl) (by kernel_rfl) (by kernel_rfl) ?qp6 ?yp6 (by assumption) ?rp6
  case hp6 => simp only [List.getElem?_toArray, List.getElem?_cons_succ, List.getElem?_cons_zero]; (try rfl)
  case qp6 => exact fun _ _ _ h => h
  case yp6 => (refine Or.inl ⟨by rfl, ?_⟩; intro w hSw; (try dsimp only at hSw); go_simp; (try with_reducible rfl))
  try simp only [Act.put, List.setIfInBounds_toArray, List.set_cons_zero, List.set_cons_succ]
  refine wpAnyH_take (i := 7) (oi := ?op7) (v := ?vp7) ?hp7 (by kernel_rfl) (by kernel_rfl) (by kernel_rfl) ?qp7 ?yp7 (by assumption) ?rp7
  case hp7 => simp only [List.getElem?_toArray, List.getElem?_cons_succ, List.getElem?_cons_zero]; (try rfl)
  case qp7 => exact fun _ _ _ h => h
  case yp7 => (refine Or.inl ⟨by rfl, ?_⟩; intro w hSw; (try dsimp only at hSw); go_simp; (try with_reducible rfl))
  try simp only [Act.put, List.setIfInBounds_toArray, List.set_cons_zero, List.set_cons_succ]
  refine wpAnyH_ready (rs := [4, 8]) (by kernel_rfl) (by simp) ?_
  refine AllReadyH.cons (o := ?oA) ?hA ?kA (AllReadyH.cons (o := ?oB) ?hB ?kB AllReadyH.nil)
  case hA => simp only [List.getElem?_toArray, List.getElem?_cons_succ, List.getElem?_cons_zero]; (try rfl)
  case hB => simp only [List.getElem?_toArray, List.getElem?_cons_succ, List.getElem?_cons_zero]; (try rfl)
  case kA =>
    intro K hK
    go_simp
    have bA : Below wv.heap.size wv (wv.alloc (.cells #[.int .u8 5, .complex .f64 0 0, .string ⟨#[]⟩, .int .i64 n, .slice none 0 0] 43)) := below_new wv _
    have aA := (bA.cell (p := ⟨w.heap.size, 1, none⟩) hlt).trans a1
    refine hK.out _ _ aA (fun h4 => ?_)
    clear hK K
    try simp only [Act.put, List.setIfInBounds_toArray, List.set_cons_zero, List.set_cons_succ]
    refine wpAnyH_ready (rs := [8]) (by kernel_rfl) (by simp) ?_
    refine AllReadyH.cons (o := ?oC) ?hC ?kC AllReadyH.nil
    case hC => simp only [List.getElem?_toArray, List.getElem?_cons_succ, List.getElem?_cons_zero]; (try rfl)
    intro K hK
    go_simp
    refine (HN.out _).mono ?_
    rintro e w9 ⟨rfl, B9⟩
    go_wp2_with fail
    have hltA : w.heap.size < (wv.alloc (.cells #[.int .u8 5, .complex .f64 0 0, .string ⟨#[]⟩, .int .i64 n, .slice none 0 0] 43)).heap.size := Nat.lt_of_lt_of_le hlt bA.size
    have a9 := (B9.cell (p := ⟨w.heap.size, 1, none⟩) hltA).trans aA
    refine hK.out _ _ a9 (fun h5 => ?_)
    clear hK K
    try simp only [Act.put, List.setIfInBounds_toArray, List.set_cons_zero, List.set_cons_succ]
    refine wpAnyH_take (i := 9) (oi := ?oa9) (v := ?va9) ?ha9 (by kernel_rfl) (by kernel_rfl) (by kernel_rfl) ?qa9 ?ya9 (by assumption) ?ra9
    case ha9 => simp only [List.getElem?_toArray, List.getElem?_cons_succ, List.getElem?_cons_zero]; (try rfl)
    case qa9 => exact fun _ _ _ h => h
    case ya9 => (refine Or.inl ⟨by rfl, ?_⟩; intro w hSw; (try dsimp only at hSw); go_simp; (try with_reducible rfl))
    try simp only [Act.put, List.setIfInBounds_toArray, List.set_cons_zero, List.set_cons_succ]
    refine wpAnyH_take (i := 10) (oi := ?oa10) (v := ?va10) ?ha10 (by kernel_rfl) (by kernel_rfl) (by kernel_rfl) ?qa10 ?ya10 (by assumption) ?ra10
    case ha10 => simp only [List.getElem?_toArray, List.getElem?_cons_succ, List.getElem?_cons_zero]; (try rfl)
    case qa10 => exact fun _ _ _ h => h
    case ya10 => (refine Or.inl ⟨by rfl, ?_⟩; intro w hSw; (try dsimp only at hSw); go_simp; (try with_reducible rfl))
    try simp only [Act.put, List.setIfInBounds_toArray, List.set_cons_zero, List.set_cons_succ]
    refine wpAnyH_take (i := 11) (oi := ?oa11) (v := ?va11) ?ha11 (by kernel_rfl) (by kernel_rfl) (by kernel_rfl) ?qa11 ?ya11 (by assumption) ?ra11
    case ha11 => simp only [List.getElem?_toArray, List.getElem?_cons_succ, List.getElem?_cons_zero]; (try rfl)
    case qa11 => exact fun _ _ _ h => h
    case ya11 => (refine Or.inl ⟨by rfl, ?_⟩; intro w hSw; (try dsimp only at hSw); go_simp; (try with_reducible rfl))
    try simp only [Act.put, List.setIfInBounds_toArray, List.set_cons_zero, List.set_cons_succ]
    refine wpAnyH_done (by kernel_rfl) ?_ _
    go_wp2_with fail
    go_ret3
    have hsb := HSB.out.2
    have h := leaf_in (w := wv) (B := w.heap.size) (by omega) (n0 5 [] n) rfl
    rw [nodeO0] at h
    refine ⟨.node wv.heap.size (n0 5 [] n) [], ?_, bt (bt D0 h.2) B9, h.1.below B9, ?_⟩
    · rw [HG.out]; rfl
    · rw [HG.out]; rfl
  case kB =>
    intro K hK
    go_simp
    refine (HN.out _).mono ?_
    rintro e w9 ⟨rfl, B9⟩
    go_wp2_with fail
    have a9 := (B9.cell (p := ⟨w.heap.size, 1, none⟩) hlt).trans a1
    refine hK.out _ _ a9 (fun h4 => ?_)
    clear hK K
    try simp only [Act.put, List.setIfInBounds_toArray, List.set_cons_zero, List.set_cons_succ]
    refine wpAnyH_ready (rs := [4]) (by kernel_rfl) (by simp) ?_
    refine AllReadyH.cons (o := ?oD) ?hD ?kD AllReadyH.nil
    case hD => simp only [List.getElem?_toArray, List.getElem?_cons_succ, List.getElem?_cons_zero]; (try rfl)
    intro K hK
    go_simp
    have bA : Below w9.heap.size w9 (w9.alloc (.cells #[.int .u8 5, .complex .f64 0 0, .string ⟨#[]⟩, .int .i64 n, .slice none 0 0] 43)) := below_new _ _
    have aA := (bA.cell (p := ⟨w.heap.size, 1, none⟩) (Nat.lt_of_lt_of_le hlt B9.size)).trans a9
    refine hK.out _ _ aA (fun h5 => ?_)
    clear hK K
    try simp only [Act.put, List.setIfInBounds_toArray, List.set_cons_zero, List.set_cons_succ]
    refine wpAnyH_take (i := 9) (oi := ?ob9) (v := ?vb9) ?hb9 (by kernel_rfl) (by kernel_rfl) (by kernel_rfl) ?qb9 ?yb9 (by assumption) ?rb9
    case hb9 => simp only [List.getElem?_toArray, List.getElem?_cons_succ, List.getElem?_cons_zero]; (try rfl)
    case qb9 => exact fun _ _ _ h => h
    case yb9 => (refine Or.inl ⟨by rfl, ?_⟩; intro w hSw; (try dsimp only at hSw); go_simp; (try with_reducible rfl))
    try simp only [Act.put, List.setIfInBounds_toArray, List.set_cons_zero, List.set_cons_succ]
    refine wpAnyH_take (i := 10) (oi := ?ob10) (v := ?vb10) ?hb10 (by kernel_rfl) (by kernel_rfl) (by kernel_rfl) ?qb10 ?yb10 (by assumption) ?rb10
    case hb10 => simp only [List.getElem?_toArray, List.getElem?_cons_succ, List.getElem?_cons_zero]; (try rfl)
    case qb10 => exact fun _ _ _ h => h
    case yb10 => (refine Or.inl ⟨by rfl, ?_⟩; intro w hSw; (try dsimp only at hSw); go_simp; (try with_reducible rfl))
    try simp only [Act.put, List.setIfInBounds_toArray, List.set_cons_zero, List.set_cons_succ]
    refine wpAnyH_take (i := 11) (oi := ?ob11) (v := ?vb11) ?hb11 (by kernel_rfl) (by kernel_rfl) (by kernel_rfl) ?qb11 ?yb11 (by assumption) ?rb11
    case hb11 => simp only [List.getElem?_toArray, List.getElem?_cons_succ, List.getElem?_cons_zero]; (try rfl)
    case qb11 => exact fun _ _ _ h => h
    case yb11 => (refine Or.inl ⟨by rfl, ?_⟩; intro w hSw; (try dsimp only at hSw); go_simp; (try with_reducible rfl))
    try simp only [Act.put, List.setIfInBounds_toArray, List.set_cons_zero, List.set_cons_succ]
    refine wpAnyH_done (by kernel_rfl) ?_ _
    go_wp2_with fail
    go_ret3
    have hsb := HSB.out.2
    have hz := B9.size
    have h := leaf_in (w := w9) (B := w.heap.size) (by omega) (n0 5 [] n) rfl
    rw [nodeO0] at h
    refine ⟨.node w9.heap.size (n0 5 [] n) [], ?_, bt (bt D0 B9) h.2, h.1, ?_⟩
    · rw [HG.out]; rfl
    · rw [HG.out]; rfl
end Go.Proofs.Ytnaihncmichfaaa
/- Law 6: Grown, walked: a call. -/
namespace Go.Proofs.Ytnaihncmichfaaa
open Go.RowKit Go.Op
set_option maxHeartbeats 2000000
set_option maxRecDepth 100000
set_option linter.unusedVariables false
set_option linter.unusedSimpArgs false

theorem grown_call (k : Nat) (hk : k ≤ 11) (d n : Nat) (r : List (Nat × Nat)) (hd : d ≤ 255) (hn : n ≤ 65535) (hl : r.length ≤ 59) (hr : ∀ x ∈ r, x.2 ≤ 65535) (h9 : d % 9 = 6) (v : Value) (w : World) (hv : SeedRow w v ((d, n) :: r))
    (ih : ∀ v' w', SeedRow w' v' r → Calls Try.prog 14 #[v', .int .i64 k] w' (Grows w' k r)) (ih2 : ∀ v' w', SeedRow w' v' (r.drop (grow k r).2) → Calls Try.prog 14 #[v', .int .i64 k] w' (Grows w' k (r.drop (grow k r).2))) :
    Calls Try.prog 14 #[v, .int .i64 ((k + 1 : Nat) : Int)] w (Grows w (k + 1) ((d, n) :: r)) := by
  obtain ⟨q, cap, rfl, h2, h3, h4⟩ := hv
  obtain ⟨g, o, rfl, hg, hc⟩ := h4 (by simp)
  obtain ⟨c0, c1⟩ := hc 0 (d, n) rfl
  simp only [Nat.zero_mul, Nat.add_zero] at c0 c1
  have HV : Hid (SeedRow w (.slice (some ⟨g, o, none⟩) ((d, n) :: r).length cap) ((d, n) :: r)) := Lib.hid ⟨_, cap, rfl, h2, h3, h4⟩
  have HIH := Lib.hid ih
  obtain ⟨m, hm⟩ : ∃ m, r.length = m := ⟨_, rfl⟩
  simp only [List.length_cons] at h2 ⊢
  rw [hm] at h2 ⊢
  have HM := Lib.hid hm
  have t1 : ((m : Int) + 1 == 0) = false := beq_eq_false_iff_ne.2 (by omega)
  have t2 : ((k : Int) + 1 == 0) = false := beq_eq_false_iff_ne.2 (by omega)
  have m1 : (1 : Int) ≤ (m : Int) + 1 := by omega
  have m2 : (m : Int) + 1 ≤ (cap : Int) := by omega
  obtain ⟨g1, g2⟩ := grow_ok k r hr
  have g3 := grow_used k r
  have w1 : wrap64 ((k : Int) + 1 - 1) = (k : Int) := by rw [w64 _ (by omega) (by omega)]; omega
  obtain ⟨wa, hwa⟩ : ∃ wa, w.alloc (.cells #[.int .u8 d, .int .u16 n] 55) = wa := ⟨_, rfl⟩
  obtain ⟨wb, hwb⟩ : ∃ wb, wa.alloc (.cells #[.string ⟨#[42]⟩, .string ⟨#[47]⟩, .string ⟨#[68, 73, 86]⟩, .string ⟨#[77, 79, 68]⟩, .string ⟨#[65, 78, 68]⟩, .string ⟨#[43]⟩, .string ⟨#[45]⟩, .string ⟨#[79, 82]⟩, .string ⟨#[61]⟩, .string ⟨#[35]⟩, .string ⟨#[60]⟩, .string ⟨#[60, 61]⟩, .string ⟨#[62]⟩, .string ⟨#[62, 61]⟩, .string ⟨#[73, 78]⟩] 9) = wb := ⟨_, rfl⟩
  have sa : wa.heap.size = w.heap.size + 1 := by rw [← hwa]; simp
  have sb : wb.heap.size = w.heap.size + 2 := by rw [← hwb]; simp [sa]
  have Ba : Below w.heap.size w wa := by rw [← hwa]; exact below_new _ _
  have Bb : Below wa.heap.size wa wb := by rw [← hwb]; exact below_new _ _
  have BAB := Lib.hid (bt Ba Bb)
  have e0 : wa.heap[w.heap.size]? = some (.cells #[.int .u8 d, .int .u16 n] 55 (0, 0)) := by rw [← hwa]; exact heap_alloc_new _ _
  have e1 : wb.heap[w.heap.size]? = some (.cells #[.int .u8 d, .int .u16 n] 55 (0, 0)) := (Bb.block _ (by omega)).trans e0
  have HE1 := Lib.hid e1
  have a0 : wb.cell? ⟨w.heap.size, 0, none⟩ = some (.int .u8 d) := by rw [Lib.cell_of_heap e1]; rfl
  have HSB := Lib.hid (And.intro sa sb)
  have HR : ∀ (q : Option Addr) (c : Nat), (1 < m + 1 → q = some ⟨g, o + 2, none⟩) → c = cap - 1 → SeedRow wb (.slice q m c) r := fun q c hq hc => by
    have h0 := (HV.out.drop 1 (by simp) q (by simpa [hm] using hq)).bel BAB.out
    rw [hc]
    simpa [hm] using h0
  have HR := Lib.hid HR
  have t3 : (d : Int) % 9 = 6 := by omega
  have hgr : grow (k + 1) ((d, n) :: r) = (.call (grow k r).1 (grow k (r.drop (grow k r).2)).1, 1 + (grow k r).2 + (grow k (r.drop (grow k r).2)).2) := by
    conv => lhs; unfold grow
    rw [if_neg (by omega), if_neg (by omega), if_neg (by omega), if_neg (by omega), if_pos h9]
  obtain ⟨u, hu2⟩ : ∃ u, (grow k r).2 = u := ⟨_, rfl⟩
  rw [hu2] at ih2 hgr g2 g3
  obtain ⟨b1, b2⟩ := grow_ok k (r.drop u) (fun x hx => hr x (List.mem_of_mem_drop hx))
  have b3 := grow_used k (r.drop u)
  rw [List.length_drop] at b3
  obtain ⟨T, hT⟩ : ∃ T : ByteArray, ⟨(grow k r).1.tx.toArray⟩ = T := ⟨_, rfl⟩
  have zT : T.size ≤ 2000 := by rw [← hT, size_of]; omega
  obtain ⟨V, hV⟩ : ∃ T : ByteArray, ⟨(grow k (r.drop u)).1.tx.toArray⟩ = T := ⟨_, rfl⟩
  have zV : V.size ≤ 2000 := by rw [← hV, size_of]; omega
  have HIH2 := Lib.hid ih2
  have f1 : ¬ (9223372036854775807 : Nat) < 2 + T.size := by omega
  have f2 : ¬ (9223372036854775807 : Nat) < 2 + T.size + 2 := by omega
  have f3 : ¬ (9223372036854775807 : Nat) < 2 + T.size + 2 + V.size := by omega
  have f4 : ¬ (9223372036854775807 : Nat) < 2 + T.size + 2 + V.size + 1 := by omega
  have f5 : ¬ (9223372036854775807 : Nat) ≤ 2 + T.size + 2 + V.size := by omega

  have HR : ∀ (q : Option Addr) (c : Nat), (1 < m + 1 → q = some ⟨g, o + 2, none⟩) → c = cap - 1 → SeedRow wb (.slice q m c) r := fun q c hq hc => by
    have h0 := (HV.out.drop 1 (by simp) q (by simpa [hm] using hq)).bel BAB.out
    rw [hc]
    simpa [hm] using h0
  obtain ⟨z, hz2⟩ : ∃ y, (grow k (r.drop u)).2 = y := ⟨_, rfl⟩
  rw [hz2] at b3 b2
  rw [hm] at g3 b3
  have HR2 : ∀ (q : Option Addr) (l c : Nat), (1 + u < m + 1 → q = some ⟨g, o + (1 + u) * 2, none⟩) → l = m - u → c = cap - (1 + u) → SeedRow wb (.slice q l c) (r.drop u) := fun q l c hq hl2 hc => by
    have h0 := (HV.out.drop (1 + u) (by simp only [List.length_cons, hm]; omega) q (by simpa [hm] using hq)).bel BAB.out
    rw [hc, hl2]
    have e1 : ((d, n) :: r).drop (1 + u) = r.drop u := by rw [Nat.add_comm]; rfl
    rw [e1] at h0
    simp only [List.length_cons, hm] at h0
    rw [show m + 1 - (1 + u) = m - u by omega] at h0
    exact h0
  have u60 : u ≤ 60 := by omega
  have z60 : z ≤ 60 := by omega
  have v0 : (0 : Int) ≤ 1 + (u : Int) := by omega
  have v1 : 1 + (u : Int) ≤ (m : Int) + 1 := by omega
  have v2 : (u : Int) ≤ (m : Int) := by omega
  have HR := Lib.hid HR
  have HR2 := Lib.hid HR2
  have HG := Lib.hid hgr
  have HUT := Lib.hid (And.intro hT (And.intro hV (And.intro hu2 hz2)))
  have HG3 := Lib.hid (And.intro g3 b3)
  clear hT hV hu2 hz2 zT zV b1 b2 b3 ih2
  clear hc h4 ih hm hgr g1 g2 g3 Ba Bb e0 e1 sa sb h9 hr
  go_enter Try.func14, Try.ntmps14
  go_wp2_with fail
  all_goals
    refine (HIH.out _ _ (HR.out _ _ (by intro h; first | rfl | omega) (by omega))).mono ?_
    rintro e wc ⟨t, rfl, Bc, It, Dt⟩
    rw [HUT.out.1, HUT.out.2.2.1]
    have HC := Lib.hid (And.intro Bc (And.intro It Dt))
    have HB2 := Lib.hid (fun v l (h : SeedRow wb v l) => h.bel (Bc.mono (by have := HSB.out.2; omega)))
    clear Bc It Dt
    obtain ⟨tp, htp⟩ : ∃ tp, t.p = tp := ⟨_, rfl⟩
    rw [htp]
    have HXV := Lib.hid htp
    clear htp
    simp only [ptrV]
    go_wp2_with fail
    all_goals
      refine (HIH2.out _ _ (HB2.out _ _ (HR2.out _ _ _ (by intro h; first | rfl | omega) (by omega) (by omega)))).mono ?_
      rintro e wd ⟨t2, rfl, Bd, It2, Dt2⟩
      rw [HUT.out.2.1, HUT.out.2.2.2]
      have HD := Lib.hid (And.intro Bd (And.intro It2 Dt2))
      clear Bd It2 Dt2
      obtain ⟨tq, htq⟩ : ∃ tp, t2.p = tp := ⟨_, rfl⟩
      rw [htq]
      have HXV2 := Lib.hid htq
      clear htq
      simp only [ptrV]
      obtain ⟨W1, hW1⟩ : ∃ W1, wd.alloc (.cells #[.int .u8 1, .complex .f64 0 0, .string ⟨#[103]⟩, .int .i64 0, .slice none 0 0] 43) = W1 := ⟨_, rfl⟩
      obtain ⟨W2, hW2⟩ : ∃ W2, W1.alloc (.cells #[.pointer (some ⟨wd.heap.size, 0, none⟩), .pointer (some ⟨tp, 0, none⟩), .pointer (some ⟨tq, 0, none⟩)] 26) = W2 := ⟨_, rfl⟩
      obtain ⟨W3, hW3⟩ : ∃ W3, W2.alloc (.cells #[.int .u8 10, .complex .f64 0 0, .string ⟨#[]⟩, .int .i64 0, .slice (some ⟨W1.heap.size, 0, none⟩) 3 3] 43) = W3 := ⟨_, rfl⟩
      go_wp2_with fail
      go_ret3
      obtain ⟨Bc, It, Dt⟩ := HC.out
      obtain ⟨Bd, It2, Dt2⟩ := HD.out
      have hsb := HSB.out.2
      have hz := Bc.size
      have hz2 := Bd.size
      have S1 : W1.heap.size = wd.heap.size + 1 := by rw [← hW1]; simp
      have S2 : W2.heap.size = wd.heap.size + 2 := by rw [← hW2]; simp [S1]
      have Ia := (It.wide (B' := w.heap.size) (by omega)).below Bd
      have Ib := It2.wide (B' := w.heap.size) (by omega)
      obtain ⟨L1, B1⟩ := leaf_in (w := wd) (w1 := W1) (B := w.heap.size) (by omega) (n0 1 [103] 0) (by rw [nodeO0]; exact hW1)
      have Ia1 := Ia.below B1
      have Ib1 := Ib.below B1
      obtain ⟨LE, B2⟩ := node_in (w := W1) (w1 := W2) (w2 := W3) (B := w.heap.size) (by omega) (n0 10 [] 0) [.node wd.heap.size (n0 1 [103] 0) [], t, t2] [wd.heap.size, tp, tq] (by show [wd.heap.size, t.p, t2.p] = _; rw [HXV.out, HXV2.out]) (by simp) (by intro k hk; simp at hk; rcases hk with rfl | rfl | rfl; exact L1; exact Ia1; exact Ib1) hW2 (by rw [nodeO0]; exact hW3)
      have BE := bt (bt (bt (bt BAB.out Bc) Bd) B1) B2
      have hs : (((((⟨#[103, 40]⟩ : ByteArray) ++ T) ++ ⟨#[44, 32]⟩) ++ V) ++ ⟨#[41]⟩) = ⟨((GT.call (grow k r).1 (grow k (r.drop u)).1).tx).toArray⟩ := bytes_of2 (by rw [← HUT.out.1, ← HUT.out.2.1]; simp [bd2, GT.tx])
      have hi : ((1 + u + z : Nat) : Int) = 1 + (u : Int) + (z : Int) := by omega
      refine ⟨_, ?_, BE, LE, ?_⟩
      · rw [HG.out]
        simp only
        rw [HUT.out.2.2.2, hi, ← hs]
        rfl
      · rw [HG.out]
        show DT.node _ [DT.node _ [], t.dt, t2.dt] = _
        rw [Dt, Dt2]; rfl
end Go.Proofs.Ytnaihncmichfaaa
/- Law 6: Grown, walked: a set. -/
namespace Go.Proofs.Ytnaihncmichfaaa
open Go.RowKit Go.Op
set_option maxHeartbeats 2000000
set_option maxRecDepth 100000
set_option linter.unusedVariables false
set_option linter.unusedSimpArgs false

theorem grown_set (k : Nat) (hk : k ≤ 11) (d n : Nat) (r : List (Nat × Nat)) (hd : d ≤ 255) (hn : n ≤ 65535) (hl : r.length ≤ 59) (hr : ∀ x ∈ r, x.2 ≤ 65535) (h9 : d % 9 = 7) (v : Value) (w : World) (hv : SeedRow w v ((d, n) :: r))
    (ih : ∀ v' w', SeedRow w' v' r → Calls Try.prog 14 #[v', .int .i64 k] w' (Grows w' k r)) (ih2 : ∀ v' w', SeedRow w' v' (r.drop (grow k r).2) → Calls Try.prog 14 #[v', .int .i64 k] w' (Grows w' k (r.drop (grow k r).2))) :
    Calls Try.prog 14 #[v, .int .i64 ((k + 1 : Nat) : Int)] w (Grows w (k + 1) ((d, n) :: r)) := by
  obtain ⟨q, cap, rfl, h2, h3, h4⟩ := hv
  obtain ⟨g, o, rfl, hg, hc⟩ := h4 (by simp)
  obtain ⟨c0, c1⟩ := hc 0 (d, n) rfl
  simp only [Nat.zero_mul, Nat.add_zero] at c0 c1
  have HV : Hid (SeedRow w (.slice (some ⟨g, o, none⟩) ((d, n) :: r).length cap) ((d, n) :: r)) := Lib.hid ⟨_, cap, rfl, h2, h3, h4⟩
  have HIH := Lib.hid ih
  obtain ⟨m, hm⟩ : ∃ m, r.length = m := ⟨_, rfl⟩
  simp only [List.length_cons] at h2 ⊢
  rw [hm] at h2 ⊢
  have HM := Lib.hid hm
  have t1 : ((m : Int) + 1 == 0) = false := beq_eq_false_iff_ne.2 (by omega)
  have t2 : ((k : Int) + 1 == 0) = false := beq_eq_false_iff_ne.2 (by omega)
  have m1 : (1 : Int) ≤ (m : Int) + 1 := by omega
  have m2 : (m : Int) + 1 ≤ (cap : Int) := by omega
  obtain ⟨g1, g2⟩ := grow_ok k r hr
  have g3 := grow_used k r
  have w1 : wrap64 ((k : Int) + 1 - 1) = (k : Int) := by rw [w64 _ (by omega) (by omega)]; omega
  obtain ⟨wa, hwa⟩ : ∃ wa, w.alloc (.cells #[.int .u8 d, .int .u16 n] 55) = wa := ⟨_, rfl⟩
  obtain ⟨wb, hwb⟩ : ∃ wb, wa.alloc (.cells #[.string ⟨#[42]⟩, .string ⟨#[47]⟩, .string ⟨#[68, 73, 86]⟩, .string ⟨#[77, 79, 68]⟩, .string ⟨#[65, 78, 68]⟩, .string ⟨#[43]⟩, .string ⟨#[45]⟩, .string ⟨#[79, 82]⟩, .string ⟨#[61]⟩, .string ⟨#[35]⟩, .string ⟨#[60]⟩, .string ⟨#[60, 61]⟩, .string ⟨#[62]⟩, .string ⟨#[62, 61]⟩, .string ⟨#[73, 78]⟩] 9) = wb := ⟨_, rfl⟩
  have sa : wa.heap.size = w.heap.size + 1 := by rw [← hwa]; simp
  have sb : wb.heap.size = w.heap.size + 2 := by rw [← hwb]; simp [sa]
  have Ba : Below w.heap.size w wa := by rw [← hwa]; exact below_new _ _
  have Bb : Below wa.heap.size wa wb := by rw [← hwb]; exact below_new _ _
  have BAB := Lib.hid (bt Ba Bb)
  have e0 : wa.heap[w.heap.size]? = some (.cells #[.int .u8 d, .int .u16 n] 55 (0, 0)) := by rw [← hwa]; exact heap_alloc_new _ _
  have e1 : wb.heap[w.heap.size]? = some (.cells #[.int .u8 d, .int .u16 n] 55 (0, 0)) := (Bb.block _ (by omega)).trans e0
  have HE1 := Lib.hid e1
  have a0 : wb.cell? ⟨w.heap.size, 0, none⟩ = some (.int .u8 d) := by rw [Lib.cell_of_heap e1]; rfl
  have HSB := Lib.hid (And.intro sa sb)
  have HR : ∀ (q : Option Addr) (c : Nat), (1 < m + 1 → q = some ⟨g, o + 2, none⟩) → c = cap - 1 → SeedRow wb (.slice q m c) r := fun q c hq hc => by
    have h0 := (HV.out.drop 1 (by simp) q (by simpa [hm] using hq)).bel BAB.out
    rw [hc]
    simpa [hm] using h0
  have HR := Lib.hid HR
  have t3 : (d : Int) % 9 = 7 := by omega
  have hgr : grow (k + 1) ((d, n) :: r) = (.set (grow k r).1 (grow k (r.drop (grow k r).2)).1, 1 + (grow k r).2 + (grow k (r.drop (grow k r).2)).2) := by
    conv => lhs; unfold grow
    rw [if_neg (by omega), if_neg (by omega), if_neg (by omega), if_neg (by omega), if_neg (by omega), if_pos h9]
  obtain ⟨u, hu2⟩ : ∃ u, (grow k r).2 = u := ⟨_, rfl⟩
  rw [hu2] at ih2 hgr g2 g3
  obtain ⟨b1, b2⟩ := grow_ok k (r.drop u) (fun x hx => hr x (List.mem_of_mem_drop hx))
  have b3 := grow_used k (r.drop u)
  rw [List.length_drop] at b3
  obtain ⟨T, hT⟩ : ∃ T : ByteArray, ⟨(grow k r).1.tx.toArray⟩ = T := ⟨_, rfl⟩
  have zT : T.size ≤ 2000 := by rw [← hT, size_of]; omega
  obtain ⟨V, hV⟩ : ∃ T : ByteArray, ⟨(grow k (r.drop u)).1.tx.toArray⟩ = T := ⟨_, rfl⟩
  have zV : V.size ≤ 2000 := by rw [← hV, size_of]; omega
  have HIH2 := Lib.hid ih2
  have f1 : ¬ (9223372036854775807 : Nat) < 2 + T.size := by omega
  have f2 : ¬ (9223372036854775807 : Nat) < 2 + T.size + 4 := by omega
  have f3 : ¬ (9223372036854775807 : Nat) < 2 + T.size + 4 + V.size := by omega
  have f4 : ¬ (9223372036854775807 : Nat) < 2 + T.size + 4 + V.size + 1 := by omega
  have f5 : ¬ (9223372036854775807 : Nat) ≤ 2 + T.size + 4 + V.size := by omega

  have HR : ∀ (q : Option Addr) (c : Nat), (1 < m + 1 → q = some ⟨g, o + 2, none⟩) → c = cap - 1 → SeedRow wb (.slice q m c) r := fun q c hq hc => by
    have h0 := (HV.out.drop 1 (by simp) q (by simpa [hm] using hq)).bel BAB.out
    rw [hc]
    simpa [hm] using h0
  obtain ⟨z, hz2⟩ : ∃ y, (grow k (r.drop u)).2 = y := ⟨_, rfl⟩
  rw [hz2] at b3 b2
  rw [hm] at g3 b3
  have HR2 : ∀ (q : Option Addr) (l c : Nat), (1 + u < m + 1 → q = some ⟨g, o + (1 + u) * 2, none⟩) → l = m - u → c = cap - (1 + u) → SeedRow wb (.slice q l c) (r.drop u) := fun q l c hq hl2 hc => by
    have h0 := (HV.out.drop (1 + u) (by simp only [List.length_cons, hm]; omega) q (by simpa [hm] using hq)).bel BAB.out
    rw [hc, hl2]
    have e1 : ((d, n) :: r).drop (1 + u) = r.drop u := by rw [Nat.add_comm]; rfl
    rw [e1] at h0
    simp only [List.length_cons, hm] at h0
    rw [show m + 1 - (1 + u) = m - u by omega] at h0
    exact h0
  have u60 : u ≤ 60 := by omega
  have z60 : z ≤ 60 := by omega
  have v0 : (0 : Int) ≤ 1 + (u : Int) := by omega
  have v1 : 1 + (u : Int) ≤ (m : Int) + 1 := by omega
  have v2 : (u : Int) ≤ (m : Int) := by omega
  have HR := Lib.hid HR
  have HR2 := Lib.hid HR2
  have HG := Lib.hid hgr
  have HUT := Lib.hid (And.intro hT (And.intro hV (And.intro hu2 hz2)))
  have HG3 := Lib.hid (And.intro g3 b3)
  clear hT hV hu2 hz2 zT zV b1 b2 b3 ih2
  clear hc h4 ih hm hgr g1 g2 g3 Ba Bb e0 e1 sa sb h9 hr
  go_enter Try.func14, Try.ntmps14
  go_wp2_with fail
  all_goals
    refine (HIH.out _ _ (HR.out _ _ (by intro h; first | rfl | omega) (by omega))).mono ?_
    rintro e wc ⟨t, rfl, Bc, It, Dt⟩
    rw [HUT.out.1, HUT.out.2.2.1]
    have HC := Lib.hid (And.intro Bc (And.intro It Dt))
    have HB2 := Lib.hid (fun v l (h : SeedRow wb v l) => h.bel (Bc.mono (by have := HSB.out.2; omega)))
    clear Bc It Dt
    obtain ⟨tp, htp⟩ : ∃ tp, t.p = tp := ⟨_, rfl⟩
    rw [htp]
    have HXV := Lib.hid htp
    clear htp
    simp only [ptrV]
    go_wp2_with fail
    all_goals
      refine (HIH2.out _ _ (HB2.out _ _ (HR2.out _ _ _ (by intro h; first | rfl | omega) (by omega) (by omega)))).mono ?_
      rintro e wd ⟨t2, rfl, Bd, It2, Dt2⟩
      rw [HUT.out.2.1, HUT.out.2.2.2]
      have HD := Lib.hid (And.intro Bd (And.intro It2 Dt2))
      clear Bd It2 Dt2
      obtain ⟨tq, htq⟩ : ∃ tp, t2.p = tp := ⟨_, rfl⟩
      rw [htq]
      have HXV2 := Lib.hid htq
      clear htq
      simp only [ptrV]
      obtain ⟨W1, hW1⟩ : ∃ W1, wd.alloc (.cells #[.pointer (some ⟨tp, 0, none⟩), .pointer (some ⟨tq, 0, none⟩)] 26) = W1 := ⟨_, rfl⟩
      obtain ⟨W2, hW2⟩ : ∃ W2, W1.alloc (.cells #[.int .u8 9, .complex .f64 0 0, .string ⟨#[]⟩, .int .i64 0, .slice (some ⟨wd.heap.size, 0, none⟩) 2 2] 43) = W2 := ⟨_, rfl⟩
      obtain ⟨W3, hW3⟩ : ∃ W3, W2.alloc (.cells #[.int .u8 1, .complex .f64 0 0, .string ⟨#[83]⟩, .int .i64 0, .slice none 0 0] 43) = W3 := ⟨_, rfl⟩
      obtain ⟨W4, hW4⟩ : ∃ W4, W3.alloc (.cells #[.pointer (some ⟨W2.heap.size, 0, none⟩), .pointer (some ⟨W1.heap.size, 0, none⟩)] 26) = W4 := ⟨_, rfl⟩
      obtain ⟨W5, hW5⟩ : ∃ W5, W4.alloc (.cells #[.int .u8 8, .complex .f64 0 0, .string ⟨#[]⟩, .int .i64 0, .slice (some ⟨W3.heap.size, 0, none⟩) 2 2] 43) = W5 := ⟨_, rfl⟩
      go_wp2_with fail
      go_ret3
      obtain ⟨Bc, It, Dt⟩ := HC.out
      obtain ⟨Bd, It2, Dt2⟩ := HD.out
      have hsb := HSB.out.2
      have hz := Bc.size
      have hz2 := Bd.size
      have S1 : W1.heap.size = wd.heap.size + 1 := by rw [← hW1]; simp
      have S2 : W2.heap.size = wd.heap.size + 2 := by rw [← hW2]; simp [S1]
      have S3 : W3.heap.size = wd.heap.size + 3 := by rw [← hW3]; simp [S2]
      have S4 : W4.heap.size = wd.heap.size + 4 := by rw [← hW4]; simp [S3]
      have Ia := (It.wide (B' := w.heap.size) (by omega)).below Bd
      have Ib := It2.wide (B' := w.heap.size) (by omega)
      obtain ⟨L1, B1⟩ := node_in (w := wd) (w1 := W1) (w2 := W2) (B := w.heap.size) (by omega) (n0 9 [] 0) [t, t2] [tp, tq] (by show [t.p, t2.p] = _; rw [HXV.out, HXV2.out]) (by simp) (by intro k hk; simp at hk; rcases hk with rfl | rfl; exact Ia; exact Ib) hW1 (by rw [nodeO0]; exact hW2)
      obtain ⟨L2, B2⟩ := leaf_in (w := W2) (w1 := W3) (B := w.heap.size) (by omega) (n0 1 [83] 0) (by rw [nodeO0]; exact hW3)
      have L1b := L1.below B2
      obtain ⟨LE, B3⟩ := node_in (w := W3) (w1 := W4) (w2 := W5) (B := w.heap.size) (by omega) (n0 8 [] 0) [.node W2.heap.size (n0 1 [83] 0) [], .node W1.heap.size (n0 9 [] 0) [t, t2]] [W2.heap.size, W1.heap.size] rfl (by simp) (by intro k hk; simp at hk; rcases hk with rfl | rfl; exact L2; exact L1b) hW4 (by rw [nodeO0]; exact hW5)
      have BE := bt (bt (bt (bt (bt BAB.out Bc) Bd) B1) B2) B3
      have hs : (((((⟨#[83, 123]⟩ : ByteArray) ++ T) ++ ⟨#[32, 46, 46, 32]⟩) ++ V) ++ ⟨#[125]⟩) = ⟨((GT.set (grow k r).1 (grow k (r.drop u)).1).tx).toArray⟩ := bytes_of2 (by rw [← HUT.out.1, ← HUT.out.2.1]; simp [bd2, GT.tx])
      have hi : ((1 + u + z : Nat) : Int) = 1 + (u : Int) + (z : Int) := by omega
      refine ⟨_, ?_, BE, LE, ?_⟩
      · rw [HG.out]
        simp only
        rw [HUT.out.2.2.2, hi, ← hs]
        rfl
      · rw [HG.out]
        show DT.node _ [DT.node _ [], DT.node _ [t.dt, t2.dt]] = _
        rw [Dt, Dt2]; rfl
end Go.Proofs.Ytnaihncmichfaaa
