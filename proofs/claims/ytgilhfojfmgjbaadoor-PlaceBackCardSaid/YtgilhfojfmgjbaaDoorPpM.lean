/- Layer 3's laws: PlaceBack. -/
import Derived.Test.YtgilhfojfmgjbaaDoorPpL
import Derived.Test.YtgilhfojfmgjbaaDoorPpI
import Derived.Deep.DeepCutAuto
import Derived.Deep.RegionHeld3
namespace Go.Proofs.YtgilhfojfmgjbaaDoor
open Go.RowKit
set_option maxHeartbeats 1000000
set_option maxRecDepth 100000
set_option linter.unusedVariables false

theorem neq_pos {P : Program} (l c m d : Int) (t : TypeId) (w : World) : (binOp .neq t (posV l c) (posV m d)).run P w = .ok (.bool (!pEq l c m d)) w := by
  have h := eql_pos (P := P) l c m d t w
  obtain ⟨x, y, e1⟩ := posV_cx l c
  obtain ⟨x2, y2, e2⟩ := posV_cx m d
  rw [e1, e2] at h ⊢
  rw [run_eql_complex] at h
  rw [run_neq_complex]
  injection h with h1 _
  injection h1 with h2
  rw [h2]
/-- What the walk of PlaceBack asks. -/
structure BackF (s t : ByteArray) (k : Nat) (l c : Int) : Prop where
  hp : isP l c = true
  sz : (s.extract 0 k).size = k
  g1 : goB 1 1 (s.extract 0 k).data.toList = (l, c)
  n1 : ∀ r, InAll s.data.toList l c r → r = k
  n2 : ∀ r, InAll (s ++ t).data.toList l c r → r = k
  sz2 : (s ++ t).size = s.size + t.size
  g2 : ∀ m d, goB 1 1 s.data.toList = (m, d) → goB 1 1 (s ++ t).data.toList = goB m d t.data.toList
theorem back_facts (s t : ByteArray) (k : Nat) (hk : k ≤ s.size) (hs : s.size ≤ 4096) (ht : t.size ≤ 4096) : ∃ l c, BackF s t k l c := by
  have hlen : s.data.toList.length = s.size := by rw [Array.length_toList]; rfl
  have hlent : t.data.toList.length = t.size := by rw [Array.length_toList]; rfl
  have hl : (s.extract 0 k).data.toList = s.data.toList.take k := extract_take s k hk
  have hz : (s.extract 0 k).size = k := by
    have := congrArg List.length hl
    rw [List.length_take, Array.length_toList] at this
    have e : (s.extract 0 k).data.size = (s.extract 0 k).size := rfl
    omega
  have happ : (s ++ t).data.toList = s.data.toList ++ t.data.toList := by rw [ByteArray.data_append, Array.toList_append]
  have hk2 : (s.data.toList ++ t.data.toList).take k = s.data.toList.take k := by
    rw [List.take_append, show k - s.data.toList.length = 0 by omega]; simp
  obtain ⟨f1, _⟩ := go_first s.data.toList (by omega) k
  refine ⟨(goB 1 1 (s.data.toList.take k)).1, (goB 1 1 (s.data.toList.take k)).2, f1, hz, by rw [hl], fun r hr => ?_, fun r hr => ?_, ByteArray.size_append, fun m d hmd => ?_⟩
  · exact InIs_one _ _ _ _ _ (hr.1 f1) (InIs_back s.data.toList (by omega) k (by omega))
  · rw [happ] at hr
    have := InIs_back (s.data.toList ++ t.data.toList) (by rw [List.length_append]; omega) k (by rw [List.length_append]; omega)
    rw [hk2] at this
    exact InIs_one _ _ _ _ _ (hr.1 f1) this
  · rw [happ, goB_append, hmd]
theorem back_heavy (s t : ByteArray) (a : Int) (h : decide (4096 < s.size) = true ∨ (decide (4096 < s.size) = false ∧ decide (4096 < t.size) = true)) (w : World) (hE : Env w) :
    Calls Tryd.prog 5 #[.string s, .string t, .int .u16 a] w fun e w' => e = .returned (.bool true) ∧ Below w.heap.size w w' := by
  have hh := fun w => heavy_any s w
  have hg := fun w => heavy_any t w
  have HE := Lib.hid hE
  clear hE
  rcases h with h | ⟨h, g⟩
  · rw [h] at hh
    clear hg h
    go_enter Tryd.func5, Tryd.ntmps5
    go_wp2_with fail
    refine (hh _).mono ?_
    rintro e v1 ⟨rfl, rfl⟩
    go_wp2_with fail
    refine (works_any _ HE.out).mono ?_
    rintro e vv ⟨rfl, B⟩
    go_wp2_with fail
    go_ret
    exact ⟨rfl, B⟩
  · rw [h] at hh
    rw [g] at hg
    clear g h
    go_enter Tryd.func5, Tryd.ntmps5
    go_wp2_with fail
    refine (hh _).mono ?_
    rintro e v1 ⟨rfl, rfl⟩
    go_wp2_with fail
    refine (hg _).mono ?_
    rintro e v1 ⟨rfl, rfl⟩
    go_wp2_with fail
    refine (works_any _ HE.out).mono ?_
    rintro e vv ⟨rfl, B⟩
    go_wp2_with fail
    go_ret
    exact ⟨rfl, B⟩
theorem back_lt (s t : ByteArray) (a : Int) (a0 : 0 ≤ a) (a1 : a ≤ 65535) (h : decide (4096 < s.size) = false) (g : decide (4096 < t.size) = false) (k : Nat) (hk : a % ((s.size : Int) + 1) = (k : Int)) (hks : k ≤ s.size)
    (l c m d m2 d2 : Int) (F : BackF s t k l c) (gs : goB 1 1 s.data.toList = (m, d)) (gt : goB 1 1 (s ++ t).data.toList = (m2, d2)) (hlt : k < s.size) (q : pBef l c m d = true) (g3 : goB l c (s.extract k s.size).data.toList = (m, d)) (z3 : (s.extract k s.size).size ≤ 4096) (w : World) (hE : Env w) :
    Calls Tryd.prog 5 #[.string s, .string t, .int .u16 a] w fun e w' => e = .returned (.bool true) ∧ Below w.heap.size w w' := by
  have hh := fun w => heavy_any s w
  have hg := fun w => heavy_any t w
  rw [h] at hh
  rw [g] at hg
  have hs : s.size ≤ 4096 := by simpa using h
  have ht : t.size ≤ 4096 := by simpa using g
  obtain ⟨p1, p2, p3, p4⟩ := (isP_iff l c).1 F.hp
  have B0 := fun w => Begin_any w
  have B1 := fun w => Behind_any 1 1 (s.extract 0 k) (by rw [F.sz]; omega) w
  have I1 := fun w => In_any l c s (by omega) w
  have I2 := fun w => In_any l c (s ++ t) (by rw [F.sz2]; omega) w
  have B2 := fun w => Behind_any 1 1 (s ++ t) (by rw [F.sz2]; omega) w
  have B3 := fun w => Behind_any 1 1 s (by omega) w
  have B4 := fun w => Behind_any m d t (by omega) w
  rw [F.g1] at B1
  rw [gt] at B2
  rw [gs] at B3
  rw [← F.g2 m d gs, gt] at B4
  have T1 := fun w h => Text_any l c w h
  rw [show txtOf l c = txt l c by unfold txtOf; rw [F.hp]; rfl] at T1
  have R1 := fun w h => Read_any ⟨(txt l c).toArray⟩ (by rw [size_lit]; have := txt_short l c F.hp; omega) w h
  rw [show (⟨(txt l c).toArray⟩ : ByteArray).data.toList = txt l c by simp, readGo_txt l c F.hp, show isP (l, c).1 (l, c).2 = true from F.hp] at R1
  have L1 := fun w => Line_any l c w
  have C1 := fun w => Column_any l c w
  rw [show lnOf l c = l by unfold lnOf; rw [F.hp]; rfl] at L1
  rw [show coOf l c = c by unfold coOf; rw [F.hp]; rfl] at C1
  have O1 := fun w => Of_any l c (by omega) (by omega) (by omega) (by omega) w
  have n1 := fun r hr => F.n1 r hr
  have n2 := fun r hr => F.n2 r hr
  have q1 := fun t w => eql_pos (P := Tryd.prog) l c l c t w
  have q2 := fun t w => neq_pos (P := Tryd.prog) m2 d2 m2 d2 t w
  rw [pEq_self] at q1 q2
  have sz2 := F.sz2
  have sz := F.sz
  have B5 := fun w => Behind_any l c (s.extract k s.size) (by omega) w
  have F1 := fun w => Before_any l c m d w
  rw [g3] at B5
  rw [q] at F1
  obtain ⟨x0, y0, e0⟩ := posV_cx 1 1
  obtain ⟨x1, y1, e1⟩ := posV_cx l c
  obtain ⟨x2, y2, e2⟩ := posV_cx m d
  obtain ⟨x3, y3, e3⟩ := posV_cx m2 d2
  simp only [e0, e1, e2, e3] at B0 B1 I1 I2 B2 B3 B4 T1 R1 L1 C1 O1 q1 q2 B5 F1
  generalize txt l c = T at T1 R1
  have HE := Lib.hid hE
  have HN1 := Lib.hid n1
  have HN2 := Lib.hid n2
  clear hE h g F gs gt e0 e1 e2 e3 n1 n2 q g3
  go_enter Tryd.func5, Tryd.ntmps5
  go_wp2_with fail
  refine (hh _).mono ?_
  rintro e v1 ⟨rfl, rfl⟩
  go_wp2_with fail
  refine (hg _).mono ?_
  rintro e v2 ⟨rfl, rfl⟩
  go_upto_region 4 with fail
  rw [hk]
  go_cut [8] (fun p wx => p = .complex .f64 x1 y1 ∧ wx = v2.drew)
  case first =>
    have hw5 : (k : Int) ≤ (s.size : Int) := by omega
    go_region_held3 (fun _ => True) (first | trivial) (first | (go_at_call 25; refine (B0 _).mono ?_; rintro e w1 ⟨rfl, rfl⟩) | (go_at_call 17; refine (B1 _).mono ?_; rintro e w1 ⟨rfl, rfl⟩))
    all_goals
      go_wp2_with fail
      go_meet
      exact ⟨rfl, rfl⟩
  case rest =>
  obtain ⟨rfl, rfl⟩ := hcut
  have D0 : Below v2.heap.size v2 v2.drew := (Below.refl _ _).drew
  have HE0 := Lib.hid (HE.out.below D0)
  generalize v2.drew = v3 at D0 HE0 ⊢
  go_wp2_with fail
  refine (I1 _).mono ?_
  rintro e v5 ⟨r, rfl, hr, rfl⟩
  obtain rfl := HN1.out r hr
  clear hr
  rw [show inI (k : Int) = k by unfold inI; simp, show inB (k : Int) = true by unfold inB; simp]
  go_wp2_with fail
  refine (I2 _).mono ?_
  rintro e v6 ⟨r, rfl, hr, rfl⟩
  obtain rfl := HN2.out r hr
  clear hr
  rw [show inI (k : Int) = k by unfold inI; simp, show inB (k : Int) = true by unfold inB; simp]
  go_wp2_with fail
  refine (B0 _).mono ?_
  rintro e v11 ⟨rfl, rfl⟩
  go_wp2_with fail
  refine (B2 _).mono ?_
  rintro e v12 ⟨rfl, rfl⟩
  go_wp2_with fail
  refine (B0 _).mono ?_
  rintro e v13 ⟨rfl, rfl⟩
  go_wp2_with fail
  refine (B3 _).mono ?_
  rintro e v14 ⟨rfl, rfl⟩
  go_wp2_with fail
  refine (B4 _).mono ?_
  rintro e v15 ⟨rfl, rfl⟩
  go_wp2_with fail
  refine (B5 _).mono ?_
  rintro e v16 ⟨rfl, rfl⟩
  go_wp2_with fail
  refine (F1 _).mono ?_
  rintro e v17 ⟨rfl, rfl⟩
  go_wp2_with fail
  refine (T1 _ HE0.out).mono ?_
  rintro e w1 ⟨rfl, D1⟩
  have HE1 := Lib.hid (HE0.out.below D1)
  go_wp2_with fail
  refine (R1 _ HE1.out).mono ?_
  rintro e w2 ⟨rfl, D2⟩
  have HE2 := Lib.hid (HE1.out.below D2)
  have D12 := bt (bt D0 D1) D2
  clear HE1 HE HE0 D1 D2 D0
  go_wp2_with fail
  refine (L1 _).mono ?_
  rintro e v18 ⟨rfl, rfl⟩
  go_wp2_with fail
  refine (C1 _).mono ?_
  rintro e v19 ⟨rfl, rfl⟩
  go_wp2_with fail
  refine (O1 _).mono ?_
  rintro e v20 ⟨rfl, rfl⟩
  go_wp2_with fail
  refine (works_any _ HE2.out).mono ?_
  rintro e vv ⟨rfl, B⟩
  go_wp2_with fail
  go_ret
  exact ⟨rfl, bt D12 B⟩
theorem back_end (s t : ByteArray) (a : Int) (a0 : 0 ≤ a) (a1 : a ≤ 65535) (h : decide (4096 < s.size) = false) (g : decide (4096 < t.size) = false) (k : Nat) (hk : a % ((s.size : Int) + 1) = (k : Int)) (hks : k ≤ s.size)
    (l c m d m2 d2 : Int) (F : BackF s t k l c) (gs : goB 1 1 s.data.toList = (m, d)) (gt : goB 1 1 (s ++ t).data.toList = (m2, d2)) (hke : k = s.size) (w : World) (hE : Env w) :
    Calls Tryd.prog 5 #[.string s, .string t, .int .u16 a] w fun e w' => e = .returned (.bool true) ∧ Below w.heap.size w w' := by
  subst hke
  have hh := fun w => heavy_any s w
  have hg := fun w => heavy_any t w
  rw [h] at hh
  rw [g] at hg
  have hs : s.size ≤ 4096 := by simpa using h
  have ht : t.size ≤ 4096 := by simpa using g
  obtain ⟨p1, p2, p3, p4⟩ := (isP_iff l c).1 F.hp
  have B0 := fun w => Begin_any w
  have B1 := fun w => Behind_any 1 1 (s.extract 0 s.size) (by rw [F.sz]; omega) w
  have I1 := fun w => In_any l c s (by omega) w
  have I2 := fun w => In_any l c (s ++ t) (by rw [F.sz2]; omega) w
  have B2 := fun w => Behind_any 1 1 (s ++ t) (by rw [F.sz2]; omega) w
  have B3 := fun w => Behind_any 1 1 s (by omega) w
  have B4 := fun w => Behind_any m d t (by omega) w
  rw [F.g1] at B1
  rw [gt] at B2
  rw [gs] at B3
  rw [← F.g2 m d gs, gt] at B4
  have T1 := fun w h => Text_any l c w h
  rw [show txtOf l c = txt l c by unfold txtOf; rw [F.hp]; rfl] at T1
  have R1 := fun w h => Read_any ⟨(txt l c).toArray⟩ (by rw [size_lit]; have := txt_short l c F.hp; omega) w h
  rw [show (⟨(txt l c).toArray⟩ : ByteArray).data.toList = txt l c by simp, readGo_txt l c F.hp, show isP (l, c).1 (l, c).2 = true from F.hp] at R1
  have L1 := fun w => Line_any l c w
  have C1 := fun w => Column_any l c w
  rw [show lnOf l c = l by unfold lnOf; rw [F.hp]; rfl] at L1
  rw [show coOf l c = c by unfold coOf; rw [F.hp]; rfl] at C1
  have O1 := fun w => Of_any l c (by omega) (by omega) (by omega) (by omega) w
  have n1 := fun r hr => F.n1 r hr
  have n2 := fun r hr => F.n2 r hr
  have q1 := fun t w => eql_pos (P := Tryd.prog) l c l c t w
  have q2 := fun t w => neq_pos (P := Tryd.prog) m2 d2 m2 d2 t w
  rw [pEq_self] at q1 q2
  have sz2 := F.sz2
  have sz := F.sz
  rw [show s.extract 0 s.size = s by simp] at B1
  obtain ⟨x0, y0, e0⟩ := posV_cx 1 1
  obtain ⟨x1, y1, e1⟩ := posV_cx l c
  obtain ⟨x2, y2, e2⟩ := posV_cx m d
  obtain ⟨x3, y3, e3⟩ := posV_cx m2 d2
  simp only [e0, e1, e2, e3] at B0 B1 I1 I2 B2 B3 B4 T1 R1 L1 C1 O1 q1 q2 
  generalize txt l c = T at T1 R1
  have HE := Lib.hid hE
  have HN1 := Lib.hid n1
  have HN2 := Lib.hid n2
  clear hE h g F gs gt e0 e1 e2 e3 n1 n2 
  go_enter Tryd.func5, Tryd.ntmps5
  go_wp2_with fail
  refine (hh _).mono ?_
  rintro e v1 ⟨rfl, rfl⟩
  go_wp2_with fail
  refine (hg _).mono ?_
  rintro e v2 ⟨rfl, rfl⟩
  go_upto_region 4 with fail
  rw [hk]
  go_cut [8] (fun p wx => p = .complex .f64 x1 y1 ∧ wx = v2.drew)
  case first =>
    have hw5 : (s.size : Int) ≤ (s.size : Int) := by omega
    go_region_held3 (fun _ => True) (first | trivial) (first | (go_at_call 25; refine (B0 _).mono ?_; rintro e w1 ⟨rfl, rfl⟩) | (go_at_call 17; refine (B1 _).mono ?_; rintro e w1 ⟨rfl, rfl⟩))
    all_goals
      go_wp2_with fail
      go_meet
      exact ⟨rfl, rfl⟩
  case rest =>
  obtain ⟨rfl, rfl⟩ := hcut
  have D0 : Below v2.heap.size v2 v2.drew := (Below.refl _ _).drew
  have HE0 := Lib.hid (HE.out.below D0)
  generalize v2.drew = v3 at D0 HE0 ⊢
  go_wp2_with fail
  refine (I1 _).mono ?_
  rintro e v5 ⟨r, rfl, hr, rfl⟩
  obtain rfl := HN1.out r hr
  clear hr
  rw [show inI (s.size : Int) = s.size by unfold inI; simp, show inB (s.size : Int) = true by unfold inB; simp]
  go_wp2_with fail
  refine (I2 _).mono ?_
  rintro e v6 ⟨r, rfl, hr, rfl⟩
  obtain rfl := HN2.out r hr
  clear hr
  rw [show inI (s.size : Int) = s.size by unfold inI; simp, show inB (s.size : Int) = true by unfold inB; simp]
  go_wp2_with fail
  refine (B0 _).mono ?_
  rintro e v11 ⟨rfl, rfl⟩
  go_wp2_with fail
  refine (B2 _).mono ?_
  rintro e v12 ⟨rfl, rfl⟩
  go_wp2_with fail
  refine (B0 _).mono ?_
  rintro e v13 ⟨rfl, rfl⟩
  go_wp2_with fail
  refine (B3 _).mono ?_
  rintro e v14 ⟨rfl, rfl⟩
  go_wp2_with fail
  refine (B4 _).mono ?_
  rintro e v15 ⟨rfl, rfl⟩
  go_wp2_with fail
  refine (T1 _ HE0.out).mono ?_
  rintro e w1 ⟨rfl, D1⟩
  have HE1 := Lib.hid (HE0.out.below D1)
  go_wp2_with fail
  refine (R1 _ HE1.out).mono ?_
  rintro e w2 ⟨rfl, D2⟩
  have HE2 := Lib.hid (HE1.out.below D2)
  have D12 := bt (bt D0 D1) D2
  clear HE1 HE HE0 D1 D2 D0
  go_wp2_with fail
  refine (L1 _).mono ?_
  rintro e v16 ⟨rfl, rfl⟩
  go_wp2_with fail
  refine (C1 _).mono ?_
  rintro e v17 ⟨rfl, rfl⟩
  go_wp2_with fail
  refine (O1 _).mono ?_
  rintro e v18 ⟨rfl, rfl⟩
  go_wp2_with fail
  refine (works_any _ HE2.out).mono ?_
  rintro e vv ⟨rfl, B⟩
  go_wp2_with fail
  go_ret
  exact ⟨rfl, bt D12 B⟩
theorem back_any (s t : ByteArray) (a : Int) (a0 : 0 ≤ a) (a1 : a ≤ 65535) (w : World) (hE : Env w) :
    Calls Tryd.prog 5 #[.string s, .string t, .int .u16 a] w fun e w' => e = .returned (.bool true) ∧ Below w.heap.size w w' := by
  cases h : decide (4096 < s.size)
  · cases g : decide (4096 < t.size)
    · have hs : s.size ≤ 4096 := by simpa using h
      have ht : t.size ≤ 4096 := by simpa using g
      have hlen : s.data.toList.length = s.size := by rw [Array.length_toList]; rfl
      have m0 := Int.emod_nonneg a (show (s.size : Int) + 1 ≠ 0 by omega)
      have m1 := Int.emod_lt_of_pos a (show 0 < (s.size : Int) + 1 by omega)
      obtain ⟨k, hk⟩ : ∃ k : Nat, a % ((s.size : Int) + 1) = (k : Int) := ⟨(a % ((s.size : Int) + 1)).toNat, by omega⟩
      obtain ⟨l, c, F⟩ := back_facts s t k (by omega) hs ht
      by_cases hlt : k < s.size
      · have hl : (s.extract 0 k).data.toList = s.data.toList.take k := extract_take s k (by omega)
        have hd : (s.extract k s.size).data.toList = s.data.toList.drop k := extract_drop s k (by omega)
        have hz : (s.extract k s.size).size ≤ s.size := size_le_of s _ (by rw [hd, List.length_drop]; omega)
        have g1 := F.g1
        rw [hl] at g1
        have hr := go_rise s.data.toList (by omega) k s.size hlt (by omega)
        rw [List.take_of_length_le (by omega : s.data.toList.length ≤ s.size), g1] at hr
        have hf := (go_first s.data.toList (by omega) s.size).1
        rw [List.take_of_length_le (by omega : s.data.toList.length ≤ s.size)] at hf
        have hall : goB l c (s.extract k s.size).data.toList = goB 1 1 s.data.toList := by
          rw [hd]
          have := goB_append (s.data.toList.take k) (s.data.toList.drop k) 1 1
          rw [List.take_append_drop, g1] at this
          exact this.symm
        exact back_lt s t a a0 a1 h g k hk (by omega) l c _ _ _ _ F rfl rfl hlt ((bef_lt _ _ _ _ F.hp hf).2 hr) hall (by omega) w hE
      · exact back_end s t a a0 a1 h g k hk (by omega) l c _ _ _ _ F rfl rfl (by omega) w hE
    · exact back_heavy s t a (.inr ⟨h, g⟩) w hE
  · exact back_heavy s t a (.inl h) w hE
end Go.Proofs.YtgilhfojfmgjbaaDoor
