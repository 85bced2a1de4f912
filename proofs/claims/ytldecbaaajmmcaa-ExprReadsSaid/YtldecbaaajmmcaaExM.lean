/- operand of layer 6, walked. -/
import Derived.Test.YtldecbaaajmmcaaExL
namespace Go.Proofs.Ytldecbaaajmmcaa
open Go.RowKit
set_option maxHeartbeats 2000000
set_option maxRecDepth 100000
set_option linter.unusedVariables false
set_option linter.unusedSimpArgs false

theorem tk_some {ts : List TK} {i : Nat} (h : (tk ts i).1.k ≠ 0) : i < ts.length := by
  rcases Nat.lt_or_ge i ts.length with h1 | h1
  · exact h1
  · rw [tk_ge h1] at h
    simp [zTK] at h
def opFV (c : Cx) : FV := ⟨61, #[pt c.R], #[]⟩
theorem ent68 : Enters 61 := ⟨_, _, Try.func61, by kernel_rfl, rfl⟩
theorem oper_named (c : Cx) (E : Nat → Re) (ef done : FV) (Post : World → Prop) (hev : c.ev = ef.val) (hE : Lev c ef E) (hmono : ∀ i d j, E i = .ok d j → i < j) (hmono2 : ∀ i d j, elemM c.ts E i = .ok d j → i < j) (b i : Nat) (w : World) (hX : RX c w i) (hR : c.R < b) (hb : b ≤ w.heap.size) (hk : (tk c.ts i).1.k = 1) (hT : Then c b w (operM c.ts E i) done Post) :
    Calls Try.prog 61 #[pt c.R, done.val] w (GP c.B Post w) := by
  have H1 := here_any c w i hX
  obtain ⟨px, py, ex, ey, hpx, hex⟩ := tkE (tk c.ts i)
  have hsc := fun w a x y m => store_cx (P := Try.prog) w a .f64 x y m
  obtain ⟨t3, h3⟩ : ∃ t3 : ByteArray, (⟨(tk c.ts i).1.x.toArray⟩ : ByteArray) = t3 := ⟨_, rfl⟩
  rw [tk_eq hpx hex, hk, h3] at H1
  have em : operM c.ts E i = nmdM c.ts E i := by simp only [operM, hk, if_true]
  rw [em] at hT
  have HH := Lib.hid (And.intro hX (And.intro hT (And.intro hev hE)))
  clear hX hT hpx hex hk hev hE em h3
  simp only [pt]
  go_enter Try.func61, Try.ntmps61
  go_wp2_with fail
  refine H1.mono ?_
  rintro e w1 ⟨rfl, F1⟩
  obtain ⟨hX, hT, hev, hE⟩ := HH.out
  have F2 := Fr.alloc w1 (.cells #[.int .u8 1, .complex .f64 px py, .complex .f64 ex ey, .string t3, .int .i64 (tk c.ts i).1.n] 56)
  have FF := F1.trans F2 (by simp)
  have hC := nmd_any c E ef done Post hev hE hmono hmono2 b i _ (hX.keep FF) hR (by have := FF.size; omega) (hT.on (hX.fc FF).up)
  have HK := Lib.hid (Kn.fr0 FF)
  clear hX hT hev hE F1 F2 FF H1 HH
  simp only [pt] at hC
  go_wp2_with fail
  refine hC.mono ?_
  rintro e w' ⟨s, rfl, hk2, hr⟩
  go_wp2_with fail
  go_ret
  exact gp_ret (HK.out.trans hk2) hr
theorem oper_num (c : Cx) (E : Nat → Re) (done : FV) (Post : World → Prop) (b i : Nat) (w : World) (hX : RX c w i) (hR : c.R < b) (hb : b ≤ w.heap.size) (hk : (tk c.ts i).1.k = 2) (hT : Then c b w (operM c.ts E i) done Post) :
    Calls Try.prog 61 #[pt c.R, done.val] w (GP c.B Post w) := by
  have H1 := here_any c w i hX
  obtain ⟨px, py, ex, ey, hpx, hex⟩ := tkE (tk c.ts i)
  have hsc := fun w a x y m => store_cx (P := Try.prog) w a .f64 x y m
  obtain ⟨t3, h3⟩ : ∃ t3 : ByteArray, (⟨(tk c.ts i).1.x.toArray⟩ : ByteArray) = t3 := ⟨_, rfl⟩
  have htk := tk_eq hpx hex
  have hlt := tk_some (ts := c.ts) (i := i) (by rw [hk]; decide)
  rw [htk, hk, h3] at H1
  have HH := Lib.hid (And.intro hX (And.intro hT (And.intro hpx (And.intro htk (And.intro hk h3)))))
  clear hX hT hpx hex htk hk
  simp only [pt]
  go_enter Try.func61, Try.ntmps61
  go_wp2_with fail
  refine H1.mono ?_
  rintro e w1 ⟨rfl, F1⟩
  obtain ⟨hX, hT, hpx, htk, hk, h3'⟩ := HH.out
  obtain ⟨w2, hw2⟩ : ∃ w2, w1.alloc (.cells #[.int .u8 2, .complex .f64 px py, .complex .f64 ex ey, .string t3, .int .i64 (tk c.ts i).1.n] 56) = w2 := ⟨_, rfl⟩
  have F2 : Fr [] w1 w2 := by rw [← hw2]; exact Fr.alloc _ _
  have T2 : TkAt w2 w1.heap.size (tk c.ts i) (.complex .f64 px py) (.complex .f64 ex ey) := by
    rw [← hw2]
    have := heap_alloc_new w1 (.cells #[.int .u8 2, .complex .f64 px py, .complex .f64 ex ey, .string t3, .int .i64 (tk c.ts i).1.n] 56)
    unfold TkAt
    rw [hk, h3']
    exact this
  have FF := F1.trans F2 (by simp)
  have X2 := hX.keep FF
  have d0 : w2.cell? ⟨w1.heap.size, 0, none⟩ = some (.int .u8 2) := by rw [Lib.cell_of_heap T2, hk]; rfl
  have H2 := take_any c w2 i X2 hlt
  rw [htk, hk, h3'] at H2
  have HW := Lib.hid (And.intro FF (And.intro X2 T2))
  clear hX hT hpx htk hk h3' F1 F2 FF X2 T2 H1
  go_wp2_with fail
  refine H2.mono ?_
  rintro e w3 ⟨rfl, F3, X3⟩
  obtain ⟨FF, X2, T2⟩ := HW.out
  obtain ⟨hX, hT, hpx, htk, hk, h3'⟩ := HH.out
  have G3 := X2.fcR F3
  have T3 := T2.stay X2 G3
  have d1 : w3.cell? ⟨w1.heap.size, 1, none⟩ = some (.complex .f64 px py) := by rw [Lib.cell_of_heap T3]; rfl
  have d3 : w3.cell? ⟨w1.heap.size, 3, none⟩ = some (.string t3) := by rw [Lib.cell_of_heap T3, ← h3']; rfl
  have d4 : w3.cell? ⟨w1.heap.size, 4, none⟩ = some (.int .i64 (tk c.ts i).1.n) := by rw [Lib.cell_of_heap T3]; rfl
  have HN := new_of w3 (nd 5 (tk c.ts i) [] (tk c.ts i).1.n) _ [] b (argL0 _) (by simp) (by simp) (by have := FF.size; have := F3.size; omega) (by simp [nd]) _ hpx ⟨#[]⟩ rfl 5 rfl (tk c.ts i).1.n rfl [] rfl
  have HW3 := Lib.hid (And.intro G3 (And.intro X3 (X2.knR F3)))
  clear hX hT hpx htk hk h3' FF X2 T2 G3 T3 F3 X3 H2
  go_wp2_with fail
  refine HN.mono ?_
  rintro e w4 ⟨u, rfl, F4, hu, hud⟩
  obtain ⟨G3, X3, K3⟩ := HW3.out
  obtain ⟨FF, X2, T2⟩ := HW.out
  obtain ⟨hX, hT, hpx, htk, hk, h3'⟩ := HH.out
  obtain ⟨hEn, hC⟩ := hT.ok _ (i + 1) (by simp only [operM, hk]; rfl) u w4 (((hX.fc FF).up.on G3).on (X3.fc F4).up) (X3.keep F4) hu hud
  have hRn := run_enters hEn
  have HK := Lib.hid ((Kn.fr0 FF).trans (K3.trans (Kn.fr0 F4)))
  clear hEn hX hT hpx htk hk h3' FF X2 T2 G3 X3 K3 F4 hu hud HN HH HW HW3
  simp only [ptrV] at hC ⊢
  go_wp2_with fail
  refine hC.mono ?_
  rintro e w' ⟨s, rfl, hk2, hr⟩
  go_wp2_with fail
  go_ret
  exact gp_ret (HK.out.trans hk2) hr
theorem oper_char (c : Cx) (E : Nat → Re) (done : FV) (Post : World → Prop) (b i : Nat) (w : World) (hX : RX c w i) (hR : c.R < b) (hb : b ≤ w.heap.size) (hk : (tk c.ts i).1.k = 3) (hT : Then c b w (operM c.ts E i) done Post) :
    Calls Try.prog 61 #[pt c.R, done.val] w (GP c.B Post w) := by
  have H1 := here_any c w i hX
  obtain ⟨px, py, ex, ey, hpx, hex⟩ := tkE (tk c.ts i)
  have hsc := fun w a x y m => store_cx (P := Try.prog) w a .f64 x y m
  obtain ⟨t3, h3⟩ : ∃ t3 : ByteArray, (⟨(tk c.ts i).1.x.toArray⟩ : ByteArray) = t3 := ⟨_, rfl⟩
  have htk := tk_eq hpx hex
  have hlt := tk_some (ts := c.ts) (i := i) (by rw [hk]; decide)
  rw [htk, hk, h3] at H1
  have HH := Lib.hid (And.intro hX (And.intro hT (And.intro hpx (And.intro htk (And.intro hk h3)))))
  clear hX hT hpx hex htk hk
  simp only [pt]
  go_enter Try.func61, Try.ntmps61
  go_wp2_with fail
  refine H1.mono ?_
  rintro e w1 ⟨rfl, F1⟩
  obtain ⟨hX, hT, hpx, htk, hk, h3'⟩ := HH.out
  obtain ⟨w2, hw2⟩ : ∃ w2, w1.alloc (.cells #[.int .u8 3, .complex .f64 px py, .complex .f64 ex ey, .string t3, .int .i64 (tk c.ts i).1.n] 56) = w2 := ⟨_, rfl⟩
  have F2 : Fr [] w1 w2 := by rw [← hw2]; exact Fr.alloc _ _
  have T2 : TkAt w2 w1.heap.size (tk c.ts i) (.complex .f64 px py) (.complex .f64 ex ey) := by
    rw [← hw2]
    have := heap_alloc_new w1 (.cells #[.int .u8 3, .complex .f64 px py, .complex .f64 ex ey, .string t3, .int .i64 (tk c.ts i).1.n] 56)
    unfold TkAt
    rw [hk, h3']
    exact this
  have FF := F1.trans F2 (by simp)
  have X2 := hX.keep FF
  have d0 : w2.cell? ⟨w1.heap.size, 0, none⟩ = some (.int .u8 3) := by rw [Lib.cell_of_heap T2, hk]; rfl
  have H2 := take_any c w2 i X2 hlt
  rw [htk, hk, h3'] at H2
  have HW := Lib.hid (And.intro FF (And.intro X2 T2))
  clear hX hT hpx htk hk h3' F1 F2 FF X2 T2 H1
  go_wp2_with fail
  refine H2.mono ?_
  rintro e w3 ⟨rfl, F3, X3⟩
  obtain ⟨FF, X2, T2⟩ := HW.out
  obtain ⟨hX, hT, hpx, htk, hk, h3'⟩ := HH.out
  have G3 := X2.fcR F3
  have T3 := T2.stay X2 G3
  have d1 : w3.cell? ⟨w1.heap.size, 1, none⟩ = some (.complex .f64 px py) := by rw [Lib.cell_of_heap T3]; rfl
  have d3 : w3.cell? ⟨w1.heap.size, 3, none⟩ = some (.string t3) := by rw [Lib.cell_of_heap T3, ← h3']; rfl
  have d4 : w3.cell? ⟨w1.heap.size, 4, none⟩ = some (.int .i64 (tk c.ts i).1.n) := by rw [Lib.cell_of_heap T3]; rfl
  have HN := new_of w3 (nd 6 (tk c.ts i) [] (tk c.ts i).1.n) _ [] b (argL0 _) (by simp) (by simp) (by have := FF.size; have := F3.size; omega) (by simp [nd]) _ hpx ⟨#[]⟩ rfl 6 rfl (tk c.ts i).1.n rfl [] rfl
  have HW3 := Lib.hid (And.intro G3 (And.intro X3 (X2.knR F3)))
  clear hX hT hpx htk hk h3' FF X2 T2 G3 T3 F3 X3 H2
  go_wp2_with fail
  refine HN.mono ?_
  rintro e w4 ⟨u, rfl, F4, hu, hud⟩
  obtain ⟨G3, X3, K3⟩ := HW3.out
  obtain ⟨FF, X2, T2⟩ := HW.out
  obtain ⟨hX, hT, hpx, htk, hk, h3'⟩ := HH.out
  obtain ⟨hEn, hC⟩ := hT.ok _ (i + 1) (by simp only [operM, hk]; rfl) u w4 (((hX.fc FF).up.on G3).on (X3.fc F4).up) (X3.keep F4) hu hud
  have hRn := run_enters hEn
  have HK := Lib.hid ((Kn.fr0 FF).trans (K3.trans (Kn.fr0 F4)))
  clear hEn hX hT hpx htk hk h3' FF X2 T2 G3 X3 K3 F4 hu hud HN HH HW HW3
  simp only [ptrV] at hC ⊢
  go_wp2_with fail
  refine hC.mono ?_
  rintro e w' ⟨s, rfl, hk2, hr⟩
  go_wp2_with fail
  go_ret
  exact gp_ret (HK.out.trans hk2) hr
theorem oper_str (c : Cx) (E : Nat → Re) (done : FV) (Post : World → Prop) (b i : Nat) (w : World) (hX : RX c w i) (hR : c.R < b) (hb : b ≤ w.heap.size) (hk : (tk c.ts i).1.k = 4) (hT : Then c b w (operM c.ts E i) done Post) :
    Calls Try.prog 61 #[pt c.R, done.val] w (GP c.B Post w) := by
  have H1 := here_any c w i hX
  obtain ⟨px, py, ex, ey, hpx, hex⟩ := tkE (tk c.ts i)
  have hsc := fun w a x y m => store_cx (P := Try.prog) w a .f64 x y m
  obtain ⟨t3, h3⟩ : ∃ t3 : ByteArray, (⟨(tk c.ts i).1.x.toArray⟩ : ByteArray) = t3 := ⟨_, rfl⟩
  have htk := tk_eq hpx hex
  have hlt := tk_some (ts := c.ts) (i := i) (by rw [hk]; decide)
  rw [htk, hk, h3] at H1
  have HH := Lib.hid (And.intro hX (And.intro hT (And.intro hpx (And.intro htk (And.intro hk h3)))))
  clear hX hT hpx hex htk hk
  simp only [pt]
  go_enter Try.func61, Try.ntmps61
  go_wp2_with fail
  refine H1.mono ?_
  rintro e w1 ⟨rfl, F1⟩
  obtain ⟨hX, hT, hpx, htk, hk, h3'⟩ := HH.out
  obtain ⟨w2, hw2⟩ : ∃ w2, w1.alloc (.cells #[.int .u8 4, .complex .f64 px py, .complex .f64 ex ey, .string t3, .int .i64 (tk c.ts i).1.n] 56) = w2 := ⟨_, rfl⟩
  have F2 : Fr [] w1 w2 := by rw [← hw2]; exact Fr.alloc _ _
  have T2 : TkAt w2 w1.heap.size (tk c.ts i) (.complex .f64 px py) (.complex .f64 ex ey) := by
    rw [← hw2]
    have := heap_alloc_new w1 (.cells #[.int .u8 4, .complex .f64 px py, .complex .f64 ex ey, .string t3, .int .i64 (tk c.ts i).1.n] 56)
    unfold TkAt
    rw [hk, h3']
    exact this
  have FF := F1.trans F2 (by simp)
  have X2 := hX.keep FF
  have d0 : w2.cell? ⟨w1.heap.size, 0, none⟩ = some (.int .u8 4) := by rw [Lib.cell_of_heap T2, hk]; rfl
  have H2 := take_any c w2 i X2 hlt
  rw [htk, hk, h3'] at H2
  have HW := Lib.hid (And.intro FF (And.intro X2 T2))
  clear hX hT hpx htk hk h3' F1 F2 FF X2 T2 H1
  go_wp2_with fail
  refine H2.mono ?_
  rintro e w3 ⟨rfl, F3, X3⟩
  obtain ⟨FF, X2, T2⟩ := HW.out
  obtain ⟨hX, hT, hpx, htk, hk, h3'⟩ := HH.out
  have G3 := X2.fcR F3
  have T3 := T2.stay X2 G3
  have d1 : w3.cell? ⟨w1.heap.size, 1, none⟩ = some (.complex .f64 px py) := by rw [Lib.cell_of_heap T3]; rfl
  have d3 : w3.cell? ⟨w1.heap.size, 3, none⟩ = some (.string t3) := by rw [Lib.cell_of_heap T3, ← h3']; rfl
  have d4 : w3.cell? ⟨w1.heap.size, 4, none⟩ = some (.int .i64 (tk c.ts i).1.n) := by rw [Lib.cell_of_heap T3]; rfl
  have HN := new_of w3 (nd 7 (tk c.ts i) (tk c.ts i).1.x 0) _ [] b (argL0 _) (by simp) (by simp) (by have := FF.size; have := F3.size; omega) (hX.txt _) _ hpx t3 h3' 7 rfl 0 rfl [] rfl
  have HW3 := Lib.hid (And.intro G3 (And.intro X3 (X2.knR F3)))
  clear hX hT hpx htk hk h3' FF X2 T2 G3 T3 F3 X3 H2
  go_wp2_with fail
  refine HN.mono ?_
  rintro e w4 ⟨u, rfl, F4, hu, hud⟩
  obtain ⟨G3, X3, K3⟩ := HW3.out
  obtain ⟨FF, X2, T2⟩ := HW.out
  obtain ⟨hX, hT, hpx, htk, hk, h3'⟩ := HH.out
  obtain ⟨hEn, hC⟩ := hT.ok _ (i + 1) (by simp only [operM, hk]; rfl) u w4 (((hX.fc FF).up.on G3).on (X3.fc F4).up) (X3.keep F4) hu hud
  have hRn := run_enters hEn
  have HK := Lib.hid ((Kn.fr0 FF).trans (K3.trans (Kn.fr0 F4)))
  clear hEn hX hT hpx htk hk h3' FF X2 T2 G3 X3 K3 F4 hu hud HN HH HW HW3
  simp only [ptrV] at hC ⊢
  go_wp2_with fail
  refine hC.mono ?_
  rintro e w' ⟨s, rfl, hk2, hr⟩
  go_wp2_with fail
  go_ret
  exact gp_ret (HK.out.trans hk2) hr
theorem oper_set (c : Cx) (E : Nat → Re) (ef done : FV) (Post : World → Prop) (hev : c.ev = ef.val) (hE : Lev c ef E) (hmono2 : ∀ i d j, elemM c.ts E i = .ok d j → i < j) (b i : Nat) (w : World) (hX : RX c w i) (hR : c.R < b) (hb : b ≤ w.heap.size)
    (h1 : (tk c.ts i).1.k ≠ 1) (h2 : (tk c.ts i).1.k ≠ 2) (h3k : (tk c.ts i).1.k ≠ 3) (h4 : (tk c.ts i).1.k ≠ 4) (h5 : isS (tk c.ts i) [123] = true) (hT : Then c b w (operM c.ts E i) done Post) :
    Calls Try.prog 61 #[pt c.R, done.val] w (GP c.B Post w) := by
  have H1 := here_any c w i hX
  obtain ⟨px, py, ex, ey, hpx, hex⟩ := tkE (tk c.ts i)
  have hsc := fun w a x y m => store_cx (P := Try.prog) w a .f64 x y m
  obtain ⟨t3, h3⟩ : ∃ t3 : ByteArray, (⟨(tk c.ts i).1.x.toArray⟩ : ByteArray) = t3 := ⟨_, rfl⟩
  obtain ⟨k0, hk0⟩ : ∃ k0, (tk c.ts i).1.k = k0 := ⟨_, rfl⟩
  rw [tk_eq hpx hex, h3, hk0] at H1
  have HH := Lib.hid (And.intro hX (And.intro hT (And.intro hev (And.intro hE (And.intro h1 (And.intro h2 (And.intro h3k (And.intro h4 (And.intro h5 hpx)))))))))
  rw [hk0] at h1 h2 h3k h4
  have q1 : ((k0 : Int) == 1) = false := beq_eq_false_iff_ne.2 (by omega)
  have q2 : ((k0 : Int) == 2) = false := beq_eq_false_iff_ne.2 (by omega)
  have q3 : ((k0 : Int) == 3) = false := beq_eq_false_iff_ne.2 (by omega)
  have q4 : ((k0 : Int) == 4) = false := beq_eq_false_iff_ne.2 (by omega)
  clear hX hT hpx hex hev hE h1 h2 h3k h4 h5 h3 hk0
  simp only [pt]
  go_enter Try.func61, Try.ntmps61
  go_wp2_with fail
  refine H1.mono ?_
  rintro e w1 ⟨rfl, F1⟩
  obtain ⟨hX, hT, hev, hE, h1, h2, h3k, h4, h5, hpx⟩ := HH.out
  obtain ⟨w2, hw2⟩ : ∃ w2, w1.alloc (.cells #[.int .u8 k0, .complex .f64 px py, .complex .f64 ex ey, .string t3, .int .i64 (tk c.ts i).1.n] 56) = w2 := ⟨_, rfl⟩
  have F2 : Fr [] w1 w2 := by rw [← hw2]; exact Fr.alloc _ _
  have T2 : w2.heap[w1.heap.size]? = some (.cells #[.int .u8 k0, .complex .f64 px py, .complex .f64 ex ey, .string t3, .int .i64 (tk c.ts i).1.n] 56 (0, 0)) := by rw [← hw2]; exact heap_alloc_new _ _
  have FF := F1.trans F2 (by simp)
  have X2 := hX.keep FF
  have d0 : w2.cell? ⟨w1.heap.size, 0, none⟩ = some (.int .u8 k0) := by rw [Lib.cell_of_heap T2]; rfl
  have HS := stands_any c w2 i [123] X2
  rw [h5] at HS
  have HW := Lib.hid (And.intro FF (And.intro X2 T2))
  clear hX hT hev hE h1 h2 h3k h4 h5 hpx F1 F2 FF X2 T2 H1
  go_wp2_with fail
  refine HS.mono ?_
  rintro e w3 ⟨rfl, F3⟩
  obtain ⟨FF, X2, T2⟩ := HW.out
  obtain ⟨hX, hT, hev, hE, h1, h2, h3k, h4, h5, hpx⟩ := HH.out
  have F03 := FF.trans F3 (by simp)
  have X3 := X2.keep F3
  have d1 : w3.cell? ⟨w1.heap.size, 1, none⟩ = some (.complex .f64 px py) := by rw [Lib.cell_of_heap ((F3.block _ (lt_heap T2) (by simp)).trans T2)]; rfl
  have em : operM c.ts E i = setM c.ts E (tk c.ts i) none i := by simp [operM, h1, h2, h3k, h4, h5]
  rw [em] at hT
  have hC := set_any c E ef done Post hev hE hmono2 b i (tk c.ts i) _ hpx none w3 X3 (isS_lt h5) (by simp) hR (by have := F03.size; omega) (hT.on (hX.fc F03).up)
  have HK := Lib.hid (Kn.fr0 F03)
  clear hX hT hev hE h1 h2 h3k h4 h5 hpx FF X2 T2 F03 X3 F3 HS HH HW
  simp only [pt, Option.map_none, encP] at hC
  go_wp2_with fail
  refine hC.mono ?_
  rintro e w' ⟨s, rfl, hk2, hr⟩
  go_wp2_with fail
  go_ret
  exact gp_ret (HK.out.trans hk2) hr
theorem oper_enc (c : Cx) (E : Nat → Re) (ef done : FV) (Post : World → Prop) (hev : c.ev = ef.val) (hE : Lev c ef E) (hmono2 : ∀ i d j, elemM c.ts E i = .ok d j → i < j) (b i : Nat) (w : World) (hX : RX c w i) (hR : c.R < b) (hb : b ≤ w.heap.size)
    (h1 : (tk c.ts i).1.k ≠ 1) (h2 : (tk c.ts i).1.k ≠ 2) (h3k : (tk c.ts i).1.k ≠ 3) (h4 : (tk c.ts i).1.k ≠ 4) (h5 : isS (tk c.ts i) [123] = false) (hT : Then c b w (operM c.ts E i) done Post) :
    Calls Try.prog 61 #[pt c.R, done.val] w (GP c.B Post w) := by
  have H1 := here_any c w i hX
  obtain ⟨px, py, ex, ey, hpx, hex⟩ := tkE (tk c.ts i)
  have hsc := fun w a x y m => store_cx (P := Try.prog) w a .f64 x y m
  obtain ⟨t3, h3⟩ : ∃ t3 : ByteArray, (⟨(tk c.ts i).1.x.toArray⟩ : ByteArray) = t3 := ⟨_, rfl⟩
  obtain ⟨k0, hk0⟩ : ∃ k0, (tk c.ts i).1.k = k0 := ⟨_, rfl⟩
  rw [tk_eq hpx hex, h3, hk0] at H1
  have HH := Lib.hid (And.intro hX (And.intro hT (And.intro hev (And.intro hE (And.intro h1 (And.intro h2 (And.intro h3k (And.intro h4 (And.intro h5 hpx)))))))))
  rw [hk0] at h1 h2 h3k h4
  have q1 : ((k0 : Int) == 1) = false := beq_eq_false_iff_ne.2 (by omega)
  have q2 : ((k0 : Int) == 2) = false := beq_eq_false_iff_ne.2 (by omega)
  have q3 : ((k0 : Int) == 3) = false := beq_eq_false_iff_ne.2 (by omega)
  have q4 : ((k0 : Int) == 4) = false := beq_eq_false_iff_ne.2 (by omega)
  clear hX hT hpx hex hev hE h1 h2 h3k h4 h5 h3 hk0
  simp only [pt]
  go_enter Try.func61, Try.ntmps61
  go_wp2_with fail
  refine H1.mono ?_
  rintro e w1 ⟨rfl, F1⟩
  obtain ⟨hX, hT, hev, hE, h1, h2, h3k, h4, h5, hpx⟩ := HH.out
  obtain ⟨w2, hw2⟩ : ∃ w2, w1.alloc (.cells #[.int .u8 k0, .complex .f64 px py, .complex .f64 ex ey, .string t3, .int .i64 (tk c.ts i).1.n] 56) = w2 := ⟨_, rfl⟩
  have F2 : Fr [] w1 w2 := by rw [← hw2]; exact Fr.alloc _ _
  have T2 : w2.heap[w1.heap.size]? = some (.cells #[.int .u8 k0, .complex .f64 px py, .complex .f64 ex ey, .string t3, .int .i64 (tk c.ts i).1.n] 56 (0, 0)) := by rw [← hw2]; exact heap_alloc_new _ _
  have FF := F1.trans F2 (by simp)
  have X2 := hX.keep FF
  have d0 : w2.cell? ⟨w1.heap.size, 0, none⟩ = some (.int .u8 k0) := by rw [Lib.cell_of_heap T2]; rfl
  have HS := stands_any c w2 i [123] X2
  rw [h5] at HS
  have HW := Lib.hid (And.intro FF (And.intro X2 T2))
  clear hX hT hev hE h1 h2 h3k h4 h5 hpx F1 F2 FF X2 T2 H1
  go_wp2_with fail
  refine HS.mono ?_
  rintro e w3 ⟨rfl, F3⟩
  obtain ⟨FF, X2, T2⟩ := HW.out
  obtain ⟨hX, hT, hev, hE, h1, h2, h3k, h4, h5, hpx⟩ := HH.out
  have F03 := FF.trans F3 (by simp)
  have X3 := X2.keep F3
  have d1 : w3.cell? ⟨w1.heap.size, 1, none⟩ = some (.complex .f64 px py) := by rw [Lib.cell_of_heap ((F3.block _ (lt_heap T2) (by simp)).trans T2)]; rfl
  have hC := enc_any c E ef done Post hev hE b i w3 X3 hR (by have := F03.size; omega) h1 h2 h3k h4 h5 (hT.on (hX.fc F03).up)
  have HK := Lib.hid (Kn.fr0 F03)
  clear hX hT hev hE h1 h2 h3k h4 h5 hpx FF X2 T2 F03 X3 F3 HS HH HW
  simp only [pt, Option.map_none, encP] at hC
  go_wp2_with fail
  refine hC.mono ?_
  rintro e w' ⟨s, rfl, hk2, hr⟩
  go_wp2_with fail
  go_ret
  exact gp_ret (HK.out.trans hk2) hr
theorem lev_oper (c : Cx) (E : Nat → Re) (ef : FV) (hev : c.ev = ef.val) (hE : Lev c ef E) (hmono : ∀ i d j, E i = .ok d j → i < j) (hmono2 : ∀ i d j, elemM c.ts E i = .ok d j → i < j) : Lev c (opFV c) (operM c.ts E) := by
  intro w i done Post b hX hR hb hT
  refine ⟨ent68, ?_⟩
  show Calls Try.prog 61 #[pt c.R, done.val] w (GP c.B Post w)
  by_cases h1 : (tk c.ts i).1.k = 1
  · exact oper_named c E ef done Post hev hE hmono hmono2 b i w hX hR hb h1 hT
  by_cases h2 : (tk c.ts i).1.k = 2
  · exact oper_num c E done Post b i w hX hR hb h2 hT
  by_cases h3 : (tk c.ts i).1.k = 3
  · exact oper_char c E done Post b i w hX hR hb h3 hT
  by_cases h4 : (tk c.ts i).1.k = 4
  · exact oper_str c E done Post b i w hX hR hb h4 hT
  cases h5 : isS (tk c.ts i) [123] with
  | true => exact oper_set c E ef done Post hev hE hmono2 b i w hX hR hb h1 h2 h3 h4 h5 hT
  | false => exact oper_enc c E ef done Post hev hE hmono2 b i w hX hR hb h1 h2 h3 h4 h5 hT
end Go.Proofs.Ytldecbaaajmmcaa
