/- Operands of layer 6, walked. -/
import Derived.Test.YtldecbaaajmmcaaExK
namespace Go.Proofs.Ytldecbaaajmmcaa
open Go.RowKit
set_option maxHeartbeats 2000000
set_option maxRecDepth 100000
set_option linter.unusedVariables false
set_option linter.unusedSimpArgs false

theorem ent105 : Enters 98 := ⟨_, _, Try.func98, by kernel_rfl, rfl⟩
def fv105 (br bd : Nat) : FV := ⟨98, #[], #[pt br, pt bd]⟩
theorem enc105 (c : Cx) (br bd b j : Nat) (done : FV) (Post : World → Prop) (x : Tr) (w : World) (hX : RX c w j) (hbr : Var w br 44 (pt c.R)) (hbd : Var w bd 69 done.val) (hx : IsT w (b ≤ ·) x) (hR : c.R < b)
    (hok : isS (tk c.ts j) [41] = true → ∀ w', Fc c.B [c.R] w w' → RX c w' (j + 1) → IsT w' (b ≤ ·) x → Goes c.B done (ptrV x.p) w' Post) (hbad : isS (tk c.ts j) [41] = false → ∀ w', Fc c.B [c.R] w w' → RX c w' j → Post w') :
    Calls Try.prog 98 #[ptrV x.p, pt br, pt bd] w (GP c.B Post w) := by
  have cr := hbr.c
  cases hs : isS (tk c.ts j) [41] with
  | true =>
    have HT := takes_hit c w j [41] hX hs
    have HH := Lib.hid (And.intro hX (And.intro hbd (And.intro hx (hok hs))))
    clear hX hbr hbd hx hok hbad hs
    simp only [ptrV, pt] at cr ⊢
    go_enter Try.func98, Try.ntmps98
    go_wp2_with fail
    refine HT.mono ?_
    rintro e w1 ⟨rfl, F1, X1⟩
    obtain ⟨hX, hbd, hx, hok⟩ := HH.out
    have G1 := hX.fcR F1
    obtain ⟨hEn, hC⟩ := hok w1 G1 X1 (hx.stay hR G1)
    have hRn := run_enters hEn
    have cd := (hbd.stay hX G1).c
    have HK := Lib.hid (hX.knR F1)
    clear hEn hX hbd hx hok G1 F1 X1 HT HH
    simp only [ptrV] at hC
    go_wp2_with fail
    refine hC.mono ?_
    rintro e w' ⟨s, rfl, hk2, hr⟩
    go_wp2_with fail
    go_ret
    exact gp_ret (HK.out.trans hk2) hr
  | false =>
    have HT := takes_miss c w j [41] hX hs
    have HH := Lib.hid (And.intro hX (hbad hs))
    clear hX hbr hbd hx hok hbad hs
    simp only [ptrV, pt] at cr ⊢
    go_enter Try.func98, Try.ntmps98
    go_wp2_with fail
    refine HT.mono ?_
    rintro e w1 ⟨rfl, F1⟩
    have HF := Lib.hid F1
    clear HT F1
    go_wp2_with fail
    go_ret
    obtain ⟨hX, hbad⟩ := HH.out
    exact gp_nil (Kn.fr0 HF.out) (fun w2 h2 => hbad w2 ((hX.fc HF.out).on h2).up ((hX.keep HF.out).keepC h2))
theorem enc_any (c : Cx) (E : Nat → Re) (ef done : FV) (Post : World → Prop) (hev : c.ev = ef.val) (hE : Lev c ef E) (b i : Nat) (w : World) (hX : RX c w i) (hR : c.R < b) (hb : b ≤ w.heap.size)
    (h1 : (tk c.ts i).1.k ≠ 1) (h2 : (tk c.ts i).1.k ≠ 2) (h3 : (tk c.ts i).1.k ≠ 3) (h4 : (tk c.ts i).1.k ≠ 4) (h5 : isS (tk c.ts i) [123] = false) (hT : Then c b w (operM c.ts E i) done Post) :
    Calls Try.prog 82 #[pt c.R, done.val] w (GP c.B Post w) := by
  obtain ⟨w0, hw0⟩ : ∃ w0, w.alloc (.cells #[.pointer (some ⟨c.R, 0, none⟩)] 44) = w0 := ⟨_, rfl⟩
  have F0 : Fr [] w w0 := by rw [← hw0]; exact Fr.alloc _ _
  have hz0 : w0.heap.size = w.heap.size + 1 := by rw [← hw0]; simp
  have hb0 : Var w0 w.heap.size 44 (pt c.R) := by rw [← hw0]; exact heap_alloc_new _ _
  obtain ⟨w1, hw1⟩ : ∃ w1, w0.alloc (.cells #[done.val] 69) = w1 := ⟨_, rfl⟩
  have F1 : Fr [] w0 w1 := by rw [← hw1]; exact Fr.alloc _ _
  have hz1 : w1.heap.size = w.heap.size + 2 := by rw [← hw1]; simp [hz0]
  have hb1 : Var w1 (w.heap.size + 1) 69 done.val := by rw [← hw1, ← hz0]; exact heap_alloc_new _ _
  have hv0 := (hb0.keep F1 (by simp))
  have hv1 := hb1
  have FB : Fr [] w w1 := (F0.trans F1 (by simp))
  have XB := hX.keep FB
  clear F0 F1 hb0 hb1
  have cr := hv0.c
  cases hs : isS (tk c.ts i) [40] with
  | true =>
    have HT := takes_hit c w1 i [40] XB hs
    have HH := Lib.hid (And.intro hX (And.intro FB (And.intro XB (And.intro hv0 (And.intro hv1 (And.intro hT (And.intro hev (And.intro hE (And.intro h1 (And.intro h2 (And.intro h3 (And.intro h4 (And.intro h5 hs)))))))))))))
    clear hX FB XB hv0 hv1 hT hev hE h1 h2 h3 h4 h5 hs
    simp only [pt] at cr ⊢
    go_enter Try.func82, Try.ntmps82
    go_wp2_with fail
    refine HT.mono ?_
    rintro e w3 ⟨rfl, F3, X3⟩
    obtain ⟨hX, FB, XB, hv0, hv1, hT, hev, hE, h1, h2, h3, h4, h5, hs⟩ := HH.out
    have G3 := XB.fcR F3
    have GF := (hX.fc FB).up.on G3
    have hr3 := hv0.stay XB G3
    have hd3 := hv1.stay XB G3
    have hC0 : Goes c.B ef (fv105 w.heap.size (w.heap.size + 1)).val w3 Post := by
      refine hE w3 (i + 1) _ Post b X3 hR (by have := GF.size; omega) ⟨fun d j e x w4 F4 X4 hx hxd => ?_, fun j e w4 F4 X4 => ?_, fun e => ?_⟩
      · refine ⟨ent105, ?_⟩
        show Calls Try.prog 98 #[ptrV x.p, pt w.heap.size, pt (w.heap.size + 1)] w4 (GP c.B Post w4)
        refine enc105 c _ _ b j done Post x w4 X4 (hr3.stay X3 F4) (hd3.stay X3 F4) hx hR (fun hs2 w5 F5 X5 hx5 => ?_) (fun hs2 w5 F5 X5 => ?_)
        · exact hT.ok d (j + 1) (by simp [operM, h1, h2, h3, h4, h5, hs, e, hs2]) x w5 ((GF.on F4).on F5) X5 hx5 hxd
        · exact hT.bad j (by simp [operM, h1, h2, h3, h4, h5, hs, e, hs2]) w5 ((GF.on F4).on F5) X5
      · exact hT.bad j (by simp [operM, h1, h2, h3, h4, h5, hs, e]) w4 (GF.on F4) X4
      · exact hT.no (by simp [operM, h1, h2, h3, h4, h5, hs, e])
    obtain ⟨hEn, hC⟩ := hC0
    have hRn := run_enters hEn
    have cr3 := hr3.c
    have ce := X3.c2
    rw [hev] at ce
    have HK := Lib.hid ((Kn.fr0 FB).trans (XB.knR F3))
    clear hEn hX FB XB hv0 hv1 hT hev hE h1 h2 h3 h4 h5 hs G3 GF hr3 hd3 F3 X3 HT HH cr
    simp only [fv105, FV.val, pt] at hC cr3
    go_wp2_with fail
    refine hC.mono ?_
    rintro e w' ⟨s, rfl, hk2, hr⟩
    go_wp2_with fail
    go_ret
    exact gp_ret (HK.out.trans hk2) hr
  | false =>
    have HT := takes_miss c w1 i [40] XB hs
    have HH := Lib.hid (And.intro hX (And.intro FB (hT.bad i (by simp [operM, h1, h2, h3, h4, h5, hs]))))
    clear hX FB XB hv0 hv1 hT hev hE h1 h2 h3 h4 h5 hs
    simp only [pt] at cr ⊢
    go_enter Try.func82, Try.ntmps82
    go_wp2_with fail
    refine HT.mono ?_
    rintro e w3 ⟨rfl, F3⟩
    have HF := Lib.hid F3
    clear HT F3
    go_wp2_with fail
    go_ret
    obtain ⟨hX, FB, hbad⟩ := HH.out
    have FF := FB.trans HF.out (by simp)
    exact gp_nil (Kn.fr0 FF) (fun w2 h2 => hbad w2 ((hX.fc FF).on h2).up ((hX.keep FF).keepC h2))
theorem ent101 : Enters 94 := ⟨_, _, Try.func94, by kernel_rfl, rfl⟩
def fv101 (br bd : Nat) : FV := ⟨94, #[], #[pt br, pt bd]⟩
theorem nm101 (c : Cx) (E : Nat → Re) (ef done : FV) (Post : World → Prop) (hev : c.ev = ef.val) (hE : Lev c ef E) (hmono : ∀ i d j, E i = .ok d j → i < j) (br bd b k : Nat) (y : Tr) (w : World) (hX : RX c w k) (hbr : Var w br 44 (pt c.R)) (hbd : Var w bd 69 done.val)
    (hy : IsT w (b ≤ ·) y) (hR : c.R < b) (hb : b ≤ w.heap.size) (hT : Then c b w (if isS (tk c.ts k) [40] then callM c.ts E y.dt k else .ok y.dt k) done Post) :
    Calls Try.prog 94 #[ptrV y.p, pt br, pt bd] w (GP c.B Post w) := by
  have HS := stands_any c w k [40] hX
  have cr := hbr.c
  cases hs : isS (tk c.ts k) [40] with
  | true =>
    rw [hs] at HS hT
    rw [if_pos rfl] at hT
    have HH := Lib.hid (And.intro hX (And.intro hbr (And.intro hbd (And.intro hy (And.intro hT (And.intro hev (And.intro hE (isS_lt hs))))))))
    clear hX hbr hbd hy hT hev hE hs
    simp only [ptrV, pt] at cr ⊢
    go_enter Try.func94, Try.ntmps94
    go_wp2_with fail
    refine HS.mono ?_
    rintro e w1 ⟨rfl, F1⟩
    obtain ⟨hX, hbr, hbd, hy, hT, hev, hE, hk⟩ := HH.out
    have hC := call_any c E ef done Post hev hE hmono b k y w1 (hX.keep F1) hk (hy.fr F1 (by simp)) hR (by have := F1.size; omega) (hT.on (hX.fc F1).up)
    have cr1 := (hbr.keep F1 (by simp)).c
    have cd1 := (hbd.keep F1 (by simp)).c
    have HK := Lib.hid (Kn.fr0 F1)
    clear hX hbr hbd hy hT hev hE F1 HS HH cr
    simp only [ptrV, pt] at hC cr1
    go_wp2_with fail
    refine hC.mono ?_
    rintro e w' ⟨s, rfl, hk2, hr⟩
    go_wp2_with fail
    go_ret
    exact gp_ret (HK.out.trans hk2) hr
  | false =>
    rw [hs] at HS hT
    rw [if_neg (by simp)] at hT
    have HH := Lib.hid (And.intro hX (And.intro hbd (And.intro hy hT)))
    clear hX hbr hbd hy hT hev hE hs
    simp only [ptrV, pt] at cr ⊢
    go_enter Try.func94, Try.ntmps94
    go_wp2_with fail
    refine HS.mono ?_
    rintro e w1 ⟨rfl, F1⟩
    obtain ⟨hX, hbd, hy, hT⟩ := HH.out
    obtain ⟨hEn, hC⟩ := hT.ok y.dt k rfl y w1 (hX.fc F1).up (hX.keep F1) (hy.fr F1 (by simp)) rfl
    have hRn := run_enters hEn
    have cd1 := (hbd.keep F1 (by simp)).c
    have HK := Lib.hid (Kn.fr0 F1)
    clear hEn hX hbd hy hT F1 HS HH cr
    simp only [ptrV] at hC
    go_wp2_with fail
    refine hC.mono ?_
    rintro e w' ⟨s, rfl, hk2, hr⟩
    go_wp2_with fail
    go_ret
    exact gp_ret (HK.out.trans hk2) hr
theorem ent100 : Enters 93 := ⟨_, _, Try.func93, by kernel_rfl, rfl⟩
def fv100 (br bp bd : Nat) : FV := ⟨93, #[], #[pt br, pt bp, pt bd]⟩
theorem nm100 (c : Cx) (E : Nat → Re) (ef done : FV) (Post : World → Prop) (hev : c.ev = ef.val) (hE : Lev c ef E) (hmono : ∀ i d j, E i = .ok d j → i < j) (hmono2 : ∀ i d j, elemM c.ts E i = .ok d j → i < j) (br bp bd b i j : Nat) (x : Tr) (w : World) (pv : Value) (hX : RX c w j)
    (hbr : Var w br 44 (pt c.R)) (hbp : Var w bp 33 pv) (hp : posV (tk c.ts i).2.1.1 (tk c.ts i).2.1.2 = pv) (hbd : Var w bd 69 done.val) (hx : IsT w (b ≤ ·) x) (hR : c.R < b) (hb : b ≤ w.heap.size) (hq : qualM c.ts i = .ok x.dt j) (hT : Then c b w (nmdM c.ts E i) done Post) :
    Calls Try.prog 93 #[ptrV x.p, pt br, pt bp, pt bd] w (GP c.B Post w) := by
  have HS := stands_any c w j [123] hX
  have cr := hbr.c
  obtain ⟨px, py, hpx⟩ := posV_cx (tk c.ts i).2.1.1 (tk c.ts i).2.1.2
  rw [hp] at hpx
  subst hpx
  cases hs : isS (tk c.ts j) [123] with
  | true =>
    rw [hs] at HS
    have em : nmdM c.ts E i = setM c.ts E (tk c.ts i) (some x.dt) j := by simp only [nmdM, hq, hs, if_true]
    rw [em] at hT
    have HH := Lib.hid (And.intro hX (And.intro hbr (And.intro hbp (And.intro hp (And.intro hbd (And.intro hx (And.intro hT (And.intro hev (And.intro hE (isS_lt hs))))))))))
    clear hX hbr hbp hp hbd hx hT hev hE hs em
    simp only [ptrV, pt] at cr ⊢
    go_enter Try.func93, Try.ntmps93
    go_wp2_with fail
    refine HS.mono ?_
    rintro e w1 ⟨rfl, F1⟩
    obtain ⟨hX, hbr, hbp, hp, hbd, hx, hT, hev, hE, hk⟩ := HH.out
    have hC := set_any c E ef done Post hev hE hmono2 b j (tk c.ts i) _ hp (some x) w1 (hX.keep F1) hk (fun x' hx' => by
      obtain rfl : x = x' := Option.some.inj hx'
      exact hx.fr F1 (by simp)) hR (by have := F1.size; omega) (hT.on (hX.fc F1).up)
    have cr1 := (hbr.keep F1 (by simp)).c
    have cp1 := (hbp.keep F1 (by simp)).c
    have cd1 := (hbd.keep F1 (by simp)).c
    have HK := Lib.hid (Kn.fr0 F1)
    clear hX hbr hbp hp hbd hx hT hev hE F1 HS HH cr
    simp only [ptrV, pt, Option.map_some, encP] at hC cr1
    go_wp2_with fail
    refine hC.mono ?_
    rintro e w' ⟨s, rfl, hk2, hr⟩
    go_wp2_with fail
    go_ret
    exact gp_ret (HK.out.trans hk2) hr
  | false =>
    rw [hs] at HS
    have HH := Lib.hid (And.intro hX (And.intro hbr (And.intro hbd (And.intro hx (And.intro hT (And.intro hev (And.intro hE hs)))))))
    clear hX hbr hbp hp hbd hx hT hev hE hs
    simp only [ptrV, pt] at cr ⊢
    go_enter Try.func93, Try.ntmps93
    go_wp2_with fail
    refine HS.mono ?_
    rintro e w1 ⟨rfl, F1⟩
    obtain ⟨hX, hbr, hbd, hx, hT, hev, hE, hs⟩ := HH.out
    have X1 := hX.keep F1
    have hr1 := hbr.keep F1 (by simp)
    have hd1 := hbd.keep F1 (by simp)
    have hC : Calls Try.prog 42 #[pt c.R, ptrV x.p, (fv101 br bd).val] w1 (GP c.B Post w1) := by
      refine (sel_all c E ef (fv101 br bd) Post hev hE (2 * c.ts.length + 2)).1 w1 j b x X1 (hx.fr F1 (by simp)) hR (by have := F1.size; omega) ⟨fun d k e y w2 F2 X2 hy hyd => ?_, fun k e w2 F2 X2 => ?_, fun e => ?_⟩
      · refine ⟨ent101, ?_⟩
        show Calls Try.prog 94 #[ptrV y.p, pt br, pt bd] w2 (GP c.B Post w2)
        refine nm101 c E ef done Post hev hE hmono br bd b k y w2 X2 (hr1.stay X1 F2) (hd1.stay X1 F2) hy hR (by have := F1.size; have := F2.size; omega) ?_
        have := hT.on ((hX.fc F1).up.on F2)
        simpa only [nmdM, hq, hs, Bool.false_eq_true, if_false, e, hyd] using this
      · exact hT.bad k (by simp only [nmdM, hq, hs, Bool.false_eq_true, if_false, e]) w2 ((hX.fc F1).up.on F2) X2
      · exact hT.no (by simp only [nmdM, hq, hs, Bool.false_eq_true, if_false, e])
    have cr1 := hr1.c
    have HK := Lib.hid (Kn.fr0 F1)
    clear hX hbr hbd hx hT hev hE hs X1 hr1 hd1 F1 HS HH cr
    simp only [ptrV, pt, fv101, FV.val] at hC cr1
    go_wp2_with fail
    refine hC.mono ?_
    rintro e w' ⟨s, rfl, hk2, hr⟩
    go_wp2_with fail
    go_ret
    exact gp_ret (HK.out.trans hk2) hr
theorem nmd_any (c : Cx) (E : Nat → Re) (ef done : FV) (Post : World → Prop) (hev : c.ev = ef.val) (hE : Lev c ef E) (hmono : ∀ i d j, E i = .ok d j → i < j) (hmono2 : ∀ i d j, elemM c.ts E i = .ok d j → i < j) (b i : Nat) (w : World) (hX : RX c w i) (hR : c.R < b) (hb : b ≤ w.heap.size) (hT : Then c b w (nmdM c.ts E i) done Post) :
    Calls Try.prog 80 #[pt c.R, done.val] w (GP c.B Post w) := by
  obtain ⟨w0, hw0⟩ : ∃ w0, w.alloc (.cells #[.pointer (some ⟨c.R, 0, none⟩)] 44) = w0 := ⟨_, rfl⟩
  have F0 : Fr [] w w0 := by rw [← hw0]; exact Fr.alloc _ _
  have hz0 : w0.heap.size = w.heap.size + 1 := by rw [← hw0]; simp
  have hb0 : Var w0 w.heap.size 44 (pt c.R) := by rw [← hw0]; exact heap_alloc_new _ _
  obtain ⟨w1, hw1⟩ : ∃ w1, w0.alloc (.cells #[done.val] 69) = w1 := ⟨_, rfl⟩
  have F1 : Fr [] w0 w1 := by rw [← hw1]; exact Fr.alloc _ _
  have hz1 : w1.heap.size = w.heap.size + 2 := by rw [← hw1]; simp [hz0]
  have hb1 : Var w1 (w.heap.size + 1) 69 done.val := by rw [← hw1, ← hz0]; exact heap_alloc_new _ _
  have hv0 := (hb0.keep F1 (by simp))
  have hv1 := hb1
  have FB : Fr [] w w1 := (F0.trans F1 (by simp))
  have XB := hX.keep FB
  clear F0 F1 hb0 hb1
  obtain ⟨px, py, ex, ey, hpx, hex⟩ := tkE (tk c.ts i)
  have H1 := here_any c w1 i XB
  rw [tk_eq hpx hex] at H1
  have hf1 := field1
  have hsc := fun w a x y m => store_cx (P := Try.prog) w a .f64 x y m
  have cr := hv0.c
  have HH := Lib.hid (And.intro hX (And.intro FB (And.intro XB (And.intro hv0 (And.intro hv1 (And.intro hT (And.intro hev (And.intro hE hpx))))))))
  clear hX FB XB hv0 hv1 hT hev hE hpx hex
  simp only [pt] at cr ⊢
  go_enter Try.func80, Try.ntmps80
  go_wp2_with fail
  refine H1.mono ?_
  rintro e w3 ⟨rfl, F3⟩
  obtain ⟨hX, FB, XB, hv0, hv1, hT, hev, hE, hpx⟩ := HH.out
  obtain ⟨w4, hw4⟩ : ∃ w4, w3.alloc (.cells #[.complex .f64 px py] 33) = w4 := ⟨_, rfl⟩
  have F4 : Fr [] w3 w4 := by rw [← hw4]; exact Fr.alloc _ _
  have hp4 : Var w4 w3.heap.size 33 (.complex .f64 px py) := by rw [← hw4]; exact heap_alloc_new _ _
  have F14 := F3.trans F4 (by simp)
  have X4 := XB.keep F14
  have FF := FB.trans F14 (by simp)
  have hr4 := hv0.keep F14 (by simp)
  have hd4 := hv1.keep F14 (by simp)
  have hC : Calls Try.prog 28 #[pt c.R, (fv100 w.heap.size w3.heap.size (w.heap.size + 1)).val] w4 (GP c.B Post w4) := by
    refine qual_any c w4 i b _ Post X4 hR (by have := FF.size; omega) ⟨fun d j e x w5 F5 X5 hx hxd => ?_, fun j e w5 F5 X5 => ?_, fun e => ?_⟩
    · refine ⟨ent100, ?_⟩
      show Calls Try.prog 93 #[ptrV x.p, pt w.heap.size, pt w3.heap.size, pt (w.heap.size + 1)] w5 (GP c.B Post w5)
      exact nm100 c E ef done Post hev hE hmono hmono2 _ _ _ b i j x w5 _ X5 (hr4.stay X4 F5) (hp4.stay X4 F5) hpx (hd4.stay X4 F5) hx hR (by have := FF.size; have := F5.size; omega) (by rw [e, hxd]) (hT.on ((hX.fc FF).up.on F5))
    · exact hT.bad j (by simp only [nmdM, e]) w5 ((hX.fc FF).up.on F5) X5
    · exact hT.no (by simp only [nmdM, e])
  have cr4 := hr4.c
  have HK := Lib.hid (Kn.fr0 FF)
  clear hX FB XB hv0 hv1 hT hev hE hpx F4 hp4 F14 X4 FF hr4 hd4 F3 H1 HH cr
  simp only [fv100, FV.val, pt] at hC cr4
  go_wp2_with fail
  refine hC.mono ?_
  rintro e w' ⟨s, rfl, hk2, hr⟩
  go_wp2_with fail
  go_ret
  exact gp_ret (HK.out.trans hk2) hr
theorem ent48 : Enters 41 := ⟨_, _, Try.func41, by kernel_rfl, rfl⟩
def fv48 (br bd : Nat) : FV := ⟨41, #[], #[pt br, pt bd]⟩
theorem ent30 : Enters 23 := ⟨_, _, Try.func23, by kernel_rfl, rfl⟩
def deFV (c : Cx) : FV := ⟨23, #[pt c.R], #[]⟩
theorem des48 (c : Cx) (E : Nat → Re) (ef done : FV) (Post : World → Prop) (hev : c.ev = ef.val) (hE : Lev c ef E) (br bd b j : Nat) (x : Tr) (w : World) (hX : RX c w j) (hbr : Var w br 44 (pt c.R)) (hbd : Var w bd 69 done.val) (hx : IsT w (b ≤ ·) x) (hR : c.R < b) (hb : b ≤ w.heap.size)
    (hT : Then c b w (selM c.ts E (2 * c.ts.length + 2) false x.dt j) done Post) :
    Calls Try.prog 41 #[ptrV x.p, pt br, pt bd] w (GP c.B Post w) := by
  have hC := (sel_all c E ef done Post hev hE (2 * c.ts.length + 2)).1 w j b x hX hx hR hb hT
  have cr := hbr.c
  have cd := hbd.c
  have HK := Lib.hid (Kn.refl w)
  clear hX hbr hbd hx hT hev hE
  simp only [ptrV, pt] at cr hC ⊢
  go_enter Try.func41, Try.ntmps41
  go_wp2_with fail
  refine hC.mono ?_
  rintro e w' ⟨s, rfl, hk2, hr⟩
  go_wp2_with fail
  go_ret
  exact gp_ret (HK.out.trans hk2) hr
theorem lev_des (c : Cx) (E : Nat → Re) (ef : FV) (hev : c.ev = ef.val) (hE : Lev c ef E) : Lev c (deFV c) (desM c.ts E) := by
  intro w i done Post b hX hR hb hT
  refine ⟨ent30, ?_⟩
  show Calls Try.prog 23 #[pt c.R, done.val] w (GP c.B Post w)
  obtain ⟨w0, hw0⟩ : ∃ w0, w.alloc (.cells #[.pointer (some ⟨c.R, 0, none⟩)] 44) = w0 := ⟨_, rfl⟩
  have F0 : Fr [] w w0 := by rw [← hw0]; exact Fr.alloc _ _
  have hz0 : w0.heap.size = w.heap.size + 1 := by rw [← hw0]; simp
  have hb0 : Var w0 w.heap.size 44 (pt c.R) := by rw [← hw0]; exact heap_alloc_new _ _
  obtain ⟨w1, hw1⟩ : ∃ w1, w0.alloc (.cells #[done.val] 69) = w1 := ⟨_, rfl⟩
  have F1 : Fr [] w0 w1 := by rw [← hw1]; exact Fr.alloc _ _
  have hz1 : w1.heap.size = w.heap.size + 2 := by rw [← hw1]; simp [hz0]
  have hb1 : Var w1 (w.heap.size + 1) 69 done.val := by rw [← hw1, ← hz0]; exact heap_alloc_new _ _
  have hv0 := (hb0.keep F1 (by simp))
  have hv1 := hb1
  have FB : Fr [] w w1 := (F0.trans F1 (by simp))
  have XB := hX.keep FB
  clear F0 F1 hb0 hb1
  have hC : Calls Try.prog 28 #[pt c.R, (fv48 w.heap.size (w.heap.size + 1)).val] w1 (GP c.B Post w1) := by
    refine qual_any c w1 i b _ Post XB hR (by have := FB.size; omega) ⟨fun d j e x w5 F5 X5 hx hxd => ?_, fun j e w5 F5 X5 => ?_, fun e => ?_⟩
    · refine ⟨ent48, ?_⟩
      show Calls Try.prog 41 #[ptrV x.p, pt w.heap.size, pt (w.heap.size + 1)] w5 (GP c.B Post w5)
      refine des48 c E ef done Post hev hE _ _ b j x w5 X5 (hv0.stay XB F5) (hv1.stay XB F5) hx hR (by have := FB.size; have := F5.size; omega) ?_
      have := hT.on ((hX.fc FB).up.on F5)
      simpa only [desM, e, hxd] using this
    · exact hT.bad j (by simp only [desM, e]) w5 ((hX.fc FB).up.on F5) X5
    · exact hT.no (by simp only [desM, e])
  have cr := hv0.c
  have HK := Lib.hid (Kn.fr0 FB)
  clear hX FB XB hv0 hv1 hT hev hE
  simp only [fv48, FV.val, pt] at hC cr ⊢
  go_enter Try.func23, Try.ntmps23
  go_wp2_with fail
  refine hC.mono ?_
  rintro e w' ⟨s, rfl, hk2, hr⟩
  go_wp2_with fail
  go_ret
  exact gp_ret (HK.out.trans hk2) hr
theorem ent35 : Enters 28 := ⟨_, _, Try.func28, by kernel_rfl, rfl⟩
def quFV (c : Cx) : FV := ⟨28, #[pt c.R], #[]⟩
theorem lev_qual (c : Cx) : Lev c (quFV c) (qualM c.ts) := fun w i done Post b hX hR hb hT => ⟨ent35, qual_any c w i b done Post hX hR hb hT⟩
end Go.Proofs.Ytldecbaaajmmcaa
