/- Elements, calls, sets, labels of layer 6, walked. -/
import Derived.Test.YtldecbaaajmmcaaExJ
namespace Go.Proofs.Ytldecbaaajmmcaa
open Go.RowKit
set_option maxHeartbeats 2000000
set_option maxRecDepth 100000
set_option linter.unusedVariables false
set_option linter.unusedSimpArgs false

theorem tkE (t : TK) : ∃ px py ex ey, posV t.2.1.1 t.2.1.2 = .complex .f64 px py ∧ posV t.2.2.1 t.2.2.2 = .complex .f64 ex ey := by
  obtain ⟨px, py, h1⟩ := posV_cx t.2.1.1 t.2.1.2
  obtain ⟨ex, ey, h2⟩ := posV_cx t.2.2.1 t.2.2.2
  exact ⟨px, py, ex, ey, h1, h2⟩
theorem ent76 : Enters 69 := ⟨_, _, Try.func69, by kernel_rfl, rfl⟩
def fv76 (br bd bp : Nat) : FV := ⟨69, #[], #[pt br, pt bd, pt bp]⟩
def fv77 (bd bp bx : Nat) : FV := ⟨70, #[], #[pt bd, pt bp, pt bx]⟩
theorem el76 (c : Cx) (E : Nat → Re) (ef done : FV) (Post : World → Prop) (hev : c.ev = ef.val) (hE : Lev c ef E) (br bd bp b j : Nat) (t : TK) (x : Tr) (w : World) (pv : Value) (hX : RX c w j) (hbr : Var w br 44 (pt c.R)) (hbd : Var w bd 69 done.val) (hbp : Var w bp 33 pv) (hp : posV t.2.1.1 t.2.1.2 = pv)
    (hx : IsT w (b ≤ ·) x) (hR : c.R < b) (hb : b ≤ w.heap.size)
    (hT : Then c b w (elTl c.ts E t x.dt j) done Post) :
    Calls Try.prog 69 #[ptrV x.p, pt br, pt bd, pt bp] w (GP c.B Post w) := by
  obtain ⟨w0, hw0⟩ : ∃ w0, w.alloc (.cells #[.pointer (some ⟨x.p, 0, none⟩)] 26) = w0 := ⟨_, rfl⟩
  have F0 : Fr [] w w0 := by rw [← hw0]; exact Fr.alloc _ _
  have hz0 : w0.heap.size = w.heap.size + 1 := by rw [← hw0]; simp
  have hb0 : Var w0 w.heap.size 26 (ptrV x.p) := by rw [← hw0]; exact heap_alloc_new _ _
  have hv0 := hb0
  have FB : Fr [] w w0 := F0
  have XB := hX.keep FB
  clear F0 hb0
  have hbr0 := hbr.keep FB (by simp)
  have cr := hbr0.c
  cases hs : isS (tk c.ts j) [46, 46] with
  | false =>
    have HT := takes_miss c w0 j [46, 46] XB hs
    have HH := Lib.hid (And.intro hX (And.intro FB (And.intro (hbd.keep FB (by simp)) (And.intro hv0 (And.intro hx hT)))))
    clear hX FB XB hbr hbd hbp hp hx hT hev hE hv0 hbr0
    simp only [ptrV, pt] at cr ⊢
    go_enter Try.func69, Try.ntmps69
    go_wp2_with fail
    refine HT.mono ?_
    rintro e w1 ⟨rfl, F1⟩
    obtain ⟨hX, FB, hbd0, hv0, hx, hT⟩ := HH.out
    have FF := FB.trans F1 (by simp)
    have hC0 : Goes c.B done (ptrV x.p) w1 Post := hT.ok x.dt j (by simp [elTl, hs]) x w1 (hX.fc FF).up (hX.keep FF) (hx.fr FF (by simp)) rfl
    obtain ⟨hEn, hC⟩ := hC0
    have hRn := run_enters hEn
    have cd := (hbd0.keep F1 (by simp)).c
    have cx := (hv0.keep F1 (by simp)).c
    have HK := Lib.hid (Kn.fr0 FF)
    clear hEn hX FB hbd0 hv0 hx hT FF F1 HT HH
    simp only [ptrV] at hC cx
    go_wp2_with fail
    refine hC.mono ?_
    rintro e w' ⟨s, rfl, hk2, hr⟩
    go_wp2_with fail
    go_ret
    exact gp_ret (HK.out.trans hk2) hr
  | true =>
    have HT := takes_hit c w0 j [46, 46] XB hs
    have HH := Lib.hid (And.intro hX (And.intro FB (And.intro (hbd.keep FB (by simp)) (And.intro hv0 (And.intro hx (And.intro hT (And.intro hev (And.intro hE (And.intro hbr0 (And.intro (hbp.keep FB (by simp)) (And.intro hp XB)))))))))))
    clear hX FB XB hbr hbd hbp hp hx hT hev hE hv0 hbr0
    simp only [ptrV, pt] at cr ⊢
    go_enter Try.func69, Try.ntmps69
    go_wp2_with fail
    refine HT.mono ?_
    rintro e w1 ⟨rfl, F1, X1⟩
    obtain ⟨hX, FB, hbd0, hv0, hx, hT, hev, hE, hbr0, hbp0, hp, XB⟩ := HH.out
    have G1 := XB.fcR F1
    have GF := (hX.fc FB).up.on G1
    have hbd1 := hbd0.stay XB G1
    have hbp1 := hbp0.stay XB G1
    have hv1 := hv0.stay XB G1
    have hC0 : Goes c.B ef (fv77 bd bp w.heap.size).val w1 Post := by
      refine hE w1 (j + 1) _ Post b X1 hR (by have := GF.size; omega) ⟨fun d k e y w2 F2 X2 hy hyd => ?_, fun k e w2 F2 X2 => ?_, fun e => ?_⟩
      · refine ⟨ent_el77, ?_⟩
        show Calls Try.prog 70 #[ptrV y.p, pt bd, pt bp, pt w.heap.size] w2 (GP c.B Post w2)
        refine el77 c bd bp w.heap.size b done Post t x y w2 pv (hbd1.stay X1 F2) (hbp1.stay X1 F2) hp (hv1.stay X1 F2) ((hx.stay hR GF).stay hR F2) hy (by have := GF.size; have := F2.size; omega) (fun u w3 F3 hu hud => ?_)
        subst hyd
        exact hT.ok (.node (nd 9 t [] 0) [x.dt, y.dt]) k (by simp only [elTl, hs, if_true, e]) u w3 ((GF.on F2).on (X2.fc F3).up) (X2.keep F3) hu hud
      · exact hT.bad k (by simp only [elTl, hs, if_true, e]) w2 (GF.on F2) X2
      · exact hT.no (by simp only [elTl, hs, if_true, e])
    obtain ⟨hEn, hC⟩ := hC0
    have hRn := run_enters hEn
    have cr1 := (hbr0.stay XB G1).c
    have ce := X1.c2
    rw [hev] at ce
    have HK := Lib.hid ((Kn.fr0 FB).trans (XB.knR F1))
    clear hEn hX FB hbd0 hv0 hx hT hev hE hbr0 hbp0 hp XB G1 GF hbd1 hbp1 hv1 F1 X1 HT HH cr
    simp only [fv77, FV.val, pt] at hC cr1
    go_wp2_with fail
    refine hC.mono ?_
    rintro e w' ⟨s, rfl, hk2, hr⟩
    go_wp2_with fail
    go_ret
    exact gp_ret (HK.out.trans hk2) hr
def elFV (c : Cx) : FV := ⟨56, #[pt c.R], #[]⟩
theorem ent63 : Enters 56 := ⟨_, _, Try.func56, by kernel_rfl, rfl⟩
theorem lev_elem (c : Cx) (E : Nat → Re) (ef : FV) (hev : c.ev = ef.val) (hE : Lev c ef E) : Lev c (elFV c) (elemM c.ts E) := by
  intro w i done Post b hX hR hb hT
  refine ⟨ent63, ?_⟩
  show Calls Try.prog 56 #[pt c.R, done.val] w (GP c.B Post w)
  obtain ⟨w0, hw0⟩ : ∃ w0, w.alloc (.cells #[.pointer (some ⟨c.R, 0, none⟩)] 44) = w0 := ⟨_, rfl⟩
  have F0 : Fr [] w w0 := by rw [← hw0]; exact Fr.alloc _ _
  have hz0 : w0.heap.size = w.heap.size + 1 := by rw [← hw0]; simp
  have hb0 : Var w0 w.heap.size 44 (pt c.R) := by rw [← hw0]; exact heap_alloc_new _ _
  obtain ⟨w1, hw1⟩ : ∃ w1, w0.alloc (.cells #[done.val] 69) = w1 := ⟨_, rfl⟩
  have F1 : Fr [] w0 w1 := by rw [← hw1]; exact Fr.alloc _ _
  have hz1 : w1.heap.size = w.heap.size + 2 := by rw [← hw1]; simp [hz0]
  have hb1 : Var w1 (w.heap.size + 1) 69 done.val := by rw [← hw1, ← hz0]; exact heap_alloc_new _ _
  have hv0 := (hb0.keep F1 (by simp))
  have hv1 := hb1
  have FB : Fr [] w w1 := (F0.trans F1 (by simp))
  have XB := hX.keep FB
  clear F0 F1 hb0 hb1
  obtain ⟨px, py, ex, ey, hpx, hex⟩ := tkE (tk c.ts i)
  have H1 := here_any c w1 i XB
  rw [tk_eq hpx hex] at H1
  have hf1 := field1
  have hsc := fun w a x y m => store_cx (P := Try.prog) w a .f64 x y m
  have cr := hv0.c
  have HH := Lib.hid (And.intro hX (And.intro FB (And.intro XB (And.intro hv0 (And.intro hv1 (And.intro hT (And.intro hev (And.intro hE hpx))))))))
  clear hX FB XB hv0 hv1 hT hev hE hpx hex
  simp only [pt] at cr ⊢
  go_enter Try.func56, Try.ntmps56
  go_wp2_with fail
  refine H1.mono ?_
  rintro e w3 ⟨rfl, F3⟩
  obtain ⟨hX, FB, XB, hv0, hv1, hT, hev, hE, hpx⟩ := HH.out
  obtain ⟨w4, hw4⟩ : ∃ w4, w3.alloc (.cells #[.complex .f64 px py] 33) = w4 := ⟨_, rfl⟩
  have F4 : Fr [] w3 w4 := by rw [← hw4]; exact Fr.alloc _ _
  have hp4 : Var w4 w3.heap.size 33 (.complex .f64 px py) := by rw [← hw4]; exact heap_alloc_new _ _
  have F14 := F3.trans F4 (by simp)
  have X4 := XB.keep F14
  have FF := FB.trans F14 (by simp)
  have hr4 := hv0.keep F14 (by simp)
  have hd4 := hv1.keep F14 (by simp)
  have hC0 : Goes c.B ef (fv76 w.heap.size (w.heap.size + 1) w3.heap.size).val w4 Post := by
    refine hE w4 i _ Post b X4 hR (by have := FF.size; omega) ⟨fun d k e y w5 F5 X5 hy hyd => ?_, fun k e w5 F5 X5 => ?_, fun e => ?_⟩
    · refine ⟨ent76, ?_⟩
      show Calls Try.prog 69 #[ptrV y.p, pt w.heap.size, pt (w.heap.size + 1), pt w3.heap.size] w5 (GP c.B Post w5)
      refine el76 c E ef done Post hev hE _ _ _ b k (tk c.ts i) y w5 _ X5 (hr4.stay X4 F5) (hd4.stay X4 F5) (hp4.stay X4 F5) hpx hy hR (by have := FF.size; have := F5.size; omega) ?_
      have := hT.on ((hX.fc FF).up.on F5)
      simpa only [elemM, e, hyd] using this
    · exact hT.bad k (by simp only [elemM, e]) w5 ((hX.fc FF).up.on F5) X5
    · exact hT.no (by simp only [elemM, e])
  obtain ⟨hEn, hC⟩ := hC0
  have hRn := run_enters hEn
  have cr4 := hr4.c
  have ce := X4.c2
  rw [hev] at ce
  have HK := Lib.hid (Kn.fr0 FF)
  clear hEn hX FB XB hv0 hv1 hT hev hE hpx F4 hp4 F14 X4 FF hr4 hd4 F3 H1 HH cr
  simp only [fv76, FV.val, pt] at hC cr4
  go_wp2_with fail
  refine hC.mono ?_
  rintro e w' ⟨s, rfl, hk2, hr⟩
  go_wp2_with fail
  go_ret
  exact gp_ret (HK.out.trans hk2) hr
def fv107 (bd bp bx : Nat) : FV := ⟨100, #[], #[pt bd, pt bp, pt bx]⟩
def fv104 (bd bp bx : Nat) : FV := ⟨97, #[], #[pt bd, pt bp, pt bx]⟩
theorem call_any (c : Cx) (E : Nat → Re) (ef done : FV) (Post : World → Prop) (hev : c.ev = ef.val) (hE : Lev c ef E) (hmono : ∀ i d j, E i = .ok d j → i < j) (b i : Nat) (x : Tr) (w : World) (hX : RX c w i) (hi : i < c.ts.length) (hx : IsT w (b ≤ ·) x) (hR : c.R < b) (hb : b ≤ w.heap.size)
    (hT : Then c b w (callM c.ts E x.dt i) done Post) :
    Calls Try.prog 95 #[pt c.R, ptrV x.p, done.val] w (GP c.B Post w) := by
  obtain ⟨w0, hw0⟩ : ∃ w0, w.alloc (.cells #[.pointer (some ⟨x.p, 0, none⟩)] 26) = w0 := ⟨_, rfl⟩
  have F0 : Fr [] w w0 := by rw [← hw0]; exact Fr.alloc _ _
  have hz0 : w0.heap.size = w.heap.size + 1 := by rw [← hw0]; simp
  have hb0 : Var w0 w.heap.size 26 (ptrV x.p) := by rw [← hw0]; exact heap_alloc_new _ _
  obtain ⟨w1, hw1⟩ : ∃ w1, w0.alloc (.cells #[done.val] 69) = w1 := ⟨_, rfl⟩
  have F1 : Fr [] w0 w1 := by rw [← hw1]; exact Fr.alloc _ _
  have hz1 : w1.heap.size = w.heap.size + 2 := by rw [← hw1]; simp [hz0]
  have hb1 : Var w1 (w.heap.size + 1) 69 done.val := by rw [← hw1, ← hz0]; exact heap_alloc_new _ _
  have hv0 := (hb0.keep F1 (by simp))
  have hv1 := hb1
  have FB : Fr [] w w1 := (F0.trans F1 (by simp))
  have XB := hX.keep FB
  clear F0 F1 hb0 hb1
  obtain ⟨px, py, ex, ey, hpx, hex⟩ := tkE (tk c.ts i)
  have H1 := here_any c w1 i XB
  rw [tk_eq hpx hex] at H1
  have hf1 := field1
  have hsc := fun w a x y m => store_cx (P := Try.prog) w a .f64 x y m
  have HH := Lib.hid (And.intro hX (And.intro FB (And.intro XB (And.intro hv0 (And.intro hv1 (And.intro hT (And.intro hev (And.intro hE (And.intro hpx hx)))))))))
  clear hX FB XB hv0 hv1 hT hev hE hpx hex hx
  simp only [pt, ptrV]
  go_enter Try.func95, Try.ntmps95
  go_wp2_with fail
  refine H1.mono ?_
  rintro e w3 ⟨rfl, F3⟩
  obtain ⟨hX, FB, XB, hv0, hv1, hT, hev, hE, hpx, hx⟩ := HH.out
  obtain ⟨w4, hw4⟩ : ∃ w4, w3.alloc (.cells #[.complex .f64 px py] 33) = w4 := ⟨_, rfl⟩
  have F4 : Fr [] w3 w4 := by rw [← hw4]; exact Fr.alloc _ _
  have hp4 : Var w4 w3.heap.size 33 (.complex .f64 px py) := by rw [← hw4]; exact heap_alloc_new _ _
  have F14 := F3.trans F4 (by simp)
  have X4 := XB.keep F14
  have FF := FB.trans F14 (by simp)
  have hx4 := hv0.keep F14 (by simp)
  have hd4 := hv1.keep F14 (by simp)
  have hC : Calls Try.prog 96 #[pt c.R, .string ⟨#[41]⟩, ef.val, (fv107 (w.heap.size + 1) w3.heap.size w.heap.size).val] w4 (GP c.B Post w4) := by
    refine within_any c [41] E ef _ Post b i w4 X4 hi hE hmono hR (by have := FF.size; omega) ⟨fun ds j e us v w5 F5 X5 hv hvd => ?_, fun j e w5 F5 X5 => ?_, fun e => ?_⟩
    · refine ⟨ent_call107, ?_⟩
      show Calls Try.prog 100 #[v, pt (w.heap.size + 1), pt w3.heap.size, pt w.heap.size] w5 (GP c.B Post w5)
      have G5 := (hX.fc FF).up.on F5
      refine call107 c _ _ _ j b done Post (tk c.ts i) (some x) us v w5 _ X5 (hd4.stay X4 F5) (hp4.stay X4 F5) hpx (hx4.stay X4 F5) (fun x' hx' => ?_) hv (by have := FF.size; have := F5.size; omega) (fun u w6 F6 hu hud => ?_)
      · obtain rfl : x = x' := Option.some.inj hx'
        exact hx.stay hR G5
      · subst hvd
        exact hT.ok (.node (nd 10 (tk c.ts i) [] 0) (x.dt :: us.map Tr.dt)) j (by simp only [callM, e, ReL.re]) u w6 (G5.on (X5.fc F6).up) (X5.keep F6) hu hud
    · exact hT.bad j (by simp only [callM, e, ReL.re]) w5 ((hX.fc FF).up.on F5) X5
    · exact hT.no (by simp only [callM, e, ReL.re])
  have ce := X4.c2
  rw [hev] at ce
  have HK := Lib.hid (Kn.fr0 FF)
  clear hX FB XB hv0 hv1 hT hev hE hpx hx F4 hp4 F14 X4 FF hx4 hd4 F3 H1 HH
  simp only [fv107, FV.val, pt] at hC
  go_wp2_with fail
  refine hC.mono ?_
  rintro e w' ⟨s, rfl, hk2, hr⟩
  go_wp2_with fail
  go_ret
  exact gp_ret (HK.out.trans hk2) hr
theorem set_any (c : Cx) (E : Nat → Re) (ef done : FV) (Post : World → Prop) (hev : c.ev = ef.val) (hE : Lev c ef E) (hmono : ∀ i d j, elemM c.ts E i = .ok d j → i < j) (b i : Nat) (t : TK) (pv : Value) (hp : posV t.2.1.1 t.2.1.2 = pv) (o : Option Tr) (w : World) (hX : RX c w i) (hi : i < c.ts.length) (ho : ∀ x, o = some x → IsT w (b ≤ ·) x) (hR : c.R < b) (hb : b ≤ w.heap.size)
    (hT : Then c b w (setM c.ts E t (o.map Tr.dt) i) done Post) :
    Calls Try.prog 81 #[pt c.R, pv, encP (o.map Tr.p), done.val] w (GP c.B Post w) := by
  obtain ⟨px, py, hpx⟩ := posV_cx t.2.1.1 t.2.1.2
  rw [hp] at hpx
  subst hpx
  obtain ⟨q, hq⟩ : ∃ q, encP (o.map Tr.p) = .pointer q := by cases o <;> exact ⟨_, rfl⟩
  obtain ⟨w0, hw0⟩ : ∃ w0, w.alloc (.cells #[.complex .f64 px py] 33) = w0 := ⟨_, rfl⟩
  have F0 : Fr [] w w0 := by rw [← hw0]; exact Fr.alloc _ _
  have hz0 : w0.heap.size = w.heap.size + 1 := by rw [← hw0]; simp
  have hb0 : Var w0 w.heap.size 33 (.complex .f64 px py) := by rw [← hw0]; exact heap_alloc_new _ _
  obtain ⟨w1, hw1⟩ : ∃ w1, w0.alloc (.cells #[.pointer q] 26) = w1 := ⟨_, rfl⟩
  have F1 : Fr [] w0 w1 := by rw [← hw1]; exact Fr.alloc _ _
  have hz1 : w1.heap.size = w.heap.size + 2 := by rw [← hw1]; simp [hz0]
  have hb1 : Var w1 (w.heap.size + 1) 26 (.pointer q) := by rw [← hw1, ← hz0]; exact heap_alloc_new _ _
  obtain ⟨w2, hw2⟩ : ∃ w2, w1.alloc (.cells #[done.val] 69) = w2 := ⟨_, rfl⟩
  have F2 : Fr [] w1 w2 := by rw [← hw2]; exact Fr.alloc _ _
  have hz2 : w2.heap.size = w.heap.size + 3 := by rw [← hw2]; simp [hz1]
  have hb2 : Var w2 (w.heap.size + 2) 69 done.val := by rw [← hw2, ← hz1]; exact heap_alloc_new _ _
  have hv0 := ((hb0.keep F1 (by simp)).keep F2 (by simp))
  have hv1 := (hb1.keep F2 (by simp))
  have hv2 := hb2
  have FB : Fr [] w w2 := ((F0.trans F1 (by simp)).trans F2 (by simp))
  have XB := hX.keep FB
  clear F0 F1 F2 hb0 hb1 hb2
  have hsc := fun w a x y m => store_cx (P := Try.prog) w a .f64 x y m
  have hC : Calls Try.prog 96 #[pt c.R, .string ⟨#[125]⟩, (elFV c).val, (fv104 (w.heap.size + 2) w.heap.size (w.heap.size + 1)).val] w2 (GP c.B Post w2) := by
    refine within_any c [125] (elemM c.ts E) (elFV c) _ Post b i w2 XB hi (lev_elem c E ef hev hE) hmono hR (by have := FB.size; omega) ⟨fun ds j e us v w5 F5 X5 hv hvd => ?_, fun j e w5 F5 X5 => ?_, fun e => ?_⟩
    · refine ⟨ent_set104, ?_⟩
      show Calls Try.prog 97 #[v, pt (w.heap.size + 2), pt w.heap.size, pt (w.heap.size + 1)] w5 (GP c.B Post w5)
      have G5 := (hX.fc FB).up.on F5
      refine set104 c _ _ _ j b done Post t o us v w5 _ X5 (hv2.stay XB F5) (hv0.stay XB F5) hp (by rw [hq]; exact hv1.stay XB F5) (fun x' hx' => (ho x' hx').stay hR G5) hv (by have := FB.size; have := F5.size; omega) (fun u w6 F6 hu hud => ?_)
      subst hvd
      exact hT.ok (.node (nd 8 t [] 0) ((o.map Tr.dt).getD dt0 :: us.map Tr.dt)) j (by simp only [setM, e, ReL.re]) u w6 (G5.on (X5.fc F6).up) (X5.keep F6) hu hud
    · exact hT.bad j (by simp only [setM, e, ReL.re]) w5 ((hX.fc FB).up.on F5) X5
    · exact hT.no (by simp only [setM, e, ReL.re])
  have HK := Lib.hid (Kn.fr0 FB)
  rw [hq]
  clear hX FB XB hv0 hv1 hv2 hT hev hE hp ho hq
  simp only [fv104, elFV, FV.val, pt] at hC ⊢
  go_enter Try.func81, Try.ntmps81
  go_wp2_with fail
  refine hC.mono ?_
  rintro e w' ⟨s, rfl, hk2, hr⟩
  go_wp2_with fail
  go_ret
  exact gp_ret (HK.out.trans hk2) hr
def fv64 (bd bp : Nat) : FV := ⟨57, #[], #[pt bd, pt bp]⟩
def laFV (c : Cx) : FV := ⟨29, #[pt c.R], #[]⟩
theorem ent36 : Enters 29 := ⟨_, _, Try.func29, by kernel_rfl, rfl⟩
theorem lev_labels (c : Cx) (E : Nat → Re) (ef : FV) (hev : c.ev = ef.val) (hE : Lev c ef E) (hmono : ∀ i d j, elemM c.ts E i = .ok d j → i < j) : Lev c (laFV c) (labM c.ts E) := by
  intro w i done Post b hX hR hb hT
  refine ⟨ent36, ?_⟩
  show Calls Try.prog 29 #[pt c.R, done.val] w (GP c.B Post w)
  obtain ⟨w0, hw0⟩ : ∃ w0, w.alloc (.cells #[done.val] 69) = w0 := ⟨_, rfl⟩
  have F0 : Fr [] w w0 := by rw [← hw0]; exact Fr.alloc _ _
  have hz0 : w0.heap.size = w.heap.size + 1 := by rw [← hw0]; simp
  have hb0 : Var w0 w.heap.size 69 done.val := by rw [← hw0]; exact heap_alloc_new _ _
  have hv0 := hb0
  have FB : Fr [] w w0 := F0
  have XB := hX.keep FB
  clear F0 hb0
  obtain ⟨px, py, ex, ey, hpx, hex⟩ := tkE (tk c.ts i)
  have H1 := here_any c w0 i XB
  rw [tk_eq hpx hex] at H1
  have hf1 := field1
  have hsc := fun w a x y m => store_cx (P := Try.prog) w a .f64 x y m
  have HH := Lib.hid (And.intro hX (And.intro FB (And.intro XB (And.intro hv0 (And.intro hT (And.intro hev (And.intro hE hpx)))))))
  clear hX FB XB hv0 hT hev hE hpx hex
  simp only [pt]
  go_enter Try.func29, Try.ntmps29
  go_wp2_with fail
  refine H1.mono ?_
  rintro e w3 ⟨rfl, F3⟩
  obtain ⟨hX, FB, XB, hv0, hT, hev, hE, hpx⟩ := HH.out
  obtain ⟨w4, hw4⟩ : ∃ w4, w3.alloc (.cells #[.complex .f64 px py] 33) = w4 := ⟨_, rfl⟩
  have F4 : Fr [] w3 w4 := by rw [← hw4]; exact Fr.alloc _ _
  have hp4 : Var w4 w3.heap.size 33 (.complex .f64 px py) := by rw [← hw4]; exact heap_alloc_new _ _
  have F14 := F3.trans F4 (by simp)
  have X4 := XB.keep F14
  have FF := FB.trans F14 (by simp)
  have hd4 := hv0.keep F14 (by simp)
  have hC : Calls Try.prog 55 #[pt c.R, (elFV c).val, (fv64 w.heap.size w3.heap.size).val] w4 (GP c.B Post w4) := by
    refine list_any c (elemM c.ts E) (elFV c) _ Post b i c.ts.length w4 X4 (lev_elem c E ef hev hE) hmono hR (by have := FF.size; omega) ⟨fun ds j e us v w5 F5 X5 hv hvd => ?_, fun j e w5 F5 X5 => ?_, fun e => ?_⟩
    · refine ⟨ent_lab64, ?_⟩
      show Calls Try.prog 57 #[v, pt w.heap.size, pt w3.heap.size] w5 (GP c.B Post w5)
      have G5 := (hX.fc FF).up.on F5
      refine lab64 c _ _ j b done Post (tk c.ts i) us v w5 _ (hd4.stay X4 F5) (hp4.stay X4 F5) hpx hv (by have := FF.size; have := F5.size; omega) (fun u w6 F6 hu hud => ?_)
      subst hvd
      exact hT.ok (.node (nd 29 (tk c.ts i) [] 0) (us.map Tr.dt)) j (by simp only [labM, e, ReL.re]) u w6 (G5.on (X5.fc F6).up) (X5.keep F6) hu hud
    · exact hT.bad j (by simp only [labM, e, ReL.re]) w5 ((hX.fc FF).up.on F5) X5
    · exact hT.no (by simp only [labM, e, ReL.re])
  have HK := Lib.hid (Kn.fr0 FF)
  clear hX FB XB hv0 hT hev hE hpx F4 hp4 F14 X4 FF hd4 F3 H1 HH
  simp only [fv64, elFV, FV.val, pt] at hC
  go_wp2_with fail
  refine hC.mono ?_
  rintro e w' ⟨s, rfl, hk2, hr⟩
  go_wp2_with fail
  go_ret
  exact gp_ret (HK.out.trans hk2) hr
end Go.Proofs.Ytldecbaaajmmcaa
