/- Several texts in one. -/
import Derived.Test.YtepfknfadpkigaaGreatPkAA
import Derived.Test.YtepfknfadpkigaaGreatPkAZ
set_option linter.unusedVariables false
set_option linter.unusedSimpArgs false
section
namespace Go.Proofs.YtepfknfadpkigaaGreat
open Go.RowKit
set_option maxHeartbeats 4000000
set_option maxRecDepth 100000
theorem zMb (w:World) (l:List (List UInt8)) (vs:Array Value) (hvs:vs.toList=l.map fun x=>Value.string ⟨x.toArray⟩) (T:TypeId) (n:Nat) (hn:n=l.length):StrL (w.alloc (.cells vs T)) (.slice (some ⟨w.heap.size,0,none⟩) n n) l:=by
 subst hn
 refine⟨_,_,rfl,fun i x hx=>⟨w.heap.size,rfl,by simp,?_⟩⟩
 rw [Lib.cell_of_heap (heap_alloc_new w (.cells vs T))]
 have:vs.toList[i]?=some (.string ⟨x.toArray⟩):=by rw [hvs,List.getElem?_map,hx];rfl
 rw [← this]
 simp
theorem zEt (c:Rc) (w:World) (i:Nat) (b:Bool) (X:RF c w i b) (l:List (List UInt8)) (hll:l.length≤100) (vs:Array Value) (hvs:vs.toList=l.map fun x=>Value.string ⟨x.toArray⟩) (T:TypeId) (n:Nat) (hn:n=l.length) :
  Calls Tryz.prog 100 #[.pointer (some ⟨c.R,0,none⟩),.slice (some ⟨w.heap.size,0,none⟩) n n] (w.alloc (.cells vs T)) fun e w'=>e=.returned (.bool (!b&&isB l (tk c.ts i)))∧Fr [] w w' :=
 (zWn c _ i b _ l (X.up (Fr.alloc _ _)) (zMb w l vs hvs T n hn) hll).mono fun e w' ⟨h1,h2⟩=>⟨h1,(Fr.alloc _ _).trans h2 (by simp)⟩
section
variable (ts:List TK)
theorem zGm {tb:List (List UInt8 × Nat)} {again:Bool} {G:Nat→Re} (m:Nat) (x:DT) (i:Nat) (h:isO tb (tk ts i)=true):moreM ts tb again G (m+1) x i=(match G (i+1) with
  | .ok y j=>if again then moreM ts tb again G m (.node (nd 11 (tk ts i) (tk ts i).1.x 0) [x,y]) j else .ok (.node (nd 11 (tk ts i) (tk ts i).1.x 0) [x,y]) j
  | .bad j=>.bad j
  | .out=>.out):=by
 show (if isO tb (tk ts i)=true then _ else _)=_
 rw [if_pos h]
 cases G (i+1) <;> rfl
theorem zFl {tb:List (List UInt8 × Nat)} {again:Bool} {G:Nat→Re} (m:Nat) (x:DT) (i:Nat) (h:isO tb (tk ts i)=false):moreM ts tb again G (m+1) x i=.ok x i:=by
 show (if isO tb (tk ts i)=true then _ else _)=_
 rw [if_neg (by rw [h];simp)]
theorem zNf {G:Nat→Re} (i:Nat):aheadM ts signT false G i=if isO signT (tk ts i) then (match G (i+1) with | .ok x j=>.ok (.node (nd 12 (tk ts i) (tk ts i).1.x 0) [x]) j | .bad j=>.bad j | .out=>.out) else G i:=by
 unfold aheadM
 simp only [Bool.false_eq_true,if_false]
 cases h:isO signT (tk ts i) with
 | true =>
  have e:opsM ts signT 1 i=1:=by
   show (if isO signT (tk ts i)=true then _ else _)=_
   rw [if_pos h];rfl
  rw [e]
  cases G (i+1) <;> rfl
 | false =>
  rw [zDk ts h]
  show (match G (i+0) with | .ok x j=>Re.ok x j | .bad j=>.bad j | .out=>.out)=_
  rw [Nat.add_zero]
  cases G i <;> rfl
end
def BLp (c:Rc) (tb:List (List UInt8 × Nat)) (G:Nat→Re) (C:Nat) (w0:World) (RES:Re) (x:Value) (wr:World):Prop:=Fr [c.R] w0 wr ∧
 ((∃m u j,moreM c.ts tb true G m u.dt j=RES∧x=ptrV u.p∧RF c wr j false∧IsT wr (C≤·) u)∨∃j o,RES=.bad j∧x=encP o∧RF c wr j true)
def TkB (w:World) (b:Nat) (px py:Nat) (t3:ByteArray):Prop:=w.cell? ⟨b,1,none⟩=some (.complex .f64 px py)∧w.cell? ⟨b,3,none⟩=some (.string t3)
theorem TkB.fr {w w':World} {b px py:Nat} {t3:ByteArray} {N:List Nat} (h:TkB w b px py t3) (F:Fr N w w') (hb:b ∉ N):TkB w' b px py t3:=by
 have hl:=F.block b (Lib.lt_of_cell h.1) hb
 exact⟨(World.cell?_of_block (a:=⟨b,1,none⟩) hl).trans h.1,(World.cell?_of_block (a:=⟨b,3,none⟩) hl).trans h.2⟩
theorem zFm {c:Rc} {G:Nat→Re} {C:Nat} {w0 w1 w2 w3:World} {i:Nat} {u:Tr} {o:Option Nat} {e:Ending} (hX0:c.R < C) (hC:C≤w1.heap.size) (F1:Fr [c.R] w0 w1) (hT:IsT w1 (C≤·) u) (F2:Fr [c.R] w1 w2) (hres:Itm c G (i+1) w1 w2 o)
  (hN:NoV w2 (nd 11 (tk c.ts i) (tk c.ts i).1.x 0) ((some u.p).toList++o.toList) e w3):∃p,e=.returned (ptrV p)∧Fr [c.R] w0 w3∧Fr [] w2 w3 ∧
   ((∃j v d,G (i+1)=.ok d j∧RF c w3 j false∧IsT w3 (C≤·) (.node p (nd 11 (tk c.ts i) (tk c.ts i).1.x 0) [u,v])∧v.dt=d)∨∃j,G (i+1)=.bad j∧RF c w3 j true):=by
 have hs1:=F1.size
 have hs2:=F2.size
 rcases hres with⟨d,j,v,hE,rfl,X,hv,hd⟩ | ⟨j,hE,X⟩
 ·have hT2:IsT w2 (C≤·) u:=zAk hT F2 (by simp;exact hX0)
  obtain⟨p,vv,rfl,F3,hp,hK⟩:=NoV.kj (ts:=[u,v]) hN (C:=C) (by omega) (by
   intro t ht
   rcases List.mem_cons.1 ht with rfl | ht
   ·exact hT2
   ·obtain rfl:t=v:=by simpa using ht
    exact zAt hv hC)
  exact⟨p,rfl,(F1.on F2).on0 F3,F3,.inl ⟨j,v,d,hE,X.up F3,hK.tree,hd⟩⟩
 ·obtain⟨p,vv,rfl,F3,hp,_⟩:=hN
  exact⟨p,rfl,(F1.on F2).on0 F3,F3,.inr ⟨j,hE,X.up F3⟩⟩
theorem zIj {c:Rc} {tb:List (List UInt8 × Nat)} {G:Nat→Re} {C:Nat} {w0 w3:World} {RES:Re} {m i p:Nat} {u:Tr} (F:Fr [c.R] w0 w3) (hun:RES=moreM c.ts tb true G (m+1) u.dt i) (ho:isO tb (tk c.ts i)=true)
  (h:(∃j v d,G (i+1)=.ok d j∧RF c w3 j false∧IsT w3 (C≤·) (.node p (nd 11 (tk c.ts i) (tk c.ts i).1.x 0) [u,v])∧v.dt=d)∨∃j,G (i+1)=.bad j∧RF c w3 j true):BLp c tb G C w0 RES (ptrV p) w3:=by
 rw [zGm c.ts m u.dt i ho] at hun
 rcases h with⟨j,v,d,hE,X,hT,hd⟩ | ⟨j,hE,X⟩
 ·rw [hE] at hun
  refine⟨F,.inl ⟨m,_,j,?_,rfl,X,hT⟩⟩
  rw [hun,← hd]
  rfl
 ·rw [hE] at hun
  exact⟨F,.inr ⟨j,some p,hun,rfl,X⟩⟩
theorem zIk {c:Rc} {G:Nat→Re} (hM:Mono G) {w w3:World} {i:Nat} {P:Nat→Tr→Prop} (h:RF c w i false)
  (h2:(∃j v d,G (i+1)=.ok d j∧RF c w3 j false∧P j v∧v.dt=d)∨∃j,G (i+1)=.bad j∧RF c w3 j true):rfM c.R w3 < rfM c.R w:=by
 rcases h2 with⟨j,v,d,hE,X,_⟩ | ⟨j,hE,X⟩
 ·exact zDh h X (fun _=>by have:=hM _ _ _ hE;omega)
 ·exact zDh h X (fun h=>by cases h)
theorem zQd (c:Rc) (hS:Scd c.ts) (E:Nat→Re) (hM:Mono E) (hF:CG c 117 (facM c.ts E)):CG c 109 (termM c.ts E):=by
 intro w i h hne
 have hsc:=fun w a x y m=>zAg (P:=Tryz.prog) w a .f64 x y m
 obtain⟨RES,hRES⟩:∃RES,termM c.ts E i=RES:=⟨_,rfl⟩
 rw [hRES] at hne ⊢
 have hbt:RES=(match facM c.ts E i with | .ok x j=>moreM c.ts mulT true (facM c.ts E) (c.ts.length+1) x j | .bad j=>.bad j | .out=>.out):=by rw [← hRES];rfl
 have hFi:facM c.ts E i≠.out:=fun e=>hne (by rw [hbt,e])
 have HC:=hF w i h hFi
 have HF:=oH hF
 have HMO:=oH (zEb (ts:=c.ts) hM)
 have HNE:=oH hne
 have HB:=oH hbt
 have HX0:=oH h.lt
 have HSC:=oH hS
 clear h hne hRES hbt hFi hF hM hS
 go_enter Tryz.func109,Tryz.ntmps109
 go_wp2_with fail
 refine HC.mono ?_
 rintro e w1 ⟨o,rfl,F1,hres⟩
 have HQ:Hid (BLp c mulT (facM c.ts E) w.heap.size w RES (encP o) w1):=oH (by
  refine⟨F1,?_⟩
  rcases hres with⟨d,j,u,hr,rfl,X,hT,hd⟩ | ⟨j,hr,X⟩
  ·exact .inl ⟨c.ts.length+1,u,j,by rw [HB.out,hr,hd],rfl,X,hT⟩
  ·exact .inr ⟨j,o,by rw [HB.out,hr],rfl,X⟩)
 obtain⟨ov,hov⟩:∃ov,encP o=ov:=⟨_,rfl⟩
 rw [hov] at HQ ⊢
 clear F1 hres HC hov HB
 go_wp2_with fail
 go_loopw [3] (fun x wr=>BLp c mulT (facM c.ts E) w.heap.size w RES x wr) (fun _ wr=>rfM c.R wr)
 case atStart=>exact HQ.out
 case round =>
  clear HQ
  obtain⟨F,⟨m,u,j,hd,rfl,X,hT⟩ | ⟨j,o,hr,rfl,X⟩⟩:=hrel
  ·have HS:=zEt c wr j false X mulL (by decide) #[.string ⟨#[42]⟩,.string ⟨#[47]⟩,.string ⟨#[68,73,86]⟩,.string ⟨#[77,79,68]⟩,.string ⟨#[65,78,68]⟩] rfl 9 5 rfl
   rw [zPy qAl (HSC.out j)] at HS
   obtain⟨m,rfl⟩:∃m',m=m'+1:=by
    cases m with
    | zero=>exact absurd (show RES=.out from hd.symm) HNE.out
    | succ m=>exact⟨m,rfl⟩
   cases ho:isO mulT (tk c.ts j)
   ·rw [ho] at HS
    rw [zFl c.ts m u.dt j ho] at hd
    have H:=oH (oA F (oA hd (oA X hT)))
    clear F hd X hT ho
    simp only [ptrV]
    go_wp2_with fail
    refine HS.mono ?_
    rintro e w2 ⟨rfl,F2⟩
    have H2:=oH F2
    clear F2 HS
    go_wp2_with fail
    go_ret
    obtain⟨F,hd,X,hT⟩:=H.out
    exact Tl.mk_ok hd.symm (F.on0 H2.out) (X.up H2.out) (zAk hT H2.out (by simp)) rfl
   ·rw [ho] at HS
    have hlt:=zCb rfl ho
    have HOUT:Hid (facM c.ts E (j+1)≠.out):=oH (fun e=>HNE.out (by rw [← hd,zGm c.ts m u.dt j ho,e]))
    obtain⟨px,py,e1⟩:=zAc (tk c.ts j).2.1.1 (tk c.ts j).2.1.2
    obtain⟨ex,ey,e2⟩:=zAc (tk c.ts j).2.2.1 (tk c.ts j).2.2.2
    have HNW:=oH (fun w F2=>zAo c w j false (X.up (w':=w) F2) px py ex ey e1 e2)
    have hle:=X.le
    have hw1:wrap64 ((j:Int)+1)=(j:Int)+1:=w64 _ (by omega) (by omega)
    obtain⟨t3,ht3⟩:∃t3,(⟨(tk c.ts j).1.x.toArray⟩:ByteArray)=t3:=⟨_,rfl⟩
    have HPX:=oH (oA e1 ht3)
    have HUN:=oH (oA hd.symm ho)
    have HXR:=oH X
    have H:=oH (oA F (oA hT hlt))
    rw [ht3] at HNW
    clear F hd X hT ho hlt e1 e2 ht3
    generalize ((tk c.ts j).1.k:Int)=t0 at *
    generalize (tk c.ts j).1.n=t4 at *
    simp only [ptrV]
    go_wp2_with fail
    refine HS.mono ?_
    rintro e w2 ⟨rfl,F2⟩
    have HN:=HNW.out w2 F2
    have H2:=oH F2
    clear F2 HS HNW
    go_wp2_with fail
    refine HN.mono ?_
    rintro e w3 ⟨rfl,F3⟩
    have H3:=oH (H2.out.on F3)
    clear F3 HN H2
    go_upto_region 4 with fail
    obtain⟨w4,hw4⟩:∃w4,w3.alloc (.cells #[.int .u8 t0,.complex .f64 px py,.complex .f64 ex ey,.string t3,.int .i64 t4] 71)=w4:=⟨_,rfl⟩
    have F4:Fr [] w3 w4:=by rw [← hw4];exact Fr.alloc _ _
    have T4:Fv w4 w3.heap.size (.int .u8 t0) (.complex .f64 px py) (.complex .f64 ex ey) (.string t3) (.int .i64 t4):=by rw [← hw4];exact Fv.new _ _ _ _ _ _ _ _ rfl
    try rw [hw4]
    have X4:=HXR.out.up (H3.out.on F4)
    have c1:=X4.c1
    have f1:=X4.f 1
    obtain⟨tb,htb⟩:∃tb,w3.heap.size=tb:=⟨_,rfl⟩
    rw [htb] at T4
    try rw [htb]
    have HTN:Hid (tb≠c.R):=oH (by have h1:=HX0.out;have h2:=H.out.1.size;have h3:=H3.out.size;omega)
    have H4:=oH (oA (H3.out.on F4) (oA (X4.next H.out.2.2) T4))
    clear hw4 F4 T4 X4 H3 htb
    go_upto_region 5 with fail
    obtain⟨w5,hw5⟩:∃w5,w4.setCell ⟨c.R,1,none⟩ (.int .i64 ((j:Int)+1))=w5:=⟨_,rfl⟩
    have F5:=Fr.set w4 c.R 1 (.int .i64 ((j:Int)+1))
    rw [hw5] at F5 H4
    try rw [hw5]
    have HX:=oH H4.out.2.1
    have T5:=H4.out.2.2.fr F5 (by simp;exact HTN.out)
    have HTB:Hid (TkB w5 tb px py t3):=oH ⟨T5.c1,T5.c3⟩
    have hs1:=(H4.out.1.up0 (N:=[c.R])).on F5
    have HFT:Hid (Fr [c.R] w w5∧IsT w5 (w.heap.size≤·) u):=oH ⟨H.out.1.on hs1,zAk H.out.2.1 hs1 (by simp;exact HX0.out)⟩
    have HCW:Hid (w.heap.size≤w5.heap.size):=oH HFT.out.1.size
    clear F5 T5 hs1 hw5 c1 f1 H4
    obtain⟨d1,d3⟩:=HTB.out
    have HSS:∀w':World,Fr [c.R] w5 w'→(w'.cell? ⟨tb,1,none⟩=some (.complex .f64 px py)∧w'.cell? ⟨tb,3,none⟩=some (.string t3)):=fun w' F=>HTB.out.fr F (by simp;exact HTN.out)
    have HR:∀w1:World,Fr [] w5 w1→Calls Tryz.prog 117 #[.pointer (some ⟨c.R,0,none⟩)] w1 fun e wz=>∃o a,encP o=.pointer a∧e=.returned (.pointer a)∧Fr [c.R] w5 wz∧Itm c (facM c.ts E) (j+1) w5 wz o:=fun w1 F1=>by
     refine(HF.out w1 (j+1) (HX.out.up F1) HOUT.out).mono ?_
     rintro e wz ⟨o,rfl,F,hres⟩
     obtain⟨a,ha⟩:=zAx o
     refine⟨o,a,ha,by rw [ha],F1.up0.on F,?_⟩
     rcases hres with⟨d,j,u,h1,h2,h3,h4,h5⟩ | h
     ·exact .inl ⟨d,j,u,h1,h2,h3,zAt h4 F1.size,h5⟩
     ·exact .inr h
    have HNN:∀(wz:World) (o:Option Nat) (a:Option Addr),encP o=.pointer a→Calls Tryz.prog 101 #[.int .u8 11,.complex .f64 px py,.string t3,.pointer (some ⟨u.p,0,none⟩),.pointer a] wz (NoV wz (nd 11 (tk c.ts j) (tk c.ts j).1.x 0) ((some u.p).toList++o.toList)):=fun wz o a ha=>zBk wz 11 11 rfl (tk c.ts j) (tk c.ts j).1.x px py HPX.out.1 t3 HPX.out.2 (some u.p) o _ _ rfl ha
    have F0:Fr [] w5 w5.drew:=Fr.drew w5
    go_wp2_with fail
    go_region_law (first
      | (go_simp;go_at_call 117;refine(HR _ F0).mono ?_;rintro e w9 ⟨o,a,ha,rfl,F9,hres⟩;obtain⟨t1,t2⟩:=HSS w9 F9)
      | (go_simp;go_at_call 101;refine(HNN _ o a ha).mono ?_;rintro e w10 hN;obtain⟨p10,rfl,Fb,F10,hb⟩:=zFm (G:=(facM c.ts E)) HX0.out HCW.out HFT.out.1 HFT.out.2 F9 hres hN;simp only [ptrV]))
    all_goals
     have HST:=oH (zIj Fb HUN.out.1 HUN.out.2 hb)
     have HME:Hid (rfM c.R w10 < rfM c.R wr):=oH (zIk HMO.out HXR.out hb)
     clear hN ha F9 hres HR HNN HSS F0 t1 t2 d1 d3 Fb F10 hb
     go_simp
     go_wp2_with fail
     go_roundw
     case rel=>exact HST.out
     case measure=>exact HME.out
  ·have HS:=zEt c wr j true X mulL (by decide) #[.string ⟨#[42]⟩,.string ⟨#[47]⟩,.string ⟨#[68,73,86]⟩,.string ⟨#[77,79,68]⟩,.string ⟨#[65,78,68]⟩] rfl 9 5 rfl
   obtain⟨ov,hov⟩:∃ov,encP o=ov:=⟨_,rfl⟩
   rw [hov]
   have H:=oH (oA F (oA hr (oA X hov)))
   clear F hr X hov
   simp only [Bool.not_true,Bool.false_and] at HS
   go_wp2_with fail
   refine HS.mono ?_
   rintro e w2 ⟨rfl,F2⟩
   have H2:=oH F2
   clear F2 HS
   go_wp2_with fail
   go_ret
   obtain⟨F,hr,X,hov⟩:=H.out
   exact Tl.mk_bad hov hr (F.on0 H2.out) (X.up H2.out)
end Go.Proofs.YtepfknfadpkigaaGreat
namespace Go.Proofs.YtepfknfadpkigaaGreat
open Go.RowKit
set_option maxHeartbeats 4000000
set_option maxRecDepth 100000
theorem fr5 (w:World) (b:Nat) (u0 u1 u2 u3 u4:Value):Fr [b] w (((((w.setCell ⟨b,0,none⟩ u0).setCell ⟨b,1,none⟩ u1).setCell ⟨b,2,none⟩ u2).setCell ⟨b,3,none⟩ u3).setCell ⟨b,4,none⟩ u4) :=
 Fr.trans (Fr.trans (Fr.trans (Fr.trans (Fr.set w b 0 u0) (Fr.set _ b 1 u1) (fun j hj=>.inl hj)) (Fr.set _ b 2 u2) (fun j hj=>.inl hj)) (Fr.set _ b 3 u3) (fun j hj=>.inl hj)) (Fr.set _ b 4 u4) (fun j hj=>.inl hj)
def Five (w:World) (b:Nat):Prop:=∃v0 v1 v2 v3 v4,Fv w b v0 v1 v2 v3 v4
theorem Five.fr {w w':World} {b:Nat} {N:List Nat} (h:Five w b) (F:Fr N w w') (hb:b ∉ N):Five w' b:=by
 obtain⟨v0,v1,v2,v3,v4,h⟩:=h
 exact⟨v0,v1,v2,v3,v4,h.fr F hb⟩
theorem Fv.lt {w:World} {b:Nat} {v0 v1 v2 v3 v4:Value} (h:Fv w b v0 v1 v2 v3 v4):b < w.heap.size:=Lib.lt_of_cell h.c0
theorem zSn (c:Rc) (hS:Scd c.ts) (E:Nat→Re) (hM:Mono E) (hF:CG c 109 (termM c.ts E)):CG c 99 (simM c.ts E):=by
 intro w i h hne
 have hsc:=fun w a x y m=>zAg (P:=Tryz.prog) w a .f64 x y m
 obtain⟨RES,hRES⟩:∃RES,simM c.ts E i=RES:=⟨_,rfl⟩
 rw [hRES] at hne ⊢
 have hbt:RES=(match aheadM c.ts signT false (termM c.ts E) i with | .ok x j=>moreM c.ts sumT true (termM c.ts E) (c.ts.length+1) x j | .bad j=>.bad j | .out=>.out):=by rw [← hRES];rfl
 rw [zNf] at hbt
 obtain⟨px,py,e1⟩:=zAc (tk c.ts i).2.1.1 (tk c.ts i).2.1.2
 obtain⟨ex,ey,e2⟩:=zAc (tk c.ts i).2.2.1 (tk c.ts i).2.2.2
 have HN:=zAo c w i false h px py ex ey e1 e2
 obtain⟨t3,ht3⟩:∃t3,(⟨(tk c.ts i).1.x.toArray⟩:ByteArray)=t3:=⟨_,rfl⟩
 have HPX:=oH (oA e1 ht3)
 rw [ht3] at HN
 have HF:=oH hF
 have HMO:=oH (zDe (ts:=c.ts) hM)
 have HNE:=oH hne
 have HB:=oH hbt
 have HT:=oH h
 have HSC:=oH hS
 have hle:=h.le
 have hw1:wrap64 ((i:Int)+1)=(i:Int)+1:=w64 _ (by omega) (by omega)
 clear h hne hRES hbt hF hM hS e1 e2 ht3
 generalize ((tk c.ts i).1.k:Int)=t0 at *
 generalize (tk c.ts i).1.n=t4 at *
 go_enter Tryz.func99,Tryz.ntmps99
 go_wp2_with fail
 refine HN.mono ?_
 rintro e w1 ⟨rfl,F1⟩
 clear HN
 go_upto_region 2 with fail
 obtain⟨w2,hw2⟩:∃w2,w1.alloc (.cells #[.int .u8 t0,.complex .f64 px py,.complex .f64 ex ey,.string t3,.int .i64 t4] 71)=w2:=⟨_,rfl⟩
 have F2:Fr [] w1 w2:=by rw [← hw2];exact Fr.alloc _ _
 have T2:Fv w2 w1.heap.size (.int .u8 t0) (.complex .f64 px py) (.complex .f64 ex ey) (.string t3) (.int .i64 t4):=by rw [← hw2];exact Fv.new _ _ _ _ _ _ _ _ rfl
 have hs2:w1.heap.size+1≤w2.heap.size:=by rw [← hw2];simp
 try rw [hw2]
 obtain⟨tb,htb⟩:∃tb,w1.heap.size=tb:=⟨_,rfl⟩
 rw [htb] at T2 hs2
 try rw [htb]
 have HTR:Hid (c.R < tb∧w.heap.size≤tb):=oH (by have h1:=HT.out.lt;have h2:=F1.size;omega)
 have X:=HT.out.up (F1.on F2)
 have HS:=zEt c w2 i false X signL (by decide) #[.string ⟨#[43]⟩,.string ⟨#[45]⟩] rfl 9 2 rfl
 rw [zPy zWi (HSC.out i)] at HS
 have HX0:Hid (c.R < tb+1):=oH (by have:=HTR.out.1;omega)
 have H2:=oH (oA (F1.on F2) (oA X (oA T2 hs2)))
 clear F1 F2 T2 X hw2 htb hs2
 cases ho:isO signT (tk c.ts i)
 ·rw [ho] at HS
  have hB2:RES=(match termM c.ts E i with | .ok x j=>moreM c.ts sumT true (termM c.ts E) (c.ts.length+1) x j | .bad j=>.bad j | .out=>.out):=by rw [HB.out,ho];rfl
  have hFi:termM c.ts E i≠.out:=fun e=>HNE.out (by rw [hB2,e])
  have HBB:=oH (oA hB2 hFi)
  clear hB2 hFi ho HB
  go_wp2_with fail
  refine HS.mono ?_
  rintro e w3 ⟨rfl,F3⟩
  have HC:=HF.out w3 i (H2.out.2.1.up F3) HBB.out.2
  have H3:=oH F3
  clear F3 HS
  go_wp2_with fail
  refine HC.mono ?_
  rintro e w4 ⟨o,rfl,F4,hres⟩
  have HQ:Hid (BLp c sumT (termM c.ts E) (tb+1) w RES (encP o) w4∧Five w4 tb):=oH (by
   have F04:Fr [c.R] w w4:=((H2.out.1.on H3.out).up0).on F4
   refine⟨⟨F04,?_⟩,⟨_,_,_,_,_,(H2.out.2.2.1.fr H3.out (by simp)).fr F4 (by have:=HTR.out.1;simp;omega)⟩⟩
   rcases hres with⟨d,j,u,hr,rfl,X,hT,hd⟩ | ⟨j,hr,X⟩
   ·exact .inl ⟨c.ts.length+1,u,j,by rw [HBB.out.1,hr,hd],rfl,X,zAt hT (by have:=H2.out.2.2.2;have:=H3.out.size;omega)⟩
   ·exact .inr ⟨j,o,by rw [HBB.out.1,hr],rfl,X⟩)
  obtain⟨ov,hov⟩:∃ov,encP o=ov:=⟨_,rfl⟩
  rw [hov] at HQ ⊢
  clear F4 hres HC hov HBB H2 H3
  go_wp2_with fail
  go_loopw [5] (fun x wr=>BLp c sumT (termM c.ts E) (tb+1) w RES x wr∧Five wr tb) (fun _ wr=>rfM c.R wr)
  case atStart=>exact HQ.out
  case round =>
   clear HQ
   obtain⟨⟨F,⟨m,u,j,hd,rfl,X,hT⟩ | ⟨j,o,hr,rfl,X⟩⟩,hfv⟩:=hrel
   ·have HS:=zEt c wr j false X sumL (by decide) #[.string ⟨#[43]⟩,.string ⟨#[45]⟩,.string ⟨#[79,82]⟩] rfl 9 3 rfl
    rw [zPy zUc (HSC.out j)] at HS
    obtain⟨m,rfl⟩:∃m',m=m'+1:=by
     cases m with
     | zero=>exact absurd (show RES=.out from hd.symm) HNE.out
     | succ m=>exact⟨m,rfl⟩
    cases ho:isO sumT (tk c.ts j)
    ·rw [ho] at HS
     rw [zFl c.ts m u.dt j ho] at hd
     have H:=oH (oA F (oA hd (oA X hT)))
     clear F hd X hT ho hfv
     simp only [ptrV]
     go_wp2_with fail
     refine HS.mono ?_
     rintro e w2 ⟨rfl,F2⟩
     have H2:=oH F2
     clear F2 HS
     go_wp2_with fail
     go_ret
     obtain⟨F,hd,X,hT⟩:=H.out
     exact Tl.mk_ok hd.symm (F.on0 H2.out) (X.up H2.out) (zAt (zAk hT H2.out (by simp)) (by have:=HTR.out.2;omega)) rfl
    ·rw [ho] at HS
     have hlt:=zCb rfl ho
     have HOUT:Hid (termM c.ts E (j+1)≠.out):=oH (fun e=>HNE.out (by rw [← hd,zGm c.ts m u.dt j ho,e]))
     obtain⟨px,py,e1⟩:=zAc (tk c.ts j).2.1.1 (tk c.ts j).2.1.2
     obtain⟨ex,ey,e2⟩:=zAc (tk c.ts j).2.2.1 (tk c.ts j).2.2.2
     have HNW:=oH (fun w F2=>zAo c w j false (X.up (w':=w) F2) px py ex ey e1 e2)
     have hle:=X.le
     have hw1:wrap64 ((j:Int)+1)=(j:Int)+1:=w64 _ (by omega) (by omega)
     obtain⟨t3,ht3⟩:∃t3,(⟨(tk c.ts j).1.x.toArray⟩:ByteArray)=t3:=⟨_,rfl⟩
     have HPX:=oH (oA e1 ht3)
     have HUN:=oH (oA hd.symm ho)
     have HXR:=oH X
     obtain⟨z0,z1,z2,z3,z4,hfv⟩:=hfv
     have H:=oH (oA F (oA hT (oA hlt hfv)))
     rw [ht3] at HNW
     clear F hd X hT ho hlt e1 e2 ht3 hfv
     generalize ((tk c.ts j).1.k:Int)=t0 at *
     generalize (tk c.ts j).1.n=t4 at *
     simp only [ptrV]
     go_wp2_with fail
     refine HS.mono ?_
     rintro e w2 ⟨rfl,F2⟩
     have HN:=HNW.out w2 F2
     have H2:=oH F2
     clear F2 HS HNW
     go_wp2_with fail
     refine HN.mono ?_
     rintro e w3 ⟨rfl,F3⟩
     have A3:=H.out.2.2.2.fr (H2.out.on F3) (by simp)
     have a0:=A3.c0
     have a1:=A3.c1
     have a2:=A3.c2
     have a3:=A3.c3
     have a4:=A3.c4
     have b0:=A3.f0
     have b1:=A3.f1
     have b2:=A3.f2
     have b3:=A3.f3
     have b4:=A3.f4
     have H3:=oH (oA (H2.out.on F3) A3)
     clear F3 HN H2 A3
     go_upto_region 10 with fail
     obtain⟨w4,hw4⟩:∃w4,(((((w3.setCell ⟨tb,0,none⟩ (.int .u8 t0)).setCell ⟨tb,1,none⟩ (.complex .f64 px py)).setCell ⟨tb,2,none⟩ (.complex .f64 ex ey)).setCell ⟨tb,3,none⟩ (.string t3)).setCell ⟨tb,4,none⟩ (.int .i64 t4))=w4:=⟨_,rfl⟩
     have F4:=fr5 w3 tb (.int .u8 t0) (.complex .f64 px py) (.complex .f64 ex ey) (.string t3) (.int .i64 t4)
     have T4:=(((((H3.out.2.set0 (.int .u8 t0)).set1 (.complex .f64 px py)).set2 (.complex .f64 ex ey)).set3 (.string t3)).set4 (.int .i64 t4))
     rw [hw4] at F4 T4
     try rw [hw4]
     have X4:RF c w4 j false:=(HXR.out.up H3.out.1).stay F4 (by simp;exact HTR.out.1)
     have c1:=X4.c1
     have f1:=X4.f 1
     have H4:=oH (oA (H3.out.1.up0 (N:=[tb]) |>.on F4) (oA (X4.next H.out.2.2.1) T4))
     clear hw4 F4 T4 X4 H3 a0 a1 a2 a3 a4 b0 b1 b2 b3 b4
     go_upto_region 11 with fail
     obtain⟨w5,hw5⟩:∃w5,w4.setCell ⟨c.R,1,none⟩ (.int .i64 ((j:Int)+1))=w5:=⟨_,rfl⟩
     have F5:=Fr.set w4 c.R 1 (.int .i64 ((j:Int)+1))
     rw [hw5] at F5 H4
     try rw [hw5]
     have HX:=oH H4.out.2.1
     have HTN:Hid (tb≠c.R):=oH (by have:=HTR.out.1;omega)
     have T5:=H4.out.2.2.fr F5 (by simp;exact HTN.out)
     have HTB:Hid (TkB w5 tb px py t3):=oH ⟨T5.c1,T5.c3⟩
     have HFV:Hid (Five w5 tb):=oH ⟨_,_,_,_,_,T5⟩
     have F45:Fr [tb,c.R] wr w5:=(H4.out.1.mono (by simp)).trans F5 (fun j hj=>.inl (by simp at hj;simp [hj]))
     have HFT:Hid (Fr [c.R] w w5∧IsT w5 (tb+1≤·) u):=oH ⟨H.out.1.trans F45 (fun q hq=>by
      rcases List.mem_cons.1 hq with rfl | hq
      ·exact .inr HTR.out.2
      ·exact .inl hq),zAk H.out.2.1 F45 (by have:=HTR.out.1;intro q hq;simp at hq;omega)⟩
     have HCW:Hid (tb+1≤w5.heap.size):=oH (by have:=HFV.out;obtain⟨_,_,_,_,_,h⟩:=this;exact h.lt)
     clear F5 T5 F45 hw5 c1 f1 H4
     obtain⟨d1,d3⟩:=HTB.out
     have HSS:∀w':World,Fr [c.R] w5 w'→(w'.cell? ⟨tb,1,none⟩=some (.complex .f64 px py)∧w'.cell? ⟨tb,3,none⟩=some (.string t3)):=fun w' F=>HTB.out.fr F (by simp;exact HTN.out)
     have HR:∀w1:World,Fr [] w5 w1→Calls Tryz.prog 109 #[.pointer (some ⟨c.R,0,none⟩)] w1 fun e wz=>∃o a,encP o=.pointer a∧e=.returned (.pointer a)∧Fr [c.R] w5 wz∧Itm c (termM c.ts E) (j+1) w5 wz o:=fun w1 F1=>by
      refine(HF.out w1 (j+1) (HX.out.up F1) HOUT.out).mono ?_
      rintro e wz ⟨o,rfl,F,hres⟩
      obtain⟨a,ha⟩:=zAx o
      refine⟨o,a,ha,by rw [ha],F1.up0.on F,?_⟩
      rcases hres with⟨d,j,u,h1,h2,h3,h4,h5⟩ | h
      ·exact .inl ⟨d,j,u,h1,h2,h3,zAt h4 F1.size,h5⟩
      ·exact .inr h
     have HNN:∀(wz:World) (o:Option Nat) (a:Option Addr),encP o=.pointer a→Calls Tryz.prog 101 #[.int .u8 11,.complex .f64 px py,.string t3,.pointer (some ⟨u.p,0,none⟩),.pointer a] wz (NoV wz (nd 11 (tk c.ts j) (tk c.ts j).1.x 0) ((some u.p).toList++o.toList)):=fun wz o a ha=>zBk wz 11 11 rfl (tk c.ts j) (tk c.ts j).1.x px py HPX.out.1 t3 HPX.out.2 (some u.p) o _ _ rfl ha
     have F0:Fr [] w5 w5.drew:=Fr.drew w5
     go_wp2_with fail
     go_region_law (first
       | (go_simp;go_at_call 109;refine(HR _ F0).mono ?_;rintro e w9 ⟨o,a,ha,rfl,F9,hres⟩;obtain⟨t1,t2⟩:=HSS w9 F9)
       | (go_simp;go_at_call 101;refine(HNN _ o a ha).mono ?_;rintro e w10 hN;obtain⟨p10,rfl,Fb,F10,hb⟩:=zFm (G:=(termM c.ts E)) HX0.out HCW.out HFT.out.1 HFT.out.2 F9 hres hN;simp only [ptrV]))
     all_goals
      have HST:=oH (oA (zIj Fb HUN.out.1 HUN.out.2 hb) (HFV.out.fr ((F9.on0 F10)) (by simp;exact HTN.out)))
      have HME:Hid (rfM c.R w10 < rfM c.R wr):=oH (zIk HMO.out HXR.out hb)
      clear hN ha F9 hres HR HNN HSS F0 t1 t2 d1 d3 Fb F10 hb
      go_simp
      go_wp2_with fail
      go_roundw
      case rel=>exact HST.out
      case measure=>exact HME.out
   ·have HS:=zEt c wr j true X sumL (by decide) #[.string ⟨#[43]⟩,.string ⟨#[45]⟩,.string ⟨#[79,82]⟩] rfl 9 3 rfl
    obtain⟨ov,hov⟩:∃ov,encP o=ov:=⟨_,rfl⟩
    rw [hov]
    have H:=oH (oA F (oA hr (oA X hov)))
    clear F hr X hov hfv
    simp only [Bool.not_true,Bool.false_and] at HS
    go_wp2_with fail
    refine HS.mono ?_
    rintro e w2 ⟨rfl,F2⟩
    have H2:=oH F2
    clear F2 HS
    go_wp2_with fail
    go_ret
    obtain⟨F,hr,X,hov⟩:=H.out
    exact Tl.mk_bad hov hr (F.on0 H2.out) (X.up H2.out)
 ·rw [ho] at HS
  have hlt:=zCb rfl ho
  have hB2:RES=(match termM c.ts E (i+1) with | .ok x j=>moreM c.ts sumT true (termM c.ts E) (c.ts.length+1) (.node (nd 12 (tk c.ts i) (tk c.ts i).1.x 0) [x]) j | .bad j=>.bad j | .out=>.out):=by
   rw [HB.out,if_pos ho]
   cases termM c.ts E (i+1) <;> rfl
  have hFi:termM c.ts E (i+1)≠.out:=fun e=>HNE.out (by rw [hB2,e])
  have HBB:=oH (oA hB2 (oA hFi hlt))
  clear hB2 hFi ho HB hlt
  go_wp2_with fail
  refine HS.mono ?_
  rintro e w3 ⟨rfl,F3⟩
  have X3:=H2.out.2.1.up F3
  have c1:=X3.c1
  have f1:=X3.f 1
  have H3:=oH (oA F3 (X3.next HBB.out.2.2))
  clear F3 HS X3
  go_upto_region 5 with fail
  obtain⟨w4,hw4⟩:∃w4,w3.setCell ⟨c.R,1,none⟩ (.int .i64 ((i:Int)+1))=w4:=⟨_,rfl⟩
  have F4:=Fr.set w3 c.R 1 (.int .i64 ((i:Int)+1))
  rw [hw4] at F4 H3
  try rw [hw4]
  have HC:=HF.out w4 (i+1) H3.out.2 HBB.out.2.1
  have H4:=oH (oA (((H2.out.1.on H3.out.1).up0 (N:=[c.R])).on F4) ((H2.out.2.2.1.fr H3.out.1 (by simp)).fr F4 (by have:=HTR.out.1;simp;omega)))
  clear F4 hw4 c1 f1
  go_wp2_with fail
  refine HC.mono ?_
  rintro e w5 ⟨o,rfl,F5,hres⟩
  have T5:=H4.out.2.fr F5 (by have:=HTR.out.1;simp;omega)
  have d1:=T5.c1
  have d3:=T5.c3
  have HNO:=zBk w5 12 12 rfl (tk c.ts i) (tk c.ts i).1.x px py HPX.out.1 t3 HPX.out.2 o none _ _ rfl rfl
  obtain⟨ov,hov⟩:∃ov,encP o=ov:=⟨_,rfl⟩
  rw [hov] at HNO ⊢
  have H5:=oH (oA F5 (oA hres T5))
  clear F5 hres T5 HC hov
  simp only [encP] at HNO
  go_wp2_with fail
  refine HNO.mono ?_
  rintro e w6 h6
  have hs2:=H2.out.2.2.2
  have hs3:=H3.out.1.size
  have hs5:=H5.out.1.size
  have hs4:=H4.out.1.size
  have HQ':∃p,e=.returned (ptrV p)∧BLp c sumT (termM c.ts E) (tb+1) w RES (ptrV p) w6∧Five w6 tb:=by
   rcases H5.out.2.1 with⟨d,j,u,hr,rfl,X,hT,hd⟩ | ⟨j,hr,X⟩
   ·obtain⟨p,v,rfl,F6,hp,hK⟩:=NoV.kj (ts:=[u]) h6 (C:=tb+1) (by have:=H4.out.2.lt;omega) (by simpa using zAt hT (by have:=H4.out.2.lt;omega))
    refine⟨p,rfl,⟨(H4.out.1.on H5.out.1).on0 F6,.inl ⟨c.ts.length+1,.node p (nd 12 (tk c.ts i) (tk c.ts i).1.x 0) [u],j,?_,rfl,X.up F6,hK.tree⟩⟩,⟨_,_,_,_,_,H5.out.2.2.fr F6 (by simp)⟩⟩
    rw [HBB.out.1,hr,← hd]
    rfl
   ·obtain⟨p,v,rfl,F6,hp,_⟩:=h6
    exact⟨p,rfl,⟨(H4.out.1.on H5.out.1).on0 F6,.inr ⟨j,some p,by rw [HBB.out.1,hr],rfl,X.up F6⟩⟩,⟨_,_,_,_,_,H5.out.2.2.fr F6 (by simp)⟩⟩
  obtain⟨p,rfl,hq⟩:=HQ'
  have HQ:=oH hq
  clear hq h6 hs2 hs3 hs4 hs5 H2 H3 H4 H5 HBB HNO d1 d3
  simp only [ptrV] at HQ ⊢
  go_wp2_with fail
  go_loopw [5] (fun x wr=>BLp c sumT (termM c.ts E) (tb+1) w RES x wr∧Five wr tb) (fun _ wr=>rfM c.R wr)
  case atStart=>exact HQ.out
  case round =>
   clear HQ
   obtain⟨⟨F,⟨m,u,j,hd,rfl,X,hT⟩ | ⟨j,o,hr,rfl,X⟩⟩,hfv⟩:=hrel
   ·have HS:=zEt c wr j false X sumL (by decide) #[.string ⟨#[43]⟩,.string ⟨#[45]⟩,.string ⟨#[79,82]⟩] rfl 9 3 rfl
    rw [zPy zUc (HSC.out j)] at HS
    obtain⟨m,rfl⟩:∃m',m=m'+1:=by
     cases m with
     | zero=>exact absurd (show RES=.out from hd.symm) HNE.out
     | succ m=>exact⟨m,rfl⟩
    cases ho:isO sumT (tk c.ts j)
    ·rw [ho] at HS
     rw [zFl c.ts m u.dt j ho] at hd
     have H:=oH (oA F (oA hd (oA X hT)))
     clear F hd X hT ho hfv
     simp only [ptrV]
     go_wp2_with fail
     refine HS.mono ?_
     rintro e w2 ⟨rfl,F2⟩
     have H2:=oH F2
     clear F2 HS
     go_wp2_with fail
     go_ret
     obtain⟨F,hd,X,hT⟩:=H.out
     exact Tl.mk_ok hd.symm (F.on0 H2.out) (X.up H2.out) (zAt (zAk hT H2.out (by simp)) (by have:=HTR.out.2;omega)) rfl
    ·rw [ho] at HS
     have hlt:=zCb rfl ho
     have HOUT:Hid (termM c.ts E (j+1)≠.out):=oH (fun e=>HNE.out (by rw [← hd,zGm c.ts m u.dt j ho,e]))
     obtain⟨px,py,e1⟩:=zAc (tk c.ts j).2.1.1 (tk c.ts j).2.1.2
     obtain⟨ex,ey,e2⟩:=zAc (tk c.ts j).2.2.1 (tk c.ts j).2.2.2
     have HNW:=oH (fun w F2=>zAo c w j false (X.up (w':=w) F2) px py ex ey e1 e2)
     have hle:=X.le
     have hw1:wrap64 ((j:Int)+1)=(j:Int)+1:=w64 _ (by omega) (by omega)
     obtain⟨t3,ht3⟩:∃t3,(⟨(tk c.ts j).1.x.toArray⟩:ByteArray)=t3:=⟨_,rfl⟩
     have HPX:=oH (oA e1 ht3)
     have HUN:=oH (oA hd.symm ho)
     have HXR:=oH X
     obtain⟨z0,z1,z2,z3,z4,hfv⟩:=hfv
     have H:=oH (oA F (oA hT (oA hlt hfv)))
     rw [ht3] at HNW
     clear F hd X hT ho hlt e1 e2 ht3 hfv
     generalize ((tk c.ts j).1.k:Int)=t0 at *
     generalize (tk c.ts j).1.n=t4 at *
     simp only [ptrV]
     go_wp2_with fail
     refine HS.mono ?_
     rintro e w2 ⟨rfl,F2⟩
     have HN:=HNW.out w2 F2
     have H2:=oH F2
     clear F2 HS HNW
     go_wp2_with fail
     refine HN.mono ?_
     rintro e w3 ⟨rfl,F3⟩
     have A3:=H.out.2.2.2.fr (H2.out.on F3) (by simp)
     have a0:=A3.c0
     have a1:=A3.c1
     have a2:=A3.c2
     have a3:=A3.c3
     have a4:=A3.c4
     have b0:=A3.f0
     have b1:=A3.f1
     have b2:=A3.f2
     have b3:=A3.f3
     have b4:=A3.f4
     have H3:=oH (oA (H2.out.on F3) A3)
     clear F3 HN H2 A3
     go_upto_region 10 with fail
     obtain⟨w4,hw4⟩:∃w4,(((((w3.setCell ⟨tb,0,none⟩ (.int .u8 t0)).setCell ⟨tb,1,none⟩ (.complex .f64 px py)).setCell ⟨tb,2,none⟩ (.complex .f64 ex ey)).setCell ⟨tb,3,none⟩ (.string t3)).setCell ⟨tb,4,none⟩ (.int .i64 t4))=w4:=⟨_,rfl⟩
     have F4:=fr5 w3 tb (.int .u8 t0) (.complex .f64 px py) (.complex .f64 ex ey) (.string t3) (.int .i64 t4)
     have T4:=(((((H3.out.2.set0 (.int .u8 t0)).set1 (.complex .f64 px py)).set2 (.complex .f64 ex ey)).set3 (.string t3)).set4 (.int .i64 t4))
     rw [hw4] at F4 T4
     try rw [hw4]
     have X4:RF c w4 j false:=(HXR.out.up H3.out.1).stay F4 (by simp;exact HTR.out.1)
     have c1:=X4.c1
     have f1:=X4.f 1
     have H4:=oH (oA (H3.out.1.up0 (N:=[tb]) |>.on F4) (oA (X4.next H.out.2.2.1) T4))
     clear hw4 F4 T4 X4 H3 a0 a1 a2 a3 a4 b0 b1 b2 b3 b4
     go_upto_region 11 with fail
     obtain⟨w5,hw5⟩:∃w5,w4.setCell ⟨c.R,1,none⟩ (.int .i64 ((j:Int)+1))=w5:=⟨_,rfl⟩
     have F5:=Fr.set w4 c.R 1 (.int .i64 ((j:Int)+1))
     rw [hw5] at F5 H4
     try rw [hw5]
     have HX:=oH H4.out.2.1
     have HTN:Hid (tb≠c.R):=oH (by have:=HTR.out.1;omega)
     have T5:=H4.out.2.2.fr F5 (by simp;exact HTN.out)
     have HTB:Hid (TkB w5 tb px py t3):=oH ⟨T5.c1,T5.c3⟩
     have HFV:Hid (Five w5 tb):=oH ⟨_,_,_,_,_,T5⟩
     have F45:Fr [tb,c.R] wr w5:=(H4.out.1.mono (by simp)).trans F5 (fun j hj=>.inl (by simp at hj;simp [hj]))
     have HFT:Hid (Fr [c.R] w w5∧IsT w5 (tb+1≤·) u):=oH ⟨H.out.1.trans F45 (fun q hq=>by
      rcases List.mem_cons.1 hq with rfl | hq
      ·exact .inr HTR.out.2
      ·exact .inl hq),zAk H.out.2.1 F45 (by have:=HTR.out.1;intro q hq;simp at hq;omega)⟩
     have HCW:Hid (tb+1≤w5.heap.size):=oH (by have:=HFV.out;obtain⟨_,_,_,_,_,h⟩:=this;exact h.lt)
     clear F5 T5 F45 hw5 c1 f1 H4
     obtain⟨d1,d3⟩:=HTB.out
     have HSS:∀w':World,Fr [c.R] w5 w'→(w'.cell? ⟨tb,1,none⟩=some (.complex .f64 px py)∧w'.cell? ⟨tb,3,none⟩=some (.string t3)):=fun w' F=>HTB.out.fr F (by simp;exact HTN.out)
     have HR:∀w1:World,Fr [] w5 w1→Calls Tryz.prog 109 #[.pointer (some ⟨c.R,0,none⟩)] w1 fun e wz=>∃o a,encP o=.pointer a∧e=.returned (.pointer a)∧Fr [c.R] w5 wz∧Itm c (termM c.ts E) (j+1) w5 wz o:=fun w1 F1=>by
      refine(HF.out w1 (j+1) (HX.out.up F1) HOUT.out).mono ?_
      rintro e wz ⟨o,rfl,F,hres⟩
      obtain⟨a,ha⟩:=zAx o
      refine⟨o,a,ha,by rw [ha],F1.up0.on F,?_⟩
      rcases hres with⟨d,j,u,h1,h2,h3,h4,h5⟩ | h
      ·exact .inl ⟨d,j,u,h1,h2,h3,zAt h4 F1.size,h5⟩
      ·exact .inr h
     have HNN:∀(wz:World) (o:Option Nat) (a:Option Addr),encP o=.pointer a→Calls Tryz.prog 101 #[.int .u8 11,.complex .f64 px py,.string t3,.pointer (some ⟨u.p,0,none⟩),.pointer a] wz (NoV wz (nd 11 (tk c.ts j) (tk c.ts j).1.x 0) ((some u.p).toList++o.toList)):=fun wz o a ha=>zBk wz 11 11 rfl (tk c.ts j) (tk c.ts j).1.x px py HPX.out.1 t3 HPX.out.2 (some u.p) o _ _ rfl ha
     have F0:Fr [] w5 w5.drew:=Fr.drew w5
     go_wp2_with fail
     go_region_law (first
       | (go_simp;go_at_call 109;refine(HR _ F0).mono ?_;rintro e w9 ⟨o,a,ha,rfl,F9,hres⟩;obtain⟨t1,t2⟩:=HSS w9 F9)
       | (go_simp;go_at_call 101;refine(HNN _ o a ha).mono ?_;rintro e w10 hN;obtain⟨p10,rfl,Fb,F10,hb⟩:=zFm (G:=(termM c.ts E)) HX0.out HCW.out HFT.out.1 HFT.out.2 F9 hres hN;simp only [ptrV]))
     all_goals
      have HST:=oH (oA (zIj Fb HUN.out.1 HUN.out.2 hb) (HFV.out.fr ((F9.on0 F10)) (by simp;exact HTN.out)))
      have HME:Hid (rfM c.R w10 < rfM c.R wr):=oH (zIk HMO.out HXR.out hb)
      clear hN ha F9 hres HR HNN HSS F0 t1 t2 d1 d3 Fb F10 hb
      go_simp
      go_wp2_with fail
      go_roundw
      case rel=>exact HST.out
      case measure=>exact HME.out
   ·have HS:=zEt c wr j true X sumL (by decide) #[.string ⟨#[43]⟩,.string ⟨#[45]⟩,.string ⟨#[79,82]⟩] rfl 9 3 rfl
    obtain⟨ov,hov⟩:∃ov,encP o=ov:=⟨_,rfl⟩
    rw [hov]
    have H:=oH (oA F (oA hr (oA X hov)))
    clear F hr X hov hfv
    simp only [Bool.not_true,Bool.false_and] at HS
    go_wp2_with fail
    refine HS.mono ?_
    rintro e w2 ⟨rfl,F2⟩
    have H2:=oH F2
    clear F2 HS
    go_wp2_with fail
    go_ret
    obtain⟨F,hr,X,hov⟩:=H.out
    exact Tl.mk_bad hov hr (F.on0 H2.out) (X.up H2.out)
theorem zQe (c:Rc) (hS:Scd c.ts) (E:Nat→Re) (hM:Mono E) (hF:CG c 99 (simM c.ts E)):CG c 65 (exM c.ts E):=by
 intro w i h hne
 have hsc:=fun w a x y m=>zAg (P:=Tryz.prog) w a .f64 x y m
 obtain⟨RES,hRES⟩:∃RES,exM c.ts E i=RES:=⟨_,rfl⟩
 rw [hRES] at hne ⊢
 have hbt:RES=(match simM c.ts E i with | .ok x j=>moreM c.ts relT false (simM c.ts E) (c.ts.length+1) x j | .bad j=>.bad j | .out=>.out):=by rw [← hRES];rfl
 have hFi:simM c.ts E i≠.out:=fun e=>hne (by rw [hbt,e])
 have HC:=hF w i h hFi
 have HF:=oH hF
 have HNE:=oH hne
 have HB:=oH hbt
 have HX0:=oH h.lt
 have HSC:=oH hS
 clear h hne hRES hbt hFi hF hS
 go_enter Tryz.func65,Tryz.ntmps65
 go_wp2_with fail
 refine HC.mono ?_
 rintro e wr ⟨o,rfl,F,⟨d,j,u,hr,rfl,X,hT,hd⟩ | ⟨j,hr,X⟩⟩
 ·have HS:=zEt c wr j false X relL (by decide) #[.string ⟨#[61]⟩,.string ⟨#[35]⟩,.string ⟨#[60]⟩,.string ⟨#[60,61]⟩,.string ⟨#[62]⟩,.string ⟨#[62,61]⟩,.string ⟨#[73,78]⟩] rfl 9 7 rfl
  rw [zPy qAm (HSC.out j)] at HS
  have hB2:RES=moreM c.ts relT false (simM c.ts E) (c.ts.length+1) u.dt j:=by rw [HB.out,hr,hd]
  cases ho:isO relT (tk c.ts j)
  ·rw [ho] at HS
   rw [zFl c.ts _ u.dt j ho] at hB2
   have H:=oH (oA F (oA hB2 (oA X hT)))
   clear F hd X hT ho hr hB2 HB HC
   simp only [encP,ptrV]
   go_wp2_with fail
   refine HS.mono ?_
   rintro e w2 ⟨rfl,F2⟩
   have H2:=oH F2
   clear F2 HS
   go_wp2_with fail
   go_ret
   obtain⟨F,hd,X,hT⟩:=H.out
   exact Tl.mk_ok hd (F.on0 H2.out) (X.up H2.out) (zAk hT H2.out (by simp)) rfl
  ·rw [ho] at HS
   have hlt:=zCb rfl ho
   rw [zGm c.ts _ u.dt j ho] at hB2
   have HOUT:Hid (simM c.ts E (j+1)≠.out):=oH (fun e=>HNE.out (by rw [hB2,e]))
   obtain⟨px,py,e1⟩:=zAc (tk c.ts j).2.1.1 (tk c.ts j).2.1.2
   obtain⟨ex,ey,e2⟩:=zAc (tk c.ts j).2.2.1 (tk c.ts j).2.2.2
   have HNW:=oH (fun w F2=>zAo c w j false (X.up (w':=w) F2) px py ex ey e1 e2)
   have hle:=X.le
   have hw1:wrap64 ((j:Int)+1)=(j:Int)+1:=w64 _ (by omega) (by omega)
   obtain⟨t3,ht3⟩:∃t3,(⟨(tk c.ts j).1.x.toArray⟩:ByteArray)=t3:=⟨_,rfl⟩
   have HPX:=oH (oA e1 ht3)
   have HUN:=oH hB2
   have HXR:=oH X
   have H:=oH (oA F (oA hT hlt))
   rw [ht3] at HNW
   clear F hd X hT ho hlt e1 e2 ht3 hr hB2 HB HC
   generalize ((tk c.ts j).1.k:Int)=t0 at *
   generalize (tk c.ts j).1.n=t4 at *
   simp only [encP,ptrV]
   go_wp2_with fail
   refine HS.mono ?_
   rintro e w2 ⟨rfl,F2⟩
   have HN:=HNW.out w2 F2
   have H2:=oH F2
   clear F2 HS HNW
   go_wp2_with fail
   refine HN.mono ?_
   rintro e w3 ⟨rfl,F3⟩
   have H3:=oH (H2.out.on F3)
   clear F3 HN H2
   go_upto_region 4 with fail
   obtain⟨w4,hw4⟩:∃w4,w3.alloc (.cells #[.int .u8 t0,.complex .f64 px py,.complex .f64 ex ey,.string t3,.int .i64 t4] 71)=w4:=⟨_,rfl⟩
   have F4:Fr [] w3 w4:=by rw [← hw4];exact Fr.alloc _ _
   have T4:Fv w4 w3.heap.size (.int .u8 t0) (.complex .f64 px py) (.complex .f64 ex ey) (.string t3) (.int .i64 t4):=by rw [← hw4];exact Fv.new _ _ _ _ _ _ _ _ rfl
   try rw [hw4]
   have X4:=HXR.out.up (H3.out.on F4)
   have c1:=X4.c1
   have f1:=X4.f 1
   obtain⟨tb,htb⟩:∃tb,w3.heap.size=tb:=⟨_,rfl⟩
   rw [htb] at T4
   try rw [htb]
   have HTN:Hid (tb≠c.R):=oH (by have h1:=HX0.out;have h2:=H.out.1.size;have h3:=H3.out.size;omega)
   have H4:=oH (oA (H3.out.on F4) (oA (X4.next H.out.2.2) T4))
   clear hw4 F4 T4 X4 H3 htb
   go_upto_region 5 with fail
   obtain⟨w5,hw5⟩:∃w5,w4.setCell ⟨c.R,1,none⟩ (.int .i64 ((j:Int)+1))=w5:=⟨_,rfl⟩
   have F5:=Fr.set w4 c.R 1 (.int .i64 ((j:Int)+1))
   rw [hw5] at F5 H4
   try rw [hw5]
   have HX:=oH H4.out.2.1
   have T5:=H4.out.2.2.fr F5 (by simp;exact HTN.out)
   have HTB:Hid (TkB w5 tb px py t3):=oH ⟨T5.c1,T5.c3⟩
   have hs1:=(H4.out.1.up0 (N:=[c.R])).on F5
   have HFT:Hid (Fr [c.R] w w5∧IsT w5 (w.heap.size≤·) u):=oH ⟨H.out.1.on hs1,zAk H.out.2.1 hs1 (by simp;exact HX0.out)⟩
   have HCW:Hid (w.heap.size≤w5.heap.size):=oH HFT.out.1.size
   clear F5 T5 hs1 hw5 c1 f1 H4
   obtain⟨d1,d3⟩:=HTB.out
   have HSS:∀w':World,Fr [c.R] w5 w'→(w'.cell? ⟨tb,1,none⟩=some (.complex .f64 px py)∧w'.cell? ⟨tb,3,none⟩=some (.string t3)):=fun w' F=>HTB.out.fr F (by simp;exact HTN.out)
   have HR:∀w1:World,Fr [] w5 w1→Calls Tryz.prog 99 #[.pointer (some ⟨c.R,0,none⟩)] w1 fun e wz=>∃o a,encP o=.pointer a∧e=.returned (.pointer a)∧Fr [c.R] w5 wz∧Itm c (simM c.ts E) (j+1) w5 wz o:=fun w1 F1=>by
    refine(HF.out w1 (j+1) (HX.out.up F1) HOUT.out).mono ?_
    rintro e wz ⟨o,rfl,F,hres⟩
    obtain⟨a,ha⟩:=zAx o
    refine⟨o,a,ha,by rw [ha],F1.up0.on F,?_⟩
    rcases hres with⟨d,j,u,h1,h2,h3,h4,h5⟩ | h
    ·exact .inl ⟨d,j,u,h1,h2,h3,zAt h4 F1.size,h5⟩
    ·exact .inr h
   have HNN:∀(wz:World) (o:Option Nat) (a:Option Addr),encP o=.pointer a→Calls Tryz.prog 101 #[.int .u8 11,.complex .f64 px py,.string t3,.pointer (some ⟨u.p,0,none⟩),.pointer a] wz (NoV wz (nd 11 (tk c.ts j) (tk c.ts j).1.x 0) ((some u.p).toList++o.toList)):=fun wz o a ha=>zBk wz 11 11 rfl (tk c.ts j) (tk c.ts j).1.x px py HPX.out.1 t3 HPX.out.2 (some u.p) o _ _ rfl ha
   have F0:Fr [] w5 w5.drew:=Fr.drew w5
   go_wp2_with fail
   go_region_law (first
     | (go_simp;go_at_call 99;refine(HR _ F0).mono ?_;rintro e w9 ⟨o,a,ha,rfl,F9,hres⟩;obtain⟨t1,t2⟩:=HSS w9 F9)
     | (go_simp;go_at_call 101;refine(HNN _ o a ha).mono ?_;rintro e w10 hN;obtain⟨p10,rfl,Fb,F10,hb⟩:=zFm (G:=(simM c.ts E)) HX0.out HCW.out HFT.out.1 HFT.out.2 F9 hres hN;simp only [ptrV]))
   all_goals
    have HST:=oH (oA Fb hb)
    clear hN ha F9 hres HR HNN HSS F0 t1 t2 d1 d3 Fb F10 hb
    go_simp
    go_wp2_with fail
    go_ret
    obtain⟨Fb,hb⟩:=HST.out
    have hun:=HUN.out
    rcases hb with⟨k,v,d2,hE,X,hT,hd⟩ | ⟨k,hE,X⟩
    ·rw [hE] at hun
     exact Tl.mk_ok (u:=.node p10 (nd 11 (tk c.ts j) (tk c.ts j).1.x 0) [u,v]) hun Fb X hT (by rw [← hd];rfl)
    ·rw [hE] at hun
     exact Tl.mk_bad (o:=some p10) rfl hun Fb X
 ·have HS:=zEt c wr j true X relL (by decide) #[.string ⟨#[61]⟩,.string ⟨#[35]⟩,.string ⟨#[60]⟩,.string ⟨#[60,61]⟩,.string ⟨#[62]⟩,.string ⟨#[62,61]⟩,.string ⟨#[73,78]⟩] rfl 9 7 rfl
  have hB2:RES=.bad j:=by rw [HB.out,hr]
  obtain⟨ov,hov⟩:∃ov,encP o=ov:=⟨_,rfl⟩
  rw [hov]
  have H:=oH (oA F (oA hB2 (oA X hov)))
  clear F hr X hov hB2 HC
  simp only [Bool.not_true,Bool.false_and] at HS
  go_wp2_with fail
  refine HS.mono ?_
  rintro e w2 ⟨rfl,F2⟩
  have H2:=oH F2
  clear F2 HS
  go_wp2_with fail
  go_ret
  obtain⟨F,hr,X,hov⟩:=H.out
  exact Tl.mk_bad hov hr (F.on0 H2.out) (X.up H2.out)
end Go.Proofs.YtepfknfadpkigaaGreat
end
