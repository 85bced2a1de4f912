/- Several texts in one. -/
import Derived.Test.YtepfknfadpkigaaGreatPkAA
import Derived.Test.YtepfknfadpkigaaGreatPkBM
import Derived.Test.YtepfknfadpkigaaGreatPkAW
set_option linter.unusedVariables false
set_option linter.unusedSimpArgs false
section
namespace Go.Proofs.YtepfknfadpkigaaGreat
open Go.RowKit
set_option maxHeartbeats 4000000
set_option maxRecDepth 100000
theorem zSx {ts:List TK} {s:List UInt8} {r:ReL} {l':List DT} {j':Nat} (h:Go.Proofs.YtepfknfadpkigaaGreat.needS ts s r=.ok l' j'):∃j,r=.ok l' j∧j'=j+1∧j < ts.length:=by
 cases r with
 | out=>cases h
 | bad k=>cases h
 | ok l j =>
  have h:(if isS (tk ts j) s=true then ReL.ok l (j+1) else .bad j)=.ok l' j':=h
  split at h
  ·rename_i hs
   injection h with h1 h2
   exact⟨j,by rw [h1],h2.symm,zAm hs⟩
  ·cases h
theorem qDf {ts:List TK} {B:Nat→Re} (hBm:∀i d j,i≤ts.length→B i=.ok d j→i≤j∧j≤ts.length) {j:Nat} {x:DT} {k:Nat} (h:arT ts B j=.ok x k):j+2≤k∧k≤ts.length:=by
 unfold arT at h
 obtain⟨l,hl⟩:=zOl h
 unfold arR at hl
 obtain⟨l1,j1,y,h1,h2⟩:=zUk hl
 obtain⟨j2,h3,rfl,h4⟩:=zSx h1
 obtain⟨z,h5⟩:=zJn h3
 have h6:=zPn ts _ _ _ h5
 have h7:=hBm _ _ _ (show j2+1≤ts.length from h4) h2
 omega
theorem SN.to {c:Rc} {w0:World} {d:ND} {p:Nat} {l:List DT} {j k N:Nat} {w w':World} {v:Value} {n:Nat} {xs:List Value} (h:SN c w0 d p (.ok l j) N w v n xs) (hR:c.R < w0.heap.size) (F:Fr [c.R] w w') (X:RF c w' k false):SN c w0 d p (.ok l k) N w' v n xs :=
 h.fr2 hR F (by
  rcases h.st with⟨l2,j2,us,h1,h2,h3,h4,h5⟩ | ⟨j2,h1,_⟩
  ·injection h1 with h1 _
   exact .inl ⟨l,k,us,rfl,X,h3,by rw [h4,h1],h5⟩
  ·cases h1)
theorem SN.two {c:Rc} {w0:World} {d:ND} {p:Nat} {r:ReL} {N:Nat} {w:World} {v:Value} {n:Nat} {xs:List Value} (h:SN c w0 d p r N w v n xs):(∃l j,r=.ok l j∧RF c w j false)∨∃j,r=.bad j∧RF c w j true:=by
 rcases h.st with⟨l,j,us,h1,h2,_⟩ | h
 ·exact .inl ⟨l,j,h1,h2⟩
 ·exact .inr h
theorem SN.same {c:Rc} {w0:World} {d:ND} {p:Nat} {r r':ReL} {N:Nat} {w:World} {v:Value} {n:Nat} {xs:List Value} (h:SN c w0 d p r N w v n xs) (e:r=r'):SN c w0 d p r' N w v n xs:=by subst e;exact h
theorem zSy (c:Rc) (hS:Scd c.ts) (B:Nat→Re) (hB:CF c 18 B) (hBm:∀i d j,i≤c.ts.length→B i=.ok d j→i≤j∧j≤c.ts.length):CasP c B:=by
 intro w i t px py e1 h hil RES hRES hne
 obtain⟨i0,hi,hz0,hz1,hz2⟩:=info_parts infoP
 have hfd:=zBb
 have HX:=oH (oA h e1)
 have HCR:Hid (c.R < w.heap.size):=oH h.lt
 have HEE:=oH (zBn c hS)
 have HLL:=oH (show CG c 97 (L0 c.ts) from zSm c (E0 c.ts) (zAr _) (zBl c hS _))
 have HBB:=oH hB
 have hpre:needM c.ts [79,70] (kid (E0 c.ts) (.ok [] (i+1)))≠.out:=fun e=>hne (by rw [hRES,e];rfl)
 have HO1:Hid (kid (E0 c.ts) (.ok [] (i+1))≠.out):=oH (zBp hpre)
 have HQ:=oH (oA hRES (oA hne (oA hBm hil)))
 clear h e1 hB hBm hRES hne hS hpre hil
 go_enter Tryz.func64,Tryz.ntmps64
 have HDN:=dnode w 63 63 rfl t px py HX.out.2
 go_wp2_with fail
 refine HDN.mono ?_
 rintro e wn ⟨rfl,hwn⟩
 have HS0:Hid (SN c w (nd 63 t [] 0) w.heap.size (.ok [] (i+1)) 0 wn (.slice none 0 0) 0 []):=oH (by rw [hwn];exact SN.new _ HX.out.1)
 clear hwn HDN
 obtain⟨p,hp⟩:∃p,w.heap.size=p:=⟨_,rfl⟩
 try rw [hp]
 have HS0':Hid (∃v n xs,v=Value.slice none 0 0∧SN c w (nd 63 t [] 0) p (.ok [] (i+1)) 0 wn v n xs):=oH ⟨_,_,_,rfl,by rw [← hp];exact HS0.out⟩
 clear HS0
 obtain⟨v0,n0,xs0,hv0,hs0⟩:=HS0'.out
 have HA0:=oH hs0
 clear HS0' hs0 hv0
 obtain⟨j0,b0,X0,hst0⟩:=HA0.out.rf
 have HNE0:b0=false→(E0 c.ts) j0≠.out:=fun hb=>by
  rcases hst0 with⟨_,l,us,hr,_⟩ | ⟨hb2,_⟩
  ·exact zBm HO1.out hr
  ·rw [hb] at hb2;cases hb2
 have HR0:∀w1,Fr [] wn w1→Calls Tryz.prog 65 #[.pointer (some ⟨c.R,0,none⟩)] w1 fun e w'=>∃o a,encP o=.pointer a∧e=.returned (.pointer a)∧Fr [c.R] wn w'∧(b0=false→Itm c ((E0 c.ts)) j0 wn w' o)∧(b0=true→RF c w' j0 true):=fun w1 F1=>by
  refine( HEE.out w1 j0 b0 (X0.keep F1)  HNE0).mono ?_
  rintro e w' ⟨o,a,h1,h2,h3,h4,h5⟩
  exact⟨o,a,h1,h2,F1.up0.on h3,fun hb=>(h4 hb).low F1.size,h5⟩
 have HSS0:∀w':World,Fr [c.R] wn w'→(w'.cell? ⟨p,4,none⟩=some v0∧w'.frozen? ⟨p,4,none⟩=false):=fun w' F=>by
  have e3:=(F.block p (zAd HA0.out.nd) (by have:=HA0.out.hp;have:=HCR.out;simp;omega)).trans HA0.out.nd
  exact⟨(NodeAt.mk e3).c4,(NodeAt.mk e3).f 4⟩
 have HST0:=oH hst0
 have y4:=(HSS0 wn (Fr.refl _ _)).1
 have hrow0:∀w',Fr [c.R] wn w'→w'.ownsRow 0 26 1 v0 n0 xs0:=fun w' F=>zAf HA0.out.row F (fun q hq hm=>by
  have h1:=HA0.out.far q hq
  have h2:q=c.R:=by simpa using hm
  have:=HCR.out
  omega)
 have hnb0:=HA0.out.hn
 clear X0 HNE0 hst0
 go_wp2_with fail
 refine zAp 13 (S:=fun w'=>w'.cell? ⟨p,4,none⟩=some v0) (by kernel_rfl) ?_ (fun hHeld=>?_)
 ·exact(HSS0 _ (Fr.drew wn).up0).1
 refine aT 14 0 ?_
 refine aT 14 1 ?_
 refine aT 14 2 ?_
 refine aT 14 3 ?_
 refine aT 14 4 ?_
 refine aT 14 5 ?_
 refine aT 14 6 ?_
 refine aT 14 7 ?_
 refine zAa (rs:=[8]) (by kernel_rfl) (by simp) ?_
 refine AllL.cons rfl (fun K hK=>?_) ?_
 rotate_left
 ·exact AllL.nil
 go_simp
 refine(HR0 _ (Fr.drew wn)).mono ?_
 rintro e wb0 ⟨o0,a0,ha0,rfl,FB0,hi0,hb0⟩
 have H9:=(HSS0 wb0 FB0).1
 clear HR0
 go_wp2_with fail
 refine hK.out _ _ (H9) (fun hHeld=>?_)
 clear hK K
 try simp only[Act.put,oB,oC,oD,oE,oF,oG]
 refine zAa (rs:=[9]) (by kernel_rfl) (by simp) ?_
 refine AllL.cons rfl (fun K hK=>?_) ?_
 rotate_left
 ·exact AllL.nil
 go_simp
 have H9:=(HSS0 _ (FB0.on0 (Fr.alloc wb0 (.cells #[.pointer a0] 26)))).1
 refine hK.out _ _ (H9) (fun hHeld=>?_)
 clear hK K
 try simp only[Act.put,oB,oC,oD,oE,oF,oG]
 refine zAa (rs:=[10]) (by kernel_rfl) (by simp) ?_
 refine AllL.cons rfl (fun K hK=>?_) ?_
 rotate_left
 ·exact AllL.nil
 refine step_append_lies _ (by rfl) _ _ 38 (by rfl) 0 26 i0 _ 1 8 Tryz.underlying38 hi hz0 hz1 hz2 (by rfl) (by omega) v0 n0 _ (by rfl) ((hrow0 _ FB0).alloc _) ⟨wb0.heap.size,0,none⟩ 1 1 [.pointer a0] (by rfl) (by rfl) (new1 wb0 (.pointer a0) 26) (fun u hu=>(by simp at hu;subst hu;rfl)) (by omega) (by unfold maxLen;omega) (by omega) (Nat.zero_le _) (wb0.heap.size+1) (by simp) ?_
 intro g0 cap0 wd0 hown hgrow hat hlt
 have HE0:=oH (HA0.out.app HCR.out HST0.out ha0 FB0 hi0 hb0 hown hgrow hat)
 have H9:wd0.cell? ⟨p,4,none⟩=some v0∧wd0.frozen? ⟨p,4,none⟩=false:=by
  have n2:=(FB0.block p (zAd HA0.out.nd) (by have:=HA0.out.hp;have:=HCR.out;simp;omega)).trans HA0.out.nd
  have F12:Fr (obL v0) wb0 wd0:=((Fr.alloc wb0 _).up0).on (Fr.of_grown hgrow)
  have n6:=(F12.block p (zAd n2) (fun hm=>zAi HA0.out.row HA0.out.nd hm)).trans n2
  exact⟨(NodeAt.mk n6).c4,(NodeAt.mk n6).f 4⟩
 obtain⟨H9,f9⟩:=H9
 clear hown hgrow hat hlt hi0 hb0 FB0 HST0 hrow0 HSS0 y4 ha0
 refine hK.out _ _ (H9) (fun hHeld=>?_)
 clear hK K
 try simp only[Act.put,oB,oC,oD,oE,oF,oG]
 refine aT 14 11 ?_
 refine aT 14 12 ?_
 refine zAa (rs:=[13]) (by kernel_rfl) (by simp) ?_
 refine AllL.last rfl (by kernel_rfl) (fun K hK=>?_) ?_
 rotate_left
 ·exact AllL.nil
 go_simp
 refine hK.out _ _ ?_
 clear hK K
 try simp only[Act.put,oB,oC,oD,oE,oF,oG]
 refine zAl (by kernel_rfl) ?_ _
 obtain⟨wa0,hwa0⟩:∃wa,wd0.setCell ⟨p,4,none⟩ (.slice (some ⟨g0,0,none⟩) (n0+1) cap0)=wa:=⟨_,rfl⟩
 rw [hwa0] at HE0
 try rw [hwa0]
 clear H9 f9 hwa0
 obtain⟨v1,hv1⟩:∃v,Value.slice (some ⟨g0,0,none⟩) (n0+1) cap0=v:=⟨_,rfl⟩
 obtain⟨n1,hn1⟩:∃n,n0+1=n:=⟨_,rfl⟩
 obtain⟨xs1,hx1⟩:∃x,xs0++[Value.pointer a0]=x:=⟨_,rfl⟩
 rw [hn1] at hv1 HE0
 rw [hv1,hx1] at HE0
 clear hv1 hn1 hx1
 have HND1:=HE0.out.need HCR.out [79,70]
 go_wp2_with fail
 refine HND1.mono ?_
 rintro e wm1 ⟨rfl,FN1,hs⟩
 have HN1:=oH hs
 clear hs FN1 HND1
 obtain⟨v2,n2,xs2,he1,he2,he3⟩:∃v n xs,v1=v∧n1=n∧xs1=xs:=⟨_,_,_,rfl,rfl,rfl⟩
 rw [he1,he2,he3] at HN1
 clear he1 he2 he3
 have HL:Hid (∃r N v n xs m,SN c w (nd 63 t [] 0) p r N wm1 v n xs∧N≤16386∧(∀l j,r=.ok l j→N≤j∧j≤c.ts.length)∧RES=r.bnd (caG c.ts B m)):=oH ⟨_,_,_,_,_,c.ts.length+1,HN1.out,by omega,fun l j hr=>by
  obtain⟨j2,_,h2,h3⟩:=zQl hr
  omega,HQ.out.1⟩
 clear HN1 HE0 HA0
 go_wp2_with fail
 go_loopw [] (fun wr=>∃r N v n xs m,SN c w (nd 63 t [] 0) p r N wr v n xs∧N≤16386∧(∀l j,r=.ok l j→N≤j∧j≤c.ts.length)∧RES=r.bnd (caG c.ts B m)) (fun wr=>rfM c.R wr)
 case atStart=>exact HL.out
 case round =>
  clear HL
  obtain⟨r,N,v0,n0,xs0,m,hsn,hN,hNj,hres⟩:=hrel
  have HS:=oH hsn
  have HNN:=oH (oA hN (oA hNj hres))
  clear hN hNj hres
  rcases hsn.two with⟨l,j,hr,X⟩ | ⟨j,hr,X⟩
  ·have HRR:=oH (oA hr X)
   have c2:=X.c2
   clear hr X hsn
   cases hs:isS (tk c.ts j) [124]
   ·cases he:isW (tk c.ts j) [69,76,83,69]
    ·cases hd:isW (tk c.ts j) [69,78,68]
     ·obtain⟨m,rfl⟩:∃m',m=m'+1:=by
       cases m with
       | succ m=>exact⟨m,rfl⟩
       | zero =>
        refine absurd ?_ HQ.out.2.1
        rw [HNN.out.2.2,HRR.out.1]
        rfl
      have HST:Hid (RES=(kid (arT c.ts B) (.ok l j)).bnd fun l k=>if isS (tk c.ts k) [124]=true then caG c.ts B m l (k+1) else caE c.ts B l k):=oH (by rw [HNN.out.2.2,HRR.out.1];exact qBg hs he hd m)
      have HPRE:Hid (kid (arT c.ts B) (.ok l j)≠.out):=oH (fun e=>HQ.out.2.1 (by rw [HST.out,e];rfl))
      have HAO:Hid (arR c.ts B j≠.out):=oH (fun e=>zBm HPRE.out rfl (by unfold arT;rw [e];rfl))
      have HOL:Hid (kid (L0 c.ts) (.ok [] j)≠.out):=oH (zQk (zDi HAO.out))
      have FQ:Hid (Fr [] wr wr):=oH (Fr.refl _ _)
      have HT:=zAs c wr j false [124] (HRR.out.2.keep FQ.out)
      rw [hs] at HT
      simp only [Bool.not_false,Bool.true_and,pt] at HT
      go_wp2_with fail
      refine HT.mono ?_
      rintro e y0 ⟨rfl,F1⟩
      have FG:=oH (FQ.out.on F1)
      clear F1 HT FQ
      have FQ:=FG
      clear FG
      have HT:=zAy c y0 j false [69,76,83,69] (HRR.out.2.keep FQ.out)
      rw [he] at HT
      simp only [Bool.not_false,Bool.true_and,pt] at HT
      go_wp2_with fail
      refine HT.mono ?_
      rintro e y1 ⟨rfl,F1⟩
      have FG:=oH (FQ.out.on F1)
      clear F1 HT FQ
      have FQ:=FG
      clear FG
      have HT:=zAy c y1 j false [69,78,68] (HRR.out.2.keep FQ.out)
      rw [hd] at HT
      simp only [Bool.not_false,Bool.true_and,pt] at HT
      go_wp2_with fail
      refine HT.mono ?_
      rintro e y2 ⟨rfl,F1⟩
      have FG:=oH (FQ.out.on F1)
      clear F1 HT FQ
      have FQ:=FG
      clear FG
      clear hs he hd
      obtain⟨qx,qy,f1⟩:=zAc (tk c.ts j).2.1.1 (tk c.ts j).2.1.2
      obtain⟨gx,gy,f2⟩:=zAc (tk c.ts j).2.2.1 (tk c.ts j).2.2.2
      have HNW:=zAo c y2 j false (HRR.out.2.keep FQ.out) qx qy gx gy f1 f2
      have HPE:=oH f1
      clear f1 f2
      generalize ((tk c.ts j).1.k:Int)=s0 at *
      generalize (⟨(tk c.ts j).1.x.toArray⟩:ByteArray)=s3 at *
      generalize (tk c.ts j).1.n=s4 at *
      go_wp2_with fail
      refine HNW.mono ?_
      rintro e wA ⟨rfl,F0⟩
      have HSe:=oH ((HS.out.same HRR.out.1).keep HCR.out (FQ.out.on F0))
      have HXe:=oH (HRR.out.2.keep (FQ.out.on F0))
      have HCR2:Hid (c.R < wA.heap.size):=oH HXe.out.lt
      have hNb:=HNN.out.1
      clear F0 HNW FQ HS c2
      have HDN:=dnode wA 28 28 rfl (tk c.ts j) qx qy HPE.out
      go_wp2_with fail
      refine HDN.mono ?_
      rintro e wn2 ⟨rfl,hwn⟩
      have HS0:Hid (SN c wA (nd 28 (tk c.ts j) [] 0) wA.heap.size (.ok [] j) 0 wn2 (.slice none 0 0) 0 []):=oH (by rw [hwn];exact SN.new _ HXe.out)
      clear hwn HDN
      obtain⟨p2,hp2⟩:∃p,wA.heap.size=p:=⟨_,rfl⟩
      try rw [hp2]
      have HS0':Hid (∃v n xs,v=Value.slice none 0 0∧SN c wA (nd 28 (tk c.ts j) [] 0) p2 (.ok [] j) 0 wn2 v n xs):=oH ⟨_,_,_,rfl,by rw [← hp2];exact HS0.out⟩
      have HP2:=oH hp2
      clear HS0 hp2
      obtain⟨v4,n4,xs4,hv4,hs4⟩:=HS0'.out
      have HA4:=oH hs4
      clear HS0' hs4 hv4
      obtain⟨j4,b4,X4,hst4⟩:=HA4.out.rf
      have HNE4:b4=false→(L0 c.ts) j4≠.out:=fun hb=>by
       rcases hst4 with⟨_,l,us,hr,_⟩ | ⟨hb2,_⟩
       ·exact zBm HOL.out hr
       ·rw [hb] at hb2;cases hb2
      have hgd4:b4=false:=by
       rcases hst4 with⟨h,_⟩ | ⟨_,h⟩
       ·exact h
       ·cases h
      have HR4:∀w1,Fr [] wn2 w1→Calls Tryz.prog 97 #[.pointer (some ⟨c.R,0,none⟩)] w1 fun e w'=>∃o a,encP o=.pointer a∧e=.returned (.pointer a)∧Fr [c.R] wn2 w'∧(b4=false→Itm c ((L0 c.ts)) j4 wn2 w' o)∧(b4=true→RF c w' j4 true):=fun w1 F1=>by
       refine(zUj HLL.out w1 j4 b4 (X4.keep F1) hgd4 HNE4).mono ?_
       rintro e w' ⟨o,a,h1,h2,h3,h4,h5⟩
       exact⟨o,a,h1,h2,F1.up0.on h3,fun hb=>(h4 hb).low F1.size,h5⟩
      have HSS4:∀w':World,Fr [c.R] wn2 w'→(w'.cell? ⟨p2,4,none⟩=some v4∧w'.frozen? ⟨p2,4,none⟩=false):=fun w' F=>by
       have e3:=(F.block p2 (zAd HA4.out.nd) (by have:=HA4.out.hp;have:=HCR2.out;simp;omega)).trans HA4.out.nd
       exact⟨(NodeAt.mk e3).c4,(NodeAt.mk e3).f 4⟩
      have HST4:=oH hst4
      have y4:=(HSS4 wn2 (Fr.refl _ _)).1
      have hrow4:∀w',Fr [c.R] wn2 w'→w'.ownsRow 0 26 1 v4 n4 xs4:=fun w' F=>zAf HA4.out.row F (fun q hq hm=>by
       have h1:=HA4.out.far q hq
       have h2:q=c.R:=by simpa using hm
       have:=HCR2.out
       omega)
      have hnb4:=HA4.out.hn
      clear X4 HNE4 hst4
      go_wp2_with fail
      refine zAp 13 (S:=fun w'=>w'.cell? ⟨p2,4,none⟩=some v4) (by kernel_rfl) ?_ (fun hHeld=>?_)
      ·exact(HSS4 _ (Fr.drew wn2).up0).1
      refine aT 14 0 ?_
      refine aT 14 1 ?_
      refine aT 14 2 ?_
      refine aT 14 3 ?_
      refine aT 14 4 ?_
      refine aT 14 5 ?_
      refine aT 14 6 ?_
      refine aT 14 7 ?_
      refine zAa (rs:=[8]) (by kernel_rfl) (by simp) ?_
      refine AllL.cons rfl (fun K hK=>?_) ?_
      rotate_left
      ·exact AllL.nil
      go_simp
      refine(HR4 _ (Fr.drew wn2)).mono ?_
      rintro e wb4 ⟨o4,a4,ha4,rfl,FB4,hi4,hb4⟩
      have H9:=(HSS4 wb4 FB4).1
      clear HR4
      go_wp2_with fail
      refine hK.out _ _ (H9) (fun hHeld=>?_)
      clear hK K
      try simp only[Act.put,oB,oC,oD,oE,oF,oG]
      refine zAa (rs:=[9]) (by kernel_rfl) (by simp) ?_
      refine AllL.cons rfl (fun K hK=>?_) ?_
      rotate_left
      ·exact AllL.nil
      go_simp
      have H9:=(HSS4 _ (FB4.on0 (Fr.alloc wb4 (.cells #[.pointer a4] 26)))).1
      refine hK.out _ _ (H9) (fun hHeld=>?_)
      clear hK K
      try simp only[Act.put,oB,oC,oD,oE,oF,oG]
      refine zAa (rs:=[10]) (by kernel_rfl) (by simp) ?_
      refine AllL.cons rfl (fun K hK=>?_) ?_
      rotate_left
      ·exact AllL.nil
      refine step_append_lies _ (by rfl) _ _ 38 (by rfl) 0 26 i0 _ 1 8 Tryz.underlying38 hi hz0 hz1 hz2 (by rfl) (by omega) v4 n4 _ (by rfl) ((hrow4 _ FB4).alloc _) ⟨wb4.heap.size,0,none⟩ 1 1 [.pointer a4] (by rfl) (by rfl) (new1 wb4 (.pointer a4) 26) (fun u hu=>(by simp at hu;subst hu;rfl)) (by omega) (by unfold maxLen;omega) (by omega) (Nat.zero_le _) (wb4.heap.size+1) (by simp) ?_
      intro g4 cap4 wd4 hown hgrow hat hlt
      have HE4:=oH (HA4.out.app HCR2.out HST4.out ha4 FB4 hi4 hb4 hown hgrow hat)
      have H9:wd4.cell? ⟨p2,4,none⟩=some v4∧wd4.frozen? ⟨p2,4,none⟩=false:=by
       have n2:=(FB4.block p2 (zAd HA4.out.nd) (by have:=HA4.out.hp;have:=HCR2.out;simp;omega)).trans HA4.out.nd
       have F12:Fr (obL v4) wb4 wd4:=((Fr.alloc wb4 _).up0).on (Fr.of_grown hgrow)
       have n6:=(F12.block p2 (zAd n2) (fun hm=>zAi HA4.out.row HA4.out.nd hm)).trans n2
       exact⟨(NodeAt.mk n6).c4,(NodeAt.mk n6).f 4⟩
      obtain⟨H9,f9⟩:=H9
      clear hown hgrow hat hlt hi4 hb4 FB4 HST4 hrow4 HSS4 y4 ha4
      refine hK.out _ _ (H9) (fun hHeld=>?_)
      clear hK K
      try simp only[Act.put,oB,oC,oD,oE,oF,oG]
      refine aT 14 11 ?_
      refine aT 14 12 ?_
      refine zAa (rs:=[13]) (by kernel_rfl) (by simp) ?_
      refine AllL.last rfl (by kernel_rfl) (fun K hK=>?_) ?_
      rotate_left
      ·exact AllL.nil
      go_simp
      refine hK.out _ _ ?_
      clear hK K
      try simp only[Act.put,oB,oC,oD,oE,oF,oG]
      refine zAl (by kernel_rfl) ?_ _
      obtain⟨wa4,hwa4⟩:∃wa,wd4.setCell ⟨p2,4,none⟩ (.slice (some ⟨g4,0,none⟩) (n4+1) cap4)=wa:=⟨_,rfl⟩
      rw [hwa4] at HE4
      try rw [hwa4]
      clear H9 f9 hwa4
      obtain⟨v5,hv5⟩:∃v,Value.slice (some ⟨g4,0,none⟩) (n4+1) cap4=v:=⟨_,rfl⟩
      obtain⟨n5,hn5⟩:∃n,n4+1=n:=⟨_,rfl⟩
      obtain⟨xs5,hx5⟩:∃x,xs4++[Value.pointer a4]=x:=⟨_,rfl⟩
      rw [hn5] at hv5 HE4
      rw [hv5,hx5] at HE4
      clear hv5 hn5 hx5 HA4
      have HND5:=HE4.out.needS HCR2.out [58]
      go_wp2_with fail
      refine HND5.mono ?_
      rintro e wm5 ⟨rfl,FN5,hs⟩
      have HN5:=oH hs
      clear hs FN5 HND5 HE4
      obtain⟨j5,b5,X5,hst5⟩:=HN5.out.rf
      have HNE5:b5=false→B j5≠.out:=fun hb=>by
       rcases hst5 with⟨_,l,us,hr,_⟩ | ⟨hb2,_⟩
       ·exact zBm HAO.out hr
       ·rw [hb] at hb2;cases hb2
      have HR5:∀w1,Fr [] wm5 w1→Calls Tryz.prog 18 #[.pointer (some ⟨c.R,0,none⟩)] w1 fun e w'=>∃o a,encP o=.pointer a∧e=.returned (.pointer a)∧Fr [c.R] wm5 w'∧(b5=false→Itm c (B) j5 wm5 w' o)∧(b5=true→RF c w' j5 true):=fun w1 F1=>by
       refine( HBB.out w1 j5 b5 (X5.keep F1)  HNE5).mono ?_
       rintro e w' ⟨o,a,h1,h2,h3,h4,h5⟩
       exact⟨o,a,h1,h2,F1.up0.on h3,fun hb=>(h4 hb).low F1.size,h5⟩
      have HSS5:∀w':World,Fr [c.R] wm5 w'→(w'.cell? ⟨p2,4,none⟩=some v5∧w'.frozen? ⟨p2,4,none⟩=false):=fun w' F=>by
       have e3:=(F.block p2 (zAd HN5.out.nd) (by have:=HN5.out.hp;have:=HCR2.out;simp;omega)).trans HN5.out.nd
       exact⟨(NodeAt.mk e3).c4,(NodeAt.mk e3).f 4⟩
      have HST5:=oH hst5
      have y4:=(HSS5 wm5 (Fr.refl _ _)).1
      have hrow5:∀w',Fr [c.R] wm5 w'→w'.ownsRow 0 26 1 v5 n5 xs5:=fun w' F=>zAf HN5.out.row F (fun q hq hm=>by
       have h1:=HN5.out.far q hq
       have h2:q=c.R:=by simpa using hm
       have:=HCR2.out
       omega)
      have hnb5:=HN5.out.hn
      clear X5 HNE5 hst5
      go_wp2_with fail
      refine zAp 11 (S:=fun w'=>w'.cell? ⟨p2,4,none⟩=some v5) (by kernel_rfl) ?_ (fun hHeld=>?_)
      ·exact(HSS5 _ (Fr.drew wm5).up0).1
      refine aT 14 0 ?_
      refine aT 14 1 ?_
      refine aT 14 2 ?_
      refine aT 14 3 ?_
      refine aT 14 4 ?_
      refine aT 14 5 ?_
      refine zAa (rs:=[6]) (by kernel_rfl) (by simp) ?_
      refine AllL.cons rfl (fun K hK=>?_) ?_
      rotate_left
      ·exact AllL.nil
      go_simp
      refine(HR5 _ (Fr.drew wm5)).mono ?_
      rintro e wb5 ⟨o5,a5,ha5,rfl,FB5,hi5,hb5⟩
      have H9:=(HSS5 wb5 FB5).1
      clear HR5
      go_wp2_with fail
      refine hK.out _ _ (H9) (fun hHeld=>?_)
      clear hK K
      try simp only[Act.put,oB,oC,oD,oE,oF,oG]
      refine zAa (rs:=[7]) (by kernel_rfl) (by simp) ?_
      refine AllL.cons rfl (fun K hK=>?_) ?_
      rotate_left
      ·exact AllL.nil
      go_simp
      have H9:=(HSS5 _ (FB5.on0 (Fr.alloc wb5 (.cells #[.pointer a5] 26)))).1
      refine hK.out _ _ (H9) (fun hHeld=>?_)
      clear hK K
      try simp only[Act.put,oB,oC,oD,oE,oF,oG]
      refine zAa (rs:=[8]) (by kernel_rfl) (by simp) ?_
      refine AllL.cons rfl (fun K hK=>?_) ?_
      rotate_left
      ·exact AllL.nil
      refine step_append_lies _ (by rfl) _ _ 38 (by rfl) 0 26 i0 _ 1 8 Tryz.underlying38 hi hz0 hz1 hz2 (by rfl) (by omega) v5 n5 _ (by rfl) ((hrow5 _ FB5).alloc _) ⟨wb5.heap.size,0,none⟩ 1 1 [.pointer a5] (by rfl) (by rfl) (new1 wb5 (.pointer a5) 26) (fun u hu=>(by simp at hu;subst hu;rfl)) (by omega) (by unfold maxLen;omega) (by omega) (Nat.zero_le _) (wb5.heap.size+1) (by simp) ?_
      intro g5 cap5 wd5 hown hgrow hat hlt
      have HE5:=oH (HN5.out.app HCR2.out HST5.out ha5 FB5 hi5 hb5 hown hgrow hat)
      have H9:wd5.cell? ⟨p2,4,none⟩=some v5∧wd5.frozen? ⟨p2,4,none⟩=false:=by
       have n2:=(FB5.block p2 (zAd HN5.out.nd) (by have:=HN5.out.hp;have:=HCR2.out;simp;omega)).trans HN5.out.nd
       have F12:Fr (obL v5) wb5 wd5:=((Fr.alloc wb5 _).up0).on (Fr.of_grown hgrow)
       have n6:=(F12.block p2 (zAd n2) (fun hm=>zAi HN5.out.row HN5.out.nd hm)).trans n2
       exact⟨(NodeAt.mk n6).c4,(NodeAt.mk n6).f 4⟩
      obtain⟨H9,f9⟩:=H9
      clear hown hgrow hat hlt hi5 hb5 FB5 HST5 hrow5 HSS5 y4 ha5
      refine hK.out _ _ (H9) (fun hHeld=>?_)
      clear hK K
      try simp only[Act.put,oB,oC,oD,oE,oF,oG]
      refine aT 14 9 ?_
      refine aT 14 10 ?_
      refine zAa (rs:=[11]) (by kernel_rfl) (by simp) ?_
      refine AllL.last rfl (by kernel_rfl) (fun K hK=>?_) ?_
      rotate_left
      ·exact AllL.nil
      go_simp
      refine hK.out _ _ ?_
      clear hK K
      try simp only[Act.put,oB,oC,oD,oE,oF,oG]
      refine zAl (by kernel_rfl) ?_ _
      obtain⟨wa5,hwa5⟩:∃wa,wd5.setCell ⟨p2,4,none⟩ (.slice (some ⟨g5,0,none⟩) (n5+1) cap5)=wa:=⟨_,rfl⟩
      rw [hwa5] at HE5
      try rw [hwa5]
      clear H9 f9 hwa5
      have HTL:=HE5.out.tl (res:=arT c.ts B j) rfl
      obtain⟨o5,ho5,F5,hi5⟩:=HTL
      injection ho5 with ho5
      have HIT:Hid (Itm c (arT c.ts B) j wA wa5 o5):=oH hi5
      have HF5:=oH F5
      have HO5:=oH ho5
      clear hi5 F5 ho5 HE5 HN5
      have hsr:=(zAf HSe.out.row HF5.out (fun q hq hm=>by
       have h1:=HSe.out.far q hq
       have h2:q=c.R:=by simpa using hm
       have:=HCR.out
       omega)).alloc (.cells #[Value.pointer (some ⟨p2,0,none⟩)] 26)
      have hnb:=HSe.out.hn
      have hnd:=(HF5.out.block p (zAd HSe.out.nd) (by have:=HSe.out.hp;have:=HCR.out;simp;omega)).trans HSe.out.nd
      have y4:=(NodeAt.mk hnd).c4
      have HN1:=oH (new1 wa5 (Value.pointer (some ⟨p2,0,none⟩)) 26)
      have HO1:Hid (∀z ∈ [Value.pointer (some ⟨p2,0,none⟩)],z.oneCell'=true):=oH (fun z hz=>by simp at hz;subst hz;rfl)
      have HND:=oH hnd
      clear hnd
      go_wp2_with (at_builtin;refine wpList_append_lies _ rfl _ _ 38 rfl 0 26 i0 _ 1 8 Tryz.underlying38 hi hz0 hz1 hz2 rfl (by decide) v0 n0 _ rfl hsr ⟨wa5.heap.size,0,none⟩ 1 1 [Value.pointer (some ⟨p2,0,none⟩)] rfl rfl HN1.out HO1.out (by decide) (by unfold maxLen;omega) (by omega) (by simp <;> omega) (wa5.heap.size+1) (by simp) ?_)
      intro g0 cap0 wd0 hown hgrow hat hlt
      have HE0:=oH (HSe.out.app HCR.out (M:=arT c.ts B) (j:=j) (b:=false) (by
       rcases HSe.out.st with⟨l2,j2,us,h1,h2,h3,h4,h5⟩ | ⟨j2,h1,_⟩
       ·injection h1 with h1 _
        exact .inl ⟨rfl,l,us,rfl,h3,by rw [h4,h1],h5⟩
       ·cases h1) HO5.out.symm HF5.out (fun _=>HIT.out) (fun hf=>(by cases hf)) hown hgrow hat)
      have H9:wd0.cell? ⟨p,4,none⟩=some v0∧wd0.frozen? ⟨p,4,none⟩=false:=by
       have F12:Fr (obL v0) wa5 wd0:=((Fr.alloc wa5 _).up0).on (Fr.of_grown hgrow)
       have n6:=(F12.block p (zAd HND.out) (fun hm=>zAi HSe.out.row HSe.out.nd hm)).trans HND.out
       exact⟨(NodeAt.mk n6).c4,(NodeAt.mk n6).f 4⟩
      obtain⟨H9,f9⟩:=H9
      clear hown hgrow hat hlt hsr HN1 HO1 y4 HND
      go_upto_region 11 with fail
      obtain⟨wa0,hwa0⟩:∃wa,wd0.setCell ⟨p,4,none⟩ (.slice (some ⟨g0,0,none⟩) (n0+1) cap0)=wa:=⟨_,rfl⟩
      rw [hwa0] at HE0
      try rw [hwa0]
      clear H9 f9 hwa0
      obtain⟨vz,hvz⟩:∃v,Value.slice (some ⟨g0,0,none⟩) (n0+1) cap0=v:=⟨_,rfl⟩
      obtain⟨nz,hnz⟩:∃n,n0+1=n:=⟨_,rfl⟩
      obtain⟨xz,hxz⟩:∃x,xs0++[Value.pointer (some ⟨p2,0,none⟩)]=x:=⟨_,rfl⟩
      rw [hnz] at hvz HE0
      rw [hvz,hxz] at HE0
      clear hvz hnz hxz
      have HNB:=oH (HNN.out.2.1 l j HRR.out.1)
      have HJR:=oH HRR.out.2
      obtain⟨r2,hr2⟩:∃z,kid (arT c.ts B) (.ok l j)=z:=⟨_,rfl⟩
      have HR2:Hid (∀l' k,r2=.ok l' k→j+2≤k∧k≤c.ts.length):=oH (fun l' k e=>by
       rw [← hr2] at e
       obtain⟨x,hx⟩:=zJn e
       exact qDf HQ.out.2.2.1 hx)
      rw [hr2] at HST HE0
      clear hr2 HIT HF5 HO5 HSe HXe HRR HNN HPE HPRE HAO HOL
      rcases HE0.out.two with⟨l2,k2,hr,X⟩ | ⟨k2,hr,X⟩
      ·have HX0:=oH X
       have HRK:=oH hr
       have hkb:=HR2.out l2 k2 hr
       clear X hr
       cases hs:isS (tk c.ts k2) [124]
       ·have HK:=zAu c wa0 k2 false [124] HX0.out (by rw [hs];rfl)
        have HFE:Hid (RES=r2.bnd (caE c.ts B)):=oH (by rw [HST.out,HRK.out];show (if isS (tk c.ts k2) [124]=true then _ else _)=_;rw [if_neg (by rw [hs];simp)];rfl)
        simp only [pt] at HK
        clear hs
        go_wp2_with fail
        refine HK.mono ?_
        rintro e wc ⟨rfl,F2⟩
        have HS:=oH (HE0.out.keep HCR.out F2)
        have HOK:Hid (∃l j,r2=.ok l j∧RF c wc j false):=oH ⟨l2,k2,HRK.out,HX0.out.keep F2⟩
        clear F2 HK HE0 HX0 HRK HST hkb HR2 HNB HJR
        obtain⟨v0,n0,xs0,he1,he2,he3⟩:∃v n xs,vz=v∧nz=n∧xz=xs:=⟨_,_,_,rfl,rfl,rfl⟩
        rw [he1,he2,he3] at HS
        have hNb1:N+1≤16387:=by omega
        clear he1 he2 he3 l j
        obtain⟨l,j,hr,X⟩:=HOK.out
        obtain⟨qx,qy,f1⟩:=zAc (tk c.ts j).2.1.1 (tk c.ts j).2.1.2
        obtain⟨gx,gy,f2⟩:=zAc (tk c.ts j).2.2.1 (tk c.ts j).2.2.2
        have HNW:=zAo c wc j false X qx qy gx gy f1 f2
        have HXX:=oH (oA X f1)
        have HSo:=oH (HS.out.same hr)
        have HFC:Hid (RES=caE c.ts B l j):=oH (by rw [HFE.out,hr];rfl)
        clear hr X f1 f2 HOK HS
        generalize ((tk c.ts j).1.k:Int)=s0 at *
        generalize (⟨(tk c.ts j).1.x.toArray⟩:ByteArray)=s3 at *
        generalize (tk c.ts j).1.n=s4 at *
        go_wp2_with fail
        refine HNW.mono ?_
        rintro e wt ⟨rfl,F0⟩
        have HS2:=oH (HSo.out.keep HCR.out F0)
        have HX2:=oH (oA (HXX.out.1.keep F0) HXX.out.2)
        clear F0 HNW HSo HXX
        cases hq:isW (tk c.ts j) [69,76,83,69]
        ·have HK:=zAb c wt j false [69,76,83,69] HX2.out.1 (by rw [hq];rfl)
         have HFIN:Hid (RES=needM c.ts [69,78,68] (.ok l j)):=oH (by rw [HFC.out];exact zQq hq)
         simp only [pt] at HK
         clear hq
         go_wp2_with fail
         refine HK.mono ?_
         rintro e wl ⟨rfl,F1⟩
         have HA0:=oH (HS2.out.keep HCR.out F1)
         clear F1 HK HS2 HX2
         have HND0:=HA0.out.need HCR.out [69,78,68]
         go_wp2_with fail
         refine HND0.mono ?_
         rintro e wm0 ⟨rfl,FN0,hs⟩
         have HN0:=oH hs
         clear hs FN0 HND0
         obtain⟨v1,n1,xs1,he1,he2,he3⟩:∃v n xs,v0=v∧n0=n∧xs0=xs:=⟨_,_,_,rfl,rfl,rfl⟩
         rw [he1,he2,he3] at HN0
         clear he1 he2 he3
         go_wp2_with fail
         go_ret
         exact HN0.out.tl (by rw [HFIN.out])
        ·have HK:=zAz c wt j [69,76,83,69] HX2.out.1 hq
         have HFC2:Hid (RES=needM c.ts [69,78,68] (kid (elT c.ts B j) (.ok l (j+1)))):=oH (by rw [HFC.out];exact zKo hq)
         simp only [pt] at HK
         clear hq
         go_wp2_with fail
         refine HK.mono ?_
         rintro e wl ⟨rfl,F1,X1⟩
         have HSe:=oH (HS2.out.to HCR.out F1 X1)
         have HXe:=oH X1
         have HCR2:Hid (c.R < wl.heap.size):=oH X1.lt
         have HPE:=oH HX2.out.2
         clear F1 X1 HK HS2 HX2
         have HPRE:Hid (kid (elT c.ts B j) (.ok l (j+1))≠.out):=oH (zBp (by rw [← HFC2.out];exact HQ.out.2.1))
         have HOB:Hid (kid B (.ok [] (j+1))≠.out):=oH (fun e=>zBm HPRE.out rfl (by unfold elT;rw [e];rfl))
         have HDN:=dnode wl 30 30 rfl (tk c.ts j) qx qy HPE.out
         go_wp2_with fail
         refine HDN.mono ?_
         rintro e wn2 ⟨rfl,hwn⟩
         have HS0:Hid (SN c wl (nd 30 (tk c.ts j) [] 0) wl.heap.size (.ok [] (j+1)) 0 wn2 (.slice none 0 0) 0 []):=oH (by rw [hwn];exact SN.new _ HXe.out)
         clear hwn HDN
         obtain⟨p2,hp2⟩:∃p,wl.heap.size=p:=⟨_,rfl⟩
         try rw [hp2]
         have HS0':Hid (∃v n xs,v=Value.slice none 0 0∧SN c wl (nd 30 (tk c.ts j) [] 0) p2 (.ok [] (j+1)) 0 wn2 v n xs):=oH ⟨_,_,_,rfl,by rw [← hp2];exact HS0.out⟩
         have HP2:=oH hp2
         clear HS0 hp2
         obtain⟨v4,n4,xs4,hv4,hs4⟩:=HS0'.out
         have HA4:=oH hs4
         clear HS0' hs4 hv4
         obtain⟨j4,b4,X4,hst4⟩:=HA4.out.rf
         have HNE4:b4=false→B j4≠.out:=fun hb=>by
          rcases hst4 with⟨_,l,us,hr,_⟩ | ⟨hb2,_⟩
          ·exact zBm HOB.out hr
          ·rw [hb] at hb2;cases hb2
         have HR4:∀w1,Fr [] wn2 w1→Calls Tryz.prog 18 #[.pointer (some ⟨c.R,0,none⟩)] w1 fun e w'=>∃o a,encP o=.pointer a∧e=.returned (.pointer a)∧Fr [c.R] wn2 w'∧(b4=false→Itm c (B) j4 wn2 w' o)∧(b4=true→RF c w' j4 true):=fun w1 F1=>by
          refine( HBB.out w1 j4 b4 (X4.keep F1)  HNE4).mono ?_
          rintro e w' ⟨o,a,h1,h2,h3,h4,h5⟩
          exact⟨o,a,h1,h2,F1.up0.on h3,fun hb=>(h4 hb).low F1.size,h5⟩
         have HSS4:∀w':World,Fr [c.R] wn2 w'→(w'.cell? ⟨p2,4,none⟩=some v4∧w'.frozen? ⟨p2,4,none⟩=false):=fun w' F=>by
          have e3:=(F.block p2 (zAd HA4.out.nd) (by have:=HA4.out.hp;have:=HCR2.out;simp;omega)).trans HA4.out.nd
          exact⟨(NodeAt.mk e3).c4,(NodeAt.mk e3).f 4⟩
         have HST4:=oH hst4
         have y4:=(HSS4 wn2 (Fr.refl _ _)).1
         have hrow4:∀w',Fr [c.R] wn2 w'→w'.ownsRow 0 26 1 v4 n4 xs4:=fun w' F=>zAf HA4.out.row F (fun q hq hm=>by
          have h1:=HA4.out.far q hq
          have h2:q=c.R:=by simpa using hm
          have:=HCR2.out
          omega)
         have hnb4:=HA4.out.hn
         clear X4 HNE4 hst4
         go_wp2_with fail
         refine zAp 11 (S:=fun w'=>w'.cell? ⟨p2,4,none⟩=some v4) (by kernel_rfl) ?_ (fun hHeld=>?_)
         ·exact(HSS4 _ (Fr.drew wn2).up0).1
         refine aT 14 0 ?_
         refine aT 14 1 ?_
         refine aT 14 2 ?_
         refine aT 14 3 ?_
         refine aT 14 4 ?_
         refine aT 14 5 ?_
         refine zAa (rs:=[6]) (by kernel_rfl) (by simp) ?_
         refine AllL.cons rfl (fun K hK=>?_) ?_
         rotate_left
         ·exact AllL.nil
         go_simp
         refine(HR4 _ (Fr.drew wn2)).mono ?_
         rintro e wb4 ⟨o4,a4,ha4,rfl,FB4,hi4,hb4⟩
         have H9:=(HSS4 wb4 FB4).1
         clear HR4
         go_wp2_with fail
         refine hK.out _ _ (H9) (fun hHeld=>?_)
         clear hK K
         try simp only[Act.put,oB,oC,oD,oE,oF,oG]
         refine zAa (rs:=[7]) (by kernel_rfl) (by simp) ?_
         refine AllL.cons rfl (fun K hK=>?_) ?_
         rotate_left
         ·exact AllL.nil
         go_simp
         have H9:=(HSS4 _ (FB4.on0 (Fr.alloc wb4 (.cells #[.pointer a4] 26)))).1
         refine hK.out _ _ (H9) (fun hHeld=>?_)
         clear hK K
         try simp only[Act.put,oB,oC,oD,oE,oF,oG]
         refine zAa (rs:=[8]) (by kernel_rfl) (by simp) ?_
         refine AllL.cons rfl (fun K hK=>?_) ?_
         rotate_left
         ·exact AllL.nil
         refine step_append_lies _ (by rfl) _ _ 38 (by rfl) 0 26 i0 _ 1 8 Tryz.underlying38 hi hz0 hz1 hz2 (by rfl) (by omega) v4 n4 _ (by rfl) ((hrow4 _ FB4).alloc _) ⟨wb4.heap.size,0,none⟩ 1 1 [.pointer a4] (by rfl) (by rfl) (new1 wb4 (.pointer a4) 26) (fun u hu=>(by simp at hu;subst hu;rfl)) (by omega) (by unfold maxLen;omega) (by omega) (Nat.zero_le _) (wb4.heap.size+1) (by simp) ?_
         intro g4 cap4 wd4 hown hgrow hat hlt
         have HE4:=oH (HA4.out.app HCR2.out HST4.out ha4 FB4 hi4 hb4 hown hgrow hat)
         have H9:wd4.cell? ⟨p2,4,none⟩=some v4∧wd4.frozen? ⟨p2,4,none⟩=false:=by
          have n2:=(FB4.block p2 (zAd HA4.out.nd) (by have:=HA4.out.hp;have:=HCR2.out;simp;omega)).trans HA4.out.nd
          have F12:Fr (obL v4) wb4 wd4:=((Fr.alloc wb4 _).up0).on (Fr.of_grown hgrow)
          have n6:=(F12.block p2 (zAd n2) (fun hm=>zAi HA4.out.row HA4.out.nd hm)).trans n2
          exact⟨(NodeAt.mk n6).c4,(NodeAt.mk n6).f 4⟩
         obtain⟨H9,f9⟩:=H9
         clear hown hgrow hat hlt hi4 hb4 FB4 HST4 hrow4 HSS4 y4 ha4
         refine hK.out _ _ (H9) (fun hHeld=>?_)
         clear hK K
         try simp only[Act.put,oB,oC,oD,oE,oF,oG]
         refine aT 14 9 ?_
         refine aT 14 10 ?_
         refine zAa (rs:=[11]) (by kernel_rfl) (by simp) ?_
         refine AllL.last rfl (by kernel_rfl) (fun K hK=>?_) ?_
         rotate_left
         ·exact AllL.nil
         go_simp
         refine hK.out _ _ ?_
         clear hK K
         try simp only[Act.put,oB,oC,oD,oE,oF,oG]
         refine zAl (by kernel_rfl) ?_ _
         obtain⟨wa4,hwa4⟩:∃wa,wd4.setCell ⟨p2,4,none⟩ (.slice (some ⟨g4,0,none⟩) (n4+1) cap4)=wa:=⟨_,rfl⟩
         rw [hwa4] at HE4
         try rw [hwa4]
         clear H9 f9 hwa4
         have HTL:=HE4.out.tl (res:=elT c.ts B j (j+1)) rfl
         obtain⟨o5,ho5,F5,hi5⟩:=HTL
         injection ho5 with ho5
         have HIT:Hid (Itm c (elT c.ts B j) (j+1) wl wa4 o5):=oH hi5
         have HF5:=oH F5
         have HO5:=oH ho5
         clear hi5 F5 ho5 HE4 HA4
         have hsr:=(zAf HSe.out.row HF5.out (fun q hq hm=>by
          have h1:=HSe.out.far q hq
          have h2:q=c.R:=by simpa using hm
          have:=HCR.out
          omega)).alloc (.cells #[Value.pointer (some ⟨p2,0,none⟩)] 26)
         have hnb:=HSe.out.hn
         have hnd:=(HF5.out.block p (zAd HSe.out.nd) (by have:=HSe.out.hp;have:=HCR.out;simp;omega)).trans HSe.out.nd
         have y4:=(NodeAt.mk hnd).c4
         have HN1:=oH (new1 wa4 (Value.pointer (some ⟨p2,0,none⟩)) 26)
         have HO1:Hid (∀z ∈ [Value.pointer (some ⟨p2,0,none⟩)],z.oneCell'=true):=oH (fun z hz=>by simp at hz;subst hz;rfl)
         have HND:=oH hnd
         clear hnd
         go_wp2_with (at_builtin;refine wpList_append_lies _ rfl _ _ 38 rfl 0 26 i0 _ 1 8 Tryz.underlying38 hi hz0 hz1 hz2 rfl (by decide) v0 n0 _ rfl hsr ⟨wa4.heap.size,0,none⟩ 1 1 [Value.pointer (some ⟨p2,0,none⟩)] rfl rfl HN1.out HO1.out (by decide) (by unfold maxLen;omega) (by omega) (by simp <;> omega) (wa4.heap.size+1) (by simp) ?_)
         intro g0 cap0 wd0 hown hgrow hat hlt
         have HE0:=oH (HSe.out.app HCR.out (M:=elT c.ts B j) (j:=j+1) (b:=false) (by
          rcases HSe.out.st with⟨l2,j2,us,h1,h2,h3,h4,h5⟩ | ⟨j2,h1,_⟩
          ·injection h1 with h1 _
           exact .inl ⟨rfl,l,us,rfl,h3,by rw [h4,h1],h5⟩
          ·cases h1) HO5.out.symm HF5.out (fun _=>HIT.out) (fun hf=>(by cases hf)) hown hgrow hat)
         have H9:wd0.cell? ⟨p,4,none⟩=some v0∧wd0.frozen? ⟨p,4,none⟩=false:=by
          have F12:Fr (obL v0) wa4 wd0:=((Fr.alloc wa4 _).up0).on (Fr.of_grown hgrow)
          have n6:=(F12.block p (zAd HND.out) (fun hm=>zAi HSe.out.row HSe.out.nd hm)).trans HND.out
          exact⟨(NodeAt.mk n6).c4,(NodeAt.mk n6).f 4⟩
         obtain⟨H9,f9⟩:=H9
         clear hown hgrow hat hlt hsr HN1 HO1 y4 HND
         go_upto_region 17 with fail
         obtain⟨wa0,hwa0⟩:∃wa,wd0.setCell ⟨p,4,none⟩ (.slice (some ⟨g0,0,none⟩) (n0+1) cap0)=wa:=⟨_,rfl⟩
         rw [hwa0] at HE0
         try rw [hwa0]
         clear H9 f9 hwa0
         obtain⟨vz,hvz⟩:∃v,Value.slice (some ⟨g0,0,none⟩) (n0+1) cap0=v:=⟨_,rfl⟩
         obtain⟨nz,hnz⟩:∃n,n0+1=n:=⟨_,rfl⟩
         obtain⟨xz,hxz⟩:∃x,xs0++[Value.pointer (some ⟨p2,0,none⟩)]=x:=⟨_,rfl⟩
         rw [hnz] at hvz HE0
         rw [hvz,hxz] at HE0
         clear hvz hnz hxz
         have HFIN:=HFC2
         have HND1:=HE0.out.need HCR.out [69,78,68]
         go_wp2_with fail
         refine HND1.mono ?_
         rintro e wm1 ⟨rfl,FN1,hs⟩
         have HN1:=oH hs
         clear hs FN1 HND1
         go_wp2_with fail
         go_ret
         exact HN1.out.tl (by rw [HFIN.out])
       ·have HK:=zBo c wa0 k2 [124] HX0.out hs
        have HGO:Hid (RES=caG c.ts B m l2 (k2+1)):=oH (by rw [HST.out,HRK.out];show (if isS (tk c.ts k2) [124]=true then _ else _)=_;rw [if_pos hs])
        simp only [pt] at HK
        have HLT:=zAm hs
        clear hs
        go_wp2_with fail
        refine HK.mono ?_
        rintro e wl ⟨rfl,F2,X2⟩
        have htl:=HJR.out.tl
        have hnb2:=HNB.out
        have HREL:Hid (∃r N v n xs m,SN c w (nd 63 t [] 0) p r N wl v n xs∧N≤16386∧(∀l j,r=.ok l j→N≤j∧j≤c.ts.length)∧RES=r.bnd (caG c.ts B m)):=oH ⟨_,N+1,vz,nz,xz,m,(HE0.out.same HRK.out).to HCR.out F2 X2,by omega,fun l' k e=>by injection e with _ e;omega,HGO.out⟩
        have HME:Hid (rfM c.R wl < rfM c.R wr):=oH (by rw [zCv X2,zCv HJR.out];omega)
        clear F2 X2 HK HGO HLT htl hnb2 hkb
        go_wp2_with fail
        go_roundw
        case rel=>exact HREL.out
        case measure=>exact HME.out
      ·have HK:=zAu c wa0 k2 true [124] X rfl
       have HFE:Hid (RES=r2.bnd (caE c.ts B)):=oH (by rw [HST.out,hr];rfl)
       have HXB:=oH (oA hr X)
       simp only [pt] at HK
       clear hr X
       go_wp2_with fail
       refine HK.mono ?_
       rintro e wc ⟨rfl,F2⟩
       have HS:=oH (HE0.out.keep HCR.out F2)
       have HBAD:Hid (∃j,r2=.bad j∧RF c wc j true):=oH ⟨k2,HXB.out.1,HXB.out.2.keep F2⟩
       clear F2 HK HE0 HXB HST HR2 HNB HJR
       obtain⟨v0,n0,xs0,he1,he2,he3⟩:∃v n xs,vz=v∧nz=n∧xz=xs:=⟨_,_,_,rfl,rfl,rfl⟩
       rw [he1,he2,he3] at HS
       clear he1 he2 he3
       obtain⟨r,hrr⟩:∃z,r2=z:=⟨_,rfl⟩
       rw [hrr] at HS HBAD HFE
       clear hrr
       obtain⟨j,hr,X⟩:=HBAD.out
       obtain⟨qx,qy,f1⟩:=zAc (tk c.ts j).2.1.1 (tk c.ts j).2.1.2
       obtain⟨gx,gy,f2⟩:=zAc (tk c.ts j).2.2.1 (tk c.ts j).2.2.2
       have HNW:=zAo c wc j true X qx qy gx gy f1 f2
       have HXX:=oH X
       have HFIN:Hid (RES=needM c.ts [69,78,68] r):=oH (by rw [HFE.out,hr];rfl)
       clear hr X f1 f2 HBAD
       generalize ((tk c.ts j).1.k:Int)=s0 at *
       generalize (⟨(tk c.ts j).1.x.toArray⟩:ByteArray)=s3 at *
       generalize (tk c.ts j).1.n=s4 at *
       go_wp2_with fail
       refine HNW.mono ?_
       rintro e wt ⟨rfl,F0⟩
       have HS2:=oH (HS.out.keep HCR.out F0)
       have HX2:=oH (HXX.out.keep F0)
       clear F0 HNW HS HXX
       have HK:=zAb c wt j true [69,76,83,69] HX2.out rfl
       simp only [pt] at HK
       go_wp2_with fail
       refine HK.mono ?_
       rintro e wl ⟨rfl,F1⟩
       have HA0:=oH (HS2.out.keep HCR.out F1)
       clear F1 HK HS2 HX2
       have HND0:=HA0.out.need HCR.out [69,78,68]
       go_wp2_with fail
       refine HND0.mono ?_
       rintro e wm0 ⟨rfl,FN0,hs⟩
       have HN0:=oH hs
       clear hs FN0 HND0
       obtain⟨v1,n1,xs1,he1,he2,he3⟩:∃v n xs,v0=v∧n0=n∧xs0=xs:=⟨_,_,_,rfl,rfl,rfl⟩
       rw [he1,he2,he3] at HN0
       clear he1 he2 he3
       go_wp2_with fail
       go_ret
       exact HN0.out.tl (by rw [HFIN.out])
     ·obtain⟨m,rfl⟩:∃m',m=m'+1:=by
       cases m with
       | succ m=>exact⟨m,rfl⟩
       | zero =>
        refine absurd ?_ HQ.out.2.1
        rw [HNN.out.2.2,HRR.out.1]
        rfl
      have HFE:Hid (RES=r.bnd (caE c.ts B)):=oH (by rw [HNN.out.2.2,HRR.out.1];exact zQp hs (.inr hd) m)
      have FQ:Hid (Fr [] wr wr):=oH (Fr.refl _ _)
      have HT:=zAs c wr j false [124] (HRR.out.2.keep FQ.out)
      rw [hs] at HT
      simp only [Bool.not_false,Bool.true_and,pt] at HT
      go_wp2_with fail
      refine HT.mono ?_
      rintro e y0 ⟨rfl,F1⟩
      have FG:=oH (FQ.out.on F1)
      clear F1 HT FQ
      have FQ:=FG
      clear FG
      have HT:=zAy c y0 j false [69,76,83,69] (HRR.out.2.keep FQ.out)
      rw [he] at HT
      simp only [Bool.not_false,Bool.true_and,pt] at HT
      go_wp2_with fail
      refine HT.mono ?_
      rintro e y1 ⟨rfl,F1⟩
      have FG:=oH (FQ.out.on F1)
      clear F1 HT FQ
      have FQ:=FG
      clear FG
      have HT:=zAy c y1 j false [69,78,68] (HRR.out.2.keep FQ.out)
      rw [hd] at HT
      simp only [Bool.not_false,Bool.true_and,pt] at HT
      go_wp2_with fail
      refine HT.mono ?_
      rintro e y2 ⟨rfl,F1⟩
      have FG:=oH (FQ.out.on F1)
      clear F1 HT FQ
      have FQ:=FG
      clear FG
      have HS1:=oH (HS.out.keep HCR.out FQ.out)
      have HK:=zAu c y2 j false [124] (HRR.out.2.keep FQ.out) (by rw [hs];rfl)
      simp only [pt] at HK
      clear hs he hd
      go_wp2_with fail
      refine HK.mono ?_
      rintro e wc ⟨rfl,F2⟩
      have HSn:=oH (HS1.out.keep HCR.out F2)
      have HOK:Hid (∃l j,r=.ok l j∧RF c wc j false):=oH ⟨l,j,HRR.out.1,(HRR.out.2.keep FQ.out).keep F2⟩
      have hNb:=HNN.out.1
      clear F2 HK HS1 FQ HRR HS HNN
      have HS:=HSn
      clear HSn
      clear c2
      obtain⟨l2,j2,hr,X⟩:=HOK.out
      obtain⟨l3,hl3⟩:∃z,l2=z:=⟨_,rfl⟩
      obtain⟨j3,hj3⟩:∃z,j2=z:=⟨_,rfl⟩
      subst hl3 hj3
      clear l j
      obtain⟨l,hl⟩:∃z,l2=z:=⟨_,rfl⟩
      obtain⟨j,hj⟩:∃z,j2=z:=⟨_,rfl⟩
      rw [hl,hj] at hr
      rw [hj] at X
      clear hl hj
      obtain⟨qx,qy,f1⟩:=zAc (tk c.ts j).2.1.1 (tk c.ts j).2.1.2
      obtain⟨gx,gy,f2⟩:=zAc (tk c.ts j).2.2.1 (tk c.ts j).2.2.2
      have HNW:=zAo c wc j false X qx qy gx gy f1 f2
      have HXX:=oH (oA X f1)
      have HSo:=oH (HS.out.same hr)
      have HFC:Hid (RES=caE c.ts B l j):=oH (by rw [HFE.out,hr];rfl)
      clear hr X f1 f2 HOK HS
      generalize ((tk c.ts j).1.k:Int)=s0 at *
      generalize (⟨(tk c.ts j).1.x.toArray⟩:ByteArray)=s3 at *
      generalize (tk c.ts j).1.n=s4 at *
      go_wp2_with fail
      refine HNW.mono ?_
      rintro e wt ⟨rfl,F0⟩
      have HS2:=oH (HSo.out.keep HCR.out F0)
      have HX2:=oH (oA (HXX.out.1.keep F0) HXX.out.2)
      clear F0 HNW HSo HXX
      cases hq:isW (tk c.ts j) [69,76,83,69]
      ·have HK:=zAb c wt j false [69,76,83,69] HX2.out.1 (by rw [hq];rfl)
       have HFIN:Hid (RES=needM c.ts [69,78,68] (.ok l j)):=oH (by rw [HFC.out];exact zQq hq)
       simp only [pt] at HK
       clear hq
       go_wp2_with fail
       refine HK.mono ?_
       rintro e wl ⟨rfl,F1⟩
       have HA0:=oH (HS2.out.keep HCR.out F1)
       clear F1 HK HS2 HX2
       have HND0:=HA0.out.need HCR.out [69,78,68]
       go_wp2_with fail
       refine HND0.mono ?_
       rintro e wm0 ⟨rfl,FN0,hs⟩
       have HN0:=oH hs
       clear hs FN0 HND0
       obtain⟨v1,n1,xs1,he1,he2,he3⟩:∃v n xs,v0=v∧n0=n∧xs0=xs:=⟨_,_,_,rfl,rfl,rfl⟩
       rw [he1,he2,he3] at HN0
       clear he1 he2 he3
       go_wp2_with fail
       go_ret
       exact HN0.out.tl (by rw [HFIN.out])
      ·have HK:=zAz c wt j [69,76,83,69] HX2.out.1 hq
       have HFC2:Hid (RES=needM c.ts [69,78,68] (kid (elT c.ts B j) (.ok l (j+1)))):=oH (by rw [HFC.out];exact zKo hq)
       simp only [pt] at HK
       clear hq
       go_wp2_with fail
       refine HK.mono ?_
       rintro e wl ⟨rfl,F1,X1⟩
       have HSe:=oH (HS2.out.to HCR.out F1 X1)
       have HXe:=oH X1
       have HCR2:Hid (c.R < wl.heap.size):=oH X1.lt
       have HPE:=oH HX2.out.2
       clear F1 X1 HK HS2 HX2
       have HPRE:Hid (kid (elT c.ts B j) (.ok l (j+1))≠.out):=oH (zBp (by rw [← HFC2.out];exact HQ.out.2.1))
       have HOB:Hid (kid B (.ok [] (j+1))≠.out):=oH (fun e=>zBm HPRE.out rfl (by unfold elT;rw [e];rfl))
       have HDN:=dnode wl 30 30 rfl (tk c.ts j) qx qy HPE.out
       go_wp2_with fail
       refine HDN.mono ?_
       rintro e wn2 ⟨rfl,hwn⟩
       have HS0:Hid (SN c wl (nd 30 (tk c.ts j) [] 0) wl.heap.size (.ok [] (j+1)) 0 wn2 (.slice none 0 0) 0 []):=oH (by rw [hwn];exact SN.new _ HXe.out)
       clear hwn HDN
       obtain⟨p2,hp2⟩:∃p,wl.heap.size=p:=⟨_,rfl⟩
       try rw [hp2]
       have HS0':Hid (∃v n xs,v=Value.slice none 0 0∧SN c wl (nd 30 (tk c.ts j) [] 0) p2 (.ok [] (j+1)) 0 wn2 v n xs):=oH ⟨_,_,_,rfl,by rw [← hp2];exact HS0.out⟩
       have HP2:=oH hp2
       clear HS0 hp2
       obtain⟨v4,n4,xs4,hv4,hs4⟩:=HS0'.out
       have HA4:=oH hs4
       clear HS0' hs4 hv4
       obtain⟨j4,b4,X4,hst4⟩:=HA4.out.rf
       have HNE4:b4=false→B j4≠.out:=fun hb=>by
        rcases hst4 with⟨_,l,us,hr,_⟩ | ⟨hb2,_⟩
        ·exact zBm HOB.out hr
        ·rw [hb] at hb2;cases hb2
       have HR4:∀w1,Fr [] wn2 w1→Calls Tryz.prog 18 #[.pointer (some ⟨c.R,0,none⟩)] w1 fun e w'=>∃o a,encP o=.pointer a∧e=.returned (.pointer a)∧Fr [c.R] wn2 w'∧(b4=false→Itm c (B) j4 wn2 w' o)∧(b4=true→RF c w' j4 true):=fun w1 F1=>by
        refine( HBB.out w1 j4 b4 (X4.keep F1)  HNE4).mono ?_
        rintro e w' ⟨o,a,h1,h2,h3,h4,h5⟩
        exact⟨o,a,h1,h2,F1.up0.on h3,fun hb=>(h4 hb).low F1.size,h5⟩
       have HSS4:∀w':World,Fr [c.R] wn2 w'→(w'.cell? ⟨p2,4,none⟩=some v4∧w'.frozen? ⟨p2,4,none⟩=false):=fun w' F=>by
        have e3:=(F.block p2 (zAd HA4.out.nd) (by have:=HA4.out.hp;have:=HCR2.out;simp;omega)).trans HA4.out.nd
        exact⟨(NodeAt.mk e3).c4,(NodeAt.mk e3).f 4⟩
       have HST4:=oH hst4
       have y4:=(HSS4 wn2 (Fr.refl _ _)).1
       have hrow4:∀w',Fr [c.R] wn2 w'→w'.ownsRow 0 26 1 v4 n4 xs4:=fun w' F=>zAf HA4.out.row F (fun q hq hm=>by
        have h1:=HA4.out.far q hq
        have h2:q=c.R:=by simpa using hm
        have:=HCR2.out
        omega)
       have hnb4:=HA4.out.hn
       clear X4 HNE4 hst4
       go_wp2_with fail
       refine zAp 11 (S:=fun w'=>w'.cell? ⟨p2,4,none⟩=some v4) (by kernel_rfl) ?_ (fun hHeld=>?_)
       ·exact(HSS4 _ (Fr.drew wn2).up0).1
       refine aT 14 0 ?_
       refine aT 14 1 ?_
       refine aT 14 2 ?_
       refine aT 14 3 ?_
       refine aT 14 4 ?_
       refine aT 14 5 ?_
       refine zAa (rs:=[6]) (by kernel_rfl) (by simp) ?_
       refine AllL.cons rfl (fun K hK=>?_) ?_
       rotate_left
       ·exact AllL.nil
       go_simp
       refine(HR4 _ (Fr.drew wn2)).mono ?_
       rintro e wb4 ⟨o4,a4,ha4,rfl,FB4,hi4,hb4⟩
       have H9:=(HSS4 wb4 FB4).1
       clear HR4
       go_wp2_with fail
       refine hK.out _ _ (H9) (fun hHeld=>?_)
       clear hK K
       try simp only[Act.put,oB,oC,oD,oE,oF,oG]
       refine zAa (rs:=[7]) (by kernel_rfl) (by simp) ?_
       refine AllL.cons rfl (fun K hK=>?_) ?_
       rotate_left
       ·exact AllL.nil
       go_simp
       have H9:=(HSS4 _ (FB4.on0 (Fr.alloc wb4 (.cells #[.pointer a4] 26)))).1
       refine hK.out _ _ (H9) (fun hHeld=>?_)
       clear hK K
       try simp only[Act.put,oB,oC,oD,oE,oF,oG]
       refine zAa (rs:=[8]) (by kernel_rfl) (by simp) ?_
       refine AllL.cons rfl (fun K hK=>?_) ?_
       rotate_left
       ·exact AllL.nil
       refine step_append_lies _ (by rfl) _ _ 38 (by rfl) 0 26 i0 _ 1 8 Tryz.underlying38 hi hz0 hz1 hz2 (by rfl) (by omega) v4 n4 _ (by rfl) ((hrow4 _ FB4).alloc _) ⟨wb4.heap.size,0,none⟩ 1 1 [.pointer a4] (by rfl) (by rfl) (new1 wb4 (.pointer a4) 26) (fun u hu=>(by simp at hu;subst hu;rfl)) (by omega) (by unfold maxLen;omega) (by omega) (Nat.zero_le _) (wb4.heap.size+1) (by simp) ?_
       intro g4 cap4 wd4 hown hgrow hat hlt
       have HE4:=oH (HA4.out.app HCR2.out HST4.out ha4 FB4 hi4 hb4 hown hgrow hat)
       have H9:wd4.cell? ⟨p2,4,none⟩=some v4∧wd4.frozen? ⟨p2,4,none⟩=false:=by
        have n2:=(FB4.block p2 (zAd HA4.out.nd) (by have:=HA4.out.hp;have:=HCR2.out;simp;omega)).trans HA4.out.nd
        have F12:Fr (obL v4) wb4 wd4:=((Fr.alloc wb4 _).up0).on (Fr.of_grown hgrow)
        have n6:=(F12.block p2 (zAd n2) (fun hm=>zAi HA4.out.row HA4.out.nd hm)).trans n2
        exact⟨(NodeAt.mk n6).c4,(NodeAt.mk n6).f 4⟩
       obtain⟨H9,f9⟩:=H9
       clear hown hgrow hat hlt hi4 hb4 FB4 HST4 hrow4 HSS4 y4 ha4
       refine hK.out _ _ (H9) (fun hHeld=>?_)
       clear hK K
       try simp only[Act.put,oB,oC,oD,oE,oF,oG]
       refine aT 14 9 ?_
       refine aT 14 10 ?_
       refine zAa (rs:=[11]) (by kernel_rfl) (by simp) ?_
       refine AllL.last rfl (by kernel_rfl) (fun K hK=>?_) ?_
       rotate_left
       ·exact AllL.nil
       go_simp
       refine hK.out _ _ ?_
       clear hK K
       try simp only[Act.put,oB,oC,oD,oE,oF,oG]
       refine zAl (by kernel_rfl) ?_ _
       obtain⟨wa4,hwa4⟩:∃wa,wd4.setCell ⟨p2,4,none⟩ (.slice (some ⟨g4,0,none⟩) (n4+1) cap4)=wa:=⟨_,rfl⟩
       rw [hwa4] at HE4
       try rw [hwa4]
       clear H9 f9 hwa4
       have HTL:=HE4.out.tl (res:=elT c.ts B j (j+1)) rfl
       obtain⟨o5,ho5,F5,hi5⟩:=HTL
       injection ho5 with ho5
       have HIT:Hid (Itm c (elT c.ts B j) (j+1) wl wa4 o5):=oH hi5
       have HF5:=oH F5
       have HO5:=oH ho5
       clear hi5 F5 ho5 HE4 HA4
       have hsr:=(zAf HSe.out.row HF5.out (fun q hq hm=>by
        have h1:=HSe.out.far q hq
        have h2:q=c.R:=by simpa using hm
        have:=HCR.out
        omega)).alloc (.cells #[Value.pointer (some ⟨p2,0,none⟩)] 26)
       have hnb:=HSe.out.hn
       have hnd:=(HF5.out.block p (zAd HSe.out.nd) (by have:=HSe.out.hp;have:=HCR.out;simp;omega)).trans HSe.out.nd
       have y4:=(NodeAt.mk hnd).c4
       have HN1:=oH (new1 wa4 (Value.pointer (some ⟨p2,0,none⟩)) 26)
       have HO1:Hid (∀z ∈ [Value.pointer (some ⟨p2,0,none⟩)],z.oneCell'=true):=oH (fun z hz=>by simp at hz;subst hz;rfl)
       have HND:=oH hnd
       clear hnd
       go_wp2_with (at_builtin;refine wpList_append_lies _ rfl _ _ 38 rfl 0 26 i0 _ 1 8 Tryz.underlying38 hi hz0 hz1 hz2 rfl (by decide) v0 n0 _ rfl hsr ⟨wa4.heap.size,0,none⟩ 1 1 [Value.pointer (some ⟨p2,0,none⟩)] rfl rfl HN1.out HO1.out (by decide) (by unfold maxLen;omega) (by omega) (by simp <;> omega) (wa4.heap.size+1) (by simp) ?_)
       intro g0 cap0 wd0 hown hgrow hat hlt
       have HE0:=oH (HSe.out.app HCR.out (M:=elT c.ts B j) (j:=j+1) (b:=false) (by
        rcases HSe.out.st with⟨l2,j2,us,h1,h2,h3,h4,h5⟩ | ⟨j2,h1,_⟩
        ·injection h1 with h1 _
         exact .inl ⟨rfl,l,us,rfl,h3,by rw [h4,h1],h5⟩
        ·cases h1) HO5.out.symm HF5.out (fun _=>HIT.out) (fun hf=>(by cases hf)) hown hgrow hat)
       have H9:wd0.cell? ⟨p,4,none⟩=some v0∧wd0.frozen? ⟨p,4,none⟩=false:=by
        have F12:Fr (obL v0) wa4 wd0:=((Fr.alloc wa4 _).up0).on (Fr.of_grown hgrow)
        have n6:=(F12.block p (zAd HND.out) (fun hm=>zAi HSe.out.row HSe.out.nd hm)).trans HND.out
        exact⟨(NodeAt.mk n6).c4,(NodeAt.mk n6).f 4⟩
       obtain⟨H9,f9⟩:=H9
       clear hown hgrow hat hlt hsr HN1 HO1 y4 HND
       go_upto_region 17 with fail
       obtain⟨wa0,hwa0⟩:∃wa,wd0.setCell ⟨p,4,none⟩ (.slice (some ⟨g0,0,none⟩) (n0+1) cap0)=wa:=⟨_,rfl⟩
       rw [hwa0] at HE0
       try rw [hwa0]
       clear H9 f9 hwa0
       obtain⟨vz,hvz⟩:∃v,Value.slice (some ⟨g0,0,none⟩) (n0+1) cap0=v:=⟨_,rfl⟩
       obtain⟨nz,hnz⟩:∃n,n0+1=n:=⟨_,rfl⟩
       obtain⟨xz,hxz⟩:∃x,xs0++[Value.pointer (some ⟨p2,0,none⟩)]=x:=⟨_,rfl⟩
       rw [hnz] at hvz HE0
       rw [hvz,hxz] at HE0
       clear hvz hnz hxz
       have HFIN:=HFC2
       have HND1:=HE0.out.need HCR.out [69,78,68]
       go_wp2_with fail
       refine HND1.mono ?_
       rintro e wm1 ⟨rfl,FN1,hs⟩
       have HN1:=oH hs
       clear hs FN1 HND1
       go_wp2_with fail
       go_ret
       exact HN1.out.tl (by rw [HFIN.out])
    ·obtain⟨m,rfl⟩:∃m',m=m'+1:=by
      cases m with
      | succ m=>exact⟨m,rfl⟩
      | zero =>
       refine absurd ?_ HQ.out.2.1
       rw [HNN.out.2.2,HRR.out.1]
       rfl
     have HFE:Hid (RES=r.bnd (caE c.ts B)):=oH (by rw [HNN.out.2.2,HRR.out.1];exact zQp hs (.inl he) m)
     have FQ:Hid (Fr [] wr wr):=oH (Fr.refl _ _)
     have HT:=zAs c wr j false [124] (HRR.out.2.keep FQ.out)
     rw [hs] at HT
     simp only [Bool.not_false,Bool.true_and,pt] at HT
     go_wp2_with fail
     refine HT.mono ?_
     rintro e y0 ⟨rfl,F1⟩
     have FG:=oH (FQ.out.on F1)
     clear F1 HT FQ
     have FQ:=FG
     clear FG
     have HT:=zAy c y0 j false [69,76,83,69] (HRR.out.2.keep FQ.out)
     rw [he] at HT
     simp only [Bool.not_false,Bool.true_and,pt] at HT
     go_wp2_with fail
     refine HT.mono ?_
     rintro e y1 ⟨rfl,F1⟩
     have FG:=oH (FQ.out.on F1)
     clear F1 HT FQ
     have FQ:=FG
     clear FG
     have HS1:=oH (HS.out.keep HCR.out FQ.out)
     have HK:=zAu c y1 j false [124] (HRR.out.2.keep FQ.out) (by rw [hs];rfl)
     simp only [pt] at HK
     clear hs he
     go_wp2_with fail
     refine HK.mono ?_
     rintro e wc ⟨rfl,F2⟩
     have HSn:=oH (HS1.out.keep HCR.out F2)
     have HOK:Hid (∃l j,r=.ok l j∧RF c wc j false):=oH ⟨l,j,HRR.out.1,(HRR.out.2.keep FQ.out).keep F2⟩
     have hNb:=HNN.out.1
     clear F2 HK HS1 FQ HRR HS HNN
     have HS:=HSn
     clear HSn
     clear c2
     obtain⟨l2,j2,hr,X⟩:=HOK.out
     obtain⟨l3,hl3⟩:∃z,l2=z:=⟨_,rfl⟩
     obtain⟨j3,hj3⟩:∃z,j2=z:=⟨_,rfl⟩
     subst hl3 hj3
     clear l j
     obtain⟨l,hl⟩:∃z,l2=z:=⟨_,rfl⟩
     obtain⟨j,hj⟩:∃z,j2=z:=⟨_,rfl⟩
     rw [hl,hj] at hr
     rw [hj] at X
     clear hl hj
     obtain⟨qx,qy,f1⟩:=zAc (tk c.ts j).2.1.1 (tk c.ts j).2.1.2
     obtain⟨gx,gy,f2⟩:=zAc (tk c.ts j).2.2.1 (tk c.ts j).2.2.2
     have HNW:=zAo c wc j false X qx qy gx gy f1 f2
     have HXX:=oH (oA X f1)
     have HSo:=oH (HS.out.same hr)
     have HFC:Hid (RES=caE c.ts B l j):=oH (by rw [HFE.out,hr];rfl)
     clear hr X f1 f2 HOK HS
     generalize ((tk c.ts j).1.k:Int)=s0 at *
     generalize (⟨(tk c.ts j).1.x.toArray⟩:ByteArray)=s3 at *
     generalize (tk c.ts j).1.n=s4 at *
     go_wp2_with fail
     refine HNW.mono ?_
     rintro e wt ⟨rfl,F0⟩
     have HS2:=oH (HSo.out.keep HCR.out F0)
     have HX2:=oH (oA (HXX.out.1.keep F0) HXX.out.2)
     clear F0 HNW HSo HXX
     cases hq:isW (tk c.ts j) [69,76,83,69]
     ·have HK:=zAb c wt j false [69,76,83,69] HX2.out.1 (by rw [hq];rfl)
      have HFIN:Hid (RES=needM c.ts [69,78,68] (.ok l j)):=oH (by rw [HFC.out];exact zQq hq)
      simp only [pt] at HK
      clear hq
      go_wp2_with fail
      refine HK.mono ?_
      rintro e wl ⟨rfl,F1⟩
      have HA0:=oH (HS2.out.keep HCR.out F1)
      clear F1 HK HS2 HX2
      have HND0:=HA0.out.need HCR.out [69,78,68]
      go_wp2_with fail
      refine HND0.mono ?_
      rintro e wm0 ⟨rfl,FN0,hs⟩
      have HN0:=oH hs
      clear hs FN0 HND0
      obtain⟨v1,n1,xs1,he1,he2,he3⟩:∃v n xs,v0=v∧n0=n∧xs0=xs:=⟨_,_,_,rfl,rfl,rfl⟩
      rw [he1,he2,he3] at HN0
      clear he1 he2 he3
      go_wp2_with fail
      go_ret
      exact HN0.out.tl (by rw [HFIN.out])
     ·have HK:=zAz c wt j [69,76,83,69] HX2.out.1 hq
      have HFC2:Hid (RES=needM c.ts [69,78,68] (kid (elT c.ts B j) (.ok l (j+1)))):=oH (by rw [HFC.out];exact zKo hq)
      simp only [pt] at HK
      clear hq
      go_wp2_with fail
      refine HK.mono ?_
      rintro e wl ⟨rfl,F1,X1⟩
      have HSe:=oH (HS2.out.to HCR.out F1 X1)
      have HXe:=oH X1
      have HCR2:Hid (c.R < wl.heap.size):=oH X1.lt
      have HPE:=oH HX2.out.2
      clear F1 X1 HK HS2 HX2
      have HPRE:Hid (kid (elT c.ts B j) (.ok l (j+1))≠.out):=oH (zBp (by rw [← HFC2.out];exact HQ.out.2.1))
      have HOB:Hid (kid B (.ok [] (j+1))≠.out):=oH (fun e=>zBm HPRE.out rfl (by unfold elT;rw [e];rfl))
      have HDN:=dnode wl 30 30 rfl (tk c.ts j) qx qy HPE.out
      go_wp2_with fail
      refine HDN.mono ?_
      rintro e wn2 ⟨rfl,hwn⟩
      have HS0:Hid (SN c wl (nd 30 (tk c.ts j) [] 0) wl.heap.size (.ok [] (j+1)) 0 wn2 (.slice none 0 0) 0 []):=oH (by rw [hwn];exact SN.new _ HXe.out)
      clear hwn HDN
      obtain⟨p2,hp2⟩:∃p,wl.heap.size=p:=⟨_,rfl⟩
      try rw [hp2]
      have HS0':Hid (∃v n xs,v=Value.slice none 0 0∧SN c wl (nd 30 (tk c.ts j) [] 0) p2 (.ok [] (j+1)) 0 wn2 v n xs):=oH ⟨_,_,_,rfl,by rw [← hp2];exact HS0.out⟩
      have HP2:=oH hp2
      clear HS0 hp2
      obtain⟨v4,n4,xs4,hv4,hs4⟩:=HS0'.out
      have HA4:=oH hs4
      clear HS0' hs4 hv4
      obtain⟨j4,b4,X4,hst4⟩:=HA4.out.rf
      have HNE4:b4=false→B j4≠.out:=fun hb=>by
       rcases hst4 with⟨_,l,us,hr,_⟩ | ⟨hb2,_⟩
       ·exact zBm HOB.out hr
       ·rw [hb] at hb2;cases hb2
      have HR4:∀w1,Fr [] wn2 w1→Calls Tryz.prog 18 #[.pointer (some ⟨c.R,0,none⟩)] w1 fun e w'=>∃o a,encP o=.pointer a∧e=.returned (.pointer a)∧Fr [c.R] wn2 w'∧(b4=false→Itm c (B) j4 wn2 w' o)∧(b4=true→RF c w' j4 true):=fun w1 F1=>by
       refine( HBB.out w1 j4 b4 (X4.keep F1)  HNE4).mono ?_
       rintro e w' ⟨o,a,h1,h2,h3,h4,h5⟩
       exact⟨o,a,h1,h2,F1.up0.on h3,fun hb=>(h4 hb).low F1.size,h5⟩
      have HSS4:∀w':World,Fr [c.R] wn2 w'→(w'.cell? ⟨p2,4,none⟩=some v4∧w'.frozen? ⟨p2,4,none⟩=false):=fun w' F=>by
       have e3:=(F.block p2 (zAd HA4.out.nd) (by have:=HA4.out.hp;have:=HCR2.out;simp;omega)).trans HA4.out.nd
       exact⟨(NodeAt.mk e3).c4,(NodeAt.mk e3).f 4⟩
      have HST4:=oH hst4
      have y4:=(HSS4 wn2 (Fr.refl _ _)).1
      have hrow4:∀w',Fr [c.R] wn2 w'→w'.ownsRow 0 26 1 v4 n4 xs4:=fun w' F=>zAf HA4.out.row F (fun q hq hm=>by
       have h1:=HA4.out.far q hq
       have h2:q=c.R:=by simpa using hm
       have:=HCR2.out
       omega)
      have hnb4:=HA4.out.hn
      clear X4 HNE4 hst4
      go_wp2_with fail
      refine zAp 11 (S:=fun w'=>w'.cell? ⟨p2,4,none⟩=some v4) (by kernel_rfl) ?_ (fun hHeld=>?_)
      ·exact(HSS4 _ (Fr.drew wn2).up0).1
      refine aT 14 0 ?_
      refine aT 14 1 ?_
      refine aT 14 2 ?_
      refine aT 14 3 ?_
      refine aT 14 4 ?_
      refine aT 14 5 ?_
      refine zAa (rs:=[6]) (by kernel_rfl) (by simp) ?_
      refine AllL.cons rfl (fun K hK=>?_) ?_
      rotate_left
      ·exact AllL.nil
      go_simp
      refine(HR4 _ (Fr.drew wn2)).mono ?_
      rintro e wb4 ⟨o4,a4,ha4,rfl,FB4,hi4,hb4⟩
      have H9:=(HSS4 wb4 FB4).1
      clear HR4
      go_wp2_with fail
      refine hK.out _ _ (H9) (fun hHeld=>?_)
      clear hK K
      try simp only[Act.put,oB,oC,oD,oE,oF,oG]
      refine zAa (rs:=[7]) (by kernel_rfl) (by simp) ?_
      refine AllL.cons rfl (fun K hK=>?_) ?_
      rotate_left
      ·exact AllL.nil
      go_simp
      have H9:=(HSS4 _ (FB4.on0 (Fr.alloc wb4 (.cells #[.pointer a4] 26)))).1
      refine hK.out _ _ (H9) (fun hHeld=>?_)
      clear hK K
      try simp only[Act.put,oB,oC,oD,oE,oF,oG]
      refine zAa (rs:=[8]) (by kernel_rfl) (by simp) ?_
      refine AllL.cons rfl (fun K hK=>?_) ?_
      rotate_left
      ·exact AllL.nil
      refine step_append_lies _ (by rfl) _ _ 38 (by rfl) 0 26 i0 _ 1 8 Tryz.underlying38 hi hz0 hz1 hz2 (by rfl) (by omega) v4 n4 _ (by rfl) ((hrow4 _ FB4).alloc _) ⟨wb4.heap.size,0,none⟩ 1 1 [.pointer a4] (by rfl) (by rfl) (new1 wb4 (.pointer a4) 26) (fun u hu=>(by simp at hu;subst hu;rfl)) (by omega) (by unfold maxLen;omega) (by omega) (Nat.zero_le _) (wb4.heap.size+1) (by simp) ?_
      intro g4 cap4 wd4 hown hgrow hat hlt
      have HE4:=oH (HA4.out.app HCR2.out HST4.out ha4 FB4 hi4 hb4 hown hgrow hat)
      have H9:wd4.cell? ⟨p2,4,none⟩=some v4∧wd4.frozen? ⟨p2,4,none⟩=false:=by
       have n2:=(FB4.block p2 (zAd HA4.out.nd) (by have:=HA4.out.hp;have:=HCR2.out;simp;omega)).trans HA4.out.nd
       have F12:Fr (obL v4) wb4 wd4:=((Fr.alloc wb4 _).up0).on (Fr.of_grown hgrow)
       have n6:=(F12.block p2 (zAd n2) (fun hm=>zAi HA4.out.row HA4.out.nd hm)).trans n2
       exact⟨(NodeAt.mk n6).c4,(NodeAt.mk n6).f 4⟩
      obtain⟨H9,f9⟩:=H9
      clear hown hgrow hat hlt hi4 hb4 FB4 HST4 hrow4 HSS4 y4 ha4
      refine hK.out _ _ (H9) (fun hHeld=>?_)
      clear hK K
      try simp only[Act.put,oB,oC,oD,oE,oF,oG]
      refine aT 14 9 ?_
      refine aT 14 10 ?_
      refine zAa (rs:=[11]) (by kernel_rfl) (by simp) ?_
      refine AllL.last rfl (by kernel_rfl) (fun K hK=>?_) ?_
      rotate_left
      ·exact AllL.nil
      go_simp
      refine hK.out _ _ ?_
      clear hK K
      try simp only[Act.put,oB,oC,oD,oE,oF,oG]
      refine zAl (by kernel_rfl) ?_ _
      obtain⟨wa4,hwa4⟩:∃wa,wd4.setCell ⟨p2,4,none⟩ (.slice (some ⟨g4,0,none⟩) (n4+1) cap4)=wa:=⟨_,rfl⟩
      rw [hwa4] at HE4
      try rw [hwa4]
      clear H9 f9 hwa4
      have HTL:=HE4.out.tl (res:=elT c.ts B j (j+1)) rfl
      obtain⟨o5,ho5,F5,hi5⟩:=HTL
      injection ho5 with ho5
      have HIT:Hid (Itm c (elT c.ts B j) (j+1) wl wa4 o5):=oH hi5
      have HF5:=oH F5
      have HO5:=oH ho5
      clear hi5 F5 ho5 HE4 HA4
      have hsr:=(zAf HSe.out.row HF5.out (fun q hq hm=>by
       have h1:=HSe.out.far q hq
       have h2:q=c.R:=by simpa using hm
       have:=HCR.out
       omega)).alloc (.cells #[Value.pointer (some ⟨p2,0,none⟩)] 26)
      have hnb:=HSe.out.hn
      have hnd:=(HF5.out.block p (zAd HSe.out.nd) (by have:=HSe.out.hp;have:=HCR.out;simp;omega)).trans HSe.out.nd
      have y4:=(NodeAt.mk hnd).c4
      have HN1:=oH (new1 wa4 (Value.pointer (some ⟨p2,0,none⟩)) 26)
      have HO1:Hid (∀z ∈ [Value.pointer (some ⟨p2,0,none⟩)],z.oneCell'=true):=oH (fun z hz=>by simp at hz;subst hz;rfl)
      have HND:=oH hnd
      clear hnd
      go_wp2_with (at_builtin;refine wpList_append_lies _ rfl _ _ 38 rfl 0 26 i0 _ 1 8 Tryz.underlying38 hi hz0 hz1 hz2 rfl (by decide) v0 n0 _ rfl hsr ⟨wa4.heap.size,0,none⟩ 1 1 [Value.pointer (some ⟨p2,0,none⟩)] rfl rfl HN1.out HO1.out (by decide) (by unfold maxLen;omega) (by omega) (by simp <;> omega) (wa4.heap.size+1) (by simp) ?_)
      intro g0 cap0 wd0 hown hgrow hat hlt
      have HE0:=oH (HSe.out.app HCR.out (M:=elT c.ts B j) (j:=j+1) (b:=false) (by
       rcases HSe.out.st with⟨l2,j2,us,h1,h2,h3,h4,h5⟩ | ⟨j2,h1,_⟩
       ·injection h1 with h1 _
        exact .inl ⟨rfl,l,us,rfl,h3,by rw [h4,h1],h5⟩
       ·cases h1) HO5.out.symm HF5.out (fun _=>HIT.out) (fun hf=>(by cases hf)) hown hgrow hat)
      have H9:wd0.cell? ⟨p,4,none⟩=some v0∧wd0.frozen? ⟨p,4,none⟩=false:=by
       have F12:Fr (obL v0) wa4 wd0:=((Fr.alloc wa4 _).up0).on (Fr.of_grown hgrow)
       have n6:=(F12.block p (zAd HND.out) (fun hm=>zAi HSe.out.row HSe.out.nd hm)).trans HND.out
       exact⟨(NodeAt.mk n6).c4,(NodeAt.mk n6).f 4⟩
      obtain⟨H9,f9⟩:=H9
      clear hown hgrow hat hlt hsr HN1 HO1 y4 HND
      go_upto_region 17 with fail
      obtain⟨wa0,hwa0⟩:∃wa,wd0.setCell ⟨p,4,none⟩ (.slice (some ⟨g0,0,none⟩) (n0+1) cap0)=wa:=⟨_,rfl⟩
      rw [hwa0] at HE0
      try rw [hwa0]
      clear H9 f9 hwa0
      obtain⟨vz,hvz⟩:∃v,Value.slice (some ⟨g0,0,none⟩) (n0+1) cap0=v:=⟨_,rfl⟩
      obtain⟨nz,hnz⟩:∃n,n0+1=n:=⟨_,rfl⟩
      obtain⟨xz,hxz⟩:∃x,xs0++[Value.pointer (some ⟨p2,0,none⟩)]=x:=⟨_,rfl⟩
      rw [hnz] at hvz HE0
      rw [hvz,hxz] at HE0
      clear hvz hnz hxz
      have HFIN:=HFC2
      have HND1:=HE0.out.need HCR.out [69,78,68]
      go_wp2_with fail
      refine HND1.mono ?_
      rintro e wm1 ⟨rfl,FN1,hs⟩
      have HN1:=oH hs
      clear hs FN1 HND1
      go_wp2_with fail
      go_ret
      exact HN1.out.tl (by rw [HFIN.out])
   ·have FQ:Hid (Fr [] wr wr):=oH (Fr.refl _ _)
    have HT:=zAs c wr j false [124] (HRR.out.2.keep FQ.out)
    rw [hs] at HT
    simp only [Bool.not_false,Bool.true_and,pt] at HT
    go_wp2_with fail
    refine HT.mono ?_
    rintro e y0 ⟨rfl,F1⟩
    have FG:=oH (FQ.out.on F1)
    clear F1 HT FQ
    have FQ:=FG
    clear FG
    have HS1:=oH ((HS.out.same HRR.out.1).keep HCR.out FQ.out)
    have HK:=zBo c y0 j [124] (HRR.out.2.keep FQ.out) hs
    simp only [pt] at HK
    have HLT:=zAm hs
    have HCS:=oH (zQo (B:=B) (l:=l) hs m)
    clear hs
    go_wp2_with fail
    refine HK.mono ?_
    rintro e wl ⟨rfl,F2,X2⟩
    have hNb:=HNN.out.2.1 l j HRR.out.1
    have HREL:Hid (∃r N v n xs m,SN c w (nd 63 t [] 0) p r N wl v n xs∧N≤16386∧(∀l j,r=.ok l j→N≤j∧j≤c.ts.length)∧RES=r.bnd (caG c.ts B m)):=oH ⟨_,N,v0,n0,xs0,m,HS1.out.to HCR.out F2 X2,HNN.out.1,fun l' k e=>by injection e with _ e;omega,by rw [HNN.out.2.2,HRR.out.1];exact HCS.out⟩
    have HME:Hid (rfM c.R wl < rfM c.R wr):=oH (by rw [zCv X2,zCv HRR.out.2];have:=HRR.out.2.tl;omega)
    clear F2 X2 HK HS1 HCS HLT hNb
    go_wp2_with fail
    go_roundw
    case rel=>exact HREL.out
    case measure=>exact HME.out
  ·have c2:=X.c2
   have HBAD:Hid (∃j,r=.bad j∧RF c wr j true):=oH ⟨j,hr,X⟩
   have HFE:Hid (RES=r.bnd (caE c.ts B)):=oH (by rw [HNN.out.2.2,hr];rfl)
   have hNb:=HNN.out.1
   clear hr X hsn j HNN
   obtain⟨j,hr,X⟩:=HBAD.out
   obtain⟨qx,qy,f1⟩:=zAc (tk c.ts j).2.1.1 (tk c.ts j).2.1.2
   obtain⟨gx,gy,f2⟩:=zAc (tk c.ts j).2.2.1 (tk c.ts j).2.2.2
   have HNW:=zAo c wr j true X qx qy gx gy f1 f2
   have HXX:=oH X
   have HFIN:Hid (RES=needM c.ts [69,78,68] r):=oH (by rw [HFE.out,hr];rfl)
   clear hr X f1 f2 HBAD
   generalize ((tk c.ts j).1.k:Int)=s0 at *
   generalize (⟨(tk c.ts j).1.x.toArray⟩:ByteArray)=s3 at *
   generalize (tk c.ts j).1.n=s4 at *
   go_wp2_with fail
   refine HNW.mono ?_
   rintro e wt ⟨rfl,F0⟩
   have HS2:=oH (HS.out.keep HCR.out F0)
   have HX2:=oH (HXX.out.keep F0)
   clear F0 HNW HS HXX
   have HK:=zAb c wt j true [69,76,83,69] HX2.out rfl
   simp only [pt] at HK
   go_wp2_with fail
   refine HK.mono ?_
   rintro e wl ⟨rfl,F1⟩
   have HA0:=oH (HS2.out.keep HCR.out F1)
   clear F1 HK HS2 HX2
   have HND0:=HA0.out.need HCR.out [69,78,68]
   go_wp2_with fail
   refine HND0.mono ?_
   rintro e wm0 ⟨rfl,FN0,hs⟩
   have HN0:=oH hs
   clear hs FN0 HND0
   obtain⟨v1,n1,xs1,he1,he2,he3⟩:∃v n xs,v0=v∧n0=n∧xs0=xs:=⟨_,_,_,rfl,rfl,rfl⟩
   rw [he1,he2,he3] at HN0
   clear he1 he2 he3
   go_wp2_with fail
   go_ret
   exact HN0.out.tl (by rw [HFIN.out])
end Go.Proofs.YtepfknfadpkigaaGreat
end
