/- Several texts in one. -/
import Derived.Test.YtepfknfadpkigaaGreatPkAA
import Derived.Test.YtepfknfadpkigaaGreatPkBD
import Derived.Test.YtepfknfadpkigaaGreatPkAT
import Derived.Test.YtepfknfadpkigaaGreatPkAV
import Derived.Test.YtepfknfadpkigaaGreatPkAW
set_option linter.unusedVariables false
set_option linter.unusedSimpArgs false
section
namespace Go.Proofs.YtepfknfadpkigaaGreat
open Go.RowKit
set_option maxHeartbeats 4000000
set_option maxRecDepth 100000
theorem zUj {c:Rc} {f:FuncId} {M:Nat→Re} (h:CG c f M) (w:World) (j:Nat) (b:Bool) (hX:RF c w j b) (hb:b=false) (hne:b=false→M j≠.out):Calls Tryz.prog f #[.pointer (some ⟨c.R,0,none⟩)] w fun e w'=>∃o a,encP o=.pointer a∧e=.returned (.pointer a)∧Fr [c.R] w w'∧(b=false→Itm c M j w w' o)∧(b=true→RF c w' j true):=by
 subst hb
 refine(h w j hX (hne rfl)).mono ?_
 rintro e w' ⟨o,rfl,F,hres⟩
 obtain⟨a,ha⟩:=zAx o
 exact⟨o,a,ha,by rw [ha],F,fun _=>hres,fun hf=>(by cases hf)⟩
theorem zWx (c:Rc) (hS:Scd c.ts) (B:Nat→Re) (hB:CF c 18 B) (w:World) (i:Nat) (h:RF c w i false) (hq:isW (tk c.ts i) [87,72,73,76,69]=true) (RES:ReL) (hRES:RES≠.out) (hmod:RES=needM c.ts [69,78,68] (kid B (needM c.ts [68,79] (kid (E0 c.ts) (.ok [] (i+1)))))) :
  Calls Tryz.prog 35 #[.pointer (some ⟨c.R,0,none⟩)] w (Tl c w.heap.size w (RES.re fun l=>.node (nd 64 (tk c.ts i) [] 0) l)):=by
 obtain⟨i0,hi,hz0,hz1,hz2⟩:=info_parts infoP
 obtain⟨px,py,e1⟩:=zAc (tk c.ts i).2.1.1 (tk c.ts i).2.1.2
 obtain⟨ex,ey,e2⟩:=zAc (tk c.ts i).2.2.1 (tk c.ts i).2.2.2
 have hfd:=zBb
 have HN:=zAo c w i false h px py ex ey e1 e2
 have HX:=oH (oA h (oA hq (oA e1 (oA hRES hmod))))
 have HBB:=oH hB
 have HEE:=oH (zBn c hS)
 have HDD:=oH (zBx c (E0 c.ts) (zAr _) (zBl c hS _))
 have HR0:=oH h.lt
 clear h hq e1 e2 hB hRES hmod hS
 generalize ((tk c.ts i).1.k:Int)=t0 at *
 generalize (⟨(tk c.ts i).1.x.toArray⟩:ByteArray)=t3 at *
 generalize (tk c.ts i).1.n=t4 at *
 go_enter Tryz.func35,Tryz.ntmps35
 go_wp2_with fail
 refine HN.mono ?_
 rintro e w0 ⟨rfl,F0⟩
 have FF:=oH F0
 clear F0 HN
 have HK:=zAb c w0 i false [73,70] (HX.out.1.keep FF.out) (by rw [zBd HX.out.2.1 (by decide)];rfl)
 simp only [pt] at HK
 go_wp2_with fail
 refine HK.mono ?_
 rintro e u0 ⟨rfl,F1⟩
 have FG:=oH (FF.out.on F1)
 clear F1 HK FF
 have FF:=FG
 clear FG
 have HK:=zAb c u0 i false [67,65,83,69] (HX.out.1.keep FF.out) (by rw [zBd HX.out.2.1 (by decide)];rfl)
 simp only [pt] at HK
 go_wp2_with fail
 refine HK.mono ?_
 rintro e u1 ⟨rfl,F1⟩
 have FG:=oH (FF.out.on F1)
 clear F1 HK FF
 have FF:=FG
 clear FG
 have HK:=zAz c u1 i [87,72,73,76,69] (HX.out.1.keep FF.out) HX.out.2.1
 simp only [pt] at HK
 go_wp2_with fail
 refine HK.mono ?_
 rintro e wh ⟨rfl,F1,X1⟩
 have HH:=oH (oA (FF.out.up0 (N:=[c.R]) |>.on F1) X1)
 clear F1 X1 HK FF
 have HDN:=dnode wh 64 64 rfl (tk c.ts i) px py HX.out.2.2.1
 have HCR:Hid (c.R < wh.heap.size):=oH (by have:=HR0.out;have:=HH.out.1.size;omega)
 go_wp2_with fail
 refine HDN.mono ?_
 rintro e wn ⟨rfl,hwn⟩
 have HS0:Hid (SN c wh (nd 64 (tk c.ts i) [] 0) wh.heap.size (.ok [] (i+1)) 0 wn (.slice none 0 0) 0 []):=oH (by rw [hwn];exact SN.new _ HH.out.2)
 clear hwn HDN
 obtain⟨p,hp⟩:∃p,wh.heap.size=p:=⟨_,rfl⟩
 try rw [hp]
 have HS0':Hid (∃v n xs,v=Value.slice none 0 0∧SN c wh (nd 64 (tk c.ts i) [] 0) p (.ok [] (i+1)) 0 wn v n xs):=oH ⟨_,_,_,rfl,by rw [← hp];exact HS0.out⟩
 clear HS0
 obtain⟨v0,n0,xs0,hv0,hs0⟩:=HS0'.out
 have HA0:=oH hs0
 clear HS0' hs0 hv0
 have HO4:Hid ((needM c.ts [69,78,68] (kid B (needM c.ts [68,79] (kid (E0 c.ts) (ReL.ok [] (i+1))))))≠.out):=oH (by rw [← HX.out.2.2.2.2];exact HX.out.2.2.2.1)
 have HO3:Hid ((kid B (needM c.ts [68,79] (kid (E0 c.ts) (ReL.ok [] (i+1)))))≠.out):=oH (zBp HO4.out)
 have HO2:Hid ((needM c.ts [68,79] (kid (E0 c.ts) (ReL.ok [] (i+1))))≠.out):=oH (zDi HO3.out)
 have HO1:Hid ((kid (E0 c.ts) (ReL.ok [] (i+1)))≠.out):=oH (zBp HO2.out)
 obtain⟨j0,b0,X0,hst0⟩:=HA0.out.rf
 have HNE0:b0=false→(E0 c.ts) j0≠.out:=fun hb=>by
  rcases hst0 with⟨_,l,us,hr,_⟩ | ⟨hb2,_⟩
  ·exact zBm HO1.out hr
  ·rw [hb] at hb2;cases hb2
 have HR0:∀w1,Fr [] wn w1→Calls Tryz.prog 65 #[.pointer (some ⟨c.R,0,none⟩)] w1 fun e w'=>∃o a,encP o=.pointer a∧e=.returned (.pointer a)∧Fr [c.R] wn w'∧(b0=false→Itm c ((E0 c.ts)) j0 wn w' o)∧(b0=true→RF c w' j0 true):=fun w1 F1=>by
  refine( HEE.out w1 j0 b0 (X0.keep F1)  HNE0).mono ?_
  rintro e w' ⟨o,a,h1,h2,h3,h4,h5⟩
  exact⟨o,a,h1,h2,F1.up0.on h3,fun hb=>(h4 hb).low F1.size,h5⟩
 have HSS0:∀w':World,Fr [c.R] wn w'→(w'.cell? ⟨p,4,none⟩=some v0∧w'.frozen? ⟨p,4,none⟩=false):=fun w' F=>by
  have e3:=(F.block p (zAd HA0.out.nd) (by have:=HA0.out.hp;have:=HCR.out;simp;omega)).trans HA0.out.nd
  exact⟨(NodeAt.mk e3).c4,(NodeAt.mk e3).f 4⟩
 have HST0:=oH hst0
 have y4:=(HSS0 wn (Fr.refl _ _)).1
 have hrow0:∀w',Fr [c.R] wn w'→w'.ownsRow 0 26 1 v0 n0 xs0:=fun w' F=>zAf HA0.out.row F (fun q hq hm=>by
  have h1:=HA0.out.far q hq
  have h2:q=c.R:=by simpa using hm
  have:=HCR.out
  omega)
 have hnb0:=HA0.out.hn
 clear X0 HNE0 hst0
 go_wp2_with fail
 refine zAp 13 (S:=fun w'=>w'.cell? ⟨p,4,none⟩=some v0) (by kernel_rfl) ?_ (fun hHeld=>?_)
 ·exact(HSS0 _ (Fr.drew wn).up0).1
 refine aT 14 0 ?_
 refine aT 14 1 ?_
 refine aT 14 2 ?_
 refine aT 14 3 ?_
 refine aT 14 4 ?_
 refine aT 14 5 ?_
 refine aT 14 6 ?_
 refine aT 14 7 ?_
 refine zAa (rs:=[8]) (by kernel_rfl) (by simp) ?_
 refine AllL.cons rfl (fun K hK=>?_) ?_
 rotate_left
 ·exact AllL.nil
 go_simp
 refine(HR0 _ (Fr.drew wn)).mono ?_
 rintro e wb0 ⟨o0,a0,ha0,rfl,FB0,hi0,hb0⟩
 have H9:=(HSS0 wb0 FB0).1
 clear HR0
 go_wp2_with fail
 refine hK.out _ _ (H9) (fun hHeld=>?_)
 clear hK K
 try simp only[Act.put,oB,oC,oD,oE,oF,oG]
 refine zAa (rs:=[9]) (by kernel_rfl) (by simp) ?_
 refine AllL.cons rfl (fun K hK=>?_) ?_
 rotate_left
 ·exact AllL.nil
 go_simp
 have H9:=(HSS0 _ (FB0.on0 (Fr.alloc wb0 (.cells #[.pointer a0] 26)))).1
 refine hK.out _ _ (H9) (fun hHeld=>?_)
 clear hK K
 try simp only[Act.put,oB,oC,oD,oE,oF,oG]
 refine zAa (rs:=[10]) (by kernel_rfl) (by simp) ?_
 refine AllL.cons rfl (fun K hK=>?_) ?_
 rotate_left
 ·exact AllL.nil
 refine step_append_lies _ (by rfl) _ _ 38 (by rfl) 0 26 i0 _ 1 8 Tryz.underlying38 hi hz0 hz1 hz2 (by rfl) (by omega) v0 n0 _ (by rfl) ((hrow0 _ FB0).alloc _) ⟨wb0.heap.size,0,none⟩ 1 1 [.pointer a0] (by rfl) (by rfl) (new1 wb0 (.pointer a0) 26) (fun u hu=>(by simp at hu;subst hu;rfl)) (by omega) (by unfold maxLen;omega) (by omega) (Nat.zero_le _) (wb0.heap.size+1) (by simp) ?_
 intro g0 cap0 wd0 hown hgrow hat hlt
 have HE0:=oH (HA0.out.app HCR.out HST0.out ha0 FB0 hi0 hb0 hown hgrow hat)
 have H9:wd0.cell? ⟨p,4,none⟩=some v0∧wd0.frozen? ⟨p,4,none⟩=false:=by
  have n2:=(FB0.block p (zAd HA0.out.nd) (by have:=HA0.out.hp;have:=HCR.out;simp;omega)).trans HA0.out.nd
  have F12:Fr (obL v0) wb0 wd0:=((Fr.alloc wb0 _).up0).on (Fr.of_grown hgrow)
  have n6:=(F12.block p (zAd n2) (fun hm=>zAi HA0.out.row HA0.out.nd hm)).trans n2
  exact⟨(NodeAt.mk n6).c4,(NodeAt.mk n6).f 4⟩
 obtain⟨H9,f9⟩:=H9
 clear hown hgrow hat hlt hi0 hb0 FB0 HST0 hrow0 HSS0 y4 ha0
 refine hK.out _ _ (H9) (fun hHeld=>?_)
 clear hK K
 try simp only[Act.put,oB,oC,oD,oE,oF,oG]
 refine aT 14 11 ?_
 refine aT 14 12 ?_
 refine zAa (rs:=[13]) (by kernel_rfl) (by simp) ?_
 refine AllL.last rfl (by kernel_rfl) (fun K hK=>?_) ?_
 rotate_left
 ·exact AllL.nil
 go_simp
 refine hK.out _ _ ?_
 clear hK K
 try simp only[Act.put,oB,oC,oD,oE,oF,oG]
 refine zAl (by kernel_rfl) ?_ _
 obtain⟨wa0,hwa0⟩:∃wa,wd0.setCell ⟨p,4,none⟩ (.slice (some ⟨g0,0,none⟩) (n0+1) cap0)=wa:=⟨_,rfl⟩
 rw [hwa0] at HE0
 try rw [hwa0]
 clear H9 f9 hwa0
 obtain⟨v1,hv1⟩:∃v,Value.slice (some ⟨g0,0,none⟩) (n0+1) cap0=v:=⟨_,rfl⟩
 obtain⟨n1,hn1⟩:∃n,n0+1=n:=⟨_,rfl⟩
 obtain⟨xs1,hx1⟩:∃x,xs0++[Value.pointer a0]=x:=⟨_,rfl⟩
 rw [hn1] at hv1 HE0
 rw [hv1,hx1] at HE0
 clear hv1 hn1 hx1 HA0
 have HND1:=HE0.out.need HCR.out [68,79]
 go_wp2_with fail
 refine HND1.mono ?_
 rintro e wm1 ⟨rfl,FN1,hs⟩
 have HN1:=oH hs
 clear hs FN1 HND1
 obtain⟨v2,n2,xs2,he1,he2,he3⟩:∃v n xs,v1=v∧n1=n∧xs1=xs:=⟨_,_,_,rfl,rfl,rfl⟩
 rw [he1,he2,he3] at HN1
 clear he1 he2 he3
 obtain⟨j2,b2,X2,hst2⟩:=HN1.out.rf
 have HNE2:b2=false→B j2≠.out:=fun hb=>by
  rcases hst2 with⟨_,l,us,hr,_⟩ | ⟨hb2,_⟩
  ·exact zBm HO3.out hr
  ·rw [hb] at hb2;cases hb2
 have HR2:∀w1,Fr [] wm1 w1→Calls Tryz.prog 18 #[.pointer (some ⟨c.R,0,none⟩)] w1 fun e w'=>∃o a,encP o=.pointer a∧e=.returned (.pointer a)∧Fr [c.R] wm1 w'∧(b2=false→Itm c (B) j2 wm1 w' o)∧(b2=true→RF c w' j2 true):=fun w1 F1=>by
  refine( HBB.out w1 j2 b2 (X2.keep F1)  HNE2).mono ?_
  rintro e w' ⟨o,a,h1,h2,h3,h4,h5⟩
  exact⟨o,a,h1,h2,F1.up0.on h3,fun hb=>(h4 hb).low F1.size,h5⟩
 have HSS2:∀w':World,Fr [c.R] wm1 w'→(w'.cell? ⟨p,4,none⟩=some v2∧w'.frozen? ⟨p,4,none⟩=false):=fun w' F=>by
  have e3:=(F.block p (zAd HN1.out.nd) (by have:=HN1.out.hp;have:=HCR.out;simp;omega)).trans HN1.out.nd
  exact⟨(NodeAt.mk e3).c4,(NodeAt.mk e3).f 4⟩
 have HST2:=oH hst2
 have y4:=(HSS2 wm1 (Fr.refl _ _)).1
 have hrow2:∀w',Fr [c.R] wm1 w'→w'.ownsRow 0 26 1 v2 n2 xs2:=fun w' F=>zAf HN1.out.row F (fun q hq hm=>by
  have h1:=HN1.out.far q hq
  have h2:q=c.R:=by simpa using hm
  have:=HCR.out
  omega)
 have hnb2:=HN1.out.hn
 clear X2 HNE2 hst2
 go_wp2_with fail
 refine zAp 11 (S:=fun w'=>w'.cell? ⟨p,4,none⟩=some v2) (by kernel_rfl) ?_ (fun hHeld=>?_)
 ·exact(HSS2 _ (Fr.drew wm1).up0).1
 refine aT 14 0 ?_
 refine aT 14 1 ?_
 refine aT 14 2 ?_
 refine aT 14 3 ?_
 refine aT 14 4 ?_
 refine aT 14 5 ?_
 refine zAa (rs:=[6]) (by kernel_rfl) (by simp) ?_
 refine AllL.cons rfl (fun K hK=>?_) ?_
 rotate_left
 ·exact AllL.nil
 go_simp
 refine(HR2 _ (Fr.drew wm1)).mono ?_
 rintro e wb2 ⟨o2,a2,ha2,rfl,FB2,hi2,hb2⟩
 have H9:=(HSS2 wb2 FB2).1
 clear HR2
 go_wp2_with fail
 refine hK.out _ _ (H9) (fun hHeld=>?_)
 clear hK K
 try simp only[Act.put,oB,oC,oD,oE,oF,oG]
 refine zAa (rs:=[7]) (by kernel_rfl) (by simp) ?_
 refine AllL.cons rfl (fun K hK=>?_) ?_
 rotate_left
 ·exact AllL.nil
 go_simp
 have H9:=(HSS2 _ (FB2.on0 (Fr.alloc wb2 (.cells #[.pointer a2] 26)))).1
 refine hK.out _ _ (H9) (fun hHeld=>?_)
 clear hK K
 try simp only[Act.put,oB,oC,oD,oE,oF,oG]
 refine zAa (rs:=[8]) (by kernel_rfl) (by simp) ?_
 refine AllL.cons rfl (fun K hK=>?_) ?_
 rotate_left
 ·exact AllL.nil
 refine step_append_lies _ (by rfl) _ _ 38 (by rfl) 0 26 i0 _ 1 8 Tryz.underlying38 hi hz0 hz1 hz2 (by rfl) (by omega) v2 n2 _ (by rfl) ((hrow2 _ FB2).alloc _) ⟨wb2.heap.size,0,none⟩ 1 1 [.pointer a2] (by rfl) (by rfl) (new1 wb2 (.pointer a2) 26) (fun u hu=>(by simp at hu;subst hu;rfl)) (by omega) (by unfold maxLen;omega) (by omega) (Nat.zero_le _) (wb2.heap.size+1) (by simp) ?_
 intro g2 cap2 wd2 hown hgrow hat hlt
 have HE2:=oH (HN1.out.app HCR.out HST2.out ha2 FB2 hi2 hb2 hown hgrow hat)
 have H9:wd2.cell? ⟨p,4,none⟩=some v2∧wd2.frozen? ⟨p,4,none⟩=false:=by
  have n2:=(FB2.block p (zAd HN1.out.nd) (by have:=HN1.out.hp;have:=HCR.out;simp;omega)).trans HN1.out.nd
  have F12:Fr (obL v2) wb2 wd2:=((Fr.alloc wb2 _).up0).on (Fr.of_grown hgrow)
  have n6:=(F12.block p (zAd n2) (fun hm=>zAi HN1.out.row HN1.out.nd hm)).trans n2
  exact⟨(NodeAt.mk n6).c4,(NodeAt.mk n6).f 4⟩
 obtain⟨H9,f9⟩:=H9
 clear hown hgrow hat hlt hi2 hb2 FB2 HST2 hrow2 HSS2 y4 ha2
 refine hK.out _ _ (H9) (fun hHeld=>?_)
 clear hK K
 try simp only[Act.put,oB,oC,oD,oE,oF,oG]
 refine aT 14 9 ?_
 refine aT 14 10 ?_
 refine zAa (rs:=[11]) (by kernel_rfl) (by simp) ?_
 refine AllL.last rfl (by kernel_rfl) (fun K hK=>?_) ?_
 rotate_left
 ·exact AllL.nil
 go_simp
 refine hK.out _ _ ?_
 clear hK K
 try simp only[Act.put,oB,oC,oD,oE,oF,oG]
 refine zAl (by kernel_rfl) ?_ _
 obtain⟨wa2,hwa2⟩:∃wa,wd2.setCell ⟨p,4,none⟩ (.slice (some ⟨g2,0,none⟩) (n2+1) cap2)=wa:=⟨_,rfl⟩
 rw [hwa2] at HE2
 try rw [hwa2]
 clear H9 f9 hwa2
 obtain⟨v3,hv3⟩:∃v,Value.slice (some ⟨g2,0,none⟩) (n2+1) cap2=v:=⟨_,rfl⟩
 obtain⟨n3,hn3⟩:∃n,n2+1=n:=⟨_,rfl⟩
 obtain⟨xs3,hx3⟩:∃x,xs2++[Value.pointer a2]=x:=⟨_,rfl⟩
 rw [hn3] at hv3 HE2
 rw [hv3,hx3] at HE2
 clear hv3 hn3 hx3
 have HND3:=HE2.out.need HCR.out [69,78,68]
 go_wp2_with fail
 refine HND3.mono ?_
 rintro e wm3 ⟨rfl,FN3,hs⟩
 have HN3:=oH hs
 clear hs FN3 HND3
 obtain⟨v4,n4,xs4,he1,he2,he3⟩:∃v n xs,v3=v∧n3=n∧xs3=xs:=⟨_,_,_,rfl,rfl,rfl⟩
 rw [he1,he2,he3] at HN3
 clear he1 he2 he3
 go_wp2_with fail
 go_ret
 have ht:=HN3.out.tl (res:=RES.re fun l=>.node (nd 64 (tk c.ts i) [] 0) l) (by rw [HX.out.2.2.2.2])
 obtain⟨o,h1,h2,h3⟩:=ht.low (C':=w.heap.size) HH.out.1.size
 exact⟨o,h1,HH.out.1.on h2,h3⟩
theorem zWy (c:Rc) (hS:Scd c.ts) (B:Nat→Re) (hB:CF c 18 B) (w:World) (i:Nat) (h:RF c w i false) (hq:isW (tk c.ts i) [82,69,80,69,65,84]=true) (RES:ReL) (hRES:RES≠.out) (hmod:RES=kid (E0 c.ts) (needM c.ts [85,78,84,73,76] (kid B (.ok [] (i+1))))) :
  Calls Tryz.prog 35 #[.pointer (some ⟨c.R,0,none⟩)] w (Tl c w.heap.size w (RES.re fun l=>.node (nd 65 (tk c.ts i) [] 0) l)):=by
 obtain⟨i0,hi,hz0,hz1,hz2⟩:=info_parts infoP
 obtain⟨px,py,e1⟩:=zAc (tk c.ts i).2.1.1 (tk c.ts i).2.1.2
 obtain⟨ex,ey,e2⟩:=zAc (tk c.ts i).2.2.1 (tk c.ts i).2.2.2
 have hfd:=zBb
 have HN:=zAo c w i false h px py ex ey e1 e2
 have HX:=oH (oA h (oA hq (oA e1 (oA hRES hmod))))
 have HBB:=oH hB
 have HEE:=oH (zBn c hS)
 have HDD:=oH (zBx c (E0 c.ts) (zAr _) (zBl c hS _))
 have HR0:=oH h.lt
 clear h hq e1 e2 hB hRES hmod hS
 generalize ((tk c.ts i).1.k:Int)=t0 at *
 generalize (⟨(tk c.ts i).1.x.toArray⟩:ByteArray)=t3 at *
 generalize (tk c.ts i).1.n=t4 at *
 go_enter Tryz.func35,Tryz.ntmps35
 go_wp2_with fail
 refine HN.mono ?_
 rintro e w0 ⟨rfl,F0⟩
 have FF:=oH F0
 clear F0 HN
 have HK:=zAb c w0 i false [73,70] (HX.out.1.keep FF.out) (by rw [zBd HX.out.2.1 (by decide)];rfl)
 simp only [pt] at HK
 go_wp2_with fail
 refine HK.mono ?_
 rintro e u0 ⟨rfl,F1⟩
 have FG:=oH (FF.out.on F1)
 clear F1 HK FF
 have FF:=FG
 clear FG
 have HK:=zAb c u0 i false [67,65,83,69] (HX.out.1.keep FF.out) (by rw [zBd HX.out.2.1 (by decide)];rfl)
 simp only [pt] at HK
 go_wp2_with fail
 refine HK.mono ?_
 rintro e u1 ⟨rfl,F1⟩
 have FG:=oH (FF.out.on F1)
 clear F1 HK FF
 have FF:=FG
 clear FG
 have HK:=zAb c u1 i false [87,72,73,76,69] (HX.out.1.keep FF.out) (by rw [zBd HX.out.2.1 (by decide)];rfl)
 simp only [pt] at HK
 go_wp2_with fail
 refine HK.mono ?_
 rintro e u2 ⟨rfl,F1⟩
 have FG:=oH (FF.out.on F1)
 clear F1 HK FF
 have FF:=FG
 clear FG
 have HK:=zAz c u2 i [82,69,80,69,65,84] (HX.out.1.keep FF.out) HX.out.2.1
 simp only [pt] at HK
 go_wp2_with fail
 refine HK.mono ?_
 rintro e wh ⟨rfl,F1,X1⟩
 have HH:=oH (oA (FF.out.up0 (N:=[c.R]) |>.on F1) X1)
 clear F1 X1 HK FF
 have HDN:=dnode wh 65 65 rfl (tk c.ts i) px py HX.out.2.2.1
 have HCR:Hid (c.R < wh.heap.size):=oH (by have:=HR0.out;have:=HH.out.1.size;omega)
 go_wp2_with fail
 refine HDN.mono ?_
 rintro e wn ⟨rfl,hwn⟩
 have HS0:Hid (SN c wh (nd 65 (tk c.ts i) [] 0) wh.heap.size (.ok [] (i+1)) 0 wn (.slice none 0 0) 0 []):=oH (by rw [hwn];exact SN.new _ HH.out.2)
 clear hwn HDN
 obtain⟨p,hp⟩:∃p,wh.heap.size=p:=⟨_,rfl⟩
 try rw [hp]
 have HS0':Hid (∃v n xs,v=Value.slice none 0 0∧SN c wh (nd 65 (tk c.ts i) [] 0) p (.ok [] (i+1)) 0 wn v n xs):=oH ⟨_,_,_,rfl,by rw [← hp];exact HS0.out⟩
 clear HS0
 obtain⟨v0,n0,xs0,hv0,hs0⟩:=HS0'.out
 have HA0:=oH hs0
 clear HS0' hs0 hv0
 have HO3:Hid ((kid (E0 c.ts) (needM c.ts [85,78,84,73,76] (kid B (ReL.ok [] (i+1)))))≠.out):=oH (by rw [← HX.out.2.2.2.2];exact HX.out.2.2.2.1)
 have HO2:Hid ((needM c.ts [85,78,84,73,76] (kid B (ReL.ok [] (i+1))))≠.out):=oH (zDi HO3.out)
 have HO1:Hid ((kid B (ReL.ok [] (i+1)))≠.out):=oH (zBp HO2.out)
 obtain⟨j0,b0,X0,hst0⟩:=HA0.out.rf
 have HNE0:b0=false→B j0≠.out:=fun hb=>by
  rcases hst0 with⟨_,l,us,hr,_⟩ | ⟨hb2,_⟩
  ·exact zBm HO1.out hr
  ·rw [hb] at hb2;cases hb2
 have HR0:∀w1,Fr [] wn w1→Calls Tryz.prog 18 #[.pointer (some ⟨c.R,0,none⟩)] w1 fun e w'=>∃o a,encP o=.pointer a∧e=.returned (.pointer a)∧Fr [c.R] wn w'∧(b0=false→Itm c (B) j0 wn w' o)∧(b0=true→RF c w' j0 true):=fun w1 F1=>by
  refine( HBB.out w1 j0 b0 (X0.keep F1)  HNE0).mono ?_
  rintro e w' ⟨o,a,h1,h2,h3,h4,h5⟩
  exact⟨o,a,h1,h2,F1.up0.on h3,fun hb=>(h4 hb).low F1.size,h5⟩
 have HSS0:∀w':World,Fr [c.R] wn w'→(w'.cell? ⟨p,4,none⟩=some v0∧w'.frozen? ⟨p,4,none⟩=false):=fun w' F=>by
  have e3:=(F.block p (zAd HA0.out.nd) (by have:=HA0.out.hp;have:=HCR.out;simp;omega)).trans HA0.out.nd
  exact⟨(NodeAt.mk e3).c4,(NodeAt.mk e3).f 4⟩
 have HST0:=oH hst0
 have y4:=(HSS0 wn (Fr.refl _ _)).1
 have hrow0:∀w',Fr [c.R] wn w'→w'.ownsRow 0 26 1 v0 n0 xs0:=fun w' F=>zAf HA0.out.row F (fun q hq hm=>by
  have h1:=HA0.out.far q hq
  have h2:q=c.R:=by simpa using hm
  have:=HCR.out
  omega)
 have hnb0:=HA0.out.hn
 clear X0 HNE0 hst0
 go_wp2_with fail
 refine zAp 11 (S:=fun w'=>w'.cell? ⟨p,4,none⟩=some v0) (by kernel_rfl) ?_ (fun hHeld=>?_)
 ·exact(HSS0 _ (Fr.drew wn).up0).1
 refine aT 14 0 ?_
 refine aT 14 1 ?_
 refine aT 14 2 ?_
 refine aT 14 3 ?_
 refine aT 14 4 ?_
 refine aT 14 5 ?_
 refine zAa (rs:=[6]) (by kernel_rfl) (by simp) ?_
 refine AllL.cons rfl (fun K hK=>?_) ?_
 rotate_left
 ·exact AllL.nil
 go_simp
 refine(HR0 _ (Fr.drew wn)).mono ?_
 rintro e wb0 ⟨o0,a0,ha0,rfl,FB0,hi0,hb0⟩
 have H9:=(HSS0 wb0 FB0).1
 clear HR0
 go_wp2_with fail
 refine hK.out _ _ (H9) (fun hHeld=>?_)
 clear hK K
 try simp only[Act.put,oB,oC,oD,oE,oF,oG]
 refine zAa (rs:=[7]) (by kernel_rfl) (by simp) ?_
 refine AllL.cons rfl (fun K hK=>?_) ?_
 rotate_left
 ·exact AllL.nil
 go_simp
 have H9:=(HSS0 _ (FB0.on0 (Fr.alloc wb0 (.cells #[.pointer a0] 26)))).1
 refine hK.out _ _ (H9) (fun hHeld=>?_)
 clear hK K
 try simp only[Act.put,oB,oC,oD,oE,oF,oG]
 refine zAa (rs:=[8]) (by kernel_rfl) (by simp) ?_
 refine AllL.cons rfl (fun K hK=>?_) ?_
 rotate_left
 ·exact AllL.nil
 refine step_append_lies _ (by rfl) _ _ 38 (by rfl) 0 26 i0 _ 1 8 Tryz.underlying38 hi hz0 hz1 hz2 (by rfl) (by omega) v0 n0 _ (by rfl) ((hrow0 _ FB0).alloc _) ⟨wb0.heap.size,0,none⟩ 1 1 [.pointer a0] (by rfl) (by rfl) (new1 wb0 (.pointer a0) 26) (fun u hu=>(by simp at hu;subst hu;rfl)) (by omega) (by unfold maxLen;omega) (by omega) (Nat.zero_le _) (wb0.heap.size+1) (by simp) ?_
 intro g0 cap0 wd0 hown hgrow hat hlt
 have HE0:=oH (HA0.out.app HCR.out HST0.out ha0 FB0 hi0 hb0 hown hgrow hat)
 have H9:wd0.cell? ⟨p,4,none⟩=some v0∧wd0.frozen? ⟨p,4,none⟩=false:=by
  have n2:=(FB0.block p (zAd HA0.out.nd) (by have:=HA0.out.hp;have:=HCR.out;simp;omega)).trans HA0.out.nd
  have F12:Fr (obL v0) wb0 wd0:=((Fr.alloc wb0 _).up0).on (Fr.of_grown hgrow)
  have n6:=(F12.block p (zAd n2) (fun hm=>zAi HA0.out.row HA0.out.nd hm)).trans n2
  exact⟨(NodeAt.mk n6).c4,(NodeAt.mk n6).f 4⟩
 obtain⟨H9,f9⟩:=H9
 clear hown hgrow hat hlt hi0 hb0 FB0 HST0 hrow0 HSS0 y4 ha0
 refine hK.out _ _ (H9) (fun hHeld=>?_)
 clear hK K
 try simp only[Act.put,oB,oC,oD,oE,oF,oG]
 refine aT 14 9 ?_
 refine aT 14 10 ?_
 refine zAa (rs:=[11]) (by kernel_rfl) (by simp) ?_
 refine AllL.last rfl (by kernel_rfl) (fun K hK=>?_) ?_
 rotate_left
 ·exact AllL.nil
 go_simp
 refine hK.out _ _ ?_
 clear hK K
 try simp only[Act.put,oB,oC,oD,oE,oF,oG]
 refine zAl (by kernel_rfl) ?_ _
 obtain⟨wa0,hwa0⟩:∃wa,wd0.setCell ⟨p,4,none⟩ (.slice (some ⟨g0,0,none⟩) (n0+1) cap0)=wa:=⟨_,rfl⟩
 rw [hwa0] at HE0
 try rw [hwa0]
 clear H9 f9 hwa0
 obtain⟨v1,hv1⟩:∃v,Value.slice (some ⟨g0,0,none⟩) (n0+1) cap0=v:=⟨_,rfl⟩
 obtain⟨n1,hn1⟩:∃n,n0+1=n:=⟨_,rfl⟩
 obtain⟨xs1,hx1⟩:∃x,xs0++[Value.pointer a0]=x:=⟨_,rfl⟩
 rw [hn1] at hv1 HE0
 rw [hv1,hx1] at HE0
 clear hv1 hn1 hx1 HA0
 have HND1:=HE0.out.need HCR.out [85,78,84,73,76]
 go_wp2_with fail
 refine HND1.mono ?_
 rintro e wm1 ⟨rfl,FN1,hs⟩
 have HN1:=oH hs
 clear hs FN1 HND1
 obtain⟨v2,n2,xs2,he1,he2,he3⟩:∃v n xs,v1=v∧n1=n∧xs1=xs:=⟨_,_,_,rfl,rfl,rfl⟩
 rw [he1,he2,he3] at HN1
 clear he1 he2 he3
 obtain⟨j2,b2,X2,hst2⟩:=HN1.out.rf
 have HNE2:b2=false→(E0 c.ts) j2≠.out:=fun hb=>by
  rcases hst2 with⟨_,l,us,hr,_⟩ | ⟨hb2,_⟩
  ·exact zBm HO3.out hr
  ·rw [hb] at hb2;cases hb2
 have HR2:∀w1,Fr [] wm1 w1→Calls Tryz.prog 65 #[.pointer (some ⟨c.R,0,none⟩)] w1 fun e w'=>∃o a,encP o=.pointer a∧e=.returned (.pointer a)∧Fr [c.R] wm1 w'∧(b2=false→Itm c ((E0 c.ts)) j2 wm1 w' o)∧(b2=true→RF c w' j2 true):=fun w1 F1=>by
  refine( HEE.out w1 j2 b2 (X2.keep F1)  HNE2).mono ?_
  rintro e w' ⟨o,a,h1,h2,h3,h4,h5⟩
  exact⟨o,a,h1,h2,F1.up0.on h3,fun hb=>(h4 hb).low F1.size,h5⟩
 have HSS2:∀w':World,Fr [c.R] wm1 w'→(w'.cell? ⟨p,4,none⟩=some v2∧w'.frozen? ⟨p,4,none⟩=false):=fun w' F=>by
  have e3:=(F.block p (zAd HN1.out.nd) (by have:=HN1.out.hp;have:=HCR.out;simp;omega)).trans HN1.out.nd
  exact⟨(NodeAt.mk e3).c4,(NodeAt.mk e3).f 4⟩
 have HST2:=oH hst2
 have y4:=(HSS2 wm1 (Fr.refl _ _)).1
 have hrow2:∀w',Fr [c.R] wm1 w'→w'.ownsRow 0 26 1 v2 n2 xs2:=fun w' F=>zAf HN1.out.row F (fun q hq hm=>by
  have h1:=HN1.out.far q hq
  have h2:q=c.R:=by simpa using hm
  have:=HCR.out
  omega)
 have hnb2:=HN1.out.hn
 clear X2 HNE2 hst2
 go_wp2_with fail
 refine zAp 13 (S:=fun w'=>w'.cell? ⟨p,4,none⟩=some v2) (by kernel_rfl) ?_ (fun hHeld=>?_)
 ·exact(HSS2 _ (Fr.drew wm1).up0).1
 refine aT 14 0 ?_
 refine aT 14 1 ?_
 refine aT 14 2 ?_
 refine aT 14 3 ?_
 refine aT 14 4 ?_
 refine aT 14 5 ?_
 refine aT 14 6 ?_
 refine aT 14 7 ?_
 refine zAa (rs:=[8]) (by kernel_rfl) (by simp) ?_
 refine AllL.cons rfl (fun K hK=>?_) ?_
 rotate_left
 ·exact AllL.nil
 go_simp
 refine(HR2 _ (Fr.drew wm1)).mono ?_
 rintro e wb2 ⟨o2,a2,ha2,rfl,FB2,hi2,hb2⟩
 have H9:=(HSS2 wb2 FB2).1
 clear HR2
 go_wp2_with fail
 refine hK.out _ _ (H9) (fun hHeld=>?_)
 clear hK K
 try simp only[Act.put,oB,oC,oD,oE,oF,oG]
 refine zAa (rs:=[9]) (by kernel_rfl) (by simp) ?_
 refine AllL.cons rfl (fun K hK=>?_) ?_
 rotate_left
 ·exact AllL.nil
 go_simp
 have H9:=(HSS2 _ (FB2.on0 (Fr.alloc wb2 (.cells #[.pointer a2] 26)))).1
 refine hK.out _ _ (H9) (fun hHeld=>?_)
 clear hK K
 try simp only[Act.put,oB,oC,oD,oE,oF,oG]
 refine zAa (rs:=[10]) (by kernel_rfl) (by simp) ?_
 refine AllL.cons rfl (fun K hK=>?_) ?_
 rotate_left
 ·exact AllL.nil
 refine step_append_lies _ (by rfl) _ _ 38 (by rfl) 0 26 i0 _ 1 8 Tryz.underlying38 hi hz0 hz1 hz2 (by rfl) (by omega) v2 n2 _ (by rfl) ((hrow2 _ FB2).alloc _) ⟨wb2.heap.size,0,none⟩ 1 1 [.pointer a2] (by rfl) (by rfl) (new1 wb2 (.pointer a2) 26) (fun u hu=>(by simp at hu;subst hu;rfl)) (by omega) (by unfold maxLen;omega) (by omega) (Nat.zero_le _) (wb2.heap.size+1) (by simp) ?_
 intro g2 cap2 wd2 hown hgrow hat hlt
 have HE2:=oH (HN1.out.app HCR.out HST2.out ha2 FB2 hi2 hb2 hown hgrow hat)
 have H9:wd2.cell? ⟨p,4,none⟩=some v2∧wd2.frozen? ⟨p,4,none⟩=false:=by
  have n2:=(FB2.block p (zAd HN1.out.nd) (by have:=HN1.out.hp;have:=HCR.out;simp;omega)).trans HN1.out.nd
  have F12:Fr (obL v2) wb2 wd2:=((Fr.alloc wb2 _).up0).on (Fr.of_grown hgrow)
  have n6:=(F12.block p (zAd n2) (fun hm=>zAi HN1.out.row HN1.out.nd hm)).trans n2
  exact⟨(NodeAt.mk n6).c4,(NodeAt.mk n6).f 4⟩
 obtain⟨H9,f9⟩:=H9
 clear hown hgrow hat hlt hi2 hb2 FB2 HST2 hrow2 HSS2 y4 ha2
 refine hK.out _ _ (H9) (fun hHeld=>?_)
 clear hK K
 try simp only[Act.put,oB,oC,oD,oE,oF,oG]
 refine aT 14 11 ?_
 refine aT 14 12 ?_
 refine zAa (rs:=[13]) (by kernel_rfl) (by simp) ?_
 refine AllL.last rfl (by kernel_rfl) (fun K hK=>?_) ?_
 rotate_left
 ·exact AllL.nil
 go_simp
 refine hK.out _ _ ?_
 clear hK K
 try simp only[Act.put,oB,oC,oD,oE,oF,oG]
 refine zAl (by kernel_rfl) ?_ _
 obtain⟨wa2,hwa2⟩:∃wa,wd2.setCell ⟨p,4,none⟩ (.slice (some ⟨g2,0,none⟩) (n2+1) cap2)=wa:=⟨_,rfl⟩
 rw [hwa2] at HE2
 try rw [hwa2]
 clear H9 f9 hwa2
 obtain⟨v3,hv3⟩:∃v,Value.slice (some ⟨g2,0,none⟩) (n2+1) cap2=v:=⟨_,rfl⟩
 obtain⟨n3,hn3⟩:∃n,n2+1=n:=⟨_,rfl⟩
 obtain⟨xs3,hx3⟩:∃x,xs2++[Value.pointer a2]=x:=⟨_,rfl⟩
 rw [hn3] at hv3 HE2
 rw [hv3,hx3] at HE2
 clear hv3 hn3 hx3
 go_wp2_with fail
 go_ret
 have ht:=HE2.out.tl (res:=RES.re fun l=>.node (nd 65 (tk c.ts i) [] 0) l) (by rw [HX.out.2.2.2.2])
 obtain⟨o,h1,h2,h3⟩:=ht.low (C':=w.heap.size) HH.out.1.size
 exact⟨o,h1,HH.out.1.on h2,h3⟩
theorem zWz (c:Rc) (hS:Scd c.ts) (B:Nat→Re) (hB:CF c 18 B) (w:World) (i:Nat) (h:RF c w i false) (hq:isW (tk c.ts i) [76,79,79,80]=true) (RES:ReL) (hRES:RES≠.out) (hmod:RES=needM c.ts [69,78,68] (kid B (.ok [] (i+1)))) :
  Calls Tryz.prog 35 #[.pointer (some ⟨c.R,0,none⟩)] w (Tl c w.heap.size w (RES.re fun l=>.node (nd 66 (tk c.ts i) [] 0) l)):=by
 obtain⟨i0,hi,hz0,hz1,hz2⟩:=info_parts infoP
 obtain⟨px,py,e1⟩:=zAc (tk c.ts i).2.1.1 (tk c.ts i).2.1.2
 obtain⟨ex,ey,e2⟩:=zAc (tk c.ts i).2.2.1 (tk c.ts i).2.2.2
 have hfd:=zBb
 have HN:=zAo c w i false h px py ex ey e1 e2
 have HX:=oH (oA h (oA hq (oA e1 (oA hRES hmod))))
 have HBB:=oH hB
 have HEE:=oH (zBn c hS)
 have HDD:=oH (zBx c (E0 c.ts) (zAr _) (zBl c hS _))
 have HR0:=oH h.lt
 clear h hq e1 e2 hB hRES hmod hS
 generalize ((tk c.ts i).1.k:Int)=t0 at *
 generalize (⟨(tk c.ts i).1.x.toArray⟩:ByteArray)=t3 at *
 generalize (tk c.ts i).1.n=t4 at *
 go_enter Tryz.func35,Tryz.ntmps35
 go_wp2_with fail
 refine HN.mono ?_
 rintro e w0 ⟨rfl,F0⟩
 have FF:=oH F0
 clear F0 HN
 have HK:=zAb c w0 i false [73,70] (HX.out.1.keep FF.out) (by rw [zBd HX.out.2.1 (by decide)];rfl)
 simp only [pt] at HK
 go_wp2_with fail
 refine HK.mono ?_
 rintro e u0 ⟨rfl,F1⟩
 have FG:=oH (FF.out.on F1)
 clear F1 HK FF
 have FF:=FG
 clear FG
 have HK:=zAb c u0 i false [67,65,83,69] (HX.out.1.keep FF.out) (by rw [zBd HX.out.2.1 (by decide)];rfl)
 simp only [pt] at HK
 go_wp2_with fail
 refine HK.mono ?_
 rintro e u1 ⟨rfl,F1⟩
 have FG:=oH (FF.out.on F1)
 clear F1 HK FF
 have FF:=FG
 clear FG
 have HK:=zAb c u1 i false [87,72,73,76,69] (HX.out.1.keep FF.out) (by rw [zBd HX.out.2.1 (by decide)];rfl)
 simp only [pt] at HK
 go_wp2_with fail
 refine HK.mono ?_
 rintro e u2 ⟨rfl,F1⟩
 have FG:=oH (FF.out.on F1)
 clear F1 HK FF
 have FF:=FG
 clear FG
 have HK:=zAb c u2 i false [82,69,80,69,65,84] (HX.out.1.keep FF.out) (by rw [zBd HX.out.2.1 (by decide)];rfl)
 simp only [pt] at HK
 go_wp2_with fail
 refine HK.mono ?_
 rintro e u3 ⟨rfl,F1⟩
 have FG:=oH (FF.out.on F1)
 clear F1 HK FF
 have FF:=FG
 clear FG
 have HK:=zAz c u3 i [76,79,79,80] (HX.out.1.keep FF.out) HX.out.2.1
 simp only [pt] at HK
 go_wp2_with fail
 refine HK.mono ?_
 rintro e wh ⟨rfl,F1,X1⟩
 have HH:=oH (oA (FF.out.up0 (N:=[c.R]) |>.on F1) X1)
 clear F1 X1 HK FF
 have HDN:=dnode wh 66 66 rfl (tk c.ts i) px py HX.out.2.2.1
 have HCR:Hid (c.R < wh.heap.size):=oH (by have:=HR0.out;have:=HH.out.1.size;omega)
 go_wp2_with fail
 refine HDN.mono ?_
 rintro e wn ⟨rfl,hwn⟩
 have HS0:Hid (SN c wh (nd 66 (tk c.ts i) [] 0) wh.heap.size (.ok [] (i+1)) 0 wn (.slice none 0 0) 0 []):=oH (by rw [hwn];exact SN.new _ HH.out.2)
 clear hwn HDN
 obtain⟨p,hp⟩:∃p,wh.heap.size=p:=⟨_,rfl⟩
 try rw [hp]
 have HS0':Hid (∃v n xs,v=Value.slice none 0 0∧SN c wh (nd 66 (tk c.ts i) [] 0) p (.ok [] (i+1)) 0 wn v n xs):=oH ⟨_,_,_,rfl,by rw [← hp];exact HS0.out⟩
 clear HS0
 obtain⟨v0,n0,xs0,hv0,hs0⟩:=HS0'.out
 have HA0:=oH hs0
 clear HS0' hs0 hv0
 have HO2:Hid ((needM c.ts [69,78,68] (kid B (ReL.ok [] (i+1))))≠.out):=oH (by rw [← HX.out.2.2.2.2];exact HX.out.2.2.2.1)
 have HO1:Hid ((kid B (ReL.ok [] (i+1)))≠.out):=oH (zBp HO2.out)
 obtain⟨j0,b0,X0,hst0⟩:=HA0.out.rf
 have HNE0:b0=false→B j0≠.out:=fun hb=>by
  rcases hst0 with⟨_,l,us,hr,_⟩ | ⟨hb2,_⟩
  ·exact zBm HO1.out hr
  ·rw [hb] at hb2;cases hb2
 have HR0:∀w1,Fr [] wn w1→Calls Tryz.prog 18 #[.pointer (some ⟨c.R,0,none⟩)] w1 fun e w'=>∃o a,encP o=.pointer a∧e=.returned (.pointer a)∧Fr [c.R] wn w'∧(b0=false→Itm c (B) j0 wn w' o)∧(b0=true→RF c w' j0 true):=fun w1 F1=>by
  refine( HBB.out w1 j0 b0 (X0.keep F1)  HNE0).mono ?_
  rintro e w' ⟨o,a,h1,h2,h3,h4,h5⟩
  exact⟨o,a,h1,h2,F1.up0.on h3,fun hb=>(h4 hb).low F1.size,h5⟩
 have HSS0:∀w':World,Fr [c.R] wn w'→(w'.cell? ⟨p,4,none⟩=some v0∧w'.frozen? ⟨p,4,none⟩=false):=fun w' F=>by
  have e3:=(F.block p (zAd HA0.out.nd) (by have:=HA0.out.hp;have:=HCR.out;simp;omega)).trans HA0.out.nd
  exact⟨(NodeAt.mk e3).c4,(NodeAt.mk e3).f 4⟩
 have HST0:=oH hst0
 have y4:=(HSS0 wn (Fr.refl _ _)).1
 have hrow0:∀w',Fr [c.R] wn w'→w'.ownsRow 0 26 1 v0 n0 xs0:=fun w' F=>zAf HA0.out.row F (fun q hq hm=>by
  have h1:=HA0.out.far q hq
  have h2:q=c.R:=by simpa using hm
  have:=HCR.out
  omega)
 have hnb0:=HA0.out.hn
 clear X0 HNE0 hst0
 go_wp2_with fail
 refine zAp 11 (S:=fun w'=>w'.cell? ⟨p,4,none⟩=some v0) (by kernel_rfl) ?_ (fun hHeld=>?_)
 ·exact(HSS0 _ (Fr.drew wn).up0).1
 refine aT 14 0 ?_
 refine aT 14 1 ?_
 refine aT 14 2 ?_
 refine aT 14 3 ?_
 refine aT 14 4 ?_
 refine aT 14 5 ?_
 refine zAa (rs:=[6]) (by kernel_rfl) (by simp) ?_
 refine AllL.cons rfl (fun K hK=>?_) ?_
 rotate_left
 ·exact AllL.nil
 go_simp
 refine(HR0 _ (Fr.drew wn)).mono ?_
 rintro e wb0 ⟨o0,a0,ha0,rfl,FB0,hi0,hb0⟩
 have H9:=(HSS0 wb0 FB0).1
 clear HR0
 go_wp2_with fail
 refine hK.out _ _ (H9) (fun hHeld=>?_)
 clear hK K
 try simp only[Act.put,oB,oC,oD,oE,oF,oG]
 refine zAa (rs:=[7]) (by kernel_rfl) (by simp) ?_
 refine AllL.cons rfl (fun K hK=>?_) ?_
 rotate_left
 ·exact AllL.nil
 go_simp
 have H9:=(HSS0 _ (FB0.on0 (Fr.alloc wb0 (.cells #[.pointer a0] 26)))).1
 refine hK.out _ _ (H9) (fun hHeld=>?_)
 clear hK K
 try simp only[Act.put,oB,oC,oD,oE,oF,oG]
 refine zAa (rs:=[8]) (by kernel_rfl) (by simp) ?_
 refine AllL.cons rfl (fun K hK=>?_) ?_
 rotate_left
 ·exact AllL.nil
 refine step_append_lies _ (by rfl) _ _ 38 (by rfl) 0 26 i0 _ 1 8 Tryz.underlying38 hi hz0 hz1 hz2 (by rfl) (by omega) v0 n0 _ (by rfl) ((hrow0 _ FB0).alloc _) ⟨wb0.heap.size,0,none⟩ 1 1 [.pointer a0] (by rfl) (by rfl) (new1 wb0 (.pointer a0) 26) (fun u hu=>(by simp at hu;subst hu;rfl)) (by omega) (by unfold maxLen;omega) (by omega) (Nat.zero_le _) (wb0.heap.size+1) (by simp) ?_
 intro g0 cap0 wd0 hown hgrow hat hlt
 have HE0:=oH (HA0.out.app HCR.out HST0.out ha0 FB0 hi0 hb0 hown hgrow hat)
 have H9:wd0.cell? ⟨p,4,none⟩=some v0∧wd0.frozen? ⟨p,4,none⟩=false:=by
  have n2:=(FB0.block p (zAd HA0.out.nd) (by have:=HA0.out.hp;have:=HCR.out;simp;omega)).trans HA0.out.nd
  have F12:Fr (obL v0) wb0 wd0:=((Fr.alloc wb0 _).up0).on (Fr.of_grown hgrow)
  have n6:=(F12.block p (zAd n2) (fun hm=>zAi HA0.out.row HA0.out.nd hm)).trans n2
  exact⟨(NodeAt.mk n6).c4,(NodeAt.mk n6).f 4⟩
 obtain⟨H9,f9⟩:=H9
 clear hown hgrow hat hlt hi0 hb0 FB0 HST0 hrow0 HSS0 y4 ha0
 refine hK.out _ _ (H9) (fun hHeld=>?_)
 clear hK K
 try simp only[Act.put,oB,oC,oD,oE,oF,oG]
 refine aT 14 9 ?_
 refine aT 14 10 ?_
 refine zAa (rs:=[11]) (by kernel_rfl) (by simp) ?_
 refine AllL.last rfl (by kernel_rfl) (fun K hK=>?_) ?_
 rotate_left
 ·exact AllL.nil
 go_simp
 refine hK.out _ _ ?_
 clear hK K
 try simp only[Act.put,oB,oC,oD,oE,oF,oG]
 refine zAl (by kernel_rfl) ?_ _
 obtain⟨wa0,hwa0⟩:∃wa,wd0.setCell ⟨p,4,none⟩ (.slice (some ⟨g0,0,none⟩) (n0+1) cap0)=wa:=⟨_,rfl⟩
 rw [hwa0] at HE0
 try rw [hwa0]
 clear H9 f9 hwa0
 obtain⟨v1,hv1⟩:∃v,Value.slice (some ⟨g0,0,none⟩) (n0+1) cap0=v:=⟨_,rfl⟩
 obtain⟨n1,hn1⟩:∃n,n0+1=n:=⟨_,rfl⟩
 obtain⟨xs1,hx1⟩:∃x,xs0++[Value.pointer a0]=x:=⟨_,rfl⟩
 rw [hn1] at hv1 HE0
 rw [hv1,hx1] at HE0
 clear hv1 hn1 hx1 HA0
 have HND1:=HE0.out.need HCR.out [69,78,68]
 go_wp2_with fail
 refine HND1.mono ?_
 rintro e wm1 ⟨rfl,FN1,hs⟩
 have HN1:=oH hs
 clear hs FN1 HND1
 obtain⟨v2,n2,xs2,he1,he2,he3⟩:∃v n xs,v1=v∧n1=n∧xs1=xs:=⟨_,_,_,rfl,rfl,rfl⟩
 rw [he1,he2,he3] at HN1
 clear he1 he2 he3
 go_wp2_with fail
 go_ret
 have ht:=HN1.out.tl (res:=RES.re fun l=>.node (nd 66 (tk c.ts i) [] 0) l) (by rw [HX.out.2.2.2.2])
 obtain⟨o,h1,h2,h3⟩:=ht.low (C':=w.heap.size) HH.out.1.size
 exact⟨o,h1,HH.out.1.on h2,h3⟩
theorem zXa (c:Rc) (hS:Scd c.ts) (B:Nat→Re) (hB:CF c 18 B) (w:World) (i:Nat) (h:RF c w i false) (hq:isW (tk c.ts i) [87,73,84,72]=true) (RES:ReL) (hRES:RES≠.out) (hmod:RES=needM c.ts [69,78,68] (kid B (needM c.ts [68,79] (kid (D0 c.ts) (.ok [] (i+1)))))) :
  Calls Tryz.prog 35 #[.pointer (some ⟨c.R,0,none⟩)] w (Tl c w.heap.size w (RES.re fun l=>.node (nd 69 (tk c.ts i) [] 0) l)):=by
 obtain⟨i0,hi,hz0,hz1,hz2⟩:=info_parts infoP
 obtain⟨px,py,e1⟩:=zAc (tk c.ts i).2.1.1 (tk c.ts i).2.1.2
 obtain⟨ex,ey,e2⟩:=zAc (tk c.ts i).2.2.1 (tk c.ts i).2.2.2
 have hfd:=zBb
 have HN:=zAo c w i false h px py ex ey e1 e2
 have HX:=oH (oA h (oA hq (oA e1 (oA hRES hmod))))
 have HBB:=oH hB
 have HEE:=oH (zBn c hS)
 have HDD:=oH (zBx c (E0 c.ts) (zAr _) (zBl c hS _))
 have HR0:=oH h.lt
 clear h hq e1 e2 hB hRES hmod hS
 generalize ((tk c.ts i).1.k:Int)=t0 at *
 generalize (⟨(tk c.ts i).1.x.toArray⟩:ByteArray)=t3 at *
 generalize (tk c.ts i).1.n=t4 at *
 go_enter Tryz.func35,Tryz.ntmps35
 go_wp2_with fail
 refine HN.mono ?_
 rintro e w0 ⟨rfl,F0⟩
 have FF:=oH F0
 clear F0 HN
 have HK:=zAb c w0 i false [73,70] (HX.out.1.keep FF.out) (by rw [zBd HX.out.2.1 (by decide)];rfl)
 simp only [pt] at HK
 go_wp2_with fail
 refine HK.mono ?_
 rintro e u0 ⟨rfl,F1⟩
 have FG:=oH (FF.out.on F1)
 clear F1 HK FF
 have FF:=FG
 clear FG
 have HK:=zAb c u0 i false [67,65,83,69] (HX.out.1.keep FF.out) (by rw [zBd HX.out.2.1 (by decide)];rfl)
 simp only [pt] at HK
 go_wp2_with fail
 refine HK.mono ?_
 rintro e u1 ⟨rfl,F1⟩
 have FG:=oH (FF.out.on F1)
 clear F1 HK FF
 have FF:=FG
 clear FG
 have HK:=zAb c u1 i false [87,72,73,76,69] (HX.out.1.keep FF.out) (by rw [zBd HX.out.2.1 (by decide)];rfl)
 simp only [pt] at HK
 go_wp2_with fail
 refine HK.mono ?_
 rintro e u2 ⟨rfl,F1⟩
 have FG:=oH (FF.out.on F1)
 clear F1 HK FF
 have FF:=FG
 clear FG
 have HK:=zAb c u2 i false [82,69,80,69,65,84] (HX.out.1.keep FF.out) (by rw [zBd HX.out.2.1 (by decide)];rfl)
 simp only [pt] at HK
 go_wp2_with fail
 refine HK.mono ?_
 rintro e u3 ⟨rfl,F1⟩
 have FG:=oH (FF.out.on F1)
 clear F1 HK FF
 have FF:=FG
 clear FG
 have HK:=zAb c u3 i false [76,79,79,80] (HX.out.1.keep FF.out) (by rw [zBd HX.out.2.1 (by decide)];rfl)
 simp only [pt] at HK
 go_wp2_with fail
 refine HK.mono ?_
 rintro e u4 ⟨rfl,F1⟩
 have FG:=oH (FF.out.on F1)
 clear F1 HK FF
 have FF:=FG
 clear FG
 have HK:=zAb c u4 i false [69,88,73,84] (HX.out.1.keep FF.out) (by rw [zBd HX.out.2.1 (by decide)];rfl)
 simp only [pt] at HK
 go_wp2_with fail
 refine HK.mono ?_
 rintro e u5 ⟨rfl,F1⟩
 have FG:=oH (FF.out.on F1)
 clear F1 HK FF
 have FF:=FG
 clear FG
 have HK:=zAb c u5 i false [70,79,82] (HX.out.1.keep FF.out) (by rw [zBd HX.out.2.1 (by decide)];rfl)
 simp only [pt] at HK
 go_wp2_with fail
 refine HK.mono ?_
 rintro e u6 ⟨rfl,F1⟩
 have FG:=oH (FF.out.on F1)
 clear F1 HK FF
 have FF:=FG
 clear FG
 have HK:=zAz c u6 i [87,73,84,72] (HX.out.1.keep FF.out) HX.out.2.1
 simp only [pt] at HK
 go_wp2_with fail
 refine HK.mono ?_
 rintro e wh ⟨rfl,F1,X1⟩
 have HH:=oH (oA (FF.out.up0 (N:=[c.R]) |>.on F1) X1)
 clear F1 X1 HK FF
 have HDN:=dnode wh 69 69 rfl (tk c.ts i) px py HX.out.2.2.1
 have HCR:Hid (c.R < wh.heap.size):=oH (by have:=HR0.out;have:=HH.out.1.size;omega)
 go_wp2_with fail
 refine HDN.mono ?_
 rintro e wn ⟨rfl,hwn⟩
 have HS0:Hid (SN c wh (nd 69 (tk c.ts i) [] 0) wh.heap.size (.ok [] (i+1)) 0 wn (.slice none 0 0) 0 []):=oH (by rw [hwn];exact SN.new _ HH.out.2)
 clear hwn HDN
 obtain⟨p,hp⟩:∃p,wh.heap.size=p:=⟨_,rfl⟩
 try rw [hp]
 have HS0':Hid (∃v n xs,v=Value.slice none 0 0∧SN c wh (nd 69 (tk c.ts i) [] 0) p (.ok [] (i+1)) 0 wn v n xs):=oH ⟨_,_,_,rfl,by rw [← hp];exact HS0.out⟩
 clear HS0
 obtain⟨v0,n0,xs0,hv0,hs0⟩:=HS0'.out
 have HA0:=oH hs0
 clear HS0' hs0 hv0
 have HO4:Hid ((needM c.ts [69,78,68] (kid B (needM c.ts [68,79] (kid (D0 c.ts) (ReL.ok [] (i+1))))))≠.out):=oH (by rw [← HX.out.2.2.2.2];exact HX.out.2.2.2.1)
 have HO3:Hid ((kid B (needM c.ts [68,79] (kid (D0 c.ts) (ReL.ok [] (i+1)))))≠.out):=oH (zBp HO4.out)
 have HO2:Hid ((needM c.ts [68,79] (kid (D0 c.ts) (ReL.ok [] (i+1))))≠.out):=oH (zDi HO3.out)
 have HO1:Hid ((kid (D0 c.ts) (ReL.ok [] (i+1)))≠.out):=oH (zBp HO2.out)
 obtain⟨j0,b0,X0,hst0⟩:=HA0.out.rf
 have HNE0:b0=false→(D0 c.ts) j0≠.out:=fun hb=>by
  rcases hst0 with⟨_,l,us,hr,_⟩ | ⟨hb2,_⟩
  ·exact zBm HO1.out hr
  ·rw [hb] at hb2;cases hb2
 have hgd0:b0=false:=by
  rcases hst0 with⟨h,_⟩ | ⟨_,h⟩
  ·exact h
  ·cases h
 have HR0:∀w1,Fr [] wn w1→Calls Tryz.prog 68 #[.pointer (some ⟨c.R,0,none⟩)] w1 fun e w'=>∃o a,encP o=.pointer a∧e=.returned (.pointer a)∧Fr [c.R] wn w'∧(b0=false→Itm c ((D0 c.ts)) j0 wn w' o)∧(b0=true→RF c w' j0 true):=fun w1 F1=>by
  refine(zUj HDD.out w1 j0 b0 (X0.keep F1) hgd0 HNE0).mono ?_
  rintro e w' ⟨o,a,h1,h2,h3,h4,h5⟩
  exact⟨o,a,h1,h2,F1.up0.on h3,fun hb=>(h4 hb).low F1.size,h5⟩
 have HSS0:∀w':World,Fr [c.R] wn w'→(w'.cell? ⟨p,4,none⟩=some v0∧w'.frozen? ⟨p,4,none⟩=false):=fun w' F=>by
  have e3:=(F.block p (zAd HA0.out.nd) (by have:=HA0.out.hp;have:=HCR.out;simp;omega)).trans HA0.out.nd
  exact⟨(NodeAt.mk e3).c4,(NodeAt.mk e3).f 4⟩
 have HST0:=oH hst0
 have y4:=(HSS0 wn (Fr.refl _ _)).1
 have hrow0:∀w',Fr [c.R] wn w'→w'.ownsRow 0 26 1 v0 n0 xs0:=fun w' F=>zAf HA0.out.row F (fun q hq hm=>by
  have h1:=HA0.out.far q hq
  have h2:q=c.R:=by simpa using hm
  have:=HCR.out
  omega)
 have hnb0:=HA0.out.hn
 clear X0 HNE0 hst0
 go_wp2_with fail
 refine zAp 13 (S:=fun w'=>w'.cell? ⟨p,4,none⟩=some v0) (by kernel_rfl) ?_ (fun hHeld=>?_)
 ·exact(HSS0 _ (Fr.drew wn).up0).1
 refine aT 14 0 ?_
 refine aT 14 1 ?_
 refine aT 14 2 ?_
 refine aT 14 3 ?_
 refine aT 14 4 ?_
 refine aT 14 5 ?_
 refine aT 14 6 ?_
 refine aT 14 7 ?_
 refine zAa (rs:=[8]) (by kernel_rfl) (by simp) ?_
 refine AllL.cons rfl (fun K hK=>?_) ?_
 rotate_left
 ·exact AllL.nil
 go_simp
 refine(HR0 _ (Fr.drew wn)).mono ?_
 rintro e wb0 ⟨o0,a0,ha0,rfl,FB0,hi0,hb0⟩
 have H9:=(HSS0 wb0 FB0).1
 clear HR0
 go_wp2_with fail
 refine hK.out _ _ (H9) (fun hHeld=>?_)
 clear hK K
 try simp only[Act.put,oB,oC,oD,oE,oF,oG]
 refine zAa (rs:=[9]) (by kernel_rfl) (by simp) ?_
 refine AllL.cons rfl (fun K hK=>?_) ?_
 rotate_left
 ·exact AllL.nil
 go_simp
 have H9:=(HSS0 _ (FB0.on0 (Fr.alloc wb0 (.cells #[.pointer a0] 26)))).1
 refine hK.out _ _ (H9) (fun hHeld=>?_)
 clear hK K
 try simp only[Act.put,oB,oC,oD,oE,oF,oG]
 refine zAa (rs:=[10]) (by kernel_rfl) (by simp) ?_
 refine AllL.cons rfl (fun K hK=>?_) ?_
 rotate_left
 ·exact AllL.nil
 refine step_append_lies _ (by rfl) _ _ 38 (by rfl) 0 26 i0 _ 1 8 Tryz.underlying38 hi hz0 hz1 hz2 (by rfl) (by omega) v0 n0 _ (by rfl) ((hrow0 _ FB0).alloc _) ⟨wb0.heap.size,0,none⟩ 1 1 [.pointer a0] (by rfl) (by rfl) (new1 wb0 (.pointer a0) 26) (fun u hu=>(by simp at hu;subst hu;rfl)) (by omega) (by unfold maxLen;omega) (by omega) (Nat.zero_le _) (wb0.heap.size+1) (by simp) ?_
 intro g0 cap0 wd0 hown hgrow hat hlt
 have HE0:=oH (HA0.out.app HCR.out HST0.out ha0 FB0 hi0 hb0 hown hgrow hat)
 have H9:wd0.cell? ⟨p,4,none⟩=some v0∧wd0.frozen? ⟨p,4,none⟩=false:=by
  have n2:=(FB0.block p (zAd HA0.out.nd) (by have:=HA0.out.hp;have:=HCR.out;simp;omega)).trans HA0.out.nd
  have F12:Fr (obL v0) wb0 wd0:=((Fr.alloc wb0 _).up0).on (Fr.of_grown hgrow)
  have n6:=(F12.block p (zAd n2) (fun hm=>zAi HA0.out.row HA0.out.nd hm)).trans n2
  exact⟨(NodeAt.mk n6).c4,(NodeAt.mk n6).f 4⟩
 obtain⟨H9,f9⟩:=H9
 clear hown hgrow hat hlt hi0 hb0 FB0 HST0 hrow0 HSS0 y4 ha0
 refine hK.out _ _ (H9) (fun hHeld=>?_)
 clear hK K
 try simp only[Act.put,oB,oC,oD,oE,oF,oG]
 refine aT 14 11 ?_
 refine aT 14 12 ?_
 refine zAa (rs:=[13]) (by kernel_rfl) (by simp) ?_
 refine AllL.last rfl (by kernel_rfl) (fun K hK=>?_) ?_
 rotate_left
 ·exact AllL.nil
 go_simp
 refine hK.out _ _ ?_
 clear hK K
 try simp only[Act.put,oB,oC,oD,oE,oF,oG]
 refine zAl (by kernel_rfl) ?_ _
 obtain⟨wa0,hwa0⟩:∃wa,wd0.setCell ⟨p,4,none⟩ (.slice (some ⟨g0,0,none⟩) (n0+1) cap0)=wa:=⟨_,rfl⟩
 rw [hwa0] at HE0
 try rw [hwa0]
 clear H9 f9 hwa0
 obtain⟨v1,hv1⟩:∃v,Value.slice (some ⟨g0,0,none⟩) (n0+1) cap0=v:=⟨_,rfl⟩
 obtain⟨n1,hn1⟩:∃n,n0+1=n:=⟨_,rfl⟩
 obtain⟨xs1,hx1⟩:∃x,xs0++[Value.pointer a0]=x:=⟨_,rfl⟩
 rw [hn1] at hv1 HE0
 rw [hv1,hx1] at HE0
 clear hv1 hn1 hx1 HA0
 have HND1:=HE0.out.need HCR.out [68,79]
 go_wp2_with fail
 refine HND1.mono ?_
 rintro e wm1 ⟨rfl,FN1,hs⟩
 have HN1:=oH hs
 clear hs FN1 HND1
 obtain⟨v2,n2,xs2,he1,he2,he3⟩:∃v n xs,v1=v∧n1=n∧xs1=xs:=⟨_,_,_,rfl,rfl,rfl⟩
 rw [he1,he2,he3] at HN1
 clear he1 he2 he3
 obtain⟨j2,b2,X2,hst2⟩:=HN1.out.rf
 have HNE2:b2=false→B j2≠.out:=fun hb=>by
  rcases hst2 with⟨_,l,us,hr,_⟩ | ⟨hb2,_⟩
  ·exact zBm HO3.out hr
  ·rw [hb] at hb2;cases hb2
 have HR2:∀w1,Fr [] wm1 w1→Calls Tryz.prog 18 #[.pointer (some ⟨c.R,0,none⟩)] w1 fun e w'=>∃o a,encP o=.pointer a∧e=.returned (.pointer a)∧Fr [c.R] wm1 w'∧(b2=false→Itm c (B) j2 wm1 w' o)∧(b2=true→RF c w' j2 true):=fun w1 F1=>by
  refine( HBB.out w1 j2 b2 (X2.keep F1)  HNE2).mono ?_
  rintro e w' ⟨o,a,h1,h2,h3,h4,h5⟩
  exact⟨o,a,h1,h2,F1.up0.on h3,fun hb=>(h4 hb).low F1.size,h5⟩
 have HSS2:∀w':World,Fr [c.R] wm1 w'→(w'.cell? ⟨p,4,none⟩=some v2∧w'.frozen? ⟨p,4,none⟩=false):=fun w' F=>by
  have e3:=(F.block p (zAd HN1.out.nd) (by have:=HN1.out.hp;have:=HCR.out;simp;omega)).trans HN1.out.nd
  exact⟨(NodeAt.mk e3).c4,(NodeAt.mk e3).f 4⟩
 have HST2:=oH hst2
 have y4:=(HSS2 wm1 (Fr.refl _ _)).1
 have hrow2:∀w',Fr [c.R] wm1 w'→w'.ownsRow 0 26 1 v2 n2 xs2:=fun w' F=>zAf HN1.out.row F (fun q hq hm=>by
  have h1:=HN1.out.far q hq
  have h2:q=c.R:=by simpa using hm
  have:=HCR.out
  omega)
 have hnb2:=HN1.out.hn
 clear X2 HNE2 hst2
 go_wp2_with fail
 refine zAp 11 (S:=fun w'=>w'.cell? ⟨p,4,none⟩=some v2) (by kernel_rfl) ?_ (fun hHeld=>?_)
 ·exact(HSS2 _ (Fr.drew wm1).up0).1
 refine aT 14 0 ?_
 refine aT 14 1 ?_
 refine aT 14 2 ?_
 refine aT 14 3 ?_
 refine aT 14 4 ?_
 refine aT 14 5 ?_
 refine zAa (rs:=[6]) (by kernel_rfl) (by simp) ?_
 refine AllL.cons rfl (fun K hK=>?_) ?_
 rotate_left
 ·exact AllL.nil
 go_simp
 refine(HR2 _ (Fr.drew wm1)).mono ?_
 rintro e wb2 ⟨o2,a2,ha2,rfl,FB2,hi2,hb2⟩
 have H9:=(HSS2 wb2 FB2).1
 clear HR2
 go_wp2_with fail
 refine hK.out _ _ (H9) (fun hHeld=>?_)
 clear hK K
 try simp only[Act.put,oB,oC,oD,oE,oF,oG]
 refine zAa (rs:=[7]) (by kernel_rfl) (by simp) ?_
 refine AllL.cons rfl (fun K hK=>?_) ?_
 rotate_left
 ·exact AllL.nil
 go_simp
 have H9:=(HSS2 _ (FB2.on0 (Fr.alloc wb2 (.cells #[.pointer a2] 26)))).1
 refine hK.out _ _ (H9) (fun hHeld=>?_)
 clear hK K
 try simp only[Act.put,oB,oC,oD,oE,oF,oG]
 refine zAa (rs:=[8]) (by kernel_rfl) (by simp) ?_
 refine AllL.cons rfl (fun K hK=>?_) ?_
 rotate_left
 ·exact AllL.nil
 refine step_append_lies _ (by rfl) _ _ 38 (by rfl) 0 26 i0 _ 1 8 Tryz.underlying38 hi hz0 hz1 hz2 (by rfl) (by omega) v2 n2 _ (by rfl) ((hrow2 _ FB2).alloc _) ⟨wb2.heap.size,0,none⟩ 1 1 [.pointer a2] (by rfl) (by rfl) (new1 wb2 (.pointer a2) 26) (fun u hu=>(by simp at hu;subst hu;rfl)) (by omega) (by unfold maxLen;omega) (by omega) (Nat.zero_le _) (wb2.heap.size+1) (by simp) ?_
 intro g2 cap2 wd2 hown hgrow hat hlt
 have HE2:=oH (HN1.out.app HCR.out HST2.out ha2 FB2 hi2 hb2 hown hgrow hat)
 have H9:wd2.cell? ⟨p,4,none⟩=some v2∧wd2.frozen? ⟨p,4,none⟩=false:=by
  have n2:=(FB2.block p (zAd HN1.out.nd) (by have:=HN1.out.hp;have:=HCR.out;simp;omega)).trans HN1.out.nd
  have F12:Fr (obL v2) wb2 wd2:=((Fr.alloc wb2 _).up0).on (Fr.of_grown hgrow)
  have n6:=(F12.block p (zAd n2) (fun hm=>zAi HN1.out.row HN1.out.nd hm)).trans n2
  exact⟨(NodeAt.mk n6).c4,(NodeAt.mk n6).f 4⟩
 obtain⟨H9,f9⟩:=H9
 clear hown hgrow hat hlt hi2 hb2 FB2 HST2 hrow2 HSS2 y4 ha2
 refine hK.out _ _ (H9) (fun hHeld=>?_)
 clear hK K
 try simp only[Act.put,oB,oC,oD,oE,oF,oG]
 refine aT 14 9 ?_
 refine aT 14 10 ?_
 refine zAa (rs:=[11]) (by kernel_rfl) (by simp) ?_
 refine AllL.last rfl (by kernel_rfl) (fun K hK=>?_) ?_
 rotate_left
 ·exact AllL.nil
 go_simp
 refine hK.out _ _ ?_
 clear hK K
 try simp only[Act.put,oB,oC,oD,oE,oF,oG]
 refine zAl (by kernel_rfl) ?_ _
 obtain⟨wa2,hwa2⟩:∃wa,wd2.setCell ⟨p,4,none⟩ (.slice (some ⟨g2,0,none⟩) (n2+1) cap2)=wa:=⟨_,rfl⟩
 rw [hwa2] at HE2
 try rw [hwa2]
 clear H9 f9 hwa2
 obtain⟨v3,hv3⟩:∃v,Value.slice (some ⟨g2,0,none⟩) (n2+1) cap2=v:=⟨_,rfl⟩
 obtain⟨n3,hn3⟩:∃n,n2+1=n:=⟨_,rfl⟩
 obtain⟨xs3,hx3⟩:∃x,xs2++[Value.pointer a2]=x:=⟨_,rfl⟩
 rw [hn3] at hv3 HE2
 rw [hv3,hx3] at HE2
 clear hv3 hn3 hx3
 have HND3:=HE2.out.need HCR.out [69,78,68]
 go_wp2_with fail
 refine HND3.mono ?_
 rintro e wm3 ⟨rfl,FN3,hs⟩
 have HN3:=oH hs
 clear hs FN3 HND3
 obtain⟨v4,n4,xs4,he1,he2,he3⟩:∃v n xs,v3=v∧n3=n∧xs3=xs:=⟨_,_,_,rfl,rfl,rfl⟩
 rw [he1,he2,he3] at HN3
 clear he1 he2 he3
 go_wp2_with fail
 go_ret
 have ht:=HN3.out.tl (res:=RES.re fun l=>.node (nd 69 (tk c.ts i) [] 0) l) (by rw [HX.out.2.2.2.2])
 obtain⟨o,h1,h2,h3⟩:=ht.low (C':=w.heap.size) HH.out.1.size
 exact⟨o,h1,HH.out.1.on h2,h3⟩
theorem zXb (c:Rc) (hS:Scd c.ts) (B:Nat→Re) (hB:CF c 18 B) (w:World) (i:Nat) (h:RF c w i false) (hq:isW (tk c.ts i) [69,88,73,84]=true) (RES:ReL) (hRES:RES≠.out) (hmod:RES=.ok [] (i+1)) :
  Calls Tryz.prog 35 #[.pointer (some ⟨c.R,0,none⟩)] w (Tl c w.heap.size w (RES.re fun l=>.node (nd 67 (tk c.ts i) [] 0) l)):=by
 obtain⟨i0,hi,hz0,hz1,hz2⟩:=info_parts infoP
 obtain⟨px,py,e1⟩:=zAc (tk c.ts i).2.1.1 (tk c.ts i).2.1.2
 obtain⟨ex,ey,e2⟩:=zAc (tk c.ts i).2.2.1 (tk c.ts i).2.2.2
 have hfd:=zBb
 have HN:=zAo c w i false h px py ex ey e1 e2
 have HX:=oH (oA h (oA hq (oA e1 (oA hRES hmod))))
 have HBB:=oH hB
 have HEE:=oH (zBn c hS)
 have HDD:=oH (zBx c (E0 c.ts) (zAr _) (zBl c hS _))
 have HR0:=oH h.lt
 clear h hq e1 e2 hB hRES hmod hS
 generalize ((tk c.ts i).1.k:Int)=t0 at *
 generalize (⟨(tk c.ts i).1.x.toArray⟩:ByteArray)=t3 at *
 generalize (tk c.ts i).1.n=t4 at *
 go_enter Tryz.func35,Tryz.ntmps35
 go_wp2_with fail
 refine HN.mono ?_
 rintro e w0 ⟨rfl,F0⟩
 have FF:=oH F0
 clear F0 HN
 have HK:=zAb c w0 i false [73,70] (HX.out.1.keep FF.out) (by rw [zBd HX.out.2.1 (by decide)];rfl)
 simp only [pt] at HK
 go_wp2_with fail
 refine HK.mono ?_
 rintro e u0 ⟨rfl,F1⟩
 have FG:=oH (FF.out.on F1)
 clear F1 HK FF
 have FF:=FG
 clear FG
 have HK:=zAb c u0 i false [67,65,83,69] (HX.out.1.keep FF.out) (by rw [zBd HX.out.2.1 (by decide)];rfl)
 simp only [pt] at HK
 go_wp2_with fail
 refine HK.mono ?_
 rintro e u1 ⟨rfl,F1⟩
 have FG:=oH (FF.out.on F1)
 clear F1 HK FF
 have FF:=FG
 clear FG
 have HK:=zAb c u1 i false [87,72,73,76,69] (HX.out.1.keep FF.out) (by rw [zBd HX.out.2.1 (by decide)];rfl)
 simp only [pt] at HK
 go_wp2_with fail
 refine HK.mono ?_
 rintro e u2 ⟨rfl,F1⟩
 have FG:=oH (FF.out.on F1)
 clear F1 HK FF
 have FF:=FG
 clear FG
 have HK:=zAb c u2 i false [82,69,80,69,65,84] (HX.out.1.keep FF.out) (by rw [zBd HX.out.2.1 (by decide)];rfl)
 simp only [pt] at HK
 go_wp2_with fail
 refine HK.mono ?_
 rintro e u3 ⟨rfl,F1⟩
 have FG:=oH (FF.out.on F1)
 clear F1 HK FF
 have FF:=FG
 clear FG
 have HK:=zAb c u3 i false [76,79,79,80] (HX.out.1.keep FF.out) (by rw [zBd HX.out.2.1 (by decide)];rfl)
 simp only [pt] at HK
 go_wp2_with fail
 refine HK.mono ?_
 rintro e u4 ⟨rfl,F1⟩
 have FG:=oH (FF.out.on F1)
 clear F1 HK FF
 have FF:=FG
 clear FG
 have HK:=zAz c u4 i [69,88,73,84] (HX.out.1.keep FF.out) HX.out.2.1
 simp only [pt] at HK
 go_wp2_with fail
 refine HK.mono ?_
 rintro e wh ⟨rfl,F1,X1⟩
 have HH:=oH (oA (FF.out.up0 (N:=[c.R]) |>.on F1) X1)
 clear F1 X1 HK FF
 have HDN:=dnode wh 67 67 rfl (tk c.ts i) px py HX.out.2.2.1
 have HCR:Hid (c.R < wh.heap.size):=oH (by have:=HR0.out;have:=HH.out.1.size;omega)
 go_wp2_with fail
 refine HDN.mono ?_
 rintro e wn ⟨rfl,hwn⟩
 have HS0:Hid (SN c wh (nd 67 (tk c.ts i) [] 0) wh.heap.size (.ok [] (i+1)) 0 wn (.slice none 0 0) 0 []):=oH (by rw [hwn];exact SN.new _ HH.out.2)
 clear hwn HDN
 obtain⟨p,hp⟩:∃p,wh.heap.size=p:=⟨_,rfl⟩
 try rw [hp]
 have HS0':Hid (∃v n xs,v=Value.slice none 0 0∧SN c wh (nd 67 (tk c.ts i) [] 0) p (.ok [] (i+1)) 0 wn v n xs):=oH ⟨_,_,_,rfl,by rw [← hp];exact HS0.out⟩
 clear HS0
 obtain⟨v0,n0,xs0,hv0,hs0⟩:=HS0'.out
 have HA0:=oH hs0
 clear HS0' hs0 hv0
 have HO0:Hid ((ReL.ok [] (i+1))≠.out):=oH (by rw [← HX.out.2.2.2.2];exact HX.out.2.2.2.1)
 go_wp2_with fail
 go_ret
 have ht:=HA0.out.tl (res:=RES.re fun l=>.node (nd 67 (tk c.ts i) [] 0) l) (by rw [HX.out.2.2.2.2])
 obtain⟨o,h1,h2,h3⟩:=ht.low (C':=w.heap.size) HH.out.1.size
 exact⟨o,h1,HH.out.1.on h2,h3⟩
end Go.Proofs.YtepfknfadpkigaaGreat
end
