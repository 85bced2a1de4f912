/- Several texts in one. -/
import Derived.Test.YtepfknfadpkigaaGreatPkAA
import Derived.Test.YtepfknfadpkigaaGreatPkBI
import Derived.Test.YtepfknfadpkigaaGreatPkAW
set_option linter.unusedVariables false
set_option linter.unusedSimpArgs false
section
namespace Go.Proofs.YtepfknfadpkigaaGreat
open Go.RowKit
set_option maxHeartbeats 4000000
set_option maxRecDepth 100000
theorem zMh {c:Rc} {w0:World} {d:ND} {p:Nat} {l:List DT} {j N:Nat} {w:World} {v:Value} {n:Nat} {xs:List Value} (h:SN c w0 d p (.ok l j) N w v n xs) (hR:c.R < w0.heap.size) (u:Tr) (hu:IsT w (fun q=>w0.heap.size≤q∧q≠p∧q ∉ obL v) u)
  {w6:World} {g cap:Nat} {cc:Obj} (hown:w6.ownsRow 0 26 1 (.slice (some ⟨g,0,none⟩) (n+1) cap) (n+1) (xs++[ptrV u.p])) (hgrow:(w.alloc cc).grownBy w6 v.ownBlock) (hat:v.ownBlock=some g∨g=w.heap.size+1) :
  SN c w0 d p (.ok (l++[u.dt]) j) (N+1) (w6.setCell ⟨p,4,none⟩ (.slice (some ⟨g,0,none⟩) (n+1) cap)) (.slice (some ⟨g,0,none⟩) (n+1) cap) (n+1) (xs++[ptrV u.p]):=by
 have h1:=h.app hR (M:=fun _=>.bad 0) (j:=j) (b:=true) (w2:=w) (o:=some u.p) (a:=some ⟨u.p,0,none⟩) (cc:=cc) (g:=g) (cap:=cap) (w6:=w6)
 have hs:=h.fr.size
 have hpl:=zAd h.nd
 have hF:=zHe (p:=p) (w5:=w) hgrow (.slice (some ⟨g,0,none⟩) (n+1) cap)
 have hpv:p ∉ obL v:=fun hm=>zAi h.row h.nd hm
 have F12:Fr (obL v) w w6:=((Fr.alloc w cc).up0).on (Fr.of_grown hgrow)
 have n6:w6.heap[p]?=some (nodeO d v):=(F12.block p hpl hpv).trans h.nd
 have hg:w0.heap.size≤g:=by
  rcases hat with h2 | h2
  ·exact h.far g ((zBc v g).2 h2)
  ·omega
 have hpg:p≠g:=fun e=>by
  subst e
  rcases hat with h2 | h2
  ·exact hpv ((zBc v p).2 h2)
  ·omega
 have hob:∀q,q ∈ obL (.slice (some ⟨g,0,none⟩) (n+1) cap)→q=g:=fun q hq=>by simpa [obL,Value.ownBlock] using hq
 have hRq:∀q ∈ p::obL v,c.R < q:=fun q hq=>by
  rcases List.mem_cons.1 hq with rfl | hq
  ·have:=h.hp;omega
  ·have:=h.far q hq;omega
 clear h1
 refine⟨h.fr.trans hF (fun q hq=>.inr ?_),h.hp,by simp [World.setCell,Array.getElem?_modify,n6,nodeO],zAf hown (Fr.set w6 p 4 _) (fun q hq hm=>?_),by have:=h.hn;omega,fun q hq=>by rw [hob q hq];exact hg,?_⟩
 ·rcases List.mem_cons.1 hq with rfl | hq
  ·exact h.hp
  ·exact h.far q hq
 ·have e1:=hob q hq
  have e2:q=p:=by simpa using hm
  omega
 ·rcases h.st with⟨l',j',us,hr,X,hK,hl,rfl,rfl⟩ | ⟨j',hr,_⟩
  ·injection hr with h2 h3
   subst h2 h3
   refine .inl ⟨l++[u.dt],j,us++[u],rfl,X.stay hF hRq,qBe hK u hu cc g cap hs hown hgrow hat,?_,by simp,by simp⟩
   rw [zDp,hl];rfl
  ·cases hr
theorem zBi {t:TK} (h:t.1.k=1) (s:List UInt8):isW t s=false:=by unfold isW;rw [h];rfl
theorem zXj (c:Rc) (hS:Scd c.ts) (w:World) (i:Nat) (h:RF c w i false) (hk:(tk c.ts i).1.k=1) (hne:namM c.ts i≠.out) (hna:∀d j,D0 c.ts i=.ok d j→isS (tk c.ts j) [58,61]=true) (hgood:∀j,D0 c.ts i≠.bad j) :
  Calls Tryz.prog 35 #[.pointer (some ⟨c.R,0,none⟩)] w (Tl c w.heap.size w (namM c.ts i)):=by
 obtain⟨i0,hi,hz0,hz1,hz2⟩:=info_parts infoP
 obtain⟨px,py,e1⟩:=zAc (tk c.ts i).2.1.1 (tk c.ts i).2.1.2
 obtain⟨ex,ey,e2⟩:=zAc (tk c.ts i).2.2.1 (tk c.ts i).2.2.2
 have hfd:=zBb
 have HN:=zAo c w i false h px py ex ey e1 e2
 have HX:=oH (oA h (oA hk (oA e1 (oA hne hna))))
 have HEE:=oH (zBn c hS)
 have HDD:=oH (zBx c (E0 c.ts) (zAr _) (zBl c hS _))
 have HCR:Hid (c.R < w.heap.size):=oH h.lt
 have HGD:=oH hgood
 clear hgood
 have HUN:Hid (namM c.ts i=(D0 c.ts i).bnd fun x j=>if isS (tk c.ts j) [58,61]=true then (E0 c.ts (j+1)).bnd fun y k=>.ok (.node (nd 60 (tk c.ts j) [] 0) [x,y]) k else (argM c.ts j).re fun l=>.node (nd 61 (tk c.ts i) [] 0) (x::l)):=oH rfl
 clear h hk e1 e2 hne hS hna
 generalize ((tk c.ts i).1.k:Int)=t0 at *
 generalize (⟨(tk c.ts i).1.x.toArray⟩:ByteArray)=t3 at *
 generalize (tk c.ts i).1.n=t4 at *
 go_enter Tryz.func35,Tryz.ntmps35
 go_wp2_with fail
 refine HN.mono ?_
 rintro e w0 ⟨rfl,F0⟩
 have FF:=oH F0
 clear F0 HN
 have HK:=zAb c w0 i false [73,70] (HX.out.1.keep FF.out) (by rw [zBi HX.out.2.1];rfl)
 simp only [pt] at HK
 go_wp2_with fail
 refine HK.mono ?_
 rintro e u0 ⟨rfl,F1⟩
 have FG:=oH (FF.out.on F1)
 clear F1 HK FF
 have FF:=FG
 clear FG
 have HK:=zAb c u0 i false [67,65,83,69] (HX.out.1.keep FF.out) (by rw [zBi HX.out.2.1];rfl)
 simp only [pt] at HK
 go_wp2_with fail
 refine HK.mono ?_
 rintro e u1 ⟨rfl,F1⟩
 have FG:=oH (FF.out.on F1)
 clear F1 HK FF
 have FF:=FG
 clear FG
 have HK:=zAb c u1 i false [87,72,73,76,69] (HX.out.1.keep FF.out) (by rw [zBi HX.out.2.1];rfl)
 simp only [pt] at HK
 go_wp2_with fail
 refine HK.mono ?_
 rintro e u2 ⟨rfl,F1⟩
 have FG:=oH (FF.out.on F1)
 clear F1 HK FF
 have FF:=FG
 clear FG
 have HK:=zAb c u2 i false [82,69,80,69,65,84] (HX.out.1.keep FF.out) (by rw [zBi HX.out.2.1];rfl)
 simp only [pt] at HK
 go_wp2_with fail
 refine HK.mono ?_
 rintro e u3 ⟨rfl,F1⟩
 have FG:=oH (FF.out.on F1)
 clear F1 HK FF
 have FF:=FG
 clear FG
 have HK:=zAb c u3 i false [76,79,79,80] (HX.out.1.keep FF.out) (by rw [zBi HX.out.2.1];rfl)
 simp only [pt] at HK
 go_wp2_with fail
 refine HK.mono ?_
 rintro e u4 ⟨rfl,F1⟩
 have FG:=oH (FF.out.on F1)
 clear F1 HK FF
 have FF:=FG
 clear FG
 have HK:=zAb c u4 i false [69,88,73,84] (HX.out.1.keep FF.out) (by rw [zBi HX.out.2.1];rfl)
 simp only [pt] at HK
 go_wp2_with fail
 refine HK.mono ?_
 rintro e u5 ⟨rfl,F1⟩
 have FG:=oH (FF.out.on F1)
 clear F1 HK FF
 have FF:=FG
 clear FG
 have HK:=zAb c u5 i false [70,79,82] (HX.out.1.keep FF.out) (by rw [zBi HX.out.2.1];rfl)
 simp only [pt] at HK
 go_wp2_with fail
 refine HK.mono ?_
 rintro e u6 ⟨rfl,F1⟩
 have FG:=oH (FF.out.on F1)
 clear F1 HK FF
 have FF:=FG
 clear FG
 have HK:=zAb c u6 i false [87,73,84,72] (HX.out.1.keep FF.out) (by rw [zBi HX.out.2.1];rfl)
 simp only [pt] at HK
 go_wp2_with fail
 refine HK.mono ?_
 rintro e u7 ⟨rfl,F1⟩
 have FG:=oH (FF.out.on F1)
 clear F1 HK FF
 have FF:=FG
 clear FG
 have HK:=zAb c u7 i false [82,69,84,85,82,78] (HX.out.1.keep FF.out) (by rw [zBi HX.out.2.1];rfl)
 simp only [pt] at HK
 go_wp2_with fail
 refine HK.mono ?_
 rintro e u8 ⟨rfl,F1⟩
 have FG:=oH (FF.out.on F1)
 clear F1 HK FF
 have FF:=FG
 clear FG
 have HD:=HDD.out u8 i (HX.out.1.keep FF.out) (fun e=>HX.out.2.2.2.1 (by rw [HUN.out];have e:D0 c.ts i=.out:=e;rw [e];rfl))
 go_wp2_with fail
 refine HD.mono ?_
 rintro e w1 ⟨o,rfl,F1,⟨d,j,u,hr,rfl,X1,hu,hd⟩ | ⟨j,hr,X1⟩⟩
 ·have hr:D0 c.ts i=.ok d j:=hr
  obtain⟨qx,qy,f1⟩:=zAc (tk c.ts j).2.1.1 (tk c.ts j).2.1.2
  obtain⟨gx,gy,f2⟩:=zAc (tk c.ts j).2.2.1 (tk c.ts j).2.2.2
  have HNW:=zAo c w1 j false X1 qx qy gx gy f1 f2
  have hu0:IsT w1 (w.heap.size≤·) u:=zAt hu FF.out.size
  have H1:=oH (oA (FF.out.up0 (N:=[c.R]) |>.on F1) (oA X1 (oA hu0 (oA hr (oA hd f1)))))
  clear F1 X1 hu hr hd f1 f2 HD FF hu0
  generalize ((tk c.ts j).1.k:Int)=s0 at *
  generalize (⟨(tk c.ts j).1.x.toArray⟩:ByteArray)=s3 at *
  generalize (tk c.ts j).1.n=s4 at *
  simp only [encP,ptrV]
  go_wp2_with fail
  refine HNW.mono ?_
  rintro e w2 ⟨rfl,F2⟩
  have H2:=oH F2
  clear F2 HNW
  have HK:=zBo c w2 j [58,61] (H1.out.2.1.keep H2.out) (HX.out.2.2.2.2 d j H1.out.2.2.2.1)
  simp only [pt] at HK
  go_wp2_with fail
  refine HK.mono ?_
  rintro e w3 ⟨rfl,F3,X3⟩
  have H3:=oH (oA ((H1.out.1.on0 H2.out).on F3) (oA X3 (zAk (zAk H1.out.2.2.1 H2.out (by simp)) F3 (by have:=HCR.out;simp;omega))))
  clear F3 X3 HK
  have HDN:=dnode w3 60 60 rfl (tk c.ts j) qx qy H1.out.2.2.2.2.2
  go_wp2_with fail
  refine HDN.mono ?_
  rintro e wn ⟨rfl,hwn⟩
  have HS0:Hid (SN c w (nd 60 (tk c.ts j) [] 0) w3.heap.size (.ok [] (j+1)) 0 wn (.slice none 0 0) 0 []∧IsT wn (fun q=>w.heap.size≤q∧q≠w3.heap.size) u):=oH (by
   rw [hwn]
   exact⟨zIm _ H3.out.1 H3.out.2.1,H3.out.2.2.keep (fun q hq hl=>⟨hq,by omega⟩) (fun q hq hl=>(Fr.alloc w3 _).block q hl (by simp))⟩)
  clear hwn HDN
  obtain⟨p,hp⟩:∃p,w3.heap.size=p:=⟨_,rfl⟩
  try rw [hp]
  have HS0':Hid (∃v n xs,v=Value.slice none 0 0∧SN c w (nd 60 (tk c.ts j) [] 0) p (.ok [] (j+1)) 0 wn v n xs∧IsT wn (fun q=>w.heap.size≤q∧q≠p∧q ∉ obL v) u):=oH ⟨_,_,_,rfl,by rw [← hp];exact HS0.out.1,by
   rw [← hp]
   exact HS0.out.2.keep (fun q hq _=>⟨hq.1,hq.2,by simp [obL,Value.ownBlock]⟩) (fun _ _ _=>rfl)⟩
  clear HS0
  obtain⟨v0,n0,xs0,hv0,hs0,hu0⟩:=HS0'.out
  have HA0:=oH hs0
  have HU0:=oH hu0
  clear HS0' hs0 hv0 hu0
  have HO1:Hid (kid (E0 c.ts) (.ok ([]++[u.dt]) (j+1))≠.out):=oH (fun e=>HX.out.2.2.2.1 (by
   rw [HUN.out,H1.out.2.2.2.1]
   show (if isS (tk c.ts j) [58,61]=true then _ else _)=_
   rw [if_pos (HX.out.2.2.2.2 d j H1.out.2.2.2.1)]
   unfold kid at e
   have e:((E0 c.ts (j+1)).bndL fun x k=>ReL.ok (([]++[u.dt])++[x]) k)=.out:=e
   cases hq:E0 c.ts (j+1) with
   | out=>rfl
   | bad k=>rw [hq] at e;cases e
   | ok x k=>rw [hq] at e;cases e))
  have HOX:=HO1
  clear HO1
  have hsr:=HA0.out.row.alloc (.cells #[Value.pointer (some ⟨u.p,0,none⟩)] 26)
  have hnb:=HA0.out.hn
  have y4:=(NodeAt.mk HA0.out.nd).c4
  have HN1:=oH (new1 wn (Value.pointer (some ⟨u.p,0,none⟩)) 26)
  have HO1:Hid (∀z ∈ [Value.pointer (some ⟨u.p,0,none⟩)],z.oneCell'=true):=oH (fun z hz=>by simp at hz;subst hz;rfl)
  go_wp2_with (at_builtin;refine wpList_append_lies _ rfl _ _ 38 rfl 0 26 i0 _ 1 8 Tryz.underlying38 hi hz0 hz1 hz2 rfl (by decide) v0 n0 _ rfl hsr ⟨wn.heap.size,0,none⟩ 1 1 [Value.pointer (some ⟨u.p,0,none⟩)] rfl rfl HN1.out HO1.out (by decide) (by unfold maxLen;omega) (by omega) (by simp <;> omega) (wn.heap.size+1) (by simp) ?_)
  intro g0 cap0 wd0 hown hgrow hat hlt
  have HE0:=oH (zMh HA0.out HCR.out u HU0.out (by simpa [ptrV] using hown) hgrow hat)
  have H9:wd0.cell? ⟨p,4,none⟩=some v0∧wd0.frozen? ⟨p,4,none⟩=false:=by
   have F12:Fr (obL v0) wn wd0:=((Fr.alloc wn _).up0).on (Fr.of_grown hgrow)
   have n6:=(F12.block p (zAd HA0.out.nd) (fun hm=>zAi HA0.out.row HA0.out.nd hm)).trans HA0.out.nd
   exact⟨(NodeAt.mk n6).c4,(NodeAt.mk n6).f 4⟩
  obtain⟨H9,f9⟩:=H9
  clear hown hgrow hat hlt hsr HN1 HO1 y4
  go_upto_region 42 with fail
  obtain⟨wa0,hwa0⟩:∃wa,wd0.setCell ⟨p,4,none⟩ (.slice (some ⟨g0,0,none⟩) (n0+1) cap0)=wa:=⟨_,rfl⟩
  rw [hwa0] at HE0
  try rw [hwa0]
  clear H9 f9 hwa0
  obtain⟨a0,ha0⟩:∃a:Option Addr,some ⟨u.p,0,none⟩=a:=⟨_,rfl⟩
  have HE0:Hid (SN c w (nd 60 (tk c.ts j) [] 0) p (.ok ([]++[u.dt]) (j+1)) (0+1) wa0 (.slice (some ⟨g0,0,none⟩) (n0+1) cap0) (n0+1) (xs0++[Value.pointer a0])):=oH (by rw [← ha0];exact HE0.out)
  clear ha0
  obtain⟨v1,hv1⟩:∃v,Value.slice (some ⟨g0,0,none⟩) (n0+1) cap0=v:=⟨_,rfl⟩
  obtain⟨n1,hn1⟩:∃n,n0+1=n:=⟨_,rfl⟩
  obtain⟨xs1,hx1⟩:∃x,xs0++[Value.pointer a0]=x:=⟨_,rfl⟩
  rw [hn1] at hv1 HE0
  rw [hv1,hx1] at HE0
  clear hv1 hn1 hx1
  obtain⟨j1,b1,X1,hst1⟩:=HE0.out.rf
  have HNE1:b1=false→(E0 c.ts) j1≠.out:=fun hb=>by
   rcases hst1 with⟨_,l,us,hr,_⟩ | ⟨hb2,_⟩
   ·exact zBm HOX.out hr
   ·rw [hb] at hb2;cases hb2
  have HR1:∀w1,Fr [] wa0 w1→Calls Tryz.prog 65 #[.pointer (some ⟨c.R,0,none⟩)] w1 fun e w'=>∃o a,encP o=.pointer a∧e=.returned (.pointer a)∧Fr [c.R] wa0 w'∧(b1=false→Itm c ((E0 c.ts)) j1 wa0 w' o)∧(b1=true→RF c w' j1 true):=fun w1 F1=>by
   refine( HEE.out w1 j1 b1 (X1.keep F1)  HNE1).mono ?_
   rintro e w' ⟨o,a,h1,h2,h3,h4,h5⟩
   exact⟨o,a,h1,h2,F1.up0.on h3,fun hb=>(h4 hb).low F1.size,h5⟩
  have HSS1:∀w':World,Fr [c.R] wa0 w'→(w'.cell? ⟨p,4,none⟩=some v1∧w'.frozen? ⟨p,4,none⟩=false):=fun w' F=>by
   have e3:=(F.block p (zAd HE0.out.nd) (by have:=HE0.out.hp;have:=HCR.out;simp;omega)).trans HE0.out.nd
   exact⟨(NodeAt.mk e3).c4,(NodeAt.mk e3).f 4⟩
  have HST1:=oH hst1
  have y4:=(HSS1 wa0 (Fr.refl _ _)).1
  have hrow1:∀w',Fr [c.R] wa0 w'→w'.ownsRow 0 26 1 v1 n1 xs1:=fun w' F=>zAf HE0.out.row F (fun q hq hm=>by
   have h1:=HE0.out.far q hq
   have h2:q=c.R:=by simpa using hm
   have:=HCR.out
   omega)
  have hnb1:=HE0.out.hn
  clear X1 HNE1 hst1
  go_wp2_with fail
  refine zAp 13 (S:=fun w'=>w'.cell? ⟨p,4,none⟩=some v1) (by kernel_rfl) ?_ (fun hHeld=>?_)
  ·exact(HSS1 _ (Fr.drew wa0).up0).1
  refine aT 14 0 ?_
  refine aT 14 1 ?_
  refine aT 14 2 ?_
  refine aT 14 3 ?_
  refine aT 14 4 ?_
  refine aT 14 5 ?_
  refine aT 14 6 ?_
  refine aT 14 7 ?_
  refine zAa (rs:=[8]) (by kernel_rfl) (by simp) ?_
  refine AllL.cons rfl (fun K hK=>?_) ?_
  rotate_left
  ·exact AllL.nil
  go_simp
  refine(HR1 _ (Fr.drew wa0)).mono ?_
  rintro e wb1 ⟨o1,a1,ha1,rfl,FB1,hi1,hb1⟩
  have H9:=(HSS1 wb1 FB1).1
  clear HR1
  go_wp2_with fail
  refine hK.out _ _ (H9) (fun hHeld=>?_)
  clear hK K
  try simp only[Act.put,oB,oC,oD,oE,oF,oG]
  refine zAa (rs:=[9]) (by kernel_rfl) (by simp) ?_
  refine AllL.cons rfl (fun K hK=>?_) ?_
  rotate_left
  ·exact AllL.nil
  go_simp
  have H9:=(HSS1 _ (FB1.on0 (Fr.alloc wb1 (.cells #[.pointer a1] 26)))).1
  refine hK.out _ _ (H9) (fun hHeld=>?_)
  clear hK K
  try simp only[Act.put,oB,oC,oD,oE,oF,oG]
  refine zAa (rs:=[10]) (by kernel_rfl) (by simp) ?_
  refine AllL.cons rfl (fun K hK=>?_) ?_
  rotate_left
  ·exact AllL.nil
  refine step_append_lies _ (by rfl) _ _ 38 (by rfl) 0 26 i0 _ 1 8 Tryz.underlying38 hi hz0 hz1 hz2 (by rfl) (by omega) v1 n1 _ (by rfl) ((hrow1 _ FB1).alloc _) ⟨wb1.heap.size,0,none⟩ 1 1 [.pointer a1] (by rfl) (by rfl) (new1 wb1 (.pointer a1) 26) (fun u hu=>(by simp at hu;subst hu;rfl)) (by omega) (by unfold maxLen;omega) (by omega) (Nat.zero_le _) (wb1.heap.size+1) (by simp) ?_
  intro g1 cap1 wd1 hown hgrow hat hlt
  have HE1:=oH (HE0.out.app HCR.out HST1.out ha1 FB1 hi1 hb1 hown hgrow hat)
  have H9:wd1.cell? ⟨p,4,none⟩=some v1∧wd1.frozen? ⟨p,4,none⟩=false:=by
   have n2:=(FB1.block p (zAd HE0.out.nd) (by have:=HE0.out.hp;have:=HCR.out;simp;omega)).trans HE0.out.nd
   have F12:Fr (obL v1) wb1 wd1:=((Fr.alloc wb1 _).up0).on (Fr.of_grown hgrow)
   have n6:=(F12.block p (zAd n2) (fun hm=>zAi HE0.out.row HE0.out.nd hm)).trans n2
   exact⟨(NodeAt.mk n6).c4,(NodeAt.mk n6).f 4⟩
  obtain⟨H9,f9⟩:=H9
  clear hown hgrow hat hlt hi1 hb1 FB1 HST1 hrow1 HSS1 y4 ha1
  refine hK.out _ _ (H9) (fun hHeld=>?_)
  clear hK K
  try simp only[Act.put,oB,oC,oD,oE,oF,oG]
  refine aT 14 11 ?_
  refine aT 14 12 ?_
  refine zAa (rs:=[13]) (by kernel_rfl) (by simp) ?_
  refine AllL.last rfl (by kernel_rfl) (fun K hK=>?_) ?_
  rotate_left
  ·exact AllL.nil
  go_simp
  refine hK.out _ _ ?_
  clear hK K
  try simp only[Act.put,oB,oC,oD,oE,oF,oG]
  refine zAl (by kernel_rfl) ?_ _
  obtain⟨wa1,hwa1⟩:∃wa,wd1.setCell ⟨p,4,none⟩ (.slice (some ⟨g1,0,none⟩) (n1+1) cap1)=wa:=⟨_,rfl⟩
  rw [hwa1] at HE1
  try rw [hwa1]
  clear H9 f9 hwa1
  go_wp2_with fail
  go_ret
  refine HE1.out.tl ?_
  rw [HUN.out,H1.out.2.2.2.1]
  show (if isS (tk c.ts j) [58,61]=true then _ else _)=_
  rw [if_pos (HX.out.2.2.2.2 d j H1.out.2.2.2.1)]
  unfold kid
  show _=((E0 c.ts (j+1)).bndL fun x k=>ReL.ok (([]++[u.dt])++[x]) k).re _
  rw [← H1.out.2.2.2.2.1]
  cases E0 c.ts (j+1) <;> rfl
 ·exact absurd hr (HGD.out j)
theorem zXk (c:Rc) (hS:Scd c.ts) (w:World) (i:Nat) (h:RF c w i false) (hk:(tk c.ts i).1.k=1) (hne:namM c.ts i≠.out) (jb:Nat) (hbad:D0 c.ts i=.bad jb) :
  Calls Tryz.prog 35 #[.pointer (some ⟨c.R,0,none⟩)] w (Tl c w.heap.size w (namM c.ts i)):=by
 obtain⟨i0,hi,hz0,hz1,hz2⟩:=info_parts infoP
 obtain⟨px,py,e1⟩:=zAc (tk c.ts i).2.1.1 (tk c.ts i).2.1.2
 obtain⟨ex,ey,e2⟩:=zAc (tk c.ts i).2.2.1 (tk c.ts i).2.2.2
 have hfd:=zBb
 have HN:=zAo c w i false h px py ex ey e1 e2
 have HX:=oH (oA h (oA hk (oA e1 hne)))
 have HEE:=oH (zBn c hS)
 have HDD:=oH (zBx c (E0 c.ts) (zAr _) (zBl c hS _))
 have HCR:Hid (c.R < w.heap.size):=oH h.lt
 have HGD:=oH hbad
 clear hbad
 have HUN:Hid (namM c.ts i=(D0 c.ts i).bnd fun x j=>if isS (tk c.ts j) [58,61]=true then (E0 c.ts (j+1)).bnd fun y k=>.ok (.node (nd 60 (tk c.ts j) [] 0) [x,y]) k else (argM c.ts j).re fun l=>.node (nd 61 (tk c.ts i) [] 0) (x::l)):=oH rfl
 clear h hk e1 e2 hne hS
 generalize ((tk c.ts i).1.k:Int)=t0 at *
 generalize (⟨(tk c.ts i).1.x.toArray⟩:ByteArray)=t3 at *
 generalize (tk c.ts i).1.n=t4 at *
 go_enter Tryz.func35,Tryz.ntmps35
 go_wp2_with fail
 refine HN.mono ?_
 rintro e w0 ⟨rfl,F0⟩
 have FF:=oH F0
 clear F0 HN
 have HK:=zAb c w0 i false [73,70] (HX.out.1.keep FF.out) (by rw [zBi HX.out.2.1];rfl)
 simp only [pt] at HK
 go_wp2_with fail
 refine HK.mono ?_
 rintro e u0 ⟨rfl,F1⟩
 have FG:=oH (FF.out.on F1)
 clear F1 HK FF
 have FF:=FG
 clear FG
 have HK:=zAb c u0 i false [67,65,83,69] (HX.out.1.keep FF.out) (by rw [zBi HX.out.2.1];rfl)
 simp only [pt] at HK
 go_wp2_with fail
 refine HK.mono ?_
 rintro e u1 ⟨rfl,F1⟩
 have FG:=oH (FF.out.on F1)
 clear F1 HK FF
 have FF:=FG
 clear FG
 have HK:=zAb c u1 i false [87,72,73,76,69] (HX.out.1.keep FF.out) (by rw [zBi HX.out.2.1];rfl)
 simp only [pt] at HK
 go_wp2_with fail
 refine HK.mono ?_
 rintro e u2 ⟨rfl,F1⟩
 have FG:=oH (FF.out.on F1)
 clear F1 HK FF
 have FF:=FG
 clear FG
 have HK:=zAb c u2 i false [82,69,80,69,65,84] (HX.out.1.keep FF.out) (by rw [zBi HX.out.2.1];rfl)
 simp only [pt] at HK
 go_wp2_with fail
 refine HK.mono ?_
 rintro e u3 ⟨rfl,F1⟩
 have FG:=oH (FF.out.on F1)
 clear F1 HK FF
 have FF:=FG
 clear FG
 have HK:=zAb c u3 i false [76,79,79,80] (HX.out.1.keep FF.out) (by rw [zBi HX.out.2.1];rfl)
 simp only [pt] at HK
 go_wp2_with fail
 refine HK.mono ?_
 rintro e u4 ⟨rfl,F1⟩
 have FG:=oH (FF.out.on F1)
 clear F1 HK FF
 have FF:=FG
 clear FG
 have HK:=zAb c u4 i false [69,88,73,84] (HX.out.1.keep FF.out) (by rw [zBi HX.out.2.1];rfl)
 simp only [pt] at HK
 go_wp2_with fail
 refine HK.mono ?_
 rintro e u5 ⟨rfl,F1⟩
 have FG:=oH (FF.out.on F1)
 clear F1 HK FF
 have FF:=FG
 clear FG
 have HK:=zAb c u5 i false [70,79,82] (HX.out.1.keep FF.out) (by rw [zBi HX.out.2.1];rfl)
 simp only [pt] at HK
 go_wp2_with fail
 refine HK.mono ?_
 rintro e u6 ⟨rfl,F1⟩
 have FG:=oH (FF.out.on F1)
 clear F1 HK FF
 have FF:=FG
 clear FG
 have HK:=zAb c u6 i false [87,73,84,72] (HX.out.1.keep FF.out) (by rw [zBi HX.out.2.1];rfl)
 simp only [pt] at HK
 go_wp2_with fail
 refine HK.mono ?_
 rintro e u7 ⟨rfl,F1⟩
 have FG:=oH (FF.out.on F1)
 clear F1 HK FF
 have FF:=FG
 clear FG
 have HK:=zAb c u7 i false [82,69,84,85,82,78] (HX.out.1.keep FF.out) (by rw [zBi HX.out.2.1];rfl)
 simp only [pt] at HK
 go_wp2_with fail
 refine HK.mono ?_
 rintro e u8 ⟨rfl,F1⟩
 have FG:=oH (FF.out.on F1)
 clear F1 HK FF
 have FF:=FG
 clear FG
 have HD:=HDD.out u8 i (HX.out.1.keep FF.out) (fun e=>by have e:D0 c.ts i=.out:=e;rw [HGD.out] at e;cases e)
 go_wp2_with fail
 refine HD.mono ?_
 rintro e w1 ⟨o,rfl,F1,⟨d,j,u,hr,rfl,X1,hu,hd⟩ | ⟨j,hr,X1⟩⟩
 ·exact absurd (show D0 c.ts i=.ok d j from hr) (by rw [HGD.out];simp)
 ·have hr:D0 c.ts i=.bad j:=hr
  obtain⟨qx,qy,f1⟩:=zAc (tk c.ts j).2.1.1 (tk c.ts j).2.1.2
  obtain⟨gx,gy,f2⟩:=zAc (tk c.ts j).2.2.1 (tk c.ts j).2.2.2
  have HNW:=zAo c w1 j true X1 qx qy gx gy f1 f2
  have H1:=oH (oA (FF.out.up0 (N:=[c.R]) |>.on F1) (oA X1 hr))
  obtain⟨a,ha⟩:=zAx o
  have HAA:=oH ha
  rw [ha]
  clear F1 X1 hr f1 f2 HD FF ha
  generalize ((tk c.ts j).1.k:Int)=s0 at *
  generalize (⟨(tk c.ts j).1.x.toArray⟩:ByteArray)=s3 at *
  generalize (tk c.ts j).1.n=s4 at *
  go_wp2_with fail
  refine HNW.mono ?_
  rintro e w2 ⟨rfl,F2⟩
  have H2:=oH F2
  clear F2 HNW
  have HK:=zAu c w2 j true [58,61] (H1.out.2.1.keep H2.out) rfl
  simp only [pt] at HK
  go_wp2_with fail
  refine HK.mono ?_
  rintro e w3 ⟨rfl,F3⟩
  have H3:=oH (oA ((H1.out.1.on0 H2.out).on0 F3) ((H1.out.2.1.keep H2.out).keep F3))
  clear F3 HK
  have HDN:=dnode w3 61 61 rfl (tk c.ts i) px py HX.out.2.2.1
  go_wp2_with fail
  refine HDN.mono ?_
  rintro e wn ⟨rfl,hwn⟩
  have HS0:Hid (SN c w (nd 61 (tk c.ts i) [] 0) w3.heap.size (.bad j) 0 wn (.slice none 0 0) 0 []∧RF c wn j true):=oH (by
   rw [hwn]
   exact⟨zXi _ H3.out.1 H3.out.2,H3.out.2.keep (Fr.alloc _ _)⟩)
  clear hwn HDN
  obtain⟨p,hp⟩:∃p,w3.heap.size=p:=⟨_,rfl⟩
  try rw [hp]
  have HS0':Hid (∃v n xs,v=Value.slice none 0 0∧SN c w (nd 61 (tk c.ts i) [] 0) p (.bad j) 0 wn v n xs):=oH ⟨_,_,_,rfl,by rw [← hp];exact HS0.out.1⟩
  have HXN:=oH HS0.out.2
  clear HS0
  obtain⟨v0,n0,xs0,hv0,hs0⟩:=HS0'.out
  have HA0:=oH hs0
  clear HS0' hs0 hv0
  have hsr:=HA0.out.row.alloc (.cells #[Value.pointer a] 26)
  have hnb:=HA0.out.hn
  have y4:=(NodeAt.mk HA0.out.nd).c4
  have HN1:=oH (new1 wn (Value.pointer a) 26)
  have HO1:Hid (∀z ∈ [Value.pointer a],z.oneCell'=true):=oH (fun z hz=>by simp at hz;subst hz;rfl)
  go_wp2_with (at_builtin;refine wpList_append_lies _ rfl _ _ 38 rfl 0 26 i0 _ 1 8 Tryz.underlying38 hi hz0 hz1 hz2 rfl (by decide) v0 n0 _ rfl hsr ⟨wn.heap.size,0,none⟩ 1 1 [Value.pointer a] rfl rfl HN1.out HO1.out (by decide) (by unfold maxLen;omega) (by omega) (by simp <;> omega) (wn.heap.size+1) (by simp) ?_)
  intro g0 cap0 wd0 hown hgrow hat hlt
  have HE0:=oH (HA0.out.app HCR.out (M:=fun _=>.out) (j:=j) (b:=true) (.inr ⟨rfl,rfl⟩) HAA.out (Fr.refl _ wn) (fun hf=>(by cases hf)) (fun _=>HXN.out) hown hgrow hat)
  have H9:wd0.cell? ⟨p,4,none⟩=some v0∧wd0.frozen? ⟨p,4,none⟩=false:=by
   have F12:Fr (obL v0) wn wd0:=((Fr.alloc wn _).up0).on (Fr.of_grown hgrow)
   have n6:=(F12.block p (zAd HA0.out.nd) (fun hm=>zAi HA0.out.row HA0.out.nd hm)).trans HA0.out.nd
   exact⟨(NodeAt.mk n6).c4,(NodeAt.mk n6).f 4⟩
  obtain⟨H9,f9⟩:=H9
  clear hown hgrow hat hlt hsr HN1 HO1 y4
  go_upto_region 46 with fail
  obtain⟨wa0,hwa0⟩:∃wa,wd0.setCell ⟨p,4,none⟩ (.slice (some ⟨g0,0,none⟩) (n0+1) cap0)=wa:=⟨_,rfl⟩
  rw [hwa0] at HE0
  try rw [hwa0]
  clear H9 f9 hwa0
  have HXE:Hid (RF c wa0 j true):=oH (by
   rcases HE0.out.st with⟨l,j2,us,h1,_⟩ | ⟨j2,h1,h2⟩
   ·cases h1
   ·injection h1 with h1;rw [h1];exact h2)
  have HSY:=zAs c wa0 j true [40] HXE.out
  simp only [Bool.not_true,Bool.false_and,pt] at HSY
  go_wp2_with fail
  refine HSY.mono ?_
  rintro e wz ⟨rfl,FZ⟩
  have HZ:=oH FZ
  clear FZ HSY
  go_wp2_with fail
  go_ret
  have hk:=HE0.out.keep HCR.out HZ.out
  exact hk.tl (by rw [HUN.out,H1.out.2.2];rfl)
end Go.Proofs.YtepfknfadpkigaaGreat
end
