/- Several texts in one. -/
import Derived.Test.YtepfknfadpkigaaGreatPkAA
import Derived.Test.YtepfknfadpkigaaGreatPkBK
import Derived.Laws.AppendOwnNone
set_option linter.unusedVariables false
set_option linter.unusedSimpArgs false
section
namespace Go.Proofs.YtepfknfadpkigaaGreat
open Go.RowKit
set_option maxHeartbeats 4000000
set_option maxRecDepth 100000
theorem zXm {c:Rc} {w0:World} {d:ND} {p:Nat} {r:ReL} {N:Nat} {w:World} {v:Value} {n:Nat} {xs:List Value} (h:SN c w0 d p r N w v n xs) (hR:c.R < w0.heap.size):SN c w0 d p r N (w.setCell ⟨p,4,none⟩ v) v n xs:=by
 have F:=Fr.set w p 4 v
 have hpv:p ∉ obL v:=fun hm=>zAi h.row h.nd hm
 have n':(w.setCell ⟨p,4,none⟩ v).heap[p]?=some (nodeO d v):=by simp [World.setCell,Array.getElem?_modify,h.nd,nodeO]
 have hRp:c.R < p:=by have:=h.hp;omega
 refine⟨h.fr.trans F (fun q hq=>.inr ?_),h.hp,n',zAf h.row F (fun q hq hm=>?_),h.hn,h.far,?_⟩
 ·obtain rfl:q=p:=by simpa using hq
  exact h.hp
 ·obtain rfl:q=p:=by simpa using hm
  exact hpv hq
 ·rcases h.st with⟨l,j,us,h1,h2,h3,h4⟩ | ⟨j,h1,h2⟩
  ·refine .inl ⟨l,j,us,h1,h2.stay F (by simp;exact hRp),⟨n',h3.r.frame F (fun q hq hm=>?_),h3.k.keep (fun _ h _=>h) (fun q hq hl=>F.block q hl (by simp;exact hq.2.1)),h3.hp⟩,h4⟩
   obtain rfl:q=p:=by simpa using hm
   exact hpv hq
  ·exact .inr ⟨j,h1,h2.stay F (by simp;exact hRp)⟩
theorem zXn (c:Rc) (hS:Scd c.ts) (w:World) (i:Nat) (h:RF c w i false) (hk:(tk c.ts i).1.k=1) (hne:namM c.ts i≠.out) (d:DT) (j:Nat) (hok:D0 c.ts i=.ok d j) (hno:isS (tk c.ts j) [58,61]=false) (hpp:isS (tk c.ts j) [40]=true∧isS (tk c.ts (j+1)) [41]=true) :
  Calls Tryz.prog 35 #[.pointer (some ⟨c.R,0,none⟩)] w (Tl c w.heap.size w (namM c.ts i)):=by
 obtain⟨i0,hi,hz0,hz1,hz2⟩:=info_parts infoP
 obtain⟨px,py,e1⟩:=zAc (tk c.ts i).2.1.1 (tk c.ts i).2.1.2
 obtain⟨ex,ey,e2⟩:=zAc (tk c.ts i).2.2.1 (tk c.ts i).2.2.2
 have hfd:=zBb
 have HN:=zAo c w i false h px py ex ey e1 e2
 have HX:=oH (oA h (oA hk (oA e1 (oA hne (oA hok (oA hno hpp))))))
 have HEE:=oH (zBn c hS)
 have HDD:=oH (zBx c (E0 c.ts) (zAr _) (zBl c hS _))
 have HCR:Hid (c.R < w.heap.size):=oH h.lt
 have HUN:Hid (namM c.ts i=(D0 c.ts i).bnd fun x j=>if isS (tk c.ts j) [58,61]=true then (E0 c.ts (j+1)).bnd fun y k=>.ok (.node (nd 60 (tk c.ts j) [] 0) [x,y]) k else (argM c.ts j).re fun l=>.node (nd 61 (tk c.ts i) [] 0) (x::l)):=oH rfl
 clear h hk e1 e2 hne hS hok hno hpp
 generalize ((tk c.ts i).1.k:Int)=t0 at *
 generalize (⟨(tk c.ts i).1.x.toArray⟩:ByteArray)=t3 at *
 generalize (tk c.ts i).1.n=t4 at *
 go_enter Tryz.func35,Tryz.ntmps35
 go_wp2_with fail
 refine HN.mono ?_
 rintro e w0 ⟨rfl,F0⟩
 have FF:=oH F0
 clear F0 HN
 have HK:=zAb c w0 i false [73,70] (HX.out.1.keep FF.out) (by rw [zBi HX.out.2.1];rfl)
 simp only [pt] at HK
 go_wp2_with fail
 refine HK.mono ?_
 rintro e u0 ⟨rfl,F1⟩
 have FG:=oH (FF.out.on F1)
 clear F1 HK FF
 have FF:=FG
 clear FG
 have HK:=zAb c u0 i false [67,65,83,69] (HX.out.1.keep FF.out) (by rw [zBi HX.out.2.1];rfl)
 simp only [pt] at HK
 go_wp2_with fail
 refine HK.mono ?_
 rintro e u1 ⟨rfl,F1⟩
 have FG:=oH (FF.out.on F1)
 clear F1 HK FF
 have FF:=FG
 clear FG
 have HK:=zAb c u1 i false [87,72,73,76,69] (HX.out.1.keep FF.out) (by rw [zBi HX.out.2.1];rfl)
 simp only [pt] at HK
 go_wp2_with fail
 refine HK.mono ?_
 rintro e u2 ⟨rfl,F1⟩
 have FG:=oH (FF.out.on F1)
 clear F1 HK FF
 have FF:=FG
 clear FG
 have HK:=zAb c u2 i false [82,69,80,69,65,84] (HX.out.1.keep FF.out) (by rw [zBi HX.out.2.1];rfl)
 simp only [pt] at HK
 go_wp2_with fail
 refine HK.mono ?_
 rintro e u3 ⟨rfl,F1⟩
 have FG:=oH (FF.out.on F1)
 clear F1 HK FF
 have FF:=FG
 clear FG
 have HK:=zAb c u3 i false [76,79,79,80] (HX.out.1.keep FF.out) (by rw [zBi HX.out.2.1];rfl)
 simp only [pt] at HK
 go_wp2_with fail
 refine HK.mono ?_
 rintro e u4 ⟨rfl,F1⟩
 have FG:=oH (FF.out.on F1)
 clear F1 HK FF
 have FF:=FG
 clear FG
 have HK:=zAb c u4 i false [69,88,73,84] (HX.out.1.keep FF.out) (by rw [zBi HX.out.2.1];rfl)
 simp only [pt] at HK
 go_wp2_with fail
 refine HK.mono ?_
 rintro e u5 ⟨rfl,F1⟩
 have FG:=oH (FF.out.on F1)
 clear F1 HK FF
 have FF:=FG
 clear FG
 have HK:=zAb c u5 i false [70,79,82] (HX.out.1.keep FF.out) (by rw [zBi HX.out.2.1];rfl)
 simp only [pt] at HK
 go_wp2_with fail
 refine HK.mono ?_
 rintro e u6 ⟨rfl,F1⟩
 have FG:=oH (FF.out.on F1)
 clear F1 HK FF
 have FF:=FG
 clear FG
 have HK:=zAb c u6 i false [87,73,84,72] (HX.out.1.keep FF.out) (by rw [zBi HX.out.2.1];rfl)
 simp only [pt] at HK
 go_wp2_with fail
 refine HK.mono ?_
 rintro e u7 ⟨rfl,F1⟩
 have FG:=oH (FF.out.on F1)
 clear F1 HK FF
 have FF:=FG
 clear FG
 have HK:=zAb c u7 i false [82,69,84,85,82,78] (HX.out.1.keep FF.out) (by rw [zBi HX.out.2.1];rfl)
 simp only [pt] at HK
 go_wp2_with fail
 refine HK.mono ?_
 rintro e u8 ⟨rfl,F1⟩
 have FG:=oH (FF.out.on F1)
 clear F1 HK FF
 have FF:=FG
 clear FG
 have HD:=HDD.out u8 i (HX.out.1.keep FF.out) (fun e=>by have e:D0 c.ts i=.out:=e;rw [HX.out.2.2.2.2.1] at e;cases e)
 go_wp2_with fail
 refine HD.mono ?_
 rintro e w1 ⟨o,rfl,F1,⟨d2,j2,u,hr,rfl,X1,hu,hd⟩ | ⟨j2,hr,X1⟩⟩
 rotate_left
 ·exact absurd (show D0 c.ts i=.bad j2 from hr) (by rw [HX.out.2.2.2.2.1];simp)
 ·have hr:D0 c.ts i=.ok d2 j2:=hr
  have hr2:=hr.symm.trans HX.out.2.2.2.2.1
  injection hr2 with hr3 hr4
  rw [hr4] at X1
  obtain⟨qx,qy,f1⟩:=zAc (tk c.ts j).2.1.1 (tk c.ts j).2.1.2
  obtain⟨gx,gy,f2⟩:=zAc (tk c.ts j).2.2.1 (tk c.ts j).2.2.2
  have HNW:=zAo c w1 j false X1 qx qy gx gy f1 f2
  have hu0:IsT w1 (w.heap.size≤·) u:=zAt hu FF.out.size
  have H1:=oH (oA (FF.out.up0 (N:=[c.R]) |>.on F1) (oA X1 (oA hu0 (hd.trans hr3))))
  clear F1 X1 hu hr hd f1 f2 HD FF hu0 hr3 hr4
  generalize ((tk c.ts j).1.k:Int)=s0 at *
  generalize (⟨(tk c.ts j).1.x.toArray⟩:ByteArray)=s3 at *
  generalize (tk c.ts j).1.n=s4 at *
  simp only [encP,ptrV]
  go_wp2_with fail
  refine HNW.mono ?_
  rintro e w2 ⟨rfl,F2⟩
  have H2:=oH F2
  clear F2 HNW
  have HK:=zAu c w2 j false [58,61] (H1.out.2.1.keep H2.out) (by rw [HX.out.2.2.2.2.2.1];rfl)
  simp only [pt] at HK
  go_wp2_with fail
  refine HK.mono ?_
  rintro e w3 ⟨rfl,F3⟩
  have H3:=oH (oA ((H1.out.1.on0 H2.out).on0 F3) (oA ((H1.out.2.1.keep H2.out).keep F3) (zAk (zAk H1.out.2.2.1 H2.out (by simp)) F3 (by simp))))
  clear F3 HK
  have HDN:=dnode w3 61 61 rfl (tk c.ts i) px py HX.out.2.2.1
  go_wp2_with fail
  refine HDN.mono ?_
  rintro e wn ⟨rfl,hwn⟩
  have HS0:Hid (SN c w (nd 61 (tk c.ts i) [] 0) w3.heap.size (.ok [] j) 0 wn (.slice none 0 0) 0 []∧IsT wn (fun q=>w.heap.size≤q∧q≠w3.heap.size) u):=oH (by
   rw [hwn]
   exact⟨zIm _ H3.out.1 H3.out.2.1,H3.out.2.2.keep (fun q hq hl=>⟨hq,by omega⟩) (fun q hq hl=>(Fr.alloc w3 _).block q hl (by simp))⟩)
  clear hwn HDN
  obtain⟨p,hp⟩:∃p,w3.heap.size=p:=⟨_,rfl⟩
  try rw [hp]
  have HS0':Hid (∃v n xs,v=Value.slice none 0 0∧SN c w (nd 61 (tk c.ts i) [] 0) p (.ok [] j) 0 wn v n xs∧IsT wn (fun q=>w.heap.size≤q∧q≠p∧q ∉ obL v) u):=oH ⟨_,_,_,rfl,by rw [← hp];exact HS0.out.1,by
   rw [← hp]
   exact HS0.out.2.keep (fun q hq _=>⟨hq.1,hq.2,by simp [obL,Value.ownBlock]⟩) (fun _ _ _=>rfl)⟩
  clear HS0
  obtain⟨v0,n0,xs0,hv0,hs0,hu0⟩:=HS0'.out
  have HA0:=oH hs0
  have HU0:=oH hu0
  clear HS0' hs0 hv0 hu0
  have hsr:=HA0.out.row.alloc (.cells #[Value.pointer (some ⟨u.p,0,none⟩)] 26)
  have hnb:=HA0.out.hn
  have y4:=(NodeAt.mk HA0.out.nd).c4
  have HN1:=oH (new1 wn (Value.pointer (some ⟨u.p,0,none⟩)) 26)
  have HO1:Hid (∀z ∈ [Value.pointer (some ⟨u.p,0,none⟩)],z.oneCell'=true):=oH (fun z hz=>by simp at hz;subst hz;rfl)
  go_wp2_with (at_builtin;refine wpList_append_lies _ rfl _ _ 38 rfl 0 26 i0 _ 1 8 Tryz.underlying38 hi hz0 hz1 hz2 rfl (by decide) v0 n0 _ rfl hsr ⟨wn.heap.size,0,none⟩ 1 1 [Value.pointer (some ⟨u.p,0,none⟩)] rfl rfl HN1.out HO1.out (by decide) (by unfold maxLen;omega) (by omega) (by simp <;> omega) (wn.heap.size+1) (by simp) ?_)
  intro g0 cap0 wd0 hown hgrow hat hlt
  have HE0:=oH (zMh HA0.out HCR.out u HU0.out (by simpa [ptrV] using hown) hgrow hat)
  have H9:wd0.cell? ⟨p,4,none⟩=some v0∧wd0.frozen? ⟨p,4,none⟩=false:=by
   have F12:Fr (obL v0) wn wd0:=((Fr.alloc wn _).up0).on (Fr.of_grown hgrow)
   have n6:=(F12.block p (zAd HA0.out.nd) (fun hm=>zAi HA0.out.row HA0.out.nd hm)).trans HA0.out.nd
   exact⟨(NodeAt.mk n6).c4,(NodeAt.mk n6).f 4⟩
  obtain⟨H9,f9⟩:=H9
  clear hown hgrow hat hlt hsr HN1 HO1 y4
  go_upto_region 46 with fail
  obtain⟨wa0,hwa0⟩:∃wa,wd0.setCell ⟨p,4,none⟩ (.slice (some ⟨g0,0,none⟩) (n0+1) cap0)=wa:=⟨_,rfl⟩
  rw [hwa0] at HE0
  try rw [hwa0]
  clear H9 f9 hwa0
  have HXE:Hid (RF c wa0 j false):=oH (by
   rcases HE0.out.st with⟨l,j2,us,h1,h2,_⟩ | ⟨j2,h1,_⟩
   ·injection h1 with _ h1;rw [h1];exact h2
   ·cases h1)
  have HRES:Hid (namM c.ts i=(argM c.ts j).re fun l=>.node (nd 61 (tk c.ts i) [] 0) (u.dt::l)):=oH (by
   rw [HUN.out,HX.out.2.2.2.2.1,H1.out.2.2.2]
   show (if isS (tk c.ts j) [58,61]=true then _ else _)=_
   rw [if_neg (by rw [HX.out.2.2.2.2.2.1];simp)])
  have HSY:=zAs c wa0 j false [40] HXE.out
  rw [HX.out.2.2.2.2.2.2.1] at HSY
  simp only [Bool.not_false,Bool.true_and,pt] at HSY
  go_wp2_with fail
  refine HSY.mono ?_
  rintro e wz ⟨rfl,FZ⟩
  have HZ:=oH (oA (HE0.out.keep HCR.out FZ) (HXE.out.keep FZ))
  clear FZ HSY HXE
  have HAR:=zHh c wz j HZ.out.2 HX.out.2.2.2.2.2.2.1 HX.out.2.2.2.2.2.2.2
  go_wp2_with fail
  refine HAR.mono ?_
  rintro e wy ⟨rfl,FY,XY⟩
  have HY:=oH (HZ.out.1.fr2 HCR.out FY (r':=.ok ([]++[u.dt]) (j+2)) (by
   rcases HZ.out.1.st with⟨l,j2,us,h1,h2,h3,h4,h5⟩ | ⟨j2,h1,_⟩
   ·injection h1 with h1 _
    exact .inl ⟨_,j+2,us,rfl,XY,h3,by rw [h4,h1],h5⟩
   ·cases h1))
  clear FY XY HAR
  have y4:=(NodeAt.mk HY.out.nd).c4
  have y4f:=(NodeAt.mk HY.out.nd).f 4
  have hrw:=HY.out.row
  go_wp2_with (at_builtin;(refine wpList_append_own_none rfl _ _ 38 rfl 0 26 i0 1 Tryz.underlying38 hi (.slice (some ⟨g0,0,none⟩) (n0+1) cap0) (n0+1) _ rfl hrw rfl ?_))
  go_wp2_with fail
  go_ret
  have hk:=zXm HY.out HCR.out
  refine hk.tl ?_
  rw [HRES.out]
  unfold argM
  rw [if_pos HX.out.2.2.2.2.2.2.1,zGl,if_pos HX.out.2.2.2.2.2.2.2]
  rfl
theorem zXo (c:Rc) (hS:Scd c.ts) (w:World) (i:Nat) (h:RF c w i false) (hk:(tk c.ts i).1.k=1) (hne:namM c.ts i≠.out) (d:DT) (j:Nat) (hok:D0 c.ts i=.ok d j) (hno:isS (tk c.ts j) [58,61]=false) (hpp:isS (tk c.ts j) [40]=true∧isS (tk c.ts (j+1)) [41]=false) :
  Calls Tryz.prog 35 #[.pointer (some ⟨c.R,0,none⟩)] w (Tl c w.heap.size w (namM c.ts i)):=by
 obtain⟨i0,hi,hz0,hz1,hz2⟩:=info_parts infoP
 obtain⟨px,py,e1⟩:=zAc (tk c.ts i).2.1.1 (tk c.ts i).2.1.2
 obtain⟨ex,ey,e2⟩:=zAc (tk c.ts i).2.2.1 (tk c.ts i).2.2.2
 have hfd:=zBb
 have HN:=zAo c w i false h px py ex ey e1 e2
 have HX:=oH (oA h (oA hk (oA e1 (oA hne (oA hok (oA hno hpp))))))
 have HEE:=oH (zBn c hS)
 have HDD:=oH (zBx c (E0 c.ts) (zAr _) (zBl c hS _))
 have HCR:Hid (c.R < w.heap.size):=oH h.lt
 have HUN:Hid (namM c.ts i=(D0 c.ts i).bnd fun x j=>if isS (tk c.ts j) [58,61]=true then (E0 c.ts (j+1)).bnd fun y k=>.ok (.node (nd 60 (tk c.ts j) [] 0) [x,y]) k else (argM c.ts j).re fun l=>.node (nd 61 (tk c.ts i) [] 0) (x::l)):=oH rfl
 have HDA:=oH (zHg c (E0 c.ts) (zAr _) (zBl c hS _))
 clear h hk e1 e2 hne hS hok hno hpp
 generalize ((tk c.ts i).1.k:Int)=t0 at *
 generalize (⟨(tk c.ts i).1.x.toArray⟩:ByteArray)=t3 at *
 generalize (tk c.ts i).1.n=t4 at *
 go_enter Tryz.func35,Tryz.ntmps35
 go_wp2_with fail
 refine HN.mono ?_
 rintro e w0 ⟨rfl,F0⟩
 have FF:=oH F0
 clear F0 HN
 have HK:=zAb c w0 i false [73,70] (HX.out.1.keep FF.out) (by rw [zBi HX.out.2.1];rfl)
 simp only [pt] at HK
 go_wp2_with fail
 refine HK.mono ?_
 rintro e u0 ⟨rfl,F1⟩
 have FG:=oH (FF.out.on F1)
 clear F1 HK FF
 have FF:=FG
 clear FG
 have HK:=zAb c u0 i false [67,65,83,69] (HX.out.1.keep FF.out) (by rw [zBi HX.out.2.1];rfl)
 simp only [pt] at HK
 go_wp2_with fail
 refine HK.mono ?_
 rintro e u1 ⟨rfl,F1⟩
 have FG:=oH (FF.out.on F1)
 clear F1 HK FF
 have FF:=FG
 clear FG
 have HK:=zAb c u1 i false [87,72,73,76,69] (HX.out.1.keep FF.out) (by rw [zBi HX.out.2.1];rfl)
 simp only [pt] at HK
 go_wp2_with fail
 refine HK.mono ?_
 rintro e u2 ⟨rfl,F1⟩
 have FG:=oH (FF.out.on F1)
 clear F1 HK FF
 have FF:=FG
 clear FG
 have HK:=zAb c u2 i false [82,69,80,69,65,84] (HX.out.1.keep FF.out) (by rw [zBi HX.out.2.1];rfl)
 simp only [pt] at HK
 go_wp2_with fail
 refine HK.mono ?_
 rintro e u3 ⟨rfl,F1⟩
 have FG:=oH (FF.out.on F1)
 clear F1 HK FF
 have FF:=FG
 clear FG
 have HK:=zAb c u3 i false [76,79,79,80] (HX.out.1.keep FF.out) (by rw [zBi HX.out.2.1];rfl)
 simp only [pt] at HK
 go_wp2_with fail
 refine HK.mono ?_
 rintro e u4 ⟨rfl,F1⟩
 have FG:=oH (FF.out.on F1)
 clear F1 HK FF
 have FF:=FG
 clear FG
 have HK:=zAb c u4 i false [69,88,73,84] (HX.out.1.keep FF.out) (by rw [zBi HX.out.2.1];rfl)
 simp only [pt] at HK
 go_wp2_with fail
 refine HK.mono ?_
 rintro e u5 ⟨rfl,F1⟩
 have FG:=oH (FF.out.on F1)
 clear F1 HK FF
 have FF:=FG
 clear FG
 have HK:=zAb c u5 i false [70,79,82] (HX.out.1.keep FF.out) (by rw [zBi HX.out.2.1];rfl)
 simp only [pt] at HK
 go_wp2_with fail
 refine HK.mono ?_
 rintro e u6 ⟨rfl,F1⟩
 have FG:=oH (FF.out.on F1)
 clear F1 HK FF
 have FF:=FG
 clear FG
 have HK:=zAb c u6 i false [87,73,84,72] (HX.out.1.keep FF.out) (by rw [zBi HX.out.2.1];rfl)
 simp only [pt] at HK
 go_wp2_with fail
 refine HK.mono ?_
 rintro e u7 ⟨rfl,F1⟩
 have FG:=oH (FF.out.on F1)
 clear F1 HK FF
 have FF:=FG
 clear FG
 have HK:=zAb c u7 i false [82,69,84,85,82,78] (HX.out.1.keep FF.out) (by rw [zBi HX.out.2.1];rfl)
 simp only [pt] at HK
 go_wp2_with fail
 refine HK.mono ?_
 rintro e u8 ⟨rfl,F1⟩
 have FG:=oH (FF.out.on F1)
 clear F1 HK FF
 have FF:=FG
 clear FG
 have HD:=HDD.out u8 i (HX.out.1.keep FF.out) (fun e=>by have e:D0 c.ts i=.out:=e;rw [HX.out.2.2.2.2.1] at e;cases e)
 go_wp2_with fail
 refine HD.mono ?_
 rintro e w1 ⟨o,rfl,F1,⟨d2,j2,u,hr,rfl,X1,hu,hd⟩ | ⟨j2,hr,X1⟩⟩
 rotate_left
 ·exact absurd (show D0 c.ts i=.bad j2 from hr) (by rw [HX.out.2.2.2.2.1];simp)
 ·have hr:D0 c.ts i=.ok d2 j2:=hr
  have hr2:=hr.symm.trans HX.out.2.2.2.2.1
  injection hr2 with hr3 hr4
  rw [hr4] at X1
  obtain⟨qx,qy,f1⟩:=zAc (tk c.ts j).2.1.1 (tk c.ts j).2.1.2
  obtain⟨gx,gy,f2⟩:=zAc (tk c.ts j).2.2.1 (tk c.ts j).2.2.2
  have HNW:=zAo c w1 j false X1 qx qy gx gy f1 f2
  have hu0:IsT w1 (w.heap.size≤·) u:=zAt hu FF.out.size
  have H1:=oH (oA (FF.out.up0 (N:=[c.R]) |>.on F1) (oA X1 (oA hu0 (hd.trans hr3))))
  clear F1 X1 hu hr hd f1 f2 HD FF hu0 hr3 hr4
  generalize ((tk c.ts j).1.k:Int)=s0 at *
  generalize (⟨(tk c.ts j).1.x.toArray⟩:ByteArray)=s3 at *
  generalize (tk c.ts j).1.n=s4 at *
  simp only [encP,ptrV]
  go_wp2_with fail
  refine HNW.mono ?_
  rintro e w2 ⟨rfl,F2⟩
  have H2:=oH F2
  clear F2 HNW
  have HK:=zAu c w2 j false [58,61] (H1.out.2.1.keep H2.out) (by rw [HX.out.2.2.2.2.2.1];rfl)
  simp only [pt] at HK
  go_wp2_with fail
  refine HK.mono ?_
  rintro e w3 ⟨rfl,F3⟩
  have H3:=oH (oA ((H1.out.1.on0 H2.out).on0 F3) (oA ((H1.out.2.1.keep H2.out).keep F3) (zAk (zAk H1.out.2.2.1 H2.out (by simp)) F3 (by simp))))
  clear F3 HK
  have HDN:=dnode w3 61 61 rfl (tk c.ts i) px py HX.out.2.2.1
  go_wp2_with fail
  refine HDN.mono ?_
  rintro e wn ⟨rfl,hwn⟩
  have HS0:Hid (SN c w (nd 61 (tk c.ts i) [] 0) w3.heap.size (.ok [] j) 0 wn (.slice none 0 0) 0 []∧IsT wn (fun q=>w.heap.size≤q∧q≠w3.heap.size) u):=oH (by
   rw [hwn]
   exact⟨zIm _ H3.out.1 H3.out.2.1,H3.out.2.2.keep (fun q hq hl=>⟨hq,by omega⟩) (fun q hq hl=>(Fr.alloc w3 _).block q hl (by simp))⟩)
  clear hwn HDN
  obtain⟨p,hp⟩:∃p,w3.heap.size=p:=⟨_,rfl⟩
  try rw [hp]
  have HS0':Hid (∃v n xs,v=Value.slice none 0 0∧SN c w (nd 61 (tk c.ts i) [] 0) p (.ok [] j) 0 wn v n xs∧IsT wn (fun q=>w.heap.size≤q∧q≠p∧q ∉ obL v) u):=oH ⟨_,_,_,rfl,by rw [← hp];exact HS0.out.1,by
   rw [← hp]
   exact HS0.out.2.keep (fun q hq _=>⟨hq.1,hq.2,by simp [obL,Value.ownBlock]⟩) (fun _ _ _=>rfl)⟩
  clear HS0
  obtain⟨v0,n0,xs0,hv0,hs0,hu0⟩:=HS0'.out
  have HA0:=oH hs0
  have HU0:=oH hu0
  clear HS0' hs0 hv0 hu0
  have hsr:=HA0.out.row.alloc (.cells #[Value.pointer (some ⟨u.p,0,none⟩)] 26)
  have hnb:=HA0.out.hn
  have y4:=(NodeAt.mk HA0.out.nd).c4
  have HN1:=oH (new1 wn (Value.pointer (some ⟨u.p,0,none⟩)) 26)
  have HO1:Hid (∀z ∈ [Value.pointer (some ⟨u.p,0,none⟩)],z.oneCell'=true):=oH (fun z hz=>by simp at hz;subst hz;rfl)
  go_wp2_with (at_builtin;refine wpList_append_lies _ rfl _ _ 38 rfl 0 26 i0 _ 1 8 Tryz.underlying38 hi hz0 hz1 hz2 rfl (by decide) v0 n0 _ rfl hsr ⟨wn.heap.size,0,none⟩ 1 1 [Value.pointer (some ⟨u.p,0,none⟩)] rfl rfl HN1.out HO1.out (by decide) (by unfold maxLen;omega) (by omega) (by simp <;> omega) (wn.heap.size+1) (by simp) ?_)
  intro g0 cap0 wd0 hown hgrow hat hlt
  have HE0:=oH (zMh HA0.out HCR.out u HU0.out (by simpa [ptrV] using hown) hgrow hat)
  have H9:wd0.cell? ⟨p,4,none⟩=some v0∧wd0.frozen? ⟨p,4,none⟩=false:=by
   have F12:Fr (obL v0) wn wd0:=((Fr.alloc wn _).up0).on (Fr.of_grown hgrow)
   have n6:=(F12.block p (zAd HA0.out.nd) (fun hm=>zAi HA0.out.row HA0.out.nd hm)).trans HA0.out.nd
   exact⟨(NodeAt.mk n6).c4,(NodeAt.mk n6).f 4⟩
  obtain⟨H9,f9⟩:=H9
  clear hown hgrow hat hlt hsr HN1 HO1 y4
  go_upto_region 46 with fail
  obtain⟨wa0,hwa0⟩:∃wa,wd0.setCell ⟨p,4,none⟩ (.slice (some ⟨g0,0,none⟩) (n0+1) cap0)=wa:=⟨_,rfl⟩
  rw [hwa0] at HE0
  try rw [hwa0]
  clear H9 f9 hwa0
  have HXE:Hid (RF c wa0 j false):=oH (by
   rcases HE0.out.st with⟨l,j2,us,h1,h2,_⟩ | ⟨j2,h1,_⟩
   ·injection h1 with _ h1;rw [h1];exact h2
   ·cases h1)
  have HRES:Hid (namM c.ts i=(argM c.ts j).re fun l=>.node (nd 61 (tk c.ts i) [] 0) (u.dt::l)):=oH (by
   rw [HUN.out,HX.out.2.2.2.2.1,H1.out.2.2.2]
   show (if isS (tk c.ts j) [58,61]=true then _ else _)=_
   rw [if_neg (by rw [HX.out.2.2.2.2.2.1];simp)])
  have HSY:=zAs c wa0 j false [40] HXE.out
  rw [HX.out.2.2.2.2.2.2.1] at HSY
  simp only [Bool.not_false,Bool.true_and,pt] at HSY
  go_wp2_with fail
  refine HSY.mono ?_
  rintro e wz ⟨rfl,FZ⟩
  have HZ:=oH (oA (HE0.out.keep HCR.out FZ) (HXE.out.keep FZ))
  clear FZ HSY HXE
  have hnw:withM c.ts [41] (E0 c.ts) j≠.out:=fun e=>HX.out.2.2.2.1 (by
   rw [HRES.out]
   unfold argM
   rw [if_pos HX.out.2.2.2.2.2.2.1,e]
   rfl)
  have HAR:=HDA.out wz j HZ.out.2 HX.out.2.2.2.2.2.2.1 HX.out.2.2.2.2.2.2.2 hnw
  clear hnw
  go_wp2_with fail
  refine HAR.mono ?_
  rintro e wy ⟨vy,rfl,FY,gy,m,capy,news,rfl,hm0,hm1,hnl,hsrc,hone,hres⟩
  have HY:=oH (HZ.out.1.nd)
  have nY:=(FY.block p (zAd HZ.out.1.nd) (by have:=HZ.out.1.hp;have:=HCR.out;simp;omega)).trans HZ.out.1.nd
  have hrY:=zAf HZ.out.1.row FY (fun q hq hm=>by
   have h1:=HZ.out.1.far q hq
   have h2:q=c.R:=by simpa using hm
   have:=HCR.out
   omega)
  have y4:=(NodeAt.mk nY).c4
  have HRS:=oH (oA FY (oA nY (oA hres hnl)))
  have hnb:=HZ.out.1.hn
  have hlm:news.length=m * 1:=by omega
  clear FY nY hres hnl HAR
  go_wp2_with (at_builtin;refine wpList_append_lies _ rfl _ _ 38 rfl 0 26 i0 _ 1 8 Tryz.underlying38 hi hz0 hz1 hz2 rfl (by decide) (.slice (some ⟨g0,0,none⟩) (n0+1) cap0) (n0+1) _ rfl hrY ⟨gy,0,none⟩ m capy news rfl hlm hsrc hone hm0 (by unfold maxLen;omega) (by omega) (by simp <;> omega) wy.heap.size rfl ?_)
  intro g9 cap9 wd9 hown hgrow hat hlt
  have HF:=oH (oA hown (oA hgrow hat))
  have H9:wd9.cell? ⟨p,4,none⟩=some (.slice (some ⟨g0,0,none⟩) (n0+1) cap0)∧wd9.frozen? ⟨p,4,none⟩=false:=by
   have F12:=Fr.of_grown hgrow
   have n6:=(F12.block p (zAd HRS.out.2.1) (fun hm=>zAi hrY HRS.out.2.1 hm)).trans HRS.out.2.1
   exact⟨(NodeAt.mk n6).c4,(NodeAt.mk n6).f 4⟩
  obtain⟨H9,f9⟩:=H9
  have HRW:=oH hrY
  clear hown hgrow hat hlt hsrc hone hrY y4
  go_wp2_with fail
  go_ret
  obtain⟨hown,hgrow,hat⟩:=HF.out
  obtain⟨FY,nY,hres,hnl⟩:=HRS.out
  have hW:=HZ.out.1
  have F12:=Fr.of_grown hgrow
  have F3:=Fr.set wd9 p 4 (.slice (some ⟨g9,0,none⟩) (n0+1+m) cap9)
  have FT:Fr (p::obL (.slice (some ⟨g0,0,none⟩) (n0+1) cap0)) wy (wd9.setCell ⟨p,4,none⟩ (.slice (some ⟨g9,0,none⟩) (n0+1+m) cap9)):=(F12.mono (fun q hq=>List.mem_cons_of_mem _ hq)).trans F3 (fun q hq=>.inl (by
   obtain rfl:q=p:=by simpa using hq
   exact List.mem_cons_self))
  have hRq:∀q ∈ p::obL (.slice (some ⟨g0,0,none⟩) (n0+1) cap0),w.heap.size≤q:=fun q hq=>by
   rcases List.mem_cons.1 hq with rfl | hq
   ·exact hW.hp
   ·exact hW.far q hq
  have FALL:=(hW.fr.on FY).trans FT (fun q hq=>.inr (hRq q hq))
  have harg:argM c.ts j=withM c.ts [41] (E0 c.ts) j:=by unfold argM;rw [if_pos HX.out.2.2.2.2.2.2.1]
  rcases hres with⟨l,k,us,hw,XY,hnews,hus,hul⟩ | ⟨k,hw,XY⟩
  ·rcases hW.st with⟨l0,j0,ts0,h1,_,hK,hl0,hn0,hx0⟩ | ⟨j0,h1,_⟩
   ·injection h1 with h1 _
    have hml:m=us.length:=by rw [← hnl,hnews];simp
    rw [hml,hnews] at hown
    have hxx:xs0++ptrV u.p::List.map ptrV (List.map Tr.p us)=List.map ptrV (List.map Tr.p ts0)++List.map ptrV (List.map Tr.p us):=by rw [← hx0];simp
    first | rw [hxx] at hown | rw [hx0] at hown
    rw [hn0] at hown
    have hkk:=hK.onL (w4:=wz) (w5:=wy) (w6:=wd9) (N:=[c.R]) FY (by simp;exact HCR.out) hW.fr.size hus g9 cap9 hown hgrow hat
    rw [← hn0,← hml] at hkk
    refine Tl.mk_ok (u:=.node p _ (ts0++us)) (d:=.node (nd 61 (tk c.ts i) [] 0) (u.dt::l)) (j:=k) ?_ FALL (XY.stay FT (fun q hq=>by have:=hRq q hq;have:=HCR.out;omega)) hkk.tree ?_
    ·rw [HRES.out,harg,hw];rfl
    ·show DT.node _ (dtL (ts0++us))=_
     rw [zDp,hl0,← h1,hul];rfl
   ·cases h1
  ·exact Tl.mk_bad (o:=some p) rfl (by rw [HRES.out,harg,hw];rfl) FALL (XY.stay FT (fun q hq=>by have:=hRq q hq;have:=HCR.out;omega))
end Go.Proofs.YtepfknfadpkigaaGreat
end
