/- Several texts in one. -/
import Derived.Test.YtepfknfadpkigaaGreatPkAA
import Derived.Test.YtepfknfadpkigaaGreatPkBG
import Derived.Test.YtepfknfadpkigaaGreatPkAW
set_option linter.unusedVariables false
set_option linter.unusedSimpArgs false
section
namespace Go.Proofs.YtepfknfadpkigaaGreat
open Go.RowKit
set_option maxHeartbeats 4000000
set_option maxRecDepth 100000
theorem zXe {c:Rc} {w0:World} {K:Nat} {t:TK} {p:Nat} {r:ReL} {N:Nat} {w:World} {v:Value} {n:Nat} {xs:List Value} (h:SN c w0 (nd K t [] 0) p r N w v n xs) (hR:c.R < w0.heap.size) (x:List UInt8) :
  SN c w0 (nd K t x 0) p r N (w.setCell ⟨p,2,none⟩ (.string ⟨x.toArray⟩)) v n xs:=by
 have F:=Fr.set w p 2 (.string ⟨x.toArray⟩)
 have hpv:p ∉ obL v:=fun hm=>zAi h.row h.nd hm
 have n':(w.setCell ⟨p,2,none⟩ (.string ⟨x.toArray⟩)).heap[p]?=some (nodeO (nd K t x 0) v):=by simp [World.setCell,Array.getElem?_modify,h.nd,nodeO,nd]
 have hRp:c.R < p:=by have:=h.hp;omega
 refine⟨h.fr.trans F (fun q hq=>.inr ?_),h.hp,n',zAf h.row F (fun q hq hm=>?_),h.hn,h.far,?_⟩
 ·obtain rfl:q=p:=by simpa using hq
  exact h.hp
 ·obtain rfl:q=p:=by simpa using hm
  exact hpv hq
 ·rcases h.st with⟨l,j,us,h1,h2,h3,h4⟩ | ⟨j,h1,h2⟩
  ·refine .inl ⟨l,j,us,h1,h2.stay F (by simp;exact hRp),⟨n',h3.r.frame F (fun q hq hm=>?_),h3.k.keep (fun _ h _=>h) (fun q hq hl=>F.block q hl (by simp;exact hq.2.1)),h3.hp⟩,h4⟩
   obtain rfl:q=p:=by simpa using hm
   exact hpv hq
  ·exact .inr ⟨j,h1,h2.stay F (by simp;exact hRp)⟩
def byM (ts:List TK) (r:ReL):ReL:=r.bnd fun l j=>if isW (tk ts j) [66,89]=true then (E0 ts (j+1)).bndL fun x k=>.ok (l++[x]) k else .ok (l++[dt0]) j
def zM (j:Nat):Re:=.ok dt0 j
theorem qDe {ts:List TK} {r:ReL} (h:eatM ts [66,89] r=false):byM ts r=kid zM r:=by
 cases r with
 | out=>rfl
 | bad k=>rfl
 | ok l j =>
  have h:isW (tk ts j) [66,89]=false:=h
  show (if isW (tk ts j) [66,89]=true then _ else _)=_
  rw [if_neg (by rw [h];simp)]
  rfl
theorem qAz {ts:List TK} {l:List DT} {j:Nat} (h:isW (tk ts j) [66,89]=true):byM ts (.ok l j)=kid (E0 ts) (.ok l (j+1)):=by
 show (if isW (tk ts j) [66,89]=true then _ else _)=_
 rw [if_pos h]
 rfl
def zD:ND:=⟨0,0,0,[],0⟩
theorem qBa:nodeO zD (.slice none 0 0)=.cells #[.int .u8 0,.complex .f64 0 0,.string ⟨#[]⟩,.int .i64 0,.slice none 0 0] 40 (0,0):=rfl
theorem qBb (c:Rc) (w:World) (i:Nat) (t:TK) (px py:Nat) (e1:posV t.2.1.1 t.2.1.2=.complex .f64 px py) (h:RF c w i false) (hk:(tk c.ts i).1.k≠1) :
  Calls Tryz.prog 67 #[.pointer (some ⟨c.R,0,none⟩),.complex .f64 px py] w (Tl c w.heap.size w (.bad i)):=by
 have HX:=oH (oA h e1)
 have HCR:Hid (c.R < w.heap.size):=oH h.lt
 have HK:=oH hk
 clear h e1 hk
 go_enter Tryz.func67,Tryz.ntmps67
 have HDN:=dnode w 68 68 rfl t px py HX.out.2
 go_wp2_with fail
 refine HDN.mono ?_
 rintro e wn ⟨rfl,hwn⟩
 have HS0:Hid (SN c w (nd 68 t [] 0) w.heap.size (.ok [] i) 0 wn (.slice none 0 0) 0 []):=oH (by rw [hwn];exact SN.new _ HX.out.1)
 clear hwn HDN
 obtain⟨p,hp⟩:∃p,w.heap.size=p:=⟨_,rfl⟩
 try rw [hp]
 have HS0':Hid (∃v n xs,v=Value.slice none 0 0∧SN c w (nd 68 t [] 0) p (.ok [] i) 0 wn v n xs):=oH ⟨_,_,_,rfl,by rw [← hp];exact HS0.out⟩
 clear HS0
 obtain⟨v0,n0,xs0,hv0,hs0⟩:=HS0'.out
 have HA0:=oH hs0
 clear HS0' hs0 hv0
 have HKN:Hid (RF c wn i false):=oH (by
  rcases HA0.out.st with⟨l,j,us,h1,h2,_⟩ | ⟨j,h1,_⟩
  ·injection h1 with _ h1;rw [h1];exact h2
  ·cases h1)
 have HNM:=zId c wn i false HKN.out (.inr HK.out)
 simp only [pt,encP] at HNM
 go_wp2_with fail
 refine HNM.mono ?_
 rintro e wa ⟨rfl,Fa,Xa⟩
 have c2:=Xa.c2
 have HA:=oH (oA (HA0.out.fr.on Fa) Xa)
 clear Fa Xa HNM
 go_wp2_with fail
 go_ret
 exact Tl.mk_bad (o:=none) rfl rfl HA.out.1 HA.out.2
theorem qBc (c:Rc) (hS:Scd c.ts) (B:Nat→Re) (hB:CF c 18 B) (w:World) (i:Nat) (t:TK) (px py:Nat) (e1:posV t.2.1.1 t.2.1.2=.complex .f64 px py) (h:RF c w i false) (hk:(tk c.ts i).1.k=1) (RES:ReL) (hRES:RES=needM c.ts [69,78,68] (kid B (needM c.ts [68,79] (byM c.ts (kid (E0 c.ts) (needM c.ts [84,79] (kid (E0 c.ts) (needS c.ts [58,61] (.ok [] (i+1)))))))))) (hne:RES≠.out) :
  Calls Tryz.prog 67 #[.pointer (some ⟨c.R,0,none⟩),.complex .f64 px py] w (Tl c w.heap.size w (RES.re fun l=>.node (nd 68 t (tk c.ts i).1.x 0) l)):=by
 obtain⟨i0,hi,hz0,hz1,hz2⟩:=info_parts infoP
 have HX:=oH (oA h e1)
 have HCR:Hid (c.R < w.heap.size):=oH h.lt
 have HEE:=oH (zBn c hS)
 have HBB:=oH hB
 have HK:=oH hk
 have HQ:=oH (oA hRES hne)
 have HO7:Hid (kid B (needM c.ts [68,79] (byM c.ts (kid (E0 c.ts) (needM c.ts [84,79] (kid (E0 c.ts) (needS c.ts [58,61] (.ok [] (i+1))))))))≠.out):=oH (zBp (by rw [← hRES];exact hne))
 have HOB:Hid (byM c.ts (kid (E0 c.ts) (needM c.ts [84,79] (kid (E0 c.ts) (needS c.ts [58,61] (.ok [] (i+1))))))≠.out):=oH (zBp (zDi HO7.out))
 have HO4:Hid (kid (E0 c.ts) (needM c.ts [84,79] (kid (E0 c.ts) (needS c.ts [58,61] (.ok [] (i+1)))))≠.out):=oH (fun e=>HOB.out (by rw [e];rfl))
 have HO2:Hid (kid (E0 c.ts) (needS c.ts [58,61] (.ok [] (i+1)))≠.out):=oH (zBp (zDi HO4.out))
 clear h e1 hB hk hRES hne hS
 go_enter Tryz.func67,Tryz.ntmps67
 have HDN:=dnode w 68 68 rfl t px py HX.out.2
 go_wp2_with fail
 refine HDN.mono ?_
 rintro e wn ⟨rfl,hwn⟩
 have HS0:Hid (SN c w (nd 68 t [] 0) w.heap.size (.ok [] i) 0 wn (.slice none 0 0) 0 []):=oH (by rw [hwn];exact SN.new _ HX.out.1)
 clear hwn HDN
 obtain⟨p,hp⟩:∃p,w.heap.size=p:=⟨_,rfl⟩
 try rw [hp]
 have HS0':Hid (∃v n xs,v=Value.slice none 0 0∧SN c w (nd 68 t [] 0) p (.ok [] i) 0 wn v n xs):=oH ⟨_,_,_,rfl,by rw [← hp];exact HS0.out⟩
 clear HS0
 obtain⟨v0,n0,xs0,hv0,hs0⟩:=HS0'.out
 have HA0:=oH hs0
 clear HS0' hs0 hv0
 have HKN:Hid (RF c wn i false):=oH (by
  rcases HA0.out.st with⟨l,j,us,h1,h2,_⟩ | ⟨j,h1,_⟩
  ·injection h1 with _ h1;rw [h1];exact h2
  ·cases h1)
 have HNM:=zIc c wn i HKN.out HK.out
 simp only [pt] at HNM
 go_wp2_with fail
 refine HNM.mono ?_
 rintro e wa ⟨pn,vn,rfl,Fa,Xa,hpn,hKn⟩
 have HSA:Hid (SN c w (nd 68 t [] 0) p (.ok [] (i+1)) 0 wa v0 n0 xs0):=oH (HA0.out.fr2 HCR.out Fa (by
  rcases HA0.out.st with⟨l,j,us,h1,h2,h3,h4,h5⟩ | ⟨j,h1,_⟩
  ·injection h1 with h1 _
   exact .inl ⟨[],i+1,us,rfl,Xa,h3,by rw [h4,h1],h5⟩
  ·cases h1))
 have c2:=Xa.c2
 have nm2:wa.cell? ⟨pn,2,none⟩=some (.string ⟨(tk c.ts i).1.x.toArray⟩):=(NodeAt.mk hKn.n).c2
 have xm2:=(NodeAt.mk HSA.out.nd).c2
 have xf2:=(NodeAt.mk HSA.out.nd).f 2
 clear Fa Xa hpn hKn HNM HA0 HKN
 simp only [ptrV]
 go_upto_region 6 with fail
 obtain⟨wx,hwx⟩:∃wx,wa.setCell ⟨p,2,none⟩ (.string ⟨(tk c.ts i).1.x.toArray⟩)=wx:=⟨_,rfl⟩
 have HAX:Hid (SN c w (nd 68 t (tk c.ts i).1.x 0) p (.ok [] (i+1)) 0 wx v0 n0 xs0):=oH (by rw [← hwx];exact zXe HSA.out HCR.out _)
 try rw [hwx]
 clear c2 nm2 xm2 xf2 hwx HSA
 have HND0:=HAX.out.needS HCR.out [58,61]
 go_wp2_with fail
 refine HND0.mono ?_
 rintro e wm0 ⟨rfl,FN0,hs⟩
 have HN0:=oH hs
 clear hs FN0 HND0 HAX
 obtain⟨v1,n1,xs1,he1,he2,he3⟩:∃v n xs,v0=v∧n0=n∧xs0=xs:=⟨_,_,_,rfl,rfl,rfl⟩
 rw [he1,he2,he3] at HN0
 clear he1 he2 he3
 obtain⟨j1,b1,X1,hst1⟩:=HN0.out.rf
 have HNE1:b1=false→(E0 c.ts) j1≠.out:=fun hb=>by
  rcases hst1 with⟨_,l,us,hr,_⟩ | ⟨hb2,_⟩
  ·exact zBm HO2.out hr
  ·rw [hb] at hb2;cases hb2
 have HR1:∀w1,Fr [] wm0 w1→Calls Tryz.prog 65 #[.pointer (some ⟨c.R,0,none⟩)] w1 fun e w'=>∃o a,encP o=.pointer a∧e=.returned (.pointer a)∧Fr [c.R] wm0 w'∧(b1=false→Itm c ((E0 c.ts)) j1 wm0 w' o)∧(b1=true→RF c w' j1 true):=fun w1 F1=>by
  refine( HEE.out w1 j1 b1 (X1.keep F1)  HNE1).mono ?_
  rintro e w' ⟨o,a,h1,h2,h3,h4,h5⟩
  exact⟨o,a,h1,h2,F1.up0.on h3,fun hb=>(h4 hb).low F1.size,h5⟩
 have HSS1:∀w':World,Fr [c.R] wm0 w'→(w'.cell? ⟨p,4,none⟩=some v1∧w'.frozen? ⟨p,4,none⟩=false):=fun w' F=>by
  have e3:=(F.block p (zAd HN0.out.nd) (by have:=HN0.out.hp;have:=HCR.out;simp;omega)).trans HN0.out.nd
  exact⟨(NodeAt.mk e3).c4,(NodeAt.mk e3).f 4⟩
 have HST1:=oH hst1
 have y4:=(HSS1 wm0 (Fr.refl _ _)).1
 have hrow1:∀w',Fr [c.R] wm0 w'→w'.ownsRow 0 26 1 v1 n1 xs1:=fun w' F=>zAf HN0.out.row F (fun q hq hm=>by
  have h1:=HN0.out.far q hq
  have h2:q=c.R:=by simpa using hm
  have:=HCR.out
  omega)
 have hnb1:=HN0.out.hn
 clear X1 HNE1 hst1
 go_wp2_with fail
 refine zAp 13 (S:=fun w'=>w'.cell? ⟨p,4,none⟩=some v1) (by kernel_rfl) ?_ (fun hHeld=>?_)
 ·exact(HSS1 _ (Fr.drew wm0).up0).1
 refine aT 14 0 ?_
 refine aT 14 1 ?_
 refine aT 14 2 ?_
 refine aT 14 3 ?_
 refine aT 14 4 ?_
 refine aT 14 5 ?_
 refine aT 14 6 ?_
 refine aT 14 7 ?_
 refine zAa (rs:=[8]) (by kernel_rfl) (by simp) ?_
 refine AllL.cons rfl (fun K hK=>?_) ?_
 rotate_left
 ·exact AllL.nil
 go_simp
 refine(HR1 _ (Fr.drew wm0)).mono ?_
 rintro e wb1 ⟨o1,a1,ha1,rfl,FB1,hi1,hb1⟩
 have H9:=(HSS1 wb1 FB1).1
 clear HR1
 go_wp2_with fail
 refine hK.out _ _ (H9) (fun hHeld=>?_)
 clear hK K
 try simp only[Act.put,oB,oC,oD,oE,oF,oG]
 refine zAa (rs:=[9]) (by kernel_rfl) (by simp) ?_
 refine AllL.cons rfl (fun K hK=>?_) ?_
 rotate_left
 ·exact AllL.nil
 go_simp
 have H9:=(HSS1 _ (FB1.on0 (Fr.alloc wb1 (.cells #[.pointer a1] 26)))).1
 refine hK.out _ _ (H9) (fun hHeld=>?_)
 clear hK K
 try simp only[Act.put,oB,oC,oD,oE,oF,oG]
 refine zAa (rs:=[10]) (by kernel_rfl) (by simp) ?_
 refine AllL.cons rfl (fun K hK=>?_) ?_
 rotate_left
 ·exact AllL.nil
 refine step_append_lies _ (by rfl) _ _ 38 (by rfl) 0 26 i0 _ 1 8 Tryz.underlying38 hi hz0 hz1 hz2 (by rfl) (by omega) v1 n1 _ (by rfl) ((hrow1 _ FB1).alloc _) ⟨wb1.heap.size,0,none⟩ 1 1 [.pointer a1] (by rfl) (by rfl) (new1 wb1 (.pointer a1) 26) (fun u hu=>(by simp at hu;subst hu;rfl)) (by omega) (by unfold maxLen;omega) (by omega) (Nat.zero_le _) (wb1.heap.size+1) (by simp) ?_
 intro g1 cap1 wd1 hown hgrow hat hlt
 have HE1:=oH (HN0.out.app HCR.out HST1.out ha1 FB1 hi1 hb1 hown hgrow hat)
 have H9:wd1.cell? ⟨p,4,none⟩=some v1∧wd1.frozen? ⟨p,4,none⟩=false:=by
  have n2:=(FB1.block p (zAd HN0.out.nd) (by have:=HN0.out.hp;have:=HCR.out;simp;omega)).trans HN0.out.nd
  have F12:Fr (obL v1) wb1 wd1:=((Fr.alloc wb1 _).up0).on (Fr.of_grown hgrow)
  have n6:=(F12.block p (zAd n2) (fun hm=>zAi HN0.out.row HN0.out.nd hm)).trans n2
  exact⟨(NodeAt.mk n6).c4,(NodeAt.mk n6).f 4⟩
 obtain⟨H9,f9⟩:=H9
 clear hown hgrow hat hlt hi1 hb1 FB1 HST1 hrow1 HSS1 y4 ha1
 refine hK.out _ _ (H9) (fun hHeld=>?_)
 clear hK K
 try simp only[Act.put,oB,oC,oD,oE,oF,oG]
 refine aT 14 11 ?_
 refine aT 14 12 ?_
 refine zAa (rs:=[13]) (by kernel_rfl) (by simp) ?_
 refine AllL.last rfl (by kernel_rfl) (fun K hK=>?_) ?_
 rotate_left
 ·exact AllL.nil
 go_simp
 refine hK.out _ _ ?_
 clear hK K
 try simp only[Act.put,oB,oC,oD,oE,oF,oG]
 refine zAl (by kernel_rfl) ?_ _
 obtain⟨wa1,hwa1⟩:∃wa,wd1.setCell ⟨p,4,none⟩ (.slice (some ⟨g1,0,none⟩) (n1+1) cap1)=wa:=⟨_,rfl⟩
 rw [hwa1] at HE1
 try rw [hwa1]
 clear H9 f9 hwa1
 obtain⟨v2,hv2⟩:∃v,Value.slice (some ⟨g1,0,none⟩) (n1+1) cap1=v:=⟨_,rfl⟩
 obtain⟨n2,hn2⟩:∃n,n1+1=n:=⟨_,rfl⟩
 obtain⟨xs2,hx2⟩:∃x,xs1++[Value.pointer a1]=x:=⟨_,rfl⟩
 rw [hn2] at hv2 HE1
 rw [hv2,hx2] at HE1
 clear hv2 hn2 hx2
 have HND2:=HE1.out.need HCR.out [84,79]
 go_wp2_with fail
 refine HND2.mono ?_
 rintro e wm2 ⟨rfl,FN2,hs⟩
 have HN2:=oH hs
 clear hs FN2 HND2
 obtain⟨v3,n3,xs3,he1,he2,he3⟩:∃v n xs,v2=v∧n2=n∧xs2=xs:=⟨_,_,_,rfl,rfl,rfl⟩
 rw [he1,he2,he3] at HN2
 clear he1 he2 he3
 obtain⟨j3,b3,X3,hst3⟩:=HN2.out.rf
 have HNE3:b3=false→(E0 c.ts) j3≠.out:=fun hb=>by
  rcases hst3 with⟨_,l,us,hr,_⟩ | ⟨hb2,_⟩
  ·exact zBm HO4.out hr
  ·rw [hb] at hb2;cases hb2
 have HR3:∀w1,Fr [] wm2 w1→Calls Tryz.prog 65 #[.pointer (some ⟨c.R,0,none⟩)] w1 fun e w'=>∃o a,encP o=.pointer a∧e=.returned (.pointer a)∧Fr [c.R] wm2 w'∧(b3=false→Itm c ((E0 c.ts)) j3 wm2 w' o)∧(b3=true→RF c w' j3 true):=fun w1 F1=>by
  refine( HEE.out w1 j3 b3 (X3.keep F1)  HNE3).mono ?_
  rintro e w' ⟨o,a,h1,h2,h3,h4,h5⟩
  exact⟨o,a,h1,h2,F1.up0.on h3,fun hb=>(h4 hb).low F1.size,h5⟩
 have HSS3:∀w':World,Fr [c.R] wm2 w'→(w'.cell? ⟨p,4,none⟩=some v3∧w'.frozen? ⟨p,4,none⟩=false):=fun w' F=>by
  have e3:=(F.block p (zAd HN2.out.nd) (by have:=HN2.out.hp;have:=HCR.out;simp;omega)).trans HN2.out.nd
  exact⟨(NodeAt.mk e3).c4,(NodeAt.mk e3).f 4⟩
 have HST3:=oH hst3
 have y4:=(HSS3 wm2 (Fr.refl _ _)).1
 have hrow3:∀w',Fr [c.R] wm2 w'→w'.ownsRow 0 26 1 v3 n3 xs3:=fun w' F=>zAf HN2.out.row F (fun q hq hm=>by
  have h1:=HN2.out.far q hq
  have h2:q=c.R:=by simpa using hm
  have:=HCR.out
  omega)
 have hnb3:=HN2.out.hn
 clear X3 HNE3 hst3
 go_wp2_with fail
 refine zAp 13 (S:=fun w'=>w'.cell? ⟨p,4,none⟩=some v3) (by kernel_rfl) ?_ (fun hHeld=>?_)
 ·exact(HSS3 _ (Fr.drew wm2).up0).1
 refine aT 14 0 ?_
 refine aT 14 1 ?_
 refine aT 14 2 ?_
 refine aT 14 3 ?_
 refine aT 14 4 ?_
 refine aT 14 5 ?_
 refine aT 14 6 ?_
 refine aT 14 7 ?_
 refine zAa (rs:=[8]) (by kernel_rfl) (by simp) ?_
 refine AllL.cons rfl (fun K hK=>?_) ?_
 rotate_left
 ·exact AllL.nil
 go_simp
 refine(HR3 _ (Fr.drew wm2)).mono ?_
 rintro e wb3 ⟨o3,a3,ha3,rfl,FB3,hi3,hb3⟩
 have H9:=(HSS3 wb3 FB3).1
 clear HR3
 go_wp2_with fail
 refine hK.out _ _ (H9) (fun hHeld=>?_)
 clear hK K
 try simp only[Act.put,oB,oC,oD,oE,oF,oG]
 refine zAa (rs:=[9]) (by kernel_rfl) (by simp) ?_
 refine AllL.cons rfl (fun K hK=>?_) ?_
 rotate_left
 ·exact AllL.nil
 go_simp
 have H9:=(HSS3 _ (FB3.on0 (Fr.alloc wb3 (.cells #[.pointer a3] 26)))).1
 refine hK.out _ _ (H9) (fun hHeld=>?_)
 clear hK K
 try simp only[Act.put,oB,oC,oD,oE,oF,oG]
 refine zAa (rs:=[10]) (by kernel_rfl) (by simp) ?_
 refine AllL.cons rfl (fun K hK=>?_) ?_
 rotate_left
 ·exact AllL.nil
 refine step_append_lies _ (by rfl) _ _ 38 (by rfl) 0 26 i0 _ 1 8 Tryz.underlying38 hi hz0 hz1 hz2 (by rfl) (by omega) v3 n3 _ (by rfl) ((hrow3 _ FB3).alloc _) ⟨wb3.heap.size,0,none⟩ 1 1 [.pointer a3] (by rfl) (by rfl) (new1 wb3 (.pointer a3) 26) (fun u hu=>(by simp at hu;subst hu;rfl)) (by omega) (by unfold maxLen;omega) (by omega) (Nat.zero_le _) (wb3.heap.size+1) (by simp) ?_
 intro g3 cap3 wd3 hown hgrow hat hlt
 have HE3:=oH (HN2.out.app HCR.out HST3.out ha3 FB3 hi3 hb3 hown hgrow hat)
 have H9:wd3.cell? ⟨p,4,none⟩=some v3∧wd3.frozen? ⟨p,4,none⟩=false:=by
  have n2:=(FB3.block p (zAd HN2.out.nd) (by have:=HN2.out.hp;have:=HCR.out;simp;omega)).trans HN2.out.nd
  have F12:Fr (obL v3) wb3 wd3:=((Fr.alloc wb3 _).up0).on (Fr.of_grown hgrow)
  have n6:=(F12.block p (zAd n2) (fun hm=>zAi HN2.out.row HN2.out.nd hm)).trans n2
  exact⟨(NodeAt.mk n6).c4,(NodeAt.mk n6).f 4⟩
 obtain⟨H9,f9⟩:=H9
 clear hown hgrow hat hlt hi3 hb3 FB3 HST3 hrow3 HSS3 y4 ha3
 refine hK.out _ _ (H9) (fun hHeld=>?_)
 clear hK K
 try simp only[Act.put,oB,oC,oD,oE,oF,oG]
 refine aT 14 11 ?_
 refine aT 14 12 ?_
 refine zAa (rs:=[13]) (by kernel_rfl) (by simp) ?_
 refine AllL.last rfl (by kernel_rfl) (fun K hK=>?_) ?_
 rotate_left
 ·exact AllL.nil
 go_simp
 refine hK.out _ _ ?_
 clear hK K
 try simp only[Act.put,oB,oC,oD,oE,oF,oG]
 refine zAl (by kernel_rfl) ?_ _
 obtain⟨wa3,hwa3⟩:∃wa,wd3.setCell ⟨p,4,none⟩ (.slice (some ⟨g3,0,none⟩) (n3+1) cap3)=wa:=⟨_,rfl⟩
 rw [hwa3] at HE3
 try rw [hwa3]
 clear H9 f9 hwa3
 obtain⟨v4,hv4⟩:∃v,Value.slice (some ⟨g3,0,none⟩) (n3+1) cap3=v:=⟨_,rfl⟩
 obtain⟨n4,hn4⟩:∃n,n3+1=n:=⟨_,rfl⟩
 obtain⟨xs4,hx4⟩:∃x,xs3++[Value.pointer a3]=x:=⟨_,rfl⟩
 rw [hn4] at hv4 HE3
 rw [hv4,hx4] at HE3
 clear hv4 hn4 hx4
 rcases HE3.out.eat HCR.out [66,89] with⟨l,j,hr,X,hq,HK2⟩ | ⟨hno,HK2⟩
 ·have hby:byM c.ts (kid (E0 c.ts) (needM c.ts [84,79] (kid (E0 c.ts) (needS c.ts [58,61] (.ok [] (i+1))))))=kid (E0 c.ts) (.ok l (j+1)):=by rw [hr];exact qAz hq
  rw [hby] at HQ HO7 HOB
  clear hr X hq hby
  go_wp2_with fail
  refine HK2.mono ?_
  rintro e wk ⟨rfl,hs⟩
  have HA4:=oH hs
  clear hs HK2 HE3
  obtain⟨j4,b4,X4,hst4⟩:=HA4.out.rf
  have HNE4:b4=false→(E0 c.ts) j4≠.out:=fun hb=>by
   rcases hst4 with⟨_,l,us,hr,_⟩ | ⟨hb2,_⟩
   ·exact zBm HOB.out hr
   ·rw [hb] at hb2;cases hb2
  have HR4:∀w1,Fr [] wk w1→Calls Tryz.prog 65 #[.pointer (some ⟨c.R,0,none⟩)] w1 fun e w'=>∃o a,encP o=.pointer a∧e=.returned (.pointer a)∧Fr [c.R] wk w'∧(b4=false→Itm c ((E0 c.ts)) j4 wk w' o)∧(b4=true→RF c w' j4 true):=fun w1 F1=>by
   refine( HEE.out w1 j4 b4 (X4.keep F1)  HNE4).mono ?_
   rintro e w' ⟨o,a,h1,h2,h3,h4,h5⟩
   exact⟨o,a,h1,h2,F1.up0.on h3,fun hb=>(h4 hb).low F1.size,h5⟩
  have HSS4:∀w':World,Fr [c.R] wk w'→(w'.cell? ⟨p,4,none⟩=some v4∧w'.frozen? ⟨p,4,none⟩=false):=fun w' F=>by
   have e3:=(F.block p (zAd HA4.out.nd) (by have:=HA4.out.hp;have:=HCR.out;simp;omega)).trans HA4.out.nd
   exact⟨(NodeAt.mk e3).c4,(NodeAt.mk e3).f 4⟩
  have HST4:=oH hst4
  have y4:=(HSS4 wk (Fr.refl _ _)).1
  have hrow4:∀w',Fr [c.R] wk w'→w'.ownsRow 0 26 1 v4 n4 xs4:=fun w' F=>zAf HA4.out.row F (fun q hq hm=>by
   have h1:=HA4.out.far q hq
   have h2:q=c.R:=by simpa using hm
   have:=HCR.out
   omega)
  have hnb4:=HA4.out.hn
  clear X4 HNE4 hst4
  go_wp2_with fail
  refine zAp 13 (S:=fun w'=>w'.cell? ⟨p,4,none⟩=some v4) (by kernel_rfl) ?_ (fun hHeld=>?_)
  ·exact(HSS4 _ (Fr.drew wk).up0).1
  refine aT 14 0 ?_
  refine aT 14 1 ?_
  refine aT 14 2 ?_
  refine aT 14 3 ?_
  refine aT 14 4 ?_
  refine aT 14 5 ?_
  refine aT 14 6 ?_
  refine aT 14 7 ?_
  refine zAa (rs:=[8]) (by kernel_rfl) (by simp) ?_
  refine AllL.cons rfl (fun K hK=>?_) ?_
  rotate_left
  ·exact AllL.nil
  go_simp
  refine(HR4 _ (Fr.drew wk)).mono ?_
  rintro e wb4 ⟨o4,a4,ha4,rfl,FB4,hi4,hb4⟩
  have H9:=(HSS4 wb4 FB4).1
  clear HR4
  go_wp2_with fail
  refine hK.out _ _ (H9) (fun hHeld=>?_)
  clear hK K
  try simp only[Act.put,oB,oC,oD,oE,oF,oG]
  refine zAa (rs:=[9]) (by kernel_rfl) (by simp) ?_
  refine AllL.cons rfl (fun K hK=>?_) ?_
  rotate_left
  ·exact AllL.nil
  go_simp
  have H9:=(HSS4 _ (FB4.on0 (Fr.alloc wb4 (.cells #[.pointer a4] 26)))).1
  refine hK.out _ _ (H9) (fun hHeld=>?_)
  clear hK K
  try simp only[Act.put,oB,oC,oD,oE,oF,oG]
  refine zAa (rs:=[10]) (by kernel_rfl) (by simp) ?_
  refine AllL.cons rfl (fun K hK=>?_) ?_
  rotate_left
  ·exact AllL.nil
  refine step_append_lies _ (by rfl) _ _ 38 (by rfl) 0 26 i0 _ 1 8 Tryz.underlying38 hi hz0 hz1 hz2 (by rfl) (by omega) v4 n4 _ (by rfl) ((hrow4 _ FB4).alloc _) ⟨wb4.heap.size,0,none⟩ 1 1 [.pointer a4] (by rfl) (by rfl) (new1 wb4 (.pointer a4) 26) (fun u hu=>(by simp at hu;subst hu;rfl)) (by omega) (by unfold maxLen;omega) (by omega) (Nat.zero_le _) (wb4.heap.size+1) (by simp) ?_
  intro g4 cap4 wd4 hown hgrow hat hlt
  have HE4:=oH (HA4.out.app HCR.out HST4.out ha4 FB4 hi4 hb4 hown hgrow hat)
  have H9:wd4.cell? ⟨p,4,none⟩=some v4∧wd4.frozen? ⟨p,4,none⟩=false:=by
   have n2:=(FB4.block p (zAd HA4.out.nd) (by have:=HA4.out.hp;have:=HCR.out;simp;omega)).trans HA4.out.nd
   have F12:Fr (obL v4) wb4 wd4:=((Fr.alloc wb4 _).up0).on (Fr.of_grown hgrow)
   have n6:=(F12.block p (zAd n2) (fun hm=>zAi HA4.out.row HA4.out.nd hm)).trans n2
   exact⟨(NodeAt.mk n6).c4,(NodeAt.mk n6).f 4⟩
  obtain⟨H9,f9⟩:=H9
  clear hown hgrow hat hlt hi4 hb4 FB4 HST4 hrow4 HSS4 y4 ha4
  refine hK.out _ _ (H9) (fun hHeld=>?_)
  clear hK K
  try simp only[Act.put,oB,oC,oD,oE,oF,oG]
  refine aT 14 11 ?_
  refine aT 14 12 ?_
  refine zAa (rs:=[13]) (by kernel_rfl) (by simp) ?_
  refine AllL.last rfl (by kernel_rfl) (fun K hK=>?_) ?_
  rotate_left
  ·exact AllL.nil
  go_simp
  refine hK.out _ _ ?_
  clear hK K
  try simp only[Act.put,oB,oC,oD,oE,oF,oG]
  refine zAl (by kernel_rfl) ?_ _
  obtain⟨wa4,hwa4⟩:∃wa,wd4.setCell ⟨p,4,none⟩ (.slice (some ⟨g4,0,none⟩) (n4+1) cap4)=wa:=⟨_,rfl⟩
  rw [hwa4] at HE4
  try rw [hwa4]
  clear H9 f9 hwa4
  obtain⟨v5,hv5⟩:∃v,Value.slice (some ⟨g4,0,none⟩) (n4+1) cap4=v:=⟨_,rfl⟩
  obtain⟨n5,hn5⟩:∃n,n4+1=n:=⟨_,rfl⟩
  obtain⟨xs5,hx5⟩:∃x,xs4++[Value.pointer a4]=x:=⟨_,rfl⟩
  rw [hn5] at hv5 HE4
  rw [hv5,hx5] at HE4
  clear hv5 hn5 hx5
  have HND5:=HE4.out.need HCR.out [68,79]
  go_wp2_with fail
  refine HND5.mono ?_
  rintro e wm5 ⟨rfl,FN5,hs⟩
  have HN5:=oH hs
  clear hs FN5 HND5
  obtain⟨v6,n6,xs6,he1,he2,he3⟩:∃v n xs,v5=v∧n5=n∧xs5=xs:=⟨_,_,_,rfl,rfl,rfl⟩
  rw [he1,he2,he3] at HN5
  clear he1 he2 he3
  obtain⟨j6,b6,X6,hst6⟩:=HN5.out.rf
  have HNE6:b6=false→B j6≠.out:=fun hb=>by
   rcases hst6 with⟨_,l,us,hr,_⟩ | ⟨hb2,_⟩
   ·exact zBm HO7.out hr
   ·rw [hb] at hb2;cases hb2
  have HR6:∀w1,Fr [] wm5 w1→Calls Tryz.prog 18 #[.pointer (some ⟨c.R,0,none⟩)] w1 fun e w'=>∃o a,encP o=.pointer a∧e=.returned (.pointer a)∧Fr [c.R] wm5 w'∧(b6=false→Itm c (B) j6 wm5 w' o)∧(b6=true→RF c w' j6 true):=fun w1 F1=>by
   refine( HBB.out w1 j6 b6 (X6.keep F1)  HNE6).mono ?_
   rintro e w' ⟨o,a,h1,h2,h3,h4,h5⟩
   exact⟨o,a,h1,h2,F1.up0.on h3,fun hb=>(h4 hb).low F1.size,h5⟩
  have HSS6:∀w':World,Fr [c.R] wm5 w'→(w'.cell? ⟨p,4,none⟩=some v6∧w'.frozen? ⟨p,4,none⟩=false):=fun w' F=>by
   have e3:=(F.block p (zAd HN5.out.nd) (by have:=HN5.out.hp;have:=HCR.out;simp;omega)).trans HN5.out.nd
   exact⟨(NodeAt.mk e3).c4,(NodeAt.mk e3).f 4⟩
  have HST6:=oH hst6
  have y4:=(HSS6 wm5 (Fr.refl _ _)).1
  have hrow6:∀w',Fr [c.R] wm5 w'→w'.ownsRow 0 26 1 v6 n6 xs6:=fun w' F=>zAf HN5.out.row F (fun q hq hm=>by
   have h1:=HN5.out.far q hq
   have h2:q=c.R:=by simpa using hm
   have:=HCR.out
   omega)
  have hnb6:=HN5.out.hn
  clear X6 HNE6 hst6
  go_wp2_with fail
  refine zAp 11 (S:=fun w'=>w'.cell? ⟨p,4,none⟩=some v6) (by kernel_rfl) ?_ (fun hHeld=>?_)
  ·exact(HSS6 _ (Fr.drew wm5).up0).1
  refine aT 14 0 ?_
  refine aT 14 1 ?_
  refine aT 14 2 ?_
  refine aT 14 3 ?_
  refine aT 14 4 ?_
  refine aT 14 5 ?_
  refine zAa (rs:=[6]) (by kernel_rfl) (by simp) ?_
  refine AllL.cons rfl (fun K hK=>?_) ?_
  rotate_left
  ·exact AllL.nil
  go_simp
  refine(HR6 _ (Fr.drew wm5)).mono ?_
  rintro e wb6 ⟨o6,a6,ha6,rfl,FB6,hi6,hb6⟩
  have H9:=(HSS6 wb6 FB6).1
  clear HR6
  go_wp2_with fail
  refine hK.out _ _ (H9) (fun hHeld=>?_)
  clear hK K
  try simp only[Act.put,oB,oC,oD,oE,oF,oG]
  refine zAa (rs:=[7]) (by kernel_rfl) (by simp) ?_
  refine AllL.cons rfl (fun K hK=>?_) ?_
  rotate_left
  ·exact AllL.nil
  go_simp
  have H9:=(HSS6 _ (FB6.on0 (Fr.alloc wb6 (.cells #[.pointer a6] 26)))).1
  refine hK.out _ _ (H9) (fun hHeld=>?_)
  clear hK K
  try simp only[Act.put,oB,oC,oD,oE,oF,oG]
  refine zAa (rs:=[8]) (by kernel_rfl) (by simp) ?_
  refine AllL.cons rfl (fun K hK=>?_) ?_
  rotate_left
  ·exact AllL.nil
  refine step_append_lies _ (by rfl) _ _ 38 (by rfl) 0 26 i0 _ 1 8 Tryz.underlying38 hi hz0 hz1 hz2 (by rfl) (by omega) v6 n6 _ (by rfl) ((hrow6 _ FB6).alloc _) ⟨wb6.heap.size,0,none⟩ 1 1 [.pointer a6] (by rfl) (by rfl) (new1 wb6 (.pointer a6) 26) (fun u hu=>(by simp at hu;subst hu;rfl)) (by omega) (by unfold maxLen;omega) (by omega) (Nat.zero_le _) (wb6.heap.size+1) (by simp) ?_
  intro g6 cap6 wd6 hown hgrow hat hlt
  have HE6:=oH (HN5.out.app HCR.out HST6.out ha6 FB6 hi6 hb6 hown hgrow hat)
  have H9:wd6.cell? ⟨p,4,none⟩=some v6∧wd6.frozen? ⟨p,4,none⟩=false:=by
   have n2:=(FB6.block p (zAd HN5.out.nd) (by have:=HN5.out.hp;have:=HCR.out;simp;omega)).trans HN5.out.nd
   have F12:Fr (obL v6) wb6 wd6:=((Fr.alloc wb6 _).up0).on (Fr.of_grown hgrow)
   have n6:=(F12.block p (zAd n2) (fun hm=>zAi HN5.out.row HN5.out.nd hm)).trans n2
   exact⟨(NodeAt.mk n6).c4,(NodeAt.mk n6).f 4⟩
  obtain⟨H9,f9⟩:=H9
  clear hown hgrow hat hlt hi6 hb6 FB6 HST6 hrow6 HSS6 y4 ha6
  refine hK.out _ _ (H9) (fun hHeld=>?_)
  clear hK K
  try simp only[Act.put,oB,oC,oD,oE,oF,oG]
  refine aT 14 9 ?_
  refine aT 14 10 ?_
  refine zAa (rs:=[11]) (by kernel_rfl) (by simp) ?_
  refine AllL.last rfl (by kernel_rfl) (fun K hK=>?_) ?_
  rotate_left
  ·exact AllL.nil
  go_simp
  refine hK.out _ _ ?_
  clear hK K
  try simp only[Act.put,oB,oC,oD,oE,oF,oG]
  refine zAl (by kernel_rfl) ?_ _
  obtain⟨wa6,hwa6⟩:∃wa,wd6.setCell ⟨p,4,none⟩ (.slice (some ⟨g6,0,none⟩) (n6+1) cap6)=wa:=⟨_,rfl⟩
  rw [hwa6] at HE6
  try rw [hwa6]
  clear H9 f9 hwa6
  obtain⟨v7,hv7⟩:∃v,Value.slice (some ⟨g6,0,none⟩) (n6+1) cap6=v:=⟨_,rfl⟩
  obtain⟨n7,hn7⟩:∃n,n6+1=n:=⟨_,rfl⟩
  obtain⟨xs7,hx7⟩:∃x,xs6++[Value.pointer a6]=x:=⟨_,rfl⟩
  rw [hn7] at hv7 HE6
  rw [hv7,hx7] at HE6
  clear hv7 hn7 hx7
  have HND7:=HE6.out.need HCR.out [69,78,68]
  go_wp2_with fail
  refine HND7.mono ?_
  rintro e wm7 ⟨rfl,FN7,hs⟩
  have HN7:=oH hs
  clear hs FN7 HND7
  obtain⟨v8,n8,xs8,he1,he2,he3⟩:∃v n xs,v7=v∧n7=n∧xs7=xs:=⟨_,_,_,rfl,rfl,rfl⟩
  rw [he1,he2,he3] at HN7
  clear he1 he2 he3
  go_wp2_with fail
  go_ret
  exact HN7.out.tl (by rw [HQ.out.1])
 ·have hby:=qDe hno
  rw [hby] at HQ HO7 HOB
  clear hno hby
  go_wp2_with fail
  refine HK2.mono ?_
  rintro e wk ⟨rfl,hs⟩
  have HA4:=oH hs
  clear hs HK2 HE3
  obtain⟨wz,hwz⟩:∃wz,wk.alloc (nodeO zD (.slice none 0 0))=wz:=⟨_,rfl⟩
  have FZ:Fr [] wk wz:=by rw [← hwz];exact Fr.alloc _ _
  have hzn:wz.heap[wk.heap.size]?=some (nodeO zD (.slice none 0 0)):=by rw [← hwz];exact heap_alloc_new _ _
  have hsz:wz.heap.size=wk.heap.size+1:=by rw [← hwz];simp
  rw [qBa] at hwz
  obtain⟨jz,bz,Xz,hstz⟩:=HA4.out.rf
  have HZI:Hid (bz=false→Itm c zM jz wk wz (some wk.heap.size)):=oH (fun hb=>.inl ⟨dt0,jz,.node wk.heap.size zD [],rfl,rfl,by rw [hb] at Xz;exact Xz.keep FZ,⟨Nat.le_refl _,⟨_,hzn,⟨World.ownsRow_nil _ _ _ _,fun g hg=>by cases hg⟩⟩,trivial⟩,rfl⟩)
  have HZB:Hid (bz=true→RF c wz jz true):=oH (fun hb=>by rw [hb] at Xz;exact Xz.keep FZ)
  have HSTZ:=oH hstz
  have y4:wz.cell? ⟨p,4,none⟩=some v4:=by
   have e3:=(FZ.block p (zAd HA4.out.nd) (by simp)).trans HA4.out.nd
   exact(NodeAt.mk e3).c4
  have yk4:wk.cell? ⟨p,4,none⟩=some v4:=(NodeAt.mk HA4.out.nd).c4
  have HFZ:=oH FZ
  have hrz:wz.ownsRow 0 26 1 v4 n4 xs4:=zAf HA4.out.row FZ (by simp)
  have hsr:=hrz.alloc (.cells #[.pointer (some ⟨wk.heap.size,0,none⟩)] 26)
  have hnb:=HA4.out.hn
  have HN1:=oH (new1 wz (ptrV wk.heap.size) 26)
  have HO1:=oH (one1 wk.heap.size)
  simp only [ptrV] at HN1 HO1
  clear Xz hstz FZ hzn hrz
  go_wp2_with (at_builtin;refine wpList_append_lies _ rfl _ _ 38 rfl 0 26 i0 _ 1 8 Tryz.underlying38 hi hz0 hz1 hz2 rfl (by decide) v4 n4 _ rfl hsr ⟨wz.heap.size,0,none⟩ 1 1 [.pointer (some ⟨wk.heap.size,0,none⟩)] (by simp only [hsz] <;> rfl) rfl HN1.out HO1.out (by decide) (by unfold maxLen;omega) (by omega) (by simp <;> omega) (wz.heap.size+1) (by simp) ?_)
  intro g4 cap4 wd4 hown hgrow hat hlt
  have HE4:=oH (HA4.out.app HCR.out HSTZ.out (a:=some ⟨wk.heap.size,0,none⟩) rfl HFZ.out.up0 HZI.out HZB.out hown hgrow (by rw [hsz];exact hat))
  have H9:wd4.cell? ⟨p,4,none⟩=some v4∧wd4.frozen? ⟨p,4,none⟩=false:=by
   have n2:=(HFZ.out.block p (zAd HA4.out.nd) (by simp)).trans HA4.out.nd
   have F12:Fr (obL v4) wz wd4:=((Fr.alloc wz _).up0).on (Fr.of_grown hgrow)
   have n6:=(F12.block p (zAd n2) (fun hm=>zAi HA4.out.row HA4.out.nd hm)).trans n2
   exact⟨(NodeAt.mk n6).c4,(NodeAt.mk n6).f 4⟩
  obtain⟨H9,f9⟩:=H9
  clear hown hgrow hat hlt HSTZ HZI HZB HFZ hsr HN1 HO1 y4 yk4
  go_upto_region 13 with fail
  obtain⟨wa4,hwa4⟩:∃wa,wd4.setCell ⟨p,4,none⟩ (.slice (some ⟨g4,0,none⟩) (n4+1) cap4)=wa:=⟨_,rfl⟩
  rw [hwa4] at HE4
  try rw [hwa4]
  clear H9 f9 hwa4
  obtain⟨a4,ha4⟩:∃a:Option Addr,some ⟨wk.heap.size,0,none⟩=a:=⟨_,rfl⟩
  rw [ha4] at HE4
  clear ha4
  obtain⟨v5,hv5⟩:∃v,Value.slice (some ⟨g4,0,none⟩) (n4+1) cap4=v:=⟨_,rfl⟩
  obtain⟨n5,hn5⟩:∃n,n4+1=n:=⟨_,rfl⟩
  obtain⟨xs5,hx5⟩:∃x,xs4++[Value.pointer a4]=x:=⟨_,rfl⟩
  rw [hn5] at hv5 HE4
  rw [hv5,hx5] at HE4
  clear hv5 hn5 hx5
  have HND5:=HE4.out.need HCR.out [68,79]
  go_wp2_with fail
  refine HND5.mono ?_
  rintro e wm5 ⟨rfl,FN5,hs⟩
  have HN5:=oH hs
  clear hs FN5 HND5
  obtain⟨v6,n6,xs6,he1,he2,he3⟩:∃v n xs,v5=v∧n5=n∧xs5=xs:=⟨_,_,_,rfl,rfl,rfl⟩
  rw [he1,he2,he3] at HN5
  clear he1 he2 he3
  obtain⟨j6,b6,X6,hst6⟩:=HN5.out.rf
  have HNE6:b6=false→B j6≠.out:=fun hb=>by
   rcases hst6 with⟨_,l,us,hr,_⟩ | ⟨hb2,_⟩
   ·exact zBm HO7.out hr
   ·rw [hb] at hb2;cases hb2
  have HR6:∀w1,Fr [] wm5 w1→Calls Tryz.prog 18 #[.pointer (some ⟨c.R,0,none⟩)] w1 fun e w'=>∃o a,encP o=.pointer a∧e=.returned (.pointer a)∧Fr [c.R] wm5 w'∧(b6=false→Itm c (B) j6 wm5 w' o)∧(b6=true→RF c w' j6 true):=fun w1 F1=>by
   refine( HBB.out w1 j6 b6 (X6.keep F1)  HNE6).mono ?_
   rintro e w' ⟨o,a,h1,h2,h3,h4,h5⟩
   exact⟨o,a,h1,h2,F1.up0.on h3,fun hb=>(h4 hb).low F1.size,h5⟩
  have HSS6:∀w':World,Fr [c.R] wm5 w'→(w'.cell? ⟨p,4,none⟩=some v6∧w'.frozen? ⟨p,4,none⟩=false):=fun w' F=>by
   have e3:=(F.block p (zAd HN5.out.nd) (by have:=HN5.out.hp;have:=HCR.out;simp;omega)).trans HN5.out.nd
   exact⟨(NodeAt.mk e3).c4,(NodeAt.mk e3).f 4⟩
  have HST6:=oH hst6
  have y4:=(HSS6 wm5 (Fr.refl _ _)).1
  have hrow6:∀w',Fr [c.R] wm5 w'→w'.ownsRow 0 26 1 v6 n6 xs6:=fun w' F=>zAf HN5.out.row F (fun q hq hm=>by
   have h1:=HN5.out.far q hq
   have h2:q=c.R:=by simpa using hm
   have:=HCR.out
   omega)
  have hnb6:=HN5.out.hn
  clear X6 HNE6 hst6
  go_wp2_with fail
  refine zAp 11 (S:=fun w'=>w'.cell? ⟨p,4,none⟩=some v6) (by kernel_rfl) ?_ (fun hHeld=>?_)
  ·exact(HSS6 _ (Fr.drew wm5).up0).1
  refine aT 14 0 ?_
  refine aT 14 1 ?_
  refine aT 14 2 ?_
  refine aT 14 3 ?_
  refine aT 14 4 ?_
  refine aT 14 5 ?_
  refine zAa (rs:=[6]) (by kernel_rfl) (by simp) ?_
  refine AllL.cons rfl (fun K hK=>?_) ?_
  rotate_left
  ·exact AllL.nil
  go_simp
  refine(HR6 _ (Fr.drew wm5)).mono ?_
  rintro e wb6 ⟨o6,a6,ha6,rfl,FB6,hi6,hb6⟩
  have H9:=(HSS6 wb6 FB6).1
  clear HR6
  go_wp2_with fail
  refine hK.out _ _ (H9) (fun hHeld=>?_)
  clear hK K
  try simp only[Act.put,oB,oC,oD,oE,oF,oG]
  refine zAa (rs:=[7]) (by kernel_rfl) (by simp) ?_
  refine AllL.cons rfl (fun K hK=>?_) ?_
  rotate_left
  ·exact AllL.nil
  go_simp
  have H9:=(HSS6 _ (FB6.on0 (Fr.alloc wb6 (.cells #[.pointer a6] 26)))).1
  refine hK.out _ _ (H9) (fun hHeld=>?_)
  clear hK K
  try simp only[Act.put,oB,oC,oD,oE,oF,oG]
  refine zAa (rs:=[8]) (by kernel_rfl) (by simp) ?_
  refine AllL.cons rfl (fun K hK=>?_) ?_
  rotate_left
  ·exact AllL.nil
  refine step_append_lies _ (by rfl) _ _ 38 (by rfl) 0 26 i0 _ 1 8 Tryz.underlying38 hi hz0 hz1 hz2 (by rfl) (by omega) v6 n6 _ (by rfl) ((hrow6 _ FB6).alloc _) ⟨wb6.heap.size,0,none⟩ 1 1 [.pointer a6] (by rfl) (by rfl) (new1 wb6 (.pointer a6) 26) (fun u hu=>(by simp at hu;subst hu;rfl)) (by omega) (by unfold maxLen;omega) (by omega) (Nat.zero_le _) (wb6.heap.size+1) (by simp) ?_
  intro g6 cap6 wd6 hown hgrow hat hlt
  have HE6:=oH (HN5.out.app HCR.out HST6.out ha6 FB6 hi6 hb6 hown hgrow hat)
  have H9:wd6.cell? ⟨p,4,none⟩=some v6∧wd6.frozen? ⟨p,4,none⟩=false:=by
   have n2:=(FB6.block p (zAd HN5.out.nd) (by have:=HN5.out.hp;have:=HCR.out;simp;omega)).trans HN5.out.nd
   have F12:Fr (obL v6) wb6 wd6:=((Fr.alloc wb6 _).up0).on (Fr.of_grown hgrow)
   have n6:=(F12.block p (zAd n2) (fun hm=>zAi HN5.out.row HN5.out.nd hm)).trans n2
   exact⟨(NodeAt.mk n6).c4,(NodeAt.mk n6).f 4⟩
  obtain⟨H9,f9⟩:=H9
  clear hown hgrow hat hlt hi6 hb6 FB6 HST6 hrow6 HSS6 y4 ha6
  refine hK.out _ _ (H9) (fun hHeld=>?_)
  clear hK K
  try simp only[Act.put,oB,oC,oD,oE,oF,oG]
  refine aT 14 9 ?_
  refine aT 14 10 ?_
  refine zAa (rs:=[11]) (by kernel_rfl) (by simp) ?_
  refine AllL.last rfl (by kernel_rfl) (fun K hK=>?_) ?_
  rotate_left
  ·exact AllL.nil
  go_simp
  refine hK.out _ _ ?_
  clear hK K
  try simp only[Act.put,oB,oC,oD,oE,oF,oG]
  refine zAl (by kernel_rfl) ?_ _
  obtain⟨wa6,hwa6⟩:∃wa,wd6.setCell ⟨p,4,none⟩ (.slice (some ⟨g6,0,none⟩) (n6+1) cap6)=wa:=⟨_,rfl⟩
  rw [hwa6] at HE6
  try rw [hwa6]
  clear H9 f9 hwa6
  obtain⟨v7,hv7⟩:∃v,Value.slice (some ⟨g6,0,none⟩) (n6+1) cap6=v:=⟨_,rfl⟩
  obtain⟨n7,hn7⟩:∃n,n6+1=n:=⟨_,rfl⟩
  obtain⟨xs7,hx7⟩:∃x,xs6++[Value.pointer a6]=x:=⟨_,rfl⟩
  rw [hn7] at hv7 HE6
  rw [hv7,hx7] at HE6
  clear hv7 hn7 hx7
  have HND7:=HE6.out.need HCR.out [69,78,68]
  go_wp2_with fail
  refine HND7.mono ?_
  rintro e wm7 ⟨rfl,FN7,hs⟩
  have HN7:=oH hs
  clear hs FN7 HND7
  obtain⟨v8,n8,xs8,he1,he2,he3⟩:∃v n xs,v7=v∧n7=n∧xs7=xs:=⟨_,_,_,rfl,rfl,rfl⟩
  rw [he1,he2,he3] at HN7
  clear he1 he2 he3
  go_wp2_with fail
  go_ret
  exact HN7.out.tl (by rw [HQ.out.1])
end Go.Proofs.YtepfknfadpkigaaGreat
end
