/- Several texts in one. -/
import Derived.Test.YtepfknfadpkigaaGreatPkAA
import Derived.Test.YtepfknfadpkigaaGreatPkBF
import Derived.Test.YtepfknfadpkigaaGreatPkAW
set_option linter.unusedVariables false
set_option linter.unusedSimpArgs false
section
namespace Go.Proofs.YtepfknfadpkigaaGreat
open Go.RowKit
set_option maxHeartbeats 4000000
set_option maxRecDepth 100000
def brG (ts:List TK) (B:Nat→Re) (m:Nat) (l:List DT) (j:Nat):ReL:=if isW (tk ts j) [69,76,83,73,70]=true then ifsM ts B m l j else (othM ts B j).bnd fun o k=>.ok (l++o) k
theorem zMg (ts:List TK) (B:Nat→Re) (m:Nat) (l:List DT) (i:Nat):ifsM ts B (m+1) l i=(kid B (needM ts [84,72,69,78] (kid (E0 ts) (.ok l (i+1))))).bnd (brG ts B m):=by
 show ((wrdM ts [84,72,69,78] (E0 ts (i+1))).bndL fun x j=>(B j).bndL fun b k=>if isW (tk ts k) [69,76,83,73,70]=true then ifsM ts B m (l++[x,b]) k else (othM ts B k).bnd fun o q=>.ok (l++[x,b]++o) q)=_
 unfold kid needM
 show _=(((((E0 ts (i+1)).bndL fun x k=>.ok (l++[x]) k).bnd fun l j=>if isW (tk ts j) [84,72,69,78]=true then .ok l (j+1) else .bad j).bnd fun l j=>(B j).bndL fun x k=>.ok (l++[x]) k)).bnd (brG ts B m)
 cases E0 ts (i+1) with
 | out=>rfl
 | bad j=>rfl
 | ok x j =>
  show ((if isW (tk ts j) [84,72,69,78]=true then Re.ok x (j+1) else Re.bad j).bndL _)=(((if isW (tk ts j) [84,72,69,78]=true then ReL.ok (l++[x]) (j+1) else .bad j).bnd fun l j=>(B j).bndL fun x k=>.ok (l++[x]) k)).bnd (brG ts B m)
  cases isW (tk ts j) [84,72,69,78]
  ·rfl
  ·show ((B (j+1)).bndL _)=((B (j+1)).bndL fun y k=>.ok ((l++[x])++[y]) k).bnd (brG ts B m)
   cases B (j+1) with
   | out=>rfl
   | bad k=>rfl
   | ok b k =>
    show (if isW (tk ts k) [69,76,83,73,70]=true then _ else _)=(if isW (tk ts k) [69,76,83,73,70]=true then _ else _)
    have e:l++[x,b]=(l++[x])++[b]:=by simp
    rw [e]
theorem zJn {M:Nat→Re} {l l':List DT} {j j':Nat} (h:kid M (.ok l j)=.ok l' j'):∃x,M j=.ok x j':=by
 unfold kid at h
 have h:((M j).bndL fun x k=>ReL.ok (l++[x]) k)=.ok l' j':=h
 cases hm:M j with
 | out=>rw [hm] at h;cases h
 | bad k=>rw [hm] at h;cases h
 | ok x k=>rw [hm] at h;injection h with _ h;exact⟨x,by rw [h]⟩
theorem zUk {M:Nat→Re} {r:ReL} {l':List DT} {j':Nat} (h:kid M r=.ok l' j'):∃l j x,r=.ok l j∧M j=.ok x j':=by
 cases r with
 | out=>cases h
 | bad k=>cases h
 | ok l j=>obtain⟨x,hx⟩:=zJn h;exact⟨l,j,x,rfl,hx⟩
theorem zQl {ts:List TK} {s:List UInt8} {r:ReL} {l':List DT} {j':Nat} (h:needM ts s r=.ok l' j'):∃j,r=.ok l' j∧j'=j+1∧j < ts.length:=by
 cases r with
 | out=>cases h
 | bad k=>cases h
 | ok l j =>
  have h:(if isW (tk ts j) s=true then ReL.ok l (j+1) else .bad j)=.ok l' j':=h
  split at h
  ·rename_i hs
   injection h with h1 h2
   exact⟨j,by rw [h1],h2.symm,zCr hs⟩
  ·cases h
theorem SN.meas {c:Rc} {w0:World} {d:ND} {p:Nat} {r:ReL} {N:Nat} {w w1:World} {v:Value} {n:Nat} {xs:List Value} {j:Nat} (h:SN c w0 d p r N w v n xs) (hX:RF c w1 j false) (hj:∀l k,r=.ok l k→j < k):rfM c.R w < rfM c.R w1:=by
 rw [zCv hX]
 rcases h.st with⟨l,k,us,h1,h2,_⟩ | ⟨k,h1,h2⟩
 ·rw [zCv h2]
  have:=hj l k h1
  have:=h2.le
  omega
 ·rw [zIe h2];omega
theorem SN.keep {c:Rc} {w0:World} {d:ND} {p:Nat} {r:ReL} {N:Nat} {w w':World} {v:Value} {n:Nat} {xs:List Value} (h:SN c w0 d p r N w v n xs) (hR:c.R < w0.heap.size) (F:Fr [] w w'):SN c w0 d p r N w' v n xs :=
 h.fr2 hR F.up0 (by
  rcases h.st with⟨l,j,us,h1,h2,h3⟩ | ⟨j,h1,h2⟩
  ·exact .inl ⟨l,j,us,h1,h2.keep F,h3⟩
  ·exact .inr ⟨j,h1,h2.keep F⟩)
def eatM (ts:List TK) (s:List UInt8) (r:ReL):Bool:=match r with | .ok _ j=>isW (tk ts j) s | _=>false
theorem SN.eat {c:Rc} {w0:World} {d:ND} {p:Nat} {r:ReL} {N:Nat} {w:World} {v:Value} {n:Nat} {xs:List Value} (h:SN c w0 d p r N w v n xs) (hR:c.R < w0.heap.size) (s:List UInt8) :
  (∃l j,r=.ok l j∧RF c w j false∧isW (tk c.ts j) s=true∧Calls Tryz.prog 62 #[.pointer (some ⟨c.R,0,none⟩),.string ⟨s.toArray⟩] w fun e w'=>e=.returned (.bool true)∧SN c w0 d p (.ok l (j+1)) N w' v n xs) ∨
  (eatM c.ts s r=false∧Calls Tryz.prog 62 #[.pointer (some ⟨c.R,0,none⟩),.string ⟨s.toArray⟩] w fun e w'=>e=.returned (.bool false)∧SN c w0 d p r N w' v n xs):=by
 rcases h.st with⟨l,j,us,rfl,X,h3⟩ | ⟨j,rfl,X⟩
 ·cases hq:isW (tk c.ts j) s
  ·refine .inr ⟨hq,(zAb c w j false s X (by rw [hq];rfl)).mono ?_⟩
   rintro e w' ⟨rfl,F⟩
   exact⟨rfl,h.keep hR F⟩
  ·refine .inl ⟨l,j,rfl,X,hq,(zAz c w j s X hq).mono ?_⟩
   rintro e w' ⟨rfl,F,X'⟩
   exact⟨rfl,h.fr2 hR F (.inl ⟨l,j+1,us,rfl,X',h3⟩)⟩
 ·refine .inr ⟨rfl,(zAb c w j true s X rfl).mono ?_⟩
  rintro e w' ⟨rfl,F⟩
  exact⟨rfl,h.keep hR F⟩
theorem qAy {ts:List TK} {B:Nat→Re} {m:Nat} {r:ReL} (h1:eatM ts [69,76,83,73,70] r=false) (h2:eatM ts [69,76,83,69] r=false):r.bnd (brG ts B m)=needM ts [69,78,68] r:=by
 cases r with
 | out=>rfl
 | bad k=>rfl
 | ok l j =>
  have h1:isW (tk ts j) [69,76,83,73,70]=false:=h1
  have h2:isW (tk ts j) [69,76,83,69]=false:=h2
  show brG ts B m l j=(if isW (tk ts j) [69,78,68]=true then ReL.ok l (j+1) else .bad j)
  unfold brG othM
  rw [if_neg (by rw [h1];simp),if_neg (by rw [h2];simp)]
  split
  ·show ReL.ok (l++[]) (j+1)=_;rw [List.append_nil]
  ·rfl
theorem zXc {ts:List TK} {B:Nat→Re} {m:Nat} {l:List DT} {j:Nat} (h1:isW (tk ts j) [69,76,83,73,70]=false) (h2:isW (tk ts j) [69,76,83,69]=true):brG ts B m l j=needM ts [69,78,68] (kid B (.ok l (j+1))):=by
 unfold brG othM
 rw [if_neg (by rw [h1];simp),if_pos h2]
 unfold kid needM wrdM
 show ((((B (j+1)).bnd fun x j=>if isW (tk ts j) [69,78,68]=true then .ok x (j+1) else .bad j).bndL fun x j=>.ok [x] j).bnd fun o k=>.ok (l++o) k)=(((B (j+1)).bndL fun x k=>.ok (l++[x]) k).bnd fun l j=>if isW (tk ts j) [69,78,68]=true then .ok l (j+1) else .bad j)
 cases B (j+1) with
 | out=>rfl
 | bad k=>rfl
 | ok x k =>
  show (((if isW (tk ts k) [69,78,68]=true then Re.ok x (k+1) else Re.bad k).bndL fun x j=>.ok [x] j).bnd fun o k=>.ok (l++o) k)=(if isW (tk ts k) [69,78,68]=true then ReL.ok (l++[x]) (k+1) else .bad k)
  cases isW (tk ts k) [69,78,68] <;> rfl
theorem zXd (c:Rc) (hS:Scd c.ts) (B:Nat→Re) (hB:CF c 18 B) (hBm:∀i d j,i≤c.ts.length→B i=.ok d j→i≤j∧j≤c.ts.length) (w:World) (i m:Nat) (t:TK) (px py:Nat) (e1:posV t.2.1.1 t.2.1.2=.complex .f64 px py) (h:RF c w (i+1) false) (RES:ReL) (hRES:RES=ifsM c.ts B (m+1) [] i) (hne:RES≠.out) (hil:i+1≤c.ts.length) :
  Calls Tryz.prog 63 #[.pointer (some ⟨c.R,0,none⟩),.complex .f64 px py] w (Tl c w.heap.size w (RES.re fun l=>.node (nd 62 t [] 0) l)):=by
 obtain⟨i0,hi,hz0,hz1,hz2⟩:=info_parts infoP
 have HX:=oH (oA h e1)
 have HCR:Hid (c.R < w.heap.size):=oH h.lt
 have HEE:=oH (zBn c hS)
 have HBB:=oH hB
 rw [zMg] at hRES
 have hpre:kid B (needM c.ts [84,72,69,78] (kid (E0 c.ts) (.ok [] (i+1))))≠.out:=fun e=>hne (by rw [hRES,e];rfl)
 have HO3:Hid (kid B (needM c.ts [84,72,69,78] (kid (E0 c.ts) (.ok [] (i+1))))≠.out):=oH hpre
 have HO1:Hid (kid (E0 c.ts) (.ok [] (i+1))≠.out):=oH (zBp (zDi hpre))
 have HG:∀(l:List DT) (j:Nat) (r:ReL),r=kid B (needM c.ts [84,72,69,78] (kid (E0 c.ts) (.ok l j)))→j≤c.ts.length→∀l' k,r=.ok l' k→j+2≤k∧k≤c.ts.length:=fun l j r hr hj l' k hk=>by
  rw [hr] at hk
  obtain⟨l1,j1,x1,h1,h2⟩:=zUk hk
  obtain⟨j2,h3,rfl,h4⟩:=zQl h1
  obtain⟨x2,h5⟩:=zJn h3
  have h6:=zAr (ts:=c.ts) _ _ _ _ h5
  have h7:=hBm _ _ _ (show j2+1≤c.ts.length from h4) h2
  omega
 have HQ:=oH (oA hRES (oA hne (oA HG hil)))
 clear h e1 hB hBm hRES hne hS hpre HG hil
 go_enter Tryz.func63,Tryz.ntmps63
 have HDN:=dnode w 62 62 rfl t px py HX.out.2
 go_wp2_with fail
 refine HDN.mono ?_
 rintro e wn ⟨rfl,hwn⟩
 have HS0:Hid (SN c w (nd 62 t [] 0) w.heap.size (.ok [] (i+1)) 0 wn (.slice none 0 0) 0 []):=oH (by rw [hwn];exact SN.new _ HX.out.1)
 clear hwn HDN
 obtain⟨p,hp⟩:∃p,w.heap.size=p:=⟨_,rfl⟩
 try rw [hp]
 have HS0':Hid (∃v n xs,v=Value.slice none 0 0∧SN c w (nd 62 t [] 0) p (.ok [] (i+1)) 0 wn v n xs):=oH ⟨_,_,_,rfl,by rw [← hp];exact HS0.out⟩
 clear HS0
 obtain⟨v0,n0,xs0,hv0,hs0⟩:=HS0'.out
 have HA0:=oH hs0
 clear HS0' hs0 hv0
 obtain⟨j0,b0,X0,hst0⟩:=HA0.out.rf
 have HNE0:b0=false→(E0 c.ts) j0≠.out:=fun hb=>by
  rcases hst0 with⟨_,l,us,hr,_⟩ | ⟨hb2,_⟩
  ·exact zBm HO1.out hr
  ·rw [hb] at hb2;cases hb2
 have HR0:∀w1,Fr [] wn w1→Calls Tryz.prog 65 #[.pointer (some ⟨c.R,0,none⟩)] w1 fun e w'=>∃o a,encP o=.pointer a∧e=.returned (.pointer a)∧Fr [c.R] wn w'∧(b0=false→Itm c ((E0 c.ts)) j0 wn w' o)∧(b0=true→RF c w' j0 true):=fun w1 F1=>by
  refine( HEE.out w1 j0 b0 (X0.keep F1)  HNE0).mono ?_
  rintro e w' ⟨o,a,h1,h2,h3,h4,h5⟩
  exact⟨o,a,h1,h2,F1.up0.on h3,fun hb=>(h4 hb).low F1.size,h5⟩
 have HSS0:∀w':World,Fr [c.R] wn w'→(w'.cell? ⟨p,4,none⟩=some v0∧w'.frozen? ⟨p,4,none⟩=false):=fun w' F=>by
  have e3:=(F.block p (zAd HA0.out.nd) (by have:=HA0.out.hp;have:=HCR.out;simp;omega)).trans HA0.out.nd
  exact⟨(NodeAt.mk e3).c4,(NodeAt.mk e3).f 4⟩
 have HST0:=oH hst0
 have y4:=(HSS0 wn (Fr.refl _ _)).1
 have hrow0:∀w',Fr [c.R] wn w'→w'.ownsRow 0 26 1 v0 n0 xs0:=fun w' F=>zAf HA0.out.row F (fun q hq hm=>by
  have h1:=HA0.out.far q hq
  have h2:q=c.R:=by simpa using hm
  have:=HCR.out
  omega)
 have hnb0:=HA0.out.hn
 clear X0 HNE0 hst0
 go_wp2_with fail
 refine zAp 13 (S:=fun w'=>w'.cell? ⟨p,4,none⟩=some v0) (by kernel_rfl) ?_ (fun hHeld=>?_)
 ·exact(HSS0 _ (Fr.drew wn).up0).1
 refine aT 14 0 ?_
 refine aT 14 1 ?_
 refine aT 14 2 ?_
 refine aT 14 3 ?_
 refine aT 14 4 ?_
 refine aT 14 5 ?_
 refine aT 14 6 ?_
 refine aT 14 7 ?_
 refine zAa (rs:=[8]) (by kernel_rfl) (by simp) ?_
 refine AllL.cons rfl (fun K hK=>?_) ?_
 rotate_left
 ·exact AllL.nil
 go_simp
 refine(HR0 _ (Fr.drew wn)).mono ?_
 rintro e wb0 ⟨o0,a0,ha0,rfl,FB0,hi0,hb0⟩
 have H9:=(HSS0 wb0 FB0).1
 clear HR0
 go_wp2_with fail
 refine hK.out _ _ (H9) (fun hHeld=>?_)
 clear hK K
 try simp only[Act.put,oB,oC,oD,oE,oF,oG]
 refine zAa (rs:=[9]) (by kernel_rfl) (by simp) ?_
 refine AllL.cons rfl (fun K hK=>?_) ?_
 rotate_left
 ·exact AllL.nil
 go_simp
 have H9:=(HSS0 _ (FB0.on0 (Fr.alloc wb0 (.cells #[.pointer a0] 26)))).1
 refine hK.out _ _ (H9) (fun hHeld=>?_)
 clear hK K
 try simp only[Act.put,oB,oC,oD,oE,oF,oG]
 refine zAa (rs:=[10]) (by kernel_rfl) (by simp) ?_
 refine AllL.cons rfl (fun K hK=>?_) ?_
 rotate_left
 ·exact AllL.nil
 refine step_append_lies _ (by rfl) _ _ 38 (by rfl) 0 26 i0 _ 1 8 Tryz.underlying38 hi hz0 hz1 hz2 (by rfl) (by omega) v0 n0 _ (by rfl) ((hrow0 _ FB0).alloc _) ⟨wb0.heap.size,0,none⟩ 1 1 [.pointer a0] (by rfl) (by rfl) (new1 wb0 (.pointer a0) 26) (fun u hu=>(by simp at hu;subst hu;rfl)) (by omega) (by unfold maxLen;omega) (by omega) (Nat.zero_le _) (wb0.heap.size+1) (by simp) ?_
 intro g0 cap0 wd0 hown hgrow hat hlt
 have HE0:=oH (HA0.out.app HCR.out HST0.out ha0 FB0 hi0 hb0 hown hgrow hat)
 have H9:wd0.cell? ⟨p,4,none⟩=some v0∧wd0.frozen? ⟨p,4,none⟩=false:=by
  have n2:=(FB0.block p (zAd HA0.out.nd) (by have:=HA0.out.hp;have:=HCR.out;simp;omega)).trans HA0.out.nd
  have F12:Fr (obL v0) wb0 wd0:=((Fr.alloc wb0 _).up0).on (Fr.of_grown hgrow)
  have n6:=(F12.block p (zAd n2) (fun hm=>zAi HA0.out.row HA0.out.nd hm)).trans n2
  exact⟨(NodeAt.mk n6).c4,(NodeAt.mk n6).f 4⟩
 obtain⟨H9,f9⟩:=H9
 clear hown hgrow hat hlt hi0 hb0 FB0 HST0 hrow0 HSS0 y4 ha0
 refine hK.out _ _ (H9) (fun hHeld=>?_)
 clear hK K
 try simp only[Act.put,oB,oC,oD,oE,oF,oG]
 refine aT 14 11 ?_
 refine aT 14 12 ?_
 refine zAa (rs:=[13]) (by kernel_rfl) (by simp) ?_
 refine AllL.last rfl (by kernel_rfl) (fun K hK=>?_) ?_
 rotate_left
 ·exact AllL.nil
 go_simp
 refine hK.out _ _ ?_
 clear hK K
 try simp only[Act.put,oB,oC,oD,oE,oF,oG]
 refine zAl (by kernel_rfl) ?_ _
 obtain⟨wa0,hwa0⟩:∃wa,wd0.setCell ⟨p,4,none⟩ (.slice (some ⟨g0,0,none⟩) (n0+1) cap0)=wa:=⟨_,rfl⟩
 rw [hwa0] at HE0
 try rw [hwa0]
 clear H9 f9 hwa0
 obtain⟨v1,hv1⟩:∃v,Value.slice (some ⟨g0,0,none⟩) (n0+1) cap0=v:=⟨_,rfl⟩
 obtain⟨n1,hn1⟩:∃n,n0+1=n:=⟨_,rfl⟩
 obtain⟨xs1,hx1⟩:∃x,xs0++[Value.pointer a0]=x:=⟨_,rfl⟩
 rw [hn1] at hv1 HE0
 rw [hv1,hx1] at HE0
 clear hv1 hn1 hx1
 have HND1:=HE0.out.need HCR.out [84,72,69,78]
 go_wp2_with fail
 refine HND1.mono ?_
 rintro e wm1 ⟨rfl,FN1,hs⟩
 have HN1:=oH hs
 clear hs FN1 HND1
 obtain⟨v2,n2,xs2,he1,he2,he3⟩:∃v n xs,v1=v∧n1=n∧xs1=xs:=⟨_,_,_,rfl,rfl,rfl⟩
 rw [he1,he2,he3] at HN1
 clear he1 he2 he3
 obtain⟨j2,b2,X2,hst2⟩:=HN1.out.rf
 have HNE2:b2=false→B j2≠.out:=fun hb=>by
  rcases hst2 with⟨_,l,us,hr,_⟩ | ⟨hb2,_⟩
  ·exact zBm HO3.out hr
  ·rw [hb] at hb2;cases hb2
 have HR2:∀w1,Fr [] wm1 w1→Calls Tryz.prog 18 #[.pointer (some ⟨c.R,0,none⟩)] w1 fun e w'=>∃o a,encP o=.pointer a∧e=.returned (.pointer a)∧Fr [c.R] wm1 w'∧(b2=false→Itm c (B) j2 wm1 w' o)∧(b2=true→RF c w' j2 true):=fun w1 F1=>by
  refine( HBB.out w1 j2 b2 (X2.keep F1)  HNE2).mono ?_
  rintro e w' ⟨o,a,h1,h2,h3,h4,h5⟩
  exact⟨o,a,h1,h2,F1.up0.on h3,fun hb=>(h4 hb).low F1.size,h5⟩
 have HSS2:∀w':World,Fr [c.R] wm1 w'→(w'.cell? ⟨p,4,none⟩=some v2∧w'.frozen? ⟨p,4,none⟩=false):=fun w' F=>by
  have e3:=(F.block p (zAd HN1.out.nd) (by have:=HN1.out.hp;have:=HCR.out;simp;omega)).trans HN1.out.nd
  exact⟨(NodeAt.mk e3).c4,(NodeAt.mk e3).f 4⟩
 have HST2:=oH hst2
 have y4:=(HSS2 wm1 (Fr.refl _ _)).1
 have hrow2:∀w',Fr [c.R] wm1 w'→w'.ownsRow 0 26 1 v2 n2 xs2:=fun w' F=>zAf HN1.out.row F (fun q hq hm=>by
  have h1:=HN1.out.far q hq
  have h2:q=c.R:=by simpa using hm
  have:=HCR.out
  omega)
 have hnb2:=HN1.out.hn
 clear X2 HNE2 hst2
 go_wp2_with fail
 refine zAp 11 (S:=fun w'=>w'.cell? ⟨p,4,none⟩=some v2) (by kernel_rfl) ?_ (fun hHeld=>?_)
 ·exact(HSS2 _ (Fr.drew wm1).up0).1
 refine aT 14 0 ?_
 refine aT 14 1 ?_
 refine aT 14 2 ?_
 refine aT 14 3 ?_
 refine aT 14 4 ?_
 refine aT 14 5 ?_
 refine zAa (rs:=[6]) (by kernel_rfl) (by simp) ?_
 refine AllL.cons rfl (fun K hK=>?_) ?_
 rotate_left
 ·exact AllL.nil
 go_simp
 refine(HR2 _ (Fr.drew wm1)).mono ?_
 rintro e wb2 ⟨o2,a2,ha2,rfl,FB2,hi2,hb2⟩
 have H9:=(HSS2 wb2 FB2).1
 clear HR2
 go_wp2_with fail
 refine hK.out _ _ (H9) (fun hHeld=>?_)
 clear hK K
 try simp only[Act.put,oB,oC,oD,oE,oF,oG]
 refine zAa (rs:=[7]) (by kernel_rfl) (by simp) ?_
 refine AllL.cons rfl (fun K hK=>?_) ?_
 rotate_left
 ·exact AllL.nil
 go_simp
 have H9:=(HSS2 _ (FB2.on0 (Fr.alloc wb2 (.cells #[.pointer a2] 26)))).1
 refine hK.out _ _ (H9) (fun hHeld=>?_)
 clear hK K
 try simp only[Act.put,oB,oC,oD,oE,oF,oG]
 refine zAa (rs:=[8]) (by kernel_rfl) (by simp) ?_
 refine AllL.cons rfl (fun K hK=>?_) ?_
 rotate_left
 ·exact AllL.nil
 refine step_append_lies _ (by rfl) _ _ 38 (by rfl) 0 26 i0 _ 1 8 Tryz.underlying38 hi hz0 hz1 hz2 (by rfl) (by omega) v2 n2 _ (by rfl) ((hrow2 _ FB2).alloc _) ⟨wb2.heap.size,0,none⟩ 1 1 [.pointer a2] (by rfl) (by rfl) (new1 wb2 (.pointer a2) 26) (fun u hu=>(by simp at hu;subst hu;rfl)) (by omega) (by unfold maxLen;omega) (by omega) (Nat.zero_le _) (wb2.heap.size+1) (by simp) ?_
 intro g2 cap2 wd2 hown hgrow hat hlt
 have HE2:=oH (HN1.out.app HCR.out HST2.out ha2 FB2 hi2 hb2 hown hgrow hat)
 have H9:wd2.cell? ⟨p,4,none⟩=some v2∧wd2.frozen? ⟨p,4,none⟩=false:=by
  have n2:=(FB2.block p (zAd HN1.out.nd) (by have:=HN1.out.hp;have:=HCR.out;simp;omega)).trans HN1.out.nd
  have F12:Fr (obL v2) wb2 wd2:=((Fr.alloc wb2 _).up0).on (Fr.of_grown hgrow)
  have n6:=(F12.block p (zAd n2) (fun hm=>zAi HN1.out.row HN1.out.nd hm)).trans n2
  exact⟨(NodeAt.mk n6).c4,(NodeAt.mk n6).f 4⟩
 obtain⟨H9,f9⟩:=H9
 clear hown hgrow hat hlt hi2 hb2 FB2 HST2 hrow2 HSS2 y4 ha2
 refine hK.out _ _ (H9) (fun hHeld=>?_)
 clear hK K
 try simp only[Act.put,oB,oC,oD,oE,oF,oG]
 refine aT 14 9 ?_
 refine aT 14 10 ?_
 refine zAa (rs:=[11]) (by kernel_rfl) (by simp) ?_
 refine AllL.last rfl (by kernel_rfl) (fun K hK=>?_) ?_
 rotate_left
 ·exact AllL.nil
 go_simp
 refine hK.out _ _ ?_
 clear hK K
 try simp only[Act.put,oB,oC,oD,oE,oF,oG]
 refine zAl (by kernel_rfl) ?_ _
 obtain⟨wa2,hwa2⟩:∃wa,wd2.setCell ⟨p,4,none⟩ (.slice (some ⟨g2,0,none⟩) (n2+1) cap2)=wa:=⟨_,rfl⟩
 rw [hwa2] at HE2
 try rw [hwa2]
 clear H9 f9 hwa2
 obtain⟨v3,hv3⟩:∃v,Value.slice (some ⟨g2,0,none⟩) (n2+1) cap2=v:=⟨_,rfl⟩
 obtain⟨n3,hn3⟩:∃n,n2+1=n:=⟨_,rfl⟩
 obtain⟨xs3,hx3⟩:∃x,xs2++[Value.pointer a2]=x:=⟨_,rfl⟩
 rw [hn3] at hv3 HE2
 rw [hv3,hx3] at HE2
 clear hv3 hn3 hx3
 have HL:Hid (∃r N v n xs m,SN c w (nd 62 t [] 0) p r N wa2 v n xs∧N≤16386∧(∀l j,r=.ok l j→N≤j∧j≤c.ts.length)∧RES=r.bnd (brG c.ts B m)):=oH ⟨_,_,_,_,_,m,HE2.out,by omega,fun l j hr=>by have:=HQ.out.2.2.1 [] (i+1) _ rfl HQ.out.2.2.2 l j hr;omega,HQ.out.1⟩
 clear HE2 HN1 HE0 HA0
 go_wp2_with fail
 go_loopw [] (fun wr=>∃r N v n xs m,SN c w (nd 62 t [] 0) p r N wr v n xs∧N≤16386∧(∀l j,r=.ok l j→N≤j∧j≤c.ts.length)∧RES=r.bnd (brG c.ts B m)) (fun wr=>rfM c.R wr)
 case atStart=>exact HL.out
 case round =>
  clear HL
  obtain⟨r,N,v0,n0,xs0,m,hsn,hN,hNj,hres⟩:=hrel
  have HS:=oH hsn
  have HNN:=oH (oA hN (oA hNj hres))
  clear hN hNj hres
  rcases hsn.eat HCR.out [69,76,83,73,70] with⟨l,j,hr,X,hq,HK⟩ | ⟨hno,HK⟩
  ·have HRR:=oH (oA hr (oA X hq))
   clear hr X hq hsn
   go_wp2_with fail
   refine HK.mono ?_
   rintro e wk ⟨rfl,hs⟩
   have HA0:=oH hs
   clear hs HK HS
   obtain⟨m,rfl⟩:∃m',m=m'+1:=by
    cases m with
    | succ m=>exact⟨m,rfl⟩
    | zero =>
     refine absurd ?_ HQ.out.2.1
     rw [HNN.out.2.2,HRR.out.1]
     show brG c.ts B 0 l j=.out
     unfold brG
     rw [if_pos HRR.out.2.2]
     rfl
   have hst:RES=(kid B (needM c.ts [84,72,69,78] (kid (E0 c.ts) (.ok l (j+1))))).bnd (brG c.ts B m):=by
    rw [HNN.out.2.2,HRR.out.1,← zMg]
    show brG c.ts B (m+1) l j=_
    unfold brG
    rw [if_pos HRR.out.2.2]
   have hpre:kid B (needM c.ts [84,72,69,78] (kid (E0 c.ts) (.ok l (j+1))))≠.out:=fun e=>HQ.out.2.1 (by rw [hst,e];rfl)
   have HST:=oH hst
   have HO3:Hid (kid B (needM c.ts [84,72,69,78] (kid (E0 c.ts) (.ok l (j+1))))≠.out):=oH hpre
   have HO1:Hid (kid (E0 c.ts) (.ok l (j+1))≠.out):=oH (zBp (zDi hpre))
   have hNb:N≤16386:=HNN.out.1
   clear hst hpre
   obtain⟨j0,b0,X0,hst0⟩:=HA0.out.rf
   have HNE0:b0=false→(E0 c.ts) j0≠.out:=fun hb=>by
    rcases hst0 with⟨_,l,us,hr,_⟩ | ⟨hb2,_⟩
    ·exact zBm HO1.out hr
    ·rw [hb] at hb2;cases hb2
   have HR0:∀w1,Fr [] wk w1→Calls Tryz.prog 65 #[.pointer (some ⟨c.R,0,none⟩)] w1 fun e w'=>∃o a,encP o=.pointer a∧e=.returned (.pointer a)∧Fr [c.R] wk w'∧(b0=false→Itm c ((E0 c.ts)) j0 wk w' o)∧(b0=true→RF c w' j0 true):=fun w1 F1=>by
    refine( HEE.out w1 j0 b0 (X0.keep F1)  HNE0).mono ?_
    rintro e w' ⟨o,a,h1,h2,h3,h4,h5⟩
    exact⟨o,a,h1,h2,F1.up0.on h3,fun hb=>(h4 hb).low F1.size,h5⟩
   have HSS0:∀w':World,Fr [c.R] wk w'→(w'.cell? ⟨p,4,none⟩=some v0∧w'.frozen? ⟨p,4,none⟩=false):=fun w' F=>by
    have e3:=(F.block p (zAd HA0.out.nd) (by have:=HA0.out.hp;have:=HCR.out;simp;omega)).trans HA0.out.nd
    exact⟨(NodeAt.mk e3).c4,(NodeAt.mk e3).f 4⟩
   have HST0:=oH hst0
   have y4:=(HSS0 wk (Fr.refl _ _)).1
   have hrow0:∀w',Fr [c.R] wk w'→w'.ownsRow 0 26 1 v0 n0 xs0:=fun w' F=>zAf HA0.out.row F (fun q hq hm=>by
    have h1:=HA0.out.far q hq
    have h2:q=c.R:=by simpa using hm
    have:=HCR.out
    omega)
   have hnb0:=HA0.out.hn
   clear X0 HNE0 hst0
   go_wp2_with fail
   refine zAp 13 (S:=fun w'=>w'.cell? ⟨p,4,none⟩=some v0) (by kernel_rfl) ?_ (fun hHeld=>?_)
   ·exact(HSS0 _ (Fr.drew wk).up0).1
   refine aT 14 0 ?_
   refine aT 14 1 ?_
   refine aT 14 2 ?_
   refine aT 14 3 ?_
   refine aT 14 4 ?_
   refine aT 14 5 ?_
   refine aT 14 6 ?_
   refine aT 14 7 ?_
   refine zAa (rs:=[8]) (by kernel_rfl) (by simp) ?_
   refine AllL.cons rfl (fun K hK=>?_) ?_
   rotate_left
   ·exact AllL.nil
   go_simp
   refine(HR0 _ (Fr.drew wk)).mono ?_
   rintro e wb0 ⟨o0,a0,ha0,rfl,FB0,hi0,hb0⟩
   have H9:=(HSS0 wb0 FB0).1
   clear HR0
   go_wp2_with fail
   refine hK.out _ _ (H9) (fun hHeld=>?_)
   clear hK K
   try simp only[Act.put,oB,oC,oD,oE,oF,oG]
   refine zAa (rs:=[9]) (by kernel_rfl) (by simp) ?_
   refine AllL.cons rfl (fun K hK=>?_) ?_
   rotate_left
   ·exact AllL.nil
   go_simp
   have H9:=(HSS0 _ (FB0.on0 (Fr.alloc wb0 (.cells #[.pointer a0] 26)))).1
   refine hK.out _ _ (H9) (fun hHeld=>?_)
   clear hK K
   try simp only[Act.put,oB,oC,oD,oE,oF,oG]
   refine zAa (rs:=[10]) (by kernel_rfl) (by simp) ?_
   refine AllL.cons rfl (fun K hK=>?_) ?_
   rotate_left
   ·exact AllL.nil
   refine step_append_lies _ (by rfl) _ _ 38 (by rfl) 0 26 i0 _ 1 8 Tryz.underlying38 hi hz0 hz1 hz2 (by rfl) (by omega) v0 n0 _ (by rfl) ((hrow0 _ FB0).alloc _) ⟨wb0.heap.size,0,none⟩ 1 1 [.pointer a0] (by rfl) (by rfl) (new1 wb0 (.pointer a0) 26) (fun u hu=>(by simp at hu;subst hu;rfl)) (by omega) (by unfold maxLen;omega) (by omega) (Nat.zero_le _) (wb0.heap.size+1) (by simp) ?_
   intro g0 cap0 wd0 hown hgrow hat hlt
   have HE0:=oH (HA0.out.app HCR.out HST0.out ha0 FB0 hi0 hb0 hown hgrow hat)
   have H9:wd0.cell? ⟨p,4,none⟩=some v0∧wd0.frozen? ⟨p,4,none⟩=false:=by
    have n2:=(FB0.block p (zAd HA0.out.nd) (by have:=HA0.out.hp;have:=HCR.out;simp;omega)).trans HA0.out.nd
    have F12:Fr (obL v0) wb0 wd0:=((Fr.alloc wb0 _).up0).on (Fr.of_grown hgrow)
    have n6:=(F12.block p (zAd n2) (fun hm=>zAi HA0.out.row HA0.out.nd hm)).trans n2
    exact⟨(NodeAt.mk n6).c4,(NodeAt.mk n6).f 4⟩
   obtain⟨H9,f9⟩:=H9
   clear hown hgrow hat hlt hi0 hb0 FB0 HST0 hrow0 HSS0 y4 ha0
   refine hK.out _ _ (H9) (fun hHeld=>?_)
   clear hK K
   try simp only[Act.put,oB,oC,oD,oE,oF,oG]
   refine aT 14 11 ?_
   refine aT 14 12 ?_
   refine zAa (rs:=[13]) (by kernel_rfl) (by simp) ?_
   refine AllL.last rfl (by kernel_rfl) (fun K hK=>?_) ?_
   rotate_left
   ·exact AllL.nil
   go_simp
   refine hK.out _ _ ?_
   clear hK K
   try simp only[Act.put,oB,oC,oD,oE,oF,oG]
   refine zAl (by kernel_rfl) ?_ _
   obtain⟨wa0,hwa0⟩:∃wa,wd0.setCell ⟨p,4,none⟩ (.slice (some ⟨g0,0,none⟩) (n0+1) cap0)=wa:=⟨_,rfl⟩
   rw [hwa0] at HE0
   try rw [hwa0]
   clear H9 f9 hwa0
   obtain⟨v1,hv1⟩:∃v,Value.slice (some ⟨g0,0,none⟩) (n0+1) cap0=v:=⟨_,rfl⟩
   obtain⟨n1,hn1⟩:∃n,n0+1=n:=⟨_,rfl⟩
   obtain⟨xs1,hx1⟩:∃x,xs0++[Value.pointer a0]=x:=⟨_,rfl⟩
   rw [hn1] at hv1 HE0
   rw [hv1,hx1] at HE0
   clear hv1 hn1 hx1
   have HND1:=HE0.out.need HCR.out [84,72,69,78]
   go_wp2_with fail
   refine HND1.mono ?_
   rintro e wm1 ⟨rfl,FN1,hs⟩
   have HN1:=oH hs
   clear hs FN1 HND1
   obtain⟨v2,n2,xs2,he1,he2,he3⟩:∃v n xs,v1=v∧n1=n∧xs1=xs:=⟨_,_,_,rfl,rfl,rfl⟩
   rw [he1,he2,he3] at HN1
   clear he1 he2 he3
   obtain⟨j2,b2,X2,hst2⟩:=HN1.out.rf
   have HNE2:b2=false→B j2≠.out:=fun hb=>by
    rcases hst2 with⟨_,l,us,hr,_⟩ | ⟨hb2,_⟩
    ·exact zBm HO3.out hr
    ·rw [hb] at hb2;cases hb2
   have HR2:∀w1,Fr [] wm1 w1→Calls Tryz.prog 18 #[.pointer (some ⟨c.R,0,none⟩)] w1 fun e w'=>∃o a,encP o=.pointer a∧e=.returned (.pointer a)∧Fr [c.R] wm1 w'∧(b2=false→Itm c (B) j2 wm1 w' o)∧(b2=true→RF c w' j2 true):=fun w1 F1=>by
    refine( HBB.out w1 j2 b2 (X2.keep F1)  HNE2).mono ?_
    rintro e w' ⟨o,a,h1,h2,h3,h4,h5⟩
    exact⟨o,a,h1,h2,F1.up0.on h3,fun hb=>(h4 hb).low F1.size,h5⟩
   have HSS2:∀w':World,Fr [c.R] wm1 w'→(w'.cell? ⟨p,4,none⟩=some v2∧w'.frozen? ⟨p,4,none⟩=false):=fun w' F=>by
    have e3:=(F.block p (zAd HN1.out.nd) (by have:=HN1.out.hp;have:=HCR.out;simp;omega)).trans HN1.out.nd
    exact⟨(NodeAt.mk e3).c4,(NodeAt.mk e3).f 4⟩
   have HST2:=oH hst2
   have y4:=(HSS2 wm1 (Fr.refl _ _)).1
   have hrow2:∀w',Fr [c.R] wm1 w'→w'.ownsRow 0 26 1 v2 n2 xs2:=fun w' F=>zAf HN1.out.row F (fun q hq hm=>by
    have h1:=HN1.out.far q hq
    have h2:q=c.R:=by simpa using hm
    have:=HCR.out
    omega)
   have hnb2:=HN1.out.hn
   clear X2 HNE2 hst2
   go_wp2_with fail
   refine zAp 11 (S:=fun w'=>w'.cell? ⟨p,4,none⟩=some v2) (by kernel_rfl) ?_ (fun hHeld=>?_)
   ·exact(HSS2 _ (Fr.drew wm1).up0).1
   refine aT 14 0 ?_
   refine aT 14 1 ?_
   refine aT 14 2 ?_
   refine aT 14 3 ?_
   refine aT 14 4 ?_
   refine aT 14 5 ?_
   refine zAa (rs:=[6]) (by kernel_rfl) (by simp) ?_
   refine AllL.cons rfl (fun K hK=>?_) ?_
   rotate_left
   ·exact AllL.nil
   go_simp
   refine(HR2 _ (Fr.drew wm1)).mono ?_
   rintro e wb2 ⟨o2,a2,ha2,rfl,FB2,hi2,hb2⟩
   have H9:=(HSS2 wb2 FB2).1
   clear HR2
   go_wp2_with fail
   refine hK.out _ _ (H9) (fun hHeld=>?_)
   clear hK K
   try simp only[Act.put,oB,oC,oD,oE,oF,oG]
   refine zAa (rs:=[7]) (by kernel_rfl) (by simp) ?_
   refine AllL.cons rfl (fun K hK=>?_) ?_
   rotate_left
   ·exact AllL.nil
   go_simp
   have H9:=(HSS2 _ (FB2.on0 (Fr.alloc wb2 (.cells #[.pointer a2] 26)))).1
   refine hK.out _ _ (H9) (fun hHeld=>?_)
   clear hK K
   try simp only[Act.put,oB,oC,oD,oE,oF,oG]
   refine zAa (rs:=[8]) (by kernel_rfl) (by simp) ?_
   refine AllL.cons rfl (fun K hK=>?_) ?_
   rotate_left
   ·exact AllL.nil
   refine step_append_lies _ (by rfl) _ _ 38 (by rfl) 0 26 i0 _ 1 8 Tryz.underlying38 hi hz0 hz1 hz2 (by rfl) (by omega) v2 n2 _ (by rfl) ((hrow2 _ FB2).alloc _) ⟨wb2.heap.size,0,none⟩ 1 1 [.pointer a2] (by rfl) (by rfl) (new1 wb2 (.pointer a2) 26) (fun u hu=>(by simp at hu;subst hu;rfl)) (by omega) (by unfold maxLen;omega) (by omega) (Nat.zero_le _) (wb2.heap.size+1) (by simp) ?_
   intro g2 cap2 wd2 hown hgrow hat hlt
   have HE2:=oH (HN1.out.app HCR.out HST2.out ha2 FB2 hi2 hb2 hown hgrow hat)
   have H9:wd2.cell? ⟨p,4,none⟩=some v2∧wd2.frozen? ⟨p,4,none⟩=false:=by
    have n2:=(FB2.block p (zAd HN1.out.nd) (by have:=HN1.out.hp;have:=HCR.out;simp;omega)).trans HN1.out.nd
    have F12:Fr (obL v2) wb2 wd2:=((Fr.alloc wb2 _).up0).on (Fr.of_grown hgrow)
    have n6:=(F12.block p (zAd n2) (fun hm=>zAi HN1.out.row HN1.out.nd hm)).trans n2
    exact⟨(NodeAt.mk n6).c4,(NodeAt.mk n6).f 4⟩
   obtain⟨H9,f9⟩:=H9
   clear hown hgrow hat hlt hi2 hb2 FB2 HST2 hrow2 HSS2 y4 ha2
   refine hK.out _ _ (H9) (fun hHeld=>?_)
   clear hK K
   try simp only[Act.put,oB,oC,oD,oE,oF,oG]
   refine aT 14 9 ?_
   refine aT 14 10 ?_
   refine zAa (rs:=[11]) (by kernel_rfl) (by simp) ?_
   refine AllL.last rfl (by kernel_rfl) (fun K hK=>?_) ?_
   rotate_left
   ·exact AllL.nil
   go_simp
   refine hK.out _ _ ?_
   clear hK K
   try simp only[Act.put,oB,oC,oD,oE,oF,oG]
   refine zAl (by kernel_rfl) ?_ _
   obtain⟨wa2,hwa2⟩:∃wa,wd2.setCell ⟨p,4,none⟩ (.slice (some ⟨g2,0,none⟩) (n2+1) cap2)=wa:=⟨_,rfl⟩
   rw [hwa2] at HE2
   try rw [hwa2]
   clear H9 f9 hwa2
   obtain⟨v3,hv3⟩:∃v,Value.slice (some ⟨g2,0,none⟩) (n2+1) cap2=v:=⟨_,rfl⟩
   obtain⟨n3,hn3⟩:∃n,n2+1=n:=⟨_,rfl⟩
   obtain⟨xs3,hx3⟩:∃x,xs2++[Value.pointer a2]=x:=⟨_,rfl⟩
   rw [hn3] at hv3 HE2
   rw [hv3,hx3] at HE2
   clear hv3 hn3 hx3
   have hjl:j < c.ts.length:=zCr HRR.out.2.2
   have HG:=HQ.out.2.2.1 l (j+1) _ rfl hjl
   have HNj:=HNN.out.2.1 l j HRR.out.1
   have htl:=HRR.out.2.1.tl
   have HREL:Hid (∃r N v n xs m,SN c w (nd 62 t [] 0) p r N wa2 v n xs∧N≤16386∧(∀l j,r=.ok l j→N≤j∧j≤c.ts.length)∧RES=r.bnd (brG c.ts B m)):=oH ⟨_,_,_,_,_,m,HE2.out,by omega,fun l' k hr=>by have:=HG l' k hr;omega,HST.out⟩
   have HME:Hid (rfM c.R wa2 < rfM c.R wr):=oH (HE2.out.meas HRR.out.2.1 (fun l' k hr=>by have:=HG l' k hr;omega))
   clear HE2 HN1 HE0 HA0 HG HNj htl hjl
   go_wp2_with fail
   go_roundw
   case rel=>exact HREL.out
   case measure=>exact HME.out
  ·have HNO:=oH hno
   clear hno hsn
   go_wp2_with fail
   refine HK.mono ?_
   rintro e wk ⟨rfl,hs⟩
   have HS1:=oH hs
   clear HK HS
   rcases hs.eat HCR.out [69,76,83,69] with⟨l,j,hr,X,hq,HK⟩ | ⟨hno,HK⟩
   ·have HRR:=oH (oA hr hq)
    clear hr X hq hs
    go_wp2_with fail
    refine HK.mono ?_
    rintro e wl ⟨rfl,hs⟩
    have HA0:=oH hs
    clear hs HK HS1
    have hfin:RES=needM c.ts [69,78,68] (kid B (.ok l (j+1))):=by
     rw [HNN.out.2.2,HRR.out.1]
     refine zXc ?_ HRR.out.2
     have:=HNO.out
     rw [HRR.out.1] at this
     exact this
    have HO1:Hid (kid B (.ok l (j+1))≠.out):=oH (zBp (by rw [← hfin];exact HQ.out.2.1))
    have HFIN:=oH hfin
    have hNb:N≤16386:=HNN.out.1
    clear hfin
    obtain⟨j0,b0,X0,hst0⟩:=HA0.out.rf
    have HNE0:b0=false→B j0≠.out:=fun hb=>by
     rcases hst0 with⟨_,l,us,hr,_⟩ | ⟨hb2,_⟩
     ·exact zBm HO1.out hr
     ·rw [hb] at hb2;cases hb2
    have HR0:∀w1,Fr [] wl w1→Calls Tryz.prog 18 #[.pointer (some ⟨c.R,0,none⟩)] w1 fun e w'=>∃o a,encP o=.pointer a∧e=.returned (.pointer a)∧Fr [c.R] wl w'∧(b0=false→Itm c (B) j0 wl w' o)∧(b0=true→RF c w' j0 true):=fun w1 F1=>by
     refine( HBB.out w1 j0 b0 (X0.keep F1)  HNE0).mono ?_
     rintro e w' ⟨o,a,h1,h2,h3,h4,h5⟩
     exact⟨o,a,h1,h2,F1.up0.on h3,fun hb=>(h4 hb).low F1.size,h5⟩
    have HSS0:∀w':World,Fr [c.R] wl w'→(w'.cell? ⟨p,4,none⟩=some v0∧w'.frozen? ⟨p,4,none⟩=false):=fun w' F=>by
     have e3:=(F.block p (zAd HA0.out.nd) (by have:=HA0.out.hp;have:=HCR.out;simp;omega)).trans HA0.out.nd
     exact⟨(NodeAt.mk e3).c4,(NodeAt.mk e3).f 4⟩
    have HST0:=oH hst0
    have y4:=(HSS0 wl (Fr.refl _ _)).1
    have hrow0:∀w',Fr [c.R] wl w'→w'.ownsRow 0 26 1 v0 n0 xs0:=fun w' F=>zAf HA0.out.row F (fun q hq hm=>by
     have h1:=HA0.out.far q hq
     have h2:q=c.R:=by simpa using hm
     have:=HCR.out
     omega)
    have hnb0:=HA0.out.hn
    clear X0 HNE0 hst0
    go_wp2_with fail
    refine zAp 11 (S:=fun w'=>w'.cell? ⟨p,4,none⟩=some v0) (by kernel_rfl) ?_ (fun hHeld=>?_)
    ·exact(HSS0 _ (Fr.drew wl).up0).1
    refine aT 14 0 ?_
    refine aT 14 1 ?_
    refine aT 14 2 ?_
    refine aT 14 3 ?_
    refine aT 14 4 ?_
    refine aT 14 5 ?_
    refine zAa (rs:=[6]) (by kernel_rfl) (by simp) ?_
    refine AllL.cons rfl (fun K hK=>?_) ?_
    rotate_left
    ·exact AllL.nil
    go_simp
    refine(HR0 _ (Fr.drew wl)).mono ?_
    rintro e wb0 ⟨o0,a0,ha0,rfl,FB0,hi0,hb0⟩
    have H9:=(HSS0 wb0 FB0).1
    clear HR0
    go_wp2_with fail
    refine hK.out _ _ (H9) (fun hHeld=>?_)
    clear hK K
    try simp only[Act.put,oB,oC,oD,oE,oF,oG]
    refine zAa (rs:=[7]) (by kernel_rfl) (by simp) ?_
    refine AllL.cons rfl (fun K hK=>?_) ?_
    rotate_left
    ·exact AllL.nil
    go_simp
    have H9:=(HSS0 _ (FB0.on0 (Fr.alloc wb0 (.cells #[.pointer a0] 26)))).1
    refine hK.out _ _ (H9) (fun hHeld=>?_)
    clear hK K
    try simp only[Act.put,oB,oC,oD,oE,oF,oG]
    refine zAa (rs:=[8]) (by kernel_rfl) (by simp) ?_
    refine AllL.cons rfl (fun K hK=>?_) ?_
    rotate_left
    ·exact AllL.nil
    refine step_append_lies _ (by rfl) _ _ 38 (by rfl) 0 26 i0 _ 1 8 Tryz.underlying38 hi hz0 hz1 hz2 (by rfl) (by omega) v0 n0 _ (by rfl) ((hrow0 _ FB0).alloc _) ⟨wb0.heap.size,0,none⟩ 1 1 [.pointer a0] (by rfl) (by rfl) (new1 wb0 (.pointer a0) 26) (fun u hu=>(by simp at hu;subst hu;rfl)) (by omega) (by unfold maxLen;omega) (by omega) (Nat.zero_le _) (wb0.heap.size+1) (by simp) ?_
    intro g0 cap0 wd0 hown hgrow hat hlt
    have HE0:=oH (HA0.out.app HCR.out HST0.out ha0 FB0 hi0 hb0 hown hgrow hat)
    have H9:wd0.cell? ⟨p,4,none⟩=some v0∧wd0.frozen? ⟨p,4,none⟩=false:=by
     have n2:=(FB0.block p (zAd HA0.out.nd) (by have:=HA0.out.hp;have:=HCR.out;simp;omega)).trans HA0.out.nd
     have F12:Fr (obL v0) wb0 wd0:=((Fr.alloc wb0 _).up0).on (Fr.of_grown hgrow)
     have n6:=(F12.block p (zAd n2) (fun hm=>zAi HA0.out.row HA0.out.nd hm)).trans n2
     exact⟨(NodeAt.mk n6).c4,(NodeAt.mk n6).f 4⟩
    obtain⟨H9,f9⟩:=H9
    clear hown hgrow hat hlt hi0 hb0 FB0 HST0 hrow0 HSS0 y4 ha0
    refine hK.out _ _ (H9) (fun hHeld=>?_)
    clear hK K
    try simp only[Act.put,oB,oC,oD,oE,oF,oG]
    refine aT 14 9 ?_
    refine aT 14 10 ?_
    refine zAa (rs:=[11]) (by kernel_rfl) (by simp) ?_
    refine AllL.last rfl (by kernel_rfl) (fun K hK=>?_) ?_
    rotate_left
    ·exact AllL.nil
    go_simp
    refine hK.out _ _ ?_
    clear hK K
    try simp only[Act.put,oB,oC,oD,oE,oF,oG]
    refine zAl (by kernel_rfl) ?_ _
    obtain⟨wa0,hwa0⟩:∃wa,wd0.setCell ⟨p,4,none⟩ (.slice (some ⟨g0,0,none⟩) (n0+1) cap0)=wa:=⟨_,rfl⟩
    rw [hwa0] at HE0
    try rw [hwa0]
    clear H9 f9 hwa0
    obtain⟨v1,hv1⟩:∃v,Value.slice (some ⟨g0,0,none⟩) (n0+1) cap0=v:=⟨_,rfl⟩
    obtain⟨n1,hn1⟩:∃n,n0+1=n:=⟨_,rfl⟩
    obtain⟨xs1,hx1⟩:∃x,xs0++[Value.pointer a0]=x:=⟨_,rfl⟩
    rw [hn1] at hv1 HE0
    rw [hv1,hx1] at HE0
    clear hv1 hn1 hx1
    have HND1:=HE0.out.need HCR.out [69,78,68]
    go_wp2_with fail
    refine HND1.mono ?_
    rintro e wm1 ⟨rfl,FN1,hs⟩
    have HN1:=oH hs
    clear hs FN1 HND1
    obtain⟨v2,n2,xs2,he1,he2,he3⟩:∃v n xs,v1=v∧n1=n∧xs1=xs:=⟨_,_,_,rfl,rfl,rfl⟩
    rw [he1,he2,he3] at HN1
    clear he1 he2 he3
    go_wp2_with fail
    go_ret
    exact HN1.out.tl (by rw [HFIN.out])
   ·have HNO2:=oH hno
    clear hno hs
    go_wp2_with fail
    refine HK.mono ?_
    rintro e wl ⟨rfl,hs⟩
    have HA0:=oH hs
    clear hs HK HS1
    have HFIN:Hid (RES=needM c.ts [69,78,68] r):=oH (by rw [HNN.out.2.2];exact qAy HNO.out HNO2.out)
    have HND0:=HA0.out.need HCR.out [69,78,68]
    go_wp2_with fail
    refine HND0.mono ?_
    rintro e wm0 ⟨rfl,FN0,hs⟩
    have HN0:=oH hs
    clear hs FN0 HND0
    obtain⟨v1,n1,xs1,he1,he2,he3⟩:∃v n xs,v0=v∧n0=n∧xs0=xs:=⟨_,_,_,rfl,rfl,rfl⟩
    rw [he1,he2,he3] at HN0
    clear he1 he2 he3
    go_wp2_with fail
    go_ret
    exact HN0.out.tl (by rw [HFIN.out])
end Go.Proofs.YtepfknfadpkigaaGreat
end
