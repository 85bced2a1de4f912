/- Several texts in one. -/
import Derived.Test.YtepfknfadpkigaaGreatPkAA
import Derived.Test.YtepfknfadpkigaaGreatPkAY
import Derived.Deep.AppendLies
import Derived.Deep.RegionLaw
import Derived.Deep.RegionHeldLaw
set_option linter.unusedVariables false
set_option linter.unusedSimpArgs false
section
namespace Go.Proofs.YtepfknfadpkigaaGreat
open Go.RowKit
set_option maxHeartbeats 4000000
set_option maxRecDepth 100000
theorem RF.stay {c:Rc} {w w':World} {i:Nat} {b:Bool} {N:List Nat} (h:RF c w i b) (F:Fr N w w') (hN:∀j ∈ N,c.R < j):RF c w' i b:=by
 have hl:=h.lt
 have hB:=c.hBR
 refine⟨(F.block _ hl (fun hm=>by have:=hN _ hm;omega)).trans h.rd,h.row.fc (Fc.of_fr F (B:=c.B) (fun j hj=>by have:=hN j hj;omega) (by omega)),h.le,h.tl,h.tx⟩
theorem zFa (ts:List TK) (I:Nat→Re) (m:Nat) (acc:List DT) (i:Nat):lstM ts I (m+1) acc i=(match I i with | .ok t j=>nxtM ts I m (acc++[t]) j | .bad j=>.bad j | .out=>.out):=by
 show (match I i with | .ok t j=>_ | .bad j=>_ | .out=>_)=_
 cases I i <;> rfl
def clM (ts:List TK) (e:List UInt8):ReL→ReL
 | .ok l j=>if isS (tk ts j) e then .ok l (j+1) else .bad j
 | .bad j=>.bad j
 | .out=>.out
theorem zUf {ts:List TK} {e:List UInt8} {l:List DT} {j:Nat} (h:isS (tk ts j) e=true):clM ts e (.ok l j)=.ok l (j+1):=by
 show (if isS (tk ts j) e=true then _ else _)=_
 rw [if_pos h]
theorem qAn {ts:List TK} {e:List UInt8} {l:List DT} {j:Nat} (h:isS (tk ts j) e=false):clM ts e (.ok l j)=.bad j:=by
 show (if isS (tk ts j) e=true then _ else _)=_
 rw [if_neg (by rw [h];simp)]
theorem zGl (ts:List TK) (e:List UInt8) (I:Nat→Re) (i:Nat):withM ts e I i=if isS (tk ts (i+1)) e then .ok [] (i+2) else clM ts e (lstM ts I (ts.length+1) [] (i+1)):=by
 unfold withM
 split
 ·rfl
 ·cases lstM ts I (ts.length+1) [] (i+1) <;> rfl
def Itm (c:Rc) (I:Nat→Re) (i:Nat) (w w':World) (o:Option Nat):Prop :=
 (∃d j u,I i=.ok d j∧o=some u.p∧RF c w' j false∧IsT w' (w.heap.size≤·) u∧u.dt=d)∨∃j,I i=.bad j∧RF c w' j true
def KLp (c:Rc) (I:Nat→Re) (C:Nat) (w0:World) (d:ND) (p:Nat) (pre:List Tr) (RESL:ReL) (wr:World):Prop:=Fr [c.R] w0 wr ∧
 ((∃m us j v,nxtM c.ts I m (dtL us) j=RESL∧RF c wr j false∧KJ C p d wr v (pre++us)∧(∀q ∈ obL v,w0.heap.size≤q)∧us.length≤j)∨∃j,RESL=.bad j∧RF c wr j true)
theorem zFk {c:Rc} {I:Nat→Re} (hM:Mono I) {C:Nat} {w0 wr w9 w6:World} {d:ND} {p:Nat} {pre us:List Tr} {v:Value} {m i g cap:Nat} {o:Option Nat} {RESL:ReL} {cc:Obj} {a:Option Addr} (ha:encP o=.pointer a)
  (hR:c.R < C) (hC:C≤w0.heap.size) (hp:w0.heap.size≤p) (F:Fr [c.R] w0 wr) (K:KJ C p d wr v (pre++us)) (hv:∀q ∈ obL v,w0.heap.size≤q) (hus:us.length≤i)
  (hun:lstM c.ts I (m+1) (dtL us) i=RESL) (F9:Fr [c.R] wr w9) (hres:Itm c I i wr w9 o)
  (hown:w6.ownsRow 0 26 1 (.slice (some ⟨g,0,none⟩) ((pre++us).length+1) cap) ((pre++us).length+1) (((pre++us).map Tr.p).map ptrV++[.pointer a])) (hgrow:(w9.alloc cc).grownBy w6 v.ownBlock) (hat:v.ownBlock=some g∨g=w9.heap.size+1) :
  KLp c I C w0 d p pre RESL (w6.setCell ⟨p,4,none⟩ (.slice (some ⟨g,0,none⟩) ((pre++us).length+1) cap)):=by
 have s1:=F.size
 have s2:=F9.size
 have FA:=zHe (p:=p) hgrow (.slice (some ⟨g,0,none⟩) ((pre++us).length+1) cap)
 have hfar:∀j ∈ p::obL v,w0.heap.size≤j:=fun j hj=>by
  rcases List.mem_cons.1 hj with rfl | hj
  ·exact hp
  ·exact hv j hj
 have hfarR:∀j ∈ p::obL v,c.R < j:=fun j hj=>by have:=hfar j hj;omega
 refine⟨(F.on F9).trans FA (fun j hj=>.inr (hfar j hj)),?_⟩
 rw [zFa] at hun
 rcases hres with⟨d',j,u,hI,rfl,X,hu,hd⟩ | ⟨j,hI,X⟩
 ·left
  rw [hI] at hun
  have hpt:Value.pointer a=ptrV u.p:=ha.symm
  rw [hpt] at hown
  have hj:=hM _ _ _ hI
  refine⟨m,us++[u],j,.slice (some ⟨g,0,none⟩) ((pre++us).length+1) cap,?_,X.stay FA hfarR,?_,fun q hq=>?_,by simp;omega⟩
  ·rw [zDp]
   simp only [dtL,hd]
   exact hun
  ·rw [← List.append_assoc]
   exact K.on F9 (by simp;exact hR) (by omega) u hu cc g cap hown hgrow hat
  ·have e:q=g:=by simpa [obL,Value.ownBlock] using hq
   subst e
   rcases hat with h1 | h1
   ·exact hv q ((zBc v q).2 h1)
   ·omega
 ·right
  rw [hI] at hun
  exact⟨j,hun.symm,X.stay FA hfarR⟩
theorem zIh {c:Rc} {I:Nat→Re} (hM:Mono I) {w wx w' w3:World} {i:Nat} {o:Option Nat} {N:List Nat} (h:RF c w i false) (hres:Itm c I (i+1) wx w' o) (F3:Fr N w' w3) (hN:∀j ∈ N,c.R < j):rfM c.R w3 < rfM c.R w:=by
 rcases hres with⟨d,j,v,hE,_,X,_⟩ | ⟨j,hE,X⟩
 ·exact zDh h (X.stay F3 hN) (fun _=>by have:=hM _ _ _ hE;omega)
 ·exact zDh h (X.stay F3 hN) (fun h=>by cases h)
theorem zSm (c:Rc) (E:Nat→Re) (hM:Mono E) (hE:CG c 65 E):CG c 97 (labM c.ts E):=by
 intro w i h hne
 have hfd:=zBb
 obtain⟨i0,hi,hz0,hz1,hz2⟩:=info_parts infoP
 obtain⟨px,py,e1⟩:=zAc (tk c.ts i).2.1.1 (tk c.ts i).2.1.2
 obtain⟨ex,ey,e2⟩:=zAc (tk c.ts i).2.2.1 (tk c.ts i).2.2.2
 have HN:=zAo c w i false h px py ex ey e1 e2
 obtain⟨RESL,hRESL⟩:∃RESL,lstM c.ts (elemM c.ts E) (c.ts.length+1) [] i=RESL:=⟨_,rfl⟩
 have hl:labM c.ts E i=RESL.re (fun l=>.node (nd 29 (tk c.ts i) [] 0) l):=by unfold labM;rw [hRESL]
 have HNE:Hid (RESL≠.out):=oH (fun e=>hne (by rw [hl,e];rfl))
 have HOUT:Hid (elemM c.ts E i≠.out):=oH (fun e=>HNE.out (by rw [← hRESL,zFa,e]))
 have HMO:=oH (zBu (ts:=c.ts) hM)
 have HE:=oH (zJk c E hE)
 have hX0:=h.lt
 obtain⟨C,hCC⟩:∃C,w.heap.size=C:=⟨_,rfl⟩
 have HT:=oH (oA h (oA hl (oA e1 (oA hX0 (oA hRESL hCC)))))
 obtain⟨d,hd⟩:∃d,nd 29 (tk c.ts i) [] 0=d:=⟨_,rfl⟩
 obtain⟨pre,hpre⟩:∃pre:List Tr,[]=pre:=⟨_,rfl⟩
 have HD:=oH (oA hd hpre)
 have HPRE:Hid (pre.length≤1):=oH (by rw [← hpre];simp)
 clear h hl hne e1 e2 hE hX0 hRESL hCC hd hpre
 generalize ((tk c.ts i).1.k:Int)=t0 at *
 generalize (⟨(tk c.ts i).1.x.toArray⟩:ByteArray)=t3 at *
 generalize (tk c.ts i).1.n=t4 at *
 go_enter Tryz.func97,Tryz.ntmps97
 go_wp2_with fail
 refine HN.mono ?_
 rintro e w1 ⟨rfl,F1⟩
 have HNO:=zBk w1 29 29 rfl (tk c.ts i) [] px py HT.out.2.2.1 ⟨#[]⟩ rfl none none _ _ rfl rfl
 have H1:=oH F1
 clear F1 HN
 simp only [encP] at HNO
 go_wp2_with fail
 refine HNO.mono ?_
 rintro e w2 h2
 obtain⟨p,v,rfl,F2,hp,hK⟩:=NoV.kj (ts:=[]) h2 (C:=C) (by rw [← HT.out.2.2.2.2.2];exact H1.out.size) (by simp)
 have HCC:Hid (c.R < C∧C≤w.heap.size∧w.heap.size≤p):=oH ⟨by rw [← HT.out.2.2.2.2.2];exact HT.out.2.2.2.1,by rw [HT.out.2.2.2.2.2];exact Nat.le_refl _,Nat.le_trans H1.out.size hp⟩
 have hK2:KJ C p d w2 v (pre++[]):=by rw [← HD.out.1,← HD.out.2];exact hK
 have HX:=oH ((HT.out.1.up H1.out).up F2)
 have HK:Hid (Fr [c.R] w w2∧KJ C p d w2 v (pre++[])∧(∀q ∈ obL v,w.heap.size≤q)∧([]:List Tr).length≤i∧lstM c.ts (elemM c.ts E) (c.ts.length+1) (dtL []) i=RESL) :=
  oH ⟨H1.out.up0.on0 F2,hK2,fun q hq=>by rw [HT.out.2.2.2.2.2];exact(hK2.r.base q hq).1,Nat.zero_le _,HT.out.2.2.2.2.1⟩
 have HLN:Hid ((pre++([]:List Tr)).length≤32768):=oH (by have:=HPRE.out;rw [List.append_nil];omega)
 clear h2 F2 hp hK hK2 HNO H1
 simp only [ptrV]
 have hRC:=HCC.out.1
 have y4:=(NodeAt.mk HK.out.2.1.n).c4
 have fy4:=(NodeAt.mk HK.out.2.1.n).f 4
 have HSS:∀w':World,Fr (c.R::obL v) w2 w'→(w'.cell? ⟨p,4,none⟩=some v∧w'.frozen? ⟨p,4,none⟩=false):=fun w' F=>by
  have e3:=F.block p (zAd HK.out.2.1.n) (fun hm=>by
   rcases List.mem_cons.1 hm with e | hm
   ·have:=HK.out.2.1.hp;omega
   ·exact zBe HK.out.2.1.r HK.out.2.1.n hm)
  exact⟨(World.cell?_of_block (a:=⟨p,4,none⟩) e3).trans y4,(World.frozen?_of_block (a:=⟨p,4,none⟩) e3).trans fy4⟩
 have HR:∀w1:World,Fr [] w2 w1→Calls Tryz.prog 108 #[.pointer (some ⟨c.R,0,none⟩)] w1 fun e wz=>∃o a,encP o=.pointer a∧e=.returned (.pointer a)∧Fr [c.R] w2 wz∧Itm c (elemM c.ts E) i w2 wz o:=fun w1 F1=>by
  refine(HE.out w1 i (HX.out.up F1) HOUT.out).mono ?_
  rintro e wz ⟨o,rfl,F,hres⟩
  obtain⟨a,ha⟩:=zAx o
  refine⟨o,a,ha,by rw [ha],F1.up0.on F,?_⟩
  rcases hres with⟨d,j,u,h1,h2,h3,h4,h5⟩ | h
  ·exact .inl ⟨d,j,u,h1,h2,h3,zAt h4 F1.size,h5⟩
  ·exact .inr h
 have F0:Fr [] w2 w2.drew:=Fr.drew w2
 have hto:∀{w'},Fr [c.R] w2 w'→Fr (c.R::obL v) w2 w':=fun h=>h.mono (by simp)
 obtain⟨n,hn⟩:∃n,(pre++[]).length=n:=⟨_,rfl⟩
 have HNN:=oH hn
 have hnb:n≤32768:=by rw [← hn];exact HLN.out
 obtain⟨xs,hxs⟩:∃xs,((pre++[]).map Tr.p).map ptrV=xs:=⟨_,rfl⟩
 have HXS:=oH hxs
 have hrow:∀w',Fr [c.R] w2 w'→w'.ownsRow 0 26 1 v n xs:=fun w' F=>by
  have h1:=zAf HK.out.2.1.r.1 F (fun j hj hm=>by
   have h2:=(HK.out.2.1.r.base j hj).1
   have h3:j=c.R:=by simpa using hm
   omega)
  rw [List.length_map,hn,hxs] at h1
  exact h1
 clear hRC hn hxs
 go_wp2_with fail
 go_region_law (first
   | (refine step_append_lies _ (by rfl) _ _ _ (by rfl) 0 26 i0 _ 1 8 Tryz.underlying38 hi hz0 hz1 hz2 rfl (by omega) v n _ (by rfl) ((hrow _ F9).alloc _) ⟨w9.heap.size,0,none⟩ 1 1 [.pointer a] (by rfl) (by rfl) (new1 w9 (.pointer a) 26) (fun u hu=>(by simp at hu;subst hu;rfl)) (by omega) (by unfold maxLen;omega) (by omega) (by simp <;> omega) (w9.heap.size+1) (by simp) ?_;intro gl capl w6 hown hgrow hat hlt6;obtain⟨s1,s2⟩:=HSS w6 ((hto (F9.trans (Fr.alloc _ _) (by simp))).trans (Fr.of_grown hgrow) (fun q hq=>.inl (List.mem_cons_of_mem _ hq))))
   | (go_simp;go_at_call 108;refine(HR _ F0).mono ?_;rintro e w9 ⟨o,a,ha,rfl,F9,hres⟩;obtain⟨t1,t2⟩:=HSS w9 (hto F9);obtain⟨a1,a2⟩:=HSS (w9.alloc (.cells #[.pointer a] 26)) (hto (F9.trans (Fr.alloc _ _) (by simp)))))
 all_goals
  have hst:=zFk (c:=c) (I:=elemM c.ts E) HMO.out (C:=C) (w0:=w) (wr:=w2) (w9:=w9) (w6:=w6) (d:=d) (p:=p) (pre:=pre) (v:=v) (i:=i) (g:=gl) (cap:=capl) (o:=o) (RESL:=RESL) ha HCC.out.1 HCC.out.2.1 HCC.out.2.2 HK.out.1 HK.out.2.1 HK.out.2.2.1 HK.out.2.2.2.1 HK.out.2.2.2.2 F9 hres (by rw [HNN.out,HXS.out];exact hown) hgrow hat
  rw [HNN.out] at hst
  have HST:=oH hst
  clear hst ha F9 hres hown hgrow hat hlt6 HR HSS hrow F0 t1 t2 s1 s2 a1 a2 y4 fy4 hto
  go_wp2_with fail
  go_loopw [] (fun wr=>KLp c (elemM c.ts E) C w d p pre RESL wr) (fun wr=>rfM c.R wr)
  case atStart=>exact HST.out
  case round =>
   clear HST
   obtain⟨F,⟨m,us,j,v,hun,X,K,hv,hus⟩ | ⟨j,hr,X⟩⟩:=hrel
   ·cases hp:isS (tk c.ts j) [44]
    ·have HS:=zAu c wr j false [44] X (by rw [hp];rfl)
     have hfin:RESL=.ok (dtL us) j:=by rw [← hun];unfold nxtM;rw [hp];rfl
     have H:=oH (oA F (oA hfin (oA X K)))
     clear F X K hv hus hun hfin hp
     simp only [pt] at HS
     go_wp2_with fail
     refine HS.mono ?_
     rintro e w2 ⟨rfl,F2⟩
     have H2:=oH F2
     clear F2 HS
     go_wp2_with fail
     go_ret
     refine Tl.mk_ok (u:=.node p d (pre++us)) (d:=.node (nd 29 (tk c.ts i) [] 0) (dtL us)) (j:=j) ?_ (H.out.1.on0 H2.out) (H.out.2.2.1.up H2.out) ?_ ?_
     ·rw [HT.out.2.1,H.out.2.1];rfl
     ·rw [HT.out.2.2.2.2.2]
      exact(H.out.2.2.2.fr H2.out (by simp)).tree
     ·rw [← HD.out.1,← HD.out.2];rfl
    ·have HS:=zBo c wr j [44] X hp
     have hun2:RESL=lstM c.ts (elemM c.ts E) m (dtL us) (j+1):=by rw [← hun];unfold nxtM;rw [if_pos hp]
     obtain⟨m,rfl⟩:∃m',m=m'+1:=by
      cases m with
      | zero=>exact absurd hun2 HNE.out
      | succ m=>exact⟨m,rfl⟩
     have HOUT:Hid (elemM c.ts E (j+1)≠.out):=oH (fun e=>HNE.out (by rw [hun2,zFa,e]))
     have HX0:=oH X
     have H:=oH (oA F (oA K (oA hv (oA hus hun2.symm))))
     clear F X K hv hus hun hun2 hp
     simp only [pt] at HS
     go_wp2_with fail
     refine HS.mono ?_
     rintro e w2 ⟨rfl,F2,X2⟩
     have HX:=oH X2
     have HK:Hid (Fr [c.R] w w2∧KJ C p d w2 v (pre++us)∧(∀q ∈ obL v,w.heap.size≤q)∧us.length≤j+1∧lstM c.ts (elemM c.ts E) (m+1) (dtL us) (j+1)=RESL) :=
      oH ⟨H.out.1.on F2,H.out.2.1.fr F2 (by simp;exact HCC.out.1),H.out.2.2.1,Nat.le_succ_of_le H.out.2.2.2.1,H.out.2.2.2.2⟩
     have HLN:Hid ((pre++us).length≤32768):=oH (by have:=HX0.out.le;have:=H.out.2.2.2.1;have:=HPRE.out;rw [List.length_append];omega)
     clear F2 X2 HS H
     have hRC:=HCC.out.1
     have y4:=(NodeAt.mk HK.out.2.1.n).c4
     have fy4:=(NodeAt.mk HK.out.2.1.n).f 4
     have HSS:∀w':World,Fr (c.R::obL v) w2 w'→(w'.cell? ⟨p,4,none⟩=some v∧w'.frozen? ⟨p,4,none⟩=false):=fun w' F=>by
      have e3:=F.block p (zAd HK.out.2.1.n) (fun hm=>by
       rcases List.mem_cons.1 hm with e | hm
       ·have:=HK.out.2.1.hp;omega
       ·exact zBe HK.out.2.1.r HK.out.2.1.n hm)
      exact⟨(World.cell?_of_block (a:=⟨p,4,none⟩) e3).trans y4,(World.frozen?_of_block (a:=⟨p,4,none⟩) e3).trans fy4⟩
     have HR:∀w1:World,Fr [] w2 w1→Calls Tryz.prog 108 #[.pointer (some ⟨c.R,0,none⟩)] w1 fun e wz=>∃o a,encP o=.pointer a∧e=.returned (.pointer a)∧Fr [c.R] w2 wz∧Itm c (elemM c.ts E) (j+1) w2 wz o:=fun w1 F1=>by
      refine(HE.out w1 (j+1) (HX.out.up F1) HOUT.out).mono ?_
      rintro e wz ⟨o,rfl,F,hres⟩
      obtain⟨a,ha⟩:=zAx o
      refine⟨o,a,ha,by rw [ha],F1.up0.on F,?_⟩
      rcases hres with⟨d,j,u,h1,h2,h3,h4,h5⟩ | h
      ·exact .inl ⟨d,j,u,h1,h2,h3,zAt h4 F1.size,h5⟩
      ·exact .inr h
     have F0:Fr [] w2 w2.drew:=Fr.drew w2
     have hto:∀{w'},Fr [c.R] w2 w'→Fr (c.R::obL v) w2 w':=fun h=>h.mono (by simp)
     obtain⟨n,hn⟩:∃n,(pre++us).length=n:=⟨_,rfl⟩
     have HNN:=oH hn
     have hnb:n≤32768:=by rw [← hn];exact HLN.out
     obtain⟨xs,hxs⟩:∃xs,((pre++us).map Tr.p).map ptrV=xs:=⟨_,rfl⟩
     have HXS:=oH hxs
     have hrow:∀w',Fr [c.R] w2 w'→w'.ownsRow 0 26 1 v n xs:=fun w' F=>by
      have h1:=zAf HK.out.2.1.r.1 F (fun j hj hm=>by
       have h2:=(HK.out.2.1.r.base j hj).1
       have h3:j=c.R:=by simpa using hm
       omega)
      rw [List.length_map,hn,hxs] at h1
      exact h1
     clear hRC hn hxs
     go_wp2_with fail
     go_region_law (first
       | (refine step_append_lies _ (by rfl) _ _ _ (by rfl) 0 26 i0 _ 1 8 Tryz.underlying38 hi hz0 hz1 hz2 rfl (by omega) v n _ (by rfl) ((hrow _ F9).alloc _) ⟨w9.heap.size,0,none⟩ 1 1 [.pointer a] (by rfl) (by rfl) (new1 w9 (.pointer a) 26) (fun u hu=>(by simp at hu;subst hu;rfl)) (by omega) (by unfold maxLen;omega) (by omega) (by simp <;> omega) (w9.heap.size+1) (by simp) ?_;intro gl capl w6 hown hgrow hat hlt6;obtain⟨s1,s2⟩:=HSS w6 ((hto (F9.trans (Fr.alloc _ _) (by simp))).trans (Fr.of_grown hgrow) (fun q hq=>.inl (List.mem_cons_of_mem _ hq))))
       | (go_simp;go_at_call 108;refine(HR _ F0).mono ?_;rintro e w9 ⟨o,a,ha,rfl,F9,hres⟩;obtain⟨t1,t2⟩:=HSS w9 (hto F9);obtain⟨a1,a2⟩:=HSS (w9.alloc (.cells #[.pointer a] 26)) (hto (F9.trans (Fr.alloc _ _) (by simp)))))
     all_goals
      have hst:=zFk (c:=c) (I:=elemM c.ts E) HMO.out (C:=C) (w0:=w) (wr:=w2) (w9:=w9) (w6:=w6) (d:=d) (p:=p) (pre:=pre) (v:=v) (i:=(j+1)) (g:=gl) (cap:=capl) (o:=o) (RESL:=RESL) ha HCC.out.1 HCC.out.2.1 HCC.out.2.2 HK.out.1 HK.out.2.1 HK.out.2.2.1 HK.out.2.2.2.1 HK.out.2.2.2.2 F9 hres (by rw [HNN.out,HXS.out];exact hown) hgrow hat
      rw [HNN.out] at hst
      have HST:=oH hst
      have HME:Hid (rfM c.R (w6.setCell ⟨p,4,none⟩ (.slice (some ⟨gl,0,none⟩) (n+1) capl)) < rfM c.R wr):=oH (zIh HMO.out HX0.out hres (zHe hgrow _) (fun j hj=>by
       have h1:=HCC.out.1
       have h2:=HCC.out.2.1
       have h3:=HCC.out.2.2
       rcases List.mem_cons.1 hj with rfl | hj
       ·omega
       ·have:=HK.out.2.2.1 j hj;omega))
      clear hst ha F9 hres hown hgrow hat hlt6 HR HSS hrow F0 t1 t2 s1 s2 a1 a2 y4 fy4 hto
      go_wp2_with fail
      go_roundw
      case rel=>exact HST.out
      case measure=>exact HME.out
   ·have HS:=zAu c wr j true [44] X rfl
    have H:=oH (oA F (oA hr X))
    clear F X hr
    simp only [pt] at HS
    go_wp2_with fail
    refine HS.mono ?_
    rintro e w2 ⟨rfl,F2⟩
    have H2:=oH F2
    clear F2 HS
    go_wp2_with fail
    go_ret
    exact Tl.mk_bad (o:=some p) rfl (by rw [HT.out.2.1,H.out.2.1];rfl) (H.out.1.on0 H2.out) (H.out.2.2.up H2.out)
theorem zLz (c:Rc) (E:Nat→Re) (hM:Mono E) (hE:CG c 65 E) (w:World) (i:Nat) (h:RF c w i false) (t:TK) (px py:Nat) (e1:posV t.2.1.1 t.2.1.2=.complex .f64 px py) (C:Nat) (hR:c.R < C) (hC:C≤w.heap.size) (u:Tr) (hu:IsT w (C≤·) u)
  (hb:isS (tk c.ts i) [123]=true) (hne:withM c.ts [125] (elemM c.ts E) i≠.out) :
  Calls Tryz.prog 128 #[.pointer (some ⟨c.R,0,none⟩),.complex .f64 px py,.pointer (some ⟨u.p,0,none⟩)] w (Tl c C w ((withM c.ts [125] (elemM c.ts E) i).re fun l=>.node (nd 8 t [] 0) (u.dt::l))):=by
 obtain⟨i0,hi,hz0,hz1,hz2⟩:=info_parts infoP
 have HNO:=zBk w 8 8 rfl t [] px py e1 ⟨#[]⟩ rfl (some u.p) none _ _ rfl rfl
 obtain⟨WL,hWL⟩:∃WL,withM c.ts [125] (elemM c.ts E) i=WL:=⟨_,rfl⟩
 rw [hWL] at hne ⊢
 have HMO:=oH (zBu (ts:=c.ts) hM)
 have HE:=oH (zJk c E hE)
 have HT:=oH (oA h (oA hb (oA hWL (oA hne (oA hu (oA hR hC))))))
 obtain⟨d,hd⟩:∃d,nd 8 t [] 0=d:=⟨_,rfl⟩
 rw [hd] at HNO ⊢
 obtain⟨pre,hpre⟩:∃pre:List Tr,[u]=pre:=⟨_,rfl⟩
 have HD:=oH hpre
 have HPRE:Hid (pre.length≤1):=oH (by rw [← hpre];simp)
 clear h hne hE hb hWL hu hR hC hpre e1 hd
 simp only [encP,ptrV] at HNO
 go_enter Tryz.func128,Tryz.ntmps128
 go_wp2_with fail
 refine HNO.mono ?_
 rintro e w1 h1
 obtain⟨p,v,rfl,F1,hp,hK⟩:=NoV.kj (ts:=[u]) h1 (C:=C) HT.out.2.2.2.2.2.2 (by simpa using HT.out.2.2.2.2.1)
 have HCC:Hid (c.R < C∧C≤w.heap.size∧w.heap.size≤p):=oH ⟨HT.out.2.2.2.2.2.1,HT.out.2.2.2.2.2.2,hp⟩
 have HVB:Hid (∀q ∈ obL v,w.heap.size≤q):=oH (by
  obtain⟨p',v',e,_,_,hn,hr⟩:=h1
  simp only [ptrV,Ending.returned.injEq,Value.pointer.injEq,Option.some.injEq,Addr.mk.injEq,and_true] at e
  subst e
  have:v'=v:=by
   have e:=hn.symm.trans hK.n
   simp only [nodeO,Option.some.injEq,Obj.cells.injEq,Array.mk.injEq,List.cons.injEq,and_true,true_and] at e
   exact e
  subst this
  exact fun q hq=>(hr.base q hq).1)
 have hK2:KJ C p d w1 v pre:=by rw [← HD.out];exact hK
 have HS:=zCe c w1 i [123] (HT.out.1.up F1) HT.out.2.1
 have H1:=oH (oA F1 hK2)
 clear h1 F1 hp hK hK2 HNO
 simp only [pt,ptrV] at HS ⊢
 go_wp2_with fail
 refine HS.mono ?_
 rintro e w2 ⟨rfl,F2,X2⟩
 have HK1:=oH (H1.out.2.fr F2 (by simp;exact HCC.out.1))
 have F02:=(H1.out.1.up0 (N:=[c.R])).on F2
 clear HS
 cases hq:isS (tk c.ts (i+1)) [125]
 ·have HS:=zAu c w2 (i+1) false [125] X2 (by rw [hq];rfl)
  obtain⟨RESL,hRESL⟩:∃RESL,lstM c.ts (elemM c.ts E) (c.ts.length+1) [] (i+1)=RESL:=⟨_,rfl⟩
  have hw:WL=clM c.ts [125] RESL:=by
   rw [← HT.out.2.2.1,zGl,hRESL,if_neg (by rw [hq];simp)]
  have HNE:Hid (RESL≠.out):=oH (fun e=>HT.out.2.2.2.1 (by rw [hw,e];rfl))
  have HOUT:Hid (elemM c.ts E (i+1)≠.out):=oH (fun e=>HNE.out (by rw [← hRESL,zFa,e]))
  have HW:=oH (oA hw hRESL)
  have H2:=oH (oA F02 X2)
  clear F02 F2 X2 hw hRESL hq
  simp only [pt] at HS
  go_wp2_with fail
  refine HS.mono ?_
  rintro e w3 ⟨rfl,F3⟩
  have HX:=oH (H2.out.2.up F3)
  have HK:Hid (Fr [c.R] w w3∧KJ C p d w3 v (pre++[])∧(∀q ∈ obL v,w.heap.size≤q)∧([]:List Tr).length≤i+1∧lstM c.ts (elemM c.ts E) (c.ts.length+1) (dtL []) (i+1)=RESL) :=
   oH ⟨H2.out.1.on0 F3,by rw [List.append_nil];exact HK1.out.fr F3 (by simp),HVB.out,Nat.zero_le _,HW.out.2⟩
  have HLN:Hid ((pre++([]:List Tr)).length≤32768):=oH (by have:=HPRE.out;rw [List.append_nil];omega)
  clear F3 HS H2 HK1
  have hRC:=HCC.out.1
  have y4:=(NodeAt.mk HK.out.2.1.n).c4
  have fy4:=(NodeAt.mk HK.out.2.1.n).f 4
  have HSS:∀w':World,Fr (c.R::obL v) w3 w'→(w'.cell? ⟨p,4,none⟩=some v∧w'.frozen? ⟨p,4,none⟩=false):=fun w' F=>by
   have e3:=F.block p (zAd HK.out.2.1.n) (fun hm=>by
    rcases List.mem_cons.1 hm with e | hm
    ·have:=HK.out.2.1.hp;omega
    ·exact zBe HK.out.2.1.r HK.out.2.1.n hm)
   exact⟨(World.cell?_of_block (a:=⟨p,4,none⟩) e3).trans y4,(World.frozen?_of_block (a:=⟨p,4,none⟩) e3).trans fy4⟩
  have HR:∀w1:World,Fr [] w3 w1→Calls Tryz.prog 108 #[.pointer (some ⟨c.R,0,none⟩)] w1 fun e wz=>∃o a,encP o=.pointer a∧e=.returned (.pointer a)∧Fr [c.R] w3 wz∧Itm c (elemM c.ts E) (i+1) w3 wz o:=fun w1 F1=>by
   refine(HE.out w1 (i+1) (HX.out.up F1) HOUT.out).mono ?_
   rintro e wz ⟨o,rfl,F,hres⟩
   obtain⟨a,ha⟩:=zAx o
   refine⟨o,a,ha,by rw [ha],F1.up0.on F,?_⟩
   rcases hres with⟨d,j,u,h1,h2,h3,h4,h5⟩ | h
   ·exact .inl ⟨d,j,u,h1,h2,h3,zAt h4 F1.size,h5⟩
   ·exact .inr h
  have F0:Fr [] w3 w3.drew:=Fr.drew w3
  have hto:∀{w'},Fr [c.R] w3 w'→Fr (c.R::obL v) w3 w':=fun h=>h.mono (by simp)
  obtain⟨n,hn⟩:∃n,(pre++[]).length=n:=⟨_,rfl⟩
  have HNN:=oH hn
  have hnb:n≤32768:=by rw [← hn];exact HLN.out
  obtain⟨xs,hxs⟩:∃xs,((pre++[]).map Tr.p).map ptrV=xs:=⟨_,rfl⟩
  have HXS:=oH hxs
  have hrow:∀w',Fr [c.R] w3 w'→w'.ownsRow 0 26 1 v n xs:=fun w' F=>by
   have h1:=zAf HK.out.2.1.r.1 F (fun j hj hm=>by
    have h2:=(HK.out.2.1.r.base j hj).1
    have h3:j=c.R:=by simpa using hm
    omega)
   rw [List.length_map,hn,hxs] at h1
   exact h1
  clear hRC hn hxs
  go_wp2_with fail
  go_region_law (first
    | (refine step_append_lies _ (by rfl) _ _ _ (by rfl) 0 26 i0 _ 1 8 Tryz.underlying38 hi hz0 hz1 hz2 rfl (by omega) v n _ (by rfl) ((hrow _ F9).alloc _) ⟨w9.heap.size,0,none⟩ 1 1 [.pointer a] (by rfl) (by rfl) (new1 w9 (.pointer a) 26) (fun u hu=>(by simp at hu;subst hu;rfl)) (by omega) (by unfold maxLen;omega) (by omega) (by simp <;> omega) (w9.heap.size+1) (by simp) ?_;intro gl capl w6 hown hgrow hat hlt6;obtain⟨s1,s2⟩:=HSS w6 ((hto (F9.trans (Fr.alloc _ _) (by simp))).trans (Fr.of_grown hgrow) (fun q hq=>.inl (List.mem_cons_of_mem _ hq))))
    | (go_simp;go_at_call 108;refine(HR _ F0).mono ?_;rintro e w9 ⟨o,a,ha,rfl,F9,hres⟩;obtain⟨t1,t2⟩:=HSS w9 (hto F9);obtain⟨a1,a2⟩:=HSS (w9.alloc (.cells #[.pointer a] 26)) (hto (F9.trans (Fr.alloc _ _) (by simp)))))
  all_goals
   have hst:=zFk (c:=c) (I:=elemM c.ts E) HMO.out (C:=C) (w0:=w) (wr:=w3) (w9:=w9) (w6:=w6) (d:=d) (p:=p) (pre:=pre) (v:=v) (i:=(i+1)) (g:=gl) (cap:=capl) (o:=o) (RESL:=RESL) ha HCC.out.1 HCC.out.2.1 HCC.out.2.2 HK.out.1 HK.out.2.1 HK.out.2.2.1 HK.out.2.2.2.1 HK.out.2.2.2.2 F9 hres (by rw [HNN.out,HXS.out];exact hown) hgrow hat
   rw [HNN.out] at hst
   have HST:=oH hst
   clear hst ha F9 hres hown hgrow hat hlt6 HR HSS hrow F0 t1 t2 s1 s2 a1 a2 y4 fy4 hto
   go_wp2_with fail
   go_loopw [] (fun wr=>KLp c (elemM c.ts E) C w d p pre RESL wr) (fun wr=>rfM c.R wr)
   case atStart=>exact HST.out
   case round =>
    clear HST
    obtain⟨F,⟨m,us,j,v,hun,X,K,hv,hus⟩ | ⟨j,hr,X⟩⟩:=hrel
    ·cases hp:isS (tk c.ts j) [44]
     ·have HS:=zAu c wr j false [44] X (by rw [hp];rfl)
      have hfin:RESL=.ok (dtL us) j:=by rw [← hun];unfold nxtM;rw [hp];rfl
      have H:=oH (oA F (oA hfin (oA X K)))
      clear F X K hv hus hun hfin hp
      simp only [pt] at HS
      go_wp2_with fail
      refine HS.mono ?_
      rintro e w2 ⟨rfl,F2⟩
      have H2:=oH F2
      clear F2 HS
      go_wp2_with fail
      cases hq:isS (tk c.ts j) [125]
      ·have HQ:=zBq c w2 j false [125] (H.out.2.2.1.up H2.out) (by rw [hq];rfl)
       have hq2:=oH hq
       clear hq
       simp only [pt] at HQ
       go_wp2_with fail
       refine HQ.mono ?_
       rintro e w5 ⟨rfl,F5,X5⟩
       have H5:=oH (oA F5 X5)
       clear F5 X5 HQ
       go_wp2_with fail
       go_ret
       exact Tl.mk_bad (o:=some p) (j:=j) rfl (by rw [HW.out.1,H.out.2.1];rw [qAn hq2.out];rfl) ((H.out.1.on0 H2.out).on H5.out.1) H5.out.2
      ·have HQ:=zCe c w2 j [125] (H.out.2.2.1.up H2.out) hq
       have hq2:=oH hq
       clear hq
       simp only [pt] at HQ
       go_wp2_with fail
       refine HQ.mono ?_
       rintro e w5 ⟨rfl,F5,X5⟩
       have H5:=oH (oA F5 X5)
       clear F5 X5 HQ
       go_wp2_with fail
       go_ret
       refine Tl.mk_ok (u:=.node p d (pre++us)) (d:=.node d (u.dt::dtL us)) (j:=j+1) ?_ ((H.out.1.on0 H2.out).on H5.out.1) H5.out.2 ((H.out.2.2.2.fr H2.out (by simp)).fr H5.out.1 (by simp;exact HCC.out.1)).tree ?_
       ·rw [HW.out.1,H.out.2.1]
        rw [zUf hq2.out]
        rfl
       ·rw [← HD.out];rfl
     ·have HS:=zBo c wr j [44] X hp
      have hun2:RESL=lstM c.ts (elemM c.ts E) m (dtL us) (j+1):=by rw [← hun];unfold nxtM;rw [if_pos hp]
      obtain⟨m,rfl⟩:∃m',m=m'+1:=by
       cases m with
       | zero=>exact absurd hun2 HNE.out
       | succ m=>exact⟨m,rfl⟩
      have HOUT:Hid (elemM c.ts E (j+1)≠.out):=oH (fun e=>HNE.out (by rw [hun2,zFa,e]))
      have HX0:=oH X
      have H:=oH (oA F (oA K (oA hv (oA hus hun2.symm))))
      clear F X K hv hus hun hun2 hp
      simp only [pt] at HS
      go_wp2_with fail
      refine HS.mono ?_
      rintro e w2 ⟨rfl,F2,X2⟩
      have HX:=oH X2
      have HK:Hid (Fr [c.R] w w2∧KJ C p d w2 v (pre++us)∧(∀q ∈ obL v,w.heap.size≤q)∧us.length≤j+1∧lstM c.ts (elemM c.ts E) (m+1) (dtL us) (j+1)=RESL) :=
       oH ⟨H.out.1.on F2,H.out.2.1.fr F2 (by simp;exact HCC.out.1),H.out.2.2.1,Nat.le_succ_of_le H.out.2.2.2.1,H.out.2.2.2.2⟩
      have HLN:Hid ((pre++us).length≤32768):=oH (by have:=HX0.out.le;have:=H.out.2.2.2.1;have:=HPRE.out;rw [List.length_append];omega)
      clear F2 X2 HS H
      have hRC:=HCC.out.1
      have y4:=(NodeAt.mk HK.out.2.1.n).c4
      have fy4:=(NodeAt.mk HK.out.2.1.n).f 4
      have HSS:∀w':World,Fr (c.R::obL v) w2 w'→(w'.cell? ⟨p,4,none⟩=some v∧w'.frozen? ⟨p,4,none⟩=false):=fun w' F=>by
       have e3:=F.block p (zAd HK.out.2.1.n) (fun hm=>by
        rcases List.mem_cons.1 hm with e | hm
        ·have:=HK.out.2.1.hp;omega
        ·exact zBe HK.out.2.1.r HK.out.2.1.n hm)
       exact⟨(World.cell?_of_block (a:=⟨p,4,none⟩) e3).trans y4,(World.frozen?_of_block (a:=⟨p,4,none⟩) e3).trans fy4⟩
      have HR:∀w1:World,Fr [] w2 w1→Calls Tryz.prog 108 #[.pointer (some ⟨c.R,0,none⟩)] w1 fun e wz=>∃o a,encP o=.pointer a∧e=.returned (.pointer a)∧Fr [c.R] w2 wz∧Itm c (elemM c.ts E) (j+1) w2 wz o:=fun w1 F1=>by
       refine(HE.out w1 (j+1) (HX.out.up F1) HOUT.out).mono ?_
       rintro e wz ⟨o,rfl,F,hres⟩
       obtain⟨a,ha⟩:=zAx o
       refine⟨o,a,ha,by rw [ha],F1.up0.on F,?_⟩
       rcases hres with⟨d,j,u,h1,h2,h3,h4,h5⟩ | h
       ·exact .inl ⟨d,j,u,h1,h2,h3,zAt h4 F1.size,h5⟩
       ·exact .inr h
      have F0:Fr [] w2 w2.drew:=Fr.drew w2
      have hto:∀{w'},Fr [c.R] w2 w'→Fr (c.R::obL v) w2 w':=fun h=>h.mono (by simp)
      obtain⟨n,hn⟩:∃n,(pre++us).length=n:=⟨_,rfl⟩
      have HNN:=oH hn
      have hnb:n≤32768:=by rw [← hn];exact HLN.out
      obtain⟨xs,hxs⟩:∃xs,((pre++us).map Tr.p).map ptrV=xs:=⟨_,rfl⟩
      have HXS:=oH hxs
      have hrow:∀w',Fr [c.R] w2 w'→w'.ownsRow 0 26 1 v n xs:=fun w' F=>by
       have h1:=zAf HK.out.2.1.r.1 F (fun j hj hm=>by
        have h2:=(HK.out.2.1.r.base j hj).1
        have h3:j=c.R:=by simpa using hm
        omega)
       rw [List.length_map,hn,hxs] at h1
       exact h1
      clear hRC hn hxs
      go_wp2_with fail
      go_region_law (first
        | (refine step_append_lies _ (by rfl) _ _ _ (by rfl) 0 26 i0 _ 1 8 Tryz.underlying38 hi hz0 hz1 hz2 rfl (by omega) v n _ (by rfl) ((hrow _ F9).alloc _) ⟨w9.heap.size,0,none⟩ 1 1 [.pointer a] (by rfl) (by rfl) (new1 w9 (.pointer a) 26) (fun u hu=>(by simp at hu;subst hu;rfl)) (by omega) (by unfold maxLen;omega) (by omega) (by simp <;> omega) (w9.heap.size+1) (by simp) ?_;intro gl capl w6 hown hgrow hat hlt6;obtain⟨s1,s2⟩:=HSS w6 ((hto (F9.trans (Fr.alloc _ _) (by simp))).trans (Fr.of_grown hgrow) (fun q hq=>.inl (List.mem_cons_of_mem _ hq))))
        | (go_simp;go_at_call 108;refine(HR _ F0).mono ?_;rintro e w9 ⟨o,a,ha,rfl,F9,hres⟩;obtain⟨t1,t2⟩:=HSS w9 (hto F9);obtain⟨a1,a2⟩:=HSS (w9.alloc (.cells #[.pointer a] 26)) (hto (F9.trans (Fr.alloc _ _) (by simp)))))
      all_goals
       have hst:=zFk (c:=c) (I:=elemM c.ts E) HMO.out (C:=C) (w0:=w) (wr:=w2) (w9:=w9) (w6:=w6) (d:=d) (p:=p) (pre:=pre) (v:=v) (i:=(j+1)) (g:=gl) (cap:=capl) (o:=o) (RESL:=RESL) ha HCC.out.1 HCC.out.2.1 HCC.out.2.2 HK.out.1 HK.out.2.1 HK.out.2.2.1 HK.out.2.2.2.1 HK.out.2.2.2.2 F9 hres (by rw [HNN.out,HXS.out];exact hown) hgrow hat
       rw [HNN.out] at hst
       have HST:=oH hst
       have HME:Hid (rfM c.R (w6.setCell ⟨p,4,none⟩ (.slice (some ⟨gl,0,none⟩) (n+1) capl)) < rfM c.R wr):=oH (zIh HMO.out HX0.out hres (zHe hgrow _) (fun j hj=>by
        have h1:=HCC.out.1
        have h2:=HCC.out.2.1
        have h3:=HCC.out.2.2
        rcases List.mem_cons.1 hj with rfl | hj
        ·omega
        ·have:=HK.out.2.2.1 j hj;omega))
       clear hst ha F9 hres hown hgrow hat hlt6 HR HSS hrow F0 t1 t2 s1 s2 a1 a2 y4 fy4 hto
       go_wp2_with fail
       go_roundw
       case rel=>exact HST.out
       case measure=>exact HME.out
    ·have HS:=zAu c wr j true [44] X rfl
     have H:=oH (oA F (oA hr X))
     clear F X hr
     simp only [pt] at HS
     go_wp2_with fail
     refine HS.mono ?_
     rintro e w2 ⟨rfl,F2⟩
     have H2:=oH F2
     clear F2 HS
     go_wp2_with fail
     have HQ:=zBq c w2 j true [125] (H.out.2.2.up H2.out) rfl
     simp only [pt] at HQ
     go_wp2_with fail
     refine HQ.mono ?_
     rintro e w5 ⟨rfl,F5,X5⟩
     have H5:=oH (oA F5 X5)
     clear F5 X5 HQ
     go_wp2_with fail
     go_ret
     exact Tl.mk_bad (o:=some p) (j:=j) rfl (by rw [HW.out.1,H.out.2.1];rfl) ((H.out.1.on0 H2.out).on H5.out.1) H5.out.2
 ·have HS:=zBo c w2 (i+1) [125] X2 hq
  have hw:WL=.ok [] (i+2):=by
   rw [← HT.out.2.2.1,zGl,if_pos hq]
  have H2:=oH (oA F02 hw)
  clear F02 F2 X2 hw hq
  simp only [pt] at HS
  go_wp2_with fail
  refine HS.mono ?_
  rintro e w3 ⟨rfl,F3,X3⟩
  have H3:=oH (oA F3 X3)
  clear F3 X3 HS
  go_wp2_with fail
  go_ret
  refine Tl.mk_ok (u:=.node p d pre) (d:=.node d [u.dt]) (j:=i+2) (by rw [H2.out.2];rfl) (H2.out.1.on H3.out.1) H3.out.2 (HK1.out.fr H3.out.1 (by simp;exact HCC.out.1)).tree ?_
  rw [← HD.out];rfl
end Go.Proofs.YtepfknfadpkigaaGreat
namespace Go.Proofs.YtepfknfadpkigaaGreat
open Go.RowKit
set_option maxHeartbeats 4000000
set_option maxRecDepth 100000
def ALp (c:Rc) (E:Nat→Re) (w0:World) (RESL:ReL) (v:Value) (wr:World):Prop:=Fr [c.R] w0 wr∧∃n xs,wr.ownsRow 0 26 1 v n xs∧0 < n∧(∀u ∈ xs,u.oneCell'=true)∧(∀q ∈ obL v,w0.heap.size≤q)∧n≤20000 ∧
 ((∃m us j,nxtM c.ts E m (dtL us) j=RESL∧RF c wr j false∧xs=(us.map Tr.p).map ptrV∧n=us.length∧IsTL wr (fun q=>w0.heap.size≤q∧q ∉ obL v) us∧us.length≤j)∨∃j,RESL=.bad j∧RF c wr j true)
theorem zMa {c:Rc} {E:Nat→Re} (hM:Mono E) {w0 wr w9 w6:World} {us:List Tr} {v:Value} {m i g cap:Nat} {o:Option Nat} {RESL:ReL} {cc:Obj} {a:Option Addr} (ha:encP o=.pointer a)
  (hR:c.R < w0.heap.size) (F:Fr [c.R] w0 wr) (hT:IsTL wr (fun q=>w0.heap.size≤q∧q ∉ obL v) us) (hv:∀q ∈ obL v,w0.heap.size≤q∧q < wr.heap.size) (hus:us.length≤i) (hi:i≤16384)
  (hun:lstM c.ts E (m+1) (dtL us) i=RESL) (F9:Fr [c.R] wr w9) (hres:Itm c E i wr w9 o)
  (hown:w6.ownsRow 0 26 1 (.slice (some ⟨g,0,none⟩) (us.length+1) cap) (us.length+1) ((us.map Tr.p).map ptrV++[.pointer a])) (hgrow:(w9.alloc cc).grownBy w6 v.ownBlock) (hat:v.ownBlock=some g∨g=w9.heap.size+1) :
  ALp c E w0 RESL (.slice (some ⟨g,0,none⟩) (us.length+1) cap) w6:=by
 have s1:=F.size
 have s2:=F9.size
 have FA:Fr (obL v) w9 w6:=((Fr.alloc w9 cc).mono (by simp)).trans (Fr.of_grown hgrow) (fun j hj=>.inl hj)
 have hfarR:∀j ∈ obL v,c.R < j:=fun j hj=>by have:=(hv j hj).1;omega
 refine⟨(F.on F9).trans FA (fun j hj=>.inr (hv j hj).1),us.length+1,_,hown,by omega,fun u hu=>?_,fun q hq=>?_,by omega,?_⟩
 ·rcases List.mem_append.1 hu with hu | hu
  ·obtain⟨p,_,rfl⟩:=List.mem_map.1 hu
   rfl
  ·obtain rfl:u=.pointer a:=by simpa using hu
   rfl
 ·have e:q=g:=by simpa [obL,Value.ownBlock] using hq
  subst e
  rcases hat with h1 | h1
  ·exact(hv q ((zBc v q).2 h1)).1
  ·omega
 rw [zFa] at hun
 rcases hres with⟨d',j,u,hI,rfl,X,hu,hd⟩ | ⟨j,hI,X⟩
 ·left
  rw [hI] at hun
  have hj:=hM _ _ _ hI
  have hpt:Value.pointer a=ptrV u.p:=ha.symm
  refine⟨m,us++[u],j,?_,X.stay FA hfarR,by rw [hpt];simp,by simp,?_,by simp;omega⟩
  ·rw [zDp]
   simp only [dtL,hd]
   exact hun
  ·have hg:g ∈ obL v∨w9.heap.size≤g:=by
    rcases hat with h1 | h1
    ·exact .inl ((zBc v g).2 h1)
    ·exact .inr (by omega)
   have hob:∀j,j ∈ obL (.slice (some ⟨g,0,none⟩) (us.length+1) cap)→j=g:=fun j hj=>by simpa [obL,Value.ownBlock] using hj
   refine IsTL.of fun t ht=>?_
   rcases List.mem_append.1 ht with ht | ht
   ·have q1:∀j,(w0.heap.size≤j∧j ∉ obL v)→j < wr.heap.size→(w0.heap.size≤j∧j ∉ obL (.slice (some ⟨g,0,none⟩) (us.length+1) cap)):=fun j hj hl=>⟨hj.1,fun hm=>by
     have e:=hob j hm
     subst e
     rcases hg with h1 | h1
     ·exact hj.2 h1
     ·omega⟩
    have q2:∀j,(w0.heap.size≤j∧j ∉ obL v)→j < wr.heap.size→w6.heap[j]?=wr.heap[j]?:=fun j hj hl=>(FA.block j (by omega) hj.2).trans (F9.block j hl (by simp;omega))
    exact(hT.at t ht).keep q1 q2
   ·obtain rfl:t=u:=by simpa using ht
    have q1:∀j,wr.heap.size≤j→j < w9.heap.size→(w0.heap.size≤j∧j ∉ obL (.slice (some ⟨g,0,none⟩) (us.length+1) cap)):=fun j hj hl=>⟨by omega,fun hm=>by
     have e:=hob j hm
     subst e
     rcases hg with h1 | h1
     ·have:=(hv j h1).2;omega
     ·omega⟩
    have q2:∀j,wr.heap.size≤j→j < w9.heap.size→w6.heap[j]?=w9.heap[j]?:=fun j hj hl=>FA.block j hl (fun hm=>by have:=(hv j hm).2;omega)
    exact hu.keep q1 q2
 ·right
  rw [hI] at hun
  exact⟨j,hun.symm,X.stay FA hfarR⟩
def ArA (c:Rc) (w:World) (res:ReL) (v:Value) (w':World):Prop:=∃g m cap news,v=.slice (some ⟨g,0,none⟩) m cap∧0 < m∧m≤20000∧news.length=m∧(∀j u,news[j]?=some u→w'.cell? ((⟨g,0,none⟩:Addr).add j)=some u)∧(∀u ∈ news,u.oneCell'=true) ∧
 ((∃l j us,res=.ok l j∧RF c w' j false∧news=(us.map Tr.p).map ptrV∧IsTL w' (w.heap.size≤·) us∧dtL us=l)∨∃j,res=.bad j∧RF c w' j true)
theorem zIi {w:World} {v:Value} {n:Nat} {xs:List Value} (h:w.ownsRow 0 26 1 v n xs) (hn:0 < n):∃g cap,v=.slice (some ⟨g,0,none⟩) n cap∧xs.length=n∧∀j u,xs[j]?=some u→w.cell? ((⟨g,0,none⟩:Addr).add j)=some u:=by
 have hh:=h
 obtain⟨h1,h2⟩:=h
 rcases h2 with⟨_,h3⟩ | ⟨g,cap,cur,e1,e2,e3,e4,e5,e6,e7⟩
 ·omega
 ·exact⟨g,cap,e1,by omega,fun j u hu=>World.ownsRow.cells hh (g:=g) (by rw [e1];rfl) j u hu⟩
theorem qAo {c:Rc} {w0 wr w':World} {v:Value} {n:Nat} {xs:List Value} {us:List Tr} {j:Nat} (hR:c.R < w0.heap.size) (hown:wr.ownsRow 0 26 1 v n xs) (hn:0 < n) (hone:∀u ∈ xs,u.oneCell'=true) (hfar:∀q ∈ obL v,w0.heap.size≤q) (hnb:n≤20000)
  (hxs:xs=(us.map Tr.p).map ptrV) (hT:IsTL wr (fun q=>w0.heap.size≤q∧q ∉ obL v) us) (F:Fr [c.R] wr w') (X:RF c w' j false):ArA c w0 (.ok (dtL us) j) v w':=by
 have hown':=zAf hown F (fun q hq hm=>by have:=hfar q hq;simp at hm;omega)
 obtain⟨g,cap,rfl,hl,hc⟩:=zIi hown' hn
 exact⟨g,n,cap,xs,rfl,hn,hnb,hl,hc,hone,.inl ⟨_,j,us,rfl,X,hxs,hT.keep (fun q hq _=>hq.1) (fun q hq hl=>F.block q hl (by simp;omega)),rfl⟩⟩
theorem zQc {c:Rc} {w0 wr w':World} {v:Value} {n:Nat} {xs:List Value} {j:Nat} (hR:c.R < w0.heap.size) (hown:wr.ownsRow 0 26 1 v n xs) (hn:0 < n) (hone:∀u ∈ xs,u.oneCell'=true) (hfar:∀q ∈ obL v,w0.heap.size≤q) (hnb:n≤20000)
  (F:Fr [c.R] wr w') (X:RF c w' j true):ArA c w0 (.bad j) v w':=by
 have hown':=zAf hown F (fun q hq hm=>by have:=hfar q hq;simp at hm;omega)
 obtain⟨g,cap,rfl,hl,hc⟩:=zIi hown' hn
 exact⟨g,n,cap,xs,rfl,hn,hnb,hl,hc,hone,.inr ⟨j,rfl,X⟩⟩
theorem zHg (c:Rc) (E:Nat→Re) (hM:Mono E) (hE:CG c 65 E) (w:World) (i:Nat) (h:RF c w i false) (hb:isS (tk c.ts i) [40]=true) (hq:isS (tk c.ts (i+1)) [41]=false) (hne:withM c.ts [41] E i≠.out) :
  Calls Tryz.prog 71 #[.pointer (some ⟨c.R,0,none⟩)] w fun e w'=>∃v,e=.returned v∧Fr [c.R] w w'∧ArA c w (withM c.ts [41] E i) v w':=by
 obtain⟨i0,hi,hz0,hz1,hz2⟩:=info_parts infoP
 obtain⟨RESL,hRESL⟩:∃RESL,lstM c.ts E (c.ts.length+1) [] (i+1)=RESL:=⟨_,rfl⟩
 have hw:withM c.ts [41] E i=clM c.ts [41] RESL:=by
  rw [zGl,hRESL,if_neg (by rw [hq];simp)]
 rw [hw] at hne ⊢
 have HMO:=oH hM
 have HE:=oH hE
 have HS:=zCe c w i [40] h hb
 have HR0:=oH h.lt
 have HNE:Hid (RESL≠.out):=oH (fun e=>hne (by rw [e];rfl))
 have HOUT:Hid (E (i+1)≠.out):=oH (fun e=>HNE.out (by rw [← hRESL,zFa,e]))
 have HW:=oH hRESL
 have HQ0:=oH hq
 clear h hne hE hb hw hM hRESL hq
 simp only [pt] at HS
 go_enter Tryz.func71,Tryz.ntmps71
 go_wp2_with fail
 refine HS.mono ?_
 rintro e w2 ⟨rfl,F2,X2⟩
 have HS:=zAu c w2 (i+1) false [41] X2 (by rw [HQ0.out];rfl)
 have H2:=oH (oA F2 X2)
 clear F2 X2 HQ0
 simp only [pt] at HS
 go_wp2_with fail
 refine HS.mono ?_
 rintro e w3 ⟨rfl,F3⟩
 have HX:=oH (H2.out.2.up F3)
 have F03:=H2.out.1.on0 F3
 have HF03:=oH F03
 clear F3 HS H2 F03
 have HC:Calls Tryz.prog 65 #[.pointer (some ⟨c.R,0,none⟩)] w3 fun e wz=>∃o a,encP o=.pointer a∧e=.returned (.pointer a)∧Fr [c.R] w3 wz∧Itm c E (i+1) w3 wz o:=by
  refine(HE.out w3 (i+1) HX.out HOUT.out).mono ?_
  rintro e wz ⟨o,rfl,F,hres⟩
  obtain⟨a,ha⟩:=zAx o
  exact⟨o,a,ha,by rw [ha],F,hres⟩
 go_wp2_with fail
 refine HC.mono ?_
 rintro e w9 ⟨o,a,ha,rfl,F9,hres⟩
 obtain⟨xs,hxs⟩:∃xs:List Value,[]=xs:=⟨_,rfl⟩
 have hsr:(w9.alloc (.cells #[.pointer a] 26)).ownsRow 0 26 1 (.slice none 0 0) 0 xs:=by rw [← hxs];exact World.ownsRow_nil _ _ _ _
 have H9:=oH (oA ha (oA F9 (oA hres hxs)))
 clear ha F9 hres HC hxs
 go_wp2_with (at_builtin;refine wpList_append_lies _ rfl _ _ 38 rfl 0 26 i0 _ 1 8 Tryz.underlying38 hi hz0 hz1 hz2 rfl (by decide) (.slice none 0 0) 0 xs rfl hsr ⟨w9.heap.size,0,none⟩ 1 1 [.pointer a] rfl rfl (new1 w9 (.pointer a) 26) (fun u hu=>(by simp at hu;subst hu;rfl)) (by decide) (by unfold maxLen;omega) (by omega) (by simp <;> omega) (w9.heap.size+1) (by simp) ?_)
 intro gl capl w6 hown hgrow hat hlt6
 have hst:=zMa (c:=c) (E:=E) HMO.out (w0:=w) (wr:=w3) (w9:=w9) (w6:=w6) (us:=[]) (v:=.slice none 0 0) (i:=i+1) (g:=gl) (cap:=capl) (RESL:=RESL) H9.out.1 HR0.out HF03.out trivial (by simp [obL,Value.ownBlock]) (Nat.zero_le _) HX.out.le HW.out H9.out.2.1 H9.out.2.2.1 (by have:=H9.out.2.2.2;subst this;exact hown) hgrow hat
 have HST:=oH hst
 clear hst hown hgrow hat hlt6 hsr H9 HX HF03 HW HOUT
 simp only [List.length_nil,Nat.zero_add] at HST
 go_wp2_with fail
 go_loopw [3] (fun v wr=>ALp c E w RESL v wr) (fun _ wr=>rfM c.R wr)
 case atStart=>exact HST.out
 case round =>
  clear HST
  obtain⟨F,n,xs,hown,hn,hone,hfar,hnb,⟨m,us,j,hun,X,hxs,hnl,hT,hus⟩ | ⟨j,hr,X⟩⟩:=hrel
  ·have HO:=oH (oA F (oA hown (oA hn (oA hone (oA hfar (oA hnb (oA hxs hT)))))))
   cases hp:isS (tk c.ts j) [44]
   ·have HS:=zAu c wr j false [44] X (by rw [hp];rfl)
    have hfin:RESL=.ok (dtL us) j:=by rw [← hun];unfold nxtM;rw [hp];rfl
    have HX:=oH X
    have HF:=oH hfin
    clear F hown hn hone hfar hnb hun X hxs hnl hT hus hp hfin
    simp only [pt] at HS
    go_wp2_with fail
    refine HS.mono ?_
    rintro e w2 ⟨rfl,F2⟩
    have H2:=oH F2
    clear F2 HS
    cases hq:isS (tk c.ts j) [41]
    ·have HQ:=zBq c w2 j false [41] (HX.out.up H2.out) (by rw [hq];rfl)
     have HC:=oH hq
     clear hq
     simp only [pt] at HQ
     go_wp2_with fail
     refine HQ.mono ?_
     rintro e w5 ⟨rfl,F5,X5⟩
     have H5:=oH (oA (H2.out.up0.on F5) X5)
     clear F5 X5 HQ
     go_wp2_with fail
     go_ret
     obtain⟨F,hown,hn,hone,hfar,hnb,hxs,hT⟩:=HO.out
     refine⟨_,rfl,F.on H5.out.1,?_⟩
     rw [HF.out,qAn HC.out]
     exact zQc HR0.out hown hn hone hfar hnb H5.out.1 H5.out.2
    ·have HQ:=zCe c w2 j [41] (HX.out.up H2.out) hq
     have HC:=oH hq
     clear hq
     simp only [pt] at HQ
     go_wp2_with fail
     refine HQ.mono ?_
     rintro e w5 ⟨rfl,F5,X5⟩
     have H5:=oH (oA (H2.out.up0.on F5) X5)
     clear F5 X5 HQ
     go_wp2_with fail
     go_ret
     obtain⟨F,hown,hn,hone,hfar,hnb,hxs,hT⟩:=HO.out
     refine⟨_,rfl,F.on H5.out.1,?_⟩
     rw [HF.out,zUf HC.out]
     exact qAo HR0.out hown hn hone hfar hnb hxs hT H5.out.1 H5.out.2
   ·have HS:=zBo c wr j [44] X hp
    have hun2:RESL=lstM c.ts E m (dtL us) (j+1):=by rw [← hun];unfold nxtM;rw [if_pos hp]
    obtain⟨m,rfl⟩:∃m',m=m'+1:=by
     cases m with
     | zero=>exact absurd hun2 HNE.out
     | succ m=>exact⟨m,rfl⟩
    have HOUT:Hid (E (j+1)≠.out):=oH (fun e=>HNE.out (by rw [hun2,zFa,e]))
    have HX0:=oH X
    have HUN:=oH (oA hun2.symm (oA hus hnl))
    have hvlt:Hid (∀q ∈ obL u3,w.heap.size≤q∧q < wr.heap.size):=oH (fun q hq=>⟨hfar q hq,(hown.lt q ((zBc u3 q).1 hq)).2⟩)
    clear F hown hone hfar hun X hxs hnl hT hus hp hun2
    simp only [pt] at HS
    go_wp2_with fail
    refine HS.mono ?_
    rintro e w2 ⟨rfl,F2,X2⟩
    have HX:=oH X2
    have HF2:=oH F2
    clear F2 X2 HS
    have HC:Calls Tryz.prog 65 #[.pointer (some ⟨c.R,0,none⟩)] w2 fun e wz=>∃o a,encP o=.pointer a∧e=.returned (.pointer a)∧Fr [c.R] w2 wz∧Itm c E (j+1) w2 wz o:=by
     refine(HE.out w2 (j+1) HX.out HOUT.out).mono ?_
     rintro e wz ⟨o,rfl,F,hres⟩
     obtain⟨a,ha⟩:=zAx o
     exact⟨o,a,ha,by rw [ha],F,hres⟩
    go_wp2_with fail
    refine HC.mono ?_
    rintro e w9 ⟨o,a,ha,rfl,F9,hres⟩
    have hsr:(w9.alloc (.cells #[.pointer a] 26)).ownsRow 0 26 1 u3 n xs:=(zAf HO.out.2.1 (HF2.out.on F9) (fun q hq hm=>by have h1:=(hvlt.out q hq).1;have h2:=HR0.out;simp at hm;omega)).alloc _
    have H9:=oH (oA ha (oA F9 hres))
    clear ha F9 hres HC
    go_wp2_with (at_builtin;refine wpList_append_lies _ rfl _ _ 38 rfl 0 26 i0 _ 1 8 Tryz.underlying38 hi hz0 hz1 hz2 rfl (by decide) u3 n xs rfl hsr ⟨w9.heap.size,0,none⟩ 1 1 [.pointer a] rfl rfl (new1 w9 (.pointer a) 26) (fun u hu=>(by simp at hu;subst hu;rfl)) (by decide) (by unfold maxLen;omega) (by omega) (by simp <;> omega) (w9.heap.size+1) (by simp) ?_)
    intro gl capl w6 hown hgrow hat hlt6
    have hst:=zMa (c:=c) (E:=E) HMO.out (w0:=w) (wr:=w2) (w9:=w9) (w6:=w6) (us:=us) (v:=u3) (i:=j+1) (g:=gl) (cap:=capl) (RESL:=RESL) H9.out.1 HR0.out (HO.out.1.on HF2.out) (HO.out.2.2.2.2.2.2.2.keep (fun _ h _=>h) (fun q hq hl=>HF2.out.block q hl (by have:=HR0.out;simp;omega))) (fun q hq=>⟨(hvlt.out q hq).1,Nat.lt_of_lt_of_le (hvlt.out q hq).2 HF2.out.size⟩) (Nat.le_succ_of_le HUN.out.2.1) HX.out.le HUN.out.1 H9.out.2.1 H9.out.2.2 (by rw [← HUN.out.2.2,← HO.out.2.2.2.2.2.2.1];exact hown) hgrow hat
    have HME:Hid (rfM c.R w6 < rfM c.R wr):=oH (zIh HMO.out HX0.out H9.out.2.2 (((Fr.alloc w9 (.cells #[.pointer a] 26)).mono (by simp)).trans (Fr.of_grown hgrow) (fun j hj=>.inl hj):Fr (obL u3) w9 w6) (fun q hq=>by have h1:=(hvlt.out q hq).1;have h2:=HR0.out;omega))
    rw [← HUN.out.2.2] at hst
    have HST:=oH hst
    clear hst hown hgrow hat hlt6 hsr H9 HX HF2
    go_wp2_with fail
    go_roundw
    case rel=>exact HST.out
    case measure=>exact HME.out
  ·have HS:=zAu c wr j true [44] X rfl
   have HQH:=oH (fun w F2=>zBq c w j true [41] (X.up (w':=w) F2) rfl)
   have HO:=oH (oA F (oA hown (oA hn (oA hone (oA hfar (oA hnb hr))))))
   clear F hown hn hone hfar hnb X hr
   simp only [pt] at HS HQH
   go_wp2_with fail
   refine HS.mono ?_
   rintro e w2 ⟨rfl,F2⟩
   have HQ:=HQH.out w2 F2
   have H2:=oH F2
   clear F2 HS HQH
   go_wp2_with fail
   refine HQ.mono ?_
   rintro e w5 ⟨rfl,F5,X5⟩
   have H5:=oH (oA (H2.out.up0.on F5) X5)
   clear F5 X5 HQ
   go_wp2_with fail
   go_ret
   obtain⟨F,hown,hn,hone,hfar,hnb,hr⟩:=HO.out
   refine⟨_,rfl,F.on H5.out.1,?_⟩
   rw [hr]
   exact zQc HR0.out hown hn hone hfar hnb H5.out.1 H5.out.2
theorem zHh (c:Rc) (w:World) (i:Nat) (h:RF c w i false) (hb:isS (tk c.ts i) [40]=true) (hq:isS (tk c.ts (i+1)) [41]=true) :
  Calls Tryz.prog 71 #[.pointer (some ⟨c.R,0,none⟩)] w fun e w'=>e=.returned (.slice none 0 0)∧Fr [c.R] w w'∧RF c w' (i+2) false:=by
 have HS:=zCe c w i [40] h hb
 have HQ0:=oH hq
 clear h hb hq
 simp only [pt] at HS
 go_enter Tryz.func71,Tryz.ntmps71
 go_wp2_with fail
 refine HS.mono ?_
 rintro e w2 ⟨rfl,F2,X2⟩
 have HS:=zBo c w2 (i+1) [41] X2 HQ0.out
 have H2:=oH F2
 clear F2 X2
 simp only [pt] at HS
 go_wp2_with fail
 refine HS.mono ?_
 rintro e w3 ⟨rfl,F3,X3⟩
 have H3:=oH (oA F3 X3)
 clear F3 X3 HS
 go_wp2_with fail
 go_ret
 exact⟨rfl,H2.out.on H3.out.1,H3.out.2⟩
end Go.Proofs.YtepfknfadpkigaaGreat
end
