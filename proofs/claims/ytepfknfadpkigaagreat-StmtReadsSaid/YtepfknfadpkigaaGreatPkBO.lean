/- Several texts in one. -/
import Derived.Test.YtepfknfadpkigaaGreatPkAA
import Derived.Test.YtepfknfadpkigaaGreatPkBM
import Derived.Test.YtepfknfadpkigaaGreatPkBN
set_option linter.unusedVariables false
set_option linter.unusedSimpArgs false
section
namespace Go.Proofs.YtepfknfadpkigaaGreat
open Go.RowKit
set_option maxHeartbeats 4000000
set_option maxRecDepth 100000
theorem Tl.from {c:Rc} {w w1:World} {res:Re} {e:Ending} {w':World} (F:Fr [] w w1) (h:Tl c w1.heap.size w1 res e w'):Tl c w.heap.size w res e w':=by
 obtain⟨o,h1,h2,h3⟩:=h.low F.size
 exact⟨o,h1,F.up0.on h2,h3⟩
structure BdI (c:Rc) (I:Nat→Option Re):Prop where
 no:∀j,pickN (tk c.ts j)=10→I j=none
 yes:∀j,pickN (tk c.ts j)≠10→∃r,I j=some r
 up:∀j d k,I j=some (.ok d k)→j < k
 run:∀w j r,RF c w j false→I j=some r→r≠.out→Calls Tryz.prog 35 #[.pointer (some ⟨c.R,0,none⟩)] w (Tl c w.heap.size w r)
theorem bdI (c:Rc) (hS:Scd c.ts) (n:Nat) (hB:CF c 18 (bodyM c.ts n)):BdI c (stmM c.ts (bodyM c.ts n)):=by
 have hBm:∀i d j,i≤c.ts.length→bodyM c.ts n i=.ok d j→i≤j∧j≤c.ts.length:=fun i d j hi h=>(zGj (zCu 0 c.ts) n n i hi).bd.1 d j h
 exact⟨fun j h=>zMj h,fun j h=>zSw h,fun j d k h=>zLs c.ts n j d k h,fun w j r h hr hne=>zXs c hS _ hB hBm (zSy c hS _ hB hBm) w j h r hr hne⟩
theorem zNk (c:Rc) (hS:Scd c.ts) (nn:Nat) (hB:CF c 18 (bodyM c.ts nn)):CG c 18 (bodyM c.ts (nn+1)):=by
 have HI:=oH (bdI c hS nn hB)
 intro w i h hne
 have hne:((partM c.ts [59] (stmM c.ts (bodyM c.ts nn)) (c.ts.length+1) [] i).re fun l=>.node (nd 46 (tk c.ts i) [] 0) l)≠.out:=hne
 show Calls Tryz.prog 18 #[.pointer (some ⟨c.R,0,none⟩)] w (Tl c w.heap.size w ((partM c.ts [59] (stmM c.ts (bodyM c.ts nn)) (c.ts.length+1) [] i).re fun l=>.node (nd 46 (tk c.ts i) [] 0) l))
 obtain⟨I,hI⟩:∃I,stmM c.ts (bodyM c.ts nn)=I:=⟨_,rfl⟩
 rw [hI] at hne HI ⊢
 obtain⟨RES,hRES⟩:∃r,partM c.ts [59] I (c.ts.length+1) [] i=r:=⟨_,rfl⟩
 rw [hRES] at hne ⊢
 have HQ:Hid (RES=partM c.ts [59] I (c.ts.length+1) [] i∧RES≠.out∧True):=oH ⟨hRES.symm,zEm hne,trivial⟩
 clear hne hRES hI hB hS
 obtain⟨i0,hi,hz0,hz1,hz2⟩:=info_parts infoP
 obtain⟨px,py,e1⟩:=zAc (tk c.ts i).2.1.1 (tk c.ts i).2.1.2
 obtain⟨ex,ey,e2⟩:=zAc (tk c.ts i).2.2.1 (tk c.ts i).2.2.2
 have hfd:=zBb
 have HN:=zAo c w i false h px py ex ey e1 e2
 have HX0:=oH (oA h e1)
 clear h e1 e2
 generalize ((tk c.ts i).1.k:Int)=t0 at *
 generalize (⟨(tk c.ts i).1.x.toArray⟩:ByteArray)=t3 at *
 generalize (tk c.ts i).1.n=t4 at *
 go_enter Tryz.func18,Tryz.ntmps18
 go_wp2_with fail
 refine HN.mono ?_
 rintro e w1 ⟨rfl,F0⟩
 have HF:=oH F0
 have HX:=oH (oA (HX0.out.1.keep F0) HX0.out.2)
 have HCR:Hid (c.R < w1.heap.size):=oH HX.out.1.lt
 clear F0 HN HX0
 have HDN:=dnode w1 46 46 rfl (tk c.ts i) px py HX.out.2
 go_wp2_with fail
 refine HDN.mono ?_
 rintro e wn2 ⟨rfl,hwn⟩
 have HQ0:Hid (SN c w1 (nd 46 (tk c.ts i) [] 0) w1.heap.size (.ok [] i) 0 wn2 (.slice none 0 0) 0 []):=oH (by rw [hwn];exact SN.new _ HX.out.1)
 clear hwn HDN
 obtain⟨p,hp2⟩:∃p,w1.heap.size=p:=⟨_,rfl⟩
 try rw [hp2]
 have HQ0':Hid (∃v n xs,v=Value.slice none 0 0∧SN c w1 (nd 46 (tk c.ts i) [] 0) p (.ok [] i) 0 wn2 v n xs):=oH ⟨_,_,_,rfl,by rw [← hp2];exact HQ0.out⟩
 have HP:=oH hp2
 clear HQ0 hp2
 obtain⟨v0,n0,xs0,hv0,hs0⟩:=HQ0'.out
 have HA0:=oH hs0
 clear HQ0' hs0 hv0
 have HL:Hid (∃r N v n xs m,SN c w1 (nd 46 (tk c.ts i) [] 0) p r N wn2 v n xs∧N≤16386∧(∀l j,r=.ok l j→N≤j)∧RES=r.bnd (partM c.ts [59] I m)):=oH ⟨_,0,_,_,_,c.ts.length+1,HA0.out,by omega,fun l j hr=>by omega,HQ.out.1⟩
 clear HA0 v0 n0 xs0
 go_wp2_with fail
 go_loopw [] (fun wr=>∃r N v n xs m,SN c w1 (nd 46 (tk c.ts i) [] 0) p r N wr v n xs∧N≤16386∧(∀l j,r=.ok l j→N≤j)∧RES=r.bnd (partM c.ts [59] I m)) (fun wr=>rfM c.R wr)
 case atStart=>exact HL.out
 case round =>
  clear HL
  obtain⟨r,N,v0,n0,xs0,m,hsn,hN,hNj,hres⟩:=hrel
  have HS:=oH hsn
  have HNN:=oH (oA hN (oA hNj hres))
  clear hN hNj hres
  rcases hsn.two with⟨l,j,hr,X⟩ | ⟨j,hr,X⟩
  ·have HRR:=oH (oA hr X)
   have c2:=X.c2
   clear hr X hsn
   by_cases hp:pickN (tk c.ts j)=10
   ·have hde:decide (pickN (tk c.ts j)≠10)=false:=decide_eq_false (fun h=>h hp)
    have HB:=zMk c wr j HRR.out.2
    rw [hde] at HB
    go_wp2_with fail
    refine HB.mono ?_
    rintro e wb ⟨rfl,FB⟩
    have HFB:=oH FB
    clear FB HB c2
    clear hde
    cases hs:isS (tk c.ts j) [59]
    ·obtain⟨m,rfl⟩:∃m',m=m'+1:=by
      cases m with
      | succ m=>exact⟨m,rfl⟩
      | zero =>
       refine absurd ?_ HQ.out.2.1
       rw [HNN.out.2.2,HRR.out.1]
       rfl
     have HK:=zAu c wb j false [59] (HRR.out.2.keep HFB.out) (by rw [hs];rfl)
     have HFIN:Hid (RES=.ok l j):=oH (by rw [HNN.out.2.2,HRR.out.1];exact zQu hs (HI.out.no j hp) m)
     simp only [pt] at HK
     clear hs hp
     go_wp2_with fail
     refine HK.mono ?_
     rintro e wc ⟨rfl,F2⟩
     have HSF:=oH (((HS.out.same HRR.out.1).keep HCR.out HFB.out).keep HCR.out F2)
     clear F2 HK HS HRR HFB HNN HX
     go_wp2_with fail
     go_ret
     exact Tl.from HF.out (HSF.out.tl (by rw [HFIN.out]))
    ·have HK:=zBo c wb j [59] (HRR.out.2.keep HFB.out) hs
     simp only [pt] at HK
     have HLT:=zAm hs
     have HCS:=oH (zGo (I:=I) (acc:=l) hs m)
     clear hs hp
     go_wp2_with fail
     refine HK.mono ?_
     rintro e wl ⟨rfl,F2,X2⟩
     have hNb:=HNN.out.2.1 l j HRR.out.1
     have HREL:Hid (∃r N v n xs m,SN c w1 (nd 46 (tk c.ts i) [] 0) p r N wl v n xs∧N≤16386∧(∀l j,r=.ok l j→N≤j)∧RES=r.bnd (partM c.ts [59] I m)):=oH ⟨_,N,v0,n0,xs0,m,((HS.out.same HRR.out.1).keep HCR.out HFB.out).to HCR.out F2 X2,HNN.out.1,fun l' k e=>by injection e with _ e;omega,by rw [HNN.out.2.2,HRR.out.1];exact HCS.out⟩
     have HME:Hid (rfM c.R wl < rfM c.R wr):=oH (by rw [zCv X2,zCv HRR.out.2];have:=HRR.out.2.tl;omega)
     clear F2 X2 HK HCS HLT hNb
     go_wp2_with fail
     go_roundw
     case rel=>exact HREL.out
     case measure=>exact HME.out
   ·have hde:decide (pickN (tk c.ts j)≠10)=true:=decide_eq_true hp
    have HB:=zMk c wr j HRR.out.2
    rw [hde] at HB
    go_wp2_with fail
    refine HB.mono ?_
    rintro e wb ⟨rfl,FB⟩
    have HFB:=oH FB
    clear FB HB c2
    clear hde
    obtain⟨m,rfl⟩:∃m',m=m'+1:=by
     cases m with
     | succ m=>exact⟨m,rfl⟩
     | zero =>
      refine absurd ?_ HQ.out.2.1
      rw [HNN.out.2.2,HRR.out.1]
      rfl
    obtain⟨r1,hr1⟩:=HI.out.yes j hp
    have hs:isS (tk c.ts j) [59]=false:=by
     cases hq:isS (tk c.ts j) [59]
     ·rfl
     ·exact absurd (zXu (B:=fun _=>.out) hq) hp
    have HST:Hid (RES=(kid (fun _=>r1) (.ok l j)).bnd fun l k=>if isS (tk c.ts k) [59]=true then partM c.ts [59] I m l (k+1) else .ok l k):=oH (by rw [HNN.out.2.2,HRR.out.1];exact zXv hs hr1 m)
    have HNE:Hid (r1≠.out):=oH (fun e=>HQ.out.2.1 (by rw [HST.out,e];rfl))
    have hlt:=zHy hp
    have HLT:=oH (oA hlt (oA HRR.out.2.tl (HNN.out.2.1 l j HRR.out.1)))
    have HUP:Hid (∀d k,r1=.ok d k→j < k):=oH (fun d k e=>HI.out.up j d k (by rw [hr1,e]))
    have HT:=HI.out.run wb j r1 (HRR.out.2.keep HFB.out) hr1 HNE.out
    have HSe:=oH ((HS.out.same HRR.out.1).keep HCR.out HFB.out)
    have HJR:=oH HRR.out.2
    clear hs hp hr1 hlt HRR HNN HX HS
    go_wp2_with fail
    refine HT.mono ?_
    rintro e ws ⟨o,rfl,FS,hi5⟩
    obtain⟨a,ha⟩:=zAx o
    rw [ha]
    have HIT:Hid (Itm c (fun _=>r1) j wb ws o):=oH hi5
    have HF5:=oH FS
    have HO5:=oH ha
    clear hi5 FS ha HT
    have hbN:N+1≤16386:=by have:=HLT.out;omega
    have hsr:=(zAf HSe.out.row HF5.out (fun q hq hm=>by
     have h1:=HSe.out.far q hq
     have h2:q=c.R:=by simpa using hm
     have:=HCR.out
     omega)).alloc (.cells #[Value.pointer a] 26)
    have hnb:=HSe.out.hn
    have hnd:=(HF5.out.block p (zAd HSe.out.nd) (by have:=HSe.out.hp;have:=HCR.out;simp;omega)).trans HSe.out.nd
    have y4:=(NodeAt.mk hnd).c4
    have HN1:=oH (new1 ws (Value.pointer a) 26)
    have HO1:Hid (∀z ∈ [Value.pointer a],z.oneCell'=true):=oH (fun z hz=>by simp at hz;subst hz;rfl)
    have HND:=oH hnd
    clear hnd
    go_wp2_with (at_builtin;refine wpList_append_lies _ rfl _ _ 38 rfl 0 26 i0 _ 1 8 Tryz.underlying38 hi hz0 hz1 hz2 rfl (by decide) v0 n0 _ rfl hsr ⟨ws.heap.size,0,none⟩ 1 1 [Value.pointer a] rfl rfl HN1.out HO1.out (by decide) (by unfold maxLen;omega) (by omega) (by simp <;> omega) (ws.heap.size+1) (by simp) ?_)
    intro g0 cap0 wd0 hown hgrow hat hlt
    have HE0:=oH (HSe.out.app HCR.out (M:=fun _=>r1) (j:=j) (b:=false) (by
     rcases HSe.out.st with⟨l2,j2,us,h1,h2,h3,h4,h5⟩ | ⟨j2,h1,_⟩
     ·injection h1 with h1 _
      exact .inl ⟨rfl,l,us,rfl,h3,by rw [h4,h1],h5⟩
     ·cases h1) HO5.out HF5.out (fun _=>HIT.out) (fun hf=>(by cases hf)) hown hgrow hat)
    have H9:wd0.cell? ⟨p,4,none⟩=some v0∧wd0.frozen? ⟨p,4,none⟩=false:=by
     have F12:Fr (obL v0) ws wd0:=((Fr.alloc ws _).up0).on (Fr.of_grown hgrow)
     have n6:=(F12.block p (zAd HND.out) (fun hm=>zAi HSe.out.row HSe.out.nd hm)).trans HND.out
     exact⟨(NodeAt.mk n6).c4,(NodeAt.mk n6).f 4⟩
    obtain⟨H9,f9⟩:=H9
    clear hown hgrow hat hlt hsr HN1 HO1 y4 HND
    go_upto_region 6 with fail
    obtain⟨wa0,hwa0⟩:∃wa,wd0.setCell ⟨p,4,none⟩ (.slice (some ⟨g0,0,none⟩) (n0+1) cap0)=wa:=⟨_,rfl⟩
    rw [hwa0] at HE0
    try rw [hwa0]
    clear H9 f9 hwa0
    obtain⟨vz,hvz⟩:∃v,Value.slice (some ⟨g0,0,none⟩) (n0+1) cap0=v:=⟨_,rfl⟩
    obtain⟨nz,hnz⟩:∃n,n0+1=n:=⟨_,rfl⟩
    obtain⟨xz,hxz⟩:∃x,xs0++[Value.pointer a]=x:=⟨_,rfl⟩
    rw [hnz] at hvz HE0
    rw [hvz,hxz] at HE0
    clear hvz hnz hxz
    obtain⟨r2,hr2⟩:∃z,kid (fun _=>r1) (.ok l j)=z:=⟨_,rfl⟩
    have HR2:Hid (∀l' k,r2=.ok l' k→j < k):=oH (fun l' k e=>by
     rw [← hr2] at e
     obtain⟨x,hx⟩:=zJn e
     exact HUP.out x k hx)
    rw [hr2] at HST HE0
    clear hr2 HIT HF5 HO5 HSe HUP HNE
    rcases HE0.out.two with⟨l2,k2,hr,X⟩ | ⟨k2,hr,X⟩
    ·have HX0:=oH X
     have HRK:=oH hr
     have HKB:=oH (HR2.out l2 k2 hr)
     clear X hr
     cases hs:isS (tk c.ts k2) [59]
     ·have HK:=zAu c wa0 k2 false [59] HX0.out (by rw [hs];rfl)
      have HFIN:Hid (RES=r2):=oH (by rw [HST.out,HRK.out];show (if isS (tk c.ts k2) [59]=true then _ else _)=_;rw [if_neg (by rw [hs];simp)])
      simp only [pt] at HK
      clear hs
      go_wp2_with fail
      refine HK.mono ?_
      rintro e wc ⟨rfl,F2⟩
      have HSF:=oH (HE0.out.keep HCR.out F2)
      clear F2 HK HE0 HX0 HRK HST HKB HR2 HJR
      go_wp2_with fail
      go_ret
      exact Tl.from HF.out (HSF.out.tl (by rw [HFIN.out]))
     ·have HK:=zBo c wa0 k2 [59] HX0.out hs
      have HGO:Hid (RES=partM c.ts [59] I m l2 (k2+1)):=oH (by rw [HST.out,HRK.out];show (if isS (tk c.ts k2) [59]=true then _ else _)=_;rw [if_pos hs])
      simp only [pt] at HK
      clear hs
      go_wp2_with fail
      refine HK.mono ?_
      rintro e wl ⟨rfl,F2,X2⟩
      have HREL:Hid (∃r N v n xs m,SN c w1 (nd 46 (tk c.ts i) [] 0) p r N wl v n xs∧N≤16386∧(∀l j,r=.ok l j→N≤j)∧RES=r.bnd (partM c.ts [59] I m)):=oH ⟨_,N+1,vz,nz,xz,m,(HE0.out.same HRK.out).to HCR.out F2 X2,by omega,fun l' k e=>by
       injection e with _ e
       have:=HLT.out
       have:=HKB.out
       omega,HGO.out⟩
      have HME:Hid (rfM c.R wl < rfM c.R wr):=oH (by
       rw [zCv X2,zCv HJR.out]
       have:=HLT.out
       have:=HKB.out
       omega)
      clear F2 X2 HK HGO HKB
      go_wp2_with fail
      go_roundw
      case rel=>exact HREL.out
      case measure=>exact HME.out
    ·have HK:=zAu c wa0 k2 true [59] X rfl
     have HFIN:Hid (RES=r2):=oH (by rw [HST.out,hr];rfl)
     simp only [pt] at HK
     clear hr X
     go_wp2_with fail
     refine HK.mono ?_
     rintro e wc ⟨rfl,F2⟩
     have HSF:=oH (HE0.out.keep HCR.out F2)
     clear F2 HK HE0 HST HR2 HJR
     go_wp2_with fail
     go_ret
     exact Tl.from HF.out (HSF.out.tl (by rw [HFIN.out]))
  ·have c2:=X.c2
   have HFIN:Hid (RES=r):=oH (by rw [HNN.out.2.2,hr];rfl)
   clear hr X hsn HNN HX
   go_wp2_with fail
   go_ret
   exact Tl.from HF.out (HS.out.tl (by rw [HFIN.out]))
theorem zQv (c:Rc) (w:World) (i:Nat) (h:RF c w i true):Calls Tryz.prog 18 #[.pointer (some ⟨c.R,0,none⟩)] w fun e w'=>∃q,e=.returned (.pointer (some ⟨q,0,none⟩))∧Fr [] w w'∧RF c w' i true:=by
 obtain⟨i0,hi,hz0,hz1,hz2⟩:=info_parts infoP
 obtain⟨px,py,e1⟩:=zAc (tk c.ts i).2.1.1 (tk c.ts i).2.1.2
 obtain⟨ex,ey,e2⟩:=zAc (tk c.ts i).2.2.1 (tk c.ts i).2.2.2
 have hfd:=zBb
 have HN:=zAo c w i true h px py ex ey e1 e2
 have HX0:=oH (oA h e1)
 clear h e1 e2
 generalize ((tk c.ts i).1.k:Int)=t0 at *
 generalize (⟨(tk c.ts i).1.x.toArray⟩:ByteArray)=t3 at *
 generalize (tk c.ts i).1.n=t4 at *
 go_enter Tryz.func18,Tryz.ntmps18
 go_wp2_with fail
 refine HN.mono ?_
 rintro e w1 ⟨rfl,F0⟩
 have HF:=oH F0
 have HX:=oH (oA (HX0.out.1.keep F0) HX0.out.2)
 have HCR:Hid (c.R < w1.heap.size):=oH HX.out.1.lt
 clear F0 HN HX0
 have HDN:=dnode w1 46 46 rfl (tk c.ts i) px py HX.out.2
 go_wp2_with fail
 refine HDN.mono ?_
 rintro e wn ⟨rfl,hwn⟩
 have HL:Hid (Fr [] w wn∧RF c wn i true):=oH (by
  have F:=Fr.alloc w1 (nodeO (nd 46 (tk c.ts i) [] 0) (.slice none 0 0))
  rw [← hwn] at F
  exact⟨HF.out.on F,HX.out.1.keep F⟩)
 clear hwn HDN HX HF
 generalize w1.heap.size=p at *
 go_wp2_with fail
 go_loopw [] (fun wr=>Fr [] w wr∧RF c wr i true) (fun wr=>rfM c.R wr)
 case atStart=>exact HL.out
 case round =>
  clear HL
  have HR:=oH hrel
  have c2:=hrel.2.c2
  clear hrel
  go_wp2_with fail
  go_ret
  exact⟨p,rfl,HR.out.1,HR.out.2⟩
theorem zQw (c:Rc) (hS:Scd c.ts):∀n,CF c 18 (bodyM c.ts n):=by
 have hbad:∀(M:Nat→Re) w j,RF c w j true→Calls Tryz.prog 18 #[.pointer (some ⟨c.R,0,none⟩)] w fun e w'=>∃o a,encP o=.pointer a∧e=.returned (.pointer a)∧Fr [c.R] w w'∧(true=false→Itm c M j w w' o)∧(true=true→RF c w' j true):=fun M w j h=>by
  refine(zQv c w j h).mono ?_
  rintro e w' ⟨q,rfl,F,X⟩
  exact⟨some q,some ⟨q,0,none⟩,rfl,rfl,F.up0,fun hf=>(by cases hf),fun _=>X⟩
 intro n
 induction n with
 | zero =>
  intro w j b h hne
  cases b
  ·exact absurd rfl (hne rfl)
  ·exact hbad _ w j h
 | succ n ih =>
  intro w j b h hne
  cases b
  ·refine(zNk c hS n ih w j h (hne rfl)).mono ?_
   rintro e w' ⟨o,rfl,F,hres⟩
   obtain⟨a,ha⟩:=zAx o
   exact⟨o,a,ha,by rw [ha],F,fun _=>hres,fun hf=>(by cases hf)⟩
  ·exact hbad _ w j h
end Go.Proofs.YtepfknfadpkigaaGreat
end
