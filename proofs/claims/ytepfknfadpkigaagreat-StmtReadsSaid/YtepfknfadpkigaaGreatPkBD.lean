/- Several texts in one. -/
import Derived.Test.YtepfknfadpkigaaGreatPkAA
import Derived.Test.YtepfknfadpkigaaGreatPkBC
import Derived.Test.YtepfknfadpkigaaGreatPkAT
set_option linter.unusedVariables false
set_option linter.unusedSimpArgs false
section
namespace Go.Proofs.YtepfknfadpkigaaGreat
open Go.RowKit
set_option maxHeartbeats 4000000
set_option maxRecDepth 100000
theorem bfac (c:Rc) (w:World) (i:Nat) (h:RF c w i true):Calls Tryz.prog 117 #[.pointer (some ⟨c.R,0,none⟩)] w fun e w'=>e=.returned (.pointer none)∧Fr [] w w':=by
 have hsc:=fun w a x y m=>zAg (P:=Tryz.prog) w a .f64 x y m
 obtain⟨px,py,e1⟩:=zAc (tk c.ts i).2.1.1 (tk c.ts i).2.1.2
 obtain⟨ex,ey,e2⟩:=zAc (tk c.ts i).2.2.1 (tk c.ts i).2.2.2
 have HN:=zAo c w i true h px py ex ey e1 e2
 have HX:=oH h
 clear h e1 e2
 generalize ((tk c.ts i).1.k:Int)=t0 at *
 generalize (⟨(tk c.ts i).1.x.toArray⟩:ByteArray)=t3 at *
 generalize (tk c.ts i).1.n=t4 at *
 go_enter Tryz.func117,Tryz.ntmps117
 go_wp2_with fail
 refine HN.mono ?_
 rintro e w2 ⟨rfl,F2⟩
 have X2:=(HX.out.keep F2).keep (Fr.alloc w2 (.cells #[.int .u8 t0,.complex .f64 px py,.complex .f64 ex ey,.string t3,.int .i64 t4] 71))
 have c2:=X2.c2
 have hR2:c.R < w2.heap.size:=by have:=HX.out.lt;have:=F2.size;omega
 have H2:=oH F2
 clear F2 X2 HN
 go_wp2_with fail
 go_ret
 exact⟨rfl,H2.out.on (Fr.alloc _ _)⟩
theorem bterm (c:Rc) (w:World) (i:Nat) (h:RF c w i true):Calls Tryz.prog 109 #[.pointer (some ⟨c.R,0,none⟩)] w fun e w'=>e=.returned (.pointer none)∧Fr [] w w':=by
 have HG:=bfac c w i h
 have HX:=oH h
 clear h
 go_enter Tryz.func109,Tryz.ntmps109
 go_wp2_with fail
 refine HG.mono ?_
 rintro e w2 ⟨rfl,F2⟩
 have HS:=zEt c w2 i true (HX.out.keep F2) mulL (by decide) #[.string ⟨#[42]⟩,.string ⟨#[47]⟩,.string ⟨#[68,73,86]⟩,.string ⟨#[77,79,68]⟩,.string ⟨#[65,78,68]⟩] rfl 9 5 rfl
 simp only [Bool.not_true,Bool.false_and] at HS
 have H2:=oH F2
 clear F2 HG
 go_wp2_with fail
 refine wp_loop_rounds 1 ?_
 rw [rounds_succ]
 go_wp2_with fail
 refine HS.mono ?_
 rintro e w3 ⟨rfl,F3⟩
 have H3:=oH F3
 clear F3 HS
 go_wp2_with fail
 go_ret
 exact⟨rfl,H2.out.on H3.out⟩
theorem bsim (c:Rc) (w:World) (i:Nat) (h:RF c w i true):Calls Tryz.prog 99 #[.pointer (some ⟨c.R,0,none⟩)] w fun e w'=>e=.returned (.pointer none)∧Fr [] w w':=by
 have hsc:=fun w a x y m=>zAg (P:=Tryz.prog) w a .f64 x y m
 obtain⟨px,py,e1⟩:=zAc (tk c.ts i).2.1.1 (tk c.ts i).2.1.2
 obtain⟨ex,ey,e2⟩:=zAc (tk c.ts i).2.2.1 (tk c.ts i).2.2.2
 have HN:=zAo c w i true h px py ex ey e1 e2
 have HX:=oH h
 clear h e1 e2
 generalize ((tk c.ts i).1.k:Int)=t0 at *
 generalize (⟨(tk c.ts i).1.x.toArray⟩:ByteArray)=t3 at *
 generalize (tk c.ts i).1.n=t4 at *
 go_enter Tryz.func99,Tryz.ntmps99
 go_wp2_with fail
 refine HN.mono ?_
 rintro e w2 ⟨rfl,F2⟩
 go_upto_region 2 with fail
 obtain⟨w3,hw3⟩:∃w3,w2.alloc (.cells #[.int .u8 t0,.complex .f64 px py,.complex .f64 ex ey,.string t3,.int .i64 t4] 71)=w3:=⟨_,rfl⟩
 have F3:Fr [] w2 w3:=by rw [← hw3];exact Fr.alloc _ _
 try rw [hw3]
 have X3:=(HX.out.keep F2).keep F3
 have HS:=zEt c w3 i true X3 signL (by decide) #[.string ⟨#[43]⟩,.string ⟨#[45]⟩] rfl 9 2 rfl
 simp only [Bool.not_true,Bool.false_and] at HS
 have H3:=oH (oA (F2.on F3) X3)
 clear F2 F3 X3 HN hw3
 go_wp2_with fail
 refine HS.mono ?_
 rintro e w4 ⟨rfl,F4⟩
 have HT:=bterm c w4 i (H3.out.2.keep F4)
 have H4:=oH F4
 clear F4 HS
 go_wp2_with fail
 refine HT.mono ?_
 rintro e w5 ⟨rfl,F5⟩
 have HS:=zEt c w5 i true ((H3.out.2.keep H4.out).keep F5) sumL (by decide) #[.string ⟨#[43]⟩,.string ⟨#[45]⟩,.string ⟨#[79,82]⟩] rfl 9 3 rfl
 simp only [Bool.not_true,Bool.false_and] at HS
 have H5:=oH F5
 clear F5 HT
 go_wp2_with fail
 refine wp_loop_rounds 1 ?_
 rw [rounds_succ]
 go_wp2_with fail
 refine HS.mono ?_
 rintro e w6 ⟨rfl,F6⟩
 have H6:=oH F6
 clear F6 HS
 go_wp2_with fail
 go_ret
 exact⟨rfl,((H3.out.1.on H4.out).on H5.out).on H6.out⟩
theorem bexpr (c:Rc) (w:World) (i:Nat) (h:RF c w i true):Calls Tryz.prog 65 #[.pointer (some ⟨c.R,0,none⟩)] w fun e w'=>e=.returned (.pointer none)∧Fr [] w w':=by
 have HG:=bsim c w i h
 have HX:=oH h
 clear h
 go_enter Tryz.func65,Tryz.ntmps65
 go_wp2_with fail
 refine HG.mono ?_
 rintro e w2 ⟨rfl,F2⟩
 have HS:=zEt c w2 i true (HX.out.keep F2) relL (by decide) #[.string ⟨#[61]⟩,.string ⟨#[35]⟩,.string ⟨#[60]⟩,.string ⟨#[60,61]⟩,.string ⟨#[62]⟩,.string ⟨#[62,61]⟩,.string ⟨#[73,78]⟩] rfl 9 7 rfl
 simp only [Bool.not_true,Bool.false_and] at HS
 have H2:=oH F2
 clear F2 HG
 go_wp2_with fail
 refine HS.mono ?_
 rintro e w3 ⟨rfl,F3⟩
 have H3:=oH F3
 clear F3 HS
 go_wp2_with fail
 go_ret
 exact⟨rfl,H2.out.on H3.out⟩
def CF (c:Rc) (f:FuncId) (M:Nat→Re):Prop:=∀w j b,RF c w j b→(b=false→M j≠.out)→Calls Tryz.prog f #[.pointer (some ⟨c.R,0,none⟩)] w fun e w'=>∃o a,encP o=.pointer a∧e=.returned (.pointer a)∧Fr [c.R] w w'∧(b=false→Itm c M j w w' o)∧(b=true→RF c w' j true)
theorem qDd {c:Rc} {f:FuncId} {M:Nat→Re} (h:CG c f M) (hb:∀w i,RF c w i true→Calls Tryz.prog f #[.pointer (some ⟨c.R,0,none⟩)] w fun e w'=>e=.returned (.pointer none)∧Fr [] w w'):CF c f M:=by
 intro w j b hX hne
 cases b
 ·refine(h w j hX (hne rfl)).mono ?_
  rintro e w' ⟨o,rfl,F,hres⟩
  obtain⟨a,ha⟩:=zAx o
  exact⟨o,a,ha,by rw [ha],F,fun _=>hres,fun hf=>(by cases hf)⟩
 ·refine(hb w j hX).mono ?_
  rintro e w' ⟨rfl,F⟩
  exact⟨none,none,rfl,rfl,F.up0,fun hf=>(by cases hf),fun _=>hX.keep F⟩
theorem zBn (c:Rc) (hS:Scd c.ts):CF c 65 (E0 c.ts):=qDd (zBl c hS _) (bexpr c)
theorem zAi {w:World} {v v2:Value} {n:Nat} {xs:List Value} {p:Nat} {d:ND} (h:w.ownsRow 0 26 1 v n xs) (hp:w.heap[p]?=some (nodeO d v2)):p ∉ obL v:=fun hm =>
 Lib.ownBlock_ne h hp tyN ((zBc v p).1 hm)
structure SN (c:Rc) (w0:World) (d:ND) (p:Nat) (r:ReL) (N:Nat) (w:World) (v:Value) (n:Nat) (xs:List Value):Prop where
 fr:Fr [c.R] w0 w
 hp:w0.heap.size≤p
 nd:w.heap[p]?=some (nodeO d v)
 row:w.ownsRow 0 26 1 v n xs
 hn:n≤N
 far:∀q ∈ obL v,w0.heap.size≤q
 st:(∃l j us,r=.ok l j∧RF c w j false∧KJ w0.heap.size p d w v us∧dtL us=l∧n=us.length∧xs=(us.map Tr.p).map ptrV)∨∃j,r=.bad j∧RF c w j true
theorem SN.rf {c:Rc} {w0:World} {d:ND} {p:Nat} {r:ReL} {N:Nat} {w:World} {v:Value} {n:Nat} {xs:List Value} (h:SN c w0 d p r N w v n xs):∃j b,RF c w j b∧((b=false∧∃l us,r=.ok l j∧KJ w0.heap.size p d w v us∧dtL us=l∧n=us.length∧xs=(us.map Tr.p).map ptrV)∨(b=true∧r=.bad j)):=by
 rcases h.st with⟨l,j,us,h1,h2,h3⟩ | ⟨j,h1,h2⟩
 ·exact⟨j,false,h2,.inl ⟨rfl,l,us,h1,h3⟩⟩
 ·exact⟨j,true,h2,.inr ⟨rfl,h1⟩⟩
def kid (M:Nat→Re) (r:ReL):ReL:=r.bnd fun l j=>(M j).bndL fun x k=>.ok (l++[x]) k
theorem SN.app {c:Rc} {w0:World} {d:ND} {p:Nat} {r:ReL} {N:Nat} {w:World} {v:Value} {n:Nat} {xs:List Value} (h:SN c w0 d p r N w v n xs) (hR:c.R < w0.heap.size) {M:Nat→Re} {j:Nat} {b:Bool}
  (hst:(b=false∧∃l us,r=.ok l j∧KJ w0.heap.size p d w v us∧dtL us=l∧n=us.length∧xs=(us.map Tr.p).map ptrV)∨(b=true∧r=.bad j))
  {w2 w6:World} {o:Option Nat} {a:Option Addr} {g cap:Nat} {cc:Obj} (ha:encP o=.pointer a) (F:Fr [c.R] w w2) (hi:b=false→Itm c M j w w2 o) (hb:b=true→RF c w2 j true)
  (hown:w6.ownsRow 0 26 1 (.slice (some ⟨g,0,none⟩) (n+1) cap) (n+1) (xs++[.pointer a])) (hgrow:(w2.alloc cc).grownBy w6 v.ownBlock) (hat:v.ownBlock=some g∨g=w2.heap.size+1) :
  SN c w0 d p (kid M r) (N+1) (w6.setCell ⟨p,4,none⟩ (.slice (some ⟨g,0,none⟩) (n+1) cap)) (.slice (some ⟨g,0,none⟩) (n+1) cap) (n+1) (xs++[.pointer a]):=by
 have hs:=h.fr.size
 have hs2:=F.size
 have hpl:=zAd h.nd
 have hF:=zHe (p:=p) (w5:=w2) hgrow (.slice (some ⟨g,0,none⟩) (n+1) cap)
 have hpv:p ∉ obL v:=fun hm=>zAi h.row h.nd hm
 have hpR:p≠c.R:=by have:=h.hp;omega
 have n2:w2.heap[p]?=some (nodeO d v):=(F.block p hpl (by simp;exact hpR)).trans h.nd
 have F12:Fr (obL v) w2 w6:=((Fr.alloc w2 cc).mono (by simp)).trans (Fr.of_grown hgrow) (fun j hj=>.inl hj)
 have n6:w6.heap[p]?=some (nodeO d v):=(F12.block p (zAd n2) hpv).trans n2
 have hg:w0.heap.size≤g:=by
  rcases hat with h1 | h1
  ·exact h.far g ((zBc v g).2 h1)
  ·omega
 have hpg:p≠g:=fun e=>by
  subst e
  rcases hat with h1 | h1
  ·exact hpv ((zBc v p).2 h1)
  ·have:=zAd n2;omega
 have hob:∀q,q ∈ obL (.slice (some ⟨g,0,none⟩) (n+1) cap)→q=g:=fun q hq=>by simpa [obL,Value.ownBlock] using hq
 have hRq:∀q ∈ p::obL v,c.R < q:=fun q hq=>by
  rcases List.mem_cons.1 hq with rfl | hq
  ·have:=h.hp;omega
  ·have:=h.far q hq;omega
 refine⟨(h.fr.on F).trans hF (fun q hq=>.inr ?_),h.hp,by simp [World.setCell,Array.getElem?_modify,n6,nodeO],zAf hown (Fr.set w6 p 4 _) (fun q hq hm=>?_),by have:=h.hn;omega,fun q hq=>by rw [hob q hq];exact hg,?_⟩
 ·rcases List.mem_cons.1 hq with rfl | hq
  ·exact h.hp
  ·exact h.far q hq
 ·have e1:=hob q hq
  have e2:q=p:=by simpa using hm
  omega
 ·rcases hst with⟨rfl,l,us,rfl,hK,rfl,rfl,rfl⟩ | ⟨rfl,rfl⟩
  ·rcases hi rfl with⟨dd,k,u,hM,rfl,X2,hu,hud⟩ | ⟨k,hM,X2⟩
   ·refine .inl ⟨dtL us++[dd],k,us++[u],by unfold kid;show (M j).bndL _=_;rw [hM];rfl,X2.stay hF hRq,?_,?_,by simp,?_⟩
    ·have hav:Value.pointer a=ptrV u.p:=ha.symm
     refine hK.on F (by simp;omega) hs u hu cc g cap ?_ hgrow hat
     rw [hav] at hown
     exact hown
    ·rw [zDp,← hud];rfl
    ·have hav:Value.pointer a=ptrV u.p:=ha.symm
     rw [hav];simp
   ·exact .inr ⟨k,by unfold kid;show (M j).bndL _=_;rw [hM];rfl,X2.stay hF hRq⟩
  ·exact .inr ⟨j,rfl,(hb rfl).stay hF hRq⟩
def needM (ts:List TK) (s:List UInt8) (r:ReL):ReL:=r.bnd fun l j=>if isW (tk ts j) s=true then .ok l (j+1) else .bad j
def needS (ts:List TK) (s:List UInt8) (r:ReL):ReL:=r.bnd fun l j=>if isS (tk ts j) s=true then .ok l (j+1) else .bad j
theorem SN.fr2 {c:Rc} {w0:World} {d:ND} {p:Nat} {r r':ReL} {N:Nat} {w w':World} {v:Value} {n:Nat} {xs:List Value} (h:SN c w0 d p r N w v n xs) (hR:c.R < w0.heap.size) (F:Fr [c.R] w w')
  (hst:(∃l j us,r'=.ok l j∧RF c w' j false∧KJ w0.heap.size p d w v us∧dtL us=l∧n=us.length∧xs=(us.map Tr.p).map ptrV)∨∃j,r'=.bad j∧RF c w' j true):SN c w0 d p r' N w' v n xs:=by
 refine⟨h.fr.on F,h.hp,(F.block p (zAd h.nd) (by have:=h.hp;simp;omega)).trans h.nd,zAf h.row F (fun q hq hm=>by
  have h1:=h.far q hq
  have h2:q=c.R:=by simpa using hm
  omega),h.hn,h.far,?_⟩
 rcases hst with⟨l,j,us,h1,h2,h3,h4⟩ | h1
 ·exact .inl ⟨l,j,us,h1,h2,h3.fr F (by simp;exact hR),h4⟩
 ·exact .inr h1
theorem SN.need {c:Rc} {w0:World} {d:ND} {p:Nat} {r:ReL} {N:Nat} {w:World} {v:Value} {n:Nat} {xs:List Value} (h:SN c w0 d p r N w v n xs) (hR:c.R < w0.heap.size) (s:List UInt8) :
  Calls Tryz.prog 66 #[.pointer (some ⟨c.R,0,none⟩),.string ⟨s.toArray⟩] w fun e w'=>e=.returned (.tuple #[])∧Fr [c.R] w w'∧SN c w0 d p (needM c.ts s r) N w' v n xs:=by
 rcases h.st with⟨l,j,us,rfl,X,h3⟩ | ⟨j,rfl,X⟩
 ·cases hq:isW (tk c.ts j) s
  ·refine(zDn c w j false s X (by rw [hq];rfl)).mono ?_
   rintro e w' ⟨rfl,F,X'⟩
   exact⟨rfl,F,h.fr2 hR F (.inr ⟨j,by unfold needM;show (if isW (tk c.ts j) s=true then _ else _)=_;rw [if_neg (by rw [hq];simp)],X'⟩)⟩
  ·refine(zIa c w j s X hq).mono ?_
   rintro e w' ⟨rfl,F,X'⟩
   exact⟨rfl,F,h.fr2 hR F (.inl ⟨l,j+1,us,by unfold needM;show (if isW (tk c.ts j) s=true then _ else _)=_;rw [if_pos hq],X',h3⟩)⟩
 ·refine(zDn c w j true s X rfl).mono ?_
  rintro e w' ⟨rfl,F,X'⟩
  exact⟨rfl,F,h.fr2 hR F (.inr ⟨j,rfl,X'⟩)⟩
theorem SN.needS {c:Rc} {w0:World} {d:ND} {p:Nat} {r:ReL} {N:Nat} {w:World} {v:Value} {n:Nat} {xs:List Value} (h:SN c w0 d p r N w v n xs) (hR:c.R < w0.heap.size) (s:List UInt8) :
  Calls Tryz.prog 98 #[.pointer (some ⟨c.R,0,none⟩),.string ⟨s.toArray⟩] w fun e w'=>e=.returned (.tuple #[])∧Fr [c.R] w w'∧SN c w0 d p (Go.Proofs.YtepfknfadpkigaaGreat.needS c.ts s r) N w' v n xs:=by
 rcases h.st with⟨l,j,us,rfl,X,h3⟩ | ⟨j,rfl,X⟩
 ·cases hq:isS (tk c.ts j) s
  ·refine(zBq c w j false s X (by rw [hq];rfl)).mono ?_
   rintro e w' ⟨rfl,F,X'⟩
   exact⟨rfl,F,h.fr2 hR F (.inr ⟨j,by unfold Go.Proofs.YtepfknfadpkigaaGreat.needS;show (if isS (tk c.ts j) s=true then _ else _)=_;rw [if_neg (by rw [hq];simp)],X'⟩)⟩
  ·refine(zCe c w j s X hq).mono ?_
   rintro e w' ⟨rfl,F,X'⟩
   exact⟨rfl,F,h.fr2 hR F (.inl ⟨l,j+1,us,by unfold Go.Proofs.YtepfknfadpkigaaGreat.needS;show (if isS (tk c.ts j) s=true then _ else _)=_;rw [if_pos hq],X',h3⟩)⟩
 ·refine(zBq c w j true s X rfl).mono ?_
  rintro e w' ⟨rfl,F,X'⟩
  exact⟨rfl,F,h.fr2 hR F (.inr ⟨j,rfl,X'⟩)⟩
theorem SN.tl {c:Rc} {w0:World} {d:ND} {p:Nat} {r:ReL} {N:Nat} {w:World} {v:Value} {n:Nat} {xs:List Value} (h:SN c w0 d p r N w v n xs) {res:Re} (hr:res=r.re (.node d)):Tl c w0.heap.size w0 res (.returned (.pointer (some ⟨p,0,none⟩))) w:=by
 subst hr
 rcases h.st with⟨l,j,us,rfl,X,hK,rfl,_⟩ | ⟨j,rfl,X⟩
 ·exact Tl.mk_ok (u:=.node p d us) rfl h.fr X hK.tree rfl
 ·exact Tl.mk_bad (o:=some p) rfl rfl h.fr X
theorem Itm.low {c:Rc} {M:Nat→Re} {j:Nat} {w w1 w2:World} {o:Option Nat} (h:Itm c M j w1 w2 o) (hs:w.heap.size≤w1.heap.size):Itm c M j w w2 o:=by
 rcases h with⟨d,k,u,h1,h2,h3,h4,h5⟩ | h
 ·exact .inl ⟨d,k,u,h1,h2,h3,zAt h4 hs,h5⟩
 ·exact .inr h
theorem zBm {M:Nat→Re} {r:ReL} (h:kid M r≠.out) {l:List DT} {j:Nat} (hr:r=.ok l j):M j≠.out:=fun e=>h (by subst hr;unfold kid;show (M j).bndL _=_;rw [e];rfl)
theorem zDi {M:Nat→Re} {r:ReL} (h:kid M r≠.out):r≠.out:=fun e=>h (by rw [e];rfl)
theorem zBp {ts:List TK} {s:List UInt8} {r:ReL} (h:needM ts s r≠.out):r≠.out:=fun e=>h (by rw [e];rfl)
theorem zQk {ts:List TK} {s:List UInt8} {r:ReL} (h:needS ts s r≠.out):r≠.out:=fun e=>h (by rw [e];rfl)
theorem zEm {f:List DT→DT} {r:ReL} (h:r.re f≠.out):r≠.out:=fun e=>h (by rw [e];rfl)
theorem zBd {t:TK} {a b:List UInt8} (h:isW t a=true) (hn:a≠b):isW t b=false:=by
 unfold isW at h ⊢
 simp only [Bool.and_eq_true,beq_iff_eq] at h
 rw [h.2,beq_eq_false_iff_ne.2 hn,Bool.and_false]
theorem dnode (w:World) (K:Nat) (kk:Int) (hk:(K:Int)=kk) (t:TK) (px py:Nat) (hp:posV t.2.1.1 t.2.1.2=.complex .f64 px py) :
  Calls Tryz.prog 32 #[.int .u8 kk,.complex .f64 px py] w fun e w'=>e=.returned (.pointer (some ⟨w.heap.size,0,none⟩))∧w'=w.alloc (nodeO (nd K t [] 0) (.slice none 0 0)):=by
 have HND:Hid (nodeO (nd K t [] 0) (.slice none 0 0)=.cells #[.int .u8 kk,.complex .f64 px py,.string ⟨#[]⟩,.int .i64 0,.slice none 0 0] 40 (0,0)):=oH (by unfold nodeO nd;simp only [hk,hp])
 rw [HND.out]
 clear HND hk hp
 go_enter Tryz.func32,Tryz.ntmps32
 go_wp2_with fail
 go_ret
 exact⟨rfl,rfl⟩
theorem SN.new {c:Rc} {w:World} {j:Nat} (d:ND) (h:RF c w j false):SN c w d w.heap.size (.ok [] j) 0 (w.alloc (nodeO d (.slice none 0 0))) (.slice none 0 0) 0 []:=by
 have F:=Fr.alloc w (nodeO d (.slice none 0 0))
 refine⟨F.up0,Nat.le_refl _,heap_alloc_new _ _,World.ownsRow_nil _ _ _ _,Nat.le_refl _,by simp [obL,Value.ownBlock],.inl ⟨[],j,[],rfl,h.keep F,⟨heap_alloc_new _ _,⟨World.ownsRow_nil _ _ _ _,fun g hg=>by cases hg⟩,IsTL.of (by simp),Nat.le_refl _⟩,rfl,rfl,rfl⟩⟩
end Go.Proofs.YtepfknfadpkigaaGreat
end
