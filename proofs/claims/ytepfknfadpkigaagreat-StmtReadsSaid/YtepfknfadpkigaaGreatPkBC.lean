/- Several texts in one. -/
import Derived.Test.YtepfknfadpkigaaGreatPkAA
import Derived.Test.YtepfknfadpkigaaGreatPkBA
import Derived.Test.YtepfknfadpkigaaGreatPkAZ
import Derived.Test.YtepfknfadpkigaaGreatPkAS
import Derived.Test.YtepfknfadpkigaaGreatPkBB
set_option linter.unusedVariables false
set_option linter.unusedSimpArgs false
section
namespace Go.Proofs.YtepfknfadpkigaaGreat
open Go.RowKit
set_option maxHeartbeats 4000000
set_option maxRecDepth 100000
theorem zIl {d:ND} {x:DT} {l:List DT} (h:d.k=2):quaD (.node d (x::l))=quaD x∧dotsD (.node d (x::l))=dotsD x:=by
 constructor
 ·rw [quaD.eq_def];simp only [h,if_true]
 ·rw [dotsD.eq_def];simp only [h,if_true]
theorem zHi {d:ND} {l:List DT} (h:d.k≠2):quaD (.node d l)=(d.k == 1)∧dotsD (.node d l)=true:=by
 constructor
 ·rw [quaD.eq_def];simp only [h,if_false]
 ·rw [dotsD.eq_def];simp only [h,if_false]
section
variable (ts:List TK) (E:Nat→Re)
theorem zMe:∀(m:Nat) (x:DT) (i:Nat) (y:DT) (j:Nat),dotsM ts m x i=.ok y j→quaD x=true→dotsD x=true→quaD y=true∧dotsD y=true∧isS (tk ts j) [46]=false
 | 0,x,i,y,j,h,_,_=>by cases h
 | m+1,x,i,y,j,h,hq,hd=>by
  unfold dotsM at h
  split at h
  ·split at h
   ·rename_i z hz
    unfold dotM at hz
    split at hz
    ·cases hz
     exact zMe m _ (i+2) y j h (by rw [(zIl (by rfl)).1];exact hq) (by rw [(zIl (by rfl)).2];exact hd)
    ·cases hz
   ·cases h
  ·rename_i hs
   cases h
   exact⟨hq,hd,by simpa using hs⟩
theorem zEu:∀(m:Nat) (f:Bool) (x:DT) (i:Nat) (y:DT) (k:Nat),selM ts E m f x i=.ok y k→dotsD x=true →
  dotsD y=true∧(quaD x=false→quaD y=false)∧(f=true→quaD y=false)∧(f=false→isS (tk ts i) [46]=false→(y=x∧k=i)∨quaD y=false)
 | 0,f,x,i,y,k,h,_=>by cases h
 | m+1,true,x,i,y,k,h,hd=>by
  rw [zGk] at h
  have hnode:∀e,quaD (.node (nd 3 (tk ts i) [] 0) [x,e])=false∧dotsD (.node (nd 3 (tk ts i) [] 0) [x,e])=true:=fun e=>⟨(zHi (by show (3:Nat)≠2;decide)).1,(zHi (by show (3:Nat)≠2;decide)).2⟩
  cases hE:E (i+1) with
  | bad j=>rw [hE] at h;cases h
  | out=>rw [hE] at h;cases h
  | ok e j =>
   rw [hE] at h
   have h:idxT ts E m (.node (nd 3 (tk ts i) [] 0) [x,e]) j=.ok y k:=h
   unfold idxT at h
   split at h
   ·obtain⟨a,b,c,d⟩:=zEu m true _ j y k h (hnode e).2
    exact⟨a,fun _=>c rfl,fun _=>c rfl,by simp⟩
   ·split at h
    ·obtain⟨a,b,c,d⟩:=zEu m false _ (j+1) y k h (hnode e).2
     exact⟨a,fun _=>b (hnode e).1,fun _=>b (hnode e).1,by simp⟩
    ·cases h
 | m+1,false,x,i,y,k,h,hd=>by
  cases h1:isS (tk ts i) [46] with
  | true =>
   rw [zIf ts E m x i h1] at h
   split at h
   ·rename_i z hz
    unfold dotM at hz
    split at hz
    ·cases hz
     have hdn:dotsD (.node (nd 2 (tk ts i) (tk ts (i+1)).1.x 0) [x])=true:=by rw [(zIl (by rfl)).2];exact hd
     obtain⟨a,b,c,d⟩:=zEu m false _ (i+2) y k h hdn
     exact⟨a,fun hq=>b (by rw [(zIl (by rfl)).1];exact hq),by simp,by simp⟩
    ·cases hz
   ·cases h
  | false =>
   cases h2:isS (tk ts i) [94] with
   | true =>
    rw [zUd ts E m x i h1 h2] at h
    have hn:quaD (.node (nd 4 (tk ts i) [] 0) [x])=false∧dotsD (.node (nd 4 (tk ts i) [] 0) [x])=true:=⟨(zHi (by show (4:Nat)≠2;decide)).1,(zHi (by show (4:Nat)≠2;decide)).2⟩
    obtain⟨a,b,c,d⟩:=zEu m false _ (i+1) y k h hn.2
    exact⟨a,fun _=>b hn.1,by simp,fun _ _=>.inr (b hn.1)⟩
   | false =>
    cases h3:isS (tk ts i) [91] with
    | true =>
     rw [zUe ts E m x i h1 h2 h3] at h
     obtain⟨a,b,c,d⟩:=zEu m true x i y k h hd
     exact⟨a,fun _=>c rfl,by simp,fun _ _=>.inr (c rfl)⟩
    | false =>
     rw [zKm ts E m x i h1 h2 h3] at h
     cases h
     exact⟨hd,id,by simp,fun _ _=>.inl ⟨rfl,rfl⟩⟩
theorem zGn {x:DT} {j:Nat} {m:Nat} (h:isS (tk ts j) [123]=true):selM ts E (m+1) false x j=.ok x j:=by
 unfold isS at h
 simp only [Bool.and_eq_true,beq_iff_eq] at h
 obtain⟨hk,hx⟩:=h
 have f:∀s,s≠[123]→isS (tk ts j) s=false:=fun s hs=>by
  unfold isS
  rw [hx,beq_eq_false_iff_ne.2 (Ne.symm hs),Bool.and_false]
 exact zKm ts E m x j (f _ (by decide)) (f _ (by decide)) (f _ (by decide))
theorem zDu {j:Nat} (h:isS (tk ts j) [123]=true):isS (tk ts j) [40]=false:=by
 unfold isS at h ⊢
 simp only [Bool.and_eq_true,beq_iff_eq] at h
 rw [h.2]
 simp
theorem qAp {i j:Nat} {d:DT} (h:desM ts E i=.ok d j):dotsD d=true∧(tk ts i).1.k=1 ∧
  nmdM ts E i=(if isS (tk ts j) [123]=true∧quaD d=true then setM ts E (tk ts i) (some d) j else if isS (tk ts j) [40]=true then callM ts E d j else .ok d j):=by
 have hk:(tk ts i).1.k=1:=by
  by_cases hk:(tk ts i).1.k=1
  ·exact hk
  ·rw [zIg ts E i hk] at h;cases h
 unfold desM at h
 cases hq:qualM ts i with
 | bad a=>rw [hq] at h;cases h
 | out=>rw [hq] at h;cases h
 | ok x j0 =>
  rw [hq] at h
  have h:selM ts E (2 * ts.length+2) false x j0=.ok d j:=h
  have hq2:=hq
  unfold qualM at hq2
  rw [if_pos hk] at hq2
  obtain⟨q1,q2,q3⟩:=zMe ts _ _ _ _ _ hq2 (by rw [(zHi (by show (1:Nat)≠2;decide)).1];rfl) (by rw [(zHi (by show (1:Nat)≠2;decide)).2])
  obtain⟨s1,s2,s3,s4⟩:=zEu ts E _ _ _ _ _ _ h q2
  refine⟨s1,hk,?_⟩
  unfold nmdM
  rw [hq]
  show (if isS (tk ts j0) [123]=true then _ else _)=_
  cases hb:isS (tk ts j0) [123] with
  | true =>
   have h2:=zGn ts E (x:=x) (m:=2 * ts.length+1) hb
   have h3:selM ts E (2 * ts.length+2) false x j0=.ok x j0:=h2
   rw [h3] at h
   cases h
   rw [if_pos rfl,if_pos ⟨hb,q1⟩]
  | false =>
   rw [if_neg (by simp),h]
   have hno:¬(isS (tk ts j) [123]=true∧quaD d=true):=fun ⟨a,b⟩=>by
    rcases s4 rfl q3 with⟨rfl,rfl⟩ | c
    ·rw [hb] at a;cases a
    ·rw [b] at c;cases c
   rw [if_neg hno]
theorem zWr {i j:Nat} (hk:(tk ts i).1.k=1) (h:desM ts E i=.bad j):nmdM ts E i=.bad j:=by
 unfold desM at h
 unfold nmdM
 cases hq:qualM ts i with
 | bad a=>rw [hq] at h;exact h
 | out=>rw [hq] at h;cases h
 | ok x j0 =>
  rw [hq] at h
  have h:selM ts E (2 * ts.length+2) false x j0=.bad j:=h
  show (if isS (tk ts j0) [123]=true then _ else _)=_
  cases hb:isS (tk ts j0) [123] with
  | true =>
   have h2:=zGn ts E (x:=x) (m:=2 * ts.length+1) hb
   have h3:selM ts E (2 * ts.length+2) false x j0=.ok x j0:=h2
   rw [h3] at h
   cases h
  | false=>rw [if_neg (by simp),h]
theorem zWs {i:Nat} (h:desM ts E i=.out):nmdM ts E i=.out:=by
 unfold desM at h
 unfold nmdM
 cases hq:qualM ts i with
 | bad a=>rw [hq] at h;cases h
 | out=>rfl
 | ok x j0 =>
  rw [hq] at h
  have h:selM ts E (2 * ts.length+2) false x j0=.out:=h
  show (if isS (tk ts j0) [123]=true then _ else _)=_
  cases hb:isS (tk ts j0) [123] with
  | true =>
   have h2:=zGn ts E (x:=x) (m:=2 * ts.length+1) hb
   have h3:selM ts E (2 * ts.length+2) false x j0=.ok x j0:=h2
   rw [h3] at h
   cases h
  | false=>rw [if_neg (by simp),h]
theorem zQg {i:Nat} (h2:(tk ts i).1.k≠2) (h3:(tk ts i).1.k≠3) (h4:(tk ts i).1.k≠4) (hb:isS (tk ts i) [123]=false) (hp:isS (tk ts i) [40]=false):operM ts E i=if (tk ts i).1.k=1 then nmdM ts E i else .bad i:=by
 unfold operM
 by_cases h1:(tk ts i).1.k=1
 ·rw [if_pos h1,if_pos h1]
 ·rw [if_neg h1,if_neg h2,if_neg h3,if_neg h4,if_neg (by rw [hb];simp),if_neg (by rw [hp];simp),if_neg h1]
theorem zSp {i:Nat} {x:List UInt8} (h:isS (tk ts i) x=true):(tk ts i).1.k=5:=by
 unfold isS at h
 simp only [Bool.and_eq_true,beq_iff_eq] at h
 exact h.1
theorem zNi {i:Nat} (hb:isS (tk ts i) [123]=true):operM ts E i=setM ts E (tk ts i) none i:=by
 have hk:=zSp ts hb
 unfold operM
 rw [if_neg (by omega),if_neg (by omega),if_neg (by omega),if_neg (by omega),if_pos hb]
theorem zNj {i:Nat} (hp:isS (tk ts i) [40]=true):operM ts E i=(match E (i+1) with | .ok x j=>if isS (tk ts j) [41] then .ok x (j+1) else .bad j | .bad j=>.bad j | .out=>.out):=by
 have hk:=zSp ts hp
 have hb:isS (tk ts i) [123]=false:=by
  cases h:isS (tk ts i) [123] with
  | false=>rfl
  | true=>rw [zDu ts h] at hp;cases hp
 unfold operM
 rw [if_neg (by omega),if_neg (by omega),if_neg (by omega),if_neg (by omega),if_neg (by rw [hb];simp),if_pos hp]
 cases E (i+1) <;> rfl
theorem zJm {i:Nat} (h:(tk ts i).1.k≠6):isO notT (tk ts i)=false:=by
 rw [isNot,beq_eq_false_iff_ne.2 h,Bool.false_and]
end
theorem KJ.setN {C p:Nat} {d:ND} {w:World} {v:Value} (h:KJ C p d w v []) (x:Int):KJ C p { d with n:=x } (w.setCell ⟨p,3,none⟩ (.int .i64 x)) v []:=by
 have hpv:=zBe h.r h.n
 exact⟨by simp [World.setCell,Array.getElem?_modify,h.n,nodeO],h.r.frame (Fr.set w p 3 _) (fun j hj hm=>hpv ((show j=p by simpa using hm) ▸ hj)),trivial,h.hp⟩
theorem KJ.setK {C p:Nat} {d:ND} {w:World} {v:Value} (h:KJ C p d w v []) (k:Nat) (kk:Int) (hk:(k:Int)=kk):KJ C p { d with k:=k } (w.setCell ⟨p,0,none⟩ (.int .u8 kk)) v []:=by
 have hpv:=zBe h.r h.n
 subst hk
 exact⟨by simp [World.setCell,Array.getElem?_modify,h.n,nodeO],h.r.frame (Fr.set w p 0 _) (fun j hj hm=>hpv ((show j=p by simpa using hm) ▸ hj)),trivial,h.hp⟩
theorem KJ.onL {C p:Nat} {d:ND} {w4 w5 w6:World} {v:Value} {ts us:List Tr} {N:List Nat} (h:KJ C p d w4 v ts) (F:Fr N w4 w5) (hN:∀j ∈ N,j < C) (hC:C≤w4.heap.size)
  (hus:IsTL w5 (w4.heap.size≤·) us) (g cap:Nat)
  (hown:w6.ownsRow 0 26 1 (.slice (some ⟨g,0,none⟩) (ts.length+us.length) cap) (ts.length+us.length) ((ts.map Tr.p).map ptrV++(us.map Tr.p).map ptrV)) (hgrow:w5.grownBy w6 v.ownBlock) (hat:v.ownBlock=some g∨g=w5.heap.size) :
  KJ C p d (w6.setCell ⟨p,4,none⟩ (.slice (some ⟨g,0,none⟩) (ts.length+us.length) cap)) (.slice (some ⟨g,0,none⟩) (ts.length+us.length) cap) (ts++us):=by
 have h5:=h.fr F hN
 have F12:Fr (obL v) w5 w6:=Fr.of_grown hgrow
 have F3:=Fr.set w6 p 4 (.slice (some ⟨g,0,none⟩) (ts.length+us.length) cap)
 have hpv:=zBe h5.r h5.n
 have n3:w6.heap[p]?=some (nodeO d v):=(F12.block p (zAd h5.n) hpv).trans h5.n
 have hvold:∀j ∈ obL v,C≤j∧j < w4.heap.size:=fun j hj=>h.r.base j hj
 have hs45:=F.size
 have hgw:C≤g∧(g ∈ obL v∨w5.heap.size≤g):=by
  rcases hat with h1 | h1
  ·have:=(zBc v g).2 h1
   exact⟨(hvold g this).1,.inl this⟩
  ·exact⟨by omega,.inr (by omega)⟩
 have hR3:Row w6 (C≤·) (.slice (some ⟨g,0,none⟩) (ts.length+us.length) cap) ((ts++us).map Tr.p):=by
  refine⟨?_,fun k hk=>?_⟩
  ·have e1:((ts++us).map Tr.p).length=ts.length+us.length:=by simp
   have e2:((ts++us).map Tr.p).map ptrV=(ts.map Tr.p).map ptrV++(us.map Tr.p).map ptrV:=by simp
   rw [e1,e2]
   exact hown
  ·obtain rfl:g=k:=by simpa [Value.ownBlock] using hk
   exact hgw.1
 have hpg:p ∉ obL (.slice (some ⟨g,0,none⟩) (ts.length+us.length) cap):=zBe hR3 n3
 have hob:∀j,j ∈ obL (.slice (some ⟨g,0,none⟩) (ts.length+us.length) cap)→j=g:=fun j hj=>by simpa [obL,Value.ownBlock] using hj
 have F123:Fr (p::obL v) w5 (w6.setCell ⟨p,4,none⟩ (.slice (some ⟨g,0,none⟩) (ts.length+us.length) cap)):=(F12.mono (fun j hj=>List.mem_cons_of_mem _ hj)).trans F3 (fun j hj=>.inl (by
  obtain rfl:j=p:=by simpa using hj
  exact List.mem_cons_self))
 have hpn4:p < w4.heap.size:=zAd h.n
 refine⟨by simp [World.setCell,Array.getElem?_modify,n3,nodeO],hR3.frame F3 (fun j hj hm=>?_),?_,h.hp⟩
 ·obtain rfl:j=p:=by simpa using hm
  exact hpg hj
 ·refine IsTL.of fun u hu=>?_
  rcases List.mem_append.1 hu with hu | hu
  ·have q1:∀j,(C≤j∧j≠p∧j ∉ obL v)→j < w5.heap.size→(C≤j∧j≠p∧j ∉ obL (.slice (some ⟨g,0,none⟩) (ts.length+us.length) cap)):=fun j hj hl=>⟨hj.1,hj.2.1,fun hm=>by
    have e:=hob j hm
    subst e
    rcases hgw.2 with h1 | h1
    ·exact hj.2.2 h1
    ·omega⟩
   have q2:∀j,(C≤j∧j≠p∧j ∉ obL v)→j < w5.heap.size→(w6.setCell ⟨p,4,none⟩ (.slice (some ⟨g,0,none⟩) (ts.length+us.length) cap)).heap[j]?=w5.heap[j]?:=fun j hj hl=>F123.block j hl (fun hm=>by
    rcases List.mem_cons.1 hm with e | hm
    ·exact hj.2.1 e
    ·exact hj.2.2 hm)
   exact(h5.k.at u hu).keep q1 q2
  ·have q1:∀j,w4.heap.size≤j→j < w5.heap.size→(C≤j∧j≠p∧j ∉ obL (.slice (some ⟨g,0,none⟩) (ts.length+us.length) cap)):=fun j hj hl=>⟨by omega,by omega,fun hm=>by
    have e:=hob j hm
    subst e
    rcases hgw.2 with h1 | h1
    ·have:=(hvold j h1).2;omega
    ·omega⟩
   have q2:∀j,w4.heap.size≤j→j < w5.heap.size→(w6.setCell ⟨p,4,none⟩ (.slice (some ⟨g,0,none⟩) (ts.length+us.length) cap)).heap[j]?=w5.heap[j]?:=fun j hj hl=>F123.block j hl (fun hm=>by
    rcases List.mem_cons.1 hm with e | hm
    ·omega
    ·have:=(hvold j hm).2;omega)
   exact(hus.at u hu).keep q1 q2
theorem zWt (c:Rc) (E:Nat→Re) (w:World) (i:Nat) (h:RF c w i false) (hk:(tk c.ts i).1.k=2):Calls Tryz.prog 117 #[.pointer (some ⟨c.R,0,none⟩)] w (Tl c w.heap.size w (facM c.ts E i)):=by
 have hlt:i < c.ts.length:=zEq (by omega)
 have hm:facM c.ts E i=.ok (.node (nd 5 (tk c.ts i) [] (tk c.ts i).1.n) []) (i+1):=by
  rw [zDl c.ts E (zJm c.ts (by omega))]
  unfold operM
  rw [if_neg (by omega),if_pos hk]
 rw [hm]
 have hsc:=fun w a x y m=>zAg (P:=Tryz.prog) w a .f64 x y m
 obtain⟨px,py,e1⟩:=zAc (tk c.ts i).2.1.1 (tk c.ts i).2.1.2
 obtain⟨ex,ey,e2⟩:=zAc (tk c.ts i).2.2.1 (tk c.ts i).2.2.2
 have HN:=zAo c w i false h px py ex ey e1 e2
 obtain⟨t3,ht3⟩:∃t3,(⟨(tk c.ts i).1.x.toArray⟩:ByteArray)=t3:=⟨_,rfl⟩
 have HPX:=oH (oA e1 ht3)
 rw [ht3] at HN
 have HT:=oH h
 have hle:=h.le
 have hw1:wrap64 ((i:Int)+1)=(i:Int)+1:=w64 _ (by omega) (by omega)
 obtain⟨t4,ht4⟩:∃t4,(tk c.ts i).1.n=t4:=⟨_,rfl⟩
 have HT4:=oH ht4
 rw [ht4] at HN
 rw [hk] at HN
 have hcast:((2:Nat):Int)=2:=rfl
 rw [hcast] at HN
 obtain⟨t0,ht0⟩:∃t0:Int,2=t0:=⟨_,rfl⟩
 have HL:=oH hlt
 clear h hm e1 e2 ht3 ht4 hk hlt hcast ht0
 go_enter Tryz.func117,Tryz.ntmps117
 go_wp2_with fail
 refine HN.mono ?_
 rintro e w1 ⟨rfl,F1⟩
 clear HN
 go_upto_region 2 with fail
 obtain⟨w2,hw2⟩:∃w2,w1.alloc (.cells #[.int .u8 2,.complex .f64 px py,.complex .f64 ex ey,.string t3,.int .i64 t4] 71)=w2:=⟨_,rfl⟩
 have F2:Fr [] w1 w2:=by rw [← hw2];exact Fr.alloc _ _
 have T2:Fv w2 w1.heap.size (.int .u8 2) (.complex .f64 px py) (.complex .f64 ex ey) (.string t3) (.int .i64 t4):=by rw [← hw2];exact Fv.new _ _ _ _ _ _ _ _ rfl
 try rw [hw2]
 obtain⟨tb,htb⟩:∃tb,w1.heap.size=tb:=⟨_,rfl⟩
 rw [htb] at T2
 try rw [htb]
 have HTN:Hid (tb≠c.R∧w.heap.size≤tb):=oH (by have h1:=HT.out.lt;have h2:=F1.size;omega)
 have X:=HT.out.up (F1.on F2)
 have c2:=X.c2
 have d0:=T2.c0
 have H2:=oH (oA (F1.on F2) (oA X T2))
 have c1:=X.c1
 have f1:=X.f 1
 have X3:=X.next HL.out
 have H3:=oH X3
 clear hw2 htb F1 F2 T2 X X3
 go_upto_region 6 with fail
 obtain⟨w3,hw3⟩:∃w3,w2.setCell ⟨c.R,1,none⟩ (.int .i64 ((i:Int)+1))=w3:=⟨_,rfl⟩
 have F3:=Fr.set w2 c.R 1 (.int .i64 ((i:Int)+1))
 rw [hw3] at F3 H3
 try rw [hw3]
 have T3:=H2.out.2.2.fr F3 (by simp;exact HTN.out.1)
 have d1:=T3.c1
 have HNO:=zBk w3 5 5 rfl (tk c.ts i) [] px py HPX.out.1 ⟨#[]⟩ rfl none none _ _ rfl rfl
 have HF3:=oH ((H2.out.1.up0 (N:=[c.R])).on F3)
 have HT3:=oH T3
 clear F3 hw3 T3 c1 f1 c2 d0
 simp only [encP] at HNO
 go_wp2_with fail
 refine HNO.mono ?_
 rintro e w5 h5
 obtain⟨p,v,rfl,F5,hp,hK⟩:=NoV.kj (ts:=[]) h5 (C:=w.heap.size) (Nat.le_trans HF3.out.size (Nat.le_refl _)) (by simp)
 have T5:=HT3.out.fr F5 (by simp)
 have e0:=T5.c0
 have e4:=T5.c4
 have q3:=(NodeAt.mk hK.n).c3
 have g3:=(NodeAt.mk hK.n).f 3
 have HPN:Hid (p≠tb∧p≠c.R∧w.heap.size≤p):=oH (by
  have h1:=HT3.out.lt
  have h2:=H3.out.lt
  have h3:=HF3.out.size
  omega)
 have hpt:=HPN.out.1
 have H5:=oH (oA F5 (oA hK (H3.out.up F5)))
 clear h5 F5 hp hK T5 HNO d1
 simp only [ptrV]
 go_wp2_with fail
 go_ret
 have hK2:=H5.out.2.1.setN t4
 have FS:=Fr.set w5 p 3 (.int .i64 t4)
 refine Tl.mk_ok (u:=.node p (nd 5 (tk c.ts i) [] t4) []) (j:=i+1) (by rw [HT4.out];rfl) ((HF3.out.on0 H5.out.1).trans FS (fun j hj=>.inr (by simp at hj;have:=HPN.out.2.2;omega))) (H5.out.2.2.stay FS (by
  intro j hj
  have h1:=HPN.out.2.2
  have h2:=HT.out.lt
  simp at hj
  omega)) hK2.tree rfl
theorem zSq (c:Rc) (E:Nat→Re) (w:World) (i:Nat) (h:RF c w i false) (hk:(tk c.ts i).1.k=3):Calls Tryz.prog 117 #[.pointer (some ⟨c.R,0,none⟩)] w (Tl c w.heap.size w (facM c.ts E i)):=by
 have hlt:i < c.ts.length:=zEq (by omega)
 have hm:facM c.ts E i=.ok (.node (nd 6 (tk c.ts i) [] (tk c.ts i).1.n) []) (i+1):=by
  rw [zDl c.ts E (zJm c.ts (by omega))]
  unfold operM
  rw [if_neg (by omega),if_neg (by omega),if_pos hk]
 rw [hm]
 have hsc:=fun w a x y m=>zAg (P:=Tryz.prog) w a .f64 x y m
 obtain⟨px,py,e1⟩:=zAc (tk c.ts i).2.1.1 (tk c.ts i).2.1.2
 obtain⟨ex,ey,e2⟩:=zAc (tk c.ts i).2.2.1 (tk c.ts i).2.2.2
 have HN:=zAo c w i false h px py ex ey e1 e2
 obtain⟨t3,ht3⟩:∃t3,(⟨(tk c.ts i).1.x.toArray⟩:ByteArray)=t3:=⟨_,rfl⟩
 have HPX:=oH (oA e1 ht3)
 rw [ht3] at HN
 have HT:=oH h
 have hle:=h.le
 have hw1:wrap64 ((i:Int)+1)=(i:Int)+1:=w64 _ (by omega) (by omega)
 obtain⟨t4,ht4⟩:∃t4,(tk c.ts i).1.n=t4:=⟨_,rfl⟩
 have HT4:=oH ht4
 rw [ht4] at HN
 rw [hk] at HN
 have hcast:((3:Nat):Int)=3:=rfl
 rw [hcast] at HN
 obtain⟨t0,ht0⟩:∃t0:Int,3=t0:=⟨_,rfl⟩
 have HL:=oH hlt
 clear h hm e1 e2 ht3 ht4 hk hlt hcast ht0
 go_enter Tryz.func117,Tryz.ntmps117
 go_wp2_with fail
 refine HN.mono ?_
 rintro e w1 ⟨rfl,F1⟩
 clear HN
 go_upto_region 2 with fail
 obtain⟨w2,hw2⟩:∃w2,w1.alloc (.cells #[.int .u8 3,.complex .f64 px py,.complex .f64 ex ey,.string t3,.int .i64 t4] 71)=w2:=⟨_,rfl⟩
 have F2:Fr [] w1 w2:=by rw [← hw2];exact Fr.alloc _ _
 have T2:Fv w2 w1.heap.size (.int .u8 3) (.complex .f64 px py) (.complex .f64 ex ey) (.string t3) (.int .i64 t4):=by rw [← hw2];exact Fv.new _ _ _ _ _ _ _ _ rfl
 try rw [hw2]
 obtain⟨tb,htb⟩:∃tb,w1.heap.size=tb:=⟨_,rfl⟩
 rw [htb] at T2
 try rw [htb]
 have HTN:Hid (tb≠c.R∧w.heap.size≤tb):=oH (by have h1:=HT.out.lt;have h2:=F1.size;omega)
 have X:=HT.out.up (F1.on F2)
 have c2:=X.c2
 have d0:=T2.c0
 have H2:=oH (oA (F1.on F2) (oA X T2))
 have c1:=X.c1
 have f1:=X.f 1
 have X3:=X.next HL.out
 have H3:=oH X3
 clear hw2 htb F1 F2 T2 X X3
 go_upto_region 6 with fail
 obtain⟨w3,hw3⟩:∃w3,w2.setCell ⟨c.R,1,none⟩ (.int .i64 ((i:Int)+1))=w3:=⟨_,rfl⟩
 have F3:=Fr.set w2 c.R 1 (.int .i64 ((i:Int)+1))
 rw [hw3] at F3 H3
 try rw [hw3]
 have T3:=H2.out.2.2.fr F3 (by simp;exact HTN.out.1)
 have d1:=T3.c1
 have HNO:=zBk w3 5 5 rfl (tk c.ts i) [] px py HPX.out.1 ⟨#[]⟩ rfl none none _ _ rfl rfl
 have HF3:=oH ((H2.out.1.up0 (N:=[c.R])).on F3)
 have HT3:=oH T3
 clear F3 hw3 T3 c1 f1 c2 d0
 simp only [encP] at HNO
 go_wp2_with fail
 refine HNO.mono ?_
 rintro e w5 h5
 obtain⟨p,v,rfl,F5,hp,hK⟩:=NoV.kj (ts:=[]) h5 (C:=w.heap.size) (Nat.le_trans HF3.out.size (Nat.le_refl _)) (by simp)
 have T5:=HT3.out.fr F5 (by simp)
 have e0:=T5.c0
 have e4:=T5.c4
 have q3:=(NodeAt.mk hK.n).c3
 have g3:=(NodeAt.mk hK.n).f 3
 have q0:=(NodeAt.mk hK.n).c0
 have g0:=(NodeAt.mk hK.n).f 0
 have HPN:Hid (p≠tb∧p≠c.R∧w.heap.size≤p):=oH (by
  have h1:=HT3.out.lt
  have h2:=H3.out.lt
  have h3:=HF3.out.size
  omega)
 have hpt:=HPN.out.1
 have H5:=oH (oA F5 (oA hK (H3.out.up F5)))
 clear h5 F5 hp hK T5 HNO d1
 simp only [ptrV]
 go_upto_region 9 with fail
 obtain⟨w6,hw6⟩:∃w6,w5.setCell ⟨p,0,none⟩ (.int .u8 6)=w6:=⟨_,rfl⟩
 have FS0:=Fr.set w5 p 0 (.int .u8 6)
 have K6:=H5.out.2.1.setK 6 6 rfl
 rw [hw6] at FS0 K6
 try rw [hw6]
 have X6:=H5.out.2.2.stay FS0 (by
  intro j hj
  have h1:=HPN.out.2.2
  have h2:=HT.out.lt
  simp at hj
  omega)
 have T6:=(HT3.out.fr H5.out.1 (by simp)).fr FS0 (by simp;exact Ne.symm HPN.out.1)
 have y4:=T6.c4
 have y3:=(NodeAt.mk K6.n).c3
 have z3:=(NodeAt.mk K6.n).f 3
 have H6:=oH (oA FS0 (oA K6 X6))
 clear FS0 K6 X6 T6 hw6 q3 g3 q0 g0 e0 e4
 go_wp2_with fail
 go_ret
 have hK2:=H6.out.2.1.setN t4
 have FS:=Fr.set w6 p 3 (.int .i64 t4)
 have hfp:∀j ∈ [p],j ∈ [c.R]∨w.heap.size≤j:=fun j hj=>.inr (by simp at hj;have:=HPN.out.2.2;omega)
 refine Tl.mk_ok (u:=.node p (nd 6 (tk c.ts i) [] t4) []) (j:=i+1) (by rw [HT4.out];rfl) (((HF3.out.on0 H5.out.1).trans H6.out.1 hfp).trans FS hfp) (H6.out.2.2.stay FS (by
  intro j hj
  have h1:=HPN.out.2.2
  have h2:=HT.out.lt
  simp at hj
  omega)) hK2.tree rfl
theorem zWu (c:Rc) (E:Nat→Re) (w:World) (i:Nat) (h:RF c w i false) (hk:(tk c.ts i).1.k=4):Calls Tryz.prog 117 #[.pointer (some ⟨c.R,0,none⟩)] w (Tl c w.heap.size w (facM c.ts E i)):=by
 have hlt:i < c.ts.length:=zEq (by omega)
 have hm:facM c.ts E i=.ok (.node (nd 7 (tk c.ts i) (tk c.ts i).1.x 0) []) (i+1):=by
  rw [zDl c.ts E (zJm c.ts (by omega))]
  unfold operM
  rw [if_neg (by omega),if_neg (by omega),if_neg (by omega),if_pos hk]
 rw [hm]
 have hsc:=fun w a x y m=>zAg (P:=Tryz.prog) w a .f64 x y m
 obtain⟨px,py,e1⟩:=zAc (tk c.ts i).2.1.1 (tk c.ts i).2.1.2
 obtain⟨ex,ey,e2⟩:=zAc (tk c.ts i).2.2.1 (tk c.ts i).2.2.2
 have HN:=zAo c w i false h px py ex ey e1 e2
 obtain⟨t3,ht3⟩:∃t3,(⟨(tk c.ts i).1.x.toArray⟩:ByteArray)=t3:=⟨_,rfl⟩
 have HPX:=oH (oA e1 ht3)
 rw [ht3] at HN
 have HT:=oH h
 have hle:=h.le
 have hw1:wrap64 ((i:Int)+1)=(i:Int)+1:=w64 _ (by omega) (by omega)
 obtain⟨t4,ht4⟩:∃t4,(tk c.ts i).1.n=t4:=⟨_,rfl⟩
 have HT4:=oH ht4
 rw [ht4] at HN
 rw [hk] at HN
 have hcast:((4:Nat):Int)=4:=rfl
 rw [hcast] at HN
 have HL:=oH hlt
 clear h hm e1 e2 ht3 ht4 hk hlt hcast
 go_enter Tryz.func117,Tryz.ntmps117
 go_wp2_with fail
 refine HN.mono ?_
 rintro e w1 ⟨rfl,F1⟩
 clear HN
 go_upto_region 2 with fail
 obtain⟨w2,hw2⟩:∃w2,w1.alloc (.cells #[.int .u8 4,.complex .f64 px py,.complex .f64 ex ey,.string t3,.int .i64 t4] 71)=w2:=⟨_,rfl⟩
 have F2:Fr [] w1 w2:=by rw [← hw2];exact Fr.alloc _ _
 have T2:Fv w2 w1.heap.size (.int .u8 4) (.complex .f64 px py) (.complex .f64 ex ey) (.string t3) (.int .i64 t4):=by rw [← hw2];exact Fv.new _ _ _ _ _ _ _ _ rfl
 try rw [hw2]
 obtain⟨tb,htb⟩:∃tb,w1.heap.size=tb:=⟨_,rfl⟩
 rw [htb] at T2
 try rw [htb]
 have HTN:Hid (tb≠c.R∧w.heap.size≤tb):=oH (by have h1:=HT.out.lt;have h2:=F1.size;omega)
 have X:=HT.out.up (F1.on F2)
 have c2:=X.c2
 have d0:=T2.c0
 have H2:=oH (oA (F1.on F2) (oA X T2))
 have c1:=X.c1
 have f1:=X.f 1
 have X3:=X.next HL.out
 have H3:=oH X3
 clear hw2 htb F1 F2 T2 X X3
 go_upto_region 13 with fail
 obtain⟨w3,hw3⟩:∃w3,w2.setCell ⟨c.R,1,none⟩ (.int .i64 ((i:Int)+1))=w3:=⟨_,rfl⟩
 have F3:=Fr.set w2 c.R 1 (.int .i64 ((i:Int)+1))
 rw [hw3] at F3 H3
 try rw [hw3]
 have T3:=H2.out.2.2.fr F3 (by simp;exact HTN.out.1)
 have d1:=T3.c1
 have d3:=T3.c3
 have HNO:=zBk w3 7 7 rfl (tk c.ts i) (tk c.ts i).1.x px py HPX.out.1 t3 HPX.out.2 none none _ _ rfl rfl
 have HF3:=oH ((H2.out.1.up0 (N:=[c.R])).on F3)
 clear F3 hw3 T3 c1 f1 c2 d0
 simp only [encP] at HNO
 go_wp2_with fail
 refine HNO.mono ?_
 rintro e w5 h5
 obtain⟨p,v,rfl,F5,hp,hK⟩:=NoV.kj (ts:=[]) h5 (C:=w.heap.size) HF3.out.size (by simp)
 have H5:=oH (oA F5 (oA hK (H3.out.up F5)))
 clear h5 F5 hp hK HNO d1 d3
 simp only [ptrV]
 go_wp2_with fail
 go_ret
 exact Tl.mk_ok (u:=.node p (nd 7 (tk c.ts i) (tk c.ts i).1.x 0) []) (j:=i+1) rfl (HF3.out.on0 H5.out.1) H5.out.2.2 H5.out.2.1.tree rfl
theorem zQh (c:Rc) (E:Nat→Re) (hM:Mono E) (hE:CG c 65 E) (w:World) (i:Nat) (h:RF c w i false) (hb:isS (tk c.ts i) [123]=true) (hne:facM c.ts E i≠.out):Calls Tryz.prog 117 #[.pointer (some ⟨c.R,0,none⟩)] w (Tl c w.heap.size w (facM c.ts E i)):=by
 have hk:=zSp c.ts hb
 have hm:facM c.ts E i=(withM c.ts [125] (elemM c.ts E) i).re fun l=>.node (nd 8 (tk c.ts i) [] 0) (dt0::l):=by
  rw [zDl c.ts E (zJm c.ts (by omega)),zNi c.ts E hb]
  rfl
 rw [hm] at hne ⊢
 have hne2:withM c.ts [125] (elemM c.ts E) i≠.out:=fun e=>hne (by rw [e];rfl)
 have hsc:=fun w a x y m=>zAg (P:=Tryz.prog) w a .f64 x y m
 obtain⟨px,py,e1⟩:=zAc (tk c.ts i).2.1.1 (tk c.ts i).2.1.2
 obtain⟨ex,ey,e2⟩:=zAc (tk c.ts i).2.2.1 (tk c.ts i).2.2.2
 have HN:=zAo c w i false h px py ex ey e1 e2
 obtain⟨t3,ht3⟩:∃t3,(⟨(tk c.ts i).1.x.toArray⟩:ByteArray)=t3:=⟨_,rfl⟩
 have HPX:=oH (oA e1 ht3)
 rw [ht3] at HN
 have HT:=oH h
 have hle:=h.le
 have hw1:wrap64 ((i:Int)+1)=(i:Int)+1:=w64 _ (by omega) (by omega)
 obtain⟨t4,ht4⟩:∃t4,(tk c.ts i).1.n=t4:=⟨_,rfl⟩
 have HT4:=oH ht4
 rw [ht4] at HN
 obtain⟨t0,ht0⟩:∃t0:Int,((tk c.ts i).1.k:Int)=t0:=⟨_,rfl⟩
 rw [ht0] at HN
 have g2:(t0 == 2)=false:=by rw [← ht0];exact beq_eq_false_iff_ne.2 (by omega)
 have g3:(t0 == 3)=false:=by rw [← ht0];exact beq_eq_false_iff_ne.2 (by omega)
 have g4:(t0 == 4)=false:=by rw [← ht0];exact beq_eq_false_iff_ne.2 (by omega)
 have HB:=oH (oA hb hne2)
 have HSET:=oH (fun w h px py e1 C hR hC u hu=>zLz c E hM hE w i h (tk c.ts i) px py e1 C hR hC u hu hb hne2)
 clear h hm e1 e2 ht3 ht4 hk ht0 hb hne hne2 hM hE
 go_enter Tryz.func117,Tryz.ntmps117
 go_wp2_with fail
 refine HN.mono ?_
 rintro e w1 ⟨rfl,F1⟩
 clear HN
 go_upto_region 2 with fail
 obtain⟨w2,hw2⟩:∃w2,w1.alloc (.cells #[.int .u8 t0,.complex .f64 px py,.complex .f64 ex ey,.string t3,.int .i64 t4] 71)=w2:=⟨_,rfl⟩
 have F2:Fr [] w1 w2:=by rw [← hw2];exact Fr.alloc _ _
 have T2:Fv w2 w1.heap.size (.int .u8 t0) (.complex .f64 px py) (.complex .f64 ex ey) (.string t3) (.int .i64 t4):=by rw [← hw2];exact Fv.new _ _ _ _ _ _ _ _ rfl
 try rw [hw2]
 obtain⟨tb,htb⟩:∃tb,w1.heap.size=tb:=⟨_,rfl⟩
 rw [htb] at T2
 try rw [htb]
 have HTN:Hid (tb≠c.R∧w.heap.size≤tb):=oH (by have h1:=HT.out.lt;have h2:=F1.size;omega)
 have X:=HT.out.up (F1.on F2)
 have c2:=X.c2
 have d0:=T2.c0
 have H2:=oH (oA (F1.on F2) (oA X T2))
 have HS:=zAs c w2 i false [123] X
 clear hw2 htb F1 F2 T2 X
 simp only [pt] at HS
 rw [HB.out.1] at HS
 go_wp2_with fail
 refine HS.mono ?_
 rintro e w3 ⟨rfl,F3⟩
 have X3:=H2.out.2.1.up F3
 have T3:=H2.out.2.2.fr F3 (by simp)
 have d1:=T3.c1
 have H3:=oH (oA (H2.out.1.on F3) X3)
 clear F3 X3 T3 HS c2 d0
 have FA:=Fr.alloc w3 (.cells #[.int .u8 0,.complex .f64 0 0,.string ⟨#[]⟩,.int .i64 0,.slice none 0 0] 40)
 have hu:IsT (w3.alloc (.cells #[.int .u8 0,.complex .f64 0 0,.string ⟨#[]⟩,.int .i64 0,.slice none 0 0] 40)) (w.heap.size≤·) (.node w3.heap.size d0 []) :=
  ⟨H3.out.1.size,⟨.slice none 0 0,heap_alloc_new _ _,⟨World.ownsRow_nil _ _ _ _,fun g hg=>(by cases hg)⟩⟩,trivial⟩
 have HC:=HSET.out _ (H3.out.2.up FA) px py HPX.out.1 w.heap.size HT.out.lt (Nat.le_trans H3.out.1.size FA.size) _ hu
 have HFA:=oH FA
 clear FA hu
 simp only [Tr.p] at HC
 go_wp2_with fail
 refine HC.mono ?_
 rintro e w4 ⟨o,rfl,F4,hres⟩
 obtain⟨ov,hov⟩:∃ov,encP o=ov:=⟨_,rfl⟩
 rw [hov]
 have H4:=oH (oA F4 (oA hres hov))
 clear F4 hres hov HC
 go_wp2_with fail
 go_ret
 refine⟨o,by rw [H4.out.2.2];rfl,((H3.out.1.on HFA.out).up0).on H4.out.1,H4.out.2.1⟩
theorem zQi (c:Rc) (E:Nat→Re) (hE:CG c 65 E) (w:World) (i:Nat) (h:RF c w i false) (hp:isS (tk c.ts i) [40]=true) (hne:facM c.ts E i≠.out):Calls Tryz.prog 117 #[.pointer (some ⟨c.R,0,none⟩)] w (Tl c w.heap.size w (facM c.ts E i)):=by
 have hk:=zSp c.ts hp
 have hb:isS (tk c.ts i) [123]=false:=by
  cases h:isS (tk c.ts i) [123] with
  | false=>rfl
  | true=>rw [zDu c.ts h] at hp;cases hp
 obtain⟨RES,hRES⟩:∃RES,facM c.ts E i=RES:=⟨_,rfl⟩
 have hm:RES=(match E (i+1) with | .ok x j=>if isS (tk c.ts j) [41] then .ok x (j+1) else .bad j | .bad j=>.bad j | .out=>.out):=by
  rw [← hRES,zDl c.ts E (zJm c.ts (by omega)),zNj c.ts E hp]
 rw [hRES] at hne ⊢
 have hE2:E (i+1)≠.out:=fun e=>hne (by rw [hm,e])
 have hsc:=fun w a x y m=>zAg (P:=Tryz.prog) w a .f64 x y m
 obtain⟨px,py,e1⟩:=zAc (tk c.ts i).2.1.1 (tk c.ts i).2.1.2
 obtain⟨ex,ey,e2⟩:=zAc (tk c.ts i).2.2.1 (tk c.ts i).2.2.2
 have HN:=zAo c w i false h px py ex ey e1 e2
 obtain⟨t3,ht3⟩:∃t3,(⟨(tk c.ts i).1.x.toArray⟩:ByteArray)=t3:=⟨_,rfl⟩
 have HPX:=oH (oA e1 ht3)
 rw [ht3] at HN
 have HT:=oH h
 have hle:=h.le
 have hw1:wrap64 ((i:Int)+1)=(i:Int)+1:=w64 _ (by omega) (by omega)
 obtain⟨t4,ht4⟩:∃t4,(tk c.ts i).1.n=t4:=⟨_,rfl⟩
 have HT4:=oH ht4
 rw [ht4] at HN
 obtain⟨t0,ht0⟩:∃t0:Int,((tk c.ts i).1.k:Int)=t0:=⟨_,rfl⟩
 rw [ht0] at HN
 have g2:(t0 == 2)=false:=by rw [← ht0];exact beq_eq_false_iff_ne.2 (by omega)
 have g3:(t0 == 3)=false:=by rw [← ht0];exact beq_eq_false_iff_ne.2 (by omega)
 have g4:(t0 == 4)=false:=by rw [← ht0];exact beq_eq_false_iff_ne.2 (by omega)
 have HB:=oH (oA hb (oA hp (oA hm hE2)))
 have HE:=oH hE
 clear h hm e1 e2 ht3 ht4 hk ht0 hb hp hne hE2 hE hRES
 go_enter Tryz.func117,Tryz.ntmps117
 go_wp2_with fail
 refine HN.mono ?_
 rintro e w1 ⟨rfl,F1⟩
 clear HN
 go_upto_region 2 with fail
 obtain⟨w2,hw2⟩:∃w2,w1.alloc (.cells #[.int .u8 t0,.complex .f64 px py,.complex .f64 ex ey,.string t3,.int .i64 t4] 71)=w2:=⟨_,rfl⟩
 have F2:Fr [] w1 w2:=by rw [← hw2];exact Fr.alloc _ _
 have T2:Fv w2 w1.heap.size (.int .u8 t0) (.complex .f64 px py) (.complex .f64 ex ey) (.string t3) (.int .i64 t4):=by rw [← hw2];exact Fv.new _ _ _ _ _ _ _ _ rfl
 try rw [hw2]
 obtain⟨tb,htb⟩:∃tb,w1.heap.size=tb:=⟨_,rfl⟩
 rw [htb] at T2
 try rw [htb]
 have HTN:Hid (tb≠c.R∧w.heap.size≤tb):=oH (by have h1:=HT.out.lt;have h2:=F1.size;omega)
 have X:=HT.out.up (F1.on F2)
 have c2:=X.c2
 have d0:=T2.c0
 have H2:=oH (oA (F1.on F2) (oA X T2))
 have HS:=zAs c w2 i false [123] X
 clear hw2 htb F1 F2 T2 X
 simp only [pt] at HS
 rw [HB.out.1] at HS
 go_wp2_with fail
 refine HS.mono ?_
 rintro e w3 ⟨rfl,F3⟩
 have HS:=zBo c w3 i [40] (H2.out.2.1.up F3) HB.out.2.1
 have H3:=oH (H2.out.1.on F3)
 clear F3 c2 d0
 simp only [pt] at HS
 go_wp2_with fail
 refine HS.mono ?_
 rintro e w4 ⟨rfl,F4,X4⟩
 have HC:=HE.out w4 (i+1) X4 HB.out.2.2.2
 have H4:=oH ((H3.out.up0 (N:=[c.R])).on F4)
 clear F4 X4 HS H3 H2
 go_wp2_with fail
 refine HC.mono ?_
 rintro e w5 ⟨o,rfl,F5,⟨d,j,u,hr,rfl,X,hT,hd⟩ | ⟨j,hr,X⟩⟩
 ·have hm2:RES=if isS (tk c.ts j) [41]=true then .ok d (j+1) else .bad j:=by rw [HB.out.2.2.1,hr]
  have H5:=oH (oA (H4.out.on F5) (oA hT hd))
  have hs:w.heap.size≤w4.heap.size:=H4.out.size
  have HSZ:=oH hs
  clear F5 hT hd hr HC hs
  cases hq:isS (tk c.ts j) [41]
  ·have HQ:=zBq c w5 j false [41] X (by rw [hq];rfl)
   rw [if_neg (by rw [hq];simp)] at hm2
   have HM2:=oH hm2
   clear X hq hm2
   simp only [pt,encP,ptrV] at HQ ⊢
   go_wp2_with fail
   refine HQ.mono ?_
   rintro e w6 ⟨rfl,F6,X6⟩
   have H6:=oH (oA F6 X6)
   clear F6 X6 HQ
   go_wp2_with fail
   go_ret
   exact Tl.mk_bad (o:=some u.p) rfl HM2.out (H5.out.1.on H6.out.1) H6.out.2
  ·have HQ:=zCe c w5 j [41] X hq
   rw [if_pos hq] at hm2
   have HM2:=oH hm2
   clear X hq hm2
   simp only [pt,encP,ptrV] at HQ ⊢
   go_wp2_with fail
   refine HQ.mono ?_
   rintro e w6 ⟨rfl,F6,X6⟩
   have H6:=oH (oA F6 X6)
   clear F6 X6 HQ
   go_wp2_with fail
   go_ret
   exact Tl.mk_ok HM2.out (H5.out.1.on H6.out.1) H6.out.2 (zAt (zAk H5.out.2.1 H6.out.1 (by have h1:=HT.out.lt;have h2:=HSZ.out;simp;omega)) HSZ.out) H5.out.2.2
 ·have hm2:RES=.bad j:=by rw [HB.out.2.2.1,hr]
  obtain⟨ov,hov⟩:∃ov,encP o=ov:=⟨_,rfl⟩
  rw [hov]
  have HQ:=zBq c w5 j true [41] X rfl
  have H5:=oH (oA (H4.out.on F5) (oA hm2 hov))
  clear F5 hr X hm2 hov HC
  simp only [pt] at HQ
  go_wp2_with fail
  refine HQ.mono ?_
  rintro e w6 ⟨rfl,F6,X6⟩
  have H6:=oH (oA F6 X6)
  clear F6 X6 HQ
  go_wp2_with fail
  go_ret
  exact Tl.mk_bad H5.out.2.2 H5.out.2.1 (H5.out.1.on H6.out.1) H6.out.2
theorem zWv {c:Rc} {G:Nat→Re} {w0 w1 w2 w3:World} {i:Nat} {o:Option Nat} {e:Ending} {x:List UInt8} {RES:Re} (hs:w0.heap.size≤w1.heap.size) (F1:Fr [c.R] w0 w1) (F2:Fr [c.R] w1 w2) (hres:Itm c G (i+1) w1 w2 o)
  (hun:RES=(match G (i+1) with | .ok y j=>.ok (.node (nd 12 (tk c.ts i) x 0) [y]) j | .bad j=>.bad j | .out=>.out))
  (hN:NoV w2 (nd 12 (tk c.ts i) x 0) (o.toList++(none:Option Nat).toList) e w3):∃p,e=.returned (.pointer (some ⟨p,0,none⟩))∧Tl c w0.heap.size w0 RES (.returned (.pointer (some ⟨p,0,none⟩))) w3:=by
 have hs2:=F2.size
 rcases hres with⟨d,j,v,hE,rfl,X,hv,hd⟩ | ⟨j,hE,X⟩
 ·obtain⟨p,vv,rfl,F3,hp,hK⟩:=NoV.kj (ts:=[v]) hN (C:=w0.heap.size) (by omega) (by simpa using zAt hv hs)
  refine⟨p,rfl,Tl.mk_ok (u:=.node p (nd 12 (tk c.ts i) x 0) [v]) (j:=j) ?_ ((F1.on F2).on0 F3) (X.up F3) hK.tree rfl⟩
  rw [hun,hE,← hd]
  rfl
 ·obtain⟨p,vv,rfl,F3,hp,_⟩:=hN
  exact⟨p,rfl,Tl.mk_bad (o:=some p) (j:=j) rfl (by rw [hun,hE]) ((F1.on F2).on0 F3) (X.up F3)⟩
theorem zSr (c:Rc) (E:Nat→Re) (w:World) (i:Nat) (h:RF c w i false) (hn:isO notT (tk c.ts i)=true) (hF:∀w',RF c w' (i+1) false→Calls Tryz.prog 117 #[.pointer (some ⟨c.R,0,none⟩)] w' (Tl c w'.heap.size w' (facM c.ts E (i+1)))):Calls Tryz.prog 117 #[.pointer (some ⟨c.R,0,none⟩)] w (Tl c w.heap.size w (facM c.ts E i)):=by
 have hn2:=hn
 rw [isNot] at hn2
 simp only [Bool.and_eq_true,beq_iff_eq] at hn2
 obtain⟨hk,hx⟩:=hn2
 have hb:isS (tk c.ts i) [123]=false:=by unfold isS;rw [beq_eq_false_iff_ne.2 (by omega),Bool.false_and]
 have hp:isS (tk c.ts i) [40]=false:=by unfold isS;rw [beq_eq_false_iff_ne.2 (by omega),Bool.false_and]
 have hW:isW (tk c.ts i) [78,79,84]=true:=by unfold isW;rw [hk,hx];rfl
 obtain⟨RES,hRES⟩:∃RES,facM c.ts E i=RES:=⟨_,rfl⟩
 have hm:RES=(match facM c.ts E (i+1) with | .ok y j=>.ok (.node (nd 12 (tk c.ts i) [78,79,84] 0) [y]) j | .bad j=>.bad j | .out=>.out):=by
  rw [← hRES,zPz c.ts E hn,hx]
  cases facM c.ts E (i+1) <;> rfl
 rw [hRES]
 have hsc:=fun w a x y m=>zAg (P:=Tryz.prog) w a .f64 x y m
 obtain⟨px,py,e1⟩:=zAc (tk c.ts i).2.1.1 (tk c.ts i).2.1.2
 obtain⟨ex,ey,e2⟩:=zAc (tk c.ts i).2.2.1 (tk c.ts i).2.2.2
 have HN:=zAo c w i false h px py ex ey e1 e2
 obtain⟨t3,ht3⟩:∃t3,(⟨(tk c.ts i).1.x.toArray⟩:ByteArray)=t3:=⟨_,rfl⟩
 have HPX:=oH (oA e1 ht3)
 rw [ht3] at HN
 have HT:=oH h
 have hle:=h.le
 have hw1:wrap64 ((i:Int)+1)=(i:Int)+1:=w64 _ (by omega) (by omega)
 obtain⟨t4,ht4⟩:∃t4,(tk c.ts i).1.n=t4:=⟨_,rfl⟩
 have HT4:=oH ht4
 rw [ht4] at HN
 obtain⟨t0,ht0⟩:∃t0:Int,((tk c.ts i).1.k:Int)=t0:=⟨_,rfl⟩
 rw [ht0] at HN
 have g2:(t0 == 2)=false:=by rw [← ht0];exact beq_eq_false_iff_ne.2 (by omega)
 have g3:(t0 == 3)=false:=by rw [← ht0];exact beq_eq_false_iff_ne.2 (by omega)
 have g4:(t0 == 4)=false:=by rw [← ht0];exact beq_eq_false_iff_ne.2 (by omega)
 have HB:=oH (oA hb (oA hp (oA hW hm)))
 have HF:=oH hF
 clear h hm e1 e2 ht3 ht4 hk ht0 hb hp hn hx hW hF hRES
 go_enter Tryz.func117,Tryz.ntmps117
 go_wp2_with fail
 refine HN.mono ?_
 rintro e w1 ⟨rfl,F1⟩
 clear HN
 go_upto_region 2 with fail
 obtain⟨w2,hw2⟩:∃w2,w1.alloc (.cells #[.int .u8 t0,.complex .f64 px py,.complex .f64 ex ey,.string t3,.int .i64 t4] 71)=w2:=⟨_,rfl⟩
 have F2:Fr [] w1 w2:=by rw [← hw2];exact Fr.alloc _ _
 have T2:Fv w2 w1.heap.size (.int .u8 t0) (.complex .f64 px py) (.complex .f64 ex ey) (.string t3) (.int .i64 t4):=by rw [← hw2];exact Fv.new _ _ _ _ _ _ _ _ rfl
 try rw [hw2]
 obtain⟨tb,htb⟩:∃tb,w1.heap.size=tb:=⟨_,rfl⟩
 rw [htb] at T2
 try rw [htb]
 have HTN:Hid (tb≠c.R∧w.heap.size≤tb):=oH (by have h1:=HT.out.lt;have h2:=F1.size;omega)
 have X:=HT.out.up (F1.on F2)
 have c2:=X.c2
 have d0:=T2.c0
 have H2:=oH (oA (F1.on F2) (oA X T2))
 have HS:=zAs c w2 i false [123] X
 clear hw2 htb F1 F2 T2 X
 simp only [pt] at HS
 rw [HB.out.1] at HS
 go_wp2_with fail
 refine HS.mono ?_
 rintro e w3 ⟨rfl,F3⟩
 have HS:=zAu c w3 i false [40] (H2.out.2.1.up F3) (by rw [HB.out.2.1];rfl)
 have H3:=oH F3
 clear F3 c2 d0
 simp only [pt] at HS
 go_wp2_with fail
 refine HS.mono ?_
 rintro e w4 ⟨rfl,F4⟩
 have HS:=zAz c w4 i [78,79,84] ((H2.out.2.1.up H3.out).up F4) HB.out.2.2.1
 have H4:=oH (H3.out.on F4)
 clear F4 H3
 simp only [pt] at HS
 go_wp2_with fail
 refine HS.mono ?_
 rintro e w5 ⟨rfl,F5,X5⟩
 have HX:=oH X5
 have HTB:=oH ((H2.out.2.2.fr H4.out (by simp)).fr F5 (by simp;exact HTN.out.1))
 have HF05:=oH ((H2.out.1.on H4.out).up0.on F5)
 clear F5 X5 HS H2 H4
 have d1:=HTB.out.c1
 have HSS:∀w':World,Fr [c.R] w5 w'→w'.cell? ⟨tb,1,none⟩=some (.complex .f64 px py):=fun w' F=>(HTB.out.fr F (by simp;exact HTN.out.1)).c1
 have HR:∀w1:World,Fr [] w5 w1→Calls Tryz.prog 117 #[.pointer (some ⟨c.R,0,none⟩)] w1 fun e wz=>∃o a,encP o=.pointer a∧e=.returned (.pointer a)∧Fr [c.R] w5 wz∧Itm c (facM c.ts E) (i+1) w5 wz o:=fun w1 F1=>by
  refine(HF.out w1 (HX.out.up F1)).mono ?_
  rintro e wz ⟨o,rfl,F,hres⟩
  obtain⟨a,ha⟩:=zAx o
  refine⟨o,a,ha,by rw [ha],F1.up0.on F,?_⟩
  rcases hres with⟨d,j,u,h1,h2,h3,h4,h5⟩ | h
  ·exact .inl ⟨d,j,u,h1,h2,h3,zAt h4 F1.size,h5⟩
  ·exact .inr h
 have HNN:∀(wz:World) (o:Option Nat) (a:Option Addr),encP o=.pointer a→Calls Tryz.prog 101 #[.int .u8 12,.complex .f64 px py,.string ⟨#[78,79,84]⟩,.pointer a,.pointer none] wz (NoV wz (nd 12 (tk c.ts i) [78,79,84] 0) (o.toList++(none:Option Nat).toList)):=fun wz o a ha=>zBk wz 12 12 rfl (tk c.ts i) [78,79,84] px py HPX.out.1 ⟨#[78,79,84]⟩ rfl o none _ _ ha rfl
 have F0:Fr [] w5 w5.drew:=Fr.drew w5
 go_wp2_with fail
 go_region_law (first
   | (go_simp;go_at_call 117;refine(HR _ F0).mono ?_;rintro e w9 ⟨o,a,ha,rfl,F9,hres⟩;have t1:=HSS w9 F9)
   | (go_simp;go_at_call 101;refine(HNN _ o a ha).mono ?_;rintro e w10 hN;obtain⟨p10,rfl,hfin⟩:=zWv HF05.out.size HF05.out F9 hres HB.out.2.2.2 hN))
 all_goals
  have HFIN:=oH hfin
  clear hN ha F9 hres HR HNN HSS F0 t1 d1 hfin
  go_simp
  go_wp2_with fail
  go_ret
  exact HFIN.out
end Go.Proofs.YtepfknfadpkigaaGreat
namespace Go.Proofs.YtepfknfadpkigaaGreat
open Go.RowKit
set_option maxHeartbeats 4000000
set_option maxRecDepth 100000
theorem zWw (c:Rc) (E:Nat→Re) (i:Nat) (h2:(tk c.ts i).1.k≠2) (h3:(tk c.ts i).1.k≠3) (h4:(tk c.ts i).1.k≠4) (hb:isS (tk c.ts i) [123]=false) (hp:isS (tk c.ts i) [40]=false) (hn:isO notT (tk c.ts i)=false) :
  (∀j,desM c.ts E i=.bad j→facM c.ts E i=.bad j)∧(desM c.ts E i=.out→facM c.ts E i=.out)∧∀d j,desM c.ts E i=.ok d j→dotsD d=true ∧
   facM c.ts E i=(if isS (tk c.ts j) [123]=true∧quaD d=true then setM c.ts E (tk c.ts i) (some d) j else if isS (tk c.ts j) [40]=true then callM c.ts E d j else .ok d j):=by
 rw [zDl c.ts E hn,zQg c.ts E h2 h3 h4 hb hp]
 refine⟨fun j hd=>?_,fun hd=>?_,fun d j hd=>?_⟩
 ·by_cases hk:(tk c.ts i).1.k=1
  ·rw [if_pos hk];exact zWr c.ts E hk hd
  ·rw [if_neg hk]
   rw [zIg c.ts E i hk] at hd
   exact hd
 ·by_cases hk:(tk c.ts i).1.k=1
  ·rw [if_pos hk];exact zWs c.ts E hd
  ·rw [zIg c.ts E i hk] at hd;cases hd
 ·obtain⟨a,hk,b⟩:=qAp c.ts E hd
  rw [if_pos hk]
  exact⟨a,b⟩
theorem zMf (c:Rc) (E:Nat→Re) (hM:Mono E) (hE:CG c 65 E) (w:World) (i:Nat) (h:RF c w i false) (h2:(tk c.ts i).1.k≠2) (h3:(tk c.ts i).1.k≠3) (h4:(tk c.ts i).1.k≠4) (hb:isS (tk c.ts i) [123]=false) (hp:isS (tk c.ts i) [40]=false) (hn:isO notT (tk c.ts i)=false) (hne:facM c.ts E i≠.out) :
  Calls Tryz.prog 117 #[.pointer (some ⟨c.R,0,none⟩)] w (Tl c w.heap.size w (facM c.ts E i)):=by
 have hW:isW (tk c.ts i) [78,79,84]=false:=by rw [← hn,isNot];rfl
 have hfd:=zBb
 obtain⟨i0,hi,hz0,hz1,hz2⟩:=info_parts infoP
 have HFD:=oH (zWw c E i h2 h3 h4 hb hp hn)
 have hD:desM c.ts E i≠.out:=fun e=>hne (HFD.out.2.1 e)
 obtain⟨RES,hRES⟩:∃RES,facM c.ts E i=RES:=⟨_,rfl⟩
 rw [hRES] at HFD hne ⊢
 have hsc:=fun w a x y m=>zAg (P:=Tryz.prog) w a .f64 x y m
 obtain⟨px,py,e1⟩:=zAc (tk c.ts i).2.1.1 (tk c.ts i).2.1.2
 obtain⟨ex,ey,e2⟩:=zAc (tk c.ts i).2.2.1 (tk c.ts i).2.2.2
 have HN:=zAo c w i false h px py ex ey e1 e2
 obtain⟨t3,ht3⟩:∃t3,(⟨(tk c.ts i).1.x.toArray⟩:ByteArray)=t3:=⟨_,rfl⟩
 have HPX:=oH (oA e1 ht3)
 rw [ht3] at HN
 have HT:=oH h
 have hle:=h.le
 have hw1:wrap64 ((i:Int)+1)=(i:Int)+1:=w64 _ (by omega) (by omega)
 obtain⟨t4,ht4⟩:∃t4,(tk c.ts i).1.n=t4:=⟨_,rfl⟩
 have HT4:=oH ht4
 rw [ht4] at HN
 obtain⟨t0,ht0⟩:∃t0:Int,((tk c.ts i).1.k:Int)=t0:=⟨_,rfl⟩
 rw [ht0] at HN
 have g2:(t0 == 2)=false:=by rw [← ht0];exact beq_eq_false_iff_ne.2 (by omega)
 have g3:(t0 == 3)=false:=by rw [← ht0];exact beq_eq_false_iff_ne.2 (by omega)
 have g4:(t0 == 4)=false:=by rw [← ht0];exact beq_eq_false_iff_ne.2 (by omega)
 have HB:=oH (oA hb (oA hp (oA hW hD)))
 have HDES:=oH (zBx c E hM hE)
 have HSET:=oH (fun w j h px py e1 C hR hC u hu hb hne=>zLz c E hM hE w j h (tk c.ts i) px py e1 C hR hC u hu hb hne)
 have HARN:=oH (fun w j h hb hq=>zHh c w j h hb hq)
 have HARS:=oH (fun w j h hb hq hne=>zHg c E hM hE w j h hb hq hne)
 have HNE:=oH hne
 clear h e1 e2 ht3 ht4 h2 h3 h4 ht0 hb hp hn hW hE hRES hD hne hM
 go_enter Tryz.func117,Tryz.ntmps117
 go_wp2_with fail
 refine HN.mono ?_
 rintro e w1 ⟨rfl,F1⟩
 clear HN
 go_upto_region 2 with fail
 obtain⟨w2,hw2⟩:∃w2,w1.alloc (.cells #[.int .u8 t0,.complex .f64 px py,.complex .f64 ex ey,.string t3,.int .i64 t4] 71)=w2:=⟨_,rfl⟩
 have F2:Fr [] w1 w2:=by rw [← hw2];exact Fr.alloc _ _
 have T2:Fv w2 w1.heap.size (.int .u8 t0) (.complex .f64 px py) (.complex .f64 ex ey) (.string t3) (.int .i64 t4):=by rw [← hw2];exact Fv.new _ _ _ _ _ _ _ _ rfl
 try rw [hw2]
 obtain⟨tb,htb⟩:∃tb,w1.heap.size=tb:=⟨_,rfl⟩
 rw [htb] at T2
 try rw [htb]
 have HTN:Hid (tb≠c.R∧w.heap.size≤tb):=oH (by have h1:=HT.out.lt;have h2:=F1.size;omega)
 have X:=HT.out.up (F1.on F2)
 have c2:=X.c2
 have d0:=T2.c0
 have H2:=oH (oA (F1.on F2) (oA X T2))
 have HS:=zAs c w2 i false [123] X
 clear hw2 htb F1 F2 T2 X
 simp only [pt] at HS
 rw [HB.out.1] at HS
 go_wp2_with fail
 refine HS.mono ?_
 rintro e w3 ⟨rfl,F3⟩
 have HS:=zAu c w3 i false [40] (H2.out.2.1.up F3) (by rw [HB.out.2.1];rfl)
 have H3:=oH F3
 clear F3 c2 d0
 simp only [pt] at HS
 go_wp2_with fail
 refine HS.mono ?_
 rintro e w4 ⟨rfl,F4⟩
 have HS:=zAb c w4 i false [78,79,84] ((H2.out.2.1.up H3.out).up F4) (by rw [HB.out.2.2.1];rfl)
 have H4:=oH (H3.out.on F4)
 clear F4 H3
 simp only [pt] at HS
 go_wp2_with fail
 refine HS.mono ?_
 rintro e w5 ⟨rfl,F5⟩
 have HC:=HDES.out w5 i ((H2.out.2.1.up H4.out).up F5) HB.out.2.2.2
 have H5:=oH ((H2.out.1.on H4.out).on F5)
 have HTB:=oH ((H2.out.2.2.fr H4.out (by simp)).fr F5 (by simp))
 clear F5 HS H2 H4
 go_wp2_with fail
 refine HC.mono ?_
 rintro e w6 ⟨o,rfl,F6,⟨d,j,u,hr,rfl,X,hT,hd⟩ | ⟨j,hr,X⟩⟩
 ·obtain⟨hdd,hm⟩:=HFD.out.2.2 d j hr
  have hX0:=HT.out.lt
  have hT2:IsT w6 (w.heap.size≤·) u:=zAt hT H5.out.size
  have H6:=oH (oA ((H5.out.up0 (N:=[c.R])).on F6) (oA X (oA hT2 (oA hd (HTB.out.fr F6 (by simp;exact HTN.out.1))))))
  have HS:=zAs c w6 j false [123] X
  cases hb:isS (tk c.ts j) [123]
  ·rw [hb] at HS
   rw [if_neg (by rw [hb];simp)] at hm
   have HMH:=oH hm
   clear F6 X hT hT2 hd hr HC hdd hb hm
   have HS2:=oH (fun w F=>zAs c w j false [40] (H6.out.2.1.up (w':=w) F))
   simp only [pt,encP,ptrV] at HS HS2 ⊢
   go_wp2_with fail
   refine HS.mono ?_
   rintro e w7 ⟨rfl,F7⟩
   have HS:=HS2.out w7 F7
   have H7:=oH F7
   have hm:=HMH.out
   clear F7 HS2 HMH
   cases hq:isS (tk c.ts j) [40]
   ·rw [hq] at HS
    rw [if_neg (by rw [hq];simp)] at hm
    have HM:=oH hm
    clear hm hq
    go_wp2_with fail
    refine HS.mono ?_
    rintro e w8 ⟨rfl,F8⟩
    have H8:=oH (H7.out.on F8)
    clear F8 HS H7
    go_wp2_with fail
    go_ret
    obtain⟨F,X,hT,hd,_⟩:=H6.out
    exact Tl.mk_ok HM.out (F.on0 H8.out) (X.up H8.out) (zAk hT H8.out (by simp)) hd
   ·rw [hq] at HS
    rw [if_pos hq] at hm
    have HM:=oH (oA hm hq)
    obtain⟨qx,qy,e3⟩:=zAc (tk c.ts j).2.1.1 (tk c.ts j).2.1.2
    obtain⟨rx,ry,e4⟩:=zAc (tk c.ts j).2.2.1 (tk c.ts j).2.2.2
    have HNW:=oH (fun w F2=>zAo c w j false (H6.out.2.1.up (w':=w) F2) qx qy rx ry e3 e4)
    have HE3:=oH e3
    clear hm hq e3 e4
    generalize ((tk c.ts j).1.k:Int)=s0 at *
    generalize (⟨(tk c.ts j).1.x.toArray⟩:ByteArray)=s3 at *
    generalize (tk c.ts j).1.n=s4 at *
    go_wp2_with fail
    refine HS.mono ?_
    rintro e w8 ⟨rfl,F8⟩
    have HN:=HNW.out w8 (H7.out.on F8)
    have H8:=oH (H7.out.on F8)
    clear F8 HS H7 HNW
    go_wp2_with fail
    refine HN.mono ?_
    rintro e w9 ⟨rfl,F9⟩
    have HNO:=zBk w9 10 10 rfl (tk c.ts j) [] qx qy HE3.out ⟨#[]⟩ rfl (some u.p) none _ _ rfl rfl
    have H9:=oH (H8.out.on F9)
    clear F9 HN H8
    simp only [encP,ptrV] at HNO
    go_wp2_with fail
    refine HNO.mono ?_
    rintro e w10 h10
    have hVB:=h10
    obtain⟨p,v,rfl,F10,hp,hK⟩:=NoV.kj (ts:=[u]) h10 (C:=w.heap.size) (Nat.le_trans H6.out.1.size H9.out.size) (by simpa using zAk H6.out.2.2.1 H9.out (by simp))
    have X10:=H6.out.2.1.up (H9.out.on F10)
    have F010:=(H6.out.1.on0 H9.out).on0 F10
    have hR0:=HT.out.lt
    have HVB:Hid (∀q ∈ obL v,w.heap.size≤q):=oH (fun q hq=>(hK.r.base q hq).1)
    have HK:=oH (oA F010 (oA hK (oA X10 (Nat.le_trans (Nat.le_trans H6.out.1.size H9.out.size) hp))))
    have y4:=(NodeAt.mk hK.n).c4
    have fy4:=(NodeAt.mk hK.n).f 4
    clear hVB h10 F10 hp hK X10 F010 HNO
    have HSS:∀w':World,Fr (c.R::obL v) w10 w'→(w'.cell? ⟨p,4,none⟩=some v∧w'.frozen? ⟨p,4,none⟩=false):=fun w' F=>by
     have e3:=F.block p (zAd HK.out.2.1.n) (fun hm=>by
      rcases List.mem_cons.1 hm with e | hm
      ·have:=HK.out.2.1.hp;omega
      ·exact zBe HK.out.2.1.r HK.out.2.1.n hm)
     exact⟨(World.cell?_of_block (a:=⟨p,4,none⟩) e3).trans y4,(World.frozen?_of_block (a:=⟨p,4,none⟩) e3).trans fy4⟩
    have F0:Fr [] w10 w10.drew:=Fr.drew w10
    have hto:∀{w'},Fr [c.R] w10 w'→Fr (c.R::obL v) w10 w':=fun h=>h.mono (by simp)
    cases hz:isS (tk c.ts (j+1)) [41]
    ·have hw:withM c.ts [41] E j≠.out:=fun e=>HNE.out (by rw [HM.out.1];show (withM c.ts [41] E j).re _=_;rw [e];rfl)
     have HR:∀w1:World,Fr [] w10 w1→Calls Tryz.prog 71 #[.pointer (some ⟨c.R,0,none⟩)] w1 fun e wz=>∃g m cap news,e=.returned (.slice (some ⟨g,0,none⟩) m cap)∧Fr [c.R] w10 wz∧0 < m∧m≤20000∧news.length=m∧(∀j u,news[j]?=some u→wz.cell? ((⟨g,0,none⟩:Addr).add j)=some u)∧(∀u ∈ news,u.oneCell'=true) ∧
       ((∃l k us,withM c.ts [41] E j=.ok l k∧RF c wz k false∧news=(us.map Tr.p).map ptrV∧IsTL wz (w10.heap.size≤·) us∧dtL us=l)∨∃k,withM c.ts [41] E j=.bad k∧RF c wz k true):=fun w1 F1=>by
      refine(HARS.out w1 j (HK.out.2.2.1.up F1) HM.out.2 hz hw).mono ?_
      rintro e wz ⟨va,rfl,F,g,m,cap,news,rfl,a1,a2,a3,a4,a5,a6⟩
      refine⟨g,m,cap,news,rfl,F1.up0.on F,a1,a2,a3,a4,a5,?_⟩
      rcases a6 with⟨l,k,us,b1,b2,b3,b4,b5⟩ | b
      ·exact .inl ⟨l,k,us,b1,b2,b3,b4.keep (fun q hq _=>Nat.le_trans F1.size hq) (fun _ _ _=>rfl),b5⟩
      ·exact .inr b
     obtain⟨xs,hxs⟩:∃xs,(([u]:List Tr).map Tr.p).map ptrV=xs:=⟨_,rfl⟩
     have HXS:=oH hxs
     have hrow:∀w',Fr [c.R] w10 w'→w'.ownsRow 0 26 1 v 1 xs:=fun w' F=>by
      have h1:=zAf HK.out.2.1.r.1 F (fun j hj hm=>by
       have h2:=(HK.out.2.1.r.base j hj).1
       have h3:j=c.R:=by simpa using hm
       omega)
      rw [hxs] at h1
      exact h1
     clear hxs hw hz hR0
     simp only [ptrV]
     go_wp2_with fail
     go_region_law (first
       | (refine step_append_lies _ (by rfl) _ _ _ (by rfl) 0 26 i0 _ 1 8 Tryz.underlying38 hi hz0 hz1 hz2 rfl (by omega) v 1 _ (by rfl) (hrow _ F9) ⟨g,0,none⟩ m cap news (by rfl) (by omega) hnews hone hm0 (by unfold maxLen;omega) (by omega) (by omega) w9.heap.size rfl ?_;intro gl capl w6 hown hgrow hat hlt6;obtain⟨s1,s2⟩:=HSS w6 ((hto F9).trans (Fr.of_grown hgrow) (fun q hq=>.inl (List.mem_cons_of_mem _ hq))))
       | (go_simp;go_at_call 71;refine(HR _ F0).mono ?_;rintro e w9 ⟨g,m,cap,news,rfl,F9,hm0,hm1,hml,hnews,hone,hres⟩;obtain⟨t1,t2⟩:=HSS w9 (hto F9)))
     all_goals
      have FA:Fr (p::obL v) w9 (w6.setCell ⟨p,4,none⟩ (.slice (some ⟨gl,0,none⟩) (1+m) capl)):=((Fr.of_grown hgrow).mono (fun q hq=>List.mem_cons_of_mem _ hq)).trans (Fr.set w6 p 4 _) (fun q hq=>.inl (by simp at hq;simp [hq]))
      have hfar:∀q ∈ p::obL v,w.heap.size≤q:=fun q hq=>by
       rcases List.mem_cons.1 hq with rfl | hq
       ·exact HK.out.2.2.2
       ·exact HVB.out q hq
      have hfarR:∀q ∈ p::obL v,c.R < q:=fun q hq=>by have:=hfar q hq;have:=HT.out.lt;omega
      have hfin:Tl c w.heap.size w RES (.returned (.pointer (some ⟨p,0,none⟩))) (w6.setCell ⟨p,4,none⟩ (.slice (some ⟨gl,0,none⟩) (1+m) capl)):=by
       have FT:=(HK.out.1.on F9).trans FA (fun q hq=>.inr (hfar q hq))
       rcases hres with⟨l,k,us,b1,b2,b3,b4,b5⟩ | ⟨k,b1,b2⟩
       ·have hmu:m=us.length:=by rw [← hml,b3];simp
        subst hmu
        have hKL:=HK.out.2.1.onL F9 (by simp;have:=HT.out.lt;exact this) (Nat.le_trans HK.out.1.size (Nat.le_refl _)) b4 gl capl (by rw [HXS.out,← b3];exact hown) hgrow hat
        refine Tl.mk_ok (u:=.node p (nd 10 (tk c.ts j) [] 0) ([u]++us)) (j:=k) ?_ FT (b2.stay FA hfarR) hKL.tree rfl
        rw [HM.out.1]
        show (withM c.ts [41] E j).re _=_
        rw [b1,← b5,← H6.out.2.2.2.1]
        rfl
       ·refine Tl.mk_bad (o:=some p) (j:=k) rfl ?_ FT (b2.stay FA hfarR)
        rw [HM.out.1]
        show (withM c.ts [41] E j).re _=_
        rw [b1]
        rfl
      have HFIN:=oH hfin
      clear hfin FA hfar hfarR hown hgrow hat hlt6 HR HSS hrow F0 t1 t2 s1 s2 y4 fy4 hto F9 hres hnews hone
      go_wp2_with fail
      go_ret
      exact HFIN.out
    ·have HW:=oH (show withM c.ts [41] E j=.ok [] (j+2) by rw [zGl,if_pos hz])
     have HR:∀w1:World,Fr [] w10 w1→Calls Tryz.prog 71 #[.pointer (some ⟨c.R,0,none⟩)] w1 fun e wz=>e=.returned (.slice none 0 0)∧Fr [c.R] w10 wz∧RF c wz (j+2) false:=fun w1 F1=>by
      refine(HARN.out w1 j (HK.out.2.2.1.up F1) HM.out.2 hz).mono ?_
      rintro e wz ⟨rfl,F,X⟩
      exact⟨rfl,F1.up0.on F,X⟩
     obtain⟨gv,capv,hv,_,_⟩:=zIi HK.out.2.1.r.1 (by simp)
     have hv1:v=.slice (some ⟨gv,0,none⟩) 1 capv:=hv
     have HV1:=oH hv1
     have hcap:1≤capv:=by
      have h1:=HK.out.2.1.r.1
      rw [hv] at h1
      rcases h1.2 with⟨h3,h4⟩ | ⟨g,cap',cur,e1,e2,e3,e4,e5,e6,e7⟩
      ·simp at h4
      ·injection e1 with e1 _ e8
       subst e8
       simpa using e4
     have hcap2:¬capv < 1:=by omega
     clear hz hR0 hv
     subst hv1
     simp only [ptrV]
     go_wp2_with fail
     go_region_law (first
       | (go_simp;go_at_call 71;refine(HR _ F0).mono ?_;rintro e w9 ⟨rfl,F9,X9⟩;obtain⟨t1,t2⟩:=HSS w9 (hto F9)))
     all_goals
      have hfin:Tl c w.heap.size w RES (.returned (.pointer (some ⟨p,0,none⟩))) (w9.setCell ⟨p,4,none⟩ (.slice (some ⟨gv,0,none⟩) 1 capv)):=by
       have hK9:=HK.out.2.1.fr F9 (by simp;exact HT.out.lt)
       have FS:=Fr.set w9 p 4 (.slice (some ⟨gv,0,none⟩) 1 capv)
       have hpv:=zBe hK9.r hK9.n
       have hK':KJ w.heap.size p (nd 10 (tk c.ts j) [] 0) (w9.setCell ⟨p,4,none⟩ (.slice (some ⟨gv,0,none⟩) 1 capv)) (.slice (some ⟨gv,0,none⟩) 1 capv) [u] :=
        ⟨by simp [World.setCell,Array.getElem?_modify,hK9.n,nodeO],hK9.r.frame FS (fun q hq hm=>hpv ((show q=p by simpa using hm) ▸ hq)),hK9.k.keep (fun _ h _=>h) (fun q hq hl=>FS.block q hl (by simp;exact hq.2.1)),hK9.hp⟩
       refine Tl.mk_ok (u:=.node p (nd 10 (tk c.ts j) [] 0) [u]) (j:=j+2) ?_ ((HK.out.1.on F9).trans FS (fun q hq=>.inr (by simp at hq;have:=HK.out.2.2.2;omega))) (X9.stay FS (fun q hq=>by simp at hq;have:=HK.out.2.2.2;have:=HT.out.lt;omega)) hK'.tree rfl
       rw [HM.out.1]
       show (withM c.ts [41] E j).re _=_
       rw [HW.out,← H6.out.2.2.2.1]
       rfl
      have HFIN:=oH hfin
      clear hfin HR HSS F0 t1 t2 y4 fy4 hto F9 X9
      go_wp2_with fail
      go_ret
      exact HFIN.out
  ·rw [hb] at HS
   have HPL:=oH (fun wq (F:Fr [] w6 wq)=>zHf u.cnt u w.heap.size wq (Nat.le_refl _) (zAk hT2 F (by simp)) (by rw [hd];exact hdd))
   have HQD:Hid (quaD u.dt=quaD d):=oH (by rw [hd])
   have HBB:=oH hb
   have HSN:=oH (fun w F=>zAs c w j false [40] (H6.out.2.1.up (w':=w) F))
   have HPN:=oH (zDu c.ts hb)
   have HMH:=oH hm
   clear F6 X hT hT2 hd hr HC hdd hb hm
   simp only [pt,encP,ptrV] at HS HSN HPL ⊢
   go_wp2_with fail
   refine HS.mono ?_
   rintro e w7 ⟨rfl,F7⟩
   have HP:=HPL.out w7 F7
   rw [HQD.out] at HP
   have H7:=oH F7
   have hm:=HMH.out
   clear F7 HPL HS HMH
   cases hq:quaD d
   ·rw [hq] at HP
    rw [if_neg (by rw [hq];simp),if_neg (by rw [HPN.out];simp)] at hm
    have HS:=HSN.out w7 H7.out
    rw [HPN.out] at HS
    have HM:=oH hm
    clear hm hq HSN
    go_wp2_with fail
    refine HP.mono ?_
    rintro e w8 ⟨rfl,rfl⟩
    clear HP
    go_wp2_with fail
    refine HS.mono ?_
    rintro e w9 ⟨rfl,F9⟩
    have H9:=oH (H7.out.on F9)
    clear F9 HS H7
    go_wp2_with fail
    go_ret
    obtain⟨F,X,hT,hd,_⟩:=H6.out
    exact Tl.mk_ok HM.out (F.on0 H9.out) (X.up H9.out) (zAk hT H9.out (by simp)) hd
   ·rw [hq] at HP
    rw [if_pos ⟨HBB.out,hq⟩] at hm
    have hw:withM c.ts [125] (elemM c.ts E) j≠.out:=fun e=>HNE.out (by rw [hm];show (withM c.ts [125] (elemM c.ts E) j).re _=_;rw [e];rfl)
    have HM:=oH (oA hm hw)
    clear hm hq HSN hw
    go_wp2_with fail
    refine HP.mono ?_
    rintro e w8 ⟨rfl,rfl⟩
    have T8:=H6.out.2.2.2.2.fr H7.out (by simp)
    have d1:=T8.c1
    have HC:=HSET.out w8 j (H6.out.2.1.up H7.out) px py HPX.out.1 w.heap.size HT.out.lt (Nat.le_trans H6.out.1.size H7.out.size) u (zAk H6.out.2.2.1 H7.out (by simp)) HBB.out HM.out.2
    clear HP T8
    go_wp2_with fail
    refine HC.mono ?_
    rintro e w9 ⟨o,rfl,F9,hres⟩
    obtain⟨ov,hov⟩:∃ov,encP o=ov:=⟨_,rfl⟩
    rw [hov]
    have H9:=oH (oA F9 (oA hres hov))
    clear F9 hres hov HC
    go_wp2_with fail
    go_ret
    refine⟨o,by rw [H9.out.2.2];rfl,(H6.out.1.on0 H7.out).on H9.out.1,?_⟩
    have he:RES=(withM c.ts [125] (elemM c.ts E) j).re fun l=>.node (nd 8 (tk c.ts i) [] 0) (u.dt::l):=by rw [HM.out.1,← H6.out.2.2.2.1];rfl
    rw [he]
    exact H9.out.2.1
 ·have hm:=HFD.out.1 j hr
  obtain⟨ov,hov⟩:∃ov,encP o=ov:=⟨_,rfl⟩
  rw [hov]
  have HS:=zAs c w6 j true [123] X
  have HS2:=oH (fun w F=>zAs c w j true [40] (X.up (w':=w) F))
  have H6:=oH (oA ((H5.out.up0 (N:=[c.R])).on F6) (oA X (oA hm hov)))
  clear F6 X hm hov hr HC
  simp only [pt,Bool.not_true,Bool.false_and] at HS HS2
  go_wp2_with fail
  refine HS.mono ?_
  rintro e w7 ⟨rfl,F7⟩
  have HS:=HS2.out w7 F7
  have H7:=oH F7
  clear F7 HS2
  go_wp2_with fail
  refine HS.mono ?_
  rintro e w8 ⟨rfl,F8⟩
  have H8:=oH (H7.out.on F8)
  clear F8 HS H7
  go_wp2_with fail
  go_ret
  obtain⟨F,X,hm,hov⟩:=H6.out
  exact Tl.mk_bad hov hm (F.on0 H8.out) (X.up H8.out)
theorem zSs (c:Rc) (hS:Scd c.ts) (E:Nat→Re) (hM:Mono E) (hE:CG c 65 E):∀(n:Nat) (w:World) (i:Nat),c.ts.length - i≤n→RF c w i false→facM c.ts E i≠.out→Calls Tryz.prog 117 #[.pointer (some ⟨c.R,0,none⟩)] w (Tl c w.heap.size w (facM c.ts E i)):=by
 intro n
 induction n with
 | zero =>
  intro w i hn h hne
  have hz:tk c.ts i=zTK:=zCz (by omega)
  have f:∀s,isS (tk c.ts i) s=false:=fun s=>by rw [hz];rfl
  exact zMf c E hM hE w i h (by rw [hz];decide) (by rw [hz];decide) (by rw [hz];decide) (f _) (f _) (by rw [hz];rfl) hne
 | succ n ih =>
  intro w i hn h hne
  by_cases h2:(tk c.ts i).1.k=2
  ·exact zWt c E w i h h2
  by_cases h3:(tk c.ts i).1.k=3
  ·exact zSq c E w i h h3
  by_cases h4:(tk c.ts i).1.k=4
  ·exact zWu c E w i h h4
  cases hb:isS (tk c.ts i) [123] with
  | true=>exact zQh c E hM hE w i h hb hne
  | false =>
   cases hp:isS (tk c.ts i) [40] with
   | true=>exact zQi c E hE w i h hp hne
   | false =>
    cases ho:isO notT (tk c.ts i) with
    | false=>exact zMf c E hM hE w i h h2 h3 h4 hb hp ho hne
    | true =>
     have hl:=zCb rfl ho
     exact zSr c E w i h ho (fun w' h'=>ih w' (i+1) (by omega) h' (fun e=>hne (by rw [zPz c.ts E ho,e])))
theorem zBl (c:Rc) (hS:Scd c.ts):∀n,CG c 65 (exprM c.ts n)
 | 0=>fun w i h hne=>absurd rfl hne
 | n+1=>by
  have hM:=zAr (ts:=c.ts) n
  have h1:CG c 117 (facM c.ts (exprM c.ts n)):=fun w i h hne=>zSs c hS _ hM (zBl c hS n) _ w i (Nat.le_refl _) h hne
  exact zQe c hS _ hM (zSn c hS _ hM (zQd c hS _ hM h1))
end Go.Proofs.YtepfknfadpkigaaGreat
namespace Go.Proofs.YtepfknfadpkigaaGreat
open Go.RowKit
set_option maxHeartbeats 4000000
set_option maxRecDepth 100000
theorem zSt (c:Rc) (w:World) (i:Nat) (h:RF c w i false) (a:Option Addr):Calls Tryz.prog 19 #[.pointer (some ⟨c.R,0,none⟩),.pointer a] w fun e w'=>e=.returned (.tuple #[.pointer a,.int .i64 i,.int .i64 0])∧Fr [] w w':=by
 have c1:=h.c1
 have c2:=h.c2
 clear h
 go_enter Tryz.func19,Tryz.ntmps19
 go_wp2_with fail
 go_quiet (fail)
 go_wp2_with fail
 go_ret3
 exact⟨rfl,Fr.drewN _ _⟩
theorem zQj (c:Rc) (w:World) (i:Nat) (h:RF c w i true) (a:Option Addr):Calls Tryz.prog 19 #[.pointer (some ⟨c.R,0,none⟩),.pointer a] w fun e w'=>e=.returned (.tuple #[.pointer none,.int .i64 i,.int .i64 60])∧Fr [] w w':=by
 have c1:=h.c1
 have c2:=h.c2
 clear h
 go_enter Tryz.func19,Tryz.ntmps19
 go_wp2_with fail
 go_quiet (fail)
 go_wp2_with fail
 go_ret3
 exact⟨rfl,Fr.drewN _ _⟩
end Go.Proofs.YtepfknfadpkigaaGreat
end
