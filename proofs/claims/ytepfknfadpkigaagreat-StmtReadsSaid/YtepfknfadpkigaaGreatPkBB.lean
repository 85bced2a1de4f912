/- Several texts in one. -/
import Derived.Test.YtepfknfadpkigaaGreatPkAA
import Derived.Test.YtepfknfadpkigaaGreatPkAA
import Derived.Laws.FloatArith
import Derived.Laws.Cover2
import Derived.Laws.Cover3
import Derived.Test.YtepfknfadpkigaaGreatPkAD
import Derived.Laws.ComplexArith
import Derived.Test.YtepfknfadpkigaaGreatPkAW
set_option linter.unusedVariables false
set_option linter.unusedSimpArgs false
section
namespace Go.Proofs.YtepfknfadpkigaaGreat
open Go.RowKit
set_option maxHeartbeats 400000
set_option maxRecDepth 100000
theorem zKn (l c:Int):∃l' c',0≤l'∧l'≤1073741824∧0≤c'∧c'≤1073741824∧posV l c=.complex .f64 (floatOfInt .f64 l') (floatOfInt .f64 c')∧posV l' c'=posV l c∧((isP l c=true∧l'=l∧c'=c)∨(isP l c=false∧l'=0∧c'=0)):=by
 cases h:isP l c
 ·refine⟨0,0,by omega,by omega,by omega,by omega,?_,?_,.inr ⟨rfl,rfl,rfl⟩⟩
  ·rw [zDw l c h,zUp];rfl
  ·rw [zDw l c h,zDw 0 0 zHm]
 ·obtain⟨h1,h2,h3,h4⟩:=(zDo l c).1 h
  exact⟨l,c,by omega,h2,by omega,h4,zNr l c h,rfl,.inl ⟨rfl,rfl,rfl⟩⟩
theorem zUg (n:Int) (h0:0≤n) (h1:n < 9007199254740992):floatOfInt .f64 n=flN n.toNat:=by
 rw [← zDv n.toNat (by omega),Int.toNat_of_nonneg h0]
end Go.Proofs.YtepfknfadpkigaaGreat
end
section
namespace Go.Proofs.YtepfknfadpkigaaGreat
open Go.RowKit
set_option maxHeartbeats 400000
set_option maxRecDepth 100000
def pEq (l c m d:Int):Bool:=(isP l c == isP m d)&&(!isP l c||(l == m&&c == d))
theorem zWp (m n:Int) (h0:0≤m) (h1:m≤1073741824) (g0:0≤n) (g1:n≤1073741824):FloatKind.f64.format.order (floatOfInt .f64 m) (floatOfInt .f64 n)=some (compare m.toNat n.toNat):=by
 rw [zUg m h0 (by omega),zUg n g0 (by omega)]
 exact zRj _ _ (by omega) (by omega)
theorem zUh (m n:Int) (h0:0≤m) (h1:m≤1073741824) (g0:0≤n) (g1:n≤1073741824):(FloatKind.f64.format.order (floatOfInt .f64 m) (floatOfInt .f64 n) == some .eq)=(m == n):=by
 rw [zWp m n h0 h1 g0 g1]
 by_cases h:m=n
 ·subst h;rw [Nat.compare_eq_eq.2 rfl];simp
 ·have:(m == n)=false:=beq_eq_false_iff_ne.2 h
  rw [this]
  rcases Nat.lt_or_gt_of_ne (show m.toNat≠n.toNat by omega) with k | k
  ·rw [Nat.compare_eq_lt.2 k];rfl
  ·rw [Nat.compare_eq_gt.2 k];rfl
theorem zWq {P:Program} (l c m d:Int) (t:TypeId) (w:World):(binOp .eql t (posV l c) (posV m d)).run P w=.ok (.bool (pEq l c m d)) w:=by
 obtain⟨l',c',a1,a2,a3,a4,a5,_,a7⟩:=zKn l c
 obtain⟨m',d',b1,b2,b3,b4,b5,_,b7⟩:=zKn m d
 rw [a5,b5,run_eql_complex,zUh l' m' a1 a2 b1 b2,zUh c' d' a3 a4 b3 b4]
 congr 2
 unfold pEq
 rcases a7 with⟨ha,rfl,rfl⟩ | ⟨ha,rfl,rfl⟩
 ·rcases b7 with⟨hb,rfl,rfl⟩ | ⟨hb,rfl,rfl⟩
  ·rw [ha,hb];rfl
  ·rw [ha,hb]
   have:=(zDo _ _).1 ha
   simp;omega
 ·rcases b7 with⟨hb,rfl,rfl⟩ | ⟨hb,rfl,rfl⟩
  ·rw [ha,hb]
   have:=(zDo _ _).1 hb
   simp;omega
  ·rw [ha,hb];rfl
end Go.Proofs.YtepfknfadpkigaaGreat
namespace Go.Proofs.YtepfknfadpkigaaGreat
open Go.RowKit
set_option maxHeartbeats 4000000
set_option maxRecDepth 100000
theorem zSo {P:Program} (l c:Int) (t:TypeId) (w:World):(binOp .neq t (posV l c) (posV l c)).run P w=.ok (.bool false) w:=by
 have h:=zWq (P:=P) l c l c t w
 have hp:pEq l c l c=true:=by unfold pEq;simp
 rw [hp] at h
 obtain⟨l',c',a1,a2,a3,a4,a5,_,a7⟩:=zKn l c
 rw [a5] at h ⊢
 rw [run_eql_complex] at h
 rw [run_neq_complex]
 injection h with h1 _
 injection h1 with h2
 rw [h2];rfl
def SimD (d e:ND):Prop:=d.k=e.k∧d.x=e.x∧d.n=e.n∧posV d.l d.c=posV e.l e.c
mutual
def SimT:Tr→Tr→Prop
 | .node _ d ks,.node _ e ls=>SimD d e∧SimTL ks ls
def SimTL:List Tr→List Tr→Prop
 | [],[]=>True
 | t::r,u::s=>SimT t u∧SimTL r s
 | [],_::_=>False
 | _::_,[]=>False
end
theorem zEl:∀{ks ls:List Tr},SimTL ks ls→ks.length=ls.length
 | [],[],_=>rfl
 | _::_,_::_,h=>by simp [zEl h.2]
 | [],_::_,h=>h.elim
 | _::_,[],h=>h.elim
theorem zMc:∀{ks ls:List Tr},SimTL ks ls→∀(j:Nat) (k l:Tr),ks[j]?=some k→ls[j]?=some l→SimT k l
 | [],[],_,j,k,l,h1,_=>by simp at h1
 | t::r,u::s,h,0,k,l,h1,h2=>by
  simp at h1 h2
  rw [← h1,← h2];exact h.1
 | t::r,u::s,h,j+1,k,l,h1,h2=>zMc h.2 j k l (by simpa using h1) (by simpa using h2)
 | [],_::_,h,_,_,_,_,_=>h.elim
 | _::_,[],h,_,_,_,_,_=>h.elim
theorem zNg {t u:Tr} (h:SimT t u):SimD t.d u.d∧SimTL t.ks u.ks:=by cases t;cases u;exact h
mutual
theorem zMd:∀t u:Tr,SimT t u→sameT t u=true
 | .node p d ks,.node q e ls,h=>by
  obtain⟨⟨h1,h2,h3,_⟩,h4⟩:=h
  rw [sameT,zJl ks ls h4,← zEl h4]
  simp [alikeD,h1,h2,h3]
theorem zJl:∀ks ls:List Tr,SimTL ks ls→sameTL ks ls=true
 | [],_,_=>by simp [sameTL]
 | _::_,[],h=>h.elim
 | t::r,u::s,h=>by rw [sameTL,zMd t u h.1,zJl r s h.2];rfl
end
mutual
theorem zUi:∀t u:Tr,u.dt=t.dt→SimT t u
 | .node p d ks,.node q e ls,h=>by
  simp only [Tr.dt] at h
  injection h with h1 h2
  exact⟨by rw [h1];exact⟨rfl,rfl,rfl,rfl⟩,zQf ks ls h2⟩
theorem zQf:∀ks ls:List Tr,dtL ls=dtL ks→SimTL ks ls
 | [],[],_=>trivial
 | [],_::_,h=>by simp [dtL] at h
 | _::_,[],h=>by simp [dtL] at h
 | t::r,u::s,h=>by
  simp only [dtL] at h
  injection h with h1 h2
  exact⟨zUi t u h1,zQf r s h2⟩
end
theorem zNh:∀(n:Nat) (t u:Tr) (w:World) {P Q:Nat→Prop},t.cnt≤n→IsT w P t→IsT w Q u→SimT t u →
  Calls Tryz.prog 11 #[ptrV t.p,ptrV u.p] w fun e w'=>e=.returned (.bool true)∧Below w.heap.size w w':=by
 intro n
 induction n with
 | zero=>intro t u w P Q hn;have:=zJt t;omega
 | succ n ih =>
 intro t u w P Q hn hT hU hS
 have HSM:=zPx (n+1) t u w hn hT hU
 rw [zMd t u hS] at HSM
 obtain⟨⟨_,_,_,hpos⟩,hks⟩:=zNg hS
 have HIH:=oH ih
 clear ih
 obtain⟨qa,ca,ha,hra⟩:=zFj hT
 obtain⟨qb,cb,hb,hrb⟩:=zFj hU
 have hkT:∀k ∈ t.ks,IsT w P k:=by cases t;exact fun k hk=>hT.2.2.at k hk
 have hkU:∀k ∈ u.ks,IsT w Q k:=by cases u;exact fun k hk=>hU.2.2.at k hk
 have hcnt:∀k ∈ t.ks,k.cnt≤n:=fun k hk=>by
  have h1:=zNs k t.ks hk
  have h2:=zUb t
  omega
 have hP:NodeAt w t.p t.d (.slice qa t.ks.length ca):=⟨ha⟩
 have hQ:NodeAt w u.p u.d (.slice qb u.ks.length cb):=⟨hb⟩
 have p1:=hP.c1
 have p4:=hP.c4
 have q1:=hQ.c1
 have q4:=hQ.c4
 have hml:t.ks.length≤9223372036854775807:=by have:=Row.len_le hra;rwa [List.length_map] at this
 have hqq:=fun T w=>zSo (P:=Tryz.prog) t.d.l t.d.c T w
 rw [← hpos] at q1
 obtain⟨px,py,hpx⟩:=zAc t.d.l t.d.c
 rw [hpx] at p1 q1 hqq
 have HKS:=oH (oA hra (oA hrb (oA hkT (oA hkU (oA hcnt hks)))))
 have HLN:=oH (zEl hks)
 rw [← zEl hks] at q4
 clear hP hQ ha hb hT hU hra hrb hkT hkU hcnt hn hS hpos hks hpx
 obtain⟨m,hm⟩:∃m,t.ks.length=m:=⟨_,rfl⟩
 rw [hm] at p4 q4 hml
 have HMM:=oH hm
 clear hm
 simp only [ptrV] at HSM ⊢
 go_enter Tryz.func11,Tryz.ntmps11
 go_wp2_with fail
 refine HSM.mono ?_
 rintro e w1 ⟨rfl,B1⟩
 have pp1:=(B1.cell (Lib.lt_of_cell p1)).trans p1
 have qq1:=(B1.cell (Lib.lt_of_cell q1)).trans q1
 have HB1:=oH B1
 clear HSM B1
 go_wp2_with fail
 go_quiet (fail)
 clear pp1 qq1 p1 q1
 go_wp2_with fail
 go_loopw [5] (fun i wr=>∃j:Nat,j≤m∧i=.int .i64 j∧Below w.heap.size w wr) (fun i _=>m - (intOf i).toNat)
 case atStart=>exact⟨0,Nat.zero_le _,rfl,HB1.out.trans ((Fr.drewN w1 _).below _ (by simp) HB1.out.size)⟩
 case round =>
  obtain⟨j,hj,rfl,hB⟩:=hrel
  have pp4:=(hB.cell (Lib.lt_of_cell p4)).trans p4
  have qq4:=(hB.cell (Lib.lt_of_cell q4)).trans q4
  by_cases hjm:j < m
  ·obtain⟨r1,r2,r3,r4,r5,r6⟩:=HKS.out
   have z1:=HMM.out
   have z2:=HLN.out
   obtain⟨k,hk⟩:∃k,t.ks[j]?=some k:=⟨_,List.getElem?_eq_getElem (by omega)⟩
   obtain⟨l,hl⟩:∃l,u.ks[j]?=some l:=⟨_,List.getElem?_eq_getElem (by omega)⟩
   have hsk:=zMc r6 j k l hk hl
   obtain⟨ga,cpa,hva,cK⟩:=Row.cell r1 j k.p (by rw [List.getElem?_map,hk];rfl)
   obtain⟨gb,cpb,hvb,cL⟩:=Row.cell r2 j l.p (by rw [List.getElem?_map,hl];rfl)
   have hqa:qa=some ⟨ga,0,none⟩:=by injection hva
   have hqb:qb=some ⟨gb,0,none⟩:=by injection hvb
   subst hqa;subst hqb
   have cK:=(hB.cell (Lib.lt_of_cell cK)).trans cK
   have cL:=(hB.cell (Lib.lt_of_cell cL)).trans cL
   simp only [ptrV] at cK cL
   have HR:∀w1:World,(w1.cell? ⟨t.p,4,none⟩=some (.slice (some ⟨ga,0,none⟩) m ca)∧w1.cell? ⟨u.p,4,none⟩=some (.slice (some ⟨gb,0,none⟩) m cb)∧w1.cell? ⟨ga,j,none⟩=some (.pointer (some ⟨k.p,0,none⟩))∧w1.cell? ⟨gb,j,none⟩=some (.pointer (some ⟨l.p,0,none⟩))∧Below w.heap.size w w1) →
     Calls Tryz.prog 11 #[.pointer (some ⟨k.p,0,none⟩),.pointer (some ⟨l.p,0,none⟩)] w1 fun e w2=>e=.returned (.bool true)∧(w2.cell? ⟨t.p,4,none⟩=some (.slice (some ⟨ga,0,none⟩) m ca)∧w2.cell? ⟨u.p,4,none⟩=some (.slice (some ⟨gb,0,none⟩) m cb)∧w2.cell? ⟨ga,j,none⟩=some (.pointer (some ⟨k.p,0,none⟩))∧w2.cell? ⟨gb,j,none⟩=some (.pointer (some ⟨l.p,0,none⟩))∧Below w.heap.size w w2):=fun w1 ⟨s1,s2,s3,s4,s5⟩=>by
    refine(HIH.out k l w1 (r5 k (List.mem_of_getElem? hk)) ((r3 k (List.mem_of_getElem? hk)).below s5) ((r4 l (List.mem_of_getElem? hl)).below s5) hsk).mono ?_
    rintro e w2 ⟨rfl,B⟩
    exact⟨rfl,(B.cell (Lib.lt_of_cell s1)).trans s1,(B.cell (Lib.lt_of_cell s2)).trans s2,(B.cell (Lib.lt_of_cell s3)).trans s3,(B.cell (Lib.lt_of_cell s4)).trans s4,s5.trans (B.mono s5.size)⟩
   have hj0:(0:Int)≤(j:Int):=by omega
   have hj1:(j:Int) < (m:Int):=by omega
   clear hk hl hva hvb r1 r2 r3 r4 r5 r6 z1 z2 hsk
   go_wp2_with fail
   go_region_held3 (fun w'=>w'.cell? ⟨t.p,4,none⟩=some (.slice (some ⟨ga,0,none⟩) m ca)∧w'.cell? ⟨u.p,4,none⟩=some (.slice (some ⟨gb,0,none⟩) m cb)∧w'.cell? ⟨ga,j,none⟩=some (.pointer (some ⟨k.p,0,none⟩))∧w'.cell? ⟨gb,j,none⟩=some (.pointer (some ⟨l.p,0,none⟩))∧Below w.heap.size w w')
    (first | assumption | (exact⟨pp4,qq4,cK,cL,hB⟩) | (exact⟨pp4,qq4,cK,cL,hB.drew⟩) | (exact⟨hS.1,hS.2.1,hS.2.2.1,hS.2.2.2.1,hS.2.2.2.2.drew⟩))
    (first | (go_at_call 11;refine(HR _ (by assumption)).mono ?_;rintro e w9 ⟨rfl,hS⟩))
   have HB9:=oH hS.2.2.2.2
   clear HR hS pp4 qq4 cK cL
   go_wp2_with fail
   go_roundw
   case rel=>exact⟨j+1,by omega,by simp,HB9.out⟩
   case measure=>simp [intOf];omega
  ·obtain rfl:j=m:=by omega
   have HB:=oH hB
   clear hB
   go_wp2_with fail
   go_ret
   exact⟨rfl,HB.out⟩
end Go.Proofs.YtepfknfadpkigaaGreat
end
