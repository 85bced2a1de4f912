/- Several texts in one. -/
import Derived.Test.YtepfknfadpkigaaGreatPkAA
import Derived.Test.YtepfknfadpkigaaGreatPkAV
import Derived.Test.YtepfknfadpkigaaGreatPkAS
import Derived.Test.YtepfknfadpkigaaGreatPkAG
import Derived.Test.YtepfknfadpkigaaGreatPkAB
import Derived.Deep.RegionHeld3
import Derived.Lib.AtoiErrMem
import Derived.Deep.AppendLies
import Derived.RegionTactic
import Derived.Deep.RegionHeldLaw
set_option linter.unusedVariables false
set_option linter.unusedSimpArgs false
section
namespace Go.Proofs.YtepfknfadpkigaaGreat
open Go.RowKit
set_option maxHeartbeats 4000000
set_option maxRecDepth 100000
theorem aT {P:Program} {md:Region.Mode} {ops:Array Oper} {Q:Exit→Act→World→Prop} {S:World→Prop} {L:Nat} (k i:Nat) {oi:Oper} {v:Value} {n:Nat} {listed l':Array Bool} {a a':Act} {w:World} (h:AnyL P md ops Q S L n l' a' w)
  (hi:ops[i]?=some oi:=by rfl) (hs:Region.noSelect ops=true:=by kernel_rfl) (hf:Region.free md ops listed i=true:=by kernel_rfl) (hr:(Region.ready md ops listed).contains i=true:=by kernel_rfl) (hw:(waits md ops i k L&&shutB md ops listed&&(i != L))=true:=by kernel_rfl)
  (hQ:∀c a w,Q (.panic c) (a.put oi.dst v) w→Q (.panic c) a w:=by exact fun _ _ _ h=>h) (hy:YieldsIf P ops S oi v a:=by refine Or.inl ⟨by rfl,?_⟩;intro w hSw;(try dsimp only at hSw);go_simp;try with_reducible rfl) (hS:S w:=by assumption)
  (ha:a.put oi.dst v=a':=by simp only[Act.put,oB,oC,oD,oE,oF,oG];try rfl) (hl:listed.setIfInBounds i true=l':=by first | (simp only [List.setIfInBounds_toArray,List.set_cons_zero,List.set_cons_succ];done) | rfl):AnyL P md ops Q S L (n+1) listed a w:=by
 subst ha hl
 exact zAh hi hs hf hr hw hQ hy hS h
end Go.Proofs.YtepfknfadpkigaaGreat
end
section
namespace Go.Proofs.YtepfknfadpkigaaGreat
open Go.RowKit
set_option maxHeartbeats 2000000
set_option maxRecDepth 100000
theorem zEk:∀(m:Nat) (s:List UInt8) (off:Nat),s.length≤m→(scanS off s).1.length≤s.length∧∀x ∈ (scanS off s).1,x.1.x.length≤3 * s.length
 | _,[],off,_=>by rw [zFp];exact⟨Nat.le_refl _,fun x hx=>by simp at hx⟩
 | 0,c::r,off,h=>by simp at h
 | m+1,c::r,off,h=>by
  have hne:(c::r)≠[]:=by simp
  have hcl:(c::r).length=r.length+1:=rfl
  rcases hq:stp (c::r) with⟨o,n,e⟩
  cases o with
  | some t =>
   obtain⟨k0,k1,k2,k3,k4⟩:=zGt _ hne t n e hq
   have hl:((c::r).drop n).length=(c::r).length - n:=List.length_drop
   rw [zFq off _ hne t n e hq]
   obtain⟨g1,g2⟩:=zEk m ((c::r).drop n) (off+n) (by omega)
   refine⟨by simp only [List.length_cons] at g1 ⊢;omega,fun x hx=>?_⟩
   rcases List.mem_cons.1 hx with rfl | hx
   ·have hx:t.x.length≤(txtT t).length:=by
     rcases k0 with h | h | h | h | h | h
     ·unfold txtT;rw [if_neg (by omega),if_neg (by omega),if_neg (by omega)];exact Nat.le_refl _
     ·unfold txtT;rw [if_neg (by omega),if_neg (by omega),if_neg (by omega)];exact Nat.le_refl _
     ·rw [h.2.1];exact Nat.zero_le _
     ·rw [h.2.1];exact Nat.zero_le _
     ·unfold txtT;rw [if_neg (by omega),if_neg (by omega),if_pos h.1];split <;> simp <;> omega
     ·unfold txtT;rw [if_neg (by omega),if_neg (by omega),if_neg (by omega)];exact Nat.le_refl _
    simp only;omega
   ·have:=g2 x hx;omega
  | none =>
   by_cases he:e=0
   ·subst he
    obtain⟨k1,k2⟩:=zFe _ hne n hq
    have hl:((c::r).drop n).length=(c::r).length - n:=List.length_drop
    rw [zEn off _ hne n hq]
    obtain⟨g1,g2⟩:=zEk m ((c::r).drop n) (off+n) (by omega)
    exact⟨by omega,fun x hx=>by have:=g2 x hx;omega⟩
   ·rw [zFr off _ hne n e he hq]
    exact⟨by simp,fun x hx=>by simp at hx⟩
theorem zWg (S:List UInt8):(rowT S).length≤S.length:=by
 unfold rowT
 split
 ·rw [List.length_map];exact(zEk _ S 0 (Nat.le_refl _)).1
 ·simp
theorem zWh (S:List UInt8) (h:S.length≤16384):∀x ∈ rowT S,x.1.x.length≤65536:=fun x hx=>by
 unfold rowT at hx
 split at hx
 ·obtain⟨y,hy,rfl⟩:=List.mem_map.1 hx
  have:=(zEk _ S 0 (Nat.le_refl _)).2 y hy
  show y.1.x.length≤65536
  omega
 ·simp at hx
theorem RowAt.up {w:World} {B B':Nat} {v:Value} {ts:List TK} (h:RowAt w B v ts) (hB:B≤B'):RowAt w B' v ts:=by
 obtain⟨q,cap,h1,h2⟩:=h
 refine⟨q,cap,h1,fun i x hx=>?_⟩
 obtain⟨g,e,hg,r⟩:=h2 i x hx
 exact⟨g,e,by omega,r⟩
theorem RowC.bel {w w':World} {v:Value} {ts:List TK} (h:RowC w w.heap.size v ts) (hb:Below w.heap.size w w'):RowC w' w'.heap.size v ts:=⟨(h.1.bel hb).up hb.size,h.2⟩
end Go.Proofs.YtepfknfadpkigaaGreat
end
section
namespace Go.Proofs.YtepfknfadpkigaaGreat
open Go.RowKit
set_option maxHeartbeats 2000000
set_option maxRecDepth 100000
def alikeD (d e:ND) (m n:Nat):Bool:=decide (d.k=e.k)&&decide (d.x=e.x)&&decide (d.n=e.n)&&decide (m=n)
theorem zUb (t:Tr):t.cnt=cntL t.ks+1:=by cases t;simp only [Tr.cnt,Tr.ks];omega
mutual
def sameT:Tr→Tr→Bool
 | .node _ d ks,.node _ e ls=>alikeD d e ks.length ls.length&&sameTL ks ls
def sameTL:List Tr→List Tr→Bool
 | t::r,u::s=>sameT t u&&sameTL r s
 | [],_=>true
 | _::_,[]=>true
end
def allS (L:List (Tr × Tr)):Bool:=L.all fun x=>sameT x.1 x.2
theorem zHb:∀ks ls:List Tr,sameTL ks ls=allS (ks.zip ls)
 | [],ls=>by simp [sameTL,allS]
 | t::r,[]=>by simp [sameTL,allS]
 | t::r,u::s=>by
  have:=zHb r s
  simp only [allS] at this
  simp [sameTL,allS,this]
theorem zSi (a b:List (Tr × Tr)):allS (a++b)=(allS a&&allS b):=by simp [allS]
theorem zSj (t u:Tr):sameT t u=(alikeD t.d u.d t.ks.length u.ks.length&&allS (t.ks.zip u.ks)):=by
 cases t;cases u
 simp [sameT,zHb,Tr.d,Tr.ks]
theorem zFj {w:World} {P:Nat→Prop} {t:Tr} (h:IsT w P t):∃q cap,w.heap[t.p]?=some (nodeO t.d (.slice q t.ks.length cap))∧Row w P (.slice q t.ks.length cap) (t.ks.map Tr.p):=by
 cases t
 obtain⟨_,⟨v,h2,h3⟩,_⟩:=h
 obtain⟨q,cap,rfl⟩:=h3.form
 rw [List.length_map] at h2 h3
 exact⟨q,cap,h2,h3⟩
theorem zSk {L:List (Tr × Tr)} {x:Tr × Tr} (h:x ∈ L) (hx:sameT x.1 x.2=false):allS L=false:=by
 rw [allS,List.all_eq_false]
 exact⟨x,h,by rw [hx];decide⟩
theorem zPx:∀(n:Nat) (t u:Tr) (w:World) {P Q:Nat→Prop},t.cnt≤n→IsT w P t→IsT w Q u →
  Calls Tryz.prog 13 #[ptrV t.p,ptrV u.p] w fun e w'=>e=.returned (.bool (sameT t u))∧Below w.heap.size w w':=by
 intro n
 induction n with
 | zero=>intro t u w P Q hn;have:=zJt t;omega
 | succ n ih =>
 intro t u w P Q hn hT hU
 have HIH:=oH ih
 clear ih
 obtain⟨qa,ca,ha,hra⟩:=zFj hT
 obtain⟨qb,cb,hb,hrb⟩:=zFj hU
 have hkT:∀k ∈ t.ks,IsT w P k:=by cases t;exact fun k hk=>hT.2.2.at k hk
 have hkU:∀k ∈ u.ks,IsT w Q k:=by cases u;exact fun k hk=>hU.2.2.at k hk
 have hcnt:∀k ∈ t.ks,k.cnt≤n:=fun k hk=>by
  have h1:=zNs k t.ks hk
  have h2:=zUb t
  omega
 have hP:NodeAt w t.p t.d (.slice qa t.ks.length ca):=⟨ha⟩
 have hQ:NodeAt w u.p u.d (.slice qb u.ks.length cb):=⟨hb⟩
 have p0:=hP.c0
 have p2:=hP.c2
 have p3:=hP.c3
 have p4:=hP.c4
 have q0:=hQ.c0
 have q2:=hQ.c2
 have q3:=hQ.c3
 have q4:=hQ.c4
 have ex:(⟨t.d.x.toArray⟩:ByteArray).toList=t.d.x:=by rw [ByteArray.toList_eq]
 have ey:(⟨u.d.x.toArray⟩:ByteArray).toList=u.d.x:=by rw [ByteArray.toList_eq]
 have hml:t.ks.length≤9223372036854775807:=by have:=Row.len_le hra;rwa [List.length_map] at this
 have HEQ:=oH (zSj t u)
 have HKS:=oH (oA hra (oA hrb (oA hkT (oA hkU hcnt))))
 clear hP hQ ha hb hT hU hra hrb hkT hkU hcnt hn
 simp only [ptrV]
 generalize hres:sameT t u=res at *
 clear hres
 obtain⟨m,hm⟩:∃m,t.ks.length=m:=⟨_,rfl⟩
 obtain⟨m2,hm2⟩:∃m2,u.ks.length=m2:=⟨_,rfl⟩
 rw [hm] at p4 hml
 rw [hm2] at q4
 by_cases h1:t.d.k=u.d.k
 ·have b1:((t.d.k:Int) == (u.d.k:Int))=true:=by simp [h1]
  have n1:((t.d.k:Int) != (u.d.k:Int))=false:=by rw [bne,b1];rfl
  by_cases h2:t.d.x=u.d.x
  ·have b2:((⟨t.d.x.toArray⟩:ByteArray).toList == (⟨u.d.x.toArray⟩:ByteArray).toList)=true:=by rw [ex,ey];simp [h2]
   have n2:((⟨t.d.x.toArray⟩:ByteArray).toList != (⟨u.d.x.toArray⟩:ByteArray).toList)=false:=by rw [bne,b2];rfl
   by_cases h3:t.d.n=u.d.n
   ·have b3:(t.d.n == u.d.n)=true:=by simp [h3]
    have n3:(t.d.n != u.d.n)=false:=by rw [bne,b3];rfl
    by_cases h4:m=m2
    ·have b4:((m:Int) == (m2:Int))=true:=by simp [h4]
     have n4:((m:Int) != (m2:Int))=false:=by rw [bne,b4];rfl
     subst h4
     have HAL:Hid (alikeD t.d u.d t.ks.length u.ks.length=true):=oH (by unfold alikeD;rw [hm,hm2];simp [h1,h2,h3])
     have HMM:=oH (oA hm hm2)
     clear ex ey h1 h2 h3 hm hm2
     generalize (t.d.k:Int)=dk at *
     generalize (u.d.k:Int)=ek at *
     generalize (⟨t.d.x.toArray⟩:ByteArray)=dx at *
     generalize (⟨u.d.x.toArray⟩:ByteArray)=exx at *
     generalize t.d.n=dn at *
     generalize u.d.n=en at *
     go_enter Tryz.func13,Tryz.ntmps13
     go_wp2_with fail
     go_quiet (fail)
     go_wp2_with fail
     go_loopw [5] (fun i wr=>∃j:Nat,j≤m∧i=.int .i64 j∧Below w.heap.size w wr∧allS ((t.ks.zip u.ks).take j)=true) (fun i _=>m - (intOf i).toNat)
     case atStart=>exact⟨0,Nat.zero_le _,rfl,(Fr.drewN w _).below _ (by simp) (Nat.le_refl _),by simp [allS]⟩
     case round =>
      obtain⟨j,hj,rfl,hB,hall⟩:=hrel
      have pp4:=(hB.cell (Lib.lt_of_cell p4)).trans p4
      have qq4:=(hB.cell (Lib.lt_of_cell q4)).trans q4
      by_cases hjm:j < m
      ·obtain⟨r1,r2,r3,r4,r5⟩:=HKS.out
       obtain⟨z1,z2⟩:=HMM.out
       obtain⟨k,hk⟩:∃k,t.ks[j]?=some k:=⟨_,List.getElem?_eq_getElem (by omega)⟩
       obtain⟨l,hl⟩:∃l,u.ks[j]?=some l:=⟨_,List.getElem?_eq_getElem (by omega)⟩
       have hz:(t.ks.zip u.ks)[j]?=some (k,l):=by rw [List.getElem?_zip_eq_some];exact⟨hk,hl⟩
       obtain⟨ga,cpa,hva,cK⟩:=Row.cell r1 j k.p (by rw [List.getElem?_map,hk];rfl)
       obtain⟨gb,cpb,hvb,cL⟩:=Row.cell r2 j l.p (by rw [List.getElem?_map,hl];rfl)
       have hqa:qa=some ⟨ga,0,none⟩:=by injection hva
       have hqb:qb=some ⟨gb,0,none⟩:=by injection hvb
       subst hqa;subst hqb
       have cK:=(hB.cell (Lib.lt_of_cell cK)).trans cK
       have cL:=(hB.cell (Lib.lt_of_cell cL)).trans cL
       simp only [ptrV] at cK cL
       have HR:∀w1:World,(w1.cell? ⟨t.p,4,none⟩=some (.slice (some ⟨ga,0,none⟩) m ca)∧w1.cell? ⟨u.p,4,none⟩=some (.slice (some ⟨gb,0,none⟩) m cb)∧w1.cell? ⟨ga,j,none⟩=some (.pointer (some ⟨k.p,0,none⟩))∧w1.cell? ⟨gb,j,none⟩=some (.pointer (some ⟨l.p,0,none⟩))∧Below w.heap.size w w1) →
         Calls Tryz.prog 13 #[.pointer (some ⟨k.p,0,none⟩),.pointer (some ⟨l.p,0,none⟩)] w1 fun e w2=>e=.returned (.bool (sameT k l))∧(w2.cell? ⟨t.p,4,none⟩=some (.slice (some ⟨ga,0,none⟩) m ca)∧w2.cell? ⟨u.p,4,none⟩=some (.slice (some ⟨gb,0,none⟩) m cb)∧w2.cell? ⟨ga,j,none⟩=some (.pointer (some ⟨k.p,0,none⟩))∧w2.cell? ⟨gb,j,none⟩=some (.pointer (some ⟨l.p,0,none⟩))∧Below w.heap.size w w2):=fun w1 ⟨s1,s2,s3,s4,s5⟩=>by
        refine(HIH.out k l w1 (r5 k (List.mem_of_getElem? hk)) ((r3 k (List.mem_of_getElem? hk)).below s5) ((r4 l (List.mem_of_getElem? hl)).below s5)).mono ?_
        rintro e w2 ⟨rfl,B⟩
        exact⟨rfl,(B.cell (Lib.lt_of_cell s1)).trans s1,(B.cell (Lib.lt_of_cell s2)).trans s2,(B.cell (Lib.lt_of_cell s3)).trans s3,(B.cell (Lib.lt_of_cell s4)).trans s4,s5.trans (B.mono s5.size)⟩
       have htk:(t.ks.zip u.ks).take (j+1)=(t.ks.zip u.ks).take j++[(k,l)]:=by rw [List.take_add_one,hz];rfl
       have HTK:=oH (oA htk (oA (List.mem_of_getElem? hz) hall))
       have hj0:(0:Int)≤(j:Int):=by omega
       have hj1:(j:Int) < (m:Int):=by omega
       clear hk hl hz hva hvb r1 r2 r3 r4 r5 z1 z2 htk hall
       obtain⟨sk,hsk⟩:∃sk,sameT k l=sk:=⟨_,rfl⟩
       have HSK:=oH hsk
       rw [hsk] at HR
       clear hsk
       go_wp2_with fail
       go_region_held3 (fun w'=>w'.cell? ⟨t.p,4,none⟩=some (.slice (some ⟨ga,0,none⟩) m ca)∧w'.cell? ⟨u.p,4,none⟩=some (.slice (some ⟨gb,0,none⟩) m cb)∧w'.cell? ⟨ga,j,none⟩=some (.pointer (some ⟨k.p,0,none⟩))∧w'.cell? ⟨gb,j,none⟩=some (.pointer (some ⟨l.p,0,none⟩))∧Below w.heap.size w w')
        (first | assumption | (exact⟨pp4,qq4,cK,cL,hB⟩) | (exact⟨pp4,qq4,cK,cL,hB.drew⟩) | (exact⟨hS.1,hS.2.1,hS.2.2.1,hS.2.2.2.1,hS.2.2.2.2.drew⟩))
        (first | (go_at_call 13;refine(HR _ (by assumption)).mono ?_;rintro e w9 ⟨rfl,hS⟩))
       have HB9:=oH hS.2.2.2.2
       clear HR hS pp4 qq4 cK cL
       cases sk
       ·go_wp2_with fail
        go_ret
        refine⟨?_,HB9.out⟩
        rw [HEQ.out,zSk HTK.out.2.1 HSK.out,Bool.and_false];rfl
       ·go_wp2_with fail
        go_roundw
        case rel=>exact⟨j+1,by omega,by simp,HB9.out,by rw [HTK.out.1,zSi,HTK.out.2.2];simp [allS,HSK.out]⟩
        case measure=>simp [intOf];omega
      ·obtain rfl:j=m:=by omega
       have HB:=oH hB
       have hfin:Hid (res=true):=oH (by
        obtain⟨z1,z2⟩:=HMM.out
        rw [List.take_of_length_le (by rw [List.length_zip];omega)] at hall
        rw [HEQ.out,HAL.out,hall];rfl)
       clear hB hall
       go_wp2_with fail
       go_ret
       exact⟨by rw [hfin.out];rfl,HB.out⟩
    ·have b4:((m:Int) == (m2:Int))=false:=beq_eq_false_iff_ne.2 (fun h=>h4 (by omega))
     have n4:((m:Int) != (m2:Int))=true:=by rw [bne,b4];rfl
     have HF:Hid (res=false):=oH (by rw [HEQ.out];unfold alikeD;rw [hm,hm2];simp [h1,h2,h3,h4])
     clear ex ey hm hm2 h1 h2 h3 h4
     generalize (t.d.k:Int)=dk at *
     generalize (u.d.k:Int)=ek at *
     generalize (⟨t.d.x.toArray⟩:ByteArray)=dx at *
     generalize (⟨u.d.x.toArray⟩:ByteArray)=exx at *
     generalize t.d.n=dn at *
     generalize u.d.n=en at *
     go_enter Tryz.func13,Tryz.ntmps13
     go_wp2_with fail
     go_quiet (fail)
     go_wp2_with fail
     go_ret
     exact⟨by rw [HF.out];rfl,(Fr.drewN w _).below _ (by simp) (Nat.le_refl _)⟩
   ·have b3:(t.d.n == u.d.n)=false:=beq_eq_false_iff_ne.2 h3
    have n3:(t.d.n != u.d.n)=true:=by rw [bne,b3];rfl
    have HF:Hid (res=false):=oH (by rw [HEQ.out];unfold alikeD;rw [hm,hm2];simp [h1,h2,h3])
    clear ex ey hm hm2 h1 h2 h3
    generalize (t.d.k:Int)=dk at *
    generalize (u.d.k:Int)=ek at *
    generalize (⟨t.d.x.toArray⟩:ByteArray)=dx at *
    generalize (⟨u.d.x.toArray⟩:ByteArray)=exx at *
    generalize t.d.n=dn at *
    generalize u.d.n=en at *
    go_enter Tryz.func13,Tryz.ntmps13
    go_wp2_with fail
    go_quiet (fail)
    go_wp2_with fail
    go_ret
    exact⟨by rw [HF.out];rfl,(Fr.drewN w _).below _ (by simp) (Nat.le_refl _)⟩
  ·have b2:((⟨t.d.x.toArray⟩:ByteArray).toList == (⟨u.d.x.toArray⟩:ByteArray).toList)=false:=by rw [ex,ey];exact beq_eq_false_iff_ne.2 h2
   have n2:((⟨t.d.x.toArray⟩:ByteArray).toList != (⟨u.d.x.toArray⟩:ByteArray).toList)=true:=by rw [bne,b2];rfl
   have HF:Hid (res=false):=oH (by rw [HEQ.out];unfold alikeD;rw [hm,hm2];simp [h1,h2])
   clear ex ey hm hm2 h1 h2
   generalize (t.d.k:Int)=dk at *
   generalize (u.d.k:Int)=ek at *
   generalize (⟨t.d.x.toArray⟩:ByteArray)=dx at *
   generalize (⟨u.d.x.toArray⟩:ByteArray)=exx at *
   generalize t.d.n=dn at *
   generalize u.d.n=en at *
   go_enter Tryz.func13,Tryz.ntmps13
   go_wp2_with fail
   go_quiet (fail)
   go_wp2_with fail
   go_ret
   exact⟨by rw [HF.out];rfl,(Fr.drewN w _).below _ (by simp) (Nat.le_refl _)⟩
 ·have b1:((t.d.k:Int) == (u.d.k:Int))=false:=beq_eq_false_iff_ne.2 (fun h=>h1 (by omega))
  have n1:((t.d.k:Int) != (u.d.k:Int))=true:=by rw [bne,b1];rfl
  have HF:Hid (res=false):=oH (by rw [HEQ.out];unfold alikeD;rw [hm,hm2];simp [h1])
  clear ex ey hm hm2 h1
  generalize (t.d.k:Int)=dk at *
  generalize (u.d.k:Int)=ek at *
  generalize (⟨t.d.x.toArray⟩:ByteArray)=dx at *
  generalize (⟨u.d.x.toArray⟩:ByteArray)=exx at *
  generalize t.d.n=dn at *
  generalize u.d.n=en at *
  go_enter Tryz.func13,Tryz.ntmps13
  go_wp2_with fail
  go_quiet (fail)
  go_wp2_with fail
  go_ret
  exact⟨by rw [HF.out];rfl,(Fr.drewN w _).below _ (by simp) (Nat.le_refl _)⟩
end Go.Proofs.YtepfknfadpkigaaGreat
end
