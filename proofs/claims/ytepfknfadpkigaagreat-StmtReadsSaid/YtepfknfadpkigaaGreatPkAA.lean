/- Several texts in one. -/
import Derived.Lib.Hide
import Derived.Deep.RegionHeld
import Derived.Test.YtepfknfadpkigaaGreatRows
import Derived.ProofKit
import Derived.OpenShut
import Derived.ChangeSlices
import Derived.Laws.ComplexArith
import GoSem.Extern.MathFloor
import Derived.Test.YtepfknfadpkigaaGreatProg
import Derived.WalkKit
import Derived.WalkLawsBesides
import Derived.Deep.QuietTactic
import Derived.BigQuiet
import Derived.Laws.AppendOwn
import Derived.Lib.Builder
import Derived.Lib.ItoaMem
import Derived.Maps.Own
import Derived.LaidEql
import Derived.OneCell
import Derived.Deep.AppendLies
import Derived.Laws.OwnMore
set_option linter.unusedVariables false
set_option linter.unusedSimpArgs false
section
namespace Go.Proofs.YtepfknfadpkigaaGreat
theorem oH {p:Prop} (h:p):Go.RowKit.Hid p:=Lib.hid h
theorem oA {p q:Prop} (h:p) (g:q):p∧q:=⟨h,g⟩
theorem oB:type_of% @List.setIfInBounds_toArray:=@List.setIfInBounds_toArray
theorem oC:type_of% @List.set_cons_zero:=@List.set_cons_zero
theorem oD:type_of% @List.set_cons_succ:=@List.set_cons_succ
theorem oE:type_of% @List.getElem_toArray:=@List.getElem_toArray
theorem oF:type_of% @List.getElem_cons_zero:=@List.getElem_cons_zero
theorem oG:type_of% @List.getElem_cons_succ:=@List.getElem_cons_succ
end Go.Proofs.YtepfknfadpkigaaGreat
end
section
namespace Go.Proofs.YtepfknfadpkigaaGreat
open Go Go.ChangeShapes Go.WideShapes Go.ChangeAt Go.RowKit
theorem of_wf_i64 {n:Int} (h:(Lit.int .i64 n).wf=true):-9223372036854775808≤n∧n≤9223372036854775807:=by
 have e1:IntKind.i64.min=-9223372036854775808:=rfl
 have e2:IntKind.i64.max=9223372036854775807:=rfl
 simp [Lit.wf,e1,e2] at h
 exact h
theorem ownK:ownKnob Tryz.prog.godebug=none:=by kernel_rfl
end Go.Proofs.YtepfknfadpkigaaGreat
end
section
namespace Go.Proofs.YtepfknfadpkigaaGreat
open Go Ieee
def flN (n:Nat):Nat:=if n=0 then 0 else (1022+n.log2) * 2 ^ 52+n * 2 ^ (52 - n.log2)
theorem zKs:double.leastPlace=-1074:=by decide
theorem zGr:double.binade=2 ^ 52:=rfl
theorem zNm:double.infRung=2047 * 2 ^ 52:=by decide
theorem zRi:double.signWeight=2 ^ 63:=by decide
theorem zNn (n:Nat) (h0:n≠0) (h1:n < 2 ^ 53):n.log2≤52∧2 ^ n.log2≤n∧n < 2 ^ (n.log2+1):=by
 refine⟨?_,Nat.log2_self_le h0,Nat.lt_log2_self⟩
 have:=(Nat.log2_lt h0 (k:=53)).2 h1
 omega
theorem zNo (n:Nat) (h0:n≠0) (h1:n < 2 ^ 53):2 ^ 52≤n * 2 ^ (52 - n.log2)∧n * 2 ^ (52 - n.log2) < 2 ^ 53:=by
 obtain⟨a,b,c⟩:=zNn n h0 h1
 have e1:2 ^ 52=2 ^ n.log2 * 2 ^ (52 - n.log2):=by rw [← Nat.pow_add];congr 1;omega
 have e2:2 ^ 53=2 ^ (n.log2+1) * 2 ^ (52 - n.log2):=by rw [← Nat.pow_add];congr 1;omega
 rw [e1,e2]
 exact⟨Nat.mul_le_mul_right _ b,Nat.mul_lt_mul_of_pos_right c (Nat.two_pow_pos _)⟩
theorem zIr (n k:Nat) (h0:n≠0):(n * 2 ^ k).log2=n.log2+k:=by
 have hp:0 < 2 ^ k:=Nat.two_pow_pos k
 have hne:n * 2 ^ k≠0:=Nat.mul_ne_zero h0 (by omega)
 have h1:2 ^ (n.log2+k)≤n * 2 ^ k:=by rw [Nat.pow_add];exact Nat.mul_le_mul_right _ (Nat.log2_self_le h0)
 have h2:n * 2 ^ k < 2 ^ (n.log2+k+1):=by
  rw [show n.log2+k+1=(n.log2+1)+k by omega,Nat.pow_add]
  exact Nat.mul_lt_mul_of_pos_right Nat.lt_log2_self hp
 have a:=(Nat.le_log2 hne).2 h1
 have b:=(Nat.log2_lt hne).2 h2
 omega
theorem zNp (q g:Nat) (neg:Bool) (hg:0 < g):(q * g) / g+(decide (g < 2 * ((q * g) % g))||(g == 2 * ((q * g) % g)&&(q * g) / g % 2 == 1)).toNat=q:=by
 rw [Nat.mul_mod_left,Nat.mul_div_cancel _ hg]
 have:(g == 2 * 0)=false:=by rw [beq_eq_false_iff_ne];omega
 rw [this];simp
theorem zTn (way:Toward) (hw:way=.even∨way=.zero) (neg:Bool) (n drop q g:Nat) (hg:1 <<< min drop (n.log2+2)=g) (h0:0 < g) (hn:n=q * g):way.cut neg n drop=q:=by
 unfold Toward.cut
 simp only [hg]
 rw [hn]
 rcases hw with rfl | rfl
 ·exact zNp q g neg h0
 ·simp only [Bool.toNat_false,Nat.add_zero]
  exact Nat.mul_div_cancel _ h0
theorem zFn (n k:Nat) (h0:n≠0) (h1:n < 2 ^ 53) (hk:k≤1074):double.nearest false (n * 2 ^ k) (-(k:Int))=flN n:=by
 obtain⟨a,b,c⟩:=zNn n h0 h1
 obtain⟨m0,m1⟩:=zNo n h0 h1
 have hne:n * 2 ^ k≠0:=Nat.mul_ne_zero h0 (by have:=Nat.two_pow_pos k;omega)
 unfold Format.nearest
 rw [if_neg hne,zIr n k h0,zKs,zNm,zGr]
 have el:max (-(k:Int)+((n.log2+k:Nat):Int) - ((double.fractionBits:Nat):Int)) (-1074)=(n.log2:Int) - 52:=by
  rw [show double.fractionBits=52 from rfl];omega
 simp only [el]
 have e0:((n.log2:Int) - 52 - -1074).toNat=1022+n.log2:=by omega
 rw [e0]
 have ek:Toward.even.cut false ((n * 2 ^ k) <<< (-(k:Int) - ((n.log2:Int) - 52)).toNat) ((n.log2:Int) - 52 - -(k:Int)).toNat=n * 2 ^ (52 - n.log2):=by
  by_cases hc:k≤52 - n.log2
  ·have e1:(-(k:Int) - ((n.log2:Int) - 52)).toNat=52 - n.log2 - k:=by omega
   have e2:((n.log2:Int) - 52 - -(k:Int)).toNat=0:=by omega
   rw [e1,e2]
   refine zTn .even (.inl rfl) false _ 0 _ 1 (by rw [Nat.zero_min];rfl) (by omega) ?_
   rw [Nat.shiftLeft_eq,Nat.mul_assoc,← Nat.pow_add,show k+(52 - n.log2 - k)=52 - n.log2 by omega,Nat.mul_one]
  ·have e1:(-(k:Int) - ((n.log2:Int) - 52)).toNat=0:=by omega
   have e2:((n.log2:Int) - 52 - -(k:Int)).toNat=k - (52 - n.log2):=by omega
   rw [e1,e2,Nat.shiftLeft_zero]
   refine zTn .even (.inl rfl) false _ _ _ (2 ^ (k - (52 - n.log2))) (by rw [zIr n k h0,show min (k - (52 - n.log2)) (n.log2+k+2)=k - (52 - n.log2) by omega,Nat.one_shiftLeft]) (Nat.two_pow_pos _) ?_
   rw [Nat.mul_assoc,← Nat.pow_add];congr 2;omega
 rw [ek]
 unfold Format.word flN
 rw [if_neg h0]
 simp only [Bool.false_eq_true,if_false]
 have hle:(1022+n.log2) * 2 ^ 52≤(1022+52) * 2 ^ 52:=Nat.mul_le_mul_right _ (by omega)
 omega
theorem zEv (place:Int):double.nearest false 0 place=flN 0:=by
 unfold Format.nearest flN Format.word;simp
theorem zDv (n:Nat) (h1:n < 2 ^ 53):floatOfInt .f64 (n:Int)=flN n:=by
 have e:floatOfInt .f64 (n:Int)=double.nearest false n 0:=by
  show double.nearest (decide ((n:Int) < 0)) (n:Int).natAbs 0=_
  rw [decide_eq_false (by omega)];rfl
 rw [e]
 by_cases h0:n=0
 ·subst h0;exact zEv 0
 ·have:=zFn n 0 h0 h1 (by omega)
  simpa using this
theorem zHk (n:Nat) (h1:n < 2 ^ 53):∃k:Nat,k≤1074∧double.read (flN n)=.number false (n * 2 ^ k) (-(k:Int)):=by
 by_cases h0:n=0
 ·subst h0
  obtain⟨k,hk⟩:∃k:Nat,k=1074:=⟨_,rfl⟩
  refine⟨k,by omega,?_⟩
  rw [Nat.zero_mul]
  subst hk
  rfl
 ·obtain⟨a,b,c⟩:=zNn n h0 h1
  obtain⟨m0,m1⟩:=zNo n h0 h1
  refine⟨52 - n.log2,by omega,?_⟩
  have ef:flN n=(1023+n.log2) * 2 ^ 52+(n * 2 ^ (52 - n.log2) - 2 ^ 52):=by
   unfold flN;rw [if_neg h0,show 1023+n.log2=(1022+n.log2)+1 by omega,Nat.add_mul];omega
  generalize hm:n * 2 ^ (52 - n.log2)=m at *
  have hlt:flN n < 2047 * 2 ^ 52:=by
   have:(1023+n.log2) * 2 ^ 52≤(1023+52) * 2 ^ 52:=Nat.mul_le_mul_right _ (by omega)
   omega
  have hge:¬flN n < 2 ^ 52:=by
   have:1023 * 2 ^ 52≤(1023+n.log2) * 2 ^ 52:=Nat.mul_le_mul_right _ (by omega)
   omega
  have hmod:flN n % 2 ^ 63=flN n:=Nat.mod_eq_of_lt (by omega)
  have hdiv:flN n / 2 ^ 63=0:=Nat.div_eq_of_lt (by omega)
  have hd:flN n / 2 ^ 52=1023+n.log2:=by
   rw [ef,Nat.mul_comm,Nat.mul_add_div (by decide),Nat.div_eq_of_lt (by omega)];omega
  have hr:flN n % 2 ^ 52=m - 2 ^ 52:=by
   rw [ef,Nat.mul_comm,Nat.mul_add_mod,Nat.mod_eq_of_lt (by omega)]
  unfold Format.read
  simp only [zRi,zGr,zNm,zKs,hmod,hdiv,hd,hr]
  rw [if_neg hge,if_pos hlt]
  have e1:2 ^ 52+(m - 2 ^ 52)=m:=by omega
  have e2:(-1074:Int)+((1023+n.log2 - 1:Nat):Int)=-((52 - n.log2:Nat):Int):=by omega
  rw [e1,e2];rfl
theorem zHl (k:Nat) (b:Int) (hb:b≤-(k:Int)) (n:Nat):signed false (n * 2 ^ k) (-(k:Int) - b).toNat=((n * 2 ^ (-b).toNat:Nat):Int):=by
 unfold signed
 simp only [Bool.false_eq_true,if_false]
 rw [Nat.shiftLeft_eq,Nat.mul_assoc,← Nat.pow_add]
 congr 3;omega
theorem qDl (m n:Nat) (hm:m < 2 ^ 52) (hn:n < 2 ^ 52):double.add (flN m) (flN n)=some (flN (m+n)):=by
 obtain⟨k,hk,e1⟩:=zHk m (by omega)
 obtain⟨l,hl,e2⟩:=zHk n (by omega)
 unfold Format.add
 rw [e1,e2]
 unfold Datum.sum
 simp only [Option.map_some]
 have hb1:min (-(k:Int)) (-(l:Int))≤-(k:Int):=by omega
 have hb2:min (-(k:Int)) (-(l:Int))≤-(l:Int):=by omega
 obtain⟨j,hj⟩:∃j:Nat,min (-(k:Int)) (-(l:Int))=-(j:Int):=⟨max k l,by omega⟩
 have hj2:j≤1074:=by omega
 rw [hj] at hb1 hb2 ⊢
 rw [zHl k _ hb1,zHl l _ hb2,Int.neg_neg,Int.toNat_natCast,← Int.natCast_add,← Nat.add_mul,Int.natAbs_natCast]
 by_cases h0:m+n=0
 ·rw [h0];simp [Format.write,zEv]
 ·have hp:=Nat.two_pow_pos j
  have hne:(m+n) * 2 ^ j≠0:=Nat.mul_ne_zero h0 (by omega)
  rw [if_neg (by omega),decide_eq_false (by omega)]
  unfold Format.write
  simp only
  rw [zFn (m+n) j h0 (by omega) hj2]
theorem zRj (m n:Nat) (hm:m < 2 ^ 53) (hn:n < 2 ^ 53):double.order (flN m) (flN n)=some (compare m n):=by
 obtain⟨k,hk,e1⟩:=zHk m hm
 obtain⟨l,hl,e2⟩:=zHk n hn
 unfold Format.order
 rw [e1,e2]
 unfold Datum.order
 simp only
 have hb1:min (-(k:Int)) (-(l:Int))≤-(k:Int):=by omega
 have hb2:min (-(k:Int)) (-(l:Int))≤-(l:Int):=by omega
 obtain⟨j,hj⟩:∃j:Nat,min (-(k:Int)) (-(l:Int))=-(j:Int):=⟨max k l,by omega⟩
 rw [hj] at hb1 hb2 ⊢
 rw [zHl k _ hb1,zHl l _ hb2,Int.neg_neg,Int.toNat_natCast]
 congr 1
 have hp:=Nat.two_pow_pos j
 rcases Nat.lt_trichotomy m n with h | h | h
 ·have:m * 2 ^ j < n * 2 ^ j:=Nat.mul_lt_mul_of_pos_right h hp
  rw [Nat.compare_eq_lt.2 h,Int.compare_eq_lt.2 (by omega)]
 ·subst h;simp
 ·have:n * 2 ^ j < m * 2 ^ j:=Nat.mul_lt_mul_of_pos_right h hp
  rw [Nat.compare_eq_gt.2 h,Int.compare_eq_gt.2 (by omega)]
end Go.Proofs.YtepfknfadpkigaaGreat
namespace Go.Proofs.YtepfknfadpkigaaGreat
open Go Ieee
theorem zUp:floatOfInt .f64 0=flN 0:=by
 have:=zDv 0 (by omega)
 simpa using this
end Go.Proofs.YtepfknfadpkigaaGreat
end
section
namespace Go.Proofs.YtepfknfadpkigaaGreat
open Go
def isP (l c:Int):Bool:=decide (1≤l)&&decide (l≤1073741824)&&decide (1≤c)&&decide (c≤1073741824)
theorem zDo (l c:Int):isP l c=true ↔ 1≤l∧l≤1073741824∧1≤c∧c≤1073741824:=by
 unfold isP;simp [and_assoc]
theorem zUq (l c:Int):isP l c=false ↔ ¬(1≤l∧l≤1073741824∧1≤c∧c≤1073741824):=by
 rw [← zDo];simp
def fpart (ok:Bool) (n:Int):Nat:=if ok then flN n.toNat else 0
def posV (l c:Int):Value:=.complex .f64 (fpart (isP l c) l) (fpart (isP l c) c)
def stepL (l:Int) (b:UInt8):Int:=if b=10 then l+1 else l
def stepC (c:Int) (b:UInt8):Int:=if b=10 then 1 else c+1
def goB (l c:Int):List UInt8→Int × Int
 | []=>if isP l c then (l,c) else (0,0)
 | b::r=>if isP l c then goB (stepL l b) (stepC c b) r else (0,0)
theorem zNq (l c:Int) (h:isP l c=true):goB l c []=(l,c):=by unfold goB;rw [if_pos h]
theorem zCs (l c:Int) (s:List UInt8) (h:isP l c=false):goB l c s=(0,0):=by
 cases s <;> (unfold goB;rw [h];rfl)
theorem zFd (l c:Int) (b:UInt8) (r:List UInt8) (h:isP l c=true):goB l c (b::r)=goB (stepL l b) (stepC c b) r:=by
 rw [goB,if_pos h]
theorem zHm:isP 0 0=false:=by decide
theorem zGs:∀(s t:List UInt8) (l c:Int),goB l c (s++t)=goB (goB l c s).1 (goB l c s).2 t
 | [],t,l,c=>by
  by_cases h:isP l c=true
  ·rw [zNq l c h];rfl
  ·have h':isP l c=false:=by simpa using h
   rw [zCs l c [] h',List.nil_append,zCs l c t h',zCs 0 0 t zHm]
 | b::r,t,l,c=>by
  by_cases h:isP l c=true
  ·rw [zFd l c b r h,List.cons_append,zFd l c b (r++t) h];exact zGs r t _ _
  ·have h':isP l c=false:=by simpa using h
   rw [zCs l c (b::r) h',zCs l c _ h',zCs 0 0 t zHm]
theorem zAc (l c:Int):∃x y,posV l c=.complex .f64 x y:=⟨_,_,rfl⟩
end Go.Proofs.YtepfknfadpkigaaGreat
end
section
namespace Go.Proofs.YtepfknfadpkigaaGreat
open Go.RowKit
set_option maxHeartbeats 1000000
set_option maxRecDepth 100000
theorem bt {a b c:World} (h1:Below a.heap.size a b) (h2:Below b.heap.size b c):Below a.heap.size a c:=h1.trans (h2.mono h1.size)
theorem zAn (w:World) (o:Obj):Below w.heap.size w (w.alloc o):=(Below.refl _ _).alloc (Nat.le_refl _) o
theorem zNr (l c:Int) (h:isP l c=true):posV l c=.complex .f64 (floatOfInt .f64 l) (floatOfInt .f64 c):=by
 obtain⟨h1,h2,h3,h4⟩:=(zDo l c).1 h
 unfold posV fpart
 rw [h,if_pos rfl,if_pos rfl,← zDv _ (by omega),← zDv _ (by omega),Int.toNat_of_nonneg (by omega),Int.toNat_of_nonneg (by omega)]
theorem zDw (l c:Int) (h:isP l c=false):posV l c=.complex .f64 0 0:=by
 unfold posV fpart;rw [h];rfl
theorem zCa (s:ByteArray) (k:Nat) (h:k < s.size):s.data.toList.drop k=s[k]::s.data.toList.drop (k+1):=by
 have h2:k < s.data.toList.length:=by rw [Array.length_toList];exact h
 rw [List.drop_eq_getElem_cons h2]
 congr 1
theorem zRk (b:UInt8):((b.toNat:Int) == 10)=decide (b=10):=by
 by_cases h:b=10
 ·subst h;decide
 ·have:¬((b.toNat:Int)=10):=fun e=>h (by apply UInt8.toNat_inj.1;show b.toNat=10;omega)
  rw [decide_eq_false h,beq_eq_false_iff_ne.2 this]
theorem zKt (w:World) (a:Addr) (v:Value):(w.setCell a v).heap.size=w.heap.size:=by simp
theorem zKu (n:Int) (h0:-9223372036854775808≤n) (h1:n≤9223372036854775807):IntKind.i64.wrap n=n:=by
 simp [IntKind.wrap,IntKind.bits,IntKind.signed];split <;> omega
end Go.Proofs.YtepfknfadpkigaaGreat
end
section
namespace Go.Proofs.YtepfknfadpkigaaGreat
open Go.RowKit
set_option maxHeartbeats 1000000
structure ND where
 k:Nat
 l:Int
 c:Int
 x:List UInt8
 n:Int
inductive Tr where
 | node (p:Nat) (d:ND) (ks:List Tr)
def Tr.p:Tr→Nat | .node p _ _=>p
def Tr.d:Tr→ND | .node _ d _=>d
def Tr.ks:Tr→List Tr | .node _ _ ks=>ks
mutual
def Tr.nodes:Tr→List Nat
 | .node p _ ks=>p::nodesL ks
def nodesL:List Tr→List Nat
 | []=>[]
 | t::r=>t.nodes++nodesL r
end
mutual
def Tr.cnt:Tr→Nat
 | .node _ _ ks=>1+cntL ks
def cntL:List Tr→Nat
 | []=>0
 | t::r=>t.cnt+cntL r
end
theorem zJt (t:Tr):1≤t.cnt:=by cases t;simp [Tr.cnt]
theorem zNs (t:Tr) (l:List Tr) (h:t ∈ l):t.cnt≤cntL l:=by
 induction l with
 | nil=>cases h
 | cons a r ih =>
  simp only [cntL]
  rcases List.mem_cons.1 h with rfl | h
  ·omega
  ·have:=ih h;omega
def nodeO (d:ND) (v:Value):Obj:=.cells #[.int .u8 d.k,posV d.l d.c,.string ⟨d.x.toArray⟩,.int .i64 d.n,v] 40 (0,0)
def ptrV (p:Nat):Value:=.pointer (some ⟨p,0,none⟩)
def Row (w:World) (P:Nat→Prop) (v:Value) (ps:List Nat):Prop:=w.ownsRow 0 26 1 v ps.length (ps.map ptrV)∧∀g,v.ownBlock=some g→P g
mutual
def IsT (w:World) (P:Nat→Prop):Tr→Prop
 | .node p d ks=>P p∧(∃v,w.heap[p]?=some (nodeO d v)∧Row w P v (ks.map Tr.p))∧IsTL w P ks
def IsTL (w:World) (P:Nat→Prop):List Tr→Prop
 | []=>True
 | t::r=>IsT w P t∧IsTL w P r
end
theorem zAd {w:World} {j:Nat} {o:Obj} (h:w.heap[j]?=some o):j < w.heap.size:=(Array.getElem?_eq_some_iff.1 h).1
theorem zEw {w w':World} {B e size:Nat} {v:Value} {n:Nat} {xs:List Value} (h:w.ownsRow B e size v n xs) (hk:∀g,v.ownBlock=some g→w'.heap[g]?=w.heap[g]?):w'.ownsRow B e size v n xs:=by
 obtain⟨h1,h2⟩:=h
 refine⟨h1,?_⟩
 rcases h2 with h2 | ⟨g,cap,cur,e1,e2,e3,e4,e5,e6,e7⟩
 ·exact .inl h2
 ·exact .inr ⟨g,cap,cur,e1,e2,(hk g (by rw [e1];rfl)).trans e3,e4,e5,e6,e7⟩
theorem Row.keep {w w':World} {P Q:Nat→Prop} {v:Value} {ps:List Nat} (h:Row w P v ps) (hPQ:∀j,P j→j < w.heap.size→Q j) (hk:∀j,P j→j < w.heap.size→w'.heap[j]?=w.heap[j]?):Row w' Q v ps :=
 ⟨zEw h.1 fun g hg=>hk g (h.2 g hg) (h.1.lt g hg).2,fun g hg=>hPQ g (h.2 g hg) (h.1.lt g hg).2⟩
mutual
theorem IsT.keep {w w':World} {P Q:Nat→Prop} (hPQ:∀j,P j→j < w.heap.size→Q j) (hk:∀j,P j→j < w.heap.size→w'.heap[j]?=w.heap[j]?):∀{t:Tr},IsT w P t→IsT w' Q t
 | .node p d ks,h=>by
  obtain⟨h1,⟨v,h2,h3⟩,h4⟩:=h
  exact⟨hPQ p h1 (zAd h2),⟨v,(hk p h1 (zAd h2)).trans h2,h3.keep hPQ hk⟩,IsTL.keep hPQ hk h4⟩
theorem IsTL.keep {w w':World} {P Q:Nat→Prop} (hPQ:∀j,P j→j < w.heap.size→Q j) (hk:∀j,P j→j < w.heap.size→w'.heap[j]?=w.heap[j]?):∀{l:List Tr},IsTL w P l→IsTL w' Q l
 | [],_=>trivial
 | t::r,h=>⟨IsT.keep hPQ hk h.1,IsTL.keep hPQ hk h.2⟩
end
theorem IsT.below {w w':World} {P:Nat→Prop} {t:Tr} (h:IsT w P t) (hb:Below w.heap.size w w'):IsT w' P t:=h.keep (fun _ h _=>h) (fun j _ hj=>hb.block j hj)
theorem IsTL.at {w:World} {P:Nat→Prop}:∀{l:List Tr},IsTL w P l→∀t ∈ l,IsT w P t
 | [],_,t,ht=>by cases ht
 | a::r,h,t,ht=>by
  rcases List.mem_cons.1 ht with rfl | ht
  ·exact h.1
  ·exact IsTL.at h.2 t ht
theorem IsTL.of {w:World} {P:Nat→Prop}:∀{l:List Tr},(∀t ∈ l,IsT w P t)→IsTL w P l
 | [],_=>trivial
 | a::r,h=>⟨h a (by simp),IsTL.of fun t ht=>h t (List.mem_cons_of_mem a ht)⟩
structure NodeAt (w:World) (p:Nat) (d:ND) (v:Value):Prop where
 h:w.heap[p]?=some (nodeO d v)
theorem NodeAt.c0 {w:World} {p:Nat} {d:ND} {v:Value} (h:NodeAt w p d v):w.cell? ⟨p,0,none⟩=some (.int .u8 d.k):=by rw [Lib.cell_of_heap h.h];rfl
theorem NodeAt.c1 {w:World} {p:Nat} {d:ND} {v:Value} (h:NodeAt w p d v):w.cell? ⟨p,1,none⟩=some (posV d.l d.c):=by rw [Lib.cell_of_heap h.h];rfl
theorem NodeAt.c2 {w:World} {p:Nat} {d:ND} {v:Value} (h:NodeAt w p d v):w.cell? ⟨p,2,none⟩=some (.string ⟨d.x.toArray⟩):=by rw [Lib.cell_of_heap h.h];rfl
theorem NodeAt.c3 {w:World} {p:Nat} {d:ND} {v:Value} (h:NodeAt w p d v):w.cell? ⟨p,3,none⟩=some (.int .i64 d.n):=by rw [Lib.cell_of_heap h.h];rfl
theorem NodeAt.c4 {w:World} {p:Nat} {d:ND} {v:Value} (h:NodeAt w p d v):w.cell? ⟨p,4,none⟩=some v:=by rw [Lib.cell_of_heap h.h];rfl
theorem NodeAt.f {w:World} {p:Nat} {d:ND} {v:Value} (h:NodeAt w p d v) (i:Nat):w.frozen? ⟨p,i,none⟩=false:=Lib.frozen_of_heap h.h i
theorem Row.cell {w:World} {P:Nat→Prop} {v:Value} {ps:List Nat} (h:Row w P v ps) (i:Nat) (p:Nat) (hi:ps[i]?=some p):∃g cap,v=.slice (some ⟨g,0,none⟩) ps.length cap∧w.cell? ⟨g,i,none⟩=some (ptrV p):=by
 obtain⟨h1,h2⟩:=h
 obtain⟨h3,h4⟩:=h1
 have hlt:i < ps.length:=(List.getElem?_eq_some_iff.1 hi).1
 rcases h4 with⟨_,h5⟩ | ⟨g,cap,cur,e1,e2,e3,e4,e5,e6,e7⟩
 ·omega
 ·refine⟨g,cap,e1,?_⟩
  have h8:=World.ownsRow.cells (w:=w) (base:=0) (e:=26) (size:=1) (v:=v) (n:=ps.length) (xs:=ps.map ptrV) ⟨h3,.inr ⟨g,cap,cur,e1,e2,e3,e4,e5,e6,e7⟩⟩ (g:=g) (by rw [e1];rfl) i (ptrV p) (by rw [List.getElem?_map,hi];rfl)
  rw [Lib.add_plain,Nat.zero_add] at h8
  exact h8
theorem Row.len_le {w:World} {P:Nat→Prop} {v:Value} {ps:List Nat} (h:Row w P v ps):ps.length≤9223372036854775807:=by
 rcases h.1.2 with⟨h1,h2⟩ | ⟨g,cap,cur,e1,e2,e3,e4,e5,e6,e7⟩
 ·omega
 ·unfold maxLen at e5;omega
theorem Row.form {w:World} {P:Nat→Prop} {v:Value} {ps:List Nat} (h:Row w P v ps):∃q cap,v=.slice q ps.length cap:=by
 rcases h.1.2 with⟨h1,h2⟩ | ⟨g,cap,cur,e1,_⟩
 ·exact⟨none,0,by rw [h1,h2]⟩
 ·exact⟨_,_,e1⟩
inductive DT where
 | node (d:ND) (ks:List DT)
mutual
def Tr.dt:Tr→DT
 | .node _ d ks=>.node d (dtL ks)
def dtL:List Tr→List DT
 | []=>[]
 | t::r=>t.dt::dtL r
end
theorem zDp (a b:List Tr):dtL (a++b)=dtL a++dtL b:=by
 induction a with
 | nil=>rfl
 | cons t r ih=>simp [dtL,ih]
end Go.Proofs.YtepfknfadpkigaaGreat
end
section
namespace Go.Proofs.YtepfknfadpkigaaGreat
open Go Go.Maps Go.ChangeMaps
structure KeyK (P:Program) (kt:TypeId) {α:Type} [DecidableEq α] (enc:α→Value) (ok:World→α→Prop):Prop where
 und:∃d,P.underlying kt=some d∧∀a b,Instr.sameNow d (enc a) (enc b)=none
 check:∀(w:World) (em:Bool) (a:α),(Instr.checkKey em 10000 kt (enc a)).run P w=.ok () w
 eq:∀(w:World) (a b:α),ok w a→ok w b→(Op.equal kt (enc a) (enc b)).run P w=.ok (decide (a=b)) w
 stays:∀a,Instr.sameBits 10000 (enc a) (enc a)=true
 set:∀(w w':World) (b:Nat) (es:Array MapEntry) (c:Nat),w.heap[b]?=some (.map es c)→(∀j,j≠b→w'.heap[j]?=w.heap[j]?)→∀a,ok w a→ok w' a
variable {α:Type} [DecidableEq α]
variable {P:Program} {kt:TypeId} {enc:α→Value} {ok:World→α→Prop}
end Go.Proofs.YtepfknfadpkigaaGreat
end
section
namespace Go.Proofs.YtepfknfadpkigaaGreat
open Go.RowKit
set_option maxHeartbeats 1000000
def encP:Option Nat→Value
 | none=>.pointer none
 | some p=>ptrV p
end Go.Proofs.YtepfknfadpkigaaGreat
end
section
namespace Go.Proofs.YtepfknfadpkigaaGreat
open Go.RowKit
set_option maxHeartbeats 1000000
structure Fr (M:List Nat) (w w':World):Prop where
 os:w'.os=w.os
 tape:w'.tape=w.tape
 output:w'.output=w.output
 size:w.heap.size≤w'.heap.size
 block:∀k,k < w.heap.size→k ∉ M→w'.heap[k]?=w.heap[k]?
theorem Fr.refl (M:List Nat) (w:World):Fr M w w:=⟨rfl,rfl,rfl,Nat.le_refl _,fun _ _ _=>rfl⟩
theorem Fr.trans {M N:List Nat} {a b c:World} (h1:Fr M a b) (h2:Fr N b c) (h:∀j ∈ N,j ∈ M∨a.heap.size≤j):Fr M a c :=
 ⟨h2.os.trans h1.os,h2.tape.trans h1.tape,h2.output.trans h1.output,Nat.le_trans h1.size h2.size,fun k hk hn=>(h2.block k (Nat.lt_of_lt_of_le hk h1.size) (fun hm=>by rcases h k hm with h | h;exact hn h;omega)).trans (h1.block k hk hn)⟩
theorem Fr.mono {M N:List Nat} {a b:World} (h:Fr M a b) (hs:∀j ∈ M,j ∈ N):Fr N a b:=⟨h.os,h.tape,h.output,h.size,fun k hk hn=>h.block k hk (fun hm=>hn (hs k hm))⟩
theorem Fr.of_below {w w':World} (h:Below w.heap.size w w'):Fr [] w w':=⟨h.os,h.tape,h.output,h.size,fun k hk _=>h.block k hk⟩
theorem Fr.below {M:List Nat} {w w':World} (h:Fr M w w') (B:Nat) (hB:∀j ∈ M,B≤j) (hw:B≤w.heap.size):Below B w w' :=
 ⟨h.os,h.tape,h.output,h.size,fun k hk=>h.block k (Nat.lt_of_lt_of_le hk hw) (fun hm=>by have:=hB k hm;omega)⟩
def obL (v:Value):List Nat:=v.ownBlock.toList
theorem zBc (v:Value) (j:Nat):j ∈ obL v ↔ v.ownBlock=some j:=by unfold obL;cases v.ownBlock <;> simp [eq_comm]
theorem Fr.of_grown {w w':World} {row:Option Nat} (h:w.grownBy w' row):Fr row.toList w w':=⟨h.os,h.tape,h.output,h.size,fun k hk hn=>h.block k hk (fun e=>hn (by rw [← e];simp))⟩
theorem Fr.set (w:World) (b o:Nat) (u:Value):Fr [b] w (w.setCell ⟨b,o,none⟩ u):=⟨rfl,rfl,rfl,by simp,fun k _ hk=>Below.heap_setCell w ⟨b,o,none⟩ u k (fun e=>hk (by simp [e]))⟩
theorem Fr.drew (w:World):Fr [] w w.drew:=⟨rfl,rfl,rfl,Nat.le_refl _,fun _ _ _=>rfl⟩
theorem Fr.drewN (w:World) (n:Nat):Fr [] w (w.drewN n):=⟨rfl,rfl,rfl,Nat.le_refl _,fun _ _ _=>rfl⟩
theorem Fr.alloc (w:World) (o:Obj):Fr [] w (w.alloc o):=Fr.of_below (zAn w o)
def Var (w:World) (b:Nat) (T:TypeId) (v:Value):Prop:=w.heap[b]?=some (.cells #[v] T (0,0))
theorem Var.c {w:World} {b:Nat} {T:TypeId} {v:Value} (h:Var w b T v):w.cell? ⟨b,0,none⟩=some v:=by rw [Lib.cell_of_heap h];rfl
theorem Var.f {w:World} {b:Nat} {T:TypeId} {v:Value} (h:Var w b T v):w.frozen? ⟨b,0,none⟩=false:=Lib.frozen_of_heap h 0
theorem Var.lt {w:World} {b:Nat} {T:TypeId} {v:Value} (h:Var w b T v):b < w.heap.size:=zAd h
theorem Var.keep {w w':World} {b:Nat} {T:TypeId} {v:Value} {M:List Nat} (h:Var w b T v) (hf:Fr M w w') (hb:b ∉ M):Var w' b T v:=(hf.block b h.lt hb).trans h
theorem Var.set {w:World} {b:Nat} {T:TypeId} {v:Value} (h:Var w b T v) (u:Value):Var (w.setCell ⟨b,0,none⟩ u) b T u:=by
 exact one_setCell h
theorem zAf {w w':World} {B e size:Nat} {v:Value} {n:Nat} {xs:List Value} {M:List Nat} (h:w.ownsRow B e size v n xs) (hf:Fr M w w') (hv:∀j ∈ obL v,j ∉ M):w'.ownsRow B e size v n xs :=
 zEw h fun g hg=>hf.block g (h.lt g hg).2 (hv g ((zBc v g).2 hg))
theorem Row.frame {w w':World} {P:Nat→Prop} {v:Value} {ps:List Nat} {N:List Nat} (h:Row w P v ps) (hf:Fr N w w') (hv:∀j ∈ obL v,j ∉ N):Row w' P v ps:=⟨zAf h.1 hf hv,h.2⟩
theorem Row.base {w:World} {B:Nat} {v:Value} {ps:List Nat} (h:Row w (B≤·) v ps):∀j ∈ obL v,B≤j∧j < w.heap.size:=fun j hj=>⟨h.2 j ((zBc v j).1 hj),(h.1.lt j ((zBc v j).1 hj)).2⟩
theorem infoP:(Tryz.prog.info? 26).map (fun i=>(i.zero,i.size,i.bytes))=some (some (.pointer none),1,8):=by kernel_rfl
theorem new1 (w:World) (u:Value) (T:TypeId):∀j v,[u][j]?=some v→(w.alloc (.cells #[u] T)).cell? ((⟨w.heap.size,0,none⟩:Addr).add j)=some v:=by
 intro j v hj
 match j,hj with
 | 0,hj=>simp at hj;subst hj;simp [Addr.add]
theorem one1 (p:Nat):∀u ∈ [ptrV p],u.oneCell'=true:=fun u hu=>by
 simp at hu;subst hu;rfl
end Go.Proofs.YtepfknfadpkigaaGreat
end
