/- Several texts in one. -/
import Derived.Test.YtepfknfadpkigaaGreatPkAA
import Derived.Test.YtepfknfadpkigaaGreatPkAN
import Derived.Test.YtepfknfadpkigaaGreatPkAR
import Derived.Test.YtepfknfadpkigaaGreatPkAG
set_option linter.unusedVariables false
set_option linter.unusedSimpArgs false
section
namespace Go.Proofs.YtepfknfadpkigaaGreat
open Go.RowKit
set_option maxHeartbeats 2000000
set_option maxRecDepth 100000
def rowT (S:List UInt8):List TK:=if (scanS 0 S).2.2=0 then (scanS 0 S).1.map (plOf S) else []
theorem RowAt.pre {w:World} {B:Nat} {v:Value} {l r:List TK} (h:RowAt w B v (l++r)):∃q cap,v=.slice q (l++r).length cap∧RowAt w B (.slice q l.length cap) l:=by
 obtain⟨q,cap,hv,hr⟩:=h
 refine⟨q,cap,hv,q,cap,rfl,fun i x hx=>hr i x ?_⟩
 have hi:=(List.getElem?_eq_some_iff.1 hx).1
 rw [List.getElem?_append_left hi]
 exact hx
theorem RowAt.none (w:World) (B:Nat) (cap:Nat) (q:Option Addr):RowAt w B (.slice q 0 cap) []:=⟨q,cap,rfl,fun i x hx=>by simp at hx⟩
def RowC (w:World) (B:Nat) (v:Value) (ts:List TK):Prop:=RowAt w B v ts∧∃q cap,v=.slice q ts.length cap∧ts.length≤cap∧cap≤9223372036854775807
theorem zHx (s:ByteArray) (hs:s.size≤16384) (w:World) :
  Calls Tryz.prog 8 #[.string s] w fun e w'=>∃v,e=.returned v∧Below w.heap.size w w'∧RowC w' w'.heap.size v (rowT s.data.toList):=by
 have HS:=zSf s hs w
 obtain⟨S,hS⟩:∃S,s.data.toList=S:=⟨_,rfl⟩
 rw [hS] at HS ⊢
 unfold ScanPost at HS
 obtain⟨z,hz⟩:∃z,(scanS 0 S).2.2=z:=⟨_,rfl⟩
 obtain⟨L,hL⟩:∃L,(scanS 0 S).1.map (plOf S)=L:=⟨_,rfl⟩
 have HR:Hid (rowT S=if z=0 then L else []):=oH (by unfold rowT;rw [hz,hL])
 rw [hz,hL] at HS
 clear hz hL hS
 go_enter Tryz.func8,Tryz.ntmps8
 go_wp2_with fail
 refine HS.mono ?_
 rintro e w1 ⟨v,at',rfl,hb,⟨rfl,rfl,ho⟩ | ⟨hne,rfl,hat⟩⟩
 ·obtain⟨q,cap,hv,hrow⟩:=(zPg ho).pre
  have hcap:L.length+1≤cap∧cap≤9223372036854775807:=by
   rcases ho.2 with⟨h1,h2⟩ | ⟨g,cap',cur,h1,h2,h3,h4,h5,_⟩
   ·simp at h2
   ·rw [hv] at h1
    injection h1 with e1 e2 e3
    subst e3
    unfold maxLen at h5
    simp at h4
    omega
  obtain⟨m,hm⟩:∃m,L.length=m:=⟨_,rfl⟩
  have hlen:(L++[endT S (scanS 0 S).2.1]).length=m+1:=by simp [hm]
  rw [hlen] at hv
  have H:=oH (oA hb (oA hrow hm))
  rw [hm] at hcap
  clear hb ho hrow hm hlen HS
  subst hv
  have hw1:wrap64 (((m+1:Nat):Int) - 1)=(m:Int):=by rw [w64 _ (by omega) (by omega)];omega
  have hm0:(0:Int)≤(m:Int):=by omega
  have hm1:(m:Int)≤(cap:Int):=by omega
  go_wp2_with fail
  go_ret
  obtain⟨hb,hrow,hm⟩:=H.out
  rw [hm] at hrow
  rw [HR.out]
  simp only [if_true]
  exact⟨_,rfl,hb,by simpa using hrow,q,cap,by simp [hm],by omega,hcap.2⟩
 ·have hzz:(z == 0)=false:=beq_eq_false_iff_ne.2 hne
  have H:=oH (oA hb hne)
  clear hb hne hat HS
  go_wp2_with fail
  go_ret
  rw [HR.out,if_neg H.out.2]
  exact⟨_,rfl,H.out.1,RowAt.none _ _ 0 none,none,0,rfl,Nat.le_refl _,by omega⟩
end Go.Proofs.YtepfknfadpkigaaGreat
end
section
namespace Go.Proofs.YtepfknfadpkigaaGreat
open Go
set_option maxHeartbeats 1000000
set_option maxRecDepth 10000
end Go.Proofs.YtepfknfadpkigaaGreat
namespace Go.Proofs.YtepfknfadpkigaaGreat
open Go.RowKit
set_option maxHeartbeats 1000000
def stopB (t:T0):Bool:=!(t.k == 1)&&!(t.k == 2)&&!(t.k == 3)&&!(t.k == 4)&&!(t.k == 5&&([[46],[94],[91],[44],[46,46],[123],[40]]:List (List UInt8)).contains t.x) &&
 !(relT.lookup t.x == some t.k)&&!(signT.lookup t.x == some t.k)&&!(sumT.lookup t.x == some t.k)&&!(mulT.lookup t.x == some t.k)&&!(notT.lookup t.x == some t.k)
structure Shf (k:Nat) (ts us:List TK):Prop where
 at':∀i,i < ts.length→(tk us (i+k)).1=(tk ts i).1
 stop:stopB (tk us (ts.length+k)).1=true
section
variable {k:Nat} {ts us:List TK} (A:Shf k ts us)
include A
end
end Go.Proofs.YtepfknfadpkigaaGreat
namespace Go.Proofs.YtepfknfadpkigaaGreat
open Go.RowKit
set_option maxHeartbeats 1000000
end Go.Proofs.YtepfknfadpkigaaGreat
end
section
namespace Go.Proofs.YtepfknfadpkigaaGreat
open Go.RowKit
set_option maxHeartbeats 2000000
set_option maxRecDepth 100000
theorem zPl {ts:List TK} {E:Nat→Re} {i:Nat} (h:ts.length≤i):exM ts E i=.bad i:=by
 have ht:tk ts i=zTK:=zCz h
 have o:operM ts E i=.bad i:=by
  unfold operM
  rw [ht]
  rfl
 have o1:opsM ts notT (ts.length+1) i=0:=by
  unfold opsM
  rw [ht];rfl
 have o2:opsM ts signT 1 i=0:=by
  unfold opsM
  rw [ht];rfl
 have f:facM ts E i=.bad i:=by
  unfold facM aheadM
  simp only [if_true,o1,Nat.add_zero,o]
 have t:termM ts E i=.bad i:=by
  unfold termM betwM
  rw [f]
 have s:simM ts E i=.bad i:=by
  unfold simM betwM aheadM
  simp only [Bool.false_eq_true,if_false,o2,Nat.add_zero,t]
 unfold exM betwM
 rw [s]
theorem zKl {ts:List TK} {n i:Nat} (h:ts.length≤i):labM ts (exprM ts (n+1)) i=.bad i:=by
 have he:exprM ts (n+1) i=.bad i:=zPl h
 unfold labM lstM elemM
 rw [he]
 rfl
theorem zVx {ts:List TK} {E:Nat→Re} {i:Nat} (h:ts.length≤i):desM ts E i=.bad i∧qualM ts i=.bad i:=by
 have ht:tk ts i=zTK:=zCz h
 have q:qualM ts i=.bad i:=by
  unfold qualM
  rw [ht];rfl
 refine⟨?_,q⟩
 unfold desM
 rw [q]
theorem zTv (ts:List TK) (i:Nat):labM ts (exprM ts (ts.length+2)) i≠.out:=by
 rcases Nat.lt_or_ge ts.length i with h | h
 ·have e:labM ts (exprM ts (ts.length+1+1)) i=.bad i:=zKl (Nat.le_of_lt h)
  intro e2
  have e3:labM ts (exprM ts (ts.length+1+1)) i=.out:=e2
  rw [e] at e3
  cases e3
 ·exact zOp (zAr _) (zCc (ts.length+1) (by omega)) i h
section
variable (ts:List TK) (rv:Value) (i:Nat) (w:World) (hrow:RowAt w w.heap.size rv ts) (hi:i≤16384) (htl:ts.length≤16384) (htx:∀x ∈ ts,x.1.x.length≤65536)
include hrow hi htl htx
theorem zNc:Calls Tryz.prog 112 #[rv,.int .i64 i] w (Says w.heap.size w (labM ts (exprM ts (ts.length+2)) i)):=by
 have HB:=zGg ts rv i w hrow hi htl htx
 obtain⟨q,cap,hq,_⟩:=hrow
 have HT:=oH (fun w1 (hX:RX (cxOf ts rv w.heap.size w) w1 i)=>zHw (cxOf ts rv w.heap.size w) (laFV (cxOf ts rv w.heap.size w)) _ (zMv (cxOf ts rv w.heap.size w) (exprM ts (ts.length+2)) (exV w.heap.size) rfl (zFi ts rv w.heap.size w (ts.length+2)) (zBu (zAr _))) w1 i hX (zTv ts i))
 subst hq
 simp only [pt] at HB
 go_enter Tryz.func112,Tryz.ntmps112
 go_wp2_with fail
 refine HB.mono ?_
 rintro e w1 ⟨rfl,hX⟩
 have HC:=HT.out w1 hX
 clear HB hX HT
 simp only [pt,cxOf,FV.val,deFV,quFV,laFV] at HC
 go_wp2_with fail
 refine HC.mono ?_
 rintro e w2 ⟨hb,⟨d,j,u,h1,rfl,h3,h4⟩ | ⟨j,h1,rfl⟩⟩
 ·have H:=oH (oA hb (oA h1 (oA h3 h4)))
  clear hb h1 h3 h4 HC
  go_wp2_with fail
  go_ret3
  exact⟨H.out.1,.inl ⟨d,j,u,H.out.2.1,rfl,H.out.2.2⟩⟩
 ·have H:=oH (oA hb h1)
  clear hb h1 HC
  go_wp2_with fail
  go_ret3
  exact⟨H.out.1,.inr ⟨j,H.out.2,rfl⟩⟩
end
end Go.Proofs.YtepfknfadpkigaaGreat
end
