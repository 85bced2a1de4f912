/- Several texts in one. -/
import Derived.Test.YtepfknfadpkigaaGreatPkAA
import Derived.Test.YtepfknfadpkigaaGreatPkAM
import Derived.Test.YtepfknfadpkigaaGreatPkAD
import Derived.LoopTactic
set_option linter.unusedVariables false
set_option linter.unusedSimpArgs false
section
namespace Go.Proofs.YtepfknfadpkigaaGreat
open Go.RowKit
set_option maxHeartbeats 2000000
set_option maxRecDepth 100000
theorem zPh (ts:List TK) (rv:Value) (i:Int) (w:World) (hrow:RowAt w w.heap.size rv ts) :
  Calls Tryz.prog 103 #[rv,.int .i64 i] w fun e w'=>e=.returned (pt w.heap.size)∧w'.heap[w.heap.size]?=some (.cells #[rv,.int .i64 i,(exV w.heap.size).val] 118 (0,0))∧RowAt w' w.heap.size rv ts∧Env w.heap.size w'∧Below w.heap.size w w':=by
 obtain⟨w0,hw0⟩:∃w0,w.alloc (.cells #[rv,.int .i64 i,.nilFunc] 118)=w0:=⟨_,rfl⟩
 have F0:Fr [] w w0:=by rw [← hw0];exact Fr.alloc _ _
 have r0:w0.heap[w.heap.size]?=some (.cells #[rv,.int .i64 i,.nilFunc] 118 (0,0)):=by rw [← hw0];exact heap_alloc_new _ _
 have s0:w0.heap.size=w.heap.size+1:=by rw [← hw0];simp
 have HL:=zSd w.heap.size w0 s0
 have H0:=oH (oA F0 (oA r0 (oA s0 hrow)))
 obtain⟨q,cap,hq,_⟩:=hrow
 have hq':=oH hq
 clear F0 r0 s0
 subst hq
 simp only [pt] at HL
 go_enter Tryz.func103,Tryz.ntmps103
 go_wp2_with fail
 refine HL.mono ?_
 rintro e w1 ⟨rfl,F1,hE⟩
 obtain⟨F0,r0,s0,hrow⟩:=H0.out
 have r1:=(F1.block _ (by omega) (by simp)).trans r0
 have c2:w1.cell? ⟨w.heap.size,2,none⟩=some .nilFunc:=by rw [Lib.cell_of_heap r1];rfl
 have f2:w1.frozen? ⟨w.heap.size,2,none⟩=false:=Lib.frozen_of_heap r1 2
 have H1:=oH (oA (F0.trans F1 (by simp)) (oA hE (oA r1 (oA hrow s0))))
 obtain⟨xf,xa,xb,hev⟩:∃f a b,(exV w.heap.size).val=.func (.func f) a b:=⟨_,_,_,rfl⟩
 rw [hev]
 have HV:=oH hev
 clear F0 r0 s0 hrow r1 hE F1 HL hev hw0
 go_wp2_with fail
 go_ret
 obtain⟨F,hE,r1,hrow,s0⟩:=H1.out
 have F2:=Fr.set w1 w.heap.size 2 (.func (.func xf) xa xb)
 have hs:=F.size
 have FC1:Fc w.heap.size [] w w1:=Fc.of_fr F (by simp) (Nat.le_refl _)
 have FC2:Fc w.heap.size [w.heap.size] w1 (w1.setCell ⟨w.heap.size,2,none⟩ (.func (.func xf) xa xb)):=Fc.of_fr F2 (by simp) (by omega)
 refine⟨rfl,?_,(hrow.fc FC1).fc FC2,hE.fc FC2,(FC1.bel).trans FC2.bel⟩
 rw [HV.out]
 simp [World.setCell,Array.getElem?_modify,r1]
theorem zGg (ts:List TK) (rv:Value) (i:Nat) (w:World) (hrow:RowAt w w.heap.size rv ts) (hi:i≤16384) (htl:ts.length≤16384) (htx:∀x ∈ ts,x.1.x.length≤65536) :
  Calls Tryz.prog 103 #[rv,.int .i64 i] w fun e w'=>e=.returned (pt w.heap.size)∧RX (cxOf ts rv w.heap.size w) w' i :=
 (zPh ts rv i w hrow).mono fun e w' ⟨he,h1,h2,h3,h4⟩=>⟨he,h1,h2,h3,hi,htl,htx,h4⟩
def Says (B:Nat) (W0:World) (res:Re) (e:Ending) (w':World):Prop:=Below B W0 w' ∧
 ((∃d j u,res=.ok d j∧e=.returned (.tuple #[ptrV u.p,.int .i64 j,.int .i64 0])∧IsT w' (B≤·) u∧u.dt=d)∨∃j:Nat,res=.bad j∧e=.returned (.tuple #[.pointer none,.int .i64 j,.int .i64 60]))
section
variable (ts:List TK) (rv:Value) (i:Nat) (w:World) (hrow:RowAt w w.heap.size rv ts) (hi:i≤16384) (htl:ts.length≤16384) (htx:∀x ∈ ts,x.1.x.length≤65536)
include hrow hi htl htx
theorem zSe:Calls Tryz.prog 77 #[rv,.int .i64 i] w (Says w.heap.size w (exprM ts (ts.length+2) i)):=by
 have HB:=zGg ts rv i w hrow hi htl htx
 obtain⟨q,cap,hq,_⟩:=hrow
 have HT:=oH (fun w1 (hX:RX (cxOf ts rv w.heap.size w) w1 i)=>zHw (cxOf ts rv w.heap.size w) (exV w.heap.size) _ (zFi ts rv w.heap.size w (ts.length+2)) w1 i hX (zCc (ts.length+1) (by omega) i (Nat.zero_le _)))
 subst hq
 simp only [pt] at HB
 go_enter Tryz.func77,Tryz.ntmps77
 go_wp2_with fail
 refine HB.mono ?_
 rintro e w1 ⟨rfl,hX⟩
 have HC:=HT.out w1 hX
 have c2:w1.cell? ⟨w.heap.size,2,none⟩=some (exV w.heap.size).val:=hX.c2
 clear HB hX HT
 obtain⟨ev,hev⟩:∃ev,(exV w.heap.size).val=ev:=⟨_,rfl⟩
 rw [hev] at HC c2
 clear hev
 simp only [pt,cxOf] at HC
 go_wp2_with fail
 refine HC.mono ?_
 rintro e w2 ⟨hb,⟨d,j,u,h1,rfl,h3,h4⟩ | ⟨j,h1,rfl⟩⟩
 ·have H:=oH (oA hb (oA h1 (oA h3 h4)))
  clear hb h1 h3 h4 HC
  go_wp2_with fail
  go_ret3
  exact⟨H.out.1,.inl ⟨d,j,u,H.out.2.1,rfl,H.out.2.2⟩⟩
 ·have H:=oH (oA hb h1)
  clear hb h1 HC
  go_wp2_with fail
  go_ret3
  exact⟨H.out.1,.inr ⟨j,H.out.2,rfl⟩⟩
theorem zGq:Calls Tryz.prog 91 #[rv,.int .i64 i] w (Says w.heap.size w (desM ts (exprM ts (ts.length+2)) i)):=by
 have HB:=zGg ts rv i w hrow hi htl htx
 obtain⟨q,cap,hq,_⟩:=hrow
 have HT:=oH (fun w1 (hX:RX (cxOf ts rv w.heap.size w) w1 i)=>zHw (cxOf ts rv w.heap.size w) (deFV (cxOf ts rv w.heap.size w)) _ (zVp (cxOf ts rv w.heap.size w) (exprM ts (ts.length+2)) (exV w.heap.size) rfl (zFi ts rv w.heap.size w (ts.length+2))) w1 i hX (zKc (zAr _) (zCc (ts.length+1) (by omega)) i (Nat.zero_le _)))
 subst hq
 simp only [pt] at HB
 go_enter Tryz.func91,Tryz.ntmps91
 go_wp2_with fail
 refine HB.mono ?_
 rintro e w1 ⟨rfl,hX⟩
 have HC:=HT.out w1 hX
 clear HB hX HT
 simp only [pt,cxOf,FV.val,deFV,quFV,laFV] at HC
 go_wp2_with fail
 refine HC.mono ?_
 rintro e w2 ⟨hb,⟨d,j,u,h1,rfl,h3,h4⟩ | ⟨j,h1,rfl⟩⟩
 ·have H:=oH (oA hb (oA h1 (oA h3 h4)))
  clear hb h1 h3 h4 HC
  go_wp2_with fail
  go_ret3
  exact⟨H.out.1,.inl ⟨d,j,u,H.out.2.1,rfl,H.out.2.2⟩⟩
 ·have H:=oH (oA hb h1)
  clear hb h1 HC
  go_wp2_with fail
  go_ret3
  exact⟨H.out.1,.inr ⟨j,H.out.2,rfl⟩⟩
end
end Go.Proofs.YtepfknfadpkigaaGreat
namespace Go.Proofs.YtepfknfadpkigaaGreat
open Go.RowKit
set_option maxHeartbeats 2000000
set_option maxRecDepth 100000
def Neg (w:World) (e:Ending) (w':World):Prop:=e=.returned (.tuple #[.pointer none,.int .i64 0,.int .i64 60])∧Below w.heap.size w w'
section
variable (ts:List TK) (rv:Value) (a:Int) (ha:a < 0) (w:World) (hrow:RowAt w w.heap.size rv ts)
include ha hrow
end
end Go.Proofs.YtepfknfadpkigaaGreat
end
section
namespace Go.Proofs.YtepfknfadpkigaaGreat
open Go.RowKit
set_option maxHeartbeats 1000000
set_option maxRecDepth 100000
theorem zPi (w:World) :
  Calls Tryz.prog 72 #[] w fun e w'=>e=.returned (.slice (some ⟨w.heap.size,0,none⟩) 40 40)∧w'=w.alloc (.cells (resv.map fun x=>Value.string ⟨x.toArray⟩).toArray 9):=by
 go_enter Tryz.func72,Tryz.ntmps72
 go_wp2_with fail
 go_ret
 exact⟨rfl,rfl⟩
theorem zDa (c:UInt8) (w:World) :
  Calls Tryz.prog 39 #[.int .u8 (c.toNat:Int)] w fun e w'=>e=.returned (.bool (isLt c))∧w'=w:=by
 have hc:c.toNat < 65∨(65≤c.toNat∧c.toNat≤90)∨(90 < c.toNat∧c.toNat < 97)∨(97≤c.toNat∧c.toNat≤122)∨122 < c.toNat:=by omega
 have HI:Hid (isLt c=((decide (65≤c.toNat)&&decide (c.toNat≤90))||(decide (97≤c.toNat)&&decide (c.toNat≤122)))):=oH rfl
 rcases hc with h | ⟨h,g⟩ | ⟨h,g⟩ | ⟨h,g⟩ | h
 all_goals
  go_enter Tryz.func39,Tryz.ntmps39
  go_wp2_with fail
  go_ret
  exact⟨by rw [HI.out];refine congrArg (fun b=>Ending.returned (Value.bool b)) (Bool.eq_iff_iff.2 ?_);simp;omega,rfl⟩
theorem zDg (c:UInt8) (w:World) :
  Calls Tryz.prog 40 #[.int .u8 (c.toNat:Int)] w fun e w'=>e=.returned (.bool (isDg c))∧w'=w:=by
 have hc:c.toNat < 48∨(48≤c.toNat∧c.toNat≤57)∨57 < c.toNat:=by omega
 have HI:Hid (isDg c=(decide (48≤c.toNat)&&decide (c.toNat≤57))):=oH rfl
 rcases hc with h | ⟨h,g⟩ | h
 all_goals
  go_enter Tryz.func40,Tryz.ntmps40
  go_wp2_with fail
  go_ret
  exact⟨by rw [HI.out];refine congrArg (fun b=>Ending.returned (Value.bool b)) (Bool.eq_iff_iff.2 ?_);simp;omega,rfl⟩
end Go.Proofs.YtepfknfadpkigaaGreat
end
section
namespace Go.Proofs.YtepfknfadpkigaaGreat
open Go.RowKit
set_option maxHeartbeats 1000000
set_option maxRecDepth 100000
theorem zMx (w:World) (k:Nat) (h:k < 40):∃x,resv[k]?=some x∧(w.alloc (.cells (resv.map fun x=>Value.string ⟨x.toArray⟩).toArray 9)).cell? ⟨w.heap.size,k,none⟩=some (.string ⟨x.toArray⟩):=by
 have hl:k < resv.length:=h
 refine⟨resv[k],List.getElem?_eq_getElem hl,?_⟩
 rw [World.cell?_alloc_at _ _ _ _ rfl]
 simp [List.getElem?_map,List.getElem?_eq_getElem hl]
theorem zLn (s:ByteArray) (w:World) :
  Calls Tryz.prog 41 #[.string s] w fun e w'=>e=.returned (.bool (wordB s.data.toList))∧Below w.heap.size w w':=by
 have HC:=fun k hk=>zMx w k hk
 have hb0:=zAn w (.cells (resv.map fun x=>Value.string ⟨x.toArray⟩).toArray 9)
 go_enter Tryz.func41,Tryz.ntmps41
 go_wp2_with fail
 refine(zPi _).mono ?_
 rintro e w1 ⟨rfl,hw⟩
 rw [← hw] at HC hb0
 clear hw
 go_wp2_with fail
 go_loop [4] (fun i=>∃k:Nat,k≤40∧i=.int .i64 k∧∀j,j < k→resv[j]?≠some s.data.toList)
  (fun i=>40 - (intOf i).toNat)
 case atStart=>exact⟨0,by omega,rfl,fun j hj=>absurd hj (by omega)⟩
 case round =>
  obtain⟨k,hk,rfl,hno⟩:=hrel
  have HN:=oH hno
  clear hno
  by_cases hlt:k < 40
  ·obtain⟨x,hx,hcell⟩:=HC k hlt
   have ht:=zRn x s
   by_cases hxs:x=s.data.toList
   ·rw [decide_eq_true hxs] at ht
    have HT:Hid (wordB s.data.toList=true):=oH (by
     unfold wordB
     refine List.contains_iff_mem.2 ?_
     rw [← hxs]
     exact List.mem_of_getElem? hx)
    clear hxs hx HC
    go_wp2_with fail
    go_ret
    exact⟨by rw [HT.out];rfl,hb0⟩
   ·rw [decide_eq_false hxs] at ht
    have HK:Hid (∀j,j < k+1→resv[j]?≠some s.data.toList):=oH (by
     intro j hj
     by_cases hjk:j=k
     ·subst hjk;rw [hx];intro e;injection e with e;exact hxs e
     ·exact HN.out j (by omega))
    clear hxs hx HC
    go_wp2_with fail
    go_round
    case rel=>exact⟨k+1,by omega,by simp,HK.out⟩
    case measure=>simp [intOf];omega
  ·have hke:k=40:=by omega
   subst hke
   have HT:Hid (wordB s.data.toList=false):=oH (by
    unfold wordB
    cases hq:resv.contains s.data.toList
    ·rfl
    ·obtain⟨j,hj,hje⟩:=List.getElem_of_mem (List.contains_iff_mem.1 hq)
     have hj40:j < 40:=hj
     exact absurd (by rw [List.getElem?_eq_getElem hj,hje]) (HN.out j hj40))
   clear HC
   go_wp2_with fail
   go_ret
   exact⟨by rw [HT.out];rfl,hb0⟩
end Go.Proofs.YtepfknfadpkigaaGreat
end
section
namespace Go.Proofs.YtepfknfadpkigaaGreat
open Go.RowKit
set_option maxHeartbeats 1000000
set_option maxRecDepth 100000
theorem zEd (s:ByteArray) (hs:s.size≤1048576) (hx:∀b ∈ s.data.toList,isHx b=true) (base most:Int) (b0:2≤base) (b1:base≤16) (m0:0≤most) (m1:most≤65535) (w:World) :
  Calls Tryz.prog 73 #[.string s,.int .i64 base,.int .i64 most] w fun e w'=>∃n,e=.returned (.tuple #[.int .i64 n,.bool (valS base most s.data.toList).isSome])∧(∀v,valS base most s.data.toList=some v→n=v)∧w'=w:=by
 have HX:=oH hx
 clear hx
 have hem:=zGu s
 go_enter Tryz.func73,Tryz.ntmps73
 go_wp2_with fail
 go_loop [8,9] (fun n i=>∃(k:Nat) (n1:Int),k≤s.size∧i=.int .i64 k∧n=.int .i64 n1∧0≤n1∧n1≤1048576∧valL base most 0 s.data.toList=valL base most n1 (s.data.toList.drop k))
  (fun n i=>s.size - (intOf i).toNat)
 case atStart=>exact⟨0,0,by omega,rfl,rfl,by omega,by omega,rfl⟩
 case round =>
  obtain⟨k,n1,hk,rfl,rfl,h0,h1,hv⟩:=hrel
  have HV:=oH hv
  clear hv
  by_cases hlt:k < s.size
  ·have hdr:=zCa s k hlt
   have hbx:=HX.out s[k] (List.mem_of_getElem? (zDb s k hlt))
   obtain⟨b,hb⟩:∃b,s[k]=b:=⟨_,rfl⟩
   rw [hb] at hdr hbx
   have hne:s.data.toList≠[]:=fun e=>by
    have:=zAq s
    rw [e] at this;simp at this;omega
   have hS:Hid (valS base most s.data.toList=valL base most n1 (b::s.data.toList.drop (k+1))):=oH (by
    unfold valS;rw [if_neg hne,HV.out,hdr])
   unfold isHx isDg at hbx
   simp at hbx
   have hl1:48≤(b.toNat:Int):=by omega
   have hl2:(b.toNat:Int)≤70:=by omega
   clear hne
   by_cases hA:65≤(b.toNat:Int)
   ·have hdv:Hid (digV b=(b.toNat:Int) - 55):=oH (by unfold digV;rw [if_pos (by omega)])
    by_cases hbad:base≤(b.toNat:Int) - 65+10
    ·have HT:Hid (valS base most s.data.toList=none):=oH (by rw [hS.out,valL,if_pos (.inl (by rw [hdv.out];omega))])
     clear hbx
     go_wp2_with fail
     go_ret2
     exact⟨0,by rw [HT.out];rfl,(fun v hv=>by rw [HT.out] at hv;cases hv),rfl⟩
    ·by_cases hm:most < n1
     ·have HT:Hid (valS base most s.data.toList=none):=oH (by rw [hS.out,valL,if_pos (.inr hm)])
      clear hbx
      go_wp2_with fail
      go_ret2
      exact⟨0,by rw [HT.out];rfl,(fun v hv=>by rw [HT.out] at hv;cases hv),rfl⟩
     ·have hp:0≤n1 * base∧n1 * base≤1048560:=by
       have q1:n1 * base≤65535 * 16:=Int.mul_le_mul (by omega) b1 (by omega) (by omega)
       exact⟨Int.mul_nonneg h0 (by omega),by omega⟩
      have HK:Hid (valL base most 0 s.data.toList=valL base most (n1 * base+((b.toNat:Int) - 65+10)) (s.data.toList.drop (k+1))):=oH (by
       rw [HV.out,hdr,valL,if_neg (by rw [hdv.out];omega),hdv.out,show (b.toNat:Int) - 65+10=(b.toNat:Int) - 55 by omega])
      have hw:wrap64 (wrap64 (n1 * base)+((b.toNat:Int) - 65+10))=n1 * base+((b.toNat:Int) - 65+10):=by rw [w64 (n1 * base) (by omega) (by omega),w64 _ (by omega) (by omega)]
      clear hdr
      go_wp2_with fail
      go_round
      case rel=>exact⟨k+1,n1 * base+((b.toNat:Int) - 65+10),by omega,by simp,by simp,by omega,by omega,HK.out⟩
      case measure=>simp [intOf];omega
   ·have hdv:Hid (digV b=(b.toNat:Int) - 48):=oH (by unfold digV;rw [if_neg (by omega)])
    by_cases hbad:base≤(b.toNat:Int) - 48
    ·have HT:Hid (valS base most s.data.toList=none):=oH (by rw [hS.out,valL,if_pos (.inl (by rw [hdv.out];omega))])
     clear hbx
     go_wp2_with fail
     go_ret2
     exact⟨0,by rw [HT.out];rfl,(fun v hv=>by rw [HT.out] at hv;cases hv),rfl⟩
    ·by_cases hm:most < n1
     ·have HT:Hid (valS base most s.data.toList=none):=oH (by rw [hS.out,valL,if_pos (.inr hm)])
      clear hbx
      go_wp2_with fail
      go_ret2
      exact⟨0,by rw [HT.out];rfl,(fun v hv=>by rw [HT.out] at hv;cases hv),rfl⟩
     ·have hp:0≤n1 * base∧n1 * base≤1048560:=by
       have q1:n1 * base≤65535 * 16:=Int.mul_le_mul (by omega) b1 (by omega) (by omega)
       exact⟨Int.mul_nonneg h0 (by omega),by omega⟩
      have HK:Hid (valL base most 0 s.data.toList=valL base most (n1 * base+((b.toNat:Int) - 48)) (s.data.toList.drop (k+1))):=oH (by
       rw [HV.out,hdr,valL,if_neg (by rw [hdv.out];omega),hdv.out])
      have hw:wrap64 (wrap64 (n1 * base)+((b.toNat:Int) - 48))=n1 * base+((b.toNat:Int) - 48):=by rw [w64 (n1 * base) (by omega) (by omega),w64 _ (by omega) (by omega)]
      clear hdr
      go_wp2_with fail
      go_round
      case rel=>exact⟨k+1,n1 * base+((b.toNat:Int) - 48),by omega,by simp,by simp,by omega,by omega,HK.out⟩
      case measure=>simp [intOf];omega
  ·have hke:k=s.size:=by omega
   subst hke
   have hd0:s.data.toList.drop s.size=[]:=List.drop_of_length_le (by rw [zAq];exact Nat.le_refl _)
   by_cases hz:s.size=0
   ·have HT:Hid (valS base most s.data.toList=none):=oH (by
     unfold valS;rw [if_pos (List.length_eq_zero_iff.1 (by rw [zAq];exact hz))])
    rw [decide_eq_true hz] at hem
    clear hd0
    go_wp2_with fail
    go_ret2
    exact⟨n1,by rw [HT.out];rfl,(fun v hv=>by rw [HT.out] at hv;cases hv),rfl⟩
   ·have hS:Hid (valS base most s.data.toList=if n1≤most then some n1 else none):=oH (by
     unfold valS;rw [if_neg (fun e=>hz (by rw [← zAq,e];rfl)),HV.out,hd0];rfl)
    rw [decide_eq_false hz] at hem
    clear hd0
    by_cases hm:n1≤most
    ·go_wp2_with fail
     go_ret2
     exact⟨n1,by rw [hS.out,if_pos hm];rfl,(fun v hv=>by rw [hS.out,if_pos hm] at hv;injection hv),rfl⟩
    ·have hm2:decide (n1≤most)=false:=decide_eq_false hm
     have HM:=oH hm
     go_wp2_with fail
     go_ret2
     exact⟨n1,by rw [hS.out,if_neg (Int.not_le.2 HM.out)];rfl,(fun v hv=>by rw [hS.out,if_neg (Int.not_le.2 HM.out)] at hv;cases hv),rfl⟩
end Go.Proofs.YtepfknfadpkigaaGreat
end
section
namespace Go.Proofs.YtepfknfadpkigaaGreat
open Go.RowKit
set_option maxHeartbeats 1000000
set_option maxRecDepth 100000
structure NumF (s:ByteArray) (c:UInt8):Prop where
 drop:(s.extract 0 (s.size - 1)).data.toList=s.data.toList.dropLast
 last:s.data.toList.getLast?=some c
 size:(s.extract 0 (s.size - 1)).size≤s.size
theorem zJh (s:ByteArray) (h0:s.size - 1 < s.size):NumF s (s[s.size - 1]'h0):=by
 have hl:=zAq s
 have hd:(s.extract 0 (s.size - 1)).data.toList=s.data.toList.dropLast:=by
  rw [ByteArray.data_extract,Array.toList_extract,List.extract_eq_take_drop,List.drop_zero,List.dropLast_eq_take,hl];rfl
 refine⟨hd,?_,?_⟩
 ·rw [List.getLast?_eq_getElem?,hl]
  exact zDb s (s.size - 1) h0
 ·have:=congrArg List.length hd
  rw [List.length_dropLast,zAq,hl] at this
  omega
theorem zMy (s:ByteArray) (hs:s.size≤1048576) (h0:s.size - 1 < s.size) (hx:∀b ∈ s.data.toList.dropLast,isHx b=true) (hl:s[s.size - 1]'h0=72∨∀b ∈ s.data.toList,isHx b=true) (w:World) :
  Calls Tryz.prog 42 #[.string s] w fun e w'=>∃(k:Nat) (n:Int),e=.returned (.tuple #[.agg #[.int .u8 k,.complex .f64 0 0,.complex .f64 0 0,.string ⟨#[]⟩,.int .i64 n],.bool (num s.data.toList).isSome])∧(∀t,num s.data.toList=some t→t=⟨k,[],n⟩)∧Below w.heap.size w w':=by
 have hx1:(0:Int)≤(s.size:Int) - 1:=by omega
 have hx2:(s.size:Int) - 1≤(s.size:Int):=by omega
 have hx3:((s.size:Int) - 1).toNat=s.size - 1:=by omega
 have hx4:(s.size:Int) - 1 < (s.size:Int):=by omega
 have hsc:=fun w a x y m=>zAg (P:=Tryz.prog) w a .f64 x y m
 obtain⟨fd,fl,fz⟩:=zJh s h0
 obtain⟨c,hc⟩:∃c,s[s.size - 1]'h0=c:=⟨_,rfl⟩
 rw [hc] at fl hl
 have H16:=fun w=>zEd (s.extract 0 (s.size - 1)) (by omega) (by rw [fd];exact hx) 16 65535 (by omega) (by omega) (by omega) (by omega) w
 have H8:=fun w=>zEd (s.extract 0 (s.size - 1)) (by omega) (by rw [fd];exact hx) 8 65535 (by omega) (by omega) (by omega) (by omega) w
 have H8c:=fun w=>zEd (s.extract 0 (s.size - 1)) (by omega) (by rw [fd];exact hx) 8 255 (by omega) (by omega) (by omega) (by omega) w
 rw [fd] at H16 H8 H8c
 have HU:Hid (num s.data.toList=(if some c=some (72:UInt8) then (valS 16 65535 s.data.toList.dropLast).map (fun n=>(⟨2,[],n⟩:T0)) else match valS 10 65535 s.data.toList with
  | some n=>some ⟨2,[],n⟩
  | none=>if some c=some (66:UInt8) then (valS 8 65535 s.data.toList.dropLast).map (fun n=>(⟨2,[],n⟩:T0)) else if some c=some (67:UInt8) then (valS 8 255 s.data.toList.dropLast).map (fun n=>(⟨3,[],n⟩:T0)) else none)):=oH (by unfold num;rw [fl];cases valS 10 65535 s.data.toList <;> rfl)
 clear fd fl fz hx
 by_cases h72:c=72
 ·have HN:Hid ((num s.data.toList).isSome=(valS 16 65535 s.data.toList.dropLast).isSome∧∀n,(∀v,valS 16 65535 s.data.toList.dropLast=some v→n=v)→∀t,num s.data.toList=some t→t=⟨2,[],n⟩):=oH (by
   rw [HU.out,if_pos (by rw [h72])]
   cases hv:valS 16 65535 s.data.toList.dropLast with
   | none=>exact⟨rfl,fun n _ t ht=>by cases ht⟩
   | some v=>exact⟨rfl,fun n hn t ht=>by rw [hn v rfl];injection ht with ht;exact ht.symm⟩)
  rw [h72] at hc
  generalize valS 16 65535 s.data.toList.dropLast=q at H16 HN
  generalize q.isSome=z at H16 HN
  clear HU H8 H8c hl h72
  go_enter Tryz.func42,Tryz.ntmps42
  go_wp2_with fail
  refine(H16 _).mono ?_
  rintro e w1 ⟨n,rfl,hn,rfl⟩
  have HQ:=oH hn
  clear hn
  go_wp2_with fail
  refine bodyPost_ret (v:=.tuple #[.agg #[.int .u8 2,.complex .f64 0 0,.complex .f64 0 0,.string ⟨#[]⟩,.int .i64 n],.bool z]) (by simp [results,Tryz.results42,go_sem]) rfl ?_
  exact⟨2,n,by rw [HN.out.1];rfl,HN.out.2 n HQ.out,zAn _ _⟩
 ·have t72:((c.toNat:Int) == 72)=false:=zCf c 72 h72
  have hall:=hl.resolve_left h72
  have H10:=fun w=>zEd s hs hall 10 65535 (by omega) (by omega) (by omega) (by omega) w
  cases hv:valS 10 65535 s.data.toList with
  | some v =>
   have HN:Hid ((num s.data.toList).isSome=true∧∀t,num s.data.toList=some t→t=⟨2,[],v⟩):=oH (by
    rw [HU.out,if_neg (fun e=>h72 (Option.some.inj e)),hv]
    exact⟨rfl,fun t ht=>by injection ht with ht;exact ht.symm⟩)
   rw [hv] at H10
   clear HU H8 H8c H16 hl h72 hv hall
   go_enter Tryz.func42,Tryz.ntmps42
   go_wp2_with fail
   refine(H10 _).mono ?_
   rintro e w1 ⟨n,rfl,hn,rfl⟩
   obtain rfl:=hn v rfl
   clear hn
   go_wp2_with fail
   refine bodyPost_ret (v:=.tuple #[.agg #[.int .u8 2,.complex .f64 0 0,.complex .f64 0 0,.string ⟨#[]⟩,.int .i64 n],.bool true]) (by simp [results,Tryz.results42,go_sem]) rfl ?_
   exact⟨2,n,by rw [HN.out.1];rfl,HN.out.2,zAn _ _⟩
  | none =>
   have HU2:Hid (num s.data.toList=(if some c=some (66:UInt8) then (valS 8 65535 s.data.toList.dropLast).map (fun n=>(⟨2,[],n⟩:T0)) else if some c=some (67:UInt8) then (valS 8 255 s.data.toList.dropLast).map (fun n=>(⟨3,[],n⟩:T0)) else none)):=oH (by
    rw [HU.out,if_neg (fun e=>h72 (Option.some.inj e)),hv])
   rw [hv] at H10
   clear HU H16 hl hv hall
   by_cases h66:c=66
   ·have HN:Hid ((num s.data.toList).isSome=(valS 8 65535 s.data.toList.dropLast).isSome∧∀n,(∀v,valS 8 65535 s.data.toList.dropLast=some v→n=v)→∀t,num s.data.toList=some t→t=⟨2,[],n⟩):=oH (by
     rw [HU2.out,if_pos (by rw [h66])]
     cases hv:valS 8 65535 s.data.toList.dropLast with
     | none=>exact⟨rfl,fun n _ t ht=>by cases ht⟩
     | some v=>exact⟨rfl,fun n hn t ht=>by rw [hn v rfl];injection ht with ht;exact ht.symm⟩)
    rw [h66] at hc
    generalize valS 8 65535 s.data.toList.dropLast=q at H8 HN
    generalize q.isSome=z at H8 HN
    clear HU2 H8c h72 h66 t72
    go_enter Tryz.func42,Tryz.ntmps42
    go_wp2_with fail
    refine(H10 _).mono ?_
    rintro e w1 ⟨n10,rfl,hn10,rfl⟩
    clear hn10
    go_wp2_with fail
    refine(H8 _).mono ?_
    rintro e w1 ⟨n,rfl,hn,rfl⟩
    have HQ:=oH hn
    clear hn
    go_wp2_with fail
    refine bodyPost_ret (v:=.tuple #[.agg #[.int .u8 2,.complex .f64 0 0,.complex .f64 0 0,.string ⟨#[]⟩,.int .i64 n],.bool z]) (by simp [results,Tryz.results42,go_sem]) rfl ?_
    exact⟨2,n,by rw [HN.out.1];rfl,HN.out.2 n HQ.out,zAn _ _⟩
   ·have t66:((c.toNat:Int) == 66)=false:=zCf c 66 h66
    by_cases h67:c=67
    ·have HN:Hid ((num s.data.toList).isSome=(valS 8 255 s.data.toList.dropLast).isSome∧∀n,(∀v,valS 8 255 s.data.toList.dropLast=some v→n=v)→∀t,num s.data.toList=some t→t=⟨3,[],n⟩):=oH (by
      rw [HU2.out,if_neg (fun e=>h66 (Option.some.inj e)),if_pos (by rw [h67])]
      cases hv:valS 8 255 s.data.toList.dropLast with
      | none=>exact⟨rfl,fun n _ t ht=>by cases ht⟩
      | some v=>exact⟨rfl,fun n hn t ht=>by rw [hn v rfl];injection ht with ht;exact ht.symm⟩)
     rw [h67] at hc
     generalize valS 8 255 s.data.toList.dropLast=q at H8c HN
     generalize q.isSome=z at H8c HN
     clear HU2 H8 h72 h66 h67 t72 t66
     go_enter Tryz.func42,Tryz.ntmps42
     go_wp2_with fail
     refine(H10 _).mono ?_
     rintro e w1 ⟨n10,rfl,hn10,rfl⟩
     clear hn10
     go_wp2_with fail
     refine(H8c _).mono ?_
     rintro e w1 ⟨n,rfl,hn,rfl⟩
     have HQ:=oH hn
     clear hn
     go_wp2_with fail
     refine bodyPost_ret (v:=.tuple #[.agg #[.int .u8 3,.complex .f64 0 0,.complex .f64 0 0,.string ⟨#[]⟩,.int .i64 n],.bool z]) (by simp [results,Tryz.results42,go_sem]) rfl ?_
     exact⟨3,n,by rw [HN.out.1];rfl,HN.out.2 n HQ.out,zAn _ _⟩
    ·have t67:((c.toNat:Int) == 67)=false:=zCf c 67 h67
     have HN:Hid (num s.data.toList=none):=oH (by
      rw [HU2.out,if_neg (fun e=>h66 (Option.some.inj e)),if_neg (fun e=>h67 (Option.some.inj e))])
     clear HU2 H8 H8c h72 h66 h67
     go_enter Tryz.func42,Tryz.ntmps42
     go_wp2_with fail
     refine(H10 _).mono ?_
     rintro e w1 ⟨n10,rfl,hn10,rfl⟩
     clear hn10
     go_wp2_with fail
     refine bodyPost_ret (v:=.tuple #[.agg #[.int .u8 0,.complex .f64 0 0,.complex .f64 0 0,.string ⟨#[]⟩,.int .i64 0],.bool false]) (by simp [results,Tryz.results42,go_sem]) rfl ?_
     exact⟨0,0,by rw [HN.out];rfl,fun t ht=>(by rw [HN.out] at ht;cases ht),zAn _ _⟩
end Go.Proofs.YtepfknfadpkigaaGreat
end
