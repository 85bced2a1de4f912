/- Several texts in one. -/
import Derived.Test.YtepfknfadpkigaaGreatPkAA
import Derived.Test.YtepfknfadpkigaaGreatPkAN
import Derived.Test.YtepfknfadpkigaaGreatPkAD
set_option linter.unusedVariables false
set_option linter.unusedSimpArgs false
section
namespace Go.Proofs.YtepfknfadpkigaaGreat
open Go.RowKit
set_option maxHeartbeats 1000000
set_option maxRecDepth 100000
theorem zKj (s:ByteArray) (hs:s.size≤1048576) (h2:s.data.toList.take 2=[40,42]) (w:World) :
  Calls Tryz.prog 23 #[.string s] w fun e w'=>e=.returned (.int .i64 (((cmt 0 s.data.toList).getD 0:Nat):Int))∧w'=w:=by
 go_enter Tryz.func23,Tryz.ntmps23
 go_wp2_with fail
 go_loop [3,4] (fun d i=>∃(k dp:Nat),k≤s.size∧i=.int .i64 k∧d=.int .i64 dp∧dp≤k∧((k=0∧dp=0)∨1≤dp)∧cmt 0 s.data.toList=(cmt dp (s.data.toList.drop k)).map (·+k))
  (fun d i=>s.size - (intOf i).toNat)
 case atStart=>exact⟨0,0,by omega,rfl,rfl,by omega,.inl ⟨rfl,rfl⟩,by simp⟩
 case round =>
  obtain⟨k,dp,hk,rfl,rfl,hd1,hd2,hc⟩:=hrel
  have HC:=oH hc
  clear hc
  have hw1:IntKind.i64.wrap ((k:Int)+1)=(k:Int)+1:=zKu _ (by omega) (by omega)
  have hw2:IntKind.i64.wrap ((k:Int)+2)=(k:Int)+2:=zKu _ (by omega) (by omega)
  by_cases hlt:k+1 < s.size
  ·have hlt':(k:Int)+1 < (s.size:Int):=by omega
   have hx1:(0:Int)≤(k:Int):=by omega
   have hx2:(k:Int)≤(k:Int)+2:=by omega
   have hx3:(k:Int)+2≤(s.size:Int):=by omega
   have hx4:((k:Int)+2).toNat=k+2:=by omega
   obtain⟨a,ha⟩:∃a,s[k]=a:=⟨_,rfl⟩
   obtain⟨b,hb⟩:∃b,s[k+1]=b:=⟨_,rfl⟩
   have hex:(s.extract k (k+2)).toList=[a,b]:=by rw [← ha,← hb];exact zJw s k hlt
   have hdr:s.data.toList.drop k=a::b::s.data.toList.drop (k+2):=by rw [zCa s k (by omega),zCa s (k+1) hlt,ha,hb]
   have hdr1:s.data.toList.drop (k+1)=b::s.data.toList.drop (k+2):=by rw [zCa s (k+1) hlt,hb]
   by_cases c1:a=40∧b=42
   ·have t1:((s.extract k (k+2)).toList == [40,42])=true:=by rw [hex,c1.1,c1.2];rfl
    have HK:Hid (cmt 0 s.data.toList=(cmt (dp+1) (s.data.toList.drop (k+2))).map (·+(k+2))):=oH (by
     rw [HC.out,hdr,cmt,if_pos c1,Option.map_map]
     congr 1;funext x;simp;omega)
    clear hex c1 hdr hdr1
    go_wp2_with fail
    go_round
    case rel=>exact⟨k+2,dp+1,by omega,by simp,by simp,by omega,.inr (by omega),HK.out⟩
    case measure=>simp [intOf];omega
   ·have t1:((s.extract k (k+2)).toList == [40,42])=false:=by
     rw [hex,beq_eq_false_iff_ne];intro e;simp at e;exact c1 e
    by_cases c2:a=42∧b=41
    ·have t2:((s.extract k (k+2)).toList == [42,41])=true:=by rw [hex,c2.1,c2.2];rfl
     have hk0:1≤dp:=by
      rcases hd2 with⟨q1,q2⟩ | q
      ·exfalso
       subst q1
       rw [List.drop_zero] at hdr
       rw [hdr] at h2
       simp at h2
       exact c1 h2
      ·exact q
     by_cases c3:dp=1
     ·have t3:(((dp:Nat):Int) - 1 == 0)=true:=by rw [beq_iff_eq];omega
      have HT:Hid (((cmt 0 s.data.toList).getD 0:Nat)=k+2):=oH (by
       rw [HC.out,hdr,cmt,if_neg c1,if_pos c2,if_pos (by omega)]
       simp;omega)
      clear hex c1 c2 hdr hdr1
      go_wp2_with fail
      go_ret
      exact⟨by rw [HT.out];simp,rfl⟩
     ·have t3:(((dp:Nat):Int) - 1 == 0)=false:=by rw [beq_eq_false_iff_ne];omega
      have HK:Hid (cmt 0 s.data.toList=(cmt (dp - 1) (s.data.toList.drop (k+2))).map (·+(k+2))):=oH (by
       rw [HC.out,hdr,cmt,if_neg c1,if_pos c2,if_neg (by omega),Option.map_map]
       congr 1;funext x;simp;omega)
      clear hex c1 c2 hdr hdr1
      go_wp2_with fail
      go_round
      case rel=>exact⟨k+2,dp - 1,by omega,by simp,by simp;omega,by omega,.inr (by omega),HK.out⟩
      case measure=>simp [intOf];omega
    ·have t2:((s.extract k (k+2)).toList == [42,41])=false:=by
      rw [hex,beq_eq_false_iff_ne];intro e;simp at e;exact c2 e
     have hk0:1≤dp:=by
      rcases hd2 with⟨q1,q2⟩ | q
      ·exfalso
       subst q1
       rw [List.drop_zero] at hdr
       rw [hdr] at h2
       simp at h2
       exact c1 h2
      ·exact q
     have HK:Hid (cmt 0 s.data.toList=(cmt dp (s.data.toList.drop (k+1))).map (·+(k+1))):=oH (by
      rw [HC.out,hdr,cmt,if_neg c1,if_neg c2,hdr1,Option.map_map]
      congr 1;funext x;simp;omega)
     clear hex c1 c2 hdr hdr1
     go_wp2_with fail
     go_round
     case rel=>exact⟨k+1,dp,by omega,by simp,rfl,by omega,.inr hk0,HK.out⟩
     case measure=>simp [intOf];omega
  ·have hlt':¬(k:Int)+1 < (s.size:Int):=by omega
   have HT:Hid (((cmt 0 s.data.toList).getD 0:Nat)=0):=oH (by
    have:s.data.toList.drop k=[]∨∃a,s.data.toList.drop k=[a]:=by
     by_cases hq:k < s.size
     ·have:s.data.toList.drop (k+1)=[]:=List.drop_of_length_le (by rw [zAq];omega)
      exact .inr ⟨s[k],by rw [zCa s k hq,this]⟩
     ·exact .inl (List.drop_of_length_le (by rw [zAq];omega))
    rw [HC.out]
    rcases this with q | ⟨a,q⟩ <;> (rw [q,cmt];rfl))
   go_wp2_with fail
   go_ret
   exact⟨by rw [HT.out];rfl,rfl⟩
end Go.Proofs.YtepfknfadpkigaaGreat
end
section
namespace Go.Proofs.YtepfknfadpkigaaGreat
open Go.RowKit
set_option maxHeartbeats 1000000
set_option maxRecDepth 100000
theorem zMz (w:World) (k:Nat) (h:k < 5):∃x,syms2[k]?=some x∧(w.alloc (.cells (syms2.map fun x=>Value.string ⟨x.toArray⟩).toArray 9)).cell? ⟨w.heap.size,k,none⟩=some (.string ⟨x.toArray⟩):=by
 have hl:k < syms2.length:=h
 refine⟨syms2[k],List.getElem?_eq_getElem hl,?_⟩
 rw [World.cell?_alloc_at _ _ _ _ rfl]
 simp [List.getElem?_map,List.getElem?_eq_getElem hl]
theorem zNa (s:ByteArray) (hs:s.size≤1048576) (h0:0 < s.size) (w:World) :
  Calls Tryz.prog 43 #[.string s] w fun e w'=>e=.returned (.int .i64 ((symb s.data.toList:Nat):Int))∧Below w.heap.size w w':=by
 have HC:=fun k hk=>zMz w k hk
 have hb0:=zAn w (.cells (syms2.map fun x=>Value.string ⟨x.toArray⟩).toArray 9)
 obtain⟨w1,hw⟩:∃w1,w1=w.alloc (.cells (syms2.map fun x=>Value.string ⟨x.toArray⟩).toArray 9):=⟨_,rfl⟩
 rw [← hw] at HC hb0
 have hw':w.alloc (.cells #[.string ⟨#[58,61]⟩,.string ⟨#[60,62]⟩,.string ⟨#[60,61]⟩,.string ⟨#[62,61]⟩,.string ⟨#[46,46]⟩] 9)=w1:=hw.symm
 clear hw
 go_enter Tryz.func43,Tryz.ntmps43
 go_wp2_with fail
 go_loopw [4] (fun i wr=>∃k:Nat,k≤5∧i=.int .i64 k∧(∀j,j < k→syms2[j]?≠some (s.data.toList.take 2))∧Below w.heap.size w wr∧∀k,k < 5→∃x,syms2[k]?=some x∧wr.cell? ⟨w.heap.size,k,none⟩=some (.string ⟨x.toArray⟩))
  (fun i _=>5 - (intOf i).toNat)
 case atStart=>exact⟨0,by omega,rfl,fun j hj=>absurd hj (by omega),hb0,HC⟩
 case round =>
  clear HC hb0
  obtain⟨k,hk,rfl,hno,hb0,HC⟩:=hrel
  have HN:=oH hno
  clear hno hw'
  by_cases hlt:k < 5
  ·obtain⟨x,hx,hcell⟩:=HC k hlt
   have hx2:Hid (x.length=2):=oH (by
    have:∀j < 5,∀y,syms2[j]?=some y→y.length=2:=by decide
    exact this k hlt x hx)
   by_cases hz:2≤s.size
   ·have he1:(s.extract 0 2).toList=s.data.toList.take 2:=by rw [ByteArray.toList_eq];exact zBf s 2 hz
    have hq1:(2:Int)≤(s.size:Int):=by omega
    by_cases hxs:s.data.toList.take 2=x
    ·have ht:((s.extract 0 2).toList == x)=true:=by rw [he1];exact beq_iff_eq.2 hxs
     have HT:Hid (symb s.data.toList=2):=oH (by
      unfold symb
      rw [if_pos]
      refine List.contains_iff_mem.2 ?_
      rw [hxs]
      exact List.mem_of_getElem? hx)
     clear hxs hx HC he1
     go_wp2_with fail
     go_region
     all_goals
      go_wp2_with fail
      go_ret
      exact⟨by rw [HT.out];rfl,hb0.drew⟩
    ·have ht:((s.extract 0 2).toList == x)=false:=by rw [he1];exact beq_eq_false_iff_ne.2 hxs
     have HK:Hid (∀j,j < k+1→syms2[j]?≠some (s.data.toList.take 2)):=oH (by
      intro j hj
      by_cases hjk:j=k
      ·subst hjk;rw [hx];intro e;injection e with e;exact hxs e.symm
      ·exact HN.out j (by omega))
     have HCC:=oH HC
     clear hxs hx HC he1
     go_wp2_with fail
     go_region
     all_goals
      go_wp2_with fail
      go_roundw
      case rel=>exact⟨k+1,by omega,by simp,HK.out,hb0.drew,HCC.out⟩
      case measure=>simp [intOf];omega
   ·have hq1:decide ((2:Int)≤(s.size:Int))=false:=decide_eq_false (by omega)
    have HK:Hid (∀j,j < k+1→syms2[j]?≠some (s.data.toList.take 2)):=oH (by
     intro j hj
     by_cases hjk:j=k
     ·subst hjk;rw [hx];intro e;injection e with e
      have h3:=hx2.out
      rw [e,List.length_take,zAq] at h3;omega
     ·exact HN.out j (by omega))
    have HCC:=oH HC
    clear hx HC
    go_wp2_with fail
    go_region
    all_goals
     go_wp2_with fail
     go_roundw
     case rel=>exact⟨k+1,by omega,by simp,HK.out,hb0.drew,HCC.out⟩
     case measure=>simp [intOf];omega
  ·have hke:k=5:=by omega
   subst hke
   have H2:Hid (syms2.contains (s.data.toList.take 2)=false):=oH (by
    cases hq:syms2.contains (s.data.toList.take 2)
    ·rfl
    ·obtain⟨j,hj,hje⟩:=List.getElem_of_mem (List.contains_iff_mem.1 hq)
     have hj5:j < 5:=hj
     exact absurd (by rw [List.getElem?_eq_getElem hj,hje]) (HN.out j hj5))
   obtain⟨r,hr⟩:=zCm s h0
   obtain⟨c,hc⟩:∃c,s[0]=c:=⟨_,rfl⟩
   rw [hc] at hr
   have HS:Hid (symb s.data.toList=if syms1.contains c then 1 else 0):=oH (by
    unfold symb
    rw [H2.out,if_neg (by decide),hr];rfl)
   clear HC HN H2 hr
   go_wp2_with fail
   go_loopw [6] (fun i wx=>∃k:Nat,k≤22∧i=.int .i64 k∧(∀j,j < k→syms1[j]?≠some c)∧Below w.heap.size w wx)
    (fun i _=>22 - (intOf i).toNat)
   case atStart=>exact⟨0,by omega,rfl,fun j hj=>absurd hj (by omega),hb0⟩
   case round =>
    clear hb0
    obtain⟨k,hk,rfl,hno,hb0⟩:=hrel
    have HN:=oH hno
    clear hno
    by_cases hlt:k < 22
    ·have hsz:k < (⟨#[43,45,42,47,126,46,44,59,40,91,123,94,61,35,60,62,58,41,93,125,124,38]⟩:ByteArray).size:=hlt
     obtain⟨b,hb⟩:∃b,(⟨#[43,45,42,47,126,46,44,59,40,91,123,94,61,35,60,62,58,41,93,125,124,38]⟩:ByteArray)[k]'hsz=b:=⟨_,rfl⟩
     have hget:Hid (syms1[k]?=some b):=oH (by
      have:=zDb ⟨#[43,45,42,47,126,46,44,59,40,91,123,94,61,35,60,62,58,41,93,125,124,38]⟩ k hsz
      rw [hb] at this
      exact this)
     have hbs:=zIv c b
     by_cases hcb:c=b
     ·rw [decide_eq_true hcb] at hbs
      have HT:Hid (symb s.data.toList=1):=oH (by
       rw [HS.out,if_pos]
       rw [hcb]
       exact List.contains_iff_mem.2 (List.mem_of_getElem? hget.out))
      clear hcb
      go_wp2_with fail
      go_region
      all_goals
       go_wp2_with fail
       go_ret
       exact⟨by rw [HT.out];rfl,hb0.drew⟩
     ·rw [decide_eq_false hcb] at hbs
      have HK:Hid (∀j,j < k+1→syms1[j]?≠some c):=oH (by
       intro j hj
       by_cases hjk:j=k
       ·subst hjk;rw [hget.out];intro e;injection e with e;exact hcb e.symm
       ·exact HN.out j (by omega))
      clear hcb
      go_wp2_with fail
      go_region
      all_goals
       go_wp2_with fail
       go_roundw
       case rel=>exact⟨k+1,by omega,by simp,HK.out,hb0.drew⟩
       case measure=>simp [intOf];omega
    ·have hke:k=22:=by omega
     subst hke
     have HT:Hid (symb s.data.toList=0):=oH (by
      rw [HS.out,if_neg]
      intro hq
      obtain⟨j,hj,hje⟩:=List.getElem_of_mem (List.contains_iff_mem.1 hq)
      have hj22:j < 22:=hj
      exact absurd (by rw [List.getElem?_eq_getElem hj,hje]) (HN.out j hj22))
     go_wp2_with fail
     go_ret
     exact⟨by rw [HT.out];rfl,hb0⟩
theorem zPj (s:ByteArray) (w:World) :
  Calls Tryz.prog 44 #[.string s] w fun e w'=>e=.returned (tokV (plainT s.data.toList) (.complex .f64 0 0) (.complex .f64 0 0))∧Below w.heap.size w w':=by
 have hsc:=fun w a x y m=>zAg (P:=Tryz.prog) w a .f64 x y m
 have hl:s.toList=s.data.toList:=ByteArray.toList_eq s
 have hd:s=⟨s.data.toList.toArray⟩:=by apply ByteArray.ext;simp
 have HU:Hid (plainT s.data.toList=if s.data.toList=[60,62] then ⟨5,[35],0⟩ else if s.data.toList=[38] then ⟨6,[65,78,68],0⟩ else if s.data.toList=[126] then ⟨6,[78,79,84],0⟩ else ⟨5,s.data.toList,0⟩):=oH rfl
 generalize s.data.toList=u at hl hd HU ⊢
 by_cases h1:u=[60,62]
 ·have HT:Hid (plainT u=⟨5,[35],0⟩):=oH (by rw [HU.out,if_pos h1])
  have t1:(s.toList == [60,62])=true:=by rw [hl];exact beq_iff_eq.2 h1
  clear HU h1 hl hd
  go_enter Tryz.func44,Tryz.ntmps44
  go_wp2_with fail
  refine bodyPost_ret (v:=tokV ⟨5,[35],0⟩ (.complex .f64 0 0) (.complex .f64 0 0)) (by simp [results,Tryz.results44,go_sem,tokV]) rfl ?_
  exact⟨by rw [HT.out],zAn _ _⟩
 ·have t1:(s.toList == [60,62])=false:=by rw [hl];exact beq_eq_false_iff_ne.2 h1
  by_cases h2:u=[38]
  ·have HT:Hid (plainT u=⟨6,[65,78,68],0⟩):=oH (by rw [HU.out,if_neg h1,if_pos h2])
   have t2:(s.toList == [38])=true:=by rw [hl];exact beq_iff_eq.2 h2
   clear HU h1 h2 hl hd
   go_enter Tryz.func44,Tryz.ntmps44
   go_wp2_with fail
   refine bodyPost_ret (v:=tokV ⟨6,[65,78,68],0⟩ (.complex .f64 0 0) (.complex .f64 0 0)) (by simp [results,Tryz.results44,go_sem,tokV]) rfl ?_
   exact⟨by rw [HT.out],zAn _ _⟩
  ·have t2:(s.toList == [38])=false:=by rw [hl];exact beq_eq_false_iff_ne.2 h2
   by_cases h3:u=[126]
   ·have HT:Hid (plainT u=⟨6,[78,79,84],0⟩):=oH (by rw [HU.out,if_neg h1,if_neg h2,if_pos h3])
    have t3:(s.toList == [126])=true:=by rw [hl];exact beq_iff_eq.2 h3
    clear HU h1 h2 h3 hl hd
    go_enter Tryz.func44,Tryz.ntmps44
    go_wp2_with fail
    refine bodyPost_ret (v:=tokV ⟨6,[78,79,84],0⟩ (.complex .f64 0 0) (.complex .f64 0 0)) (by simp [results,Tryz.results44,go_sem,tokV]) rfl ?_
    exact⟨by rw [HT.out],zAn _ _⟩
   ·have t3:(s.toList == [126])=false:=by rw [hl];exact beq_eq_false_iff_ne.2 h3
    have HT:Hid (plainT u=⟨5,u,0⟩):=oH (by rw [HU.out,if_neg h1,if_neg h2,if_neg h3])
    have HD:=oH hd
    clear HU h1 h2 h3 hl hd
    go_enter Tryz.func44,Tryz.ntmps44
    go_wp2_with fail
    refine bodyPost_ret (v:=.agg #[.int .u8 5,.complex .f64 0 0,.complex .f64 0 0,.string s,.int .i64 0]) (by simp [results,Tryz.results44,go_sem]) rfl ?_
    exact⟨by rw [HT.out];unfold tokV;rw [← HD.out];rfl,zAn _ _⟩
end Go.Proofs.YtepfknfadpkigaaGreat
end
section
namespace Go.Proofs.YtepfknfadpkigaaGreat
open Go.RowKit
set_option maxHeartbeats 1000000
set_option maxRecDepth 100000
theorem zNb (s:ByteArray) (hs:s.size≤1048576) (h0:0 < s.size) (hl:isLt (s.data.toList.headD 0)=true) (w:World) :
  Calls Tryz.prog 24 #[.string s] w fun e w'=>e=.returned (oneV (oneL s.data.toList))∧Below w.heap.size w w':=by
 have hsc:=fun w a x y m=>zAg (P:=Tryz.prog) w a .f64 x y m
 obtain⟨r,hr⟩:=zCm s h0
 have HL:=fun w=>zDa s[0] w
 obtain⟨c,hc⟩:∃c,s[0]=c:=⟨_,rfl⟩
 rw [hc] at HL hr
 have hh:s.data.toList.headD 0=c:=by rw [hr];rfl
 rw [hh] at hl
 rw [hl] at HL
 have hl:isLt (s.data.toList.headD 0)=true:=by rw [hh];exact hl
 clear hh hr
 have D0:=zAn w (.cells #[.int .u8 0,.complex .f64 0 0,.complex .f64 0 0,.string ⟨#[]⟩,.int .i64 0] 71)
 have A0:=Fv.new w (.int .u8 0) (.complex .f64 0 0) (.complex .f64 0 0) (.string ⟨#[]⟩) (.int .i64 0) 71 w.heap.size rfl
 have hlt0:w.heap.size < (w.alloc (.cells #[.int .u8 0,.complex .f64 0 0,.complex .f64 0 0,.string ⟨#[]⟩,.int .i64 0] 71)).heap.size:=by simp
 go_enter Tryz.func24,Tryz.ntmps24
 go_wp2_with fail
 refine(HL _).mono ?_
 rintro e w1 ⟨rfl,rfl⟩
 clear HL
 go_wp2_with fail
 generalize w.alloc (.cells #[.int .u8 0,.complex .f64 0 0,.complex .f64 0 0,.string ⟨#[]⟩,.int .i64 0] 71)=w0 at D0 A0 hlt0 ⊢
 go_loop [5] (fun n=>∃k:Nat,k≤s.size∧n=.int .i64 k∧farI isAn s.data.toList k)
  (fun n=>s.size - (intOf n).toNat)
 case atStart=>exact⟨0,by omega,rfl,zFs _ _⟩
 case round =>
  obtain⟨k,hk,rfl,hfar⟩:=hrel
  have HR:=oH hfar
  clear hfar
  by_cases hlt:k < s.size
  ·have hget:=zDb s k hlt
   have HL:=fun w=>zDa s[k] w
   have HG:=fun w=>zDg s[k] w
   obtain⟨b,hb⟩:∃b,s[k]=b:=⟨_,rfl⟩
   rw [hb] at hget HL HG
   cases hbl:isLt b
   ·rw [hbl] at HL
    cases hbd:isDg b
    ·rw [hbd] at HG
     have HE:Hid (∀b,s.data.toList[k]?=some b→isAn b=false):=oH (fun b' hb'=>by
      rw [hget] at hb'
      rw [← Option.some.inj hb']
      unfold isAn;rw [hbl,hbd];rfl)
     clear hget hbl hbd
     go_wp2_with fail
     refine(HL _).mono ?_
     rintro e v1 ⟨rfl,rfl⟩
     go_wp2_with fail
     refine(HG _).mono ?_
     rintro e v2 ⟨rfl,rfl⟩
     clear HL HG
     have hend:=zDq isAn s.data.toList k (by rw [zAq];exact hk) HR.out HE.out
     have HO:Hid (oneL s.data.toList=if 32 < k then (none,0,5) else (some ⟨if wordB (s.data.toList.take k) then 6 else 1,s.data.toList.take k,0⟩,k,0)):=oH (by
      unfold oneL
      rw [if_pos hl,hend.2,hend.1])
     clear hend HR HE
     by_cases h32:32 < k
     ·have HT:Hid (oneL s.data.toList=(none,0,5)):=oH (by rw [HO.out,if_pos h32])
      have hq:(32:Int) < (k:Int):=by omega
      have g0:=A0.c0
      have g1:=A0.c1
      have g2:=A0.c2
      have g3:=A0.c3
      have g4:=A0.c4
      have e0:=A0.f0
      have e1:=A0.f1
      have e2:=A0.f2
      have e3:=A0.f3
      have e4:=A0.f4
      clear HO
      go_wp2_with fail
      have R:=(((((A0.set0 (.int .u8 0)).set1 (.complex .f64 0 0)).set2 (.complex .f64 0 0)).set3 (.string ⟨#[]⟩)).set4 (.int .i64 0))
      have r0:=R.c0
      have r1:=R.c1
      have r2:=R.c2
      have r3:=R.c3
      have r4:=R.c4
      refine bodyPost_ret (v:=.tuple #[.agg #[.int .u8 0,.complex .f64 0 0,.complex .f64 0 0,.string ⟨#[]⟩,.int .i64 0],.int .i64 0,.int .i64 5]) (by simp [results,Tryz.results24,go_sem,r0,r1,r2,r3,r4]) rfl ?_
      exact⟨by rw [HT.out];rfl,zAw D0 (Nat.le_refl _) _ _ _ _ _⟩
     ·have hq:¬(32:Int) < (k:Int):=by omega
      have hx1:(0:Int)≤(k:Int):=by omega
      have hx2:(k:Int)≤(s.size:Int):=by omega
      have hel:=zBf s k hk
      have HW:=fun w=>zLn (s.extract 0 k) w
      rw [hel] at HW
      have HX:=oH (zOa _ _ hel)
      have HO2:Hid (oneL s.data.toList=(some ⟨if wordB (s.data.toList.take k) then 6 else 1,s.data.toList.take k,0⟩,k,0)):=oH (by rw [HO.out,if_neg h32])
      clear HO hel
      go_wp2_with fail
      refine(HW _).mono ?_
      rintro e w2 ⟨rfl,B1⟩
      have A1:=A0.below B1 hlt0
      have D1:=bt D0 B1
      have g0:=A1.c0
      have g1:=A1.c1
      have g2:=A1.c2
      have g3:=A1.c3
      have g4:=A1.c4
      have e0:=A1.f0
      have e1:=A1.f1
      have e2:=A1.f2
      have e3:=A1.f3
      have e4:=A1.f4
      clear HW
      cases hz:wordB (s.data.toList.take k)
      ·rw [hz] at HO2
       clear hz
       go_wp2_with fail
       have R:=(((((A1.set0 (.int .u8 1)).set1 (.complex .f64 0 0)).set2 (.complex .f64 0 0)).set3 (.string (s.extract 0 k))).set4 (.int .i64 0))
       have r0:=R.c0
       have r1:=R.c1
       have r2:=R.c2
       have r3:=R.c3
       have r4:=R.c4
       refine bodyPost_ret (v:=.tuple #[.agg #[.int .u8 1,.complex .f64 0 0,.complex .f64 0 0,.string (s.extract 0 k),.int .i64 0],.int .i64 k,.int .i64 0]) (by simp [results,Tryz.results24,go_sem,r0,r1,r2,r3,r4]) rfl ?_
       exact⟨by rw [HO2.out,HX.out];rfl,zAw D1 (Nat.le_refl _) _ _ _ _ _⟩
      ·rw [hz] at HO2
       clear hz
       go_wp2_with fail
       have R:=(((((A1.set0 (.int .u8 6)).set1 (.complex .f64 0 0)).set2 (.complex .f64 0 0)).set3 (.string (s.extract 0 k))).set4 (.int .i64 0))
       have r0:=R.c0
       have r1:=R.c1
       have r2:=R.c2
       have r3:=R.c3
       have r4:=R.c4
       refine bodyPost_ret (v:=.tuple #[.agg #[.int .u8 6,.complex .f64 0 0,.complex .f64 0 0,.string (s.extract 0 k),.int .i64 0],.int .i64 k,.int .i64 0]) (by simp [results,Tryz.results24,go_sem,r0,r1,r2,r3,r4]) rfl ?_
       exact⟨by rw [HO2.out,HX.out];rfl,zAw D1 (Nat.le_refl _) _ _ _ _ _⟩
    ·rw [hbd] at HG
     have HK:=oH (zDy isAn _ k b hget (by unfold isAn;rw [hbd];simp) HR.out)
     clear hget hbl hbd
     go_wp2_with fail
     refine(HL _).mono ?_
     rintro e v1 ⟨rfl,rfl⟩
     go_wp2_with fail
     refine(HG _).mono ?_
     rintro e v2 ⟨rfl,rfl⟩
     go_wp2_with fail
     go_round
     case rel=>exact⟨k+1,by omega,by simp,HK.out⟩
     case measure=>simp [intOf];omega
   ·rw [hbl] at HL
    have HK:=oH (zDy isAn _ k b hget (by unfold isAn;rw [hbl];rfl) HR.out)
    clear hget hbl HG
    go_wp2_with fail
    refine(HL _).mono ?_
    rintro e v1 ⟨rfl,rfl⟩
    go_wp2_with fail
    go_round
    case rel=>exact⟨k+1,by omega,by simp,HK.out⟩
    case measure=>simp [intOf];omega
  ·have hnl:¬(k:Int) < (s.size:Int):=by omega
   have HE:Hid (∀b,s.data.toList[k]?=some b→isAn b=false):=oH (fun b' hb'=>by
    rw [List.getElem?_eq_none (by rw [zAq];omega)] at hb';cases hb')
   have hend:=zDq isAn s.data.toList k (by rw [zAq];exact hk) HR.out HE.out
   have HO:Hid (oneL s.data.toList=if 32 < k then (none,0,5) else (some ⟨if wordB (s.data.toList.take k) then 6 else 1,s.data.toList.take k,0⟩,k,0)):=oH (by
    unfold oneL
    rw [if_pos hl,hend.2,hend.1])
   clear hend HR HE
   by_cases h32:32 < k
   ·have HT:Hid (oneL s.data.toList=(none,0,5)):=oH (by rw [HO.out,if_pos h32])
    have hq:(32:Int) < (k:Int):=by omega
    have g0:=A0.c0
    have g1:=A0.c1
    have g2:=A0.c2
    have g3:=A0.c3
    have g4:=A0.c4
    have e0:=A0.f0
    have e1:=A0.f1
    have e2:=A0.f2
    have e3:=A0.f3
    have e4:=A0.f4
    clear HO
    go_wp2_with fail
    have R:=(((((A0.set0 (.int .u8 0)).set1 (.complex .f64 0 0)).set2 (.complex .f64 0 0)).set3 (.string ⟨#[]⟩)).set4 (.int .i64 0))
    have r0:=R.c0
    have r1:=R.c1
    have r2:=R.c2
    have r3:=R.c3
    have r4:=R.c4
    refine bodyPost_ret (v:=.tuple #[.agg #[.int .u8 0,.complex .f64 0 0,.complex .f64 0 0,.string ⟨#[]⟩,.int .i64 0],.int .i64 0,.int .i64 5]) (by simp [results,Tryz.results24,go_sem,r0,r1,r2,r3,r4]) rfl ?_
    exact⟨by rw [HT.out];rfl,zAw D0 (Nat.le_refl _) _ _ _ _ _⟩
   ·have hq:¬(32:Int) < (k:Int):=by omega
    have hx1:(0:Int)≤(k:Int):=by omega
    have hx2:(k:Int)≤(s.size:Int):=by omega
    have hel:=zBf s k hk
    have HW:=fun w=>zLn (s.extract 0 k) w
    rw [hel] at HW
    have HX:=oH (zOa _ _ hel)
    have HO2:Hid (oneL s.data.toList=(some ⟨if wordB (s.data.toList.take k) then 6 else 1,s.data.toList.take k,0⟩,k,0)):=oH (by rw [HO.out,if_neg h32])
    clear HO hel
    go_wp2_with fail
    refine(HW _).mono ?_
    rintro e w2 ⟨rfl,B1⟩
    have A1:=A0.below B1 hlt0
    have D1:=bt D0 B1
    have g0:=A1.c0
    have g1:=A1.c1
    have g2:=A1.c2
    have g3:=A1.c3
    have g4:=A1.c4
    have e0:=A1.f0
    have e1:=A1.f1
    have e2:=A1.f2
    have e3:=A1.f3
    have e4:=A1.f4
    clear HW
    cases hz:wordB (s.data.toList.take k)
    ·rw [hz] at HO2
     clear hz
     go_wp2_with fail
     have R:=(((((A1.set0 (.int .u8 1)).set1 (.complex .f64 0 0)).set2 (.complex .f64 0 0)).set3 (.string (s.extract 0 k))).set4 (.int .i64 0))
     have r0:=R.c0
     have r1:=R.c1
     have r2:=R.c2
     have r3:=R.c3
     have r4:=R.c4
     refine bodyPost_ret (v:=.tuple #[.agg #[.int .u8 1,.complex .f64 0 0,.complex .f64 0 0,.string (s.extract 0 k),.int .i64 0],.int .i64 k,.int .i64 0]) (by simp [results,Tryz.results24,go_sem,r0,r1,r2,r3,r4]) rfl ?_
     exact⟨by rw [HO2.out,HX.out];rfl,zAw D1 (Nat.le_refl _) _ _ _ _ _⟩
    ·rw [hz] at HO2
     clear hz
     go_wp2_with fail
     have R:=(((((A1.set0 (.int .u8 6)).set1 (.complex .f64 0 0)).set2 (.complex .f64 0 0)).set3 (.string (s.extract 0 k))).set4 (.int .i64 0))
     have r0:=R.c0
     have r1:=R.c1
     have r2:=R.c2
     have r3:=R.c3
     have r4:=R.c4
     refine bodyPost_ret (v:=.tuple #[.agg #[.int .u8 6,.complex .f64 0 0,.complex .f64 0 0,.string (s.extract 0 k),.int .i64 0],.int .i64 k,.int .i64 0]) (by simp [results,Tryz.results24,go_sem,r0,r1,r2,r3,r4]) rfl ?_
     exact⟨by rw [HO2.out,HX.out];rfl,zAw D1 (Nat.le_refl _) _ _ _ _ _⟩
end Go.Proofs.YtepfknfadpkigaaGreat
end
