/- Several texts in one. -/
import Derived.Test.YtepfknfadpkigaaGreatPkAA
import Derived.Test.YtepfknfadpkigaaGreatPkAP
set_option linter.unusedVariables false
set_option linter.unusedSimpArgs false
section
namespace Go.Proofs.YtepfknfadpkigaaGreat
open Go.RowKit
set_option maxHeartbeats 1000000
set_option maxRecDepth 100000
theorem zJi (s:ByteArray) (hs:s.size≤1048576) (h0:0 < s.size) (c:UInt8) (hcs:s[0]=c) (h34:((c.toNat:Int) == 34)=true∨(((c.toNat:Int) == 34)=false∧((c.toNat:Int) == 39)=true)) (hcc:c=34∨c=39) (w:World) :
  Calls Tryz.prog 24 #[.string s] w fun e w'=>e=.returned (oneV (oneL s.data.toList))∧Below w.heap.size w w':=by
 have hsc:=fun w a x y m=>zAg (P:=Tryz.prog) w a .f64 x y m
 obtain⟨r,hr⟩:=zCm s h0
 rw [hcs] at hr
 have hrl:r.length+1=s.size:=by rw [← zAq,hr];rfl
 have hl:isLt c=false:=by rcases hcc with rfl | rfl <;> decide
 have hd:isDg c=false:=by rcases hcc with rfl | rfl <;> decide
 have HO:Hid (oneL s.data.toList=if (r.drop (strS c r).length).head?=some c then (some ⟨4,strS c r,0⟩,(strS c r).length+2,0) else (none,0,42)):=oH (by
  unfold oneL
  rw [hr,show (c::r).headD 0=c from rfl,if_neg (by rw [hl];decide),if_neg (by rw [hd];decide),if_pos hcc]
  rfl)
 have hr1:∀k,r[k]?=s.data.toList[k+1]?:=fun k=>by rw [hr];rfl
 have HR1:=oH hr1
 have HRL:=oH hrl
 have HSub:Hid (∀k,k+1≤s.size→(s.extract 1 (k+1)).data.toList=r.take k):=oH (fun k hk=>by
  rw [ByteArray.data_extract,Array.toList_extract,List.extract_eq_take_drop,hr]
  rw [show (c::r).drop 1=r from rfl,show k+1 - 1=k by omega])
 have HL1:=fun w=>zDa s[0] w
 have HG1:=fun w=>zDg s[0] w
 rw [hcs] at HL1 HG1
 rw [hl] at HL1
 rw [hd] at HG1
 have hc10:c≠10:=by rcases hcc with rfl | rfl <;> decide
 have HC10:=oH hc10
 clear hr hl hd hr1 hrl hcc hc10
 have D0:=zAn w (.cells #[.int .u8 0,.complex .f64 0 0,.complex .f64 0 0,.string ⟨#[]⟩,.int .i64 0] 71)
 have A0:=Fv.new w (.int .u8 0) (.complex .f64 0 0) (.complex .f64 0 0) (.string ⟨#[]⟩) (.int .i64 0) 71 w.heap.size rfl
 rcases h34 with h34 | ⟨h34,h39⟩
 all_goals
  go_enter Tryz.func24,Tryz.ntmps24
  go_wp2_with fail
  refine(HL1 _).mono ?_
  rintro e w1 ⟨rfl,rfl⟩
  go_wp2_with fail
  refine(HG1 _).mono ?_
  rintro e w1 ⟨rfl,rfl⟩
  clear HL1 HG1
  go_wp2_with fail
  generalize w.alloc (.cells #[.int .u8 0,.complex .f64 0 0,.complex .f64 0 0,.string ⟨#[]⟩,.int .i64 0] 71)=w0 at D0 A0 ⊢
  go_loop [5] (fun n=>∃k:Nat,k+1≤s.size∧n=.int .i64 ((k:Int)+1)∧farI (fun b=>b != c&&b != 10) r k)
   (fun n=>s.size - (intOf n).toNat)
  case atStart=>exact⟨0,by omega,rfl,zFs _ _⟩
  case round =>
   obtain⟨k,hk,rfl,hfar⟩:=hrel
   have HR:=oH hfar
   clear hfar
   have hx3:((k:Int)+1).toNat=k+1:=by omega
   have hx4:(0:Int)≤(k:Int)+1:=by omega
   have hx5:(1:Int)≤(k:Int)+1:=by omega
   by_cases hlt:k+1 < s.size
   ·have hx6:(k:Int)+1 < (s.size:Int):=by omega
    have hx7:(k:Int)+1≤(s.size:Int):=by omega
    have hget:=zDb s (k+1) hlt
    obtain⟨b,hb⟩:∃b,s[k+1]=b:=⟨_,rfl⟩
    rw [hb] at hget
    rw [← HR1.out k] at hget
    have tb:=zIv b c
    have hkr:k≤r.length:=by have:=HRL.out;omega
    have tne:(((k:Int)+1) == (s.size:Int))=false:=by rw [beq_eq_false_iff_ne];omega
    by_cases hbc:b=c
    ·rw [decide_eq_true hbc] at tb
     have tbn:((b.toNat:Int) != (c.toNat:Int))=false:=by rw [bne,tb];rfl
     have t10:((b.toNat:Int) == 10)=false:=zCf b 10 (by rw [hbc];exact HC10.out)
     have t10n:((b.toNat:Int) != 10)=true:=by rw [bne,t10];rfl
     have hend:=zDq _ r k hkr HR.out (fun b' hb'=>by
      rw [hget] at hb';rw [← Option.some.inj hb',hbc];simp)
     have HT:Hid (oneL s.data.toList=(some ⟨4,r.take k,0⟩,k+2,0)):=oH (by
      have e1:strS c r=r.take k:=hend.1
      have e2:(strS c r).length=k:=hend.2
      rw [HO.out,e2,e1,if_pos (by rw [List.head?_drop,hget,hbc])])
     have HX:=oH (zOa _ _ (HSub.out k hk))
     clear hget hbc hend
     have g0:=A0.c0
     have g1:=A0.c1
     have g2:=A0.c2
     have g3:=A0.c3
     have g4:=A0.c4
     have e0:=A0.f0
     have e1:=A0.f1
     have e2:=A0.f2
     have e3:=A0.f3
     have e4:=A0.f4
     go_wp2_with fail
     have R:=(((((A0.set0 (.int .u8 4)).set1 (.complex .f64 0 0)).set2 (.complex .f64 0 0)).set3 (.string (s.extract 1 (k+1)))).set4 (.int .i64 0))
     have r0:=R.c0
     have r1:=R.c1
     have r2:=R.c2
     have r3:=R.c3
     have r4:=R.c4
     refine bodyPost_ret (v:=.tuple #[.agg #[.int .u8 4,.complex .f64 0 0,.complex .f64 0 0,.string (s.extract 1 (k+1)),.int .i64 0],.int .i64 ((k:Int)+1+1),.int .i64 0]) (by simp [results,Tryz.results24,go_sem,r0,r1,r2,r3,r4]) rfl ?_
     exact⟨by rw [HT.out,HX.out];rfl,zAw D0 (Nat.le_refl _) _ _ _ _ _⟩
    ·rw [decide_eq_false hbc] at tb
     have tbn:((b.toNat:Int) != (c.toNat:Int))=true:=by rw [bne,tb];rfl
     by_cases hb10:b=10
     ·have t10:((b.toNat:Int) == 10)=true:=by rw [hb10];rfl
      have t10n:((b.toNat:Int) != 10)=false:=by rw [bne,t10];rfl
      have hend:=zDq _ r k hkr HR.out (fun b' hb'=>by
       rw [hget] at hb';rw [← Option.some.inj hb',hb10];simp)
      have HT:Hid (oneL s.data.toList=(none,0,42)):=oH (by
       have e2:(strS c r).length=k:=hend.2
       rw [HO.out,e2,if_neg (by rw [List.head?_drop,hget];intro e;exact hbc (Option.some.inj e))])
      clear hget hbc hend hb10
      have g0:=A0.c0
      have g1:=A0.c1
      have g2:=A0.c2
      have g3:=A0.c3
      have g4:=A0.c4
      have e0:=A0.f0
      have e1:=A0.f1
      have e2:=A0.f2
      have e3:=A0.f3
      have e4:=A0.f4
      go_wp2_with fail
      have R:=(((((A0.set0 (.int .u8 0)).set1 (.complex .f64 0 0)).set2 (.complex .f64 0 0)).set3 (.string ⟨#[]⟩)).set4 (.int .i64 0))
      have r0:=R.c0
      have r1:=R.c1
      have r2:=R.c2
      have r3:=R.c3
      have r4:=R.c4
      refine bodyPost_ret (v:=.tuple #[.agg #[.int .u8 0,.complex .f64 0 0,.complex .f64 0 0,.string ⟨#[]⟩,.int .i64 0],.int .i64 0,.int .i64 42]) (by simp [results,Tryz.results24,go_sem,r0,r1,r2,r3,r4]) rfl ?_
      exact⟨by rw [HT.out];rfl,zAw D0 (Nat.le_refl _) _ _ _ _ _⟩
     ·have t10:((b.toNat:Int) == 10)=false:=zCf b 10 hb10
      have t10n:((b.toNat:Int) != 10)=true:=by rw [bne,t10];rfl
      have HK:=oH (zDy _ r k b hget (by simp [hbc,hb10]) HR.out)
      clear hget hbc hb10
      go_wp2_with fail
      go_round
      case rel=>exact⟨k+1,by omega,by simp,HK.out⟩
      case measure=>simp [intOf];omega
   ·have hx6:¬(k:Int)+1 < (s.size:Int):=by omega
    have tne:(((k:Int)+1) == (s.size:Int))=true:=by rw [beq_iff_eq];omega
    have hkr:k≤r.length:=by have:=HRL.out;omega
    have hno:r[k]?=none:=List.getElem?_eq_none (by have:=HRL.out;omega)
    have hend:=zDq _ r k hkr HR.out (fun b' hb'=>by rw [hno] at hb';cases hb')
    have HT:Hid (oneL s.data.toList=(none,0,42)):=oH (by
     have e2:(strS c r).length=k:=hend.2
     rw [HO.out,e2,if_neg (by rw [List.head?_drop,hno];intro e;cases e)])
    clear hno hend
    have g0:=A0.c0
    have g1:=A0.c1
    have g2:=A0.c2
    have g3:=A0.c3
    have g4:=A0.c4
    have e0:=A0.f0
    have e1:=A0.f1
    have e2:=A0.f2
    have e3:=A0.f3
    have e4:=A0.f4
    go_wp2_with fail
    have R:=(((((A0.set0 (.int .u8 0)).set1 (.complex .f64 0 0)).set2 (.complex .f64 0 0)).set3 (.string ⟨#[]⟩)).set4 (.int .i64 0))
    have r0:=R.c0
    have r1:=R.c1
    have r2:=R.c2
    have r3:=R.c3
    have r4:=R.c4
    refine bodyPost_ret (v:=.tuple #[.agg #[.int .u8 0,.complex .f64 0 0,.complex .f64 0 0,.string ⟨#[]⟩,.int .i64 0],.int .i64 0,.int .i64 42]) (by simp [results,Tryz.results24,go_sem,r0,r1,r2,r3,r4]) rfl ?_
    exact⟨by rw [HT.out];rfl,zAw D0 (Nat.le_refl _) _ _ _ _ _⟩
theorem zVw (s:ByteArray) (hs:s.size≤1048576) (h0:0 < s.size) (w:World) :
  Calls Tryz.prog 24 #[.string s] w fun e w'=>e=.returned (oneV (oneL s.data.toList))∧Below w.heap.size w w':=by
 obtain⟨r,hr⟩:=zCm s h0
 have hh:s.data.toList.headD 0=s[0]:=by rw [hr];rfl
 cases hl:isLt (s.data.toList.headD 0)
 ·cases hd:isDg (s.data.toList.headD 0)
  ·by_cases h34:s.data.toList.headD 0=34
   ·exact zJi s hs h0 34 (by rw [← hh,h34]) (.inl rfl) (.inl rfl) w
   ·by_cases h39:s.data.toList.headD 0=39
    ·exact zJi s hs h0 39 (by rw [← hh,h39]) (.inr ⟨rfl,rfl⟩) (.inr rfl) w
    ·exact zVv s hs h0 hl hd h34 h39 w
  ·exact zPk s hs h0 hl hd w
 ·exact zNb s hs h0 hl w
end Go.Proofs.YtepfknfadpkigaaGreat
end
