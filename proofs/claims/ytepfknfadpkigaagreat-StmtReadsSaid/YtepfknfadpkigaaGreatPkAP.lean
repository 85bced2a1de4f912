/- Several texts in one. -/
import Derived.Test.YtepfknfadpkigaaGreatPkAA
import Derived.Test.YtepfknfadpkigaaGreatPkAO
import Derived.Deep.DeepCutAuto
set_option linter.unusedVariables false
set_option linter.unusedSimpArgs false
section
namespace Go.Proofs.YtepfknfadpkigaaGreat
open Go.RowKit
set_option maxHeartbeats 1000000
set_option maxRecDepth 100000
theorem zEe (x:ByteArray) (hs:x.size≤1048576) (L:List UInt8) (hL:x.data.toList=L) (hne:L≠[]) (hx:∀b ∈ L.dropLast,isHx b=true) (hl:L.getLast?=some 72∨∀b ∈ L,isHx b=true) (w:World) :
  Calls Tryz.prog 42 #[.string x] w fun e w'=>∃(k:Nat) (n:Int),e=.returned (.tuple #[.agg #[.int .u8 k,.complex .f64 0 0,.complex .f64 0 0,.string ⟨#[]⟩,.int .i64 n],.bool (num L).isSome])∧(∀t,num L=some t→t=⟨k,[],n⟩)∧Below w.heap.size w w':=by
 subst hL
 have hz:x.size - 1 < x.size:=by
  have:=zAq x
  rcases Nat.eq_zero_or_pos x.size with q | q
  ·exact absurd (List.length_eq_zero_iff.1 (by omega)) hne
  ·omega
 have hf:=zJh x hz
 refine zMy x hs hz hx ?_ w
 rcases hl with h | h
 ·have:=hf.last
  rw [h] at this
  exact .inl (Option.some.inj this).symm
 ·exact .inr h
theorem qDb (b:UInt8):isHx b=(isDg b||(decide (65≤(b.toNat:Int))&&decide ((b.toNat:Int)≤70))):=by
 unfold isHx
 congr 2
 ·exact(zRm b 65).symm
 ·by_cases h:b.toNat≤70
  ·rw [decide_eq_true h,decide_eq_true (by omega)]
  ·rw [decide_eq_false h,decide_eq_false (by omega)]
theorem zPk (s:ByteArray) (hs:s.size≤1048576) (h0:0 < s.size) (hl:isLt (s.data.toList.headD 0)=false) (hd:isDg (s.data.toList.headD 0)=true) (w:World) :
  Calls Tryz.prog 24 #[.string s] w fun e w'=>e=.returned (oneV (oneL s.data.toList))∧Below w.heap.size w w':=by
 have hsc:=fun w a x y m=>zAg (P:=Tryz.prog) w a .f64 x y m
 obtain⟨r,hr⟩:=zCm s h0
 have HO:Hid (oneL s.data.toList=match num (numS s.data.toList) with
  | some t=>(some t,(numS s.data.toList).length,0)
  | none=>(none,0,41)):=oH (by
  unfold oneL
  rw [if_neg (by rw [hl];decide),if_pos hd]
  cases num (numS s.data.toList) <;> rfl)
 have Hne:Hid (numS s.data.toList≠[]):=oH (by
  have hh:s.data.toList.headD 0=s[0]:=by rw [hr];rfl
  rw [hh] at hd
  have:=zKy s[0] r hd
  rw [← hr] at this
  intro e;rw [e] at this;simp at this)
 have HL1:=fun w=>zDa s[0] w
 have HG1:=fun w=>zDg s[0] w
 obtain⟨c,hc⟩:∃c,s[0]=c:=⟨_,rfl⟩
 rw [hc] at HL1 HG1 hr
 have hh:s.data.toList.headD 0=c:=by rw [hr];rfl
 rw [hh] at hl hd
 rw [hl] at HL1
 rw [hd] at HG1
 clear hh hr hl hd
 have D0:=zAn w (.cells #[.int .u8 0,.complex .f64 0 0,.complex .f64 0 0,.string ⟨#[]⟩,.int .i64 0] 71)
 have A0:=Fv.new w (.int .u8 0) (.complex .f64 0 0) (.complex .f64 0 0) (.string ⟨#[]⟩) (.int .i64 0) 71 w.heap.size rfl
 have hlt0:w.heap.size < (w.alloc (.cells #[.int .u8 0,.complex .f64 0 0,.complex .f64 0 0,.string ⟨#[]⟩,.int .i64 0] 71)).heap.size:=by simp
 go_enter Tryz.func24,Tryz.ntmps24
 go_wp2_with fail
 refine(HL1 _).mono ?_
 rintro e w1 ⟨rfl,rfl⟩
 go_wp2_with fail
 refine(HG1 _).mono ?_
 rintro e w1 ⟨rfl,rfl⟩
 clear HL1 HG1
 go_wp2_with fail
 generalize w.alloc (.cells #[.int .u8 0,.complex .f64 0 0,.complex .f64 0 0,.string ⟨#[]⟩,.int .i64 0] 71)=w0 at D0 A0 hlt0 ⊢
 go_loop [5] (fun n=>∃k:Nat,k≤s.size∧n=.int .i64 k∧farI isHx s.data.toList k)
  (fun n=>s.size - (intOf n).toNat)
 case atStart=>exact⟨0,by omega,rfl,zFs _ _⟩
 case round =>
  obtain⟨k,hk,rfl,hfar⟩:=hrel
  have HR:=oH hfar
  clear hfar
  by_cases hlt:k < s.size
  ·have hget:=zDb s k hlt
   have HG:=fun w=>zDg s[k] w
   obtain⟨b,hb⟩:∃b,s[k]=b:=⟨_,rfl⟩
   rw [hb] at hget HG
   have hor:=qDb b
   cases hbd:isDg b
   ·rw [hbd] at HG hor
    by_cases hA:decide (65≤(b.toNat:Int))=true∧decide ((b.toNat:Int)≤70)=true
    ·have HK:=oH (zDy isHx _ k b hget (by rw [hor,hA.1,hA.2];rfl) HR.out)
     obtain⟨hA1,hA2⟩:=hA
     clear hget hbd hor
     go_wp2_with fail
     refine(HG _).mono ?_
     rintro e v1 ⟨rfl,rfl⟩
     go_wp2_with fail
     go_round
     case rel=>exact⟨k+1,by omega,by simp,HK.out⟩
     case measure=>simp [intOf];omega
    ·have hbx:isHx b=false:=by
      rw [hor]
      cases q1:decide (65≤(b.toNat:Int))
      ·rfl
      ·cases q2:decide ((b.toNat:Int)≤70)
       ·rfl
       ·exact absurd ⟨q1,q2⟩ hA
     have hend:=zDq isHx s.data.toList k (by rw [zAq];exact hk) HR.out (fun b' hb'=>by
      rw [hget] at hb';rw [← Option.some.inj hb'];exact hbx)
     have hhd:(s.data.toList.drop (s.data.toList.takeWhile isHx).length).head?=some b:=by rw [hend.2,List.head?_drop];exact hget
     have hall:=zFo isHx s.data.toList
     by_cases h72:b=72
     ·have hm:k+1≤s.size:=hlt
      have hns:numS s.data.toList=s.data.toList.takeWhile isHx++[72]:=by unfold numS;rw [hhd,if_pos (by rw [h72])]
      have HL:Hid (s.data.toList.take (k+1)=numS s.data.toList):=oH (by
       rw [hns,hend.1,List.take_add_one,hget,h72];rfl)
      have Hc:Hid ((numS s.data.toList).length=k+1):=oH (by rw [hns,List.length_append,hend.2];rfl)
      have Hx:Hid (∀b ∈ (numS s.data.toList).dropLast,isHx b=true):=oH (by rw [hns,List.dropLast_concat];exact hall)
      have Hl:Hid ((numS s.data.toList).getLast?=some 72∨∀b ∈ numS s.data.toList,isHx b=true):=oH (.inl (by rw [hns];simp))
      subst h72
      have hx2:(k:Int)+1≤(s.size:Int):=by omega
      have hx3:((k:Int)+1).toNat=k+1:=by omega
      have hx4:(0:Int)≤(k:Int)+1:=by omega
      clear hget hbd hor hA hbx hend hhd hall hns HR
      go_wp2_with fail
      refine(HG _).mono ?_
      rintro e v1 ⟨rfl,rfl⟩
      clear HG
      have hel:(s.extract 0 (k+1)).data.toList=numS s.data.toList:=by rw [zBf s (k+1) hm,HL.out]
      have hez:(s.extract 0 (k+1)).size≤s.size:=by rw [← zAq,hel];have:=(zDx s.data.toList).1;rw [zAq] at this;exact this
      have HN:=fun w=>zEe (s.extract 0 (k+1)) (by omega) _ hel Hne.out Hx.out Hl.out w
      clear hel hez HL
      cases hz:num (numS s.data.toList) with
      | none =>
       rw [hz] at HN
       have HT:Hid (oneL s.data.toList=(none,0,41)):=oH (by rw [HO.out,hz])
       clear hz HO
       go_wp2_with fail
       refine(HN _).mono ?_
       rintro e w2 ⟨k1,n1,rfl,_,B1⟩
       have A2:=A0.below B1 hlt0
       have hlt2:=Nat.lt_of_lt_of_le hlt0 B1.size
       have B2:=zAn w2 (.cells #[.int .u8 k1,.complex .f64 0 0,.complex .f64 0 0,.string ⟨#[]⟩,.int .i64 n1] 71)
       have A1:=A2.below B2 hlt2
       have D1:=bt (bt D0 B1) B2
       have T1:=Fv.new w2 (.int .u8 k1) (.complex .f64 0 0) (.complex .f64 0 0) (.string ⟨#[]⟩) (.int .i64 n1) 71 w2.heap.size rfl
       clear A2 A0 D0 B1 B2
       clear HN
       go_upto_region 18 with fail
       generalize w2.alloc (.cells #[.int .u8 k1,.complex .f64 0 0,.complex .f64 0 0,.string ⟨#[]⟩,.int .i64 n1] 71)=w3 at A1 T1 D1 ⊢
       have t0:=T1.c0
       have t1:=T1.c1
       have t2:=T1.c2
       have t3:=T1.c3
       have t4:=T1.c4
       have g0:=A1.c0
       have g1:=A1.c1
       have g2:=A1.c2
       have g3:=A1.c3
       have g4:=A1.c4
       have e0:=A1.f0
       have e1:=A1.f1
       have e2:=A1.f2
       have e3:=A1.f3
       have e4:=A1.f4
       go_wp2_with fail
       have R:=(((((A1.set0 (.int .u8 0)).set1 (.complex .f64 0 0)).set2 (.complex .f64 0 0)).set3 (.string ⟨#[]⟩)).set4 (.int .i64 0))
       have r0:=R.c0
       have r1:=R.c1
       have r2:=R.c2
       have r3:=R.c3
       have r4:=R.c4
       refine bodyPost_ret (v:=.tuple #[.agg #[.int .u8 0,.complex .f64 0 0,.complex .f64 0 0,.string ⟨#[]⟩,.int .i64 0],.int .i64 0,.int .i64 41]) (by simp [results,Tryz.results24,go_sem,r0,r1,r2,r3,r4]) rfl ?_
       exact⟨by rw [HT.out];rfl,zAw D1 (Nat.le_refl _) _ _ _ _ _⟩
      | some t =>
       rw [hz] at HN
       have HT:Hid (oneL s.data.toList=(some t,k+1,0)):=oH (by rw [HO.out,hz];simp only;rw [Hc.out])
       clear hz HO
       go_wp2_with fail
       refine(HN _).mono ?_
       rintro e w2 ⟨k1,n1,rfl,ht,B1⟩
       obtain rfl:=ht t rfl
       have A2:=A0.below B1 hlt0
       have hlt2:=Nat.lt_of_lt_of_le hlt0 B1.size
       have B2:=zAn w2 (.cells #[.int .u8 k1,.complex .f64 0 0,.complex .f64 0 0,.string ⟨#[]⟩,.int .i64 n1] 71)
       have A1:=A2.below B2 hlt2
       have D1:=bt (bt D0 B1) B2
       have T1:=Fv.new w2 (.int .u8 k1) (.complex .f64 0 0) (.complex .f64 0 0) (.string ⟨#[]⟩) (.int .i64 n1) 71 w2.heap.size rfl
       clear A2 A0 D0 B1 B2
       clear HN ht
       go_upto_region 18 with fail
       generalize w2.alloc (.cells #[.int .u8 k1,.complex .f64 0 0,.complex .f64 0 0,.string ⟨#[]⟩,.int .i64 n1] 71)=w3 at A1 T1 D1 ⊢
       have t0:=T1.c0
       have t1:=T1.c1
       have t2:=T1.c2
       have t3:=T1.c3
       have t4:=T1.c4
       have g0:=A1.c0
       have g1:=A1.c1
       have g2:=A1.c2
       have g3:=A1.c3
       have g4:=A1.c4
       have e0:=A1.f0
       have e1:=A1.f1
       have e2:=A1.f2
       have e3:=A1.f3
       have e4:=A1.f4
       go_wp2_with fail
       have R:=(((((A1.set0 (.int .u8 k1)).set1 (.complex .f64 0 0)).set2 (.complex .f64 0 0)).set3 (.string ⟨#[]⟩)).set4 (.int .i64 n1))
       have r0:=R.c0
       have r1:=R.c1
       have r2:=R.c2
       have r3:=R.c3
       have r4:=R.c4
       refine bodyPost_ret (v:=.tuple #[.agg #[.int .u8 k1,.complex .f64 0 0,.complex .f64 0 0,.string ⟨#[]⟩,.int .i64 n1],.int .i64 ((k+1:Nat):Int),.int .i64 0]) (by simp [results,Tryz.results24,go_sem,r0,r1,r2,r3,r4]) rfl ?_
       exact⟨by rw [HT.out];rfl,zAw D1 (Nat.le_refl _) _ _ _ _ _⟩
     ·have hm:k≤s.size:=hk
      have hns:numS s.data.toList=s.data.toList.takeWhile isHx:=by
       unfold numS;rw [hhd,if_neg (fun e=>h72 (Option.some.inj e))]
      have HL:Hid (s.data.toList.take k=numS s.data.toList):=oH (by rw [hns,hend.1])
      have Hc:Hid ((numS s.data.toList).length=k):=oH (by rw [hns,hend.2])
      have Hx:Hid (∀b ∈ (numS s.data.toList).dropLast,isHx b=true):=oH (by rw [hns];exact fun b hb=>hall b (List.dropLast_subset _ hb))
      have Hl:Hid ((numS s.data.toList).getLast?=some 72∨∀b ∈ numS s.data.toList,isHx b=true):=oH (.inr (by rw [hns];exact hall))
      have t72:((b.toNat:Int) == 72)=false:=zCf b 72 h72
      have hx1:(0:Int)≤(k:Int):=by omega
      have hx2:(k:Int)≤(s.size:Int):=by omega
      clear hget hbd hor hbx hend hhd hall hns HR h72
      by_cases q1:decide (65≤(b.toNat:Int))=true
      ·have q2:decide ((b.toNat:Int)≤70)=false:=by
        cases q2:decide ((b.toNat:Int)≤70)
        ·rfl
        ·exact absurd ⟨q1,q2⟩ hA
       clear hA
       go_wp2_with fail
       refine(HG _).mono ?_
       rintro e v1 ⟨rfl,rfl⟩
       clear HG
       have hel:(s.extract 0 (k)).data.toList=numS s.data.toList:=by rw [zBf s (k) hm,HL.out]
       have hez:(s.extract 0 (k)).size≤s.size:=by rw [← zAq,hel];have:=(zDx s.data.toList).1;rw [zAq] at this;exact this
       have HN:=fun w=>zEe (s.extract 0 (k)) (by omega) _ hel Hne.out Hx.out Hl.out w
       clear hel hez HL
       cases hz:num (numS s.data.toList) with
       | none =>
        rw [hz] at HN
        have HT:Hid (oneL s.data.toList=(none,0,41)):=oH (by rw [HO.out,hz])
        clear hz HO
        go_wp2_with fail
        refine(HN _).mono ?_
        rintro e w2 ⟨k1,n1,rfl,_,B1⟩
        have A2:=A0.below B1 hlt0
        have hlt2:=Nat.lt_of_lt_of_le hlt0 B1.size
        have B2:=zAn w2 (.cells #[.int .u8 k1,.complex .f64 0 0,.complex .f64 0 0,.string ⟨#[]⟩,.int .i64 n1] 71)
        have A1:=A2.below B2 hlt2
        have D1:=bt (bt D0 B1) B2
        have T1:=Fv.new w2 (.int .u8 k1) (.complex .f64 0 0) (.complex .f64 0 0) (.string ⟨#[]⟩) (.int .i64 n1) 71 w2.heap.size rfl
        clear A2 A0 D0 B1 B2
        clear HN
        go_upto_region 18 with fail
        generalize w2.alloc (.cells #[.int .u8 k1,.complex .f64 0 0,.complex .f64 0 0,.string ⟨#[]⟩,.int .i64 n1] 71)=w3 at A1 T1 D1 ⊢
        have t0:=T1.c0
        have t1:=T1.c1
        have t2:=T1.c2
        have t3:=T1.c3
        have t4:=T1.c4
        have g0:=A1.c0
        have g1:=A1.c1
        have g2:=A1.c2
        have g3:=A1.c3
        have g4:=A1.c4
        have e0:=A1.f0
        have e1:=A1.f1
        have e2:=A1.f2
        have e3:=A1.f3
        have e4:=A1.f4
        go_wp2_with fail
        have R:=(((((A1.set0 (.int .u8 0)).set1 (.complex .f64 0 0)).set2 (.complex .f64 0 0)).set3 (.string ⟨#[]⟩)).set4 (.int .i64 0))
        have r0:=R.c0
        have r1:=R.c1
        have r2:=R.c2
        have r3:=R.c3
        have r4:=R.c4
        refine bodyPost_ret (v:=.tuple #[.agg #[.int .u8 0,.complex .f64 0 0,.complex .f64 0 0,.string ⟨#[]⟩,.int .i64 0],.int .i64 0,.int .i64 41]) (by simp [results,Tryz.results24,go_sem,r0,r1,r2,r3,r4]) rfl ?_
        exact⟨by rw [HT.out];rfl,zAw D1 (Nat.le_refl _) _ _ _ _ _⟩
       | some t =>
        rw [hz] at HN
        have HT:Hid (oneL s.data.toList=(some t,k,0)):=oH (by rw [HO.out,hz];simp only;rw [Hc.out])
        clear hz HO
        go_wp2_with fail
        refine(HN _).mono ?_
        rintro e w2 ⟨k1,n1,rfl,ht,B1⟩
        obtain rfl:=ht t rfl
        have A2:=A0.below B1 hlt0
        have hlt2:=Nat.lt_of_lt_of_le hlt0 B1.size
        have B2:=zAn w2 (.cells #[.int .u8 k1,.complex .f64 0 0,.complex .f64 0 0,.string ⟨#[]⟩,.int .i64 n1] 71)
        have A1:=A2.below B2 hlt2
        have D1:=bt (bt D0 B1) B2
        have T1:=Fv.new w2 (.int .u8 k1) (.complex .f64 0 0) (.complex .f64 0 0) (.string ⟨#[]⟩) (.int .i64 n1) 71 w2.heap.size rfl
        clear A2 A0 D0 B1 B2
        clear HN ht
        go_upto_region 18 with fail
        generalize w2.alloc (.cells #[.int .u8 k1,.complex .f64 0 0,.complex .f64 0 0,.string ⟨#[]⟩,.int .i64 n1] 71)=w3 at A1 T1 D1 ⊢
        have t0:=T1.c0
        have t1:=T1.c1
        have t2:=T1.c2
        have t3:=T1.c3
        have t4:=T1.c4
        have g0:=A1.c0
        have g1:=A1.c1
        have g2:=A1.c2
        have g3:=A1.c3
        have g4:=A1.c4
        have e0:=A1.f0
        have e1:=A1.f1
        have e2:=A1.f2
        have e3:=A1.f3
        have e4:=A1.f4
        go_wp2_with fail
        have R:=(((((A1.set0 (.int .u8 k1)).set1 (.complex .f64 0 0)).set2 (.complex .f64 0 0)).set3 (.string ⟨#[]⟩)).set4 (.int .i64 n1))
        have r0:=R.c0
        have r1:=R.c1
        have r2:=R.c2
        have r3:=R.c3
        have r4:=R.c4
        refine bodyPost_ret (v:=.tuple #[.agg #[.int .u8 k1,.complex .f64 0 0,.complex .f64 0 0,.string ⟨#[]⟩,.int .i64 n1],.int .i64 k,.int .i64 0]) (by simp [results,Tryz.results24,go_sem,r0,r1,r2,r3,r4]) rfl ?_
        exact⟨by rw [HT.out];rfl,zAw D1 (Nat.le_refl _) _ _ _ _ _⟩
      ·have q1':decide (65≤(b.toNat:Int))=false:=by simpa using q1
       clear hA q1
       go_wp2_with fail
       refine(HG _).mono ?_
       rintro e v1 ⟨rfl,rfl⟩
       clear HG
       have hel:(s.extract 0 (k)).data.toList=numS s.data.toList:=by rw [zBf s (k) hm,HL.out]
       have hez:(s.extract 0 (k)).size≤s.size:=by rw [← zAq,hel];have:=(zDx s.data.toList).1;rw [zAq] at this;exact this
       have HN:=fun w=>zEe (s.extract 0 (k)) (by omega) _ hel Hne.out Hx.out Hl.out w
       clear hel hez HL
       cases hz:num (numS s.data.toList) with
       | none =>
        rw [hz] at HN
        have HT:Hid (oneL s.data.toList=(none,0,41)):=oH (by rw [HO.out,hz])
        clear hz HO
        go_wp2_with fail
        refine(HN _).mono ?_
        rintro e w2 ⟨k1,n1,rfl,_,B1⟩
        have A2:=A0.below B1 hlt0
        have hlt2:=Nat.lt_of_lt_of_le hlt0 B1.size
        have B2:=zAn w2 (.cells #[.int .u8 k1,.complex .f64 0 0,.complex .f64 0 0,.string ⟨#[]⟩,.int .i64 n1] 71)
        have A1:=A2.below B2 hlt2
        have D1:=bt (bt D0 B1) B2
        have T1:=Fv.new w2 (.int .u8 k1) (.complex .f64 0 0) (.complex .f64 0 0) (.string ⟨#[]⟩) (.int .i64 n1) 71 w2.heap.size rfl
        clear A2 A0 D0 B1 B2
        clear HN
        go_upto_region 18 with fail
        generalize w2.alloc (.cells #[.int .u8 k1,.complex .f64 0 0,.complex .f64 0 0,.string ⟨#[]⟩,.int .i64 n1] 71)=w3 at A1 T1 D1 ⊢
        have t0:=T1.c0
        have t1:=T1.c1
        have t2:=T1.c2
        have t3:=T1.c3
        have t4:=T1.c4
        have g0:=A1.c0
        have g1:=A1.c1
        have g2:=A1.c2
        have g3:=A1.c3
        have g4:=A1.c4
        have e0:=A1.f0
        have e1:=A1.f1
        have e2:=A1.f2
        have e3:=A1.f3
        have e4:=A1.f4
        go_wp2_with fail
        have R:=(((((A1.set0 (.int .u8 0)).set1 (.complex .f64 0 0)).set2 (.complex .f64 0 0)).set3 (.string ⟨#[]⟩)).set4 (.int .i64 0))
        have r0:=R.c0
        have r1:=R.c1
        have r2:=R.c2
        have r3:=R.c3
        have r4:=R.c4
        refine bodyPost_ret (v:=.tuple #[.agg #[.int .u8 0,.complex .f64 0 0,.complex .f64 0 0,.string ⟨#[]⟩,.int .i64 0],.int .i64 0,.int .i64 41]) (by simp [results,Tryz.results24,go_sem,r0,r1,r2,r3,r4]) rfl ?_
        exact⟨by rw [HT.out];rfl,zAw D1 (Nat.le_refl _) _ _ _ _ _⟩
       | some t =>
        rw [hz] at HN
        have HT:Hid (oneL s.data.toList=(some t,k,0)):=oH (by rw [HO.out,hz];simp only;rw [Hc.out])
        clear hz HO
        go_wp2_with fail
        refine(HN _).mono ?_
        rintro e w2 ⟨k1,n1,rfl,ht,B1⟩
        obtain rfl:=ht t rfl
        have A2:=A0.below B1 hlt0
        have hlt2:=Nat.lt_of_lt_of_le hlt0 B1.size
        have B2:=zAn w2 (.cells #[.int .u8 k1,.complex .f64 0 0,.complex .f64 0 0,.string ⟨#[]⟩,.int .i64 n1] 71)
        have A1:=A2.below B2 hlt2
        have D1:=bt (bt D0 B1) B2
        have T1:=Fv.new w2 (.int .u8 k1) (.complex .f64 0 0) (.complex .f64 0 0) (.string ⟨#[]⟩) (.int .i64 n1) 71 w2.heap.size rfl
        clear A2 A0 D0 B1 B2
        clear HN ht
        go_upto_region 18 with fail
        generalize w2.alloc (.cells #[.int .u8 k1,.complex .f64 0 0,.complex .f64 0 0,.string ⟨#[]⟩,.int .i64 n1] 71)=w3 at A1 T1 D1 ⊢
        have t0:=T1.c0
        have t1:=T1.c1
        have t2:=T1.c2
        have t3:=T1.c3
        have t4:=T1.c4
        have g0:=A1.c0
        have g1:=A1.c1
        have g2:=A1.c2
        have g3:=A1.c3
        have g4:=A1.c4
        have e0:=A1.f0
        have e1:=A1.f1
        have e2:=A1.f2
        have e3:=A1.f3
        have e4:=A1.f4
        go_wp2_with fail
        have R:=(((((A1.set0 (.int .u8 k1)).set1 (.complex .f64 0 0)).set2 (.complex .f64 0 0)).set3 (.string ⟨#[]⟩)).set4 (.int .i64 n1))
        have r0:=R.c0
        have r1:=R.c1
        have r2:=R.c2
        have r3:=R.c3
        have r4:=R.c4
        refine bodyPost_ret (v:=.tuple #[.agg #[.int .u8 k1,.complex .f64 0 0,.complex .f64 0 0,.string ⟨#[]⟩,.int .i64 n1],.int .i64 k,.int .i64 0]) (by simp [results,Tryz.results24,go_sem,r0,r1,r2,r3,r4]) rfl ?_
        exact⟨by rw [HT.out];rfl,zAw D1 (Nat.le_refl _) _ _ _ _ _⟩
   ·have HK:=oH (zDy isHx _ k b hget (by rw [hor,hbd];rfl) HR.out)
    rw [hbd] at HG
    clear hget hbd hor
    go_wp2_with fail
    refine(HG _).mono ?_
    rintro e v1 ⟨rfl,rfl⟩
    go_wp2_with fail
    go_round
    case rel=>exact⟨k+1,by omega,by simp,HK.out⟩
    case measure=>simp [intOf];omega
  ·have hnl:¬(k:Int) < (s.size:Int):=by omega
   have hm:k≤s.size:=hk
   have hend:=zDq isHx s.data.toList k (by rw [zAq];exact hk) HR.out (fun b' hb'=>by
    rw [List.getElem?_eq_none (by rw [zAq];omega)] at hb';cases hb')
   have hhd:(s.data.toList.drop (s.data.toList.takeWhile isHx).length).head?=none:=by
    rw [hend.2,List.drop_of_length_le (by rw [zAq];omega)];rfl
   have hall:=zFo isHx s.data.toList
   have hns:numS s.data.toList=s.data.toList.takeWhile isHx:=by
    unfold numS;rw [hhd,if_neg (fun e=>by cases e)]
   have HL:Hid (s.data.toList.take k=numS s.data.toList):=oH (by rw [hns,hend.1])
   have Hc:Hid ((numS s.data.toList).length=k):=oH (by rw [hns,hend.2])
   have Hx:Hid (∀b ∈ (numS s.data.toList).dropLast,isHx b=true):=oH (by rw [hns];exact fun b hb=>hall b (List.dropLast_subset _ hb))
   have Hl:Hid ((numS s.data.toList).getLast?=some 72∨∀b ∈ numS s.data.toList,isHx b=true):=oH (.inr (by rw [hns];exact hall))
   have hx1:(0:Int)≤(k:Int):=by omega
   have hx2:(k:Int)≤(s.size:Int):=by omega
   clear hend hhd hall hns HR
   have hel:(s.extract 0 (k)).data.toList=numS s.data.toList:=by rw [zBf s (k) hm,HL.out]
   have hez:(s.extract 0 (k)).size≤s.size:=by rw [← zAq,hel];have:=(zDx s.data.toList).1;rw [zAq] at this;exact this
   have HN:=fun w=>zEe (s.extract 0 (k)) (by omega) _ hel Hne.out Hx.out Hl.out w
   clear hel hez HL
   cases hz:num (numS s.data.toList) with
   | none =>
    rw [hz] at HN
    have HT:Hid (oneL s.data.toList=(none,0,41)):=oH (by rw [HO.out,hz])
    clear hz HO
    go_wp2_with fail
    refine(HN _).mono ?_
    rintro e w2 ⟨k1,n1,rfl,_,B1⟩
    have A2:=A0.below B1 hlt0
    have hlt2:=Nat.lt_of_lt_of_le hlt0 B1.size
    have B2:=zAn w2 (.cells #[.int .u8 k1,.complex .f64 0 0,.complex .f64 0 0,.string ⟨#[]⟩,.int .i64 n1] 71)
    have A1:=A2.below B2 hlt2
    have D1:=bt (bt D0 B1) B2
    have T1:=Fv.new w2 (.int .u8 k1) (.complex .f64 0 0) (.complex .f64 0 0) (.string ⟨#[]⟩) (.int .i64 n1) 71 w2.heap.size rfl
    clear A2 A0 D0 B1 B2
    clear HN
    go_upto_region 18 with fail
    generalize w2.alloc (.cells #[.int .u8 k1,.complex .f64 0 0,.complex .f64 0 0,.string ⟨#[]⟩,.int .i64 n1] 71)=w3 at A1 T1 D1 ⊢
    have t0:=T1.c0
    have t1:=T1.c1
    have t2:=T1.c2
    have t3:=T1.c3
    have t4:=T1.c4
    have g0:=A1.c0
    have g1:=A1.c1
    have g2:=A1.c2
    have g3:=A1.c3
    have g4:=A1.c4
    have e0:=A1.f0
    have e1:=A1.f1
    have e2:=A1.f2
    have e3:=A1.f3
    have e4:=A1.f4
    go_wp2_with fail
    have R:=(((((A1.set0 (.int .u8 0)).set1 (.complex .f64 0 0)).set2 (.complex .f64 0 0)).set3 (.string ⟨#[]⟩)).set4 (.int .i64 0))
    have r0:=R.c0
    have r1:=R.c1
    have r2:=R.c2
    have r3:=R.c3
    have r4:=R.c4
    refine bodyPost_ret (v:=.tuple #[.agg #[.int .u8 0,.complex .f64 0 0,.complex .f64 0 0,.string ⟨#[]⟩,.int .i64 0],.int .i64 0,.int .i64 41]) (by simp [results,Tryz.results24,go_sem,r0,r1,r2,r3,r4]) rfl ?_
    exact⟨by rw [HT.out];rfl,zAw D1 (Nat.le_refl _) _ _ _ _ _⟩
   | some t =>
    rw [hz] at HN
    have HT:Hid (oneL s.data.toList=(some t,k,0)):=oH (by rw [HO.out,hz];simp only;rw [Hc.out])
    clear hz HO
    go_wp2_with fail
    refine(HN _).mono ?_
    rintro e w2 ⟨k1,n1,rfl,ht,B1⟩
    obtain rfl:=ht t rfl
    have A2:=A0.below B1 hlt0
    have hlt2:=Nat.lt_of_lt_of_le hlt0 B1.size
    have B2:=zAn w2 (.cells #[.int .u8 k1,.complex .f64 0 0,.complex .f64 0 0,.string ⟨#[]⟩,.int .i64 n1] 71)
    have A1:=A2.below B2 hlt2
    have D1:=bt (bt D0 B1) B2
    have T1:=Fv.new w2 (.int .u8 k1) (.complex .f64 0 0) (.complex .f64 0 0) (.string ⟨#[]⟩) (.int .i64 n1) 71 w2.heap.size rfl
    clear A2 A0 D0 B1 B2
    clear HN ht
    go_upto_region 18 with fail
    generalize w2.alloc (.cells #[.int .u8 k1,.complex .f64 0 0,.complex .f64 0 0,.string ⟨#[]⟩,.int .i64 n1] 71)=w3 at A1 T1 D1 ⊢
    have t0:=T1.c0
    have t1:=T1.c1
    have t2:=T1.c2
    have t3:=T1.c3
    have t4:=T1.c4
    have g0:=A1.c0
    have g1:=A1.c1
    have g2:=A1.c2
    have g3:=A1.c3
    have g4:=A1.c4
    have e0:=A1.f0
    have e1:=A1.f1
    have e2:=A1.f2
    have e3:=A1.f3
    have e4:=A1.f4
    go_wp2_with fail
    have R:=(((((A1.set0 (.int .u8 k1)).set1 (.complex .f64 0 0)).set2 (.complex .f64 0 0)).set3 (.string ⟨#[]⟩)).set4 (.int .i64 n1))
    have r0:=R.c0
    have r1:=R.c1
    have r2:=R.c2
    have r3:=R.c3
    have r4:=R.c4
    refine bodyPost_ret (v:=.tuple #[.agg #[.int .u8 k1,.complex .f64 0 0,.complex .f64 0 0,.string ⟨#[]⟩,.int .i64 n1],.int .i64 k,.int .i64 0]) (by simp [results,Tryz.results24,go_sem,r0,r1,r2,r3,r4]) rfl ?_
    exact⟨by rw [HT.out];rfl,zAw D1 (Nat.le_refl _) _ _ _ _ _⟩
theorem zVv (s:ByteArray) (hs:s.size≤1048576) (h0:0 < s.size) (hl:isLt (s.data.toList.headD 0)=false) (hd:isDg (s.data.toList.headD 0)=false) (h34:s.data.toList.headD 0≠34) (h39:s.data.toList.headD 0≠39) (w:World) :
  Calls Tryz.prog 24 #[.string s] w fun e w'=>e=.returned (oneV (oneL s.data.toList))∧Below w.heap.size w w':=by
 have hsc:=fun w a x y m=>zAg (P:=Tryz.prog) w a .f64 x y m
 obtain⟨r,hr⟩:=zCm s h0
 have HO:Hid (oneL s.data.toList=if symb s.data.toList=0 then (none,0,40) else (some (plainT (s.data.toList.take (symb s.data.toList))),symb s.data.toList,0)):=oH (by
  unfold oneL
  rw [if_neg (by rw [hl];decide),if_neg (by rw [hd];decide),if_neg (fun k=>by rcases k with k | k;exact h34 k;exact h39 k)])
 have HSz:Hid (symb s.data.toList≤s.size):=oH (by
  rw [← zAq,hr]
  by_cases hz:symb (s[0]::r)=0
  ·omega
  ·exact(zIt s[0] r hz).2.2.1)
 have HL1:=fun w=>zDa s[0] w
 have HG1:=fun w=>zDg s[0] w
 have HS:=fun w=>zNa s hs h0 w
 obtain⟨c,hc⟩:∃c,s[0]=c:=⟨_,rfl⟩
 rw [hc] at HL1 HG1 hr
 have hh:s.data.toList.headD 0=c:=by rw [hr];rfl
 rw [hh] at hl hd h34 h39
 rw [hl] at HL1
 rw [hd] at HG1
 have t34:((c.toNat:Int) == 34)=false:=zCf c 34 h34
 have t39:((c.toNat:Int) == 39)=false:=zCf c 39 h39
 clear hh hr hl hd h34 h39
 have D0:=zAn w (.cells #[.int .u8 0,.complex .f64 0 0,.complex .f64 0 0,.string ⟨#[]⟩,.int .i64 0] 71)
 have A0:=Fv.new w (.int .u8 0) (.complex .f64 0 0) (.complex .f64 0 0) (.string ⟨#[]⟩) (.int .i64 0) 71 w.heap.size rfl
 have hlt0:w.heap.size < (w.alloc (.cells #[.int .u8 0,.complex .f64 0 0,.complex .f64 0 0,.string ⟨#[]⟩,.int .i64 0] 71)).heap.size:=by simp
 generalize hm:symb s.data.toList=m at HO HSz HS
 clear hm
 go_enter Tryz.func24,Tryz.ntmps24
 go_wp2_with fail
 refine(HL1 _).mono ?_
 rintro e w1 ⟨rfl,rfl⟩
 go_wp2_with fail
 refine(HG1 _).mono ?_
 rintro e w1 ⟨rfl,rfl⟩
 clear HL1 HG1
 go_wp2_with fail
 refine(HS _).mono ?_
 rintro e w2 ⟨rfl,B1⟩
 have A1:=A0.below B1 hlt0
 have hlt1:=Nat.lt_of_lt_of_le hlt0 B1.size
 have D1:=bt D0 B1
 clear HS A0 D0 B1 hlt0
 by_cases hz:m=0
 ·subst hz
  have HT:Hid (oneL s.data.toList=(none,0,40)):=oH (by rw [HO.out,if_pos rfl])
  have g0:=A1.c0
  have g1:=A1.c1
  have g2:=A1.c2
  have g3:=A1.c3
  have g4:=A1.c4
  have e0:=A1.f0
  have e1:=A1.f1
  have e2:=A1.f2
  have e3:=A1.f3
  have e4:=A1.f4
  clear HO
  go_wp2_with fail
  have R:=(((((A1.set0 (.int .u8 0)).set1 (.complex .f64 0 0)).set2 (.complex .f64 0 0)).set3 (.string ⟨#[]⟩)).set4 (.int .i64 0))
  have r0:=R.c0
  have r1:=R.c1
  have r2:=R.c2
  have r3:=R.c3
  have r4:=R.c4
  refine bodyPost_ret (v:=.tuple #[.agg #[.int .u8 0,.complex .f64 0 0,.complex .f64 0 0,.string ⟨#[]⟩,.int .i64 0],.int .i64 0,.int .i64 40]) (by simp [results,Tryz.results24,go_sem,r0,r1,r2,r3,r4]) rfl ?_
  exact⟨by rw [HT.out];rfl,zAw D1 (Nat.le_refl _) _ _ _ _ _⟩
 ·have HT:Hid (oneL s.data.toList=(some (plainT (s.data.toList.take m)),m,0)):=oH (by rw [HO.out,if_neg hz])
  have tz:((m:Int) == 0)=false:=by rw [beq_eq_false_iff_ne];omega
  have hx1:(0:Int)≤(m:Int):=by omega
  have hx2:(m:Int)≤(s.size:Int):=by have:=HSz.out;omega
  have hel:=zBf s m HSz.out
  have HP:=fun w=>zPj (s.extract 0 m) w
  rw [hel] at HP
  obtain⟨k1,x1,n1,hpt⟩:∃k1 x1 n1,plainT (s.data.toList.take m)=⟨k1,x1,n1⟩:=⟨_,_,_,rfl⟩
  rw [hpt] at HP HT
  unfold tokV at HP
  clear HO hel hpt hz
  go_wp2_with fail
  refine(HP _).mono ?_
  rintro e w3 ⟨rfl,B2⟩
  have A2:=A1.below B2 hlt1
  have D2:=bt D1 B2
  have g0:=A2.c0
  have g1:=A2.c1
  have g2:=A2.c2
  have g3:=A2.c3
  have g4:=A2.c4
  have e0:=A2.f0
  have e1:=A2.f1
  have e2:=A2.f2
  have e3:=A2.f3
  have e4:=A2.f4
  clear HP
  go_wp2_with fail
  have R:=(((((A2.set0 (.int .u8 k1)).set1 (.complex .f64 0 0)).set2 (.complex .f64 0 0)).set3 (.string ⟨x1.toArray⟩)).set4 (.int .i64 n1))
  have r0:=R.c0
  have r1:=R.c1
  have r2:=R.c2
  have r3:=R.c3
  have r4:=R.c4
  refine bodyPost_ret (v:=.tuple #[.agg #[.int .u8 k1,.complex .f64 0 0,.complex .f64 0 0,.string ⟨x1.toArray⟩,.int .i64 n1],.int .i64 m,.int .i64 0]) (by simp [results,Tryz.results24,go_sem,r0,r1,r2,r3,r4]) rfl ?_
  exact⟨by rw [HT.out];rfl,zAw D2 (Nat.le_refl _) _ _ _ _ _⟩
end Go.Proofs.YtepfknfadpkigaaGreat
end
