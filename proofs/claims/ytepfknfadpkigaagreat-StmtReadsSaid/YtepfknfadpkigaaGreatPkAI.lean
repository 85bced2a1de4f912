/- Several texts in one. -/
import Derived.Test.YtepfknfadpkigaaGreatPkAA
import Derived.Test.YtepfknfadpkigaaGreatPkAF
import Derived.Deep.LoopGhost
import Derived.Deep.DeepCutAuto
set_option linter.unusedVariables false
set_option linter.unusedSimpArgs false
section
namespace Go.Proofs.YtepfknfadpkigaaGreat
open Go.RowKit
set_option maxHeartbeats 2000000
set_option maxRecDepth 100000
theorem zCx {t:TK} {px py ex ey:Nat} (h1:posV t.2.1.1 t.2.1.2=.complex .f64 px py) (h2:posV t.2.2.1 t.2.2.2=.complex .f64 ex ey):tkV t=.agg #[.int .u8 t.1.k,.complex .f64 px py,.complex .f64 ex ey,.string ⟨t.1.x.toArray⟩,.int .i64 t.1.n]:=by unfold tkV;rw [h1,h2]
def QI (c:Cx) (b:Nat) (done:FV) (Post:World→Prop) (w:World) (gk:Nat) (v:Value) (wr:World):Prop :=
 Kn w wr∧((∃u j,v=ptrV u.p∧RX c wr j∧IsT wr (b≤·) u∧b≤wr.heap.size∧Then c b wr (dotsM c.ts gk u.dt j) done Post)∨(v=.pointer none∧∀w2,Fc c.B [] wr w2→Post w2))
theorem zVi (c:Cx) (w:World) (i b:Nat) (done:FV) (Post:World→Prop) (hX:RX c w i) (hk:(tk c.ts i).1.k≠1) (hT:Then c b w (qualM c.ts i) done Post) :
  Calls Tryz.prog 114 #[pt c.R,done.val] w (GP c.B Post w):=by
 have H1:=zBh c w i hX
 obtain⟨px,py,hpx⟩:=zAc (tk c.ts i).2.1.1 (tk c.ts i).2.1.2
 obtain⟨ex,ey,hex⟩:=zAc (tk c.ts i).2.2.1 (tk c.ts i).2.2.2
 rw [zCx hpx hex] at H1
 have hf0:=zCp
 have hkb:(((tk c.ts i).1.k:Int) != 1)=true:=by simp;omega
 have HT:=oH (oA hX (oA hT hk))
 clear hX hT hk hpx hex
 simp only [pt]
 go_enter Tryz.func114,Tryz.ntmps114
 go_wp2_with fail
 refine H1.mono ?_
 rintro e w1 ⟨rfl,F1⟩
 have HF:=oH F1
 clear H1 F1
 go_wp2_with fail
 go_ret
 obtain⟨hX,hT,hk⟩:=HT.out
 refine zEx (Kn.fr0 HF.out) (fun w2 h2=>hT.bad i (by simp [qualM,hk]) w2 ((hX.fc HF.out).on h2).up ((hX.keep HF.out).keepC h2))
theorem zLi (c:Cx) (w:World) (i b:Nat) (done:FV) (Post:World→Prop) (hX:RX c w i) (hR:c.R < b) (hb:b≤w.heap.size) (hT:Then c b w (qualM c.ts i) done Post) :
  Calls Tryz.prog 114 #[pt c.R,done.val] w (GP c.B Post w):=by
 by_cases hk:(tk c.ts i).1.k=1
 ·have hlt:=zKa hk
  have H1:=zBh c w i hX
  obtain⟨px,py,hpx⟩:=zAc (tk c.ts i).2.1.1 (tk c.ts i).2.1.2
  obtain⟨ex,ey,hex⟩:=zAc (tk c.ts i).2.2.1 (tk c.ts i).2.2.2
  have htk:=zCx hpx hex
  rw [htk] at H1
  have hf0:=zCp
  have hsc:=fun w a x y m=>zAg (P:=Tryz.prog) w a .f64 x y m
  obtain⟨t3,h3⟩:∃t3:ByteArray,(⟨(tk c.ts i).1.x.toArray⟩:ByteArray)=t3:=⟨_,rfl⟩
  rw [hk] at H1
  have HT:=oH (oA hX (oA hT (oA hk (oA htk (oA hpx h3)))))
  rw [h3] at H1
  clear hX hT hk hpx hex htk h3
  simp only [pt]
  go_enter Tryz.func114,Tryz.ntmps114
  go_wp2_with fail
  refine H1.mono ?_
  rintro e w1 ⟨rfl,F1⟩
  have X1:=HT.out.1.keep F1
  have H2:=zBv c w1 i X1 hlt
  rw [HT.out.2.2.2.1,HT.out.2.2.1,HT.out.2.2.2.2.2] at H2
  have HF1:=oH (oA F1 X1)
  clear H1 F1 X1
  go_wp2_with fail
  refine H2.mono ?_
  rintro e w2 ⟨rfl,F2,X2⟩
  have F23:=Fr.alloc w2 (.cells #[.int .u8 1,.complex .f64 px py,.complex .f64 ex ey,.string t3,.int .i64 (tk c.ts i).1.n] 71)
  have hbs:b≤w2.heap.size:=by have:=HF1.out.1.size;have:=F2.size;omega
  have HN:=zBj (w2.alloc (.cells #[.int .u8 1,.complex .f64 px py,.complex .f64 ex ey,.string t3,.int .i64 (tk c.ts i).1.n] 71)) (nd 1 (tk c.ts i) (tk c.ts i).1.x 0) _ [] b (zIx _) (by simp) (by simp) (by have:=F23.size;omega) (HT.out.1.txt _) _ HT.out.2.2.2.2.1 t3 HT.out.2.2.2.2.2 1 rfl 0 rfl [] rfl
  have HF2:=oH (oA F2 (oA X2 F23))
  clear H2 F2 X2 F23
  go_wp2_with fail
  refine HN.mono ?_
  rintro e w3 ⟨u,rfl,F3,hu,hud⟩
  have HQ:Hid (QI c b done Post w (c.ts.length+1) (ptrV u.p) w3):=oH (by
   obtain⟨F1,X1⟩:=HF1.out
   obtain⟨F2,X2,F23⟩:=HF2.out
   obtain⟨hX,hT,hk,_⟩:=HT.out
   have F24:=F23.trans F3 (by simp)
   refine⟨(Kn.fr0 F1).trans ((X1.knR F2).trans (Kn.fr0 F24)),.inl ⟨u,i+1,rfl,X2.keep F24,hu,by have:=F24.size;omega,?_⟩⟩
   rw [hud]
   have:=hT.on (((hX.fc F1).up.on (X1.fcR F2)).on (X2.fc F24).up)
   simpa only [qualM,if_pos hk] using this)
  clear HN F3 hu hud
  simp only [ptrV] at HQ ⊢
  go_wp2_with fail
  go_loopg [6] (c.ts.length+1) (fun gk v wr=>QI c b done Post w gk v wr)
  case atStart=>exact HQ.out
  case round =>
   obtain⟨hkn,⟨u,j,rfl,hX,hu,hbr,hT2⟩ | ⟨rfl,hP⟩⟩:=hrel
   ·clear HQ HT HF1 HF2
    have hgk:gk≠0:=fun e=>hT2.no (by rw [e];rfl)
    obtain⟨m,rfl⟩:∃m,gk=m+1:=⟨gk - 1,by omega⟩
    have HS:=zBg c wr j [46] hX
    cases hs:isS (tk c.ts j) [46] with
    | false =>
     rw [hs] at HS
     have hG:∀w',Fr [] wr w'→Goes c.B done (ptrV u.p) w' Post:=fun w' F'=>hT2.ok u.dt j (by simp [dotsM,hs]) u w' (hX.fc F').up (hX.keep F') (hu.fr F' (by simp)) rfl
     have HG:=oH (oA hG hkn)
     clear hX hu hT2 hG hkn hs
     simp only [ptrV]
     go_wp2_with fail
     refine HS.mono ?_
     rintro e w4 ⟨rfl,F4⟩
     obtain⟨hE,hC⟩:=HG.out.1 w4 F4
     have hRn:=zAe hE
     have HK:=oH (HG.out.2.trans (Kn.fr0 F4))
     clear hE HS F4
     simp only [ptrV] at hC
     go_wp2_with fail
     refine hC.mono ?_
     rintro e w' ⟨s,rfl,hk2,hr⟩
     go_wp2_with fail
     go_ret
     exact zAv (HK.out.trans hk2) hr
    | true =>
     rw [hs] at HS
     have hjl:=zAm hs
     by_cases hn:(tk c.ts (j+1)).1.k=1
     ·have HD:=fun w4 (F4:Fr [] wr w4)=>zOi c w4 j b u (hX.keep F4) hjl hn (hu.fr F4 (by simp)) hR (by have:=F4.size;omega)
      have HG:=oH (oA hT2 (oA hX (oA hkn (oA HD (oA hs hn)))))
      clear hX hu hT2 hkn hs hn HD
      simp only [ptrV]
      go_wp2_with fail
      refine HS.mono ?_
      rintro e w4 ⟨rfl,F4⟩
      have HD:=HG.out.2.2.2.1 w4 F4
      have HF4:=oH F4
      clear HS F4
      simp only [ptrV] at HD
      go_wp2_with fail
      refine HD.mono ?_
      rintro e w5 ⟨u5,rfl,F5,X5,hu5,hd5⟩
      have hq:QI c b done Post w m (ptrV u5.p) w5:=by
       obtain⟨hT2,hX,hkn,_,hs,hn⟩:=HG.out
       have X4:=hX.keep HF4.out
       refine⟨hkn.trans ((Kn.fr0 HF4.out).trans (X4.knR F5)),.inl ⟨u5,j+2,rfl,X5,hu5,by have:=HF4.out.size;have:=F5.size;omega,?_⟩⟩
       rw [hd5]
       have:=hT2.on ((hX.fc HF4.out).up.on (X4.fcR F5))
       simpa only [dotsM,hs,if_true,dotM,if_pos hn] using this
      have HQ:=oH hq
      clear HD F5 X5 hu5 hd5 hq HG HF4
      simp only [ptrV] at HQ ⊢
      go_wp2_with fail
      go_roundg m
      case measure=>omega
      case rel=>exact HQ.out
     ·have HD:=fun w4 (F4:Fr [] wr w4)=>zKz c w4 j (some ⟨u.p,0,none⟩) (hX.keep F4) hjl hn
      have HG:=oH (oA hT2 (oA hX (oA hkn (oA HD (oA hs hn)))))
      clear hX hu hT2 hkn hs hn HD
      simp only [ptrV]
      go_wp2_with fail
      refine HS.mono ?_
      rintro e w4 ⟨rfl,F4⟩
      have HD:=HG.out.2.2.2.1 w4 F4
      have HF4:=oH F4
      clear HS F4
      go_wp2_with fail
      refine HD.mono ?_
      rintro e w5 ⟨rfl,F5,X5⟩
      have hq:QI c b done Post w 0 (.pointer none) w5:=by
       obtain⟨hT2,hX,hkn,_,hs,hn⟩:=HG.out
       have X4:=hX.keep HF4.out
       refine⟨hkn.trans ((Kn.fr0 HF4.out).trans (X4.knR F5)),.inr ⟨rfl,fun w2 h2=>hT2.bad (j+1) (by simp [dotsM,hs,dotM,hn]) w2 (((hX.fc HF4.out).up.on (X4.fcR F5)).on h2.up) (X5.keepC h2)⟩⟩
      have HQ:=oH hq
      clear HD F5 X5 hq HG HF4
      go_wp2_with fail
      go_roundg 0
      case measure=>omega
      case rel=>exact HQ.out
   ·have HP:=oH (oA hkn hP)
    clear hkn hP HQ HT HF1 HF2
    go_wp2_with fail
    go_ret
    exact zEx HP.out.1 HP.out.2
 ·exact zVi c w i b done Post hX hk hT
def SelOK (c:Cx) (E:Nat→Re) (done:FV) (Post:World→Prop) (m:Nat):Prop:=∀w i b x,RX c w i→IsT w (b≤·) x→c.R < b→b≤w.heap.size→Then c b w (selM c.ts E m false x.dt i) done Post →
 Calls Tryz.prog 116 #[pt c.R,ptrV x.p,done.val] w (GP c.B Post w)
def IdxOK (c:Cx) (E:Nat→Re) (done:FV) (Post:World→Prop) (m:Nat):Prop:=∀w i b x,RX c w i→i < c.ts.length→IsT w (b≤·) x→c.R < b→b≤w.heap.size→Then c b w (selM c.ts E m true x.dt i) done Post →
 Calls Tryz.prog 127 #[pt c.R,ptrV x.p,done.val] w (GP c.B Post w)
def SI (c:Cx) (b:Nat) (E:Nat→Re) (done:FV) (Post:World→Prop) (w:World) (gk:Nat) (v:Value) (wr:World):Prop :=
 Kn w wr∧((∃u j,v=ptrV u.p∧RX c wr j∧IsT wr (b≤·) u∧b≤wr.heap.size∧Then c b wr (selM c.ts E gk false u.dt j) done Post)∨(v=.pointer none∧∀w2,Fc c.B [] wr w2→Post w2))
theorem zTt (c:Cx) (E:Nat→Re) (done:FV) (Post:World→Prop) (m:Nat) (hI:∀k,k < m→IdxOK c E done Post k):SelOK c E done Post m:=by
 intro w i b x hX hx hR hb hT
 have HQ:Hid (SI c b E done Post w m (ptrV x.p) w):=oH ⟨Kn.refl w,.inl ⟨x,i,rfl,hX,hx,hb,hT⟩⟩
 have HI:=oH hI
 clear hX hx hT hI hb
 simp only [ptrV,pt] at HQ ⊢
 go_enter Tryz.func116,Tryz.ntmps116
 go_wp2_with fail
 go_loopg [1] m (fun gk v wr=>gk≤m∧SI c b E done Post w gk v wr)
 case atStart=>exact⟨Nat.le_refl _,HQ.out⟩
 case round =>
  obtain⟨hgm,hkn,⟨u,j,rfl,hX,hu,hbr,hT2⟩ | ⟨rfl,hP⟩⟩:=hrel
  ·clear HQ
   have hgk:gk≠0:=fun e=>hT2.no (by rw [e];rfl)
   obtain⟨m1,rfl⟩:∃m1,gk=m1+1:=⟨gk - 1,by omega⟩
   have HS:=zBg c wr j [46] hX
   cases hs:isS (tk c.ts j) [46] with
   | true =>
    rw [hs] at HS
    have hjl:=zAm hs
    by_cases hn:(tk c.ts (j+1)).1.k=1
    ·have HD:=fun w4 (F4:Fr [] wr w4)=>zOi c w4 j b u (hX.keep F4) hjl hn (hu.fr F4 (by simp)) hR (by have:=F4.size;omega)
     have HG:=oH (oA hT2 (oA hX (oA hkn (oA HD (oA hs hn)))))
     clear hX hu hT2 hkn hs hn HD
     simp only [ptrV]
     go_wp2_with fail
     refine HS.mono ?_
     rintro e w4 ⟨rfl,F4⟩
     have HD:=HG.out.2.2.2.1 w4 F4
     have HF4:=oH F4
     clear HS F4
     simp only [ptrV] at HD
     go_wp2_with fail
     refine HD.mono ?_
     rintro e w5 ⟨u5,rfl,F5,X5,hu5,hd5⟩
     have hq:SI c b E done Post w m1 (ptrV u5.p) w5:=by
      obtain⟨hT2,hX,hkn,_,hs,hn⟩:=HG.out
      have X4:=hX.keep HF4.out
      refine⟨hkn.trans ((Kn.fr0 HF4.out).trans (X4.knR F5)),.inl ⟨u5,j+2,rfl,X5,hu5,by have:=HF4.out.size;have:=F5.size;omega,?_⟩⟩
      rw [hd5]
      have:=hT2.on ((hX.fc HF4.out).up.on (X4.fcR F5))
      simpa only [selM,hs,if_true,dotM,if_pos hn] using this
     have HQ:=oH hq
     clear HD F5 X5 hu5 hd5 hq HG HF4
     simp only [ptrV] at HQ ⊢
     go_wp2_with fail
     go_roundg m1
     case measure=>omega
     case rel=>exact⟨by omega,HQ.out⟩
    ·have HD:=fun w4 (F4:Fr [] wr w4)=>zKz c w4 j (some ⟨u.p,0,none⟩) (hX.keep F4) hjl hn
     have HG:=oH (oA hT2 (oA hX (oA hkn (oA HD (oA hs hn)))))
     clear hX hu hT2 hkn hs hn HD
     simp only [ptrV]
     go_wp2_with fail
     refine HS.mono ?_
     rintro e w4 ⟨rfl,F4⟩
     have HD:=HG.out.2.2.2.1 w4 F4
     have HF4:=oH F4
     clear HS F4
     go_wp2_with fail
     refine HD.mono ?_
     rintro e w5 ⟨rfl,F5,X5⟩
     have hq:SI c b E done Post w 0 (.pointer none) w5:=by
      obtain⟨hT2,hX,hkn,_,hs,hn⟩:=HG.out
      have X4:=hX.keep HF4.out
      refine⟨hkn.trans ((Kn.fr0 HF4.out).trans (X4.knR F5)),.inr ⟨rfl,fun w2 h2=>hT2.bad (j+1) (by simp [selM,hs,dotM,hn]) w2 (((hX.fc HF4.out).up.on (X4.fcR F5)).on h2.up) (X5.keepC h2)⟩⟩
     have HQ:=oH hq
     clear HD F5 X5 hq HG HF4
     go_wp2_with fail
     go_roundg 0
     case measure=>omega
     case rel=>exact⟨by omega,HQ.out⟩
   | false =>
    rw [hs] at HS
    have HS2:=fun w4 (F4:Fr [] wr w4)=>zBg c w4 j [94] (hX.keep F4)
    cases hs2:isS (tk c.ts j) [94] with
    | true =>
     rw [hs2] at HS2
     have hjl:=zAm hs2
     obtain⟨px,py,hpx⟩:=zAc (tk c.ts j).2.1.1 (tk c.ts j).2.1.2
     obtain⟨ex,ey,hex⟩:=zAc (tk c.ts j).2.2.1 (tk c.ts j).2.2.2
     have HTK:=fun w4 (F4:Fr [] wr w4)=>zBv c w4 j (hX.keep F4) hjl
     rw [zCx hpx hex] at HTK
     have hf1:=zBb
     have HG:=oH (oA hT2 (oA hX (oA hkn (oA hu (oA hs (oA hs2 (oA hpx (oA HS2 HTK))))))))
     clear hX hu hT2 hkn hs hs2 hpx hex HS2 HTK
     simp only [ptrV]
     go_wp2_with fail
     refine HS.mono ?_
     rintro e w4 ⟨rfl,F4⟩
     have HS2:=HG.out.2.2.2.2.2.2.2.1 w4 F4
     have HF4:=oH F4
     clear HS F4
     go_wp2_with fail
     refine HS2.mono ?_
     rintro e w5 ⟨rfl,F5⟩
     have F45:=HF4.out.trans F5 (by simp)
     have HTK:=HG.out.2.2.2.2.2.2.2.2 w5 F45
     have HF5:=oH F45
     clear HS2 F5 F45 HF4
     go_wp2_with fail
     refine HTK.mono ?_
     rintro e w6 ⟨rfl,F6,X6⟩
     have F67:=Fr.alloc w6 (.cells #[.pointer (some ⟨u.p,0,none⟩)] 26)
     have hu6:IsT w6 (b≤·) u:=(HG.out.2.2.2.1.fr HF5.out (by simp)).fr F6 (by simp;omega)
     have HN:=zBj (w6.alloc (.cells #[.pointer (some ⟨u.p,0,none⟩)] 26)) (nd 4 (tk c.ts j) [] 0) _ [some u] b (zIy w6 u) (by simp) (fun t ht=>by
       obtain rfl:t=u:=by simpa using ht
       exact hu6.fr F67 (by simp)) (by have:=HF5.out.size;have:=F6.size;have:=F67.size;omega) (by simp [nd]) _ HG.out.2.2.2.2.2.2.1 ⟨#[]⟩ rfl 4 rfl 0 rfl [u.dt] rfl
     have HF6:=oH (oA F6 (oA X6 F67))
     clear HTK F6 X6 F67 hu6
     go_wp2_with fail
     refine HN.mono ?_
     rintro e w7 ⟨u7,rfl,F7,hu7,hd7⟩
     have hq:SI c b E done Post w m1 (ptrV u7.p) w7:=by
      obtain⟨hT2,hX,hkn,hu,hs,hs2,_⟩:=HG.out
      obtain⟨F6,X6,F67⟩:=HF6.out
      have X5:=hX.keep HF5.out
      have F68:=F67.trans F7 (by simp)
      refine⟨hkn.trans ((Kn.fr0 HF5.out).trans ((X5.knR F6).trans (Kn.fr0 F68))),.inl ⟨u7,j+1,rfl,X6.keep F68,hu7,by have:=HF5.out.size;have:=F6.size;have:=F68.size;omega,?_⟩⟩
      rw [hd7]
      have:=hT2.on (((hX.fc HF5.out).up.on (X5.fcR F6)).on (X6.fc F68).up)
      simpa only [selM,hs,hs2,if_true,Bool.false_eq_true,if_false] using this
     have HQ:=oH hq
     clear HN F7 hu7 hd7 hq HG HF5 HF6
     simp only [ptrV] at HQ ⊢
     go_wp2_with fail
     go_roundg m1
     case measure=>omega
     case rel=>exact⟨by omega,HQ.out⟩
    | false =>
     rw [hs2] at HS2
     have HS3:=fun w4 (F4:Fr [] wr w4)=>zBg c w4 j [91] (hX.keep F4)
     cases hs3:isS (tk c.ts j) [91] with
     | true =>
      rw [hs3] at HS3
      have hjl:=zAm hs3
      have HG:=oH (oA hT2 (oA hX (oA hkn (oA hu (oA hs (oA hs2 (oA hs3 (oA HS2 HS3))))))))
      clear hX hu hT2 hkn hs hs2 hs3 HS2 HS3
      simp only [ptrV]
      go_wp2_with fail
      refine HS.mono ?_
      rintro e w4 ⟨rfl,F4⟩
      have HS2:=HG.out.2.2.2.2.2.2.2.1 w4 F4
      have HF4:=oH F4
      clear HS F4
      go_wp2_with fail
      refine HS2.mono ?_
      rintro e w5 ⟨rfl,F5⟩
      have F45:=HF4.out.trans F5 (by simp)
      have HS3:=HG.out.2.2.2.2.2.2.2.2 w5 F45
      have HF5:=oH F45
      clear HS2 F5 F45 HF4
      go_wp2_with fail
      refine HS3.mono ?_
      rintro e w6 ⟨rfl,F6⟩
      have hC:Calls Tryz.prog 127 #[pt c.R,ptrV u.p,done.val] w6 (GP c.B Post w6):=by
       obtain⟨hT2,hX,hkn,hu,hs,hs2,hs3,_⟩:=HG.out
       have F:=HF5.out.trans F6 (by simp)
       refine HI.out m1 (by omega) w6 j b u (hX.keep F) hjl (hu.fr F (by simp)) hR (by have:=F.size;omega) ?_
       have:=hT2.on (hX.fc F).up
       simpa only [selM,hs,hs2,hs3,if_true,Bool.false_eq_true,if_false] using this
      have HK:=oH (HG.out.2.2.1.trans (Kn.fr0 (HF5.out.trans F6 (by simp))))
      clear HS3 F6 HG HF5
      simp only [ptrV,pt] at hC
      go_wp2_with fail
      refine hC.mono ?_
      rintro e w' ⟨s,rfl,hk2,hr⟩
      go_wp2_with fail
      go_ret
      exact zAv (HK.out.trans hk2) hr
     | false =>
      rw [hs3] at HS3
      have hG:∀w',Fr [] wr w'→Goes c.B done (ptrV u.p) w' Post:=fun w' F'=>hT2.ok u.dt j (by simp [selM,hs,hs2,hs3]) u w' (hX.fc F').up (hX.keep F') (hu.fr F' (by simp)) rfl
      have HG:=oH (oA hG (oA hkn (oA HS2 HS3)))
      clear hX hu hT2 hG hkn hs hs2 hs3 HS2 HS3
      simp only [ptrV]
      go_wp2_with fail
      refine HS.mono ?_
      rintro e w4 ⟨rfl,F4⟩
      have HS2:=HG.out.2.2.1 w4 F4
      have HF4:=oH F4
      clear HS F4
      go_wp2_with fail
      refine HS2.mono ?_
      rintro e w5 ⟨rfl,F5⟩
      have F45:=HF4.out.trans F5 (by simp)
      have HS3:=HG.out.2.2.2 w5 F45
      have HF5:=oH F45
      clear HS2 F5 F45 HF4
      go_wp2_with fail
      refine HS3.mono ?_
      rintro e w6 ⟨rfl,F6⟩
      have F:=HF5.out.trans F6 (by simp)
      obtain⟨hE,hC⟩:=HG.out.1 w6 F
      have hRn:=zAe hE
      have HK:=oH (HG.out.2.1.trans (Kn.fr0 F))
      clear hE HS3 F F6
      simp only [ptrV] at hC
      go_wp2_with fail
      refine hC.mono ?_
      rintro e w' ⟨s,rfl,hk2,hr⟩
      go_wp2_with fail
      go_ret
      exact zAv (HK.out.trans hk2) hr
  ·have HP:=oH (oA hkn hP)
   clear hkn hP HQ HI
   go_wp2_with fail
   refine bodyPost_ret (results_tmp rfl _ _ _) rfl ?_
   exact zEx HP.out.1 HP.out.2
theorem qCk (c:Cx) (E:Nat→Re) (done:FV) (Post:World→Prop) (bp bx br bd m:Nat) (t:TK) (x e:Tr) (hS:SelOK c E done Post m) (hI:IdxOK c E done Post m) (w:World) (j b:Nat) (pv:Value) (hX:RX c w j) (hbp:Var w bp 37 pv) (hp:posV t.2.1.1 t.2.1.2=pv)
  (hbx:Var w bx 26 (ptrV x.p)) (hbr:Var w br 112 (pt c.R)) (hbd:Var w bd 124 done.val) (hx:IsT w (b≤·) x) (he:IsT w (b≤·) e) (hR:c.R < b) (hb:b≤w.heap.size)
  (hT:Then c b w (if isS (tk c.ts j) [44] then selM c.ts E m true (.node (nd 3 t [] 0) [x.dt,e.dt]) j else if isS (tk c.ts j) [93] then selM c.ts E m false (.node (nd 3 t [] 0) [x.dt,e.dt]) (j+1) else .bad j) done Post) :
  Calls Tryz.prog 147 #[ptrV e.p,pt bp,pt bx,pt br,pt bd] w (GP c.B Post w):=by
 obtain⟨x1,y1,e1⟩:=zAc t.2.1.1 t.2.1.2
 rw [hp] at e1
 subst e1
 have cp:=hbp.c
 have cx:=hbx.c
 have F1:=Fr.alloc w (.cells #[.pointer (some ⟨x.p,0,none⟩),.pointer (some ⟨e.p,0,none⟩)] 26)
 have HN:=zBj (w.alloc (.cells #[.pointer (some ⟨x.p,0,none⟩),.pointer (some ⟨e.p,0,none⟩)] 26)) (nd 3 t [] 0) _ [some x,some e] b (zIz w x e) (by simp) (fun u hu=>by
   have:u=x∨u=e:=by simpa using hu
   rcases this with rfl | rfl
   ·exact hx.fr F1 (by simp)
   ·exact he.fr F1 (by simp)) (by have:=F1.size;omega) (by simp [nd]) _ hp ⟨#[]⟩ rfl 3 rfl 0 rfl [x.dt,e.dt] rfl
 have HV:=oH (oA F1 (oA hbr (oA hbd (oA hX (oA hT (oA hS hI))))))
 clear hbp hbx hbr hbd hx he hX hT F1 hp hS hI
 simp only [ptrV,pt] at cx ⊢
 have hcase:isS (tk c.ts j) [44]=true∨(isS (tk c.ts j) [44]=false∧isS (tk c.ts j) [93]=true)∨(isS (tk c.ts j) [44]=false∧isS (tk c.ts j) [93]=false):=by
  cases isS (tk c.ts j) [44] <;> cases isS (tk c.ts j) [93] <;> simp
 rcases hcase with h44 | ⟨h44,h93⟩ | ⟨h44,h93⟩
 ·go_enter Tryz.func147,Tryz.ntmps147
  go_wp2_with fail
  refine HN.mono ?_
  rintro e0 w1 ⟨u,rfl,F2,hu,hud⟩
  obtain⟨F1,hbr,hbd,hX,hT,hS,hI⟩:=HV.out
  have F:=F1.trans F2 (by simp)
  have X1:=hX.keep F
  have HS1:=zBg c w1 j [44] X1
  rw [h44] at HS1
  have cr:=(hbr.keep F (by simp)).c
  have HW:=oH (oA F (oA X1 (oA hu (oA hud (oA (hbr.keep F (by simp)) (hbd.keep F (by simp)))))))
  clear F1 hbr hbd hX hT hS hI F X1 F2 hu hud HN
  simp only [ptrV,pt] at cr ⊢
  go_wp2_with fail
  refine HS1.mono ?_
  rintro e0 w2 ⟨rfl,F2⟩
  obtain⟨F,X1,hu,hud,hbr,hbd⟩:=HW.out
  have hC:Calls Tryz.prog 127 #[pt c.R,ptrV u.p,done.val] w2 (GP c.B Post w2):=by
   obtain⟨_,_,_,hX,hT,hS,hI⟩:=HV.out
   refine hI w2 j b u (X1.keep F2) (zAm h44) (hu.fr F2 (by simp)) hR (by have:=F.size;have:=F2.size;omega) ?_
   have:=hT.on ((hX.fc F).on (X1.fc F2)).up
   rw [h44,if_pos rfl] at this
   rwa [hud]
  have cr:=(hbr.keep F2 (by simp)).c
  have cd:=(hbd.keep F2 (by simp)).c
  have HK:=oH (Kn.fr0 (F.trans F2 (by simp)))
  clear F X1 hu hud hbr hbd F2 HS1 HV HW
  simp only [ptrV,pt] at cr hC
  go_wp2_with fail
  refine hC.mono ?_
  rintro e w' ⟨s,rfl,hk2,hr⟩
  go_wp2_with fail
  go_ret
  exact zAv (HK.out.trans hk2) hr
 ·go_enter Tryz.func147,Tryz.ntmps147
  go_wp2_with fail
  refine HN.mono ?_
  rintro e0 w1 ⟨u,rfl,F2,hu,hud⟩
  obtain⟨F1,hbr,hbd,hX,hT,hS,hI⟩:=HV.out
  have F:=F1.trans F2 (by simp)
  have X1:=hX.keep F
  have HS1:=zBg c w1 j [44] X1
  rw [h44] at HS1
  have cr:=(hbr.keep F (by simp)).c
  have HW:=oH (oA F (oA X1 (oA hu (oA hud (oA (hbr.keep F (by simp)) (hbd.keep F (by simp)))))))
  clear F1 hbr hbd hX hT hS hI F X1 F2 hu hud HN
  simp only [ptrV,pt] at cr ⊢
  go_wp2_with fail
  refine HS1.mono ?_
  rintro e0 w2 ⟨rfl,F2⟩
  obtain⟨F,X1,hu,hud,hbr,hbd⟩:=HW.out
  have HT2:=zCo c w2 j [93] (X1.keep F2) h93
  have cr:=(hbr.keep F2 (by simp)).c
  have HW2:=oH F2
  clear F X1 hu hud hbr hbd F2 HS1
  simp only [pt] at cr
  go_wp2_with fail
  refine HT2.mono ?_
  rintro e0 w3 ⟨rfl,F3,X3⟩
  obtain⟨F,X1,hu,hud,hbr,hbd⟩:=HW.out
  have X2:=X1.keep HW2.out
  have F12:=F.trans HW2.out (by simp)
  have hC:Calls Tryz.prog 116 #[pt c.R,ptrV u.p,done.val] w3 (GP c.B Post w3):=by
   obtain⟨_,_,_,hX,hT,hS,hI⟩:=HV.out
   refine hS w3 (j+1) b u X3 ((hu.fr HW2.out (by simp)).fr F3 (by simp;omega)) hR (by have:=F12.size;have:=F3.size;omega) ?_
   have:=hT.on ((hX.fc F12).up.on (X2.fcR F3))
   rw [h44,h93,if_neg (by simp),if_pos rfl] at this
   rwa [hud]
  have G3:=X2.fcR F3
  have cr:=((hbr.keep HW2.out (by simp)).stay X2 G3).c
  have cd:=((hbd.keep HW2.out (by simp)).stay X2 G3).c
  have HK:=oH ((Kn.fr0 F12).trans (X2.knR F3))
  clear F X1 hu hud hbr hbd F3 X3 X2 F12 G3 HT2 HV HW HW2
  simp only [ptrV,pt] at cr hC
  go_wp2_with fail
  refine hC.mono ?_
  rintro e w' ⟨s,rfl,hk2,hr⟩
  go_wp2_with fail
  go_ret
  exact zAv (HK.out.trans hk2) hr
 ·go_enter Tryz.func147,Tryz.ntmps147
  go_wp2_with fail
  refine HN.mono ?_
  rintro e0 w1 ⟨u,rfl,F2,hu,hud⟩
  obtain⟨F1,hbr,hbd,hX,hT,hS,hI⟩:=HV.out
  have F:=F1.trans F2 (by simp)
  have X1:=hX.keep F
  have HS1:=zBg c w1 j [44] X1
  rw [h44] at HS1
  have cr:=(hbr.keep F (by simp)).c
  have HW:=oH (oA F (oA X1 (hbr.keep F (by simp))))
  clear F1 hbr hbd hX hT hS hI F X1 F2 hu hud HN
  simp only [ptrV,pt] at cr ⊢
  go_wp2_with fail
  refine HS1.mono ?_
  rintro e0 w2 ⟨rfl,F2⟩
  obtain⟨F,X1,hbr⟩:=HW.out
  have HT2:=zBy c w2 j [93] (X1.keep F2) h93
  have cr:=(hbr.keep F2 (by simp)).c
  have HW2:=oH F2
  clear F X1 hbr F2 HS1
  simp only [pt] at cr
  go_wp2_with fail
  refine HT2.mono ?_
  rintro e0 w3 ⟨rfl,F3⟩
  have HW3:=oH F3
  clear F3 HT2
  go_wp2_with fail
  go_ret
  obtain⟨F,X1,hbr⟩:=HW.out
  obtain⟨_,_,_,hX,hT,hS,hI⟩:=HV.out
  have F3:=(F.trans HW2.out (by simp)).trans HW3.out (by simp)
  exact zEx (Kn.fr0 F3) (fun w4 h4=>hT.bad j (by simp [h44,h93]) w4 ((hX.fc F3).on h4).up ((hX.keep F3).keepC h4))
theorem qCl:Enters 147:=⟨_,_,Tryz.func147,by kernel_rfl,rfl⟩
def fv93 (bp bx br bd:Nat):FV:=⟨147,#[],#[pt bp,pt bx,pt br,pt bd]⟩
theorem zZa (c:Cx) (E:Nat→Re) (ef done:FV) (Post:World→Prop) (hev:c.ev=ef.val) (hE:Lev c ef E) (m:Nat) (hS:SelOK c E done Post m) (hI:IdxOK c E done Post m):IdxOK c E done Post (m+1):=by
 intro w i b x hX hi hx hR hb hT
 obtain⟨w0,hw0⟩:∃w0,w.alloc (.cells #[.pointer (some ⟨c.R,0,none⟩)] 112)=w0:=⟨_,rfl⟩
 have F0:Fr [] w w0:=by rw [← hw0];exact Fr.alloc _ _
 have hr0:Var w0 w.heap.size 112 (pt c.R):=by rw [← hw0];exact heap_alloc_new _ _
 have hs0:w0.heap.size=w.heap.size+1:=by rw [← hw0];simp
 obtain⟨w1,hw1⟩:∃w1,w0.alloc (.cells #[.pointer (some ⟨x.p,0,none⟩)] 26)=w1:=⟨_,rfl⟩
 have F1:Fr [] w0 w1:=by rw [← hw1];exact Fr.alloc _ _
 have hx1:Var w1 (w.heap.size+1) 26 (ptrV x.p):=by rw [← hw1,← hs0];exact heap_alloc_new _ _
 have hs1:w1.heap.size=w.heap.size+2:=by rw [← hw1];simp [hs0]
 obtain⟨w2,hw2⟩:∃w2,w1.alloc (.cells #[done.val] 124)=w2:=⟨_,rfl⟩
 have F2:Fr [] w1 w2:=by rw [← hw2];exact Fr.alloc _ _
 have hd2:Var w2 (w.heap.size+2) 124 done.val:=by rw [← hw2,← hs1];exact heap_alloc_new _ _
 have hs2:w2.heap.size=w.heap.size+3:=by rw [← hw2];simp [hs1]
 have F02:Fr [] w w2:=(F0.trans F1 (by simp)).trans F2 (by simp)
 have X2:=hX.keep F02
 have hr2:=(hr0.keep F1 (by simp)).keep F2 (by simp)
 have hx2:=hx1.keep F2 (by simp)
 obtain⟨px,py,hpx⟩:=zAc (tk c.ts i).2.1.1 (tk c.ts i).2.1.2
 obtain⟨ex,ey,hex⟩:=zAc (tk c.ts i).2.2.1 (tk c.ts i).2.2.2
 have HT:=zBv c w2 i X2 hi
 rw [zCx hpx hex] at HT
 have hf1:=zBb
 have hsc:=fun w a x y m=>zAg (P:=Tryz.prog) w a .f64 x y m
 have cr:=hr2.c
 have HV:=oH (oA F02 (oA X2 (oA hr2 (oA hx2 (oA hd2 (oA hX (oA hx (oA hT (oA hpx (oA hE (oA hev (oA hS hI))))))))))))
 clear F0 F1 F2 F02 hr0 hx1 hd2 X2 hr2 hx2 hX hx hT hpx hex hE hev hS hI
 simp only [ptrV,pt] at cr ⊢
 go_enter Tryz.func127,Tryz.ntmps127
 go_wp2_with fail
 refine HT.mono ?_
 rintro e w3 ⟨rfl,F3,X3⟩
 obtain⟨F02,X2,hr2,hx2,hd2,hX,hx,hTh,hpx,hE,hev,hS,hI⟩:=HV.out
 obtain⟨w4,hw4⟩:∃w4,w3.alloc (.cells #[.complex .f64 px py] 37)=w4:=⟨_,rfl⟩
 have F4:Fr [] w3 w4:=by rw [← hw4];exact Fr.alloc _ _
 have hp4:Var w4 w3.heap.size 37 (.complex .f64 px py):=by rw [← hw4];exact heap_alloc_new _ _
 have X4:=X3.keep F4
 have G23:=X2.fcR F3
 have G24:=G23.on (X3.fc F4).up
 have G04:=(hX.fc F02).up.on G24
 have hr4:=hr2.stay X2 G24
 have hx4:=hx2.stay X2 G24
 have hd4:=hd2.stay X2 G24
 have hgo:Goes c.B ef (fv93 w3.heap.size (w.heap.size+1) w.heap.size (w.heap.size+2)).val w4 Post:=by
  refine hE w4 (i+1) _ Post b X4 hR (by have:=G04.size;omega) ⟨fun d j e u w5 F5 X5 hu hud=>?_,fun j e w5 F5 X5=>?_,fun e=>?_⟩
  ·refine⟨qCl,?_⟩
   show Calls Tryz.prog 147 #[ptrV u.p,pt w3.heap.size,pt (w.heap.size+1),pt w.heap.size,pt (w.heap.size+2)] w5 (GP c.B Post w5)
   refine qCk c E done Post _ _ _ _ m (tk c.ts i) x u hS hI w5 j b _ X5 (hp4.stay X4 F5) hpx (hx4.stay X4 F5) (hr4.stay X4 F5) (hd4.stay X4 F5) ((hx.stay hR G04).stay hR F5) hu hR (by have:=G04.size;have:=F5.size;omega) ?_
   have:=hTh.on (G04.on F5)
   simpa only [selM,e,hud] using this
  ·exact hTh.bad j (by simp only [selM,e]) w5 (G04.on F5) X5
  ·exact hTh.no (by simp only [selM,e])
 obtain⟨hEn,hC⟩:=hgo
 have hRn:=zAe hEn
 have cr:=hr4.c
 have ce:=X4.c2
 rw [hev] at ce
 have HK:=oH ((Kn.fr0 F02).trans ((X2.knR F3).trans (Kn.fr0 F4)))
 clear F02 X2 hr2 hx2 hd2 hX hx hTh hpx hE hev hS hI F3 X3 F4 hp4 X4 G23 G24 G04 hr4 hx4 hd4 hEn HT HV
 simp only [fv93,FV.val,pt] at hC cr
 go_wp2_with fail
 refine hC.mono ?_
 rintro e w' ⟨s,rfl,hk2,hr⟩
 go_wp2_with fail
 go_ret
 exact zAv (HK.out.trans hk2) hr
theorem zRu (c:Cx) (E:Nat→Re) (done:FV) (Post:World→Prop):IdxOK c E done Post 0:=fun w i b x hX hi hx hR hb hT=>absurd rfl hT.no
theorem zOw (c:Cx) (E:Nat→Re) (ef done:FV) (Post:World→Prop) (hev:c.ev=ef.val) (hE:Lev c ef E):∀m,SelOK c E done Post m∧IdxOK c E done Post m:=by
 have key:∀m,(∀k,k < m→IdxOK c E done Post k)∧SelOK c E done Post m∧IdxOK c E done Post m:=by
  intro m
  induction m with
  | zero=>exact⟨fun k hk=>by omega,zTt c E done Post 0 (fun k hk=>by omega),zRu c E done Post⟩
  | succ m ih =>
   obtain⟨h1,h2,h3⟩:=ih
   have h4:∀k,k < m+1→IdxOK c E done Post k:=fun k hk=>by
    by_cases h:k=m
    ·subst h;exact h3
    ·exact h1 k (by omega)
   exact⟨h4,zTt c E done Post (m+1) h4,zZa c E ef done Post hev hE m h2 h3⟩
 exact fun m=>(key m).2
end Go.Proofs.YtepfknfadpkigaaGreat
namespace Go.Proofs.YtepfknfadpkigaaGreat
open Go.RowKit
set_option maxHeartbeats 2000000
set_option maxRecDepth 100000
structure LsAt (w:World) (b:Nat) (v:Value) (us:List Tr):Prop where
 row:w.ownsRow 0 26 1 v us.length (us.map fun t=>ptrV t.p)
 t:∀t ∈ us,IsT w (b≤·) t
 le:us.length≤16384
 nil:us=[]→v=.slice none 0 0
structure ThenL (c:Cx) (b:Nat) (w:World) (res:ReL) (done:FV) (Post:World→Prop):Prop where
 ok:∀ds j,res=.ok ds j→∀us v w',Fc c.B [c.R] w w'→RX c w' j→LsAt w' b v us→us.map Tr.dt=ds→Goes c.B done v w' Post
 bad:∀j,res=.bad j→∀w',Fc c.B [c.R] w w'→RX c w' j→Post w'
 no:res≠.out
theorem ThenL.on {c:Cx} {b:Nat} {w w1:World} {res:ReL} {done:FV} {Post:World→Prop} (h:ThenL c b w res done Post) (F:Fc c.B [c.R] w w1):ThenL c b w1 res done Post :=
 ⟨fun d j e u v w' F'=>h.ok d j e u v w' (F.on F'),fun j e w' F'=>h.bad j e w' (F.on F'),h.no⟩
theorem zTu {w:World} {B0:Nat} {v v2:Value} {n:Nat} {xs:List Value} {b:Nat} {T:TypeId} (h:w.ownsRow B0 26 1 v n xs) (hb:Var w b T v2) (hT:T≠26):b ∉ obL v:=fun hm =>
 Lib.ownBlock_ne h hb hT ((zBc v b).1 hm)
theorem zOx {w:World} {b b':Nat} {T T':TypeId} {v v':Value} (h:Var w b T v) (h':Var w b' T' v') (hT:T≠T'):b≠b':=by
 rintro rfl
 have:=(show w.heap[b]?=_ from h).symm.trans (show w.heap[b]?=_ from h')
 simp at this
 exact hT this.2
structure LB (c:Cx) (w:World) (br bi bm bd bl:Nat) (item done:FV):Prop where
 r:Var w br 112 (pt c.R)
 i:Var w bi 116 item.val
 m:Var w bm 124 (.func (.func 156) #[] #[pt bl,pt br,pt bi,pt bm,pt bd])
 d:Var w bd 140 done.val
theorem LB.stay {c:Cx} {w w':World} {i br bi bm bd bl:Nat} {item done:FV} (h:LB c w br bi bm bd bl item done) (hX:RX c w i) (F:Fc c.B [c.R] w w'):LB c w' br bi bm bd bl item done :=
 ⟨h.r.stay hX F,h.i.stay hX F,h.m.stay hX F,h.d.stay hX F⟩
theorem LB.keep {c:Cx} {w w':World} {br bi bm bd bl:Nat} {item done:FV} {N:List Nat} (h:LB c w br bi bm bd bl item done) (F:Fr N w w') (hN:∀j T v,Var w j T v→T≠26→T≠38→j ∉ N):LB c w' br bi bm bd bl item done :=
 ⟨h.r.keep F (hN _ _ _ h.r (by decide) (by decide)),h.i.keep F (hN _ _ _ h.i (by decide) (by decide)),h.m.keep F (hN _ _ _ h.m (by decide) (by decide)),h.d.keep F (hN _ _ _ h.d (by decide) (by decide))⟩
theorem zZb:Enters 156:=⟨_,_,Tryz.func156,by kernel_rfl,rfl⟩
def fv74 (bl br bi bm bd:Nat):FV:=⟨156,#[],#[pt bl,pt br,pt bi,pt bm,pt bd]⟩
def nxtM (ts:List TK) (I:Nat→Re) (m:Nat) (acc:List DT) (j:Nat):ReL:=if isS (tk ts j) [44] then lstM ts I m acc (j+1) else .ok acc j
structure LI (c:Cx) (w0 w:World) (br bi bm bd bl b lo j:Nat) (item done:FV) (x:Tr) (v:Value) (acc:List Tr):Prop where
 hx:RX c w j
 hf:Fc c.B [c.R] w0 w
 hb:LB c w br bi bm bd bl item done
 hl:Var w bl 38 v
 hrow:w.ownsRow 0 26 1 v acc.length (acc.map fun t=>ptrV t.p)
 ho:∀g ∈ obL v,w0.heap.size≤g∧g < lo
 hbl0:w0.heap.size≤bl
 hbl1:bl < lo
 hb0:b≤lo
 hlo:lo≤w.heap.size
 ht:∀t ∈ acc,IsT w (fun q=>b≤q∧q ∉ obL v∧q≠bl∧q < lo) t
 hu:IsT w (lo≤·) x
 hn:acc.length+1≤j
theorem zVj {c:Cx} {w0 w w3:World} {br bi bm bd bl b lo j i0:Nat} {item done:FV} {x:Tr} {v:Value} {acc:List Tr} (h:LI c w0 w br bi bm bd bl b lo j item done x v acc) (hX0:RX c w0 i0) (o:Obj) (g cap:Nat)
  (hown:w3.ownsRow 0 26 1 (.slice (some ⟨g,0,none⟩) (acc.length+1) cap) (acc.length+1) ((acc.map fun t=>ptrV t.p)++[ptrV x.p])) (hgrow:(w.alloc o).grownBy w3 v.ownBlock) (hat:v.ownBlock=some g∨g=w.heap.size+1) :
  Var w3 bl 38 v∧Kn w (w3.setCell ⟨bl,0,none⟩ (.slice (some ⟨g,0,none⟩) (acc.length+1) cap))∧Fc c.B [c.R] w0 (w3.setCell ⟨bl,0,none⟩ (.slice (some ⟨g,0,none⟩) (acc.length+1) cap))∧RX c (w3.setCell ⟨bl,0,none⟩ (.slice (some ⟨g,0,none⟩) (acc.length+1) cap)) j∧LB c (w3.setCell ⟨bl,0,none⟩ (.slice (some ⟨g,0,none⟩) (acc.length+1) cap)) br bi bm bd bl item done ∧
   Var (w3.setCell ⟨bl,0,none⟩ (.slice (some ⟨g,0,none⟩) (acc.length+1) cap)) bl 38 (.slice (some ⟨g,0,none⟩) (acc.length+1) cap) ∧
   (w3.setCell ⟨bl,0,none⟩ (.slice (some ⟨g,0,none⟩) (acc.length+1) cap)).ownsRow 0 26 1 (.slice (some ⟨g,0,none⟩) (acc.length+1) cap) (acc++[x]).length ((acc++[x]).map fun t=>ptrV t.p) ∧
   (w0.heap.size≤g∧g < (w3.setCell ⟨bl,0,none⟩ (.slice (some ⟨g,0,none⟩) (acc.length+1) cap)).heap.size)∧(∀t ∈ acc++[x],IsT (w3.setCell ⟨bl,0,none⟩ (.slice (some ⟨g,0,none⟩) (acc.length+1) cap)) (fun q=>b≤q∧q≠g∧q≠bl∧q < w.heap.size) t)∧w.heap.size≤(w3.setCell ⟨bl,0,none⟩ (.slice (some ⟨g,0,none⟩) (acc.length+1) cap)).heap.size:=by
 have F1:=Fr.alloc w o
 have F2:=Fr.of_grown hgrow
 have F13:Fr (obL v) w w3:=(F1.mono (by simp)).trans F2 (fun j hj=>.inl hj)
 have F34:=Fr.set w3 bl 0 (.slice (some ⟨g,0,none⟩) (acc.length+1) cap)
 have hblv:bl ∉ obL v:=zTu h.hrow h.hl (by decide)
 have hV3:=h.hl.keep F13 hblv
 have F14:Fr (bl::obL v) w (w3.setCell ⟨bl,0,none⟩ (.slice (some ⟨g,0,none⟩) (acc.length+1) cap)):=(F13.mono (fun j hj=>List.mem_cons_of_mem _ hj)).trans F34 (fun j hj=>.inl (by simp at hj;simp [hj]))
 have hB0:=hX0.hB
 have hNge:∀q ∈ bl::obL v,w0.heap.size≤q:=fun q hq=>by
  rcases List.mem_cons.1 hq with rfl | hq
  ·exact h.hbl0
  ·exact(h.ho q hq).1
 have G:Fc c.B [c.R] w0 (w3.setCell ⟨bl,0,none⟩ (.slice (some ⟨g,0,none⟩) (acc.length+1) cap)):=h.hf.trans (Fc.of_fr F14 (fun q hq=>Nat.le_trans hB0 (hNge q hq)) h.hx.hB) (fun q hq=>.inr (hNge q hq))
 have hRN:c.R ∉ bl::obL v:=fun hm=>by have:=hNge _ hm;have:=hX0.lt;omega
 have hgl:g < w3.heap.size:=(hown.lt g rfl).2
 have hs3:=F13.size
 have hgo:g ∈ obL v∨w.heap.size < g:=by
  rcases hat with h1 | h1
  ·exact .inl ((zBc v g).2 h1)
  ·exact .inr (by omega)
 have hgb:bl≠g:=by
  rintro rfl
  rcases hgo with h1 | h1
  ·exact hblv h1
  ·have:=h.hl.lt;omega
 refine⟨hV3,Kn.of_fr F14 (fun q hq o' ho=>?_),G,hX0.via G ((F14.block _ h.hx.lt hRN).trans h.hx.rd) h.hx.le,h.hb.keep F14 (fun q T v' hq h1 h2 hm=>?_),hV3.set _,?_,⟨?_,by simpa using hgl⟩,fun t ht=>?_,by have:=F34.size;omega⟩
 ·rcases List.mem_cons.1 hq with rfl | hq
  ·rw [show w.heap[q]?=_ from h.hl] at ho;cases ho;rfl
  ·obtain⟨g',cap',hv⟩:∃g' cap',v=.slice (some ⟨g',0,none⟩) acc.length cap':=by
    rcases h.hrow.2 with⟨h1,h2⟩ | ⟨g',cap',cur,h1,_⟩
    ·rw [h1] at hq;simp [obL,Value.ownBlock] at hq
    ·exact⟨g',cap',h1⟩
   rcases h.hrow.2 with⟨h1,h2⟩ | ⟨g2,cap2,cur,h1,h2,h3,_⟩
   ·rw [h1] at hq;simp [obL,Value.ownBlock] at hq
   ·rw [h1] at hq
    obtain rfl:q=g2:=by simpa [obL,Value.ownBlock] using hq
    rw [h3] at ho;cases ho;rfl
 ·rcases List.mem_cons.1 hm with rfl | hm
  ·exact zOx hq h.hl h2 rfl
  ·exact zTu h.hrow hq h1 hm
 ·rw [List.length_append,List.length_singleton,List.map_append]
  exact zAf hown F34 (fun q hq=>by
   obtain rfl:q=g:=by simpa [obL,Value.ownBlock] using hq
   simp;exact fun e=>hgb e.symm)
 ·rcases hgo with h1 | h1
  ·exact(h.ho g h1).1
  ·have:=h.hf.size;omega
 ·rcases List.mem_append.1 ht with ht | ht
  ·refine(h.ht t ht).keep (fun q hq hl=>⟨hq.1,?_,hq.2.2.1,hl⟩) (fun q hq hl=>F14.block q hl (fun hm=>?_))
   ·rcases List.mem_cons.1 hm with rfl | hm
    ·exact hq.2.2.1 rfl
    ·exact hq.2.1 hm
   ·rintro rfl
    rcases hgo with h1 | h1
    ·exact hq.2.1 h1
    ·omega
  ·obtain rfl:t=x:=by simpa using ht
   refine h.hu.keep (fun q hq hl=>⟨Nat.le_trans h.hb0 hq,?_,?_,hl⟩) (fun q hq hl=>F14.block q hl (fun hm=>?_))
   ·have:lo≤q:=hq
    rcases List.mem_cons.1 hm with rfl | hm
    ·have:=h.hbl1;omega
    ·have:=(h.ho _ hm).2;omega
   ·rintro rfl
    rcases hgo with h1 | h1
    ·have:=(h.ho _ h1).2;have:lo≤q:=hq;omega
    ·omega
   ·rintro rfl
    have:=h.hbl1;have:lo≤q:=hq;omega
mutual
theorem zGe {B b:Nat} {N:List Nat} {w w':World} {P:Nat→Prop} (hF:Fc B N w w') (hN:∀j ∈ N,j < b):∀{t:Tr},IsT w' (b≤·) t→IsT w P t→IsT w (b≤·) t→IsT w' P t
 | .node p d ks,h,g,k=>by
  obtain⟨h1,⟨v,h2,h3⟩,h4⟩:=h
  obtain⟨g1,⟨v',g2,g3⟩,g4⟩:=g
  obtain⟨k1,⟨v'',k2,k3⟩,k4⟩:=k
  have hp:=hF.block p _ g2 rfl (fun hm=>by have:=hN p hm;have:b≤p:=k1;omega)
  have e:=g2.symm.trans k2
  simp only [nodeO,Option.some.injEq,Obj.cells.injEq] at e
  have ev:v'=v'':=by
   have:=congrArg (fun a:Array Value=>a[4]?) e.1
   simpa using this
  subst ev
  exact⟨g1,⟨v',hp,zJa g3.1 hF (fun j hj hm=>by
   have:=hN j hm
   have:b≤j:=k3.2 j ((zBc v' j).1 hj)
   omega),g3.2⟩,zGx hF hN h4 g4 k4⟩
theorem zGx {B b:Nat} {N:List Nat} {w w':World} {P:Nat→Prop} (hF:Fc B N w w') (hN:∀j ∈ N,j < b):∀{l:List Tr},IsTL w' (b≤·) l→IsTL w P l→IsTL w (b≤·) l→IsTL w' P l
 | [],_,_,_=>trivial
 | t::r,h,g,k=>⟨zGe hF hN h.1 g.1 k.1,zGx hF hN h.2 g.2 k.2⟩
end
theorem zLj (c:Cx) (I:Nat→Re) (item done:FV) (Post:World→Prop) (br bi bm bd bl b i0:Nat) (w0:World) (hX0:RX c w0 i0) (hL:Lev c item I) (hmono:∀i d j,I i=.ok d j→i < j) (hR:c.R < b) (m:Nat)
  (hIH:∀k,m=k+1→∀(w:World) (j lo:Nat) (x:Tr) (v:Value) (acc:List Tr),LI c w0 w br bi bm bd bl b lo j item done x v acc→ThenL c b w0 (nxtM c.ts I k (acc.map Tr.dt++[x.dt]) j) done Post →
   Calls Tryz.prog 156 #[ptrV x.p,pt bl,pt br,pt bi,pt bm,pt bd] w (GP c.B Post w))
  (w:World) (j lo:Nat) (x:Tr) (v:Value) (acc:List Tr) (h:LI c w0 w br bi bm bd bl b lo j item done x v acc) (hT:ThenL c b w0 (nxtM c.ts I m (acc.map Tr.dt++[x.dt]) j) done Post) :
  Calls Tryz.prog 156 #[ptrV x.p,pt bl,pt br,pt bi,pt bm,pt bd] w (GP c.B Post w):=by
 obtain⟨i1,hi,hz0,hz1,hz2⟩:=info_parts infoP
 have cl:=h.hl.c
 have hsr:=h.hrow.alloc (.cells #[ptrV x.p] 26)
 have HN1:=oH (new1 w (ptrV x.p) 26)
 have HO1:=oH (one1 x.p)
 have hk:acc.length≤16384:=by have:=h.hn;have:=h.hx.le;omega
 obtain⟨k,hkl⟩:∃k,acc.length=k:=⟨_,rfl⟩
 have HKL:=oH hkl
 rw [hkl] at hsr hk
 have HH:=oH (oA h (oA hT hIH))
 clear h hT hIH hkl
 simp only [ptrV] at hsr HN1 HO1
 simp only [ptrV,pt]
 go_enter Tryz.func156,Tryz.ntmps156
 go_wp2_with (at_builtin;refine wpList_append_lies _ rfl _ _ 38 rfl 0 26 i1 _ 1 8 Tryz.underlying38 hi hz0 hz1 hz2 rfl (by decide) v k _ rfl hsr ⟨w.heap.size,0,none⟩ 1 1 [.pointer (some ⟨x.p,0,none⟩)] rfl rfl HN1.out HO1.out (by decide) (by unfold maxLen;omega) (by omega) (by simp <;> omega) (w.heap.size+1) (by simp) ?_)
 intro g cap w3 hown hgrow hat hlt3
 have hst:=zVj HH.out.1 hX0 _ g cap (by rw [HKL.out];simpa [ptrV] using hown) hgrow hat
 rw [HKL.out] at hst
 have c3:=hst.1.c
 have f3:=hst.1.f
 have HS:=oH hst.2
 clear hst hown hgrow hat hsr HN1 HO1 cl
 go_upto_region 2 with fail
 obtain⟨w4,hw4⟩:∃w4,w3.setCell ⟨bl,0,none⟩ (.slice (some ⟨g,0,none⟩) (k+1) cap)=w4:=⟨_,rfl⟩
 rw [hw4]
 have hst:=HS.out
 rw [hw4] at hst
 obtain⟨hK4,hF4,hX4,hB4,hl4,hrow4,hg4,ht4,hs4⟩:=hst
 have cr:=hB4.r.c
 clear c3 f3 HS hw4
 cases hcm:isS (tk c.ts j) [44] with
 | false =>
  have HT:=zBy c w4 j [44] hX4 hcm
  have hG:∀w5,Fr [] w4 w5→Goes c.B done (.slice (some ⟨g,0,none⟩) (k+1) cap) w5 Post:=fun w5 F5=>by
   refine HH.out.2.1.ok (acc.map Tr.dt++[x.dt]) j (by simp [nxtM,hcm]) (acc++[x]) _ w5 (hF4.on (hX4.fc F5).up) (hX4.keep F5) ⟨?_,fun t ht=>?_,?_,?_⟩ (by simp)
   ·exact zAf hrow4 F5 (by simp)
   ·exact(ht4 t ht).keep (fun q hq hl=>hq.1) (fun q hq hl=>F5.block q hl (by simp))
   ·have:=HKL.out;simp only [List.length_append,List.length_singleton];have:=HH.out.1.hn;have:=HH.out.1.hx.le;omega
   ·exact fun h=>by simp at h
  have HG:=oH (oA hG (oA hK4 (oA hl4 hB4.d)))
  clear hG hK4 hF4 hX4 hB4 hl4 hrow4 hg4 ht4 hs4 HH hcm
  simp only [pt] at cr
  go_wp2_with fail
  refine HT.mono ?_
  rintro e w5 ⟨rfl,F5⟩
  obtain⟨hE,hC⟩:=HG.out.1 w5 F5
  have hRn:=zAe hE
  have cl:=(HG.out.2.2.1.keep F5 (by simp)).c
  have cd:=(HG.out.2.2.2.keep F5 (by simp)).c
  have HK:=oH (HG.out.2.1.trans (Kn.fr0 F5))
  clear hE HT F5 cr
  go_wp2_with fail
  refine hC.mono ?_
  rintro e w' ⟨s,rfl,hk2,hr⟩
  go_wp2_with fail
  go_ret
  exact zAv (HK.out.trans hk2) hr
 | true =>
  have HT:=zCo c w4 j [44] hX4 hcm
  have HG:=oH (oA hK4 (oA hF4 (oA hX4 (oA hB4 (oA hl4 (oA hrow4 (oA hg4 (oA ht4 (oA hs4 hcm)))))))))
  clear hK4 hF4 hX4 hB4 hl4 hrow4 hg4 ht4 hs4 hcm
  simp only [pt] at cr
  go_wp2_with fail
  refine HT.mono ?_
  rintro e w5 ⟨rfl,F5,X5⟩
  obtain⟨hK4,hF4,hX4,hB4,hl4,hrow4,hg4,ht4,hs4,hcm⟩:=HG.out
  have G5:=hX4.fcR F5
  have hB5:=hB4.stay hX4 G5
  have hRg:c.R≠g:=by have:=hX0.lt;omega
  have hRl:c.R≠bl:=by have:=hX0.lt;have:=HH.out.1.hbl0;omega
  have hl5:Var w5 bl 38 (.slice (some ⟨g,0,none⟩) (k+1) cap):=hl4.stay hX4 G5
  have hrow5:=zAf hrow4 F5 (fun q hq=>by
   obtain rfl:q=g:=by simpa [obL,Value.ownBlock] using hq
   simp;exact fun e=>hRg e.symm)
  have hs5:=F5.size
  have hb0:=HH.out.1.hb0
  have hlo:=HH.out.1.hlo
  have hbl1:=HH.out.1.hbl1
  have hgo:Goes c.B item (fv74 bl br bi bm bd).val w5 Post:=by
   refine hL w5 (j+1) _ Post w5.heap.size X5 (by have:=X5.lt;omega) (Nat.le_refl _) ⟨fun d j2 e u w6 F6 X6 hu hud=>?_,fun j2 e w6 F6 X6=>?_,fun e=>?_⟩
   ·refine⟨zZb,?_⟩
    show Calls Tryz.prog 156 #[ptrV u.p,pt bl,pt br,pt bi,pt bm,pt bd] w6 (GP c.B Post w6)
    cases hm:m with
    | zero=>exact absurd (by simp [nxtM,hcm,hm,lstM]) HH.out.2.1.no
    | succ m1 =>
     refine HH.out.2.2 m1 hm w6 j2 w5.heap.size u (.slice (some ⟨g,0,none⟩) (k+1) cap) (acc++[x]) ⟨X6,(hF4.on G5).on F6,hB5.stay X5 F6,hl5.stay X5 F6,zJa hrow5 F6 (fun q hq=>by
       obtain rfl:q=g:=by simpa [obL,Value.ownBlock] using hq
       simp;exact fun e=>hRg e.symm),fun q hq=>?_,HH.out.1.hbl0,by omega,by omega,F6.size,fun t ht=>?_,hu,?_⟩ ?_
     ·obtain rfl:q=g:=by simpa [obL,Value.ownBlock] using hq
      omega
     ·have h5:IsT w5 (fun q=>b≤q∧q≠g∧q≠bl∧q < w5.heap.size) t:=(ht4 t ht).keep (fun q hq hl=>⟨hq.1,hq.2.1,hq.2.2.1,by omega⟩) (fun q hq hl=>F5.block q hl (by simp;have:=hq.1;omega))
      have h6:IsT w5 (b≤·) t:=h5.keep (fun q hq hl=>hq.1) (fun q hq hl=>rfl)
      exact(zGe F6 (by simp;exact hR) (h6.stay hR F6) h5 h6).keep (fun q hq hl=>⟨hq.1,by simpa [obL,Value.ownBlock] using hq.2.1,hq.2.2.1,hq.2.2.2⟩) (fun q hq hl=>rfl)
     ·have:=HH.out.1.hn
      have:=hmono _ _ _ e
      simp only [List.length_append,List.length_singleton];omega
     ·have:=HH.out.2.1
      simp only [nxtM,hcm,if_true,hm,lstM,e] at this
      have e2:List.map Tr.dt (acc++[x])++[u.dt]=List.map Tr.dt acc++[x.dt]++[d]:=by simp [hud]
      rw [e2]
      exact this
   ·refine HH.out.2.1.bad j2 ?_ w6 ((hF4.on G5).on F6) X6
    cases hm:m with
    | zero=>exact absurd (by simp [nxtM,hcm,hm,lstM]) HH.out.2.1.no
    | succ m1=>simp only [nxtM,hcm,if_true,lstM,e]
   ·refine HH.out.2.1.no ?_
    cases hm:m with
    | zero=>simp [nxtM,hcm,lstM]
    | succ m1=>simp only [nxtM,hcm,if_true,lstM,e]
  obtain⟨hE,hC⟩:=hgo
  have hRn:=zAe hE
  have ci:=hB5.i.c
  have cm:=hB5.m.c
  have HK:=oH (hK4.trans (hX4.knR F5))
  clear hE hK4 hF4 hX4 hB4 hl4 hrow4 hg4 ht4 hs4 hcm F5 X5 G5 hB5 hl5 hrow5 HT HG HH cr
  simp only [fv74,FV.val,pt] at hC cm
  go_wp2_with fail
  refine hC.mono ?_
  rintro e w' ⟨s,rfl,hk2,hr⟩
  go_wp2_with fail
  go_ret
  exact zAv (HK.out.trans hk2) hr
theorem zZc (c:Cx) (I:Nat→Re) (item done:FV) (Post:World→Prop) (br bi bm bd bl b i0:Nat) (w0:World) (hX0:RX c w0 i0) (hL:Lev c item I) (hmono:∀i d j,I i=.ok d j→i < j) (hR:c.R < b) :
  ∀(m:Nat) (w:World) (j lo:Nat) (x:Tr) (v:Value) (acc:List Tr),LI c w0 w br bi bm bd bl b lo j item done x v acc→ThenL c b w0 (nxtM c.ts I m (acc.map Tr.dt++[x.dt]) j) done Post →
   Calls Tryz.prog 156 #[ptrV x.p,pt bl,pt br,pt bi,pt bm,pt bd] w (GP c.B Post w):=by
 intro m
 induction m with
 | zero=>exact zLj c I item done Post br bi bm bd bl b i0 w0 hX0 hL hmono hR 0 (fun k hk=>by omega)
 | succ m ih=>exact zLj c I item done Post br bi bm bd bl b i0 w0 hX0 hL hmono hR (m+1) (fun k hk=>by
   obtain rfl:k=m:=by omega
   exact ih)
end Go.Proofs.YtepfknfadpkigaaGreat
namespace Go.Proofs.YtepfknfadpkigaaGreat
open Go.RowKit
set_option maxHeartbeats 2000000
set_option maxRecDepth 100000
theorem zLk (c:Cx) (I:Nat→Re) (item done:FV) (Post:World→Prop) (b i m:Nat) (w:World) (hX:RX c w i) (hL:Lev c item I) (hmono:∀i d j,I i=.ok d j→i < j) (hR:c.R < b) (hb:b≤w.heap.size)
  (hT:ThenL c b w (lstM c.ts I (m+1) [] i) done Post) :
  Calls Tryz.prog 144 #[pt c.R,item.val,done.val] w (GP c.B Post w):=by
 obtain⟨w0,hw0⟩:∃w0,w.alloc (.cells #[.pointer (some ⟨c.R,0,none⟩)] 112)=w0:=⟨_,rfl⟩
 have F0:Fr [] w w0:=by rw [← hw0];exact Fr.alloc _ _
 have hr0:Var w0 w.heap.size 112 (pt c.R):=by rw [← hw0];exact heap_alloc_new _ _
 have hs0:w0.heap.size=w.heap.size+1:=by rw [← hw0];simp
 obtain⟨w1,hw1⟩:∃w1,w0.alloc (.cells #[item.val] 116)=w1:=⟨_,rfl⟩
 have F1:Fr [] w0 w1:=by rw [← hw1];exact Fr.alloc _ _
 have hi1:Var w1 (w.heap.size+1) 116 item.val:=by rw [← hw1,← hs0];exact heap_alloc_new _ _
 have hs1:w1.heap.size=w.heap.size+2:=by rw [← hw1];simp [hs0]
 obtain⟨w2,hw2⟩:∃w2,w1.alloc (.cells #[done.val] 140)=w2:=⟨_,rfl⟩
 have F2:Fr [] w1 w2:=by rw [← hw2];exact Fr.alloc _ _
 have hd2:Var w2 (w.heap.size+2) 140 done.val:=by rw [← hw2,← hs1];exact heap_alloc_new _ _
 have hs2:w2.heap.size=w.heap.size+3:=by rw [← hw2];simp [hs1]
 obtain⟨w3,hw3⟩:∃w3,w2.alloc (.cells #[.slice none 0 0] 38)=w3:=⟨_,rfl⟩
 have F3:Fr [] w2 w3:=by rw [← hw3];exact Fr.alloc _ _
 have hl3:Var w3 (w.heap.size+3) 38 (.slice none 0 0):=by rw [← hw3,← hs2];exact heap_alloc_new _ _
 have hs3:w3.heap.size=w.heap.size+4:=by rw [← hw3];simp [hs2]
 obtain⟨w4,hw4⟩:∃w4,w3.alloc (.cells #[.func (.func 156) #[] #[pt (w.heap.size+3),pt w.heap.size,pt (w.heap.size+1),pt (w.heap.size+4),pt (w.heap.size+2)]] 124)=w4:=⟨_,rfl⟩
 have F4:Fr [] w3 w4:=by rw [← hw4];exact Fr.alloc _ _
 have hm4:Var w4 (w.heap.size+4) 124 (.func (.func 156) #[] #[pt (w.heap.size+3),pt w.heap.size,pt (w.heap.size+1),pt (w.heap.size+4),pt (w.heap.size+2)]):=by rw [← hw4,← hs3];exact heap_alloc_new _ _
 have hs4:w4.heap.size=w.heap.size+5:=by rw [← hw4];simp [hs3]
 have F04:Fr [] w w4:=(((F0.trans F1 (by simp)).trans F2 (by simp)).trans F3 (by simp)).trans F4 (by simp)
 have X4:=hX.keep F04
 have G04:=(hX.fc F04)
 have hB4:LB c w4 w.heap.size (w.heap.size+1) (w.heap.size+4) (w.heap.size+2) (w.heap.size+3) item done :=
  ⟨(((hr0.keep F1 (by simp)).keep F2 (by simp)).keep F3 (by simp)).keep F4 (by simp),((hi1.keep F2 (by simp)).keep F3 (by simp)).keep F4 (by simp),hm4,(hd2.keep F3 (by simp)).keep F4 (by simp)⟩
 have hl4:=hl3.keep F4 (by simp)
 have hgo:Goes c.B item (fv74 (w.heap.size+3) w.heap.size (w.heap.size+1) (w.heap.size+4) (w.heap.size+2)).val w4 Post:=by
  refine hL w4 i _ Post w4.heap.size X4 (by have:=X4.lt;omega) (Nat.le_refl _) ⟨fun d j e u w5 F5 X5 hu hud=>?_,fun j e w5 F5 X5=>?_,fun e=>?_⟩
  ·refine⟨zZb,?_⟩
   show Calls Tryz.prog 156 #[ptrV u.p,pt (w.heap.size+3),pt w.heap.size,pt (w.heap.size+1),pt (w.heap.size+4),pt (w.heap.size+2)] w5 (GP c.B Post w5)
   have hRl:c.R≠w.heap.size+3:=by have:=hX.lt;omega
   refine zZc c I item done Post _ _ _ _ _ b i w hX hL hmono hR m w5 j w4.heap.size u (.slice none 0 0) [] ⟨X5,G04.up.on F5,hB4.stay X4 F5,hl4.stay X4 F5,World.ownsRow_nil _ _ _ _,fun g hg=>by simp [obL,Value.ownBlock] at hg,by omega,by omega,by omega,F5.size,fun t ht=>by simp at ht,hu,?_⟩ ?_
   ·have:=hmono _ _ _ e
    simp only [List.length_nil];omega
   ·have:=hT
    simp only [lstM,e] at this
    simpa only [nxtM,List.map_nil,List.nil_append,hud] using this
  ·exact hT.bad j (by simp only [lstM,e]) w5 (G04.up.on F5) X5
  ·exact hT.no (by simp only [lstM,e])
 obtain⟨hE,hC⟩:=hgo
 have hRn:=zAe hE
 have ci:=hB4.i.c
 have cm:=hB4.m.c
 have HK:=oH (Kn.fr0 F04)
 simp only [fv74,FV.val,pt] at hC cm hw4
 clear hE hX hL hmono hT F0 hr0 F1 hi1 F2 hd2 F3 hl3 F4 hm4 F04 X4 G04 hB4 hl4
 simp only [pt]
 go_enter Tryz.func144,Tryz.ntmps144
 go_wp2_with fail
 refine hC.mono ?_
 rintro e w' ⟨s,rfl,hk2,hr⟩
 go_wp2_with fail
 go_ret
 exact zAv (HK.out.trans hk2) hr
theorem zZd:Enters 160:=⟨_,_,Tryz.func160,by kernel_rfl,rfl⟩
def zZe (br be bd:Nat):FV:=⟨160,#[],#[pt br,pt be,pt bd]⟩
theorem zVk (c:Cx) (e:List UInt8) (br be bd j b:Nat) (done:FV) (Post:World→Prop) (us:List Tr) (v:Value) (w:World) (hX:RX c w j) (hbr:Var w br 112 (pt c.R)) (hbe:Var w be 9 (.string ⟨e.toArray⟩)) (hbd:Var w bd 140 done.val)
  (hv:LsAt w b v us) (hR:c.R < b) (hT:ThenL c b w (if isS (tk c.ts j) e then .ok (us.map Tr.dt) (j+1) else .bad j) done Post) :
  Calls Tryz.prog 160 #[v,pt br,pt be,pt bd] w (GP c.B Post w):=by
 have cr:=hbr.c
 have ce:=hbe.c
 obtain⟨es,hes⟩:∃es:ByteArray,(⟨e.toArray⟩:ByteArray)=es:=⟨_,rfl⟩
 rw [hes] at ce
 cases hs:isS (tk c.ts j) e with
 | true =>
  have HT:=zCo c w j e hX hs
  rw [hes] at HT
  have HH:=oH (oA hX (oA hbd (oA hv (oA hT hs))))
  clear hX hbr hbe hbd hv hT hs hes
  simp only [pt] at cr ⊢
  go_enter Tryz.func160,Tryz.ntmps160
  go_wp2_with fail
  refine HT.mono ?_
  rintro e0 w1 ⟨rfl,F1,X1⟩
  obtain⟨hX,hbd,hv,hT,hs⟩:=HH.out
  have G1:=hX.fcR F1
  have hC0:Goes c.B done v w1 Post:=by
   refine hT.ok (us.map Tr.dt) (j+1) (by rw [hs,if_pos rfl]) us v w1 G1 X1 ⟨zJa hv.row G1 (fun q hq=>?_),fun t ht=>(hv.t t ht).stay hR G1,hv.le,hv.nil⟩ rfl
   simp
   rintro rfl
   rcases hv.row.2 with⟨h1,_⟩ | ⟨g,cap,cur,h1,h2,h3,_⟩
   ·rw [h1] at hq;simp [obL,Value.ownBlock] at hq
   ·rw [h1] at hq
    obtain rfl:c.R=g:=by simpa [obL,Value.ownBlock] using hq
    rw [hX.rd] at h3
    simp at h3
  obtain⟨hE,hC⟩:=hC0
  have hRn:=zAe hE
  have cd:=(hbd.stay hX G1).c
  have HK:=oH (hX.knR F1)
  clear hE hX hbd hv hT hs G1 F1 X1 HT HH
  go_wp2_with fail
  refine hC.mono ?_
  rintro e w' ⟨s,rfl,hk2,hr⟩
  go_wp2_with fail
  go_ret
  exact zAv (HK.out.trans hk2) hr
 | false =>
  have HT:=zBy c w j e hX hs
  rw [hes] at HT
  have HH:=oH (oA hX (oA hT hs))
  clear hX hbr hbe hbd hv hT hs hes
  simp only [pt] at cr ⊢
  go_enter Tryz.func160,Tryz.ntmps160
  go_wp2_with fail
  refine HT.mono ?_
  rintro e0 w1 ⟨rfl,F1⟩
  have HF:=oH F1
  clear HT F1
  go_wp2_with fail
  go_ret
  obtain⟨hX,hT,hs⟩:=HH.out
  exact zEx (Kn.fr0 HF.out) (fun w2 h2=>hT.bad j (by rw [hs];simp) w2 ((hX.fc HF.out).on h2).up ((hX.keep HF.out).keepC h2))
theorem zGy (c:Cx) (e:List UInt8) (I:Nat→Re) (item done:FV) (Post:World→Prop) (b i:Nat) (w:World) (hX:RX c w i) (hi:i < c.ts.length) (hL:Lev c item I) (hmono:∀i d j,I i=.ok d j→i < j) (hR:c.R < b) (hb:b≤w.heap.size)
  (hT:ThenL c b w (withM c.ts e I i) done Post) :
  Calls Tryz.prog 153 #[pt c.R,.string ⟨e.toArray⟩,item.val,done.val] w (GP c.B Post w):=by
 obtain⟨es,hes⟩:∃es:ByteArray,(⟨e.toArray⟩:ByteArray)=es:=⟨_,rfl⟩
 obtain⟨w0,hw0⟩:∃w0,w.alloc (.cells #[.pointer (some ⟨c.R,0,none⟩)] 112)=w0:=⟨_,rfl⟩
 have F0:Fr [] w w0:=by rw [← hw0];exact Fr.alloc _ _
 have hr0:Var w0 w.heap.size 112 (pt c.R):=by rw [← hw0];exact heap_alloc_new _ _
 have hs0:w0.heap.size=w.heap.size+1:=by rw [← hw0];simp
 obtain⟨w1,hw1⟩:∃w1,w0.alloc (.cells #[.string es] 9)=w1:=⟨_,rfl⟩
 have F1:Fr [] w0 w1:=by rw [← hw1];exact Fr.alloc _ _
 have he1:Var w1 (w.heap.size+1) 9 (.string es):=by rw [← hw1,← hs0];exact heap_alloc_new _ _
 have hs1:w1.heap.size=w.heap.size+2:=by rw [← hw1];simp [hs0]
 obtain⟨w2,hw2⟩:∃w2,w1.alloc (.cells #[done.val] 140)=w2:=⟨_,rfl⟩
 have F2:Fr [] w1 w2:=by rw [← hw2];exact Fr.alloc _ _
 have hd2:Var w2 (w.heap.size+2) 140 done.val:=by rw [← hw2,← hs1];exact heap_alloc_new _ _
 have hs2:w2.heap.size=w.heap.size+3:=by rw [← hw2];simp [hs1]
 have F02:Fr [] w w2:=(F0.trans F1 (by simp)).trans F2 (by simp)
 have X2:=hX.keep F02
 have hr2:=(hr0.keep F1 (by simp)).keep F2 (by simp)
 have he2:=he1.keep F2 (by simp)
 have HT:=zBv c w2 i X2 hi
 obtain⟨px,py,hpx⟩:=zAc (tk c.ts i).2.1.1 (tk c.ts i).2.1.2
 obtain⟨ex,ey,hex⟩:=zAc (tk c.ts i).2.2.1 (tk c.ts i).2.2.2
 rw [zCx hpx hex] at HT
 have cr:=hr2.c
 have HV:=oH (oA F02 (oA X2 (oA hr2 (oA he2 (oA hd2 (oA hX (oA hT (oA hL (oA hmono hes)))))))))
 rw [hes]
 clear F0 F1 F2 F02 hr0 he1 hd2 X2 hr2 he2 hX hT hpx hex hL hmono hes
 simp only [pt] at cr ⊢
 go_enter Tryz.func153,Tryz.ntmps153
 go_wp2_with fail
 refine HT.mono ?_
 rintro e0 w3 ⟨rfl,F3,X3⟩
 obtain⟨F02,X2,hr2,he2,hd2,hX,hTh,hL,hmono,hes⟩:=HV.out
 have G3:=X2.fcR F3
 have G03:=(hX.fc F02).up.on G3
 have hr3:=hr2.stay X2 G3
 have he3:=he2.stay X2 G3
 have hd3:=hd2.stay X2 G3
 have HK:=oH ((Kn.fr0 F02).trans (X2.knR F3))
 have hs3:=F3.size
 have cr:=hr3.c
 have ce:=he3.c
 have HW:=oH (oA X3 (oA G03 (oA hr3 (oA he3 hd3))))
 cases hsm:isS (tk c.ts (i+1)) e with
 | true =>
  have HT2:=zCo c w3 (i+1) e X3 hsm
  rw [hes] at HT2
  clear F02 X2 hr2 he2 hd2 hX hTh hL hmono hes F3 X3 G3 G03 hr3 he3 hd3 HT
  simp only [pt] at cr
  go_wp2_with fail
  refine HT2.mono ?_
  rintro e0 w4 ⟨rfl,F4,X4⟩
  obtain⟨X3,G03,hr3,he3,hd3⟩:=HW.out
  obtain⟨F02,X2,hr2,he2,hd2,hX,hTh,hL,hmono,hes⟩:=HV.out
  have G4:=X3.fcR F4
  have hC0:Goes c.B done (.slice none 0 0) w4 Post:=hTh.ok [] (i+2) (by simp only [withM,hsm,if_true]) [] _ w4 (G03.on G4) X4 ⟨World.ownsRow_nil _ _ _ _,by simp,by simp,fun _=>rfl⟩ rfl
  obtain⟨hE,hC⟩:=hC0
  have hRn:=zAe hE
  have cd:=(hd3.stay X3 G4).c
  have HK2:=oH (HK.out.trans (X3.knR F4))
  clear hE X3 G03 hr3 he3 hd3 F02 X2 hr2 he2 hd2 hX hTh hL hmono hes G4 F4 X4 HT2 HK HW HV cr ce
  go_wp2_with fail
  refine hC.mono ?_
  rintro e w' ⟨s,rfl,hk2,hr⟩
  go_wp2_with fail
  go_ret
  exact zAv (HK2.out.trans hk2) hr
 | false =>
  have HT2:=zBy c w3 (i+1) e X3 hsm
  rw [hes] at HT2
  clear F02 X2 hr2 he2 hd2 hX hTh hL hmono hes F3 X3 G3 G03 hr3 he3 hd3 HT
  simp only [pt] at cr
  go_wp2_with fail
  refine HT2.mono ?_
  rintro e0 w4 ⟨rfl,F4⟩
  obtain⟨X3,G03,hr3,he3,hd3⟩:=HW.out
  obtain⟨F02,X2,hr2,he2,hd2,hX,hTh,hL,hmono,hes⟩:=HV.out
  have X4:=X3.keep F4
  have G04:=G03.on (X3.fc F4).up
  have hr4:=hr3.keep F4 (by simp)
  have he4:=he3.keep F4 (by simp)
  have hd4:=hd3.keep F4 (by simp)
  have hC:Calls Tryz.prog 144 #[pt c.R,item.val,(zZe w.heap.size (w.heap.size+1) (w.heap.size+2)).val] w4 (GP c.B Post w4):=by
   refine zLk c I item _ Post b (i+1) c.ts.length w4 X4 hL hmono hR (by have:=G04.size;omega) ⟨fun ds j er us v w5 F5 X5 hv hvd=>?_,fun j er w5 F5 X5=>?_,fun er=>?_⟩
   ·refine⟨zZd,?_⟩
    show Calls Tryz.prog 160 #[v,pt w.heap.size,pt (w.heap.size+1),pt (w.heap.size+2)] w5 (GP c.B Post w5)
    refine zVk c e _ _ _ j b done Post us v w5 X5 (hr4.stay X4 F5) (by rw [hes];exact he4.stay X4 F5) (hd4.stay X4 F5) hv hR ?_
    have:=hTh.on (G04.on F5)
    simpa only [withM,hsm,Bool.false_eq_true,if_false,er,hvd] using this
   ·exact hTh.bad j (by simp only [withM,hsm,Bool.false_eq_true,if_false,er]) w5 (G04.on F5) X5
   ·exact hTh.no (by simp only [withM,hsm,Bool.false_eq_true,if_false,er])
  have cr:=hr4.c
  have HK2:=oH (HK.out.trans (Kn.fr0 F4))
  clear X3 G03 hr3 he3 hd3 F02 X2 hr2 he2 hd2 hX hTh hL hmono hes F4 X4 G04 hr4 he4 hd4 HT2 HK HW HV ce
  simp only [zZe,FV.val,pt] at hC cr
  go_wp2_with fail
  refine hC.mono ?_
  rintro e w' ⟨s,rfl,hk2,hr⟩
  go_wp2_with fail
  go_ret
  exact zAv (HK2.out.trans hk2) hr
end Go.Proofs.YtepfknfadpkigaaGreat
end
