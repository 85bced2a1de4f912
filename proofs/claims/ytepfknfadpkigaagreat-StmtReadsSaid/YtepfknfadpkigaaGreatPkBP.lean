/- Several texts in one. -/
import Derived.Test.YtepfknfadpkigaaGreatPkAA
import Derived.Test.YtepfknfadpkigaaGreatPkAU
import Derived.Test.YtepfknfadpkigaaGreatPkAV
set_option linter.unusedVariables false
set_option linter.unusedSimpArgs false
section
namespace Go.Proofs.YtepfknfadpkigaaGreat
open Go.RowKit
set_option maxHeartbeats 2000000
set_option maxRecDepth 100000
def CB (c:Sc) (B:Nat→Re):Prop:=∀w i done Post b,SX c w i→c.mb < b→b≤w.heap.size→ThS c b w (B i) done Post→Calls Tryz.prog 16 #[.pointer (some ⟨c.R,0,none⟩),done.val] w (GQ Post)
theorem cls1 (c:Sc) (u:Tr) (e:List UInt8) (done:FV) (Post:World→Prop) (w:World) (j br be bd:Nat) (hX:SX c w j) (hr:Var w br 44 (pt c.R)) (he:Var w be 9 (.string ⟨e.toArray⟩)) (hd:Var w bd 76 done.val) (hbd:c.mb < bd)
  (hok:isW (tk c.ts j) e=true→∀w',Fr [c.R] w w'→SX c w' (j+1)→GoQ done (ptrV u.p) w' Post) (hbad:isW (tk c.ts j) e=false→∀w',Fr [] w w'→SX c w' j→Post w') :
  Calls Tryz.prog 106 #[ptrV u.p,pt br,pt be,pt bd] w (GQ Post):=by
 have cr:=hr.c
 have ce:=he.c
 have hRd:c.R≠bd:=by have:=c.hRm;omega
 cases hq:isW (tk c.ts j) e
 ·have HC:=zBt c w j e hX hq
  have HP:=oH (hbad hq)
  have HX:=oH hX
  clear hok hbad hq hX hr he hd
  generalize (⟨e.toArray⟩:ByteArray)=eb at *
  simp only [pt,ptrV] at cr ⊢
  go_enter Tryz.func106,Tryz.ntmps106
  go_wp2_with fail
  refine HC.mono ?_
  rintro e w2 ⟨rfl,F2⟩
  have H2:=oH F2
  clear F2 HC
  go_wp2_with fail
  go_ret
  exact zCd (HP.out _ H2.out (HX.out.keep H2.out))
 ·have HC:=zBw c w j e hX hq
  have HP:=oH (hok hq)
  have HD:=oH hd
  clear hok hbad hq hX hr he hd
  generalize (⟨e.toArray⟩:ByteArray)=eb at *
  simp only [pt,ptrV] at cr HP ⊢
  go_enter Tryz.func106,Tryz.ntmps106
  go_wp2_with fail
  refine HC.mono ?_
  rintro e w2 ⟨rfl,F2,X2⟩
  have hg:=HP.out w2 F2 X2
  have cd:=(HD.out.keep F2 (by simp;exact Ne.symm hRd)).c
  clear F2 X2 HC HP HD
  obtain⟨df,d1,d2⟩:=done
  obtain⟨hE,hCC⟩:=hg
  have hR2:=zAe hE
  clear hE
  simp only [FV.val] at cd hCC
  go_wp2_with fail
  refine hCC.mono ?_
  rintro e w' ⟨s,rfl,hr⟩
  go_wp2_with fail
  go_ret
  exact⟨s,rfl,hr⟩
theorem zQx {ts:List TK} {e:List UInt8} {d:DT} {j:Nat} (h:isW (tk ts j) e=true):wrdM ts e (.ok d j)=.ok d (j+1):=by
 show (if isW (tk ts j) e=true then _ else _)=_
 rw [if_pos h]
theorem zQy {ts:List TK} {e:List UInt8} {d:DT} {j:Nat} (h:isW (tk ts j) e=false):wrdM ts e (.ok d j)=.bad j:=by
 show (if isW (tk ts j) e=true then _ else _)=_
 rw [if_neg (by rw [h];simp)]
theorem qBm:Enters 106:=⟨_,_,Tryz.func106,by kernel_rfl,rfl⟩
theorem zCl (c:Sc) (B:Nat→Re) (hB:CB c B) (e:List UInt8) (w:World) (i:Nat) (done:FV) (Post:World→Prop) (b:Nat) (hX:SX c w i) (hR:c.mb < b) (hb:b≤w.heap.size) (hT:ThS c b w (wrdM c.ts e (B i)) done Post) :
  Calls Tryz.prog 84 #[.pointer (some ⟨c.R,0,none⟩),.string ⟨e.toArray⟩,done.val] w (GQ Post):=by
 obtain⟨W,hW⟩:∃W,w.heap.size=W:=⟨_,rfl⟩
 obtain⟨w0,hw0⟩:∃w0,w.alloc (.cells #[.pointer (some ⟨c.R,0,none⟩)] 44)=w0:=⟨_,rfl⟩
 have F0:Fr [] w w0:=by rw [← hw0];exact Fr.alloc _ _
 have v0:Var w0 W 44 (pt c.R):=by rw [← hw0,← hW];exact heap_alloc_new _ _
 have s0:w0.heap.size=W+1:=by rw [← hw0,← hW];simp
 obtain⟨w1,hw1⟩:∃w1,w0.alloc (.cells #[.string ⟨e.toArray⟩] 9)=w1:=⟨_,rfl⟩
 have F1:Fr [] w0 w1:=by rw [← hw1];exact Fr.alloc _ _
 have v1:Var w1 (W+1) 9 (.string ⟨e.toArray⟩):=by rw [← hw1,← s0];exact heap_alloc_new _ _
 have s1:w1.heap.size=W+2:=by rw [← hw1];simp [s0]
 obtain⟨w2,hw2⟩:∃w2,w1.alloc (.cells #[done.val] 76)=w2:=⟨_,rfl⟩
 have F2:Fr [] w1 w2:=by rw [← hw2];exact Fr.alloc _ _
 have v2:Var w2 (W+2) 76 done.val:=by rw [← hw2,← s1];exact heap_alloc_new _ _
 have s2:w2.heap.size=W+3:=by rw [← hw2];simp [s1]
 have F02:Fr [] w w2:=(F0.on F1).on F2
 have v0':=v0.keep (F1.on F2) (by simp)
 have v1':=v1.keep F2 (by simp)
 have hmW:c.mb < W:=by rw [← hW];omega
 have hTS:ThS c b w2 (B i) ⟨106,#[],#[pt W,pt (W+1),pt (W+2)]⟩ Post:=by
  refine⟨fun d j er u w' F X hu hd=>⟨qBm,?_⟩,fun j er w' F X=>?_,fun er=>?_⟩
  ·have hRm:=c.hRm
   have k0:=v0'.keep F (by simp;omega)
   have k1:=v1'.keep F (by simp;omega)
   have k2:=v2.keep F (by simp;omega)
   have F0w:Fr [c.R] w w':=F02.up0.on F
   rw [er] at hT
   refine cls1 c u e done Post w' j W (W+1) (W+2) X k0 k1 k2 (by omega) (fun hq w3 F3 X3=>?_) (fun hq w3 F3 X3=>?_)
   ·rw [zQx hq] at hT
    exact hT.ok _ _ rfl u w3 (F0w.on F3) X3 (zAk hu F3 (by simp;omega)) hd
   ·rw [zQy hq] at hT
    exact hT.bad _ rfl w3 (F0w.on0 F3) X3
  ·rw [er] at hT
   exact hT.bad _ rfl w' (F02.up0.on F) X
  ·rw [er] at hT
   exact hT.no rfl
 have HC:=hB w2 i ⟨106,#[],#[pt W,pt (W+1),pt (W+2)]⟩ Post b (hX.keep F02) hR (by have:=F02.size;omega) hTS
 clear hTS
 have cr:=v0'.c
 clear hB hX hR hb hT F0 F1 F2 F02 v0 v1 v2 v0' v1' hmW
 simp only [FV.val,pt] at hw0 hw1 hw2 HC cr ⊢
 obtain⟨df,d1,d2⟩:=done
 simp only [FV.val] at hw2 ⊢
 go_enter Tryz.func84,Tryz.ntmps84
 go_wp2_with fail
 refine HC.mono ?_
 rintro e w' ⟨s,rfl,hr⟩
 go_wp2_with fail
 go_ret
 exact⟨s,rfl,hr⟩
theorem sAheadE (c:Sc) (w:World) (i:Nat) (e:List UInt8) (h:SX c w i) :
  Calls Tryz.prog 76 #[.pointer (some ⟨c.R,0,none⟩),.func (.func 77) #[] #[],.string ⟨e.toArray⟩] w (TeS c w.heap.size w (wrdM c.ts e (E0 c.ts i))):=by
 have HC:=sTellE c w i h
 have HL:=oH h.lt
 have HE:=oH (rfl:e=e)
 clear h
 go_enter Tryz.func76,Tryz.ntmps76
 go_wp2_with fail
 refine HC.mono ?_
 rintro er w2 ⟨o,rfl,F2,⟨d,j,u,hr,rfl,X2,hT,hd⟩ | ⟨j,hr,rfl,X2⟩⟩
 ·have HRR:=oH hr
  cases hq:isW (tk c.ts j) e
  ·have HK:=zBt c w2 j e X2 hq
   have H:=oH (oA F2 (oA X2 hq))
   clear HC F2 X2 hT hd hr hq
   generalize (⟨e.toArray⟩:ByteArray)=eb at *
   simp only [encP,ptrV]
   go_wp2_with fail
   refine HK.mono ?_
   rintro er w3 ⟨rfl,F3⟩
   have H3:=oH F3
   clear F3 HK
   go_wp2_with fail
   go_ret
   exact⟨none,rfl,H.out.1.on0 H3.out,.inr ⟨j,by rw [HRR.out];exact zQy H.out.2.2,rfl,H.out.2.1.keep H3.out⟩⟩
  ·have HK:=zBw c w2 j e X2 hq
   have H:=oH (oA F2 (oA hT (oA hd hq)))
   clear HC F2 X2 hT hd hr hq
   generalize (⟨e.toArray⟩:ByteArray)=eb at *
   simp only [encP,ptrV]
   go_wp2_with fail
   refine HK.mono ?_
   rintro er w3 ⟨rfl,F3,X3⟩
   have H3:=oH (oA F3 X3)
   clear F3 X3 HK
   go_wp2_with fail
   go_ret
   exact⟨some u.p,rfl,H.out.1.on H3.out.1,.inl ⟨d,j+1,u,by rw [HRR.out];exact zQx H.out.2.2.2,rfl,H3.out.2,zAk H.out.2.1 H3.out.1 (by have:=HL.out;simp;exact this),H.out.2.2.1⟩⟩
 ·have HRR:=oH hr
  have H:=oH (oA F2 X2)
  clear HC F2 X2 hr
  simp only [encP]
  go_wp2_with fail
  go_ret
  exact⟨none,rfl,H.out.1,.inr ⟨j,by rw [HRR.out];rfl,rfl,H.out.2⟩⟩
theorem sAheadD (c:Sc) (w:World) (i:Nat) (e:List UInt8) (h:SX c w i) :
  Calls Tryz.prog 76 #[.pointer (some ⟨c.R,0,none⟩),.func (.func 91) #[] #[],.string ⟨e.toArray⟩] w (TeS c w.heap.size w (wrdM c.ts e (D0 c.ts i))):=by
 have HC:=sTellD c w i h
 have HL:=oH h.lt
 have HE:=oH (rfl:e=e)
 clear h
 go_enter Tryz.func76,Tryz.ntmps76
 go_wp2_with fail
 refine HC.mono ?_
 rintro er w2 ⟨o,rfl,F2,⟨d,j,u,hr,rfl,X2,hT,hd⟩ | ⟨j,hr,rfl,X2⟩⟩
 ·have HRR:=oH hr
  cases hq:isW (tk c.ts j) e
  ·have HK:=zBt c w2 j e X2 hq
   have H:=oH (oA F2 (oA X2 hq))
   clear HC F2 X2 hT hd hr hq
   generalize (⟨e.toArray⟩:ByteArray)=eb at *
   simp only [encP,ptrV]
   go_wp2_with fail
   refine HK.mono ?_
   rintro er w3 ⟨rfl,F3⟩
   have H3:=oH F3
   clear F3 HK
   go_wp2_with fail
   go_ret
   exact⟨none,rfl,H.out.1.on0 H3.out,.inr ⟨j,by rw [HRR.out];exact zQy H.out.2.2,rfl,H.out.2.1.keep H3.out⟩⟩
  ·have HK:=zBw c w2 j e X2 hq
   have H:=oH (oA F2 (oA hT (oA hd hq)))
   clear HC F2 X2 hT hd hr hq
   generalize (⟨e.toArray⟩:ByteArray)=eb at *
   simp only [encP,ptrV]
   go_wp2_with fail
   refine HK.mono ?_
   rintro er w3 ⟨rfl,F3,X3⟩
   have H3:=oH (oA F3 X3)
   clear F3 X3 HK
   go_wp2_with fail
   go_ret
   exact⟨some u.p,rfl,H.out.1.on H3.out.1,.inl ⟨d,j+1,u,by rw [HRR.out];exact zQx H.out.2.2.2,rfl,H3.out.2,zAk H.out.2.1 H3.out.1 (by have:=HL.out;simp;exact this),H.out.2.2.1⟩⟩
 ·have HRR:=oH hr
  have H:=oH (oA F2 X2)
  clear HC F2 X2 hr
  simp only [encP]
  go_wp2_with fail
  go_ret
  exact⟨none,rfl,H.out.1,.inr ⟨j,by rw [HRR.out];rfl,rfl,H.out.2⟩⟩
end Go.Proofs.YtepfknfadpkigaaGreat
namespace Go.Proofs.YtepfknfadpkigaaGreat
open Go.RowKit
set_option maxHeartbeats 2000000
set_option maxRecDepth 100000
theorem zCi (c:Sc) (w:World) (i:Nat) (h:SX c w i) (hi:i < c.ts.length) (px py ex ey:Nat) (h1:posV (tk c.ts i).2.1.1 (tk c.ts i).2.1.2=.complex .f64 px py) (h2:posV (tk c.ts i).2.2.1 (tk c.ts i).2.2.2=.complex .f64 ex ey) :
  Calls Tryz.prog 75 #[.pointer (some ⟨c.R,0,none⟩)] w fun e w'=>e=.returned (.agg #[.int .u8 (tk c.ts i).1.k,.complex .f64 px py,.complex .f64 ex ey,.string ⟨(tk c.ts i).1.x.toArray⟩,.int .i64 (tk c.ts i).1.n])∧Fr [c.R] w w'∧SX c w' (i+1):=by
 have H:=zEh c w i h hi
 rw [zCx h1 h2] at H
 exact H
theorem zCj (c:Sc) (w:World) (i:Nat) (h:SX c w i) (px py ex ey:Nat) (h1:posV (tk c.ts i).2.1.1 (tk c.ts i).2.1.2=.complex .f64 px py) (h2:posV (tk c.ts i).2.2.1 (tk c.ts i).2.2.2=.complex .f64 ex ey) :
  Calls Tryz.prog 27 #[.pointer (some ⟨c.R,0,none⟩)] w fun e w'=>e=.returned (.agg #[.int .u8 (tk c.ts i).1.k,.complex .f64 px py,.complex .f64 ex ey,.string ⟨(tk c.ts i).1.x.toArray⟩,.int .i64 (tk c.ts i).1.n])∧Fr [] w w':=by
 have H:=zEg c w i h
 rw [zCx h1 h2] at H
 exact H
theorem zKp (w:World):(binOp .eql 26 (.pointer none) (.pointer none)).run Tryz.prog w=.ok (.bool true) w:=by kernel_rfl
theorem zXw:Enters 85:=⟨_,_,Tryz.func85,by kernel_rfl,rfl⟩
theorem zXx (c:Sc) (B:Nat→Re) (hB:CB c B) (w:World) (i:Nat) (done:FV) (Post:World→Prop) (b:Nat) (hX:SX c w i) (hlt:i < c.ts.length) (hR:c.mb < b) (hb:b≤w.heap.size) (hT:ThS c b w (whiM c.ts B i) done Post) :
  Calls Tryz.prog 47 #[.pointer (some ⟨c.R,0,none⟩),done.val] w (GQ Post):=by
 obtain⟨px,py,e1⟩:=zAc (tk c.ts i).2.1.1 (tk c.ts i).2.1.2
 obtain⟨ex,ey,e2⟩:=zAc (tk c.ts i).2.2.1 (tk c.ts i).2.2.2
 have hfd:=zBb
 have hsc:=fun w a x y m=>zAg (P:=Tryz.prog) w a .f64 x y m
 obtain⟨W,hW⟩:∃W,w.heap.size=W:=⟨_,rfl⟩
 obtain⟨w0,hw0⟩:∃w0,w.alloc (.cells #[done.val] 76)=w0:=⟨_,rfl⟩
 have F0:Fr [] w w0:=by rw [← hw0];exact Fr.alloc _ _
 have v0:Var w0 W 76 done.val:=by rw [← hw0,← hW];exact heap_alloc_new _ _
 have HTK:=zCi c w0 i (hX.keep F0) hlt px py ex ey e1 e2
 have hRm:=c.hRm
 have hmW:c.mb < W:=by rw [← hW];omega
 have hun:whiM c.ts B i=(wrdM c.ts [68,79] (E0 c.ts (i+1))).bnd fun x j=>(wrdM c.ts [69,78,68] (B j)).bnd fun b k=>.ok (.node (nd 64 (tk c.ts i) [] 0) [x,b]) k:=rfl
 rw [hun] at hT
 have HH:=oH (oA hB (oA hT (oA F0 (oA v0 (oA hmW (oA hR (oA hb (oA hW e1))))))))
 clear hB hX hlt hR hb hT F0 v0 hW hun e1 e2 hmW hRm
 generalize ((tk c.ts i).1.k:Int)=t0 at *
 generalize (⟨(tk c.ts i).1.x.toArray⟩:ByteArray)=t3 at *
 generalize (tk c.ts i).1.n=t4 at *
 have hdv:∃df d1 d2,done.val=.func (.func df) d1 d2:=⟨_,_,_,rfl⟩
 obtain⟨df,d1,d2,hdv⟩:=hdv
 rw [hdv] at hw0 ⊢
 have HDV:=oH hdv
 clear hdv
 go_enter Tryz.func47,Tryz.ntmps47
 go_wp2_with fail
 refine HTK.mono ?_
 rintro e w1 ⟨rfl,F1,X1⟩
 clear HTK
 go_upto_region 2 with fail
 obtain⟨P,hP⟩:∃P,w1.heap.size=P:=⟨_,rfl⟩
 obtain⟨w2,hw2⟩:∃w2,w1.alloc (.cells #[.complex .f64 px py] 37)=w2:=⟨_,rfl⟩
 have F2:Fr [] w1 w2:=by rw [← hw2];exact Fr.alloc _ _
 have v2:Var w2 P 37 (.complex .f64 px py):=by rw [← hw2,← hP];exact heap_alloc_new _ _
 try rw [hw2]
 try rw [hP]
 have HA:=sAheadE c w2 (i+1) [68,79] (X1.keep F2)
 have hs1:=F1.size
 have hs0:=HH.out.2.2.1.size
 have HWP:Hid (W < P):=oH (by rw [← hP];have:=HH.out.2.2.2.1.lt;omega)
 have H2:=oH (oA (F1.on0 F2) v2)
 clear F1 X1 F2 v2 hP hs0 hs1 hw2
 go_wp2_with fail
 refine HA.mono ?_
 rintro e w3 ⟨o,rfl,F3,⟨d,j,u,hr,rfl,X3,hu,hd⟩ | ⟨j,hr,rfl,X3⟩⟩
 ·clear HA
  simp only [encP,ptrV]
  go_upto_region 5 with fail
  obtain⟨Q,hQ⟩:∃Q,w3.heap.size=Q:=⟨_,rfl⟩
  obtain⟨w4,hw4⟩:∃w4,w3.alloc (.cells #[.pointer (some ⟨u.p,0,none⟩)] 26)=w4:=⟨_,rfl⟩
  have F4:Fr [] w3 w4:=by rw [← hw4];exact Fr.alloc _ _
  have v4:Var w4 Q 26 (ptrV u.p):=by rw [← hw4,← hQ];exact heap_alloc_new _ _
  try rw [hw4]
  try rw [hQ]
  have hTS:ThS c b w4 (wrdM c.ts [69,78,68] (B j)) ⟨85,#[],#[pt W,pt P,pt Q]⟩ Post:=by
   obtain⟨hB,hT,F0,v0,hmW,hR,hb,hW,e1⟩:=HH.out
   have hRm:=c.hRm
   have hWP:=HWP.out
   have F04:Fr [c.R] w0 w4:=(H2.out.1.on F3).on0 F4
   have hQs:P < Q:=by rw [← hQ];have:=(H2.out.2.keep F3 (by simp;omega)).lt;exact this
   rw [hr] at hT
   have hT:ThS c b w ((wrdM c.ts [69,78,68] (B j)).bnd fun b k=>.ok (.node (nd 64 (tk c.ts i) [] 0) [d,b]) k) done Post:=hT
   refine⟨fun d2 k er u2 w5 F5 X5 hu2 hd2=>⟨zXw,?_⟩,fun k er w5 F5 X5=>?_,fun er=>?_⟩
   ·rw [er] at hT
    have hT:ThS c b w (.ok (.node (nd 64 (tk c.ts i) [] 0) [d,d2]) k) done Post:=hT
    have hPs:P≤w2.heap.size:=Nat.le_of_lt H2.out.2.lt
    have hs2:=H2.out.1.size
    have hwW:=v0.lt
    refine whi1 u u2 (tk c.ts i) done Post w5 W P Q b ((v0.keep F04 (by simp;omega)).keep F5 (by simp;omega)) (by rw [e1];exact((H2.out.2.keep F3 (by simp;omega)).keep F4 (by simp)).keep F5 (by simp;omega)) (v4.keep F5 (by simp;omega)) (zAk (zAk (zAt hu (by omega)) F4 (by simp)) F5 (by simp;omega)) hu2 (by have:=F04.size;have:=F5.size;omega) (fun uu w6 F6 huu hduu=>?_)
    exact hT.ok _ _ rfl uu w6 (((F0.up0.on F04).on F5).on0 F6) (X5.keep F6) huu (by rw [hduu,hd,hd2])
   ·rw [er] at hT
    have hT:ThS c b w (.bad k) done Post:=hT
    exact hT.bad _ rfl w5 ((F0.up0.on F04).on F5) X5
   ·rw [er] at hT
    have hT:ThS c b w .out done Post:=hT
    exact hT.no rfl
  have HC:=zCl c B HH.out.1 [69,78,68] w4 j _ Post b (X3.keep F4) HH.out.2.2.2.2.2.1 (by
   have h1:=HH.out.2.2.2.2.2.2.1
   have h2:=HH.out.2.2.1.size
   have h3:=H2.out.1.size
   have h4:=F3.size
   have h5:=F4.size
   omega) hTS
  clear hTS F3 X3 hu hd hr F4 v4 hw4 hQ
  rw [← HH.out.2.2.2.2.2.2.2.1] at HC
  simp only [FV.val,pt] at HC
  go_wp2_with fail
  refine HC.mono ?_
  rintro e w' ⟨s,rfl,hr⟩
  go_wp2_with fail
  go_ret
  exact⟨s,rfl,hr⟩
 ·clear HA
  have HP:Hid (∀w',Fr [] w3 w'→Post w'):=oH (fun w' F=>by
   obtain⟨hB,hT,F0,v0,hmW,hR,hb,hW,e1⟩:=HH.out
   rw [hr] at hT
   have hT:ThS c b w (.bad j) done Post:=hT
   exact hT.bad _ rfl w' (((F0.up0.on H2.out.1).on F3).on0 F) (X3.keep F))
  clear hr F3 X3
  simp only [encP]
  go_wp2_with fail
  go_ret
  exact zCd (HP.out _ (Fr.alloc _ _))
theorem zXy:Enters 92:=⟨_,_,Tryz.func92,by kernel_rfl,rfl⟩
theorem zXz (c:Sc) (B:Nat→Re) (hB:CB c B) (w:World) (i:Nat) (done:FV) (Post:World→Prop) (b:Nat) (hX:SX c w i) (hlt:i < c.ts.length) (hR:c.mb < b) (hb:b≤w.heap.size) (hT:ThS c b w (witM c.ts B i) done Post) :
  Calls Tryz.prog 52 #[.pointer (some ⟨c.R,0,none⟩),done.val] w (GQ Post):=by
 obtain⟨px,py,e1⟩:=zAc (tk c.ts i).2.1.1 (tk c.ts i).2.1.2
 obtain⟨ex,ey,e2⟩:=zAc (tk c.ts i).2.2.1 (tk c.ts i).2.2.2
 have hfd:=zBb
 have hsc:=fun w a x y m=>zAg (P:=Tryz.prog) w a .f64 x y m
 obtain⟨W,hW⟩:∃W,w.heap.size=W:=⟨_,rfl⟩
 obtain⟨w0,hw0⟩:∃w0,w.alloc (.cells #[done.val] 76)=w0:=⟨_,rfl⟩
 have F0:Fr [] w w0:=by rw [← hw0];exact Fr.alloc _ _
 have v0:Var w0 W 76 done.val:=by rw [← hw0,← hW];exact heap_alloc_new _ _
 have HTK:=zCi c w0 i (hX.keep F0) hlt px py ex ey e1 e2
 have hRm:=c.hRm
 have hmW:c.mb < W:=by rw [← hW];omega
 have hun:witM c.ts B i=(wrdM c.ts [68,79] (D0 c.ts (i+1))).bnd fun x j=>(wrdM c.ts [69,78,68] (B j)).bnd fun b k=>.ok (.node (nd 69 (tk c.ts i) [] 0) [x,b]) k:=rfl
 rw [hun] at hT
 have HH:=oH (oA hB (oA hT (oA F0 (oA v0 (oA hmW (oA hR (oA hb (oA hW e1))))))))
 clear hB hX hlt hR hb hT F0 v0 hW hun e1 e2 hmW hRm
 generalize ((tk c.ts i).1.k:Int)=t0 at *
 generalize (⟨(tk c.ts i).1.x.toArray⟩:ByteArray)=t3 at *
 generalize (tk c.ts i).1.n=t4 at *
 have hdv:∃df d1 d2,done.val=.func (.func df) d1 d2:=⟨_,_,_,rfl⟩
 obtain⟨df,d1,d2,hdv⟩:=hdv
 rw [hdv] at hw0 ⊢
 have HDV:=oH hdv
 clear hdv
 go_enter Tryz.func52,Tryz.ntmps52
 go_wp2_with fail
 refine HTK.mono ?_
 rintro e w1 ⟨rfl,F1,X1⟩
 clear HTK
 go_upto_region 2 with fail
 obtain⟨P,hP⟩:∃P,w1.heap.size=P:=⟨_,rfl⟩
 obtain⟨w2,hw2⟩:∃w2,w1.alloc (.cells #[.complex .f64 px py] 37)=w2:=⟨_,rfl⟩
 have F2:Fr [] w1 w2:=by rw [← hw2];exact Fr.alloc _ _
 have v2:Var w2 P 37 (.complex .f64 px py):=by rw [← hw2,← hP];exact heap_alloc_new _ _
 try rw [hw2]
 try rw [hP]
 have HA:=sAheadD c w2 (i+1) [68,79] (X1.keep F2)
 have hs1:=F1.size
 have hs0:=HH.out.2.2.1.size
 have HWP:Hid (W < P):=oH (by rw [← hP];have:=HH.out.2.2.2.1.lt;omega)
 have H2:=oH (oA (F1.on0 F2) v2)
 clear F1 X1 F2 v2 hP hs0 hs1 hw2
 go_wp2_with fail
 refine HA.mono ?_
 rintro e w3 ⟨o,rfl,F3,⟨d,j,u,hr,rfl,X3,hu,hd⟩ | ⟨j,hr,rfl,X3⟩⟩
 ·clear HA
  simp only [encP,ptrV]
  go_upto_region 5 with fail
  obtain⟨Q,hQ⟩:∃Q,w3.heap.size=Q:=⟨_,rfl⟩
  obtain⟨w4,hw4⟩:∃w4,w3.alloc (.cells #[.pointer (some ⟨u.p,0,none⟩)] 26)=w4:=⟨_,rfl⟩
  have F4:Fr [] w3 w4:=by rw [← hw4];exact Fr.alloc _ _
  have v4:Var w4 Q 26 (ptrV u.p):=by rw [← hw4,← hQ];exact heap_alloc_new _ _
  try rw [hw4]
  try rw [hQ]
  have hTS:ThS c b w4 (wrdM c.ts [69,78,68] (B j)) ⟨92,#[],#[pt W,pt P,pt Q]⟩ Post:=by
   obtain⟨hB,hT,F0,v0,hmW,hR,hb,hW,e1⟩:=HH.out
   have hRm:=c.hRm
   have hWP:=HWP.out
   have F04:Fr [c.R] w0 w4:=(H2.out.1.on F3).on0 F4
   have hQs:P < Q:=by rw [← hQ];have:=(H2.out.2.keep F3 (by simp;omega)).lt;exact this
   rw [hr] at hT
   have hT:ThS c b w ((wrdM c.ts [69,78,68] (B j)).bnd fun b k=>.ok (.node (nd 69 (tk c.ts i) [] 0) [d,b]) k) done Post:=hT
   refine⟨fun d2 k er u2 w5 F5 X5 hu2 hd2=>⟨zXy,?_⟩,fun k er w5 F5 X5=>?_,fun er=>?_⟩
   ·rw [er] at hT
    have hT:ThS c b w (.ok (.node (nd 69 (tk c.ts i) [] 0) [d,d2]) k) done Post:=hT
    have hPs:P≤w2.heap.size:=Nat.le_of_lt H2.out.2.lt
    have hs2:=H2.out.1.size
    have hwW:=v0.lt
    refine wit1 u u2 (tk c.ts i) done Post w5 W P Q b ((v0.keep F04 (by simp;omega)).keep F5 (by simp;omega)) (by rw [e1];exact((H2.out.2.keep F3 (by simp;omega)).keep F4 (by simp)).keep F5 (by simp;omega)) (v4.keep F5 (by simp;omega)) (zAk (zAk (zAt hu (by omega)) F4 (by simp)) F5 (by simp;omega)) hu2 (by have:=F04.size;have:=F5.size;omega) (fun uu w6 F6 huu hduu=>?_)
    exact hT.ok _ _ rfl uu w6 (((F0.up0.on F04).on F5).on0 F6) (X5.keep F6) huu (by rw [hduu,hd,hd2])
   ·rw [er] at hT
    have hT:ThS c b w (.bad k) done Post:=hT
    exact hT.bad _ rfl w5 ((F0.up0.on F04).on F5) X5
   ·rw [er] at hT
    have hT:ThS c b w .out done Post:=hT
    exact hT.no rfl
  have HC:=zCl c B HH.out.1 [69,78,68] w4 j _ Post b (X3.keep F4) HH.out.2.2.2.2.2.1 (by
   have h1:=HH.out.2.2.2.2.2.2.1
   have h2:=HH.out.2.2.1.size
   have h3:=H2.out.1.size
   have h4:=F3.size
   have h5:=F4.size
   omega) hTS
  clear hTS F3 X3 hu hd hr F4 v4 hw4 hQ
  rw [← HH.out.2.2.2.2.2.2.2.1] at HC
  simp only [FV.val,pt] at HC
  go_wp2_with fail
  refine HC.mono ?_
  rintro e w' ⟨s,rfl,hr⟩
  go_wp2_with fail
  go_ret
  exact⟨s,rfl,hr⟩
 ·clear HA
  have HP:Hid (∀w',Fr [] w3 w'→Post w'):=oH (fun w' F=>by
   obtain⟨hB,hT,F0,v0,hmW,hR,hb,hW,e1⟩:=HH.out
   rw [hr] at hT
   have hT:ThS c b w (.bad j) done Post:=hT
   exact hT.bad _ rfl w' (((F0.up0.on H2.out.1).on F3).on0 F) (X3.keep F))
  clear hr F3 X3
  simp only [encP]
  go_wp2_with fail
  go_ret
  exact zCd (HP.out _ (Fr.alloc _ _))
theorem zYa:Enters 88:=⟨_,_,Tryz.func88,by kernel_rfl,rfl⟩
theorem zYb (c:Sc) (B:Nat→Re) (hB:CB c B) (w:World) (i:Nat) (done:FV) (Post:World→Prop) (b:Nat) (hX:SX c w i) (hlt:i < c.ts.length) (hR:c.mb < b) (hb:b≤w.heap.size) (hT:ThS c b w (looM c.ts B i) done Post) :
  Calls Tryz.prog 49 #[.pointer (some ⟨c.R,0,none⟩),done.val] w (GQ Post):=by
 obtain⟨px,py,e1⟩:=zAc (tk c.ts i).2.1.1 (tk c.ts i).2.1.2
 obtain⟨ex,ey,e2⟩:=zAc (tk c.ts i).2.2.1 (tk c.ts i).2.2.2
 have hfd:=zBb
 have hsc:=fun w a x y m=>zAg (P:=Tryz.prog) w a .f64 x y m
 obtain⟨W,hW⟩:∃W,w.heap.size=W:=⟨_,rfl⟩
 obtain⟨w0,hw0⟩:∃w0,w.alloc (.cells #[done.val] 76)=w0:=⟨_,rfl⟩
 have F0:Fr [] w w0:=by rw [← hw0];exact Fr.alloc _ _
 have v0:Var w0 W 76 done.val:=by rw [← hw0,← hW];exact heap_alloc_new _ _
 have HTK:=zCi c w0 i (hX.keep F0) hlt px py ex ey e1 e2
 have hRm:=c.hRm
 have hmW:c.mb < W:=by rw [← hW];omega
 have hun:looM c.ts B i=(wrdM c.ts [69,78,68] (B (i+1))).bnd fun b k=>.ok (.node (nd 66 (tk c.ts i) [] 0) [b]) k:=rfl
 rw [hun] at hT
 have HH:=oH (oA hB (oA hT (oA F0 (oA v0 (oA hmW (oA hR (oA hb (oA hW e1))))))))
 clear hB hX hlt hR hb hT F0 v0 hW hun e1 e2 hmW hRm
 generalize ((tk c.ts i).1.k:Int)=t0 at *
 generalize (⟨(tk c.ts i).1.x.toArray⟩:ByteArray)=t3 at *
 generalize (tk c.ts i).1.n=t4 at *
 have hdv:∃df d1 d2,done.val=.func (.func df) d1 d2:=⟨_,_,_,rfl⟩
 obtain⟨df,d1,d2,hdv⟩:=hdv
 rw [hdv] at hw0 ⊢
 have HDV:=oH hdv
 clear hdv
 go_enter Tryz.func49,Tryz.ntmps49
 go_wp2_with fail
 refine HTK.mono ?_
 rintro e w1 ⟨rfl,F1,X1⟩
 clear HTK
 go_upto_region 2 with fail
 obtain⟨P,hP⟩:∃P,w1.heap.size=P:=⟨_,rfl⟩
 obtain⟨w2,hw2⟩:∃w2,w1.alloc (.cells #[.complex .f64 px py] 37)=w2:=⟨_,rfl⟩
 have F2:Fr [] w1 w2:=by rw [← hw2];exact Fr.alloc _ _
 have v2:Var w2 P 37 (.complex .f64 px py):=by rw [← hw2,← hP];exact heap_alloc_new _ _
 try rw [hw2]
 try rw [hP]
 have hTS:ThS c b w2 (wrdM c.ts [69,78,68] (B (i+1))) ⟨88,#[],#[pt W,pt P]⟩ Post:=by
  obtain⟨hB,hT,F0,v0,hmW,hR,hb,hW,e1⟩:=HH.out
  have hRm:=c.hRm
  have hWP:W < P:=by rw [← hP];have:=v0.lt;have:=F1.size;omega
  have F02:Fr [c.R] w0 w2:=F1.on0 F2
  refine⟨fun d2 k er u2 w5 F5 X5 hu2 hd2=>⟨zYa,?_⟩,fun k er w5 F5 X5=>?_,fun er=>?_⟩
  ·rw [er] at hT
   have hT:ThS c b w (.ok (.node (nd 66 (tk c.ts i) [] 0) [d2]) k) done Post:=hT
   refine loo1 u2 (tk c.ts i) done Post w5 W P b ((v0.keep F02 (by simp;omega)).keep F5 (by simp;omega)) (by rw [e1];exact v2.keep F5 (by simp;omega)) hu2 (by have:=F02.size;have:=F5.size;have:=F0.size;omega) (fun uu w6 F6 huu hduu=>?_)
   exact hT.ok _ _ rfl uu w6 (((F0.up0.on F02).on F5).on0 F6) (X5.keep F6) huu (by rw [hduu,hd2])
  ·rw [er] at hT
   have hT:ThS c b w (.bad k) done Post:=hT
   exact hT.bad _ rfl w5 ((F0.up0.on F02).on F5) X5
  ·rw [er] at hT
   have hT:ThS c b w .out done Post:=hT
   exact hT.no rfl
 have HC:=zCl c B HH.out.1 [69,78,68] w2 (i+1) _ Post b (X1.keep F2) HH.out.2.2.2.2.2.1 (by
  have h1:=HH.out.2.2.2.2.2.2.1
  have h2:=HH.out.2.2.1.size
  have h3:=F1.size
  have h4:=F2.size
  omega) hTS
 clear hTS F1 X1 F2 v2 hw2 hP
 rw [← HH.out.2.2.2.2.2.2.2.1] at HC
 simp only [FV.val,pt] at HC
 go_wp2_with fail
 refine HC.mono ?_
 rintro e w' ⟨s,rfl,hr⟩
 go_wp2_with fail
 go_ret
 exact⟨s,rfl,hr⟩
end Go.Proofs.YtepfknfadpkigaaGreat
namespace Go.Proofs.YtepfknfadpkigaaGreat
open Go.RowKit
set_option maxHeartbeats 2000000
set_option maxRecDepth 100000
theorem qDg:Enters 30:=⟨_,_,Tryz.func30,by kernel_rfl,rfl⟩
theorem zSz (c:Sc) (B:Nat→Re) (hI:ItmS c 29 (stmM c.ts B)) (hmono:∀i d j,stmM c.ts B i=some (.ok d j)→i < j) :
  CB c (fun i=>(partM c.ts [59] (stmM c.ts B) (c.ts.length+1) [] i).re fun l=>.node (nd 46 (tk c.ts i) [] 0) l):=by
 intro w i done Post b hX hR hb hT
 have hT:ThS c b w ((partM c.ts [59] (stmM c.ts B) (c.ts.length+1) [] i).re fun l=>.node (nd 46 (tk c.ts i) [] 0) l) done Post:=hT
 obtain⟨px,py,e1⟩:=zAc (tk c.ts i).2.1.1 (tk c.ts i).2.1.2
 obtain⟨ex,ey,e2⟩:=zAc (tk c.ts i).2.2.1 (tk c.ts i).2.2.2
 have hfd:=zBb
 have hsc:=fun w a x y m=>zAg (P:=Tryz.prog) w a .f64 x y m
 obtain⟨W,hW⟩:∃W,w.heap.size=W:=⟨_,rfl⟩
 obtain⟨w0,hw0⟩:∃w0,w.alloc (.cells #[done.val] 76)=w0:=⟨_,rfl⟩
 have F0:Fr [] w w0:=by rw [← hw0];exact Fr.alloc _ _
 have v0:Var w0 W 76 done.val:=by rw [← hw0,← hW];exact heap_alloc_new _ _
 have X0:=hX.keep F0
 have HTK:=zCj c w0 i X0 px py ex ey e1 e2
 have hRm:=c.hRm
 have hmW:c.mb < W:=by rw [← hW];omega
 obtain⟨RL,hRL⟩:∃RL,partM c.ts [59] (stmM c.ts B) (c.ts.length+1) [] i=RL:=⟨_,rfl⟩
 rw [hRL] at hT
 have HH:=oH (oA hI (oA hT (oA F0 (oA v0 (oA hmW (oA hR (oA hb (oA hW (oA e1 (oA hmono (oA hRL X0)))))))))))
 clear hI hX hR hb hT F0 v0 hW e1 e2 hmW hRm hmono hRL X0
 generalize ((tk c.ts i).1.k:Int)=t0 at *
 generalize (⟨(tk c.ts i).1.x.toArray⟩:ByteArray)=t3 at *
 generalize (tk c.ts i).1.n=t4 at *
 have hdv:∃df d1 d2,done.val=.func (.func df) d1 d2:=⟨_,_,_,rfl⟩
 obtain⟨df,d1,d2,hdv⟩:=hdv
 rw [hdv] at hw0 ⊢
 have HDV:=oH hdv
 clear hdv
 go_enter Tryz.func16,Tryz.ntmps16
 go_wp2_with fail
 refine HTK.mono ?_
 rintro e w1 ⟨rfl,F1⟩
 clear HTK
 go_upto_region 2 with fail
 obtain⟨P,hP⟩:∃P,w1.heap.size=P:=⟨_,rfl⟩
 obtain⟨w2,hw2⟩:∃w2,w1.alloc (.cells #[.complex .f64 px py] 37)=w2:=⟨_,rfl⟩
 have F2:Fr [] w1 w2:=by rw [← hw2];exact Fr.alloc _ _
 have v2:Var w2 P 37 (.complex .f64 px py):=by rw [← hw2,← hP];exact heap_alloc_new _ _
 try rw [hw2]
 try rw [hP]
 obtain⟨hI,hT,F0,v0,hmW,hR,hb,hW,e1,hmono,hRL,X0⟩:=HH.out
 have hRm:=c.hRm
 have hWP:W < P:=by rw [← hP];have:=v0.lt;have:=F1.size;omega
 have F02:Fr [] w0 w2:=F1.on F2
 have hTS:ThSL c b w2 (partM c.ts [59] (stmM c.ts B) (c.ts.length+1) [] i) ⟨30,#[],#[pt W,pt P]⟩ Post:=by
  rw [hRL]
  refine⟨fun ds k er us v w5 F5 X5 hl _ hds=>⟨qDg,?_⟩,fun k er w5 F5 X5=>?_,fun er=>?_⟩
  ·rw [er] at hT
   have hT:ThS c b w (.ok (.node (nd 46 (tk c.ts i) [] 0) ds) k) done Post:=hT
   refine qDc v us (tk c.ts i) done Post w5 W P b ((v0.keep F02 (by simp)).keep F5 (by simp;omega)) (by rw [e1];exact v2.keep F5 (by simp;omega)) hl (by have:=F02.size;have:=F5.size;have:=F0.size;omega) (fun uu w6 F6 huu hduu=>?_)
   exact hT.ok _ _ rfl uu w6 (((F0.on F02).up0.on F5).on0 F6) (X5.keep F6) huu (by rw [hduu,hds])
  ·rw [er] at hT
   have hT:ThS c b w (.bad k) done Post:=hT
   exact hT.bad _ rfl w5 ((F0.on F02).up0.on F5) X5
  ·rw [er] at hT
   have hT:ThS c b w .out done Post:=hT
   exact hT.no rfl
 have HC:=zLu c (stmM c.ts B) 29 _ Post b i (c.ts.length+1) [59] w2 (X0.keep F02) hR (by have:=F02.size;have:=F0.size;omega) hI hmono hTS
 rw [← hW] at HC
 clear hTS hI hT F0 v0 hmW hR hb hW e1 hmono hRL X0 hRm hWP F02 F1 F2 v2 hw2 hP
 simp only [FV.val,pt] at HC
 go_wp2_with fail
 refine HC.mono ?_
 rintro e w' ⟨s,rfl,hr⟩
 go_wp2_with fail
 go_ret
 exact⟨s,rfl,hr⟩
theorem zYc (c:Sc) (w:World) (i:Nat) (done:FV) (Post:World→Prop) (b:Nat) (hX:SX c w i) (hlt:i < c.ts.length) (hR:c.mb < b) (hb:b≤w.heap.size) (hT:ThS c b w (exiM c.ts i) done Post) :
  Calls Tryz.prog 50 #[.pointer (some ⟨c.R,0,none⟩),done.val] w (GQ Post):=by
 obtain⟨px,py,e1⟩:=zAc (tk c.ts i).2.1.1 (tk c.ts i).2.1.2
 obtain⟨ex,ey,e2⟩:=zAc (tk c.ts i).2.2.1 (tk c.ts i).2.2.2
 have hfd:=zBb
 have hsc:=fun w a x y m=>zAg (P:=Tryz.prog) w a .f64 x y m
 have HTK:=zCi c w i hX hlt px py ex ey e1 e2
 have HH:=oH (oA hT (oA hb e1))
 clear hX hlt hR hb hT e1 e2
 generalize ((tk c.ts i).1.k:Int)=t0 at *
 generalize (⟨(tk c.ts i).1.x.toArray⟩:ByteArray)=t3 at *
 generalize (tk c.ts i).1.n=t4 at *
 have hdv:∃df d1 d2,done=⟨df,d1,d2⟩:=⟨_,_,_,rfl⟩
 obtain⟨df,d1,d2,rfl⟩:=hdv
 simp only [FV.val]
 go_enter Tryz.func50,Tryz.ntmps50
 go_wp2_with fail
 refine HTK.mono ?_
 rintro e w1 ⟨rfl,F1,X1⟩
 clear HTK
 have HN:=zBj w1 (nd 67 (tk c.ts i) [] 0) _ [] b (zIx w1) (by simp) (by simp) (Nat.le_trans HH.out.2.1 F1.size) (by simp [nd]) _ HH.out.2.2 ⟨#[]⟩ rfl 67 rfl 0 rfl _ rfl
 have H1:=oH (oA F1 X1)
 clear F1 X1
 go_wp2_with fail
 refine HN.mono ?_
 rintro e w2 ⟨u,rfl,F2,hu,hd⟩
 obtain⟨hE,hC⟩:=HH.out.1.ok _ _ rfl u w2 (H1.out.1.on0 F2) (H1.out.2.keep F2) hu (by rw [hd];rfl)
 have hR2:=zAe hE
 clear hE HN F2 hu hd
 simp only [FV.val,ptrV] at hC ⊢
 go_wp2_with fail
 refine hC.mono ?_
 rintro e w' ⟨s,rfl,hr⟩
 go_wp2_with fail
 go_ret
 exact⟨s,rfl,hr⟩
theorem sAlone (c:Sc) (w:World) (i:Nat) (h:SX c w i) :
  Calls Tryz.prog 93 #[.pointer (some ⟨c.R,0,none⟩)] w fun e w'=>e=.returned (.bool (aloB (tk c.ts i)))∧Fr [] w w':=by
 have hsc:=fun w a x y m=>zAg (P:=Tryz.prog) w a .f64 x y m
 obtain⟨px,py,e1⟩:=zAc (tk c.ts i).2.1.1 (tk c.ts i).2.1.2
 obtain⟨ex,ey,e2⟩:=zAc (tk c.ts i).2.2.1 (tk c.ts i).2.2.2
 have HH:=zCj c w i h px py ex ey e1 e2
 obtain⟨X,hX⟩:∃X,(tk c.ts i).1.x=X:=⟨_,rfl⟩
 obtain⟨k,hk⟩:∃k,(tk c.ts i).1.k=k:=⟨_,rfl⟩
 have HA:Hid (aloB (tk c.ts i)=(k == 0||(k == 5&&(X == [59]||X == [124]))||(k == 6&&(X == [69,78,68]||X == [69,76,83,69]||X == [69,76,83,73,70]||X == [85,78,84,73,76])))):=oH (by unfold aloB;rw [hX,hk])
 rw [hX,hk] at HH
 have q1:=zCg X [59]
 have q2:=zCg X [124]
 have q3:=zCg X [69,78,68]
 have q4:=zCg X [69,76,83,69]
 have q5:=zCg X [69,76,83,73,70]
 have q6:=zCg X [85,78,84,73,76]
 rw [HA.out]
 clear e1 e2 h hX hk HA
 generalize (tk c.ts i).1.n=t4 at *
 obtain⟨t3,ht3⟩:∃t3:ByteArray,(⟨X.toArray⟩:ByteArray)=t3:=⟨_,rfl⟩
 rw [ht3] at HH q1 q2 q3 q4 q5 q6
 clear ht3
 generalize (X == [59])=b1 at *
 generalize (X == [124])=b2 at *
 generalize (X == [69,78,68])=b3 at *
 generalize (X == [69,76,83,69])=b4 at *
 generalize (X == [69,76,83,73,70])=b5 at *
 generalize (X == [85,78,84,73,76])=b6 at *
 rw [ByteArray.toList_eq (⟨List.toArray [59]⟩)] at q1
 rw [ByteArray.toList_eq (⟨List.toArray [124]⟩)] at q2
 rw [ByteArray.toList_eq (⟨List.toArray [69,78,68]⟩)] at q3
 rw [ByteArray.toList_eq (⟨List.toArray [69,76,83,69]⟩)] at q4
 rw [ByteArray.toList_eq (⟨List.toArray [69,76,83,73,70]⟩)] at q5
 rw [ByteArray.toList_eq (⟨List.toArray [85,78,84,73,76]⟩)] at q6
 by_cases k0:k=0
 ·subst k0
  go_enter Tryz.func93,Tryz.ntmps93
  go_wp2_with fail
  refine HH.mono ?_
  rintro e w2 ⟨rfl,F2⟩
  have H2:=oH F2
  clear HH F2
  go_wp2_with fail
  go_ret
  exact⟨rfl,H2.out.trans (Fr.alloc _ _) (by simp)⟩
 by_cases k5:k=5
 ·subst k5
  cases b1 <;> cases b2
  all_goals
   go_enter Tryz.func93,Tryz.ntmps93
   go_wp2_with fail
   refine HH.mono ?_
   rintro e w2 ⟨rfl,F2⟩
   have H2:=oH F2
   clear HH F2
   go_wp2_with fail
   go_ret
   exact⟨rfl,H2.out.trans (Fr.alloc _ _) (by simp)⟩
 by_cases k6:k=6
 ·subst k6
  cases b3 <;> cases b4 <;> cases b5 <;> cases b6
  all_goals
   go_enter Tryz.func93,Tryz.ntmps93
   go_wp2_with fail
   refine HH.mono ?_
   rintro e w2 ⟨rfl,F2⟩
   have H2:=oH F2
   clear HH F2
   go_wp2_with fail
   go_ret
   exact⟨rfl,H2.out.trans (Fr.alloc _ _) (by simp)⟩
 have h0:((k:Int) == 0)=false:=beq_eq_false_iff_ne.2 (by omega)
 have h5:((k:Int) == 5)=false:=beq_eq_false_iff_ne.2 (by omega)
 have h6:((k:Int) == 6)=false:=beq_eq_false_iff_ne.2 (by omega)
 rw [show (k == 0)=false from beq_eq_false_iff_ne.2 k0,show (k == 5)=false from beq_eq_false_iff_ne.2 k5,show (k == 6)=false from beq_eq_false_iff_ne.2 k6]
 generalize (k:Int)=kk at *
 go_enter Tryz.func93,Tryz.ntmps93
 go_wp2_with fail
 refine HH.mono ?_
 rintro e w2 ⟨rfl,F2⟩
 have H2:=oH F2
 clear HH F2
 go_wp2_with fail
 go_ret
 exact⟨rfl,H2.out.trans (Fr.alloc _ _) (by simp)⟩
end Go.Proofs.YtepfknfadpkigaaGreat
end
