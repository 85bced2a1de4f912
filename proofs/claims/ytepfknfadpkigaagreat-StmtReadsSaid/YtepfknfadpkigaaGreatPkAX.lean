/- Several texts in one. -/
import Derived.Test.YtepfknfadpkigaaGreatPkAA
import Derived.Test.YtepfknfadpkigaaGreatPkAW
import Derived.Test.YtepfknfadpkigaaGreatPkAH
set_option linter.unusedVariables false
set_option linter.unusedSimpArgs false
section
namespace Go.Proofs.YtepfknfadpkigaaGreat
open Go.RowKit
set_option maxHeartbeats 2000000
set_option maxRecDepth 100000
structure Rc where
 ts:List TK
 rv:Value
 R:Nat
 B:Nat
 T:TypeId
 hBR:B≤R
structure RF (c:Rc) (w:World) (i:Nat) (b:Bool):Prop where
 rd:w.heap[c.R]?=some (.cells #[c.rv,.int .i64 i,.bool b] c.T (0,0))
 row:RowAt w c.B c.rv c.ts
 le:i≤16384
 tl:c.ts.length≤16384
 tx:∀x ∈ c.ts,x.1.x.length≤65536
theorem RF.lt {c:Rc} {w:World} {i:Nat} {b:Bool} (h:RF c w i b):c.R < w.heap.size:=zAd h.rd
theorem RF.c0 {c:Rc} {w:World} {i:Nat} {b:Bool} (h:RF c w i b):w.cell? ⟨c.R,0,none⟩=some c.rv:=by rw [Lib.cell_of_heap h.rd];rfl
theorem RF.c1 {c:Rc} {w:World} {i:Nat} {b:Bool} (h:RF c w i b):w.cell? ⟨c.R,1,none⟩=some (.int .i64 i):=by rw [Lib.cell_of_heap h.rd];rfl
theorem RF.c2 {c:Rc} {w:World} {i:Nat} {b:Bool} (h:RF c w i b):w.cell? ⟨c.R,2,none⟩=some (.bool b):=by rw [Lib.cell_of_heap h.rd];rfl
theorem RF.f {c:Rc} {w:World} {i:Nat} {b:Bool} (h:RF c w i b) (k:Nat):w.frozen? ⟨c.R,k,none⟩=false:=Lib.frozen_of_heap h.rd k
theorem RF.row2 {c:Rc} {w w':World} {i:Nat} {b:Bool} (h:RF c w i b) (hF:Fr [c.R] w w'):RowAt w' c.B c.rv c.ts:=by
 have hB:=c.hBR
 have hl:=h.lt
 exact h.row.fc (Fc.of_fr hF (B:=c.B) (by simp;exact c.hBR) (by omega))
theorem RF.via {c:Rc} {w w':World} {i j:Nat} {b b':Bool} (h:RF c w i b) (hF:Fr [c.R] w w') (hrd:w'.heap[c.R]?=some (.cells #[c.rv,.int .i64 j,.bool b'] c.T (0,0))) (hj:j≤16384):RF c w' j b' :=
 ⟨hrd,h.row2 hF,hj,h.tl,h.tx⟩
theorem RF.keep {c:Rc} {w w':World} {i:Nat} {b:Bool} (h:RF c w i b) (hF:Fr [] w w'):RF c w' i b:=h.via (hF.mono (by simp)) ((hF.block _ h.lt (by simp)).trans h.rd) h.le
theorem RF.next {c:Rc} {w:World} {i:Nat} {b:Bool} (h:RF c w i b) (hi:i < c.ts.length):RF c (w.setCell ⟨c.R,1,none⟩ (.int .i64 ((i:Int)+1))) (i+1) b :=
 h.via (Fr.set w c.R 1 _) (by simp [World.setCell,Array.getElem?_modify,h.rd]) (by have:=h.tl;omega)
theorem RF.spoil {c:Rc} {w:World} {i:Nat} {b:Bool} (h:RF c w i b):RF c (w.setCell ⟨c.R,2,none⟩ (.bool true)) i true :=
 h.via (Fr.set w c.R 2 _) (by simp [World.setCell,Array.getElem?_modify,h.rd]) h.le
theorem zDj (c:Rc) (w:World) (i:Nat) (b:Bool) (h:RF c w i b) :
  Calls Tryz.prog 33 #[pt c.R] w fun e w'=>e=.returned (tkV (tk c.ts i))∧Fr [] w w':=by
 have c0:=h.c0
 have c1:=h.c1
 obtain⟨q,cap,hrv,hrow⟩:=h.row
 rw [hrv] at c0
 have hle:=h.le
 have htl:=h.tl
 have hlt:=h.lt
 have hsc:=fun w a x y m=>zAg (P:=Tryz.prog) w a .f64 x y m
 have FA:=oH (Fr.alloc w (.cells #[.int .u8 0,.complex .f64 0 0,.complex .f64 0 0,.string ⟨#[]⟩,.int .i64 0] 71))
 have A0:=oH (Fv.new w (.int .u8 0) (.complex .f64 0 0) (.complex .f64 0 0) (.string ⟨#[]⟩) (.int .i64 0) 71 w.heap.size rfl)
 obtain⟨L,hL⟩:∃L,c.ts.length=L:=⟨_,rfl⟩
 rw [hL] at c0 htl
 have hi0:(0:Int)≤(i:Int):=by omega
 have hd0:decide ((0:Int)≤(i:Int))=true:=decide_eq_true hi0
 simp only [pt]
 by_cases hi:i < c.ts.length
 ·obtain⟨g,rfl,hg,hg2,k0,k1,k2,k3,k4⟩:=hrow i _ (zFw hi)
  rw [hL] at hi
  have HR:Hid (tkV (tk c.ts i)=.agg #[.int .u8 (tk c.ts i).1.k,posV (tk c.ts i).2.1.1 (tk c.ts i).2.1.2,posV (tk c.ts i).2.2.1 (tk c.ts i).2.2.2,.string ⟨(tk c.ts i).1.x.toArray⟩,.int .i64 (tk c.ts i).1.n]):=oH rfl
  obtain⟨x1,y1,e1⟩:=zAc (tk c.ts i).2.1.1 (tk c.ts i).2.1.2
  obtain⟨x2,y2,e2⟩:=zAc (tk c.ts i).2.2.1 (tk c.ts i).2.2.2
  rw [e1,e2] at HR
  rw [e1] at k1
  rw [e2] at k2
  have hi1:(i:Int) < (L:Int):=by omega
  have hd1:decide ((i:Int) < (L:Int))=true:=decide_eq_true hi1
  generalize tkV (tk c.ts i)=tv at *
  generalize ((tk c.ts i).1.k:Int)=t0 at *
  generalize (⟨(tk c.ts i).1.x.toArray⟩:ByteArray)=t3 at *
  generalize (tk c.ts i).1.n=t4 at *
  clear hrow hrv hL e1 e2 h
  go_enter Tryz.func33,Tryz.ntmps33
  go_wp2_with fail
  go_quiet (fail)
  go_wp2_with fail
  obtain⟨wS,hwS⟩:∃wS,(w.alloc (.cells #[.int .u8 0,.complex .f64 0 0,.complex .f64 0 0,.string ⟨#[]⟩,.int .i64 0] 71)).drewN nq=wS:=⟨_,rfl⟩
  have FS:Fr [] w wS:=by rw [← hwS];exact FA.out.trans (Fr.drewN _ _) (by simp)
  have AS:Fv wS w.heap.size (.int .u8 0) (.complex .f64 0 0) (.complex .f64 0 0) (.string ⟨#[]⟩) (.int .i64 0):=by
   rw [← hwS];exact⟨A0.out.c0,A0.out.c1,A0.out.c2,A0.out.c3,A0.out.c4,A0.out.f0,A0.out.f1,A0.out.f2,A0.out.f3,A0.out.f4⟩
  rw [hwS]
  have HWS:=oH (oA FS AS)
  have c0:=FS.cellE c0
  have c1:=FS.cellE c1
  have k0:=FS.cellE k0
  have k1:=FS.cellE k1
  have k2:=FS.cellE k2
  have k3:=FS.cellE k3
  have k4:=FS.cellE k4
  clear hwS FS AS
  go_still_tail 10,(by kernel_rfl)
  change wpList _ _ _ _ _ wS.drew
  have AD:=HWS.out.2
  have a0:=AD.c0
  have a1:=AD.c1
  have a2:=AD.c2
  have a3:=AD.c3
  have a4:=AD.c4
  have b0:=AD.f0
  have b1:=AD.f1
  have b2:=AD.f2
  have b3:=AD.f3
  have b4:=AD.f4
  have HAD:=oH AD
  clear AD
  go_wp2_with fail
  have R5:=(((((HAD.out.set0 (.int .u8 t0)).set1 (.complex .f64 x1 y1)).set2 (.complex .f64 x2 y2)).set3 (.string t3)).set4 (.int .i64 t4))
  have r0:=R5.c0
  have r1:=R5.c1
  have r2:=R5.c2
  have r3:=R5.c3
  have r4:=R5.c4
  refine bodyPost_ret (v:=.agg #[.int .u8 t0,.complex .f64 x1 y1,.complex .f64 x2 y2,.string t3,.int .i64 t4]) (by simp [results,Tryz.results33,go_sem,r0,r1,r2,r3,r4]) rfl ?_
  exact⟨by rw [HR.out],(zDd HWS.out.1 (Nat.le_refl _) _ _ _ _ _).trans (Fr.drew _) (by simp)⟩
 ·rw [zCz (by omega)]
  rw [hL] at hi
  have hi1:¬(i:Int) < (L:Int):=by omega
  have hd1:decide ((i:Int) < (L:Int))=false:=decide_eq_false hi1
  have HR:Hid (tkV zTK=.agg #[.int .u8 0,.complex .f64 0 0,.complex .f64 0 0,.string ⟨#[]⟩,.int .i64 0]):=oH rfl
  generalize tkV zTK=tv at *
  clear hrow hrv hL h
  go_enter Tryz.func33,Tryz.ntmps33
  go_wp2_with fail
  go_quiet (fail)
  obtain⟨wS,hwS⟩:∃wS,(w.alloc (.cells #[.int .u8 0,.complex .f64 0 0,.complex .f64 0 0,.string ⟨#[]⟩,.int .i64 0] 71)).drewN nq=wS:=⟨_,rfl⟩
  have FS:Fr [] w wS:=by rw [← hwS];exact FA.out.trans (Fr.drewN _ _) (by simp)
  have AD:Fv wS w.heap.size (.int .u8 0) (.complex .f64 0 0) (.complex .f64 0 0) (.string ⟨#[]⟩) (.int .i64 0):=by
   rw [← hwS];exact⟨A0.out.c0,A0.out.c1,A0.out.c2,A0.out.c3,A0.out.c4,A0.out.f0,A0.out.f1,A0.out.f2,A0.out.f3,A0.out.f4⟩
  rw [hwS]
  have HWS:=oH (oA FS AD)
  have a0:=AD.c0
  have a1:=AD.c1
  have a2:=AD.c2
  have a3:=AD.c3
  have a4:=AD.c4
  have b0:=AD.f0
  have b1:=AD.f1
  have b2:=AD.f2
  have b3:=AD.f3
  have b4:=AD.f4
  clear hwS FS AD
  go_wp2_with fail
  have R5:=(((((HWS.out.2.set0 (.int .u8 0)).set1 (.complex .f64 0 0)).set2 (.complex .f64 0 0)).set3 (.string ⟨#[]⟩)).set4 (.int .i64 0))
  have r0:=R5.c0
  have r1:=R5.c1
  have r2:=R5.c2
  have r3:=R5.c3
  have r4:=R5.c4
  refine bodyPost_ret (v:=.agg #[.int .u8 0,.complex .f64 0 0,.complex .f64 0 0,.string ⟨#[]⟩,.int .i64 0]) (by simp [results,Tryz.results33,go_sem,r0,r1,r2,r3,r4]) rfl ?_
  exact⟨by rw [HR.out],zDd HWS.out.1 (Nat.le_refl _) _ _ _ _ _⟩
theorem zAs (c:Rc) (w:World) (i:Nat) (b:Bool) (s:List UInt8) (h:RF c w i b) :
  Calls Tryz.prog 70 #[pt c.R,.string ⟨s.toArray⟩] w fun e w'=>e=.returned (.bool (!b&&isS (tk c.ts i) s))∧Fr [] w w':=by
 have hsc:=fun w a x y m=>zAg (P:=Tryz.prog) w a .f64 x y m
 have HH:=zDj c w i b h
 have hq:=zCg (tk c.ts i).1.x s
 have HI:Hid (isS (tk c.ts i) s=((tk c.ts i).1.k == 5&&(tk c.ts i).1.x == s)):=oH rfl
 obtain⟨x1,y1,e1⟩:=zAc (tk c.ts i).2.1.1 (tk c.ts i).2.1.2
 obtain⟨x2,y2,e2⟩:=zAc (tk c.ts i).2.2.1 (tk c.ts i).2.2.2
 unfold tkV at HH
 rw [e1,e2] at HH
 have hk:(((tk c.ts i).1.k:Int) == 5)=((tk c.ts i).1.k == 5):=by
  by_cases hh:(tk c.ts i).1.k=5
  ·rw [hh];rfl
  ·rw [beq_eq_false_iff_ne.2 hh,beq_eq_false_iff_ne.2 (by omega)]
 rw [HI.out]
 obtain⟨kb,hkb⟩:∃kb,((tk c.ts i).1.k == 5)=kb:=⟨_,rfl⟩
 obtain⟨xb,hxb⟩:∃xb,((tk c.ts i).1.x == s)=xb:=⟨_,rfl⟩
 rw [hkb] at hk ⊢
 rw [hxb] at hq ⊢
 have HX:=oH h
 clear e1 e2 HI h hkb hxb
 generalize ((tk c.ts i).1.k:Int)=t0 at *
 generalize (⟨(tk c.ts i).1.x.toArray⟩:ByteArray)=t3 at *
 generalize (tk c.ts i).1.n=t4 at *
 generalize (⟨s.toArray⟩:ByteArray)=sb at *
 simp only [pt] at HH ⊢
 cases b <;> cases kb <;> cases xb
 all_goals
  go_enter Tryz.func70,Tryz.ntmps70
  go_wp2_with fail
  refine HH.mono ?_
  rintro e w2 ⟨rfl,F2⟩
  have c2:=((HX.out.keep F2).keep (Fr.alloc w2 (.cells #[.int .u8 t0,.complex .f64 x1 y1,.complex .f64 x2 y2,.string t3,.int .i64 t4] 71))).c2
  have H2:=oH F2
  have hR2:c.R < w2.heap.size:=by have:=HX.out.lt;have:=F2.size;omega
  clear HH F2
  go_wp2_with fail
  go_ret
  exact⟨rfl,H2.out.trans (Fr.alloc _ _) (by simp)⟩
theorem zAy (c:Rc) (w:World) (i:Nat) (b:Bool) (s:List UInt8) (h:RF c w i b) :
  Calls Tryz.prog 61 #[pt c.R,.string ⟨s.toArray⟩] w fun e w'=>e=.returned (.bool (!b&&isW (tk c.ts i) s))∧Fr [] w w':=by
 have hsc:=fun w a x y m=>zAg (P:=Tryz.prog) w a .f64 x y m
 have HH:=zDj c w i b h
 have hq:=zCg (tk c.ts i).1.x s
 have HI:Hid (isW (tk c.ts i) s=((tk c.ts i).1.k == 6&&(tk c.ts i).1.x == s)):=oH rfl
 obtain⟨x1,y1,e1⟩:=zAc (tk c.ts i).2.1.1 (tk c.ts i).2.1.2
 obtain⟨x2,y2,e2⟩:=zAc (tk c.ts i).2.2.1 (tk c.ts i).2.2.2
 unfold tkV at HH
 rw [e1,e2] at HH
 have hk:(((tk c.ts i).1.k:Int) == 6)=((tk c.ts i).1.k == 6):=by
  by_cases hh:(tk c.ts i).1.k=6
  ·rw [hh];rfl
  ·rw [beq_eq_false_iff_ne.2 hh,beq_eq_false_iff_ne.2 (by omega)]
 rw [HI.out]
 obtain⟨kb,hkb⟩:∃kb,((tk c.ts i).1.k == 6)=kb:=⟨_,rfl⟩
 obtain⟨xb,hxb⟩:∃xb,((tk c.ts i).1.x == s)=xb:=⟨_,rfl⟩
 rw [hkb] at hk ⊢
 rw [hxb] at hq ⊢
 have HX:=oH h
 clear e1 e2 HI h hkb hxb
 generalize ((tk c.ts i).1.k:Int)=t0 at *
 generalize (⟨(tk c.ts i).1.x.toArray⟩:ByteArray)=t3 at *
 generalize (tk c.ts i).1.n=t4 at *
 generalize (⟨s.toArray⟩:ByteArray)=sb at *
 simp only [pt] at HH ⊢
 cases b <;> cases kb <;> cases xb
 all_goals
  go_enter Tryz.func61,Tryz.ntmps61
  go_wp2_with fail
  refine HH.mono ?_
  rintro e w2 ⟨rfl,F2⟩
  have c2:=((HX.out.keep F2).keep (Fr.alloc w2 (.cells #[.int .u8 t0,.complex .f64 x1 y1,.complex .f64 x2 y2,.string t3,.int .i64 t4] 71))).c2
  have H2:=oH F2
  have hR2:c.R < w2.heap.size:=by have:=HX.out.lt;have:=F2.size;omega
  clear HH F2
  go_wp2_with fail
  go_ret
  exact⟨rfl,H2.out.trans (Fr.alloc _ _) (by simp)⟩
theorem zBo (c:Rc) (w:World) (i:Nat) (s:List UInt8) (h:RF c w i false) (hs:isS (tk c.ts i) s=true) :
  Calls Tryz.prog 36 #[pt c.R,.string ⟨s.toArray⟩] w fun e w'=>e=.returned (.bool true)∧Fr [c.R] w w'∧RF c w' (i+1) false:=by
 have HS:=zAs c w i false s h
 rw [hs] at HS
 have hle:=h.le
 have hw1:wrap64 ((i:Int)+1)=(i:Int)+1:=w64 _ (by omega) (by omega)
 have HT:=oH (oA h (zAm hs))
 clear h hs
 generalize (⟨s.toArray⟩:ByteArray)=sb at *
 simp only [pt] at HS ⊢
 go_enter Tryz.func36,Tryz.ntmps36
 go_wp2_with fail
 refine HS.mono ?_
 rintro e w2 ⟨rfl,F2⟩
 have X2:=HT.out.1.keep F2
 have c1:=X2.c1
 have f1:=X2.f 1
 have H2:=oH (oA F2 X2)
 clear HS F2 X2
 go_wp2_with fail
 go_ret
 exact⟨rfl,(H2.out.1.mono (by simp)).trans (Fr.set w2 c.R 1 _) (fun j hj=>.inl hj),H2.out.2.next HT.out.2⟩
theorem zAu (c:Rc) (w:World) (i:Nat) (b:Bool) (s:List UInt8) (h:RF c w i b) (hs:(!b&&isS (tk c.ts i) s)=false) :
  Calls Tryz.prog 36 #[pt c.R,.string ⟨s.toArray⟩] w fun e w'=>e=.returned (.bool false)∧Fr [] w w':=by
 have HS:=zAs c w i b s h
 rw [hs] at HS
 clear h hs
 generalize (⟨s.toArray⟩:ByteArray)=sb at *
 simp only [pt] at HS ⊢
 go_enter Tryz.func36,Tryz.ntmps36
 go_wp2_with fail
 refine HS.mono ?_
 rintro e w2 ⟨rfl,F2⟩
 have H2:=oH F2
 clear HS F2
 go_wp2_with fail
 go_ret
 exact⟨rfl,H2.out⟩
theorem zAz (c:Rc) (w:World) (i:Nat) (s:List UInt8) (h:RF c w i false) (hs:isW (tk c.ts i) s=true) :
  Calls Tryz.prog 62 #[pt c.R,.string ⟨s.toArray⟩] w fun e w'=>e=.returned (.bool true)∧Fr [c.R] w w'∧RF c w' (i+1) false:=by
 have HS:=zAy c w i false s h
 rw [hs] at HS
 have hle:=h.le
 have hw1:wrap64 ((i:Int)+1)=(i:Int)+1:=w64 _ (by omega) (by omega)
 have HT:=oH (oA h (zCr hs))
 clear h hs
 generalize (⟨s.toArray⟩:ByteArray)=sb at *
 simp only [pt] at HS ⊢
 go_enter Tryz.func62,Tryz.ntmps62
 go_wp2_with fail
 refine HS.mono ?_
 rintro e w2 ⟨rfl,F2⟩
 have X2:=HT.out.1.keep F2
 have c1:=X2.c1
 have f1:=X2.f 1
 have H2:=oH (oA F2 X2)
 clear HS F2 X2
 go_wp2_with fail
 go_ret
 exact⟨rfl,(H2.out.1.mono (by simp)).trans (Fr.set w2 c.R 1 _) (fun j hj=>.inl hj),H2.out.2.next HT.out.2⟩
theorem zAb (c:Rc) (w:World) (i:Nat) (b:Bool) (s:List UInt8) (h:RF c w i b) (hs:(!b&&isW (tk c.ts i) s)=false) :
  Calls Tryz.prog 62 #[pt c.R,.string ⟨s.toArray⟩] w fun e w'=>e=.returned (.bool false)∧Fr [] w w':=by
 have HS:=zAy c w i b s h
 rw [hs] at HS
 clear h hs
 generalize (⟨s.toArray⟩:ByteArray)=sb at *
 simp only [pt] at HS ⊢
 go_enter Tryz.func62,Tryz.ntmps62
 go_wp2_with fail
 refine HS.mono ?_
 rintro e w2 ⟨rfl,F2⟩
 have H2:=oH F2
 clear HS F2
 go_wp2_with fail
 go_ret
 exact⟨rfl,H2.out⟩
theorem zCe (c:Rc) (w:World) (i:Nat) (s:List UInt8) (h:RF c w i false) (hs:isS (tk c.ts i) s=true) :
  Calls Tryz.prog 98 #[pt c.R,.string ⟨s.toArray⟩] w fun e w'=>e=.returned (.tuple #[])∧Fr [c.R] w w'∧RF c w' (i+1) false:=by
 have HS:=zBo c w i s h hs
 clear h hs
 generalize (⟨s.toArray⟩:ByteArray)=sb at *
 simp only [pt] at HS ⊢
 go_enter Tryz.func98,Tryz.ntmps98
 go_wp2_with fail
 refine HS.mono ?_
 rintro e w2 ⟨rfl,F2,X2⟩
 have H2:=oH (oA F2 X2)
 clear HS F2 X2
 go_wp2_with fail
 go_end0
 exact⟨rfl,H2.out⟩
theorem zBq (c:Rc) (w:World) (i:Nat) (b:Bool) (s:List UInt8) (h:RF c w i b) (hs:(!b&&isS (tk c.ts i) s)=false) :
  Calls Tryz.prog 98 #[pt c.R,.string ⟨s.toArray⟩] w fun e w'=>e=.returned (.tuple #[])∧Fr [c.R] w w'∧RF c w' i true:=by
 have HS:=zAu c w i b s h hs
 have HT:=oH h
 clear h hs
 generalize (⟨s.toArray⟩:ByteArray)=sb at *
 simp only [pt] at HS ⊢
 go_enter Tryz.func98,Tryz.ntmps98
 go_wp2_with fail
 refine HS.mono ?_
 rintro e w2 ⟨rfl,F2⟩
 have X2:=HT.out.keep F2
 have f2:=X2.f 2
 have c2:=X2.c2
 have H2:=oH (oA F2 X2)
 clear HS F2 X2
 go_wp2_with fail
 go_end0
 exact⟨rfl,(H2.out.1.mono (by simp)).trans (Fr.set w2 c.R 2 _) (fun j hj=>.inl hj),H2.out.2.spoil⟩
theorem zIa (c:Rc) (w:World) (i:Nat) (s:List UInt8) (h:RF c w i false) (hs:isW (tk c.ts i) s=true) :
  Calls Tryz.prog 66 #[pt c.R,.string ⟨s.toArray⟩] w fun e w'=>e=.returned (.tuple #[])∧Fr [c.R] w w'∧RF c w' (i+1) false:=by
 have HS:=zAz c w i s h hs
 clear h hs
 generalize (⟨s.toArray⟩:ByteArray)=sb at *
 simp only [pt] at HS ⊢
 go_enter Tryz.func66,Tryz.ntmps66
 go_wp2_with fail
 refine HS.mono ?_
 rintro e w2 ⟨rfl,F2,X2⟩
 have H2:=oH (oA F2 X2)
 clear HS F2 X2
 go_wp2_with fail
 go_end0
 exact⟨rfl,H2.out⟩
theorem zDn (c:Rc) (w:World) (i:Nat) (b:Bool) (s:List UInt8) (h:RF c w i b) (hs:(!b&&isW (tk c.ts i) s)=false) :
  Calls Tryz.prog 66 #[pt c.R,.string ⟨s.toArray⟩] w fun e w'=>e=.returned (.tuple #[])∧Fr [c.R] w w'∧RF c w' i true:=by
 have HS:=zAb c w i b s h hs
 have HT:=oH h
 clear h hs
 generalize (⟨s.toArray⟩:ByteArray)=sb at *
 simp only [pt] at HS ⊢
 go_enter Tryz.func66,Tryz.ntmps66
 go_wp2_with fail
 refine HS.mono ?_
 rintro e w2 ⟨rfl,F2⟩
 have X2:=HT.out.keep F2
 have f2:=X2.f 2
 have c2:=X2.c2
 have H2:=oH (oA F2 X2)
 clear HS F2 X2
 go_wp2_with fail
 go_end0
 exact⟨rfl,(H2.out.1.mono (by simp)).trans (Fr.set w2 c.R 2 _) (fun j hj=>.inl hj),H2.out.2.spoil⟩
end Go.Proofs.YtepfknfadpkigaaGreat
end
section
namespace Go.Proofs.YtepfknfadpkigaaGreat
open Go.RowKit
set_option maxHeartbeats 1000000
set_option maxRecDepth 100000
def isB (l:List (List UInt8)) (t:TK):Bool:=(t.1.k == 5||t.1.k == 6)&&l.contains t.1.x
def tokG (t:TK):Prop:=tokOk t.1∨t=zTK
def opsOk (l:List (List UInt8)) (tb:List (List UInt8 × Nat)):Bool :=
 (symsP.all fun x=>l.contains x == (tb.lookup x == some 5))&&(resv.all fun x=>l.contains x == (tb.lookup x == some 6))&&(tb.all fun p=>p.2 == 5||p.2 == 6)
theorem zHc (x:List UInt8) (k:Nat):∀tb:List (List UInt8 × Nat),(tb.all fun p=>p.2 == 5||p.2 == 6)=true→tb.lookup x=some k→k=5∨k=6
 | [],_,h=>by simp at h
 | (y,n)::r,ha,h=>by
  simp only [List.all_cons,Bool.and_eq_true,Bool.or_eq_true,beq_iff_eq] at ha
  rw [List.lookup_cons] at h
  split at h
  ·injection h with h
   omega
  ·exact zHc x k r ha.2 h
theorem zPy {l:List (List UInt8)} {tb:List (List UInt8 × Nat)} (h:opsOk l tb=true) {t:TK} (ht:tokG t):isB l t=isO tb t:=by
 unfold opsOk at h
 simp only [Bool.and_eq_true] at h
 obtain⟨⟨h1,h2⟩,h3⟩:=h
 have hoth:t.1.k≠5→t.1.k≠6→isB l t=isO tb t:=fun a b=>by
  unfold isB isO
  rw [beq_eq_false_iff_ne.2 a,beq_eq_false_iff_ne.2 b]
  simp only [Bool.or_self,Bool.false_and]
  refine(beq_eq_false_iff_ne.2 fun e=>?_).symm
  rcases zHc _ _ tb h3 e with e | e
  ·exact a e
  ·exact b e
 rcases ht with ht | rfl
 ·rcases ht with⟨k,_⟩ | ⟨k,hw,_⟩ | ⟨k,_⟩ | ⟨k,_⟩ | ⟨k,_⟩ | ⟨k,_,hs⟩
  ·exact hoth (by omega) (by omega)
  ·unfold isB isO
   rw [k]
   have:=List.all_eq_true.1 h2 t.1.x (by unfold wordB at hw;exact List.contains_iff_mem.1 hw)
   simp only [beq_iff_eq] at this
   rw [this]
   rfl
  ·exact hoth (by omega) (by omega)
  ·exact hoth (by omega) (by omega)
  ·exact hoth (by omega) (by omega)
  ·unfold isB isO
   rw [k]
   have:=List.all_eq_true.1 h1 t.1.x (List.contains_iff_mem.1 hs)
   simp only [beq_iff_eq] at this
   rw [this]
   rfl
 ·exact hoth (by decide) (by decide)
def mulL:List (List UInt8):=[[42],[47],[68,73,86],[77,79,68],[65,78,68]]
def signL:List (List UInt8):=[[43],[45]]
def sumL:List (List UInt8):=[[43],[45],[79,82]]
def relL:List (List UInt8):=[[61],[35],[60],[60,61],[62],[62,61],[73,78]]
theorem qAl:opsOk mulL mulT=true:=by decide +kernel
theorem zWi:opsOk signL signT=true:=by decide +kernel
theorem zUc:opsOk sumL sumT=true:=by decide +kernel
theorem qAm:opsOk relL relT=true:=by decide +kernel
def Scd (ts:List TK):Prop:=∀i,tokG (tk ts i)
theorem zWj (S:List UInt8):Scd (rowT S):=fun i=>by
 rcases Nat.lt_or_ge i (rowT S).length with h | h
 ·have hm:=List.mem_of_getElem? (zFw h)
  left
  unfold rowT at hm
  split at hm
  ·obtain⟨y,hy,e⟩:=List.mem_map.1 hm
   rw [show tk (rowT S) i=plOf S y from by unfold rowT;rename_i hz;rw [if_pos hz];exact e.symm]
   exact(zJv _ S 0 (Nat.le_refl _)).1 y hy
  ·simp at hm
 ·exact .inr (zCz h)
theorem isNot (t:TK):isO notT t=(t.1.k == 6&&t.1.x == [78,79,84]):=by
 unfold isO notT
 rw [List.lookup_cons]
 cases hx:(t.1.x == [78,79,84])
 ·simp
 ·simp only [Bool.and_true]
  by_cases hk:t.1.k=6
  ·rw [hk];rfl
  ·rw [beq_eq_false_iff_ne.2 hk,beq_eq_false_iff_ne.2]
   intro e;injection e with e;exact hk e.symm
section
variable (ts:List TK)
theorem zDk {tb:List (List UInt8 × Nat)} {i:Nat} (h:isO tb (tk ts i)=false):∀m,opsM ts tb m i=0
 | 0=>rfl
 | m+1=>by unfold opsM;rw [h];rfl
theorem zJj {tb:List (List UInt8 × Nat)} (hz:tb.lookup []=none):∀m m' i,ts.length≤m+i→ts.length≤m'+i→opsM ts tb m i=opsM ts tb m' i
 | 0,m',i,h,_=>by
  have:isO tb (tk ts i)=false:=by
   cases e:isO tb (tk ts i) with
   | false=>rfl
   | true=>have:=zCb hz e;omega
  rw [zDk ts this,zDk ts this]
 | m+1,0,i,_,h=>by
  have:isO tb (tk ts i)=false:=by
   cases e:isO tb (tk ts i) with
   | false=>rfl
   | true=>have:=zCb hz e;omega
  rw [zDk ts this,zDk ts this]
 | m+1,m'+1,i,h,h'=>by
  unfold opsM
  rw [zJj hz m m' (i+1) (by omega) (by omega)]
theorem zHd (i:Nat):∀(n:Nat) (x:DT),wrapM ts i (n+1) x=.node (nd 12 (tk ts i) (tk ts i).1.x 0) [wrapM ts (i+1) n x]
 | 0,x=>rfl
 | n+1,x=>by
  have h:=zHd i n (.node (nd 12 (tk ts (i+(n+1))) (tk ts (i+(n+1))).1.x 0) [x])
  have e:i+(n+1)=i+1+n:=by omega
  show wrapM ts i (n+1) _=_
  rw [h,e]
  rfl
variable (E:Nat→Re)
theorem zDl {i:Nat} (h:isO notT (tk ts i)=false):facM ts E i=operM ts E i:=by
 unfold facM aheadM
 rw [zDk ts h]
 show (match operM ts E (i+0) with | .ok x j=>Re.ok x j | .bad j=>.bad j | .out=>.out)=_
 rw [Nat.add_zero]
 cases operM ts E i <;> rfl
theorem zPz {i:Nat} (h:isO notT (tk ts i)=true):facM ts E i=(match facM ts E (i+1) with | .ok x j=>.ok (.node (nd 12 (tk ts i) (tk ts i).1.x 0) [x]) j | .bad j=>.bad j | .out=>.out):=by
 have e:opsM ts notT (ts.length+1) i=opsM ts notT (ts.length+1) (i+1)+1:=by
  rw [show opsM ts notT (ts.length+1) i=opsM ts notT ts.length (i+1)+1 from by
   show (if isO notT (tk ts i)=true then _ else _)=_
   rw [if_pos h]]
  rw [zJj ts rfl ts.length (ts.length+1) (i+1) (by omega) (by omega)]
 unfold facM aheadM
 simp only [if_true,e]
 generalize opsM ts notT (ts.length+1) (i+1)=k
 rw [show i+(k+1)=i+1+k from by omega]
 cases operM ts E (i+1+k) with
 | ok x j=>simp only [zHd]
 | bad j=>rfl
 | out=>rfl
end
end Go.Proofs.YtepfknfadpkigaaGreat
end
