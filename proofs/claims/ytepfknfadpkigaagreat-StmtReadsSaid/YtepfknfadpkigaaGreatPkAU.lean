/- Several texts in one. -/
import Derived.Test.YtepfknfadpkigaaGreatPkAA
import Derived.Test.YtepfknfadpkigaaGreatPkAT
import Derived.Test.YtepfknfadpkigaaGreatPkAS
import Derived.Deep.RegionLaw
set_option linter.unusedVariables false
set_option linter.unusedSimpArgs false
section
namespace Go.Proofs.YtepfknfadpkigaaGreat
open Go.RowKit
open Go Go.Maps
set_option maxHeartbeats 2000000
set_option maxRecDepth 100000
def ptrIs (R:Nat):Value→Bool
 | .pointer (some ⟨b,o,s⟩)=>decide (b=R)&&decide (o=0)&&s.isNone
 | _=>false
theorem zPr {R:Nat}:∀{v:Value},ptrIs R v=true→v=.pointer (some ⟨R,0,none⟩)
 | .pointer (some ⟨b,o,s⟩),h=>by
  simp only [ptrIs,Bool.and_eq_true,decide_eq_true_eq,Option.isNone_iff_eq_none] at h
  obtain⟨⟨h1,h2⟩,h3⟩:=h
  rw [h1,h2,h3]
def mRec (R:Nat):List Value→Bool
 | [v]=>ptrIs R v
 | _=>false
def mElem {H:Type} (R:Nat):Value→Option (DataW H × List MemPlace)
 | .func (.func f) p c=>if mRec R p.toList=true∧c.size=0 then some (.lit (.int .i64 (f:Int)),[]) else none
 | .nilFunc=>some (.lit (.int .i64 (-1)),[])
 | _=>none
theorem zSg {R:Nat} {p:Array Value} (h:mRec R p.toList=true):p=#[.pointer (some ⟨R,0,none⟩)]:=by
 obtain⟨l⟩:=p
 have h:mRec R l=true:=h
 match l,h with
 | [v],h=>rw [zPr h]
theorem zSh {H:Type} (R f:Nat):mElem (H:=H) R (.func (.func f) #[.pointer (some ⟨R,0,none⟩)] #[])=some (.lit (.int .i64 (f:Int)),[]):=by simp [mElem,mRec,ptrIs]
theorem zPs {H:Type} {R:Nat} {v:Value} {f:Nat} {ps:List MemPlace} (h:mElem (H:=H) R v=some (.lit (.int .i64 (f:Int)),ps)):v=.func (.func f) #[.pointer (some ⟨R,0,none⟩)] #[]:=by
 unfold mElem at h
 split at h
 ·rename_i g p c
  split at h
  ·rename_i hr
   simp only [Option.some.injEq,Prod.mk.injEq,DataW.lit.injEq,Lit.int.injEq,true_and] at h
   have hf:g=f:=by obtain⟨h1,_⟩:=h;exact Int.ofNat.inj h1
   rw [hf,zSg hr.1,Array.eq_empty_of_size_eq_zero hr.2]
  ·cases h
 ·simp only [Option.some.injEq,Prod.mk.injEq,DataW.lit.injEq,Lit.int.injEq,true_and] at h
  obtain⟨h1,_⟩:=h
  exact absurd h1 (by omega)
 ·cases h
theorem zPt {H:Type} {R:Nat} {v:Value} {ps:List MemPlace} (h:mElem (H:=H) R v=some (.lit (.int .i64 (-1)),ps)):v=.nilFunc:=by
 unfold mElem at h
 split at h
 ·split at h
  ·simp only [Option.some.injEq,Prod.mk.injEq,DataW.lit.injEq,Lit.int.injEq,true_and] at h
   have:=h.1
   omega
  ·cases h
 ·rfl
 ·cases h
def wdD:List (List UInt8 × Nat)→DataW Nat
 | []=>.map []
 | p::r=>(wdD r).put (.string p.1) (.lit (.int .i64 p.2))
theorem zPu:∀l,IsMap (wdD l)
 | []=>⟨[],rfl⟩
 | p::r=>by
  obtain⟨es,e⟩:=zPu r
  show IsMap ((wdD r).put _ _)
  rw [e]
  exact⟨_,rfl⟩
def wdN (o:Option Nat):Int:=match o with | some k=>k | none=>-1
theorem zUa (x:List UInt8):∀l:List (List UInt8 × Nat),(wdD l).atKey (.string x) (.lit (.int .i64 (-1)))=.lit (.int .i64 (wdN (l.lookup x)))
 | []=>rfl
 | (y,k)::r=>by
  have h1:=zUa x r
  by_cases h:x=y
  ·subst h
   show ((wdD r).put (.string x) _).atKey _ _=_
   rw [atKey_put_same (zPu r) (show WideAt.IsKeyLit (.string x) from trivial)]
   simp [List.lookup,wdN]
  ·have hne:(Lit.string x)≠.string y:=fun e=>h (by injection e)
   have hb:(x == y)=false:=beq_eq_false_iff_ne.2 h
   show ((wdD r).put (.string y) _).atKey _ _=_
   rw [atKey_put_other hne,h1]
   simp [List.lookup,hb]
def WMap (w:World) (b R:Nat) (tb:List (List UInt8 × Nat)):Prop:=∃n,w.ownsMap Tryz.prog 9 (mElem R) b n (wdD tb)
theorem WMap.keep {w w':World} {b R:Nat} {tb:List (List UInt8 × Nat)} {N:List Nat} (h:WMap w b R tb) (hF:Fr N w w') (hb:b ∉ N):WMap w' b R tb:=by
 obtain⟨n,h⟩:=h
 have hl:=h.lt
 obtain⟨es,cl,h1,h2,h3,h4⟩:=h
 exact⟨n,es,cl,(hF.block b hl hb).trans h1,h2,h3,h4⟩
theorem WMap.lt {w:World} {b R:Nat} {tb:List (List UInt8 × Nat)} (h:WMap w b R tb):b < w.heap.size:=by
 obtain⟨n,h⟩:=h
 exact h.lt
def wdT:List (List UInt8 × Nat):=[([82,69,84,85,82,78],53),([87,73,84,72],52),([70,79,82],51),([69,88,73,84],50),([76,79,79,80],49),([82,69,80,69,65,84],48),([87,72,73,76,69],47),([67,65,83,69],46),([73,70],45)]
structure Sc where
 ts:List TK
 rv:Value
 R:Nat
 B:Nat
 mb:Nat
 W0:World
 hBR:B≤R
 hRm:R < mb
structure SX (c:Sc) (w:World) (i:Nat):Prop where
 rd:w.heap[c.R]?=some (.cells #[c.rv,.int .i64 i,.map (some c.mb)] 52 (0,0))
 row:RowAt w c.B c.rv c.ts
 mp:WMap w c.mb c.R wdT
 le:i≤16384
 tl:c.ts.length≤16384
 tx:∀x ∈ c.ts,x.1.x.length≤65536
 hist:Below c.B c.W0 w
theorem SX.lt {c:Sc} {w:World} {i:Nat} (h:SX c w i):c.R < w.heap.size:=zAd h.rd
theorem SX.c0 {c:Sc} {w:World} {i:Nat} (h:SX c w i):w.cell? ⟨c.R,0,none⟩=some c.rv:=by rw [Lib.cell_of_heap h.rd];rfl
theorem SX.c1 {c:Sc} {w:World} {i:Nat} (h:SX c w i):w.cell? ⟨c.R,1,none⟩=some (.int .i64 i):=by rw [Lib.cell_of_heap h.rd];rfl
theorem SX.c2 {c:Sc} {w:World} {i:Nat} (h:SX c w i):w.cell? ⟨c.R,2,none⟩=some (.map (some c.mb)):=by rw [Lib.cell_of_heap h.rd];rfl
theorem SX.f {c:Sc} {w:World} {i:Nat} (h:SX c w i) (k:Nat):w.frozen? ⟨c.R,k,none⟩=false:=Lib.frozen_of_heap h.rd k
theorem SX.via {c:Sc} {w w':World} {i j:Nat} {N:List Nat} (h:SX c w i) (F:Fr N w w') (hN:∀q ∈ N,q=c.R∨c.mb < q) (hrd:w'.heap[c.R]?=some (.cells #[c.rv,.int .i64 j,.map (some c.mb)] 52 (0,0))) (hj:j≤16384):SX c w' j:=by
 have h1:=c.hBR
 have h2:=c.hRm
 have h3:=h.lt
 have hB:∀q ∈ N,c.B≤q:=fun q hq=>by rcases hN q hq with rfl | h <;> omega
 exact⟨hrd,h.row.fc (Fc.of_fr F (B:=c.B) hB (by omega)),h.mp.keep F (fun hm=>by rcases hN _ hm with h | h <;> omega),hj,h.tl,h.tx,h.hist.trans (F.below c.B hB (by omega))⟩
theorem SX.stay {c:Sc} {w w':World} {i:Nat} {N:List Nat} (h:SX c w i) (F:Fr N w w') (hN:∀q ∈ N,c.mb < q):SX c w' i :=
 h.via F (fun q hq=>.inr (hN q hq)) ((F.block _ h.lt (fun hm=>by have:=hN _ hm;have:=c.hRm;omega)).trans h.rd) h.le
theorem SX.keep {c:Sc} {w w':World} {i:Nat} (h:SX c w i) (F:Fr [] w w'):SX c w' i:=h.stay F (by simp)
theorem SX.next {c:Sc} {w:World} {i:Nat} (h:SX c w i) (hi:i < c.ts.length):SX c (w.setCell ⟨c.R,1,none⟩ (.int .i64 ((i:Int)+1))) (i+1) :=
 h.via (Fr.set w c.R 1 _) (by simp) (by simp [World.setCell,Array.getElem?_modify,h.rd]) (by have:=h.tl;omega)
theorem SX.goto {c:Sc} {w:World} {i j:Nat} (h:SX c w i) (hj:j≤16384):SX c (w.setCell ⟨c.R,1,none⟩ (.int .i64 j)) j :=
 h.via (Fr.set w c.R 1 _) (by simp) (by simp [World.setCell,Array.getElem?_modify,h.rd]) hj
theorem SX.txt {c:Sc} {w:World} {i:Nat} (h:SX c w i) (j:Nat):(tk c.ts j).1.x.length≤65536:=by
 rcases Nat.lt_or_ge j c.ts.length with h1 | h1
 ·exact h.tx _ (List.mem_of_getElem? (zFw h1))
 ·rw [zCz h1];decide
theorem zEg (c:Sc) (w:World) (i:Nat) (h:SX c w i) :
  Calls Tryz.prog 27 #[.pointer (some ⟨c.R,0,none⟩)] w fun e w'=>e=.returned (tkV (tk c.ts i))∧Fr [] w w':=by
 have c0:=h.c0
 have c1:=h.c1
 obtain⟨q,cap,hrv,hrow⟩:=h.row
 rw [hrv] at c0
 have hle:=h.le
 have htl:=h.tl
 have hlt:=h.lt
 have hsc:=fun w a x y m=>zAg (P:=Tryz.prog) w a .f64 x y m
 have FA:=oH (Fr.alloc w (.cells #[.int .u8 0,.complex .f64 0 0,.complex .f64 0 0,.string ⟨#[]⟩,.int .i64 0] 71))
 have A0:=oH (Fv.new w (.int .u8 0) (.complex .f64 0 0) (.complex .f64 0 0) (.string ⟨#[]⟩) (.int .i64 0) 71 w.heap.size rfl)
 obtain⟨L,hL⟩:∃L,c.ts.length=L:=⟨_,rfl⟩
 rw [hL] at c0 htl
 by_cases hi:i < c.ts.length
 ·obtain⟨g,rfl,hg,hg2,k0,k1,k2,k3,k4⟩:=hrow i _ (zFw hi)
  rw [hL] at hi
  have HR:Hid (tkV (tk c.ts i)=.agg #[.int .u8 (tk c.ts i).1.k,posV (tk c.ts i).2.1.1 (tk c.ts i).2.1.2,posV (tk c.ts i).2.2.1 (tk c.ts i).2.2.2,.string ⟨(tk c.ts i).1.x.toArray⟩,.int .i64 (tk c.ts i).1.n]):=oH rfl
  obtain⟨x1,y1,e1⟩:=zAc (tk c.ts i).2.1.1 (tk c.ts i).2.1.2
  obtain⟨x2,y2,e2⟩:=zAc (tk c.ts i).2.2.1 (tk c.ts i).2.2.2
  rw [e1,e2] at HR
  rw [e1] at k1
  rw [e2] at k2
  have ht:¬((L:Int)≤(i:Int)):=by omega
  have hi0:(0:Int)≤(i:Int):=by omega
  have hi1:(i:Int) < (L:Int):=by omega
  generalize tkV (tk c.ts i)=tv at *
  generalize ((tk c.ts i).1.k:Int)=t0 at *
  generalize (⟨(tk c.ts i).1.x.toArray⟩:ByteArray)=t3 at *
  generalize (tk c.ts i).1.n=t4 at *
  clear hrow hrv hL e1 e2 h
  go_enter Tryz.func27,Tryz.ntmps27
  go_wp2_with fail
  go_quiet (fail)
  go_wp2_with fail
  obtain⟨wS,hwS⟩:∃wS,(w.alloc (.cells #[.int .u8 0,.complex .f64 0 0,.complex .f64 0 0,.string ⟨#[]⟩,.int .i64 0] 71)).drewN nq=wS:=⟨_,rfl⟩
  have FS:Fr [] w wS:=by rw [← hwS];exact FA.out.trans (Fr.drewN _ _) (by simp)
  have AS:Fv wS w.heap.size (.int .u8 0) (.complex .f64 0 0) (.complex .f64 0 0) (.string ⟨#[]⟩) (.int .i64 0):=by
   rw [← hwS];exact⟨A0.out.c0,A0.out.c1,A0.out.c2,A0.out.c3,A0.out.c4,A0.out.f0,A0.out.f1,A0.out.f2,A0.out.f3,A0.out.f4⟩
  rw [hwS]
  have HWS:=oH (oA FS AS)
  have c0:=FS.cellE c0
  have c1:=FS.cellE c1
  have k0:=FS.cellE k0
  have k1:=FS.cellE k1
  have k2:=FS.cellE k2
  have k3:=FS.cellE k3
  have k4:=FS.cellE k4
  clear hwS FS AS
  go_still_tail 10,(by kernel_rfl)
  change wpList _ _ _ _ _ wS.drew
  have AD:=HWS.out.2
  have a0:=AD.c0
  have a1:=AD.c1
  have a2:=AD.c2
  have a3:=AD.c3
  have a4:=AD.c4
  have b0:=AD.f0
  have b1:=AD.f1
  have b2:=AD.f2
  have b3:=AD.f3
  have b4:=AD.f4
  have HAD:=oH AD
  clear AD
  go_wp2_with fail
  have R5:=(((((HAD.out.set0 (.int .u8 t0)).set1 (.complex .f64 x1 y1)).set2 (.complex .f64 x2 y2)).set3 (.string t3)).set4 (.int .i64 t4))
  have r0:=R5.c0
  have r1:=R5.c1
  have r2:=R5.c2
  have r3:=R5.c3
  have r4:=R5.c4
  refine bodyPost_ret (v:=.agg #[.int .u8 t0,.complex .f64 x1 y1,.complex .f64 x2 y2,.string t3,.int .i64 t4]) (by simp [results,Tryz.results27,go_sem,r0,r1,r2,r3,r4]) rfl ?_
  exact⟨by rw [HR.out],(zDd HWS.out.1 (Nat.le_refl _) _ _ _ _ _).trans (Fr.drew _) (by simp)⟩
 ·rw [zCz (by omega)]
  rw [hL] at hi
  have ht:(L:Int)≤(i:Int):=by omega
  have HR:Hid (tkV zTK=.agg #[.int .u8 0,.complex .f64 0 0,.complex .f64 0 0,.string ⟨#[]⟩,.int .i64 0]):=oH rfl
  generalize tkV zTK=tv at *
  clear hrow hrv hL h
  go_enter Tryz.func27,Tryz.ntmps27
  go_wp2_with fail
  go_quiet (fail)
  obtain⟨wS,hwS⟩:∃wS,(w.alloc (.cells #[.int .u8 0,.complex .f64 0 0,.complex .f64 0 0,.string ⟨#[]⟩,.int .i64 0] 71)).drewN nq=wS:=⟨_,rfl⟩
  have FS:Fr [] w wS:=by rw [← hwS];exact FA.out.trans (Fr.drewN _ _) (by simp)
  have AD:Fv wS w.heap.size (.int .u8 0) (.complex .f64 0 0) (.complex .f64 0 0) (.string ⟨#[]⟩) (.int .i64 0):=by
   rw [← hwS];exact⟨A0.out.c0,A0.out.c1,A0.out.c2,A0.out.c3,A0.out.c4,A0.out.f0,A0.out.f1,A0.out.f2,A0.out.f3,A0.out.f4⟩
  rw [hwS]
  have HWS:=oH (oA FS AD)
  have a0:=AD.c0
  have a1:=AD.c1
  have a2:=AD.c2
  have a3:=AD.c3
  have a4:=AD.c4
  have b0:=AD.f0
  have b1:=AD.f1
  have b2:=AD.f2
  have b3:=AD.f3
  have b4:=AD.f4
  clear hwS FS AD
  go_wp2_with fail
  have R5:=(((((HWS.out.2.set0 (.int .u8 0)).set1 (.complex .f64 0 0)).set2 (.complex .f64 0 0)).set3 (.string ⟨#[]⟩)).set4 (.int .i64 0))
  have r0:=R5.c0
  have r1:=R5.c1
  have r2:=R5.c2
  have r3:=R5.c3
  have r4:=R5.c4
  refine bodyPost_ret (v:=.agg #[.int .u8 0,.complex .f64 0 0,.complex .f64 0 0,.string ⟨#[]⟩,.int .i64 0]) (by simp [results,Tryz.results27,go_sem,r0,r1,r2,r3,r4]) rfl ?_
  exact⟨by rw [HR.out],zDd HWS.out.1 (Nat.le_refl _) _ _ _ _ _⟩
theorem zEh (c:Sc) (w:World) (i:Nat) (h:SX c w i) (hi:i < c.ts.length) :
  Calls Tryz.prog 75 #[.pointer (some ⟨c.R,0,none⟩)] w fun e w'=>e=.returned (tkV (tk c.ts i))∧Fr [c.R] w w'∧SX c w' (i+1):=by
 have hsc:=fun w a x y m=>zAg (P:=Tryz.prog) w a .f64 x y m
 have F1:=Fr.alloc w (.cells #[.int .u8 0,.complex .f64 0 0,.complex .f64 0 0,.string ⟨#[]⟩,.int .i64 0] 71)
 have A1:=Fv.new w (.int .u8 0) (.complex .f64 0 0) (.complex .f64 0 0) (.string ⟨#[]⟩) (.int .i64 0) 71 w.heap.size rfl
 have HH:=zEg c _ i (h.keep F1)
 have hR:=h.lt
 have hle:=h.le
 have hw1:wrap64 ((i:Int)+1)=(i:Int)+1:=w64 _ (by omega) (by omega)
 have HR:Hid (tkV (tk c.ts i)=.agg #[.int .u8 (tk c.ts i).1.k,posV (tk c.ts i).2.1.1 (tk c.ts i).2.1.2,posV (tk c.ts i).2.2.1 (tk c.ts i).2.2.2,.string ⟨(tk c.ts i).1.x.toArray⟩,.int .i64 (tk c.ts i).1.n]):=oH rfl
 obtain⟨x1,y1,e1⟩:=zAc (tk c.ts i).2.1.1 (tk c.ts i).2.1.2
 obtain⟨x2,y2,e2⟩:=zAc (tk c.ts i).2.2.1 (tk c.ts i).2.2.2
 rw [e1,e2] at HR
 rw [HR.out] at HH ⊢
 clear e1 e2 HR
 generalize ((tk c.ts i).1.k:Int)=t0 at *
 generalize (⟨(tk c.ts i).1.x.toArray⟩:ByteArray)=t3 at *
 generalize (tk c.ts i).1.n=t4 at *
 have H1:=oH (oA h (oA F1 A1))
 clear h F1 A1
 go_enter Tryz.func75,Tryz.ntmps75
 go_wp2_with fail
 refine HH.mono ?_
 rintro e w2 ⟨rfl,F2⟩
 have H2:=oH F2
 have hR2:c.R < w2.heap.size:=by have:=F2.size;simp at this;omega
 clear HH F2
 go_upto_region 2 with fail
 obtain⟨w3,hw3⟩:∃w3,w2.alloc (.cells #[.int .u8 t0,.complex .f64 x1 y1,.complex .f64 x2 y2,.string t3,.int .i64 t4] 71)=w3:=⟨_,rfl⟩
 have F3:Fr [] w2 w3:=by rw [← hw3];exact Fr.alloc _ _
 have T3:Fv w3 w2.heap.size (.int .u8 t0) (.complex .f64 x1 y1) (.complex .f64 x2 y2) (.string t3) (.int .i64 t4):=by rw [← hw3];exact Fv.new _ _ _ _ _ _ _ _ rfl
 rw [hw3]
 obtain⟨h,F1,A1⟩:=H1.out
 have X3:=((h.keep F1).keep H2.out).keep F3
 have A3:=(A1.fr H2.out (by simp)).fr F3 (by simp)
 have c1:=X3.c1
 have f1:=X3.f 1
 have H3:=oH (oA X3 (oA A3 (oA T3 F3)))
 clear h F1 A1 F3 T3 X3 A3 hw3
 go_upto_region 3 with fail
 obtain⟨w4,hw4⟩:∃w4,w3.setCell ⟨c.R,1,none⟩ (.int .i64 ((i:Int)+1))=w4:=⟨_,rfl⟩
 have F4:=Fr.set w3 c.R 1 (.int .i64 ((i:Int)+1))
 have X4:=H3.out.1.next hi
 rw [hw4] at F4 X4 ⊢
 have A4:=H3.out.2.1.fr F4 (by simp;omega)
 have T4:=H3.out.2.2.1.fr F4 (by simp;omega)
 have a0:=A4.c0
 have a1:=A4.c1
 have a2:=A4.c2
 have a3:=A4.c3
 have a4:=A4.c4
 have b0:=A4.f0
 have b1:=A4.f1
 have b2:=A4.f2
 have b3:=A4.f3
 have b4:=A4.f4
 have d0:=T4.c0
 have d1:=T4.c1
 have d2:=T4.c2
 have d3:=T4.c3
 have d4:=T4.c4
 have H4:=oH (oA F4 (oA X4 A4))
 clear F4 X4 A4 T4 hw4 c1 f1
 go_wp2_with fail
 have R5:=(((((H4.out.2.2.set0 (.int .u8 t0)).set1 (.complex .f64 x1 y1)).set2 (.complex .f64 x2 y2)).set3 (.string t3)).set4 (.int .i64 t4))
 have r0:=R5.c0
 have r1:=R5.c1
 have r2:=R5.c2
 have r3:=R5.c3
 have r4:=R5.c4
 refine bodyPost_ret (v:=.agg #[.int .u8 t0,.complex .f64 x1 y1,.complex .f64 x2 y2,.string t3,.int .i64 t4]) (by simp [results,Tryz.results75,go_sem,r0,r1,r2,r3,r4]) rfl ?_
 obtain⟨h,F1,A1⟩:=H1.out
 have F14:Fr [c.R] w w4:=((((F1.trans H2.out (by simp)).trans H3.out.2.2.2 (by simp)).mono (by simp)).trans H4.out.1 (fun j hj=>.inl hj))
 have F45:Fr [w.heap.size] w4 _:=Fr.trans (Fr.trans (Fr.trans (Fr.trans (Fr.set w4 w.heap.size 0 (.int .u8 t0)) (Fr.set _ w.heap.size 1 (.complex .f64 x1 y1)) (fun j hj=>.inl hj)) (Fr.set _ w.heap.size 2 (.complex .f64 x2 y2)) (fun j hj=>.inl hj)) (Fr.set _ w.heap.size 3 (.string t3)) (fun j hj=>.inl hj)) (Fr.set _ w.heap.size 4 (.int .i64 t4)) (fun j hj=>.inl hj)
 exact⟨rfl,F14.trans F45 (fun j hj=>.inr (by simp at hj;omega)),H4.out.2.1.stay F45 (by intro q hq;simp at hq;have h1:=h.mp.lt;omega)⟩
theorem sStandsS (c:Sc) (w:World) (i:Nat) (s:List UInt8) (h:SX c w i) :
  Calls Tryz.prog 58 #[.pointer (some ⟨c.R,0,none⟩),.int .u8 5,.string ⟨s.toArray⟩] w fun e w'=>e=.returned (.bool (isS (tk c.ts i) s))∧Fr [] w w':=by
 have hsc:=fun w a x y m=>zAg (P:=Tryz.prog) w a .f64 x y m
 have HH:=zEg c w i h
 have hq:=zCg (tk c.ts i).1.x s
 have HI:Hid (isS (tk c.ts i) s=((tk c.ts i).1.k == 5&&(tk c.ts i).1.x == s)):=oH rfl
 obtain⟨x1,y1,e1⟩:=zAc (tk c.ts i).2.1.1 (tk c.ts i).2.1.2
 obtain⟨x2,y2,e2⟩:=zAc (tk c.ts i).2.2.1 (tk c.ts i).2.2.2
 unfold tkV at HH
 rw [e1,e2] at HH
 have hk:(((tk c.ts i).1.k:Int) == 5)=((tk c.ts i).1.k == 5):=by
  by_cases hh:(tk c.ts i).1.k=5
  ·rw [hh];rfl
  ·rw [beq_eq_false_iff_ne.2 hh,beq_eq_false_iff_ne.2 (by omega)]
 rw [HI.out]
 obtain⟨kb,hkb⟩:∃kb,((tk c.ts i).1.k == 5)=kb:=⟨_,rfl⟩
 obtain⟨xb,hxb⟩:∃xb,((tk c.ts i).1.x == s)=xb:=⟨_,rfl⟩
 rw [hkb] at hk ⊢
 rw [hxb] at hq ⊢
 clear e1 e2 HI h hkb hxb
 generalize ((tk c.ts i).1.k:Int)=t0 at *
 generalize (⟨(tk c.ts i).1.x.toArray⟩:ByteArray)=t3 at *
 generalize (tk c.ts i).1.n=t4 at *
 generalize (⟨s.toArray⟩:ByteArray)=sb at *
 cases kb <;> cases xb
 all_goals
  go_enter Tryz.func58,Tryz.ntmps58
  go_wp2_with fail
  refine HH.mono ?_
  rintro e w2 ⟨rfl,F2⟩
  have H2:=oH F2
  clear HH F2
  go_wp2_with fail
  go_ret
  exact⟨rfl,H2.out.trans (Fr.alloc _ _) (by simp)⟩
theorem sStandsW (c:Sc) (w:World) (i:Nat) (s:List UInt8) (h:SX c w i) :
  Calls Tryz.prog 58 #[.pointer (some ⟨c.R,0,none⟩),.int .u8 6,.string ⟨s.toArray⟩] w fun e w'=>e=.returned (.bool (isW (tk c.ts i) s))∧Fr [] w w':=by
 have hsc:=fun w a x y m=>zAg (P:=Tryz.prog) w a .f64 x y m
 have HH:=zEg c w i h
 have hq:=zCg (tk c.ts i).1.x s
 have HI:Hid (isW (tk c.ts i) s=((tk c.ts i).1.k == 6&&(tk c.ts i).1.x == s)):=oH rfl
 obtain⟨x1,y1,e1⟩:=zAc (tk c.ts i).2.1.1 (tk c.ts i).2.1.2
 obtain⟨x2,y2,e2⟩:=zAc (tk c.ts i).2.2.1 (tk c.ts i).2.2.2
 unfold tkV at HH
 rw [e1,e2] at HH
 have hk:(((tk c.ts i).1.k:Int) == 6)=((tk c.ts i).1.k == 6):=by
  by_cases hh:(tk c.ts i).1.k=6
  ·rw [hh];rfl
  ·rw [beq_eq_false_iff_ne.2 hh,beq_eq_false_iff_ne.2 (by omega)]
 rw [HI.out]
 obtain⟨kb,hkb⟩:∃kb,((tk c.ts i).1.k == 6)=kb:=⟨_,rfl⟩
 obtain⟨xb,hxb⟩:∃xb,((tk c.ts i).1.x == s)=xb:=⟨_,rfl⟩
 rw [hkb] at hk ⊢
 rw [hxb] at hq ⊢
 clear e1 e2 HI h hkb hxb
 generalize ((tk c.ts i).1.k:Int)=t0 at *
 generalize (⟨(tk c.ts i).1.x.toArray⟩:ByteArray)=t3 at *
 generalize (tk c.ts i).1.n=t4 at *
 generalize (⟨s.toArray⟩:ByteArray)=sb at *
 cases kb <;> cases xb
 all_goals
  go_enter Tryz.func58,Tryz.ntmps58
  go_wp2_with fail
  refine HH.mono ?_
  rintro e w2 ⟨rfl,F2⟩
  have H2:=oH F2
  clear HH F2
  go_wp2_with fail
  go_ret
  exact⟨rfl,H2.out.trans (Fr.alloc _ _) (by simp)⟩
theorem zBr (c:Sc) (w:World) (i:Nat) (s:List UInt8) (h:SX c w i) (hs:isS (tk c.ts i) s=true) :
  Calls Tryz.prog 56 #[.pointer (some ⟨c.R,0,none⟩),.int .u8 5,.string ⟨s.toArray⟩] w fun e w'=>e=.returned (.bool true)∧Fr [c.R] w w'∧SX c w' (i+1):=by
 have HS:=sStandsS c w i s h
 rw [hs] at HS
 have HT:=oH (oA h (zAm hs))
 clear h hs
 generalize (⟨s.toArray⟩:ByteArray)=sb at *
 go_enter Tryz.func56,Tryz.ntmps56
 go_wp2_with fail
 refine HS.mono ?_
 rintro e w2 ⟨rfl,F2⟩
 have HK:=zEh c w2 i (HT.out.1.keep F2) HT.out.2
 have H2:=oH F2
 clear HS F2
 go_wp2_with fail
 refine HK.mono ?_
 rintro e w3 ⟨rfl,F3,X3⟩
 have H3:=oH (oA F3 X3)
 clear HK F3 X3
 go_wp2_with fail
 go_ret
 exact⟨rfl,(H2.out.mono (by simp)).trans H3.out.1 (fun j hj=>.inl hj),H3.out.2⟩
theorem zBs (c:Sc) (w:World) (i:Nat) (s:List UInt8) (h:SX c w i) (hs:isS (tk c.ts i) s=false) :
  Calls Tryz.prog 56 #[.pointer (some ⟨c.R,0,none⟩),.int .u8 5,.string ⟨s.toArray⟩] w fun e w'=>e=.returned (.bool false)∧Fr [] w w':=by
 have HS:=sStandsS c w i s h
 rw [hs] at HS
 clear h hs
 generalize (⟨s.toArray⟩:ByteArray)=sb at *
 go_enter Tryz.func56,Tryz.ntmps56
 go_wp2_with fail
 refine HS.mono ?_
 rintro e w2 ⟨rfl,F2⟩
 have H2:=oH F2
 clear HS F2
 go_wp2_with fail
 go_ret
 exact⟨rfl,H2.out⟩
theorem zBw (c:Sc) (w:World) (i:Nat) (s:List UInt8) (h:SX c w i) (hs:isW (tk c.ts i) s=true) :
  Calls Tryz.prog 56 #[.pointer (some ⟨c.R,0,none⟩),.int .u8 6,.string ⟨s.toArray⟩] w fun e w'=>e=.returned (.bool true)∧Fr [c.R] w w'∧SX c w' (i+1):=by
 have HS:=sStandsW c w i s h
 rw [hs] at HS
 have HT:=oH (oA h (zCr hs))
 clear h hs
 generalize (⟨s.toArray⟩:ByteArray)=sb at *
 go_enter Tryz.func56,Tryz.ntmps56
 go_wp2_with fail
 refine HS.mono ?_
 rintro e w2 ⟨rfl,F2⟩
 have HK:=zEh c w2 i (HT.out.1.keep F2) HT.out.2
 have H2:=oH F2
 clear HS F2
 go_wp2_with fail
 refine HK.mono ?_
 rintro e w3 ⟨rfl,F3,X3⟩
 have H3:=oH (oA F3 X3)
 clear HK F3 X3
 go_wp2_with fail
 go_ret
 exact⟨rfl,(H2.out.mono (by simp)).trans H3.out.1 (fun j hj=>.inl hj),H3.out.2⟩
theorem zBt (c:Sc) (w:World) (i:Nat) (s:List UInt8) (h:SX c w i) (hs:isW (tk c.ts i) s=false) :
  Calls Tryz.prog 56 #[.pointer (some ⟨c.R,0,none⟩),.int .u8 6,.string ⟨s.toArray⟩] w fun e w'=>e=.returned (.bool false)∧Fr [] w w':=by
 have HS:=sStandsW c w i s h
 rw [hs] at HS
 clear h hs
 generalize (⟨s.toArray⟩:ByteArray)=sb at *
 go_enter Tryz.func56,Tryz.ntmps56
 go_wp2_with fail
 refine HS.mono ?_
 rintro e w2 ⟨rfl,F2⟩
 have H2:=oH F2
 clear HS F2
 go_wp2_with fail
 go_ret
 exact⟨rfl,H2.out⟩
def TeS (c:Sc) (C:Nat) (w:World) (res:Re) (e:Ending) (w':World):Prop :=
 ∃o:Option Nat,e=.returned (encP o)∧Fr [c.R] w w' ∧
  ((∃d j u,res=.ok d j∧o=some u.p∧SX c w' j∧IsT w' (C≤·) u∧u.dt=d)∨∃j,res=.bad j∧o=none∧SX c w' j)
theorem zWc (ts:List TK) (i:Nat):(E0 ts i).pl≤max i ts.length∧(D0 ts i).pl≤max i ts.length∧(L0 ts i).pl≤max i ts.length:=by
 rcases Nat.lt_or_ge ts.length i with h | h
 ·have h':=Nat.le_of_lt h
  have h1:E0 ts i=.bad i:=zPl h'
  have h2:D0 ts i=.bad i:=(zVx h').1
  have h3:L0 ts i=.bad i:=zKl h'
  rw [h1,h2,h3]
  simp only [Re.pl]
  omega
 ·have hF:Fin' (E0 ts) 0:=zCc (ts.length+1) (by omega)
  have b1:=(zCh (ts:=ts) (ts.length+2) i h).pl (hF i (Nat.zero_le _))
  have b2:=(zTr (ts:=ts) (zCh (ts:=ts) (ts.length+2)) i h).pl (zKc (zAr _) hF i (Nat.zero_le _))
  have b3:=(zOr (ts:=ts) (zCh (ts:=ts) (ts.length+2)) i h).pl (zTv ts i)
  refine⟨?_,?_,?_⟩
  ·exact Nat.le_trans b1.2 (by omega)
  ·exact Nat.le_trans b2.2 (by omega)
  ·exact Nat.le_trans b3.2 (by omega)
theorem sTellE (c:Sc) (w:World) (i:Nat) (h:SX c w i) :
  Calls Tryz.prog 87 #[.pointer (some ⟨c.R,0,none⟩),.func (.func 77) #[] #[]] w (TeS c w.heap.size w (E0 c.ts i)):=by
 have c0:=h.c0
 have c1:=h.c1
 have f1:=h.f 1
 have HR:∀w1:World,Fr [] w w1→Calls Tryz.prog 77 #[c.rv,.int .i64 i] w1 (fun e wz=>∃(a:Option Addr) (j:Nat) (z:Int),e=.returned (.tuple #[.pointer a,.int .i64 j,.int .i64 z])∧Fr [] w wz∧j≤16384∧((∃d u,E0 c.ts i=.ok d j∧a=some ⟨u.p,0,none⟩∧IsT wz (w.heap.size≤·) u∧u.dt=d)∨(E0 c.ts i=.bad j∧a=none))):=fun w1 F1=>by
  have hB:=c.hBR
  have hlt:=h.lt
  have hs:=F1.size
  have hrow:RowAt w1 w1.heap.size c.rv c.ts:=by
   obtain⟨q,cap,e1,e2⟩:=h.row.fc (Fc.of_fr F1 (B:=c.B) (by simp) (by omega))
   exact⟨q,cap,e1,fun i x hx=>by obtain⟨g,a1,a2,a3⟩:=e2 i x hx;exact⟨g,a1,by omega,a3⟩⟩
  refine(zSe c.ts c.rv i w1 hrow h.le h.tl h.tx).mono ?_
  have hpl:=(zWc c.ts i).1
  have hle:=h.le
  have htl:=h.tl
  rintro e wz ⟨hb,⟨d,j,u,hr,rfl,hT,hd⟩ | ⟨j,hr,rfl⟩⟩
  ·have hr:E0 c.ts i=.ok d j:=hr
   rw [hr] at hpl
   simp only [Re.pl] at hpl
   exact⟨_,j,0,rfl,F1.on0 (Fr.of_below hb),by omega,.inl ⟨d,u,hr,rfl,zAt hT hs,hd⟩⟩
  ·have hr:E0 c.ts i=.bad j:=hr
   rw [hr] at hpl
   simp only [Re.pl] at hpl
   exact⟨none,j,60,rfl,F1.on0 (Fr.of_below hb),by omega,.inr ⟨hr,rfl⟩⟩
 have HSS:∀w':World,Fr [] w w'→(w'.cell? ⟨c.R,0,none⟩=some c.rv∧w'.cell? ⟨c.R,1,none⟩=some (.int .i64 i)):=fun w' F=>⟨(h.keep F).c0,(h.keep F).c1⟩
 have F0:Fr [] w w.drew:=Fr.drew w
 have HT:=oH h
 obtain⟨q,cap,hq,_⟩:=h.row
 rw [hq] at HR HSS c0
 clear h
 have hen:Enters 77:=⟨_,_,Tryz.func77,by kernel_rfl,rfl⟩
 have hRn:=zAe hen
 clear hen
 go_enter Tryz.func87,Tryz.ntmps87
 go_wp2_with fail
 go_region_law (first
   | (go_simp;refine(HR _ F0).mono ?_;rintro e w9 ⟨a,j,z,rfl,F9,hj,hres⟩;obtain⟨s1,s2⟩:=HSS w9 F9)
   | (go_simp;go_at_call 77;refine(HR _ F0).mono ?_;rintro e w9 ⟨a,j,z,rfl,F9,hj,hres⟩;obtain⟨s1,s2⟩:=HSS w9 F9))
 all_goals
  have X9:=HT.out.keep F9
  have f9:=X9.f 1
  have H9:=oH (oA F9 (oA hj (oA hres X9)))
  clear F9 hj hres X9 HR HSS F0 c0 c1 f1
  try go_simp
  go_wp2_with fail
  go_ret
  obtain⟨F9,hj,hres,X9⟩:=H9.out
  have FS:=Fr.set w9 c.R 1 (.int .i64 j)
  rcases hres with⟨d,u,hr,rfl,hT,hd⟩ | ⟨hr,rfl⟩
  ·exact⟨some u.p,rfl,F9.up0.on FS,.inl ⟨d,j,u,hr,rfl,X9.goto hj,zAk hT FS (by have:=HT.out.lt;simp;omega),hd⟩⟩
  ·exact⟨none,rfl,F9.up0.on FS,.inr ⟨j,hr,rfl,X9.goto hj⟩⟩
theorem sTellD (c:Sc) (w:World) (i:Nat) (h:SX c w i) :
  Calls Tryz.prog 87 #[.pointer (some ⟨c.R,0,none⟩),.func (.func 91) #[] #[]] w (TeS c w.heap.size w (D0 c.ts i)):=by
 have c0:=h.c0
 have c1:=h.c1
 have f1:=h.f 1
 have HR:∀w1:World,Fr [] w w1→Calls Tryz.prog 91 #[c.rv,.int .i64 i] w1 (fun e wz=>∃(a:Option Addr) (j:Nat) (z:Int),e=.returned (.tuple #[.pointer a,.int .i64 j,.int .i64 z])∧Fr [] w wz∧j≤16384∧((∃d u,D0 c.ts i=.ok d j∧a=some ⟨u.p,0,none⟩∧IsT wz (w.heap.size≤·) u∧u.dt=d)∨(D0 c.ts i=.bad j∧a=none))):=fun w1 F1=>by
  have hB:=c.hBR
  have hlt:=h.lt
  have hs:=F1.size
  have hrow:RowAt w1 w1.heap.size c.rv c.ts:=by
   obtain⟨q,cap,e1,e2⟩:=h.row.fc (Fc.of_fr F1 (B:=c.B) (by simp) (by omega))
   exact⟨q,cap,e1,fun i x hx=>by obtain⟨g,a1,a2,a3⟩:=e2 i x hx;exact⟨g,a1,by omega,a3⟩⟩
  refine(zGq c.ts c.rv i w1 hrow h.le h.tl h.tx).mono ?_
  have hpl:=(zWc c.ts i).2.1
  have hle:=h.le
  have htl:=h.tl
  rintro e wz ⟨hb,⟨d,j,u,hr,rfl,hT,hd⟩ | ⟨j,hr,rfl⟩⟩
  ·have hr:D0 c.ts i=.ok d j:=hr
   rw [hr] at hpl
   simp only [Re.pl] at hpl
   exact⟨_,j,0,rfl,F1.on0 (Fr.of_below hb),by omega,.inl ⟨d,u,hr,rfl,zAt hT hs,hd⟩⟩
  ·have hr:D0 c.ts i=.bad j:=hr
   rw [hr] at hpl
   simp only [Re.pl] at hpl
   exact⟨none,j,60,rfl,F1.on0 (Fr.of_below hb),by omega,.inr ⟨hr,rfl⟩⟩
 have HSS:∀w':World,Fr [] w w'→(w'.cell? ⟨c.R,0,none⟩=some c.rv∧w'.cell? ⟨c.R,1,none⟩=some (.int .i64 i)):=fun w' F=>⟨(h.keep F).c0,(h.keep F).c1⟩
 have F0:Fr [] w w.drew:=Fr.drew w
 have HT:=oH h
 obtain⟨q,cap,hq,_⟩:=h.row
 rw [hq] at HR HSS c0
 clear h
 have hen:Enters 91:=⟨_,_,Tryz.func91,by kernel_rfl,rfl⟩
 have hRn:=zAe hen
 clear hen
 go_enter Tryz.func87,Tryz.ntmps87
 go_wp2_with fail
 go_region_law (first
   | (go_simp;refine(HR _ F0).mono ?_;rintro e w9 ⟨a,j,z,rfl,F9,hj,hres⟩;obtain⟨s1,s2⟩:=HSS w9 F9)
   | (go_simp;go_at_call 91;refine(HR _ F0).mono ?_;rintro e w9 ⟨a,j,z,rfl,F9,hj,hres⟩;obtain⟨s1,s2⟩:=HSS w9 F9))
 all_goals
  have X9:=HT.out.keep F9
  have f9:=X9.f 1
  have H9:=oH (oA F9 (oA hj (oA hres X9)))
  clear F9 hj hres X9 HR HSS F0 c0 c1 f1
  try go_simp
  go_wp2_with fail
  go_ret
  obtain⟨F9,hj,hres,X9⟩:=H9.out
  have FS:=Fr.set w9 c.R 1 (.int .i64 j)
  rcases hres with⟨d,u,hr,rfl,hT,hd⟩ | ⟨hr,rfl⟩
  ·exact⟨some u.p,rfl,F9.up0.on FS,.inl ⟨d,j,u,hr,rfl,X9.goto hj,zAk hT FS (by have:=HT.out.lt;simp;omega),hd⟩⟩
  ·exact⟨none,rfl,F9.up0.on FS,.inr ⟨j,hr,rfl,X9.goto hj⟩⟩
theorem sTellL (c:Sc) (w:World) (i:Nat) (h:SX c w i) :
  Calls Tryz.prog 87 #[.pointer (some ⟨c.R,0,none⟩),.func (.func 112) #[] #[]] w (TeS c w.heap.size w (L0 c.ts i)):=by
 have c0:=h.c0
 have c1:=h.c1
 have f1:=h.f 1
 have HR:∀w1:World,Fr [] w w1→Calls Tryz.prog 112 #[c.rv,.int .i64 i] w1 (fun e wz=>∃(a:Option Addr) (j:Nat) (z:Int),e=.returned (.tuple #[.pointer a,.int .i64 j,.int .i64 z])∧Fr [] w wz∧j≤16384∧((∃d u,L0 c.ts i=.ok d j∧a=some ⟨u.p,0,none⟩∧IsT wz (w.heap.size≤·) u∧u.dt=d)∨(L0 c.ts i=.bad j∧a=none))):=fun w1 F1=>by
  have hB:=c.hBR
  have hlt:=h.lt
  have hs:=F1.size
  have hrow:RowAt w1 w1.heap.size c.rv c.ts:=by
   obtain⟨q,cap,e1,e2⟩:=h.row.fc (Fc.of_fr F1 (B:=c.B) (by simp) (by omega))
   exact⟨q,cap,e1,fun i x hx=>by obtain⟨g,a1,a2,a3⟩:=e2 i x hx;exact⟨g,a1,by omega,a3⟩⟩
  refine(zNc c.ts c.rv i w1 hrow h.le h.tl h.tx).mono ?_
  have hpl:=(zWc c.ts i).2.2
  have hle:=h.le
  have htl:=h.tl
  rintro e wz ⟨hb,⟨d,j,u,hr,rfl,hT,hd⟩ | ⟨j,hr,rfl⟩⟩
  ·have hr:L0 c.ts i=.ok d j:=hr
   rw [hr] at hpl
   simp only [Re.pl] at hpl
   exact⟨_,j,0,rfl,F1.on0 (Fr.of_below hb),by omega,.inl ⟨d,u,hr,rfl,zAt hT hs,hd⟩⟩
  ·have hr:L0 c.ts i=.bad j:=hr
   rw [hr] at hpl
   simp only [Re.pl] at hpl
   exact⟨none,j,60,rfl,F1.on0 (Fr.of_below hb),by omega,.inr ⟨hr,rfl⟩⟩
 have HSS:∀w':World,Fr [] w w'→(w'.cell? ⟨c.R,0,none⟩=some c.rv∧w'.cell? ⟨c.R,1,none⟩=some (.int .i64 i)):=fun w' F=>⟨(h.keep F).c0,(h.keep F).c1⟩
 have F0:Fr [] w w.drew:=Fr.drew w
 have HT:=oH h
 obtain⟨q,cap,hq,_⟩:=h.row
 rw [hq] at HR HSS c0
 clear h
 have hen:Enters 112:=⟨_,_,Tryz.func112,by kernel_rfl,rfl⟩
 have hRn:=zAe hen
 clear hen
 go_enter Tryz.func87,Tryz.ntmps87
 go_wp2_with fail
 go_region_law (first
   | (go_simp;refine(HR _ F0).mono ?_;rintro e w9 ⟨a,j,z,rfl,F9,hj,hres⟩;obtain⟨s1,s2⟩:=HSS w9 F9)
   | (go_simp;go_at_call 112;refine(HR _ F0).mono ?_;rintro e w9 ⟨a,j,z,rfl,F9,hj,hres⟩;obtain⟨s1,s2⟩:=HSS w9 F9))
 all_goals
  have X9:=HT.out.keep F9
  have f9:=X9.f 1
  have H9:=oH (oA F9 (oA hj (oA hres X9)))
  clear F9 hj hres X9 HR HSS F0 c0 c1 f1
  try go_simp
  go_wp2_with fail
  go_ret
  obtain⟨F9,hj,hres,X9⟩:=H9.out
  have FS:=Fr.set w9 c.R 1 (.int .i64 j)
  rcases hres with⟨d,u,hr,rfl,hT,hd⟩ | ⟨hr,rfl⟩
  ·exact⟨some u.p,rfl,F9.up0.on FS,.inl ⟨d,j,u,hr,rfl,X9.goto hj,zAk hT FS (by have:=HT.out.lt;simp;omega),hd⟩⟩
  ·exact⟨none,rfl,F9.up0.on FS,.inr ⟨j,hr,rfl,X9.goto hj⟩⟩
end Go.Proofs.YtepfknfadpkigaaGreat
namespace Go.Proofs.YtepfknfadpkigaaGreat
open Go.RowKit
set_option maxHeartbeats 2000000
set_option maxRecDepth 100000
def GQ (Post:World→Prop) (e:Ending) (w':World):Prop:=∃s,e=.returned s∧Runs Post s w'
theorem rstep {Post:World→Prop} {f:FuncId} {first caps:Array Value} {w:World} (hE:Enters f) (h:Calls Tryz.prog f (first++caps) w (GQ Post)):Runs Post (.func (.func f) first caps) w:=fun K h1 h2 =>
 h2 _ _ _ _ hE (h.mono fun e w' ⟨s,he,hr⟩=>⟨s,he,hr K h1 h2⟩)
theorem zCd {Post:World→Prop} {w:World} (h:Post w):GQ Post (.returned .nilFunc) w:=⟨_,rfl,Runs.nil h⟩
def GoQ (v:FV) (x:Value) (w:World) (Post:World→Prop):Prop:=Enters v.f∧Calls Tryz.prog v.f (v.first.push x++v.caps) w (GQ Post)
structure ThS (c:Sc) (b:Nat) (w:World) (res:Re) (done:FV) (Post:World→Prop):Prop where
 ok:∀d j,res=.ok d j→∀u w',Fr [c.R] w w'→SX c w' j→IsT w' (b≤·) u→u.dt=d→GoQ done (ptrV u.p) w' Post
 bad:∀j,res=.bad j→∀w',Fr [c.R] w w'→SX c w' j→Post w'
 no:res≠.out
theorem ThS.on {c:Sc} {b:Nat} {w w1:World} {res:Re} {done:FV} {Post:World→Prop} (h:ThS c b w res done Post) (F:Fr [c.R] w w1):ThS c b w1 res done Post :=
 ⟨fun d j e u w' F'=>h.ok d j e u w' (F.on F'),fun j e w' F'=>h.bad j e w' (F.on F'),h.no⟩
structure LsS (w:World) (b:Nat) (v:Value) (us:List Tr):Prop where
 row:w.ownsRow 0 26 1 v us.length (us.map fun t=>ptrV t.p)
 t:∀t ∈ us,IsT w (b≤·) t
 le:us.length≤16384
 nil:us=[]→v=.slice none 0 0
 far:∀q ∈ obL v,b≤q
structure ThSL (c:Sc) (b:Nat) (w:World) (res:ReL) (done:FV) (Post:World→Prop):Prop where
 ok:∀ds j,res=.ok ds j→∀us v w',Fr [c.R] w w'→SX c w' j→LsS w' b v us→(∀t ∈ us,IsT w' (fun q=>b≤q∧q ∉ obL v) t)→us.map Tr.dt=ds→GoQ done v w' Post
 bad:∀j,res=.bad j→∀w',Fr [c.R] w w'→SX c w' j→Post w'
 no:res≠.out
def ItmS (c:Sc) (f:FuncId) (I:Nat→Option Re):Prop:=Enters f∧∀w i,SX c w i→Calls Tryz.prog f #[.pointer (some ⟨c.R,0,none⟩)] w fun e w'=>Fr [] w w'∧match I i with
 | none=>e=.returned .nilFunc
 | some r=>∃L:FV,e=.returned L.val∧∀w2 done Post b,SX c w2 i→c.mb < b→b≤w2.heap.size→ThS c b w2 r done Post→GoQ L done.val w2 Post
theorem qAg:Enters 54:=⟨_,_,Tryz.func54,by kernel_rfl,rfl⟩
theorem qAh:Enters 55:=⟨_,_,Tryz.func55,by kernel_rfl,rfl⟩
theorem qAi:Enters 57:=⟨_,_,Tryz.func57,by kernel_rfl,rfl⟩
structure PV (c:Sc) (w:World) (br bs bi bd bl be bm:Nat) (sep:List UInt8) (item done:FV):Prop where
 r:Var w br 44 (pt c.R)
 s:Var w bs 9 (.string ⟨sep.toArray⟩)
 i:Var w bi 79 item.val
 d:Var w bd 81 done.val
 e:Var w be 46 (.func (.func 54) #[] #[pt bd,pt bl])
 m:Var w bm 47 (.func (.func 55) #[] #[pt br,pt bs,pt bi,pt be,pt bl,pt bm])
theorem PV.keep {c:Sc} {w w':World} {br bs bi bd bl be bm:Nat} {sep:List UInt8} {item done:FV} {N:List Nat} (h:PV c w br bs bi bd bl be bm sep item done) (F:Fr N w w') (hN:∀q ∈ N,q≠br∧q≠bs∧q≠bi∧q≠bd∧q≠be∧q≠bm):PV c w' br bs bi bd bl be bm sep item done :=
 ⟨h.r.keep F (fun hm=>(hN _ hm).1 rfl),h.s.keep F (fun hm=>(hN _ hm).2.1 rfl),h.i.keep F (fun hm=>(hN _ hm).2.2.1 rfl),h.d.keep F (fun hm=>(hN _ hm).2.2.2.1 rfl),h.e.keep F (fun hm=>(hN _ hm).2.2.2.2.1 rfl),h.m.keep F (fun hm=>(hN _ hm).2.2.2.2.2 rfl)⟩
structure PI (c:Sc) (w0 w:World) (b lo br bs bi bd bl be bm i:Nat) (sep:List UInt8) (item done:FV) (v:Value) (acc:List Tr):Prop where
 x:SX c w i
 f:Fr [c.R] w0 w
 pv:PV c w br bs bi bd bl be bm sep item done
 l:Var w bl 38 v
 row:w.ownsRow 0 26 1 v acc.length (acc.map fun t=>ptrV t.p)
 own:∀g ∈ obL v,lo≤g
 t:∀t ∈ acc,IsT w (fun q=>lo≤q∧q ∉ obL v) t
 vars:∀q ∈ [br,bs,bi,bd,bl,be,bm],w0.heap.size≤q∧q < lo
 dis:bl≠br∧bl≠bs∧bl≠bi∧bl≠bd∧bl≠be∧bl≠bm
 hb:b≤w0.heap.size
 hlo:w0.heap.size≤lo
 hsz:lo≤w.heap.size
 hn:acc.length≤i
 nil:acc=[]→v=.slice none 0 0
theorem zLt (c:Sc) (w0 w:World) (b lo br bs bi bd bl be bm i:Nat) (sep:List UInt8) (item done:FV) (v:Value) (acc:List Tr) (Post:World→Prop) (h:PI c w0 w b lo br bs bi bd bl be bm i sep item done v acc) (hT:ThSL c b w0 (.ok (acc.map Tr.dt) i) done Post) :
  Calls Tryz.prog 54 #[pt bd,pt bl] w (GQ Post):=by
 have cd:=h.pv.d.c
 have cl:=h.l.c
 have hg:GoQ done v w Post:=by
  refine hT.ok _ _ rfl acc v w h.f h.x ⟨h.row,fun t ht=>(h.t t ht).keep (fun q hq _=>Nat.le_trans h.hb (Nat.le_trans h.hlo hq.1)) (fun _ _ _=>rfl),by have:=h.hn;have:=h.x.le;omega,h.nil,fun q hq=>Nat.le_trans h.hb (Nat.le_trans h.hlo (h.own q hq))⟩ (fun t ht=>(h.t t ht).keep (fun q hq _=>⟨Nat.le_trans h.hb (Nat.le_trans h.hlo hq.1),hq.2⟩) (fun _ _ _=>rfl)) rfl
 obtain⟨df,d1,d2⟩:=done
 obtain⟨hE,hC⟩:=hg
 have hR:=zAe hE
 clear h hT hE
 simp only [pt]
 go_enter Tryz.func54,Tryz.ntmps54
 go_wp2_with fail
 refine hC.mono ?_
 rintro e w' ⟨s,rfl,hr⟩
 go_wp2_with fail
 go_ret
 exact⟨s,rfl,hr⟩
theorem PI.keep {c:Sc} {w0 w w':World} {b lo br bs bi bd bl be bm i:Nat} {sep:List UInt8} {item done:FV} {v:Value} {acc:List Tr} (h:PI c w0 w b lo br bs bi bd bl be bm i sep item done v acc) (F:Fr [] w w'):PI c w0 w' b lo br bs bi bd bl be bm i sep item done v acc :=
 ⟨h.x.keep F,h.f.on0 F,h.pv.keep F (by simp),h.l.keep F (by simp),zAf h.row F (by simp),h.own,fun t ht=>(h.t t ht).keep (fun _ h _=>h) (fun q _ hl=>F.block q hl (by simp)),h.vars,h.dis,h.hb,h.hlo,Nat.le_trans h.hsz F.size,h.hn,h.nil⟩
theorem PI.at {c:Sc} {w0 w w':World} {b lo br bs bi bd bl be bm i j:Nat} {sep:List UInt8} {item done:FV} {v:Value} {acc:List Tr} (h:PI c w0 w b lo br bs bi bd bl be bm i sep item done v acc) (hR:c.mb < b) (F:Fr [c.R] w w') (X:SX c w' j) (hj:i≤j):PI c w0 w' b lo br bs bi bd bl be bm j sep item done v acc:=by
 have h1:=c.hRm
 have h2:=h.hb
 have h3:=h.hlo
 have hv:∀q ∈ [br,bs,bi,bd,bl,be,bm],c.R≠q:=fun q hq=>by have:=(h.vars q hq).1;omega
 refine⟨X,h.f.on F,h.pv.keep F (fun q hq=>?_),h.l.keep F (by simp;exact Ne.symm (hv bl (by simp))),zAf h.row F (fun q hq hm=>?_),h.own,fun t ht=>(h.t t ht).keep (fun _ h _=>h) (fun q hq hl=>F.block q hl (by simp;have:=hq.1;omega)),h.vars,h.dis,h.hb,h.hlo,Nat.le_trans h.hsz F.size,Nat.le_trans h.hn hj,h.nil⟩
 ·obtain rfl:q=c.R:=by simpa using hq
  exact⟨hv _ (by simp),hv _ (by simp),hv _ (by simp),hv _ (by simp),hv _ (by simp),hv _ (by simp)⟩
 ·obtain rfl:q=c.R:=by simpa using hm
  have:=h.own _ hq
  omega
theorem PI.next {c:Sc} {w0 w w3:World} {b lo br bs bi bd bl be bm i g cap:Nat} {sep:List UInt8} {item done:FV} {v:Value} {acc:List Tr} (h:PI c w0 w b lo br bs bi bd bl be bm i sep item done v acc) (hR:c.mb < b) (u:Tr) (hu:IsT w (fun q=>lo≤q∧q ∉ obL v) u) (hn:acc.length+1≤i) (o:Obj)
  (hown:w3.ownsRow 0 26 1 (.slice (some ⟨g,0,none⟩) (acc.length+1) cap) (acc.length+1) ((acc.map fun t=>ptrV t.p)++[ptrV u.p])) (hgrow:(w.alloc o).grownBy w3 v.ownBlock) (hat:v.ownBlock=some g∨g=w.heap.size+1) :
  Var w3 bl 38 v∧PI c w0 (w3.setCell ⟨bl,0,none⟩ (.slice (some ⟨g,0,none⟩) (acc.length+1) cap)) b lo br bs bi bd bl be bm i sep item done (.slice (some ⟨g,0,none⟩) (acc.length+1) cap) (acc++[u]):=by
 have h1:=c.hRm
 have h2:=h.hb
 have h3:=h.hlo
 have F1:=Fr.alloc w o
 have F12:Fr (obL v) w w3:=(F1.mono (by simp)).trans (Fr.of_grown hgrow) (fun j hj=>.inl hj)
 have hblv:bl ∉ obL v:=fun hm=>by have:=h.own _ hm;have:=(h.vars bl (by simp)).2;omega
 have hl3:Var w3 bl 38 v:=h.l.keep F12 hblv
 have F3:=Fr.set w3 bl 0 (.slice (some ⟨g,0,none⟩) (acc.length+1) cap)
 have F:Fr (bl::obL v) w (w3.setCell ⟨bl,0,none⟩ (.slice (some ⟨g,0,none⟩) (acc.length+1) cap)):=(F12.mono (fun j hj=>List.mem_cons_of_mem _ hj)).trans F3 (fun j hj=>.inl (by
  obtain rfl:j=bl:=by simpa using hj
  exact List.mem_cons_self))
 have hg:lo≤g∧(g ∈ obL v∨w.heap.size < g):=by
  rcases hat with h4 | h4
  ·have:=(zBc v g).2 h4
   exact⟨h.own g this,.inl this⟩
  ·have:=h.hsz
   exact⟨by omega,.inr (by omega)⟩
 have hob:∀j,j ∈ obL (.slice (some ⟨g,0,none⟩) (acc.length+1) cap)→j=g:=fun j hj=>by simpa [obL,Value.ownBlock] using hj
 have hbl:=h.vars bl (by simp)
 have hfar:∀q ∈ bl::obL v,w0.heap.size≤q:=fun q hq=>by
  rcases List.mem_cons.1 hq with rfl | hq
  ·exact hbl.1
  ·have:=h.own q hq;omega
 have hgbl:g≠bl:=by have:=hg.1;omega
 refine⟨hl3,h.x.stay F (fun q hq=>by have:=hfar q hq;omega),h.f.trans F (fun q hq=>.inr (hfar q hq)),h.pv.keep F (fun q hq=>?_),hl3.set _,?_,fun q hq=>by rw [hob q hq];exact hg.1,fun t ht=>?_,h.vars,h.dis,h.hb,h.hlo,Nat.le_trans h.hsz F.size,by simpa using hn,fun e=>by simp at e⟩
 ·rcases List.mem_cons.1 hq with rfl | hq
  ·exact h.dis
  ·have hq:=h.own q hq
   have hne:∀z ∈ [br,bs,bi,bd,bl,be,bm],q≠z:=fun z hz=>by have:=(h.vars z hz).2;omega
   exact⟨hne _ (by simp),hne _ (by simp),hne _ (by simp),hne _ (by simp),hne _ (by simp),hne _ (by simp)⟩
 ·have h5:=zAf hown F3 (fun q hq hm=>by
   rw [hob q hq] at hm
   simp at hm
   exact hgbl hm)
  have e1:(acc++[u]).length=acc.length+1:=by simp
  have e2:(acc++[u]).map (fun t=>ptrV t.p)=(acc.map fun t=>ptrV t.p)++[ptrV u.p]:=by simp
  rw [e1,e2]
  exact h5
 ·have q2:∀t,IsT w (fun q=>lo≤q∧q ∉ obL v) t→IsT (w3.setCell ⟨bl,0,none⟩ (.slice (some ⟨g,0,none⟩) (acc.length+1) cap)) (fun q=>lo≤q∧q ∉ obL (.slice (some ⟨g,0,none⟩) (acc.length+1) cap)) t:=fun t ht=>ht.keep (fun q hq hl=>⟨hq.1,fun hm=>by
    have e:=hob q hm
    subst e
    rcases hg.2 with h4 | h4
    ·exact hq.2 h4
    ·omega⟩) (fun q hq hl=>F.block q hl (fun hm=>by
    rcases List.mem_cons.1 hm with rfl | hm
    ·have:=hq.1;omega
    ·exact hq.2 hm))
  rcases List.mem_append.1 ht with ht | ht
  ·exact q2 t (h.t t ht)
  ·obtain rfl:t=u:=by simpa using ht
   exact q2 t hu
def zWd (bl br bs bm be:Nat):FV:=⟨57,#[],#[pt bl,pt br,pt bs,pt bm,pt be]⟩
theorem zPv (c:Sc) (I:Nat→Option Re) (item done:FV) (Post:World→Prop) (w0:World) (b lo br bs bi bd bl be bm:Nat) (sep:List UInt8) (hR:c.mb < b) (m:Nat)
  (hMore:∀(w:World) (i:Nat) (v:Value) (acc:List Tr),PI c w0 w b lo br bs bi bd bl be bm i sep item done v acc→ThSL c b w0 (partM c.ts sep I m (acc.map Tr.dt) i) done Post→Calls Tryz.prog 55 #[pt br,pt bs,pt bi,pt be,pt bl,pt bm] w (GQ Post))
  (w:World) (k:Nat) (v:Value) (acc:List Tr) (u:Tr) (h:PI c w0 w b lo br bs bi bd bl be bm k sep item done v acc) (hu:IsT w (fun q=>lo≤q∧q ∉ obL v) u) (hn:acc.length+1≤k)
  (hT:ThSL c b w0 (if isS (tk c.ts k) sep then partM c.ts sep I m (acc.map Tr.dt++[u.dt]) k else .ok (acc.map Tr.dt++[u.dt]) k) done Post) :
  Calls Tryz.prog 57 #[ptrV u.p,pt bl,pt br,pt bs,pt bm,pt be] w (GQ Post):=by
 obtain⟨i1,hi,hz0,hz1,hz2⟩:=info_parts infoP
 have cl:=h.l.c
 have hsr:=h.row.alloc (.cells #[ptrV u.p] 26)
 have HN1:=oH (new1 w (ptrV u.p) 26)
 have HO1:=oH (one1 u.p)
 have hk:acc.length≤16384:=by have:=h.hn;have:=h.x.le;omega
 obtain⟨n,hnl⟩:∃n,acc.length=n:=⟨_,rfl⟩
 have HKL:=oH hnl
 rw [hnl] at hsr hk
 have HH:=oH (oA h (oA hu (oA hn (oA hT hMore))))
 have HRR:=oH hR
 clear h hu hn hT hMore hnl hR
 simp only [ptrV] at hsr HN1 HO1
 simp only [ptrV,pt]
 go_enter Tryz.func57,Tryz.ntmps57
 go_wp2_with (at_builtin;refine wpList_append_lies _ rfl _ _ 38 rfl 0 26 i1 _ 1 8 Tryz.underlying38 hi hz0 hz1 hz2 rfl (by decide) v n _ rfl hsr ⟨w.heap.size,0,none⟩ 1 1 [.pointer (some ⟨u.p,0,none⟩)] rfl rfl HN1.out HO1.out (by decide) (by unfold maxLen;omega) (by omega) (by simp <;> omega) (w.heap.size+1) (by simp) ?_)
 intro g cap w3 hown hgrow hat hlt3
 have hst:=HH.out.1.next HRR.out u HH.out.2.1 HH.out.2.2.1 _ (by rw [HKL.out];simpa [ptrV] using hown) hgrow hat
 rw [HKL.out] at hst
 have c3:=hst.1.c
 have f3:=hst.1.f
 have HS:=oH hst.2
 clear hst hown hgrow hat hsr HN1 HO1 cl
 go_upto_region 2 with fail
 obtain⟨w4,hw4⟩:∃w4,w3.setCell ⟨bl,0,none⟩ (.slice (some ⟨g,0,none⟩) (n+1) cap)=w4:=⟨_,rfl⟩
 rw [hw4] at HS
 try rw [hw4]
 have cr:=HS.out.pv.r.c
 have cs:=HS.out.pv.s.c
 have HC:=sStandsS c w4 k sep HS.out.x
 have hT:=HH.out.2.2.2.1
 clear c3 f3 hw4
 cases hq:isS (tk c.ts k) sep
 ·rw [hq] at HC hT
  have HT:=oH hT
  clear hT hq
  generalize (⟨sep.toArray⟩:ByteArray)=sb at *
  simp only [pt] at cr HC
  go_wp2_with fail
  refine HC.mono ?_
  rintro e w5 ⟨rfl,F5⟩
  have H5:=oH (HS.out.keep F5)
  have ce:=H5.out.pv.e.c
  clear F5 HC HS cr cs
  simp only [pt] at ce
  go_wp2_with fail
  go_ret
  refine⟨_,rfl,rstep (first:=#[]) (caps:=#[pt bd,pt bl]) qAg (zLt c w0 w5 b lo br bs bi bd bl be bm k sep item done _ _ Post H5.out ?_)⟩
  have e2:(acc++[u]).map Tr.dt=acc.map Tr.dt++[u.dt]:=by simp
  rw [e2]
  simpa using HT.out
 ·rw [hq] at HC hT
  have HT:=oH hT
  clear hT hq
  generalize (⟨sep.toArray⟩:ByteArray)=sb at *
  simp only [pt] at cr HC
  go_wp2_with fail
  refine HC.mono ?_
  rintro e w5 ⟨rfl,F5⟩
  have H5:=oH (HS.out.keep F5)
  have cm:=H5.out.pv.m.c
  clear F5 HC HS cr cs
  simp only [pt] at cm
  go_wp2_with fail
  go_ret
  refine⟨_,rfl,rstep (first:=#[]) (caps:=#[pt br,pt bs,pt bi,pt be,pt bl,pt bm]) qAh (HH.out.2.2.2.2 w5 k _ _ H5.out ?_)⟩
  have e2:(acc++[u]).map Tr.dt=acc.map Tr.dt++[u.dt]:=by simp
  rw [e2]
  simpa using HT.out
theorem qAj (ts:List TK) (s:List UInt8) {i:Nat} (h:isS (tk ts i) s=false):∀m,skM ts s m i=i
 | 0=>rfl
 | m+1=>by unfold skM;rw [h];rfl
theorem zWe (ts:List TK) (s:List UInt8) {i:Nat} (h:isS (tk ts i) s=true) (m:Nat):skM ts s (m+1) i=skM ts s m (i+1):=by
 show (if isS (tk ts i) s=true then _ else _)=_
 rw [if_pos h]
def sxM (R:Nat) (w:World):Nat:=match w.cell? ⟨R,1,none⟩ with
 | some (.int _ n)=>16384 - n.toNat
 | _=>0
theorem zGz {c:Sc} {w:World} {i:Nat} (h:SX c w i):sxM c.R w=16384 - i:=by
 unfold sxM
 rw [h.c1]
 simp
theorem zWf (w:World):(binOp .eql 94 .nilFunc .nilFunc).run Tryz.prog w=.ok (.bool true) w:=by kernel_rfl
theorem qAk (f:FuncId) (a b:Array Value) (w:World):(binOp .eql 94 (.func (.func f) a b) .nilFunc).run Tryz.prog w=.ok (.bool false) w:=by kernel_rfl
theorem zPw (c:Sc) (I:Nat→Option Re) (fi:FuncId) (done:FV) (Post:World→Prop) (w0:World) (b lo br bs bi bd bl be bm:Nat) (sep:List UInt8) (hR:c.mb < b) (hI:ItmS c fi I) (hmono:∀i d j,I i=some (.ok d j)→i < j) :
  ∀(m:Nat) (w:World) (i:Nat) (v:Value) (acc:List Tr),PI c w0 w b lo br bs bi bd bl be bm i sep ⟨fi,#[pt c.R],#[]⟩ done v acc→ThSL c b w0 (partM c.ts sep I m (acc.map Tr.dt) i) done Post→Calls Tryz.prog 55 #[pt br,pt bs,pt bi,pt be,pt bl,pt bm] w (GQ Post):=by
 intro m
 induction m with
 | zero=>intro w i v acc h hT;exact absurd rfl hT.no
 | succ m ih =>
 intro w i v acc h hT
 have HIH:=oH ih
 have HRR:=oH hR
 obtain⟨hEI,hCI⟩:=hI
 have HCI:=oH hCI
 have hRn:=zAe hEI
 have HMO:=oH hmono
 obtain⟨J,hJ⟩:∃J,skM c.ts sep (c.ts.length+1) i=J:=⟨_,rfl⟩
 have hun:partM c.ts sep I (m+1) (acc.map Tr.dt) i=(match I J with | none=>.ok (acc.map Tr.dt) J | some r=>r.bndL fun x k=>if isS (tk c.ts k) sep then partM c.ts sep I m (acc.map Tr.dt++[x]) k else .ok (acc.map Tr.dt++[x]) k):=by
  rw [← hJ]
  show (match I (skM c.ts sep (c.ts.length+1) i) with | none=>_ | some r=>_)=_
  cases I (skM c.ts sep (c.ts.length+1) i) <;> rfl
 rw [hun] at hT
 have HT:=oH hT
 have HST:=oH (oA h hJ)
 have hln:=zWf
 have hlf:=qAk
 clear ih hR hEI hCI hmono hun hT h hJ
 simp only [pt]
 go_enter Tryz.func55,Tryz.ntmps55
 go_wp2_with fail
 go_loopw [] (fun wr=>∃j k,PI c w0 wr b lo br bs bi bd bl be bm j sep ⟨fi,#[pt c.R],#[]⟩ done v acc∧skM c.ts sep k j=J∧c.ts.length≤k+j) (fun wr=>sxM c.R wr)
 case atStart=>exact⟨i,c.ts.length+1,HST.out.1,HST.out.2,by omega⟩
 case round =>
  clear HST
  obtain⟨j,k,h,hk,hlk⟩:=hrel
  have cr:=h.pv.r.c
  have cs:=h.pv.s.c
  cases hq:isS (tk c.ts j) sep
  ·have HC:=zBs c wr j sep h.x hq
   rw [qAj c.ts sep hq] at hk
   subst hk
   have H:=oH h
   clear hq h
   generalize (⟨sep.toArray⟩:ByteArray)=sb at *
   simp only [pt] at cr
   go_wp2_with fail
   refine HC.mono ?_
   rintro e w2 ⟨rfl,F2⟩
   have H2:=oH (H.out.keep F2)
   have ci:=H2.out.pv.i.c
   have HC:=HCI.out w2 j H2.out.x
   clear F2 H cr cs
   have hT:=HT.out
   cases hIj:I j with
   | none =>
    rw [hIj] at HC hT
    have HTT:=oH hT
    clear hT hIj HCI HIH HMO HT
    simp only [FV.val,pt] at ci HC
    go_wp2_with fail
    refine HC.mono ?_
    rintro e w3 ⟨F3,rfl⟩
    have H3:=oH (H2.out.keep F3)
    have ce:=H3.out.pv.e.c
    clear F3 HC H2 ci
    simp only [pt] at ce
    go_wp2_with fail
    go_ret
    exact⟨_,rfl,rstep (first:=#[]) (caps:=#[pt bd,pt bl]) qAg (zLt c w0 w3 b lo br bs bi bd bl be bm j sep _ done v acc Post H3.out HTT.out)⟩
   | some r =>
    rw [hIj] at HC hT
    have HTT:=oH hT
    have HIJ:=oH hIj
    clear hT hIj HCI HT
    simp only [FV.val,pt] at ci HC
    go_wp2_with fail
    refine HC.mono ?_
    rintro e w3 ⟨F3,L,rfl,hL⟩
    have H3:=oH (H2.out.keep F3)
    have hg:GoQ L (zWd bl br bs bm be).val w3 Post:=by
     have hp:=H3.out
     have hsz:=hp.hsz
     have h1:=hp.hb
     have h2:=hp.hlo
     have h3:=HRR.out
     refine hL w3 (zWd bl br bs bm be) Post w3.heap.size hp.x (by omega) (Nat.le_refl _) ⟨fun d j2 e u w' F X hu hd=>⟨qAi,?_⟩,fun j2 e w' F X=>?_,fun e=>?_⟩
     ·have hj2:=HMO.out j d j2 (by rw [HIJ.out,e])
      have hn:=hp.hn
      have hu2:IsT w' (fun q=>lo≤q∧q ∉ obL v) u:=hu.keep (fun q hq _=>⟨by omega,fun hm=>by
       have:=(hp.row.lt q ((zBc v q).1 hm)).2
       omega⟩) (fun _ _ _=>rfl)
      refine zPv c I _ done Post w0 b lo br bs bi bd bl be bm sep h3 m (fun w i v acc hpi ht=>HIH.out w i v acc hpi ht) w' j2 v acc u (hp.at h3 F X (by omega)) hu2 (by omega) ?_
      have ht:=HTT.out
      rw [e] at ht
      rw [hd]
      exact ht
     ·have ht:=HTT.out
      rw [e] at ht
      exact ht.bad j2 rfl w' (hp.f.on F) X
     ·have ht:=HTT.out
      rw [e] at ht
      exact ht.no rfl
    obtain⟨lf,l1,l2⟩:=L
    obtain⟨hE,hCC⟩:=hg
    have hR2:=zAe hE
    clear F3 HC H2 ci hL hE HTT HIJ HIH HMO
    simp only [FV.val,zWd,pt] at hCC
    go_wp2_with fail
    refine hCC.mono ?_
    rintro e w' ⟨s,rfl,hr⟩
    go_wp2_with fail
    go_ret
    exact⟨s,rfl,hr⟩
  ·have HC:=zBr c wr j sep h.x hq
   have H:=oH (oA h (oA hk (oA hlk hq)))
   clear hq h hk hlk
   generalize (⟨sep.toArray⟩:ByteArray)=sb at *
   simp only [pt] at cr
   go_wp2_with fail
   refine HC.mono ?_
   rintro e w2 ⟨rfl,F2,X2⟩
   have HME:Hid (sxM c.R w2 < sxM c.R wr):=oH (by rw [zGz X2,zGz H.out.1.x];have:=X2.le;omega)
   have HR2:Hid (∃j k,PI c w0 w2 b lo br bs bi bd bl be bm j sep ⟨fi,#[pt c.R],#[]⟩ done v acc∧skM c.ts sep k j=J∧c.ts.length≤k+j):=oH (by
    obtain⟨h,hk,hlk,hq⟩:=H.out
    have hlt:=zAm hq
    obtain⟨k,rfl⟩:∃k',k=k'+1:=⟨k - 1,by omega⟩
    rw [zWe c.ts sep hq] at hk
    exact⟨j+1,k,h.at HRR.out F2 X2 (by omega),hk,by omega⟩)
   clear F2 X2 H HC cr cs
   go_wp2_with fail
   go_roundw
   case rel=>exact HR2.out
   case measure=>exact HME.out
end Go.Proofs.YtepfknfadpkigaaGreat
namespace Go.Proofs.YtepfknfadpkigaaGreat
open Go.RowKit
set_option maxHeartbeats 2000000
set_option maxRecDepth 100000
theorem zLu (c:Sc) (I:Nat→Option Re) (fi:FuncId) (done:FV) (Post:World→Prop) (b i m:Nat) (sep:List UInt8) (w:World) (hX:SX c w i) (hR:c.mb < b) (hb:b≤w.heap.size) (hI:ItmS c fi I) (hmono:∀i d j,I i=some (.ok d j)→i < j)
  (hT:ThSL c b w (partM c.ts sep I m [] i) done Post) :
  Calls Tryz.prog 28 #[.pointer (some ⟨c.R,0,none⟩),.string ⟨sep.toArray⟩,FV.val ⟨fi,#[pt c.R],#[]⟩,done.val] w (GQ Post):=by
 obtain⟨W,hW⟩:∃W,w.heap.size=W:=⟨_,rfl⟩
 obtain⟨w0,hw0⟩:∃w0,w.alloc (.cells #[.pointer (some ⟨c.R,0,none⟩)] 44)=w0:=⟨_,rfl⟩
 have F0:Fr [] w w0:=by rw [← hw0];exact Fr.alloc _ _
 have v0:Var w0 W 44 (pt c.R):=by rw [← hw0,← hW];exact heap_alloc_new _ _
 have s0:w0.heap.size=W+1:=by rw [← hw0,← hW];simp
 obtain⟨w1,hw1⟩:∃w1,w0.alloc (.cells #[.string ⟨sep.toArray⟩] 9)=w1:=⟨_,rfl⟩
 have F1:Fr [] w0 w1:=by rw [← hw1];exact Fr.alloc _ _
 have v1:Var w1 (W+1) 9 (.string ⟨sep.toArray⟩):=by rw [← hw1,← s0];exact heap_alloc_new _ _
 have s1:w1.heap.size=W+2:=by rw [← hw1];simp [s0]
 obtain⟨w2,hw2⟩:∃w2,w1.alloc (.cells #[FV.val ⟨fi,#[pt c.R],#[]⟩] 79)=w2:=⟨_,rfl⟩
 have F2:Fr [] w1 w2:=by rw [← hw2];exact Fr.alloc _ _
 have v2:Var w2 (W+2) 79 (FV.val ⟨fi,#[pt c.R],#[]⟩):=by rw [← hw2,← s1];exact heap_alloc_new _ _
 have s2:w2.heap.size=W+3:=by rw [← hw2];simp [s1]
 obtain⟨w3,hw3⟩:∃w3,w2.alloc (.cells #[done.val] 81)=w3:=⟨_,rfl⟩
 have F3:Fr [] w2 w3:=by rw [← hw3];exact Fr.alloc _ _
 have v3:Var w3 (W+3) 81 done.val:=by rw [← hw3,← s2];exact heap_alloc_new _ _
 have s3:w3.heap.size=W+4:=by rw [← hw3];simp [s2]
 obtain⟨w4,hw4⟩:∃w4,w3.alloc (.cells #[.slice none 0 0] 38)=w4:=⟨_,rfl⟩
 have F4:Fr [] w3 w4:=by rw [← hw4];exact Fr.alloc _ _
 have v4:Var w4 (W+4) 38 (.slice none 0 0):=by rw [← hw4,← s3];exact heap_alloc_new _ _
 have s4:w4.heap.size=W+5:=by rw [← hw4];simp [s3]
 obtain⟨w5,hw5⟩:∃w5,w4.alloc (.cells #[.func (.func 54) #[] #[pt (W+3),pt (W+4)]] 46)=w5:=⟨_,rfl⟩
 have F5:Fr [] w4 w5:=by rw [← hw5];exact Fr.alloc _ _
 have v5:Var w5 (W+5) 46 (.func (.func 54) #[] #[pt (W+3),pt (W+4)]):=by rw [← hw5,← s4];exact heap_alloc_new _ _
 have s5:w5.heap.size=W+6:=by rw [← hw5];simp [s4]
 obtain⟨w6,hw6⟩:∃w6,w5.alloc (.cells #[.nilFunc] 47)=w6:=⟨_,rfl⟩
 have F6:Fr [] w5 w6:=by rw [← hw6];exact Fr.alloc _ _
 have v6:Var w6 (W+6) 47 .nilFunc:=by rw [← hw6,← s5];exact heap_alloc_new _ _
 have s6:w6.heap.size=W+7:=by rw [← hw6];simp [s5]
 have F06:Fr [] w w6:=(((((F0.on F1).on F2).on F3).on F4).on F5).on F6
 have c6:=v6.c
 have f6:=v6.f
 obtain⟨w7,hw7⟩:∃w7,w6.setCell ⟨W+6,0,none⟩ (.func (.func 55) #[] #[pt W,pt (W+1),pt (W+2),pt (W+5),pt (W+4),pt (W+6)])=w7:=⟨_,rfl⟩
 have F7:Fr [W+6] w6 w7:=by rw [← hw7];exact Fr.set _ _ _ _
 have v7:Var w7 (W+6) 47 (.func (.func 55) #[] #[pt W,pt (W+1),pt (W+2),pt (W+5),pt (W+4),pt (W+6)]):=by rw [← hw7];exact v6.set _
 have F07:Fr [W+6] w w7:=F06.up0.on F7
 have hPI:PI c w w7 b (W+7) W (W+1) (W+2) (W+3) (W+4) (W+5) (W+6) i sep ⟨fi,#[pt c.R],#[]⟩ done (.slice none 0 0) []:=by
  have G4:Fr [W+6] w4 w7:=((F5.on F6).up0).on F7
  have G3:Fr [W+6] w3 w7:=(F4.up0).on G4
  have G2:Fr [W+6] w2 w7:=(F3.up0).on G3
  have G1:Fr [W+6] w1 w7:=(F2.up0).on G2
  have G0:Fr [W+6] w0 w7:=(F1.up0).on G1
  have G5:Fr [W+6] w5 w7:=(F6.up0).on F7
  refine⟨hX.stay F07 (by simp;omega),F07.trans (Fr.refl [] w7) (by simp) |>.trans (Fr.refl [] w7) (by simp) |> fun h=>⟨h.os,h.tape,h.output,h.size,fun k hk hn=>h.block k hk (by simp;omega)⟩,⟨v0.keep G0 (by simp),v1.keep G1 (by simp),v2.keep G2 (by simp),v3.keep G3 (by simp),v5.keep G5 (by simp),v7⟩,v4.keep G4 (by simp),World.ownsRow_nil _ _ _ _,by simp [obL,Value.ownBlock],by simp,fun q hq=>?_,by omega,by rw [hW];omega,by rw [hW];omega,by have:=F7.size;omega,by simp,fun _=>rfl⟩
  simp only [List.mem_cons,List.not_mem_nil,or_false] at hq
  rw [hW]
  omega
 have HM:=oH (zPw c I fi done Post w b (W+7) W (W+1) (W+2) (W+3) (W+4) (W+5) (W+6) sep hR hI hmono m w7 i (.slice none 0 0) [] hPI hT)
 have c7:=v7.c
 clear hPI F0 F1 F2 F3 F4 F5 F6 F7 F06 F07 v0 v1 v2 v3 v4 v5 v6 v7 hX hT hI hmono hR
 have hW':=oH hW
 simp only [FV.val,pt] at hw0 hw1 hw2 hw3 hw4 hw5 hw6 hw7 c7 ⊢
 obtain⟨df,d1,d2⟩:=done
 simp only [FV.val] at hw3 ⊢
 go_enter Tryz.func28,Tryz.ntmps28
 go_wp2_with fail
 go_ret
 exact⟨_,rfl,rstep (first:=#[]) (caps:=#[pt W,pt (W+1),pt (W+2),pt (W+5),pt (W+4),pt (W+6)]) qAh HM.out⟩
end Go.Proofs.YtepfknfadpkigaaGreat
end
