/- Several texts in one. -/
import Derived.Test.YtepfknfadpkigaaGreatPkAA
import Derived.Test.YtepfknfadpkigaaGreatPkAJ
import Derived.RangeFuncNested
import Derived.RangeFuncBound
import Derived.RangeFuncCalls
import Derived.RangeFuncLeaves
import Derived.Shelf.Abstract
import Derived.Shelf.RegionOpen
import Derived.OwnWalkIn
import Derived.TacticsInMore
import Derived.LoopNIn
import Derived.LoopIn
set_option linter.unusedVariables false
set_option linter.unusedSimpArgs false
section
namespace Go.Proofs.YtepfknfadpkigaaGreat
open Go.RowKit Go.Shelf
set_option maxHeartbeats 2000000
set_option maxRecDepth 100000
def YOweB (bx m l n:Nat) (f:Nat→Value × Value) (J:Nat→World→Prop):Prop :=
 ∀(k:Nat) (W:World),k < n→J k W→YieldAt Fence.wide m Tryz.prog l #[(f k).1,(f k).2] W fun en W'=>en=.returned (.bool true)∧J (k+1) W'∧Fc bx [bx] W W'
def IterB (bx m gf n:Nat) (f:Nat→Value × Value) (lb:Array Value) (W:World):Prop :=
 ∀(l:Nat) (J:Nat→World→Prop),YOweB bx (m - 1) l n f J→J 0 W→CallsIn Fence.wide m Tryz.prog gf (#[.func (.yield l) #[] #[]]++lb) W fun en W'=>(∃v,en=.returned v)∧J n W'
def BearsB (B0:Nat) (I:World→Prop):Prop:=∀X Y,I X→Fc B0 [] X Y→I Y
theorem zGf {B0 l:Nat} {X:World} {o:Obj} (o':Obj) (hB:B0≤l) (hl:X.heap[l]?=some o) (ho:solid o=false):Fc B0 [] X (X.putObj l o'):=by
 have hF:=Fr.of_grown (grownBy_putObj' X l o')
 refine⟨hF.os,hF.tape,hF.output,hF.size,fun k hk=>?_,fun k o2 h2 hs _=>?_⟩
 ·exact World.putObj_heap_other (by omega)
 ·refine(World.putObj_heap_other ?_).trans h2
  rintro rfl
  rw [hl] at h2;cases h2
  rw [ho] at hs;cases hs
theorem zHv {B0:Nat} {X Y:World} (h:X.grownBy Y none) (hB:B0≤X.heap.size):Fc B0 [] X Y:=Fc.of_fr (Fr.of_grown h) (by simp) hB
theorem ltz {X:World} {k:Nat} {o:Obj} (hk:X.heap[k]?=some o):k < X.heap.size:=(Array.getElem?_eq_some_iff.1 hk).1
theorem zSc {X:World} {l k:Nat} {o:Obj} (h:k≠l):(X.putObj l o).heap[k]?=X.heap[k]?:=World.putObj_heap_other h
theorem zPd {X Y:World} {k:Nat} (h:X.grownBy Y none) {o:Obj} (hk:X.heap[k]?=some o):Y.heap[k]?=some o :=
 (h.block k (ltz hk) (fun e=>by cases e)).trans hk
theorem zVq {g:Operand} {ps:Array Tmp} {assign body:Code} {Q:Exit→Act→World→Prop} {a:Act} {w:World} (bx:Nat) (hn0:bx≤w.heap.size) (m:Nat) (gf:Nat) (lb:Array Value) (n:Nat) (f:Nat→Value × Value)
  (hg:a.eval g=.func (.func gf) #[] lb) (eg:∀args w,(callFunc gf args).run Tryz.prog w=.ok (.enter gf args) w)
  (IT:∀W,w.grownBy W none→IterB bx (m - 1) gf n f lb W) (hps:ps.size=2)
  (I:Nat→World→Prop) (hI:∀k,BearsB w.heap.size (I k)) (h0:I 0 w)
  (Ax:Nat→Act→World→Prop) (hAx:∀k a',BearsB w.heap.size (Ax k a'))
  (hassign:∀(l k:Nat) (X:World) (K:Act→World→Prop),k < n→w.heap.size≤X.heap.size→(∀a' Y,X.grownBy Y none→Ax k a' Y→K a' Y) →
   assign.wpIn (Fence.wide.inRound l) (m - 1 - 1) Tryz.prog (Exit.then K (fun _ _ _=>False)) { tmps:=(ps.zip #[(f k).1,(f k).2]).foldl (fun t (p,v)=>t.setIfInBounds p v) a.tmps,defers:=[] } X)
  (hbody:∀(l k:Nat) (a':Act) (X:World),k < n→I k X→Ax k a' X →
   body.wpIn (Fence.wide.inRound l) (m - 1 - 1) Tryz.prog (fun ex _ Y=>match ex with
    | .normal=>Kn X Y∧I (k+1) Y∧Fc bx [bx] X Y
    | _=>False) a' X)
  (hdone:∀(D:Nat) (W:World),w.heap.size≤D→I n W→W.heap[D]?=some (.deferred (some []))→Q .normal { a with defers:={ target:=.collected D,args:=#[] }::a.defers } W) :
  (Code.rangeFunc g ps assign body).wpIn Fence.wide m Tryz.prog Q a w:=by
 refine wpIn_rangeFunc ?_
 intro fn hfn
 obtain⟨rc,hrc⟩:∃rc:LoopState→Option Code→Loop,rc=fun st pe=>{ state:=st,pending:=pe,fn,tmps:=a.tmps,params:=ps,assign,body,defers:=w.heap.size }:=⟨_,rfl⟩
 obtain⟨D,hD⟩:∃D,w.heap.size=D:=⟨_,rfl⟩
 obtain⟨W1,hW1⟩:∃W1,(w.alloc (.deferred (some []))).alloc (.loop (rc .ready none))=W1:=⟨_,rfl⟩
 have hg1:w.grownBy W1 none:=by
  rw [← hW1]
  exact(World.grownBy_alloc w _ none).andThen (World.grownBy_alloc _ _ none) (fun j h=>by cases h)
 have hL1:W1.heap[D+1]?=some (.loop (rc .ready none)):=by
  rw [← hW1,← hD]
  have:=World.alloc_heap_new (w.alloc (.deferred (some []))) (.loop (rc .ready none))
  rwa [World.size_alloc] at this
 have hK1:W1.heap[D]?=some (.deferred (some [])):=by
  rw [← hW1,← hD]
  exact(Below.heap_alloc _ _ _ (by simp)).trans (World.alloc_heap_new w _)
 have hs1:w.heap.size≤W1.heap.size:=hg1.size
 refine⟨D+1,[{ target:=.collected D,args:=#[] }],W1,{ target:=.fn (.func gf) lb,args:=#[.func (.yield (D+1)) #[] #[]] },W1,gf,
  #[.func (.yield (D+1)) #[] #[]]++lb,W1,?_,?_,?_,?_,(fun h=>by simp [Fence.wide] at h),?_⟩
 ·have:=run_enterLoop_outer (P:=Tryz.prog) (w:=w) fn a.tmps ps assign body
  rw [hD] at this
  rw [← hW1,hrc,hD]
  exact this
 ·simp only [resolve,hg]
  simp [go_sem]
 ·intro f' _;trivial
 ·simp [invoke,go_sem,eg]
 refine((IT W1 hg1) (D+1)
  (fun k W=>I k W∧w.heap.size≤W.heap.size∧W.heap[D+1]?=some (.loop (rc .ready none))∧W.heap[D]?=some (.deferred (some [])))
  ?_ ⟨hI _ _ _ h0 (zHv hg1 (Nat.le_refl _)),hs1,hL1,hK1⟩).mono ?_
 ·rintro k V1 hkn ⟨hi1,hsz1,hl1,hk1⟩
  have hyl:=run_yield (P:=Tryz.prog) (args:=#[(f k).1,(f k).2]) hl1 (by rw [hrc];simp [hps])
  rw [hrc] at hyl
  refine⟨fn,_,assign,body,hyl,roundIn_of_wpIn hfn (hassign (D+1) k V1 _ hkn hsz1 ?_)⟩
  intro a' Va hga hax
  have hla:=zPd hga hl1
  have hka:=zPd hga hk1
  have hia:=hI k _ _ hi1 (zHv hga hsz1)
  have hsa:=hga.size
  refine⟨_,run_beginRound hla (by rw [hrc]),?_⟩
  have hrow:w.heap.size≤D+1:=by omega
  have hl2:(Va.putObj (D+1) (.loop { rc .ready none with state:=.busy })).heap[D+1]?=some (.loop { rc .ready none with state:=.busy }):=World.putObj_heap_same (ltz hla)
  have hk2:(Va.putObj (D+1) (.loop { rc .ready none with state:=.busy })).heap[D]?=some (.deferred (some [])):=(zSc (by omega)).trans hka
  have hfp:=zGf (B0:=w.heap.size) (.loop { rc .ready none with state:=.busy }) hrow hla rfl
  refine wpIn_mono (hbody (D+1) k a' _ hkn (hI k _ _ hia hfp) (hAx k a' _ _ hax hfp)) ?_
  have hsz:V1.heap.size≤(Va.putObj (D+1) (.loop { rc .ready none with state:=.busy })).heap.size:=by
   rw [World.putObj_size];exact hga.size
  rintro ex a3 Y hp
  cases ex with
  | normal =>
   obtain⟨hkf,hi3,hbl3⟩:=hp
   have hl3:=hkf _ _ hl2 rfl
   have hk3:=hkf _ _ hk2 rfl
   have hend:=run_endRound (P:=Tryz.prog) none hl3
   have hfp3:=zGf (B0:=w.heap.size) (.loop { rc .ready none with state:=.ready,pending:=none }) hrow hl3 rfl
   refine⟨_,_,hend,rfl,⟨?_,?_,?_,(zSc (by omega)).trans hk3⟩,?_⟩
   ·exact hI _ _ _ hi3 (zGf (B0:=w.heap.size) _ hrow hl3 rfl)
   ·rw [World.putObj_size];exact Nat.le_trans hsz1 (Nat.le_trans hsz hbl3.size)
   ·rw [World.putObj_heap_same (ltz hl3),hrc];rfl
   ·have e1:Fc bx [] V1 Va:=zHv hga (by omega)
    have e2:=e1.trans (zGf (B0:=bx) (.loop { rc .ready none with state:=.busy }) (by omega) hla rfl) (by simp)
    exact(e2.up.on hbl3).on (zGf (B0:=bx) _ (by omega) hl3 rfl).up
  | ret=>exact hp.elim
  | exit id=>exact hp.elim
  | goto t=>exact hp.elim
  | panic ch=>exact hp.elim
  | outgrown=>exact hp.elim
 ·rintro en W2 ⟨⟨v,rfl⟩,hi,hsz,hl,hk⟩
  have hend:=run_endLoop (P:=Tryz.prog) hl (by rw [hrc];simp)
  rw [hrc] at hend
  exact⟨none,_,hend,hdone D _ (by omega) (hI _ _ _ hi (zGf (B0:=w.heap.size) _ (by omega) hl rfl)) ((zSc (by omega)).trans hk)⟩
theorem RowAt.bel {w w':World} {B:Nat} {v:Value} {ts:List TK} (h:RowAt w B v ts) (hF:Below B w w'):RowAt w' B v ts:=by
 obtain⟨q,cap,h1,h2⟩:=h
 refine⟨q,cap,h1,fun i x hx=>?_⟩
 obtain⟨g,e,hg,hg2,c0,c1,c2,c3,c4⟩:=h2 i x hx
 have hb:=hF.block g hg
 exact⟨g,e,hg,Nat.lt_of_lt_of_le hg2 hF.size,(World.cell?_of_block (a:=⟨g,_,none⟩) hb).trans c0,(World.cell?_of_block (a:=⟨g,_,none⟩) hb).trans c1,(World.cell?_of_block (a:=⟨g,_,none⟩) hb).trans c2,(World.cell?_of_block (a:=⟨g,_,none⟩) hb).trans c3,(World.cell?_of_block (a:=⟨g,_,none⟩) hb).trans c4⟩
def bkF (l:List TK) (k:Nat):Value × Value:=(.int .i64 ((l.length - 1 - k:Nat):Int),tkV (tk l (l.length - 1 - k)))
theorem zVr (bx m bl:Nat) (hm:1≤m) (l:List TK) (hl:l.length≤16384) (v:Value) (W:World) (hb:bl≠bx) (hv:Var W bl 24 v) (hr:RowAt W bx v l) :
  IterB bx m 149 l.length (bkF l) #[pt bl] W:=by
 intro ly J hY h0
 refine callsIn_wide.2 ?_
 show Calls Tryz.prog 149 #[.func (.yield ly) #[] #[],pt bl] W _
 obtain⟨q,cap,rfl,hrow⟩:=hr
 obtain⟨n,hn⟩:∃n,l.length=n:=⟨_,rfl⟩
 have HR:=oH (oA hrow (oA hY (oA h0 hn)))
 have HV:=oH hv
 have hv:=hv.c
 rw [hn] at hv hl ⊢
 have hw1:wrap64 ((n:Int) - 1)=(n:Int) - 1:=w64 _ (by omega) (by omega)
 clear hrow hY h0 hn
 simp only [pt]
 go_enter Tryz.func149,Tryz.ntmps149
 go_wp2_with fail
 go_loopw [3] (fun p wr=>∃k:Nat,k≤n∧p=.int .i64 ((n:Int) - 1 - k)∧J k wr∧Fc bx [bx] W wr) (fun p wr=>(intOf p+1).toNat)
 case atStart=>exact⟨0,Nat.zero_le _,by simp,HR.out.2.2.1,Fc.refl _ _ _⟩
 case round =>
  obtain⟨k,hk,rfl,hj,hB⟩:=hrel
  by_cases hkn:k < n
  ·obtain⟨hrow,hY,h0,hn⟩:=HR.out
   obtain⟨i,hi⟩:∃i:Nat,(n:Int) - 1 - k=i:=⟨n - 1 - k,by omega⟩
   have hik:l.length - 1 - k=i:=by omega
   have hil:i < l.length:=by omega
   obtain⟨g,rfl,hg,hg2,k0,k1,k2,k3,k4⟩:=hrow i _ (zFw hil)
   have hyy:=hY k wr (by omega) hj
   unfold bkF tkV at hyy
   simp only [hik] at hyy
   obtain⟨x1,y1,e1⟩:=zAc (tk l i).2.1.1 (tk l i).2.1.2
   obtain⟨x2,y2,e2⟩:=zAc (tk l i).2.2.1 (tk l i).2.2.2
   rw [e1] at k1
   rw [e2] at k2
   rw [e1,e2] at hyy
   have cv:=(HV.out.fc hB (by simpa using hb)).c
   rw [hn] at cv
   have k0:=(World.cell?_of_block (a:=⟨g,i * 5,none⟩) (hB.old g hg)).trans k0
   have k1:=(World.cell?_of_block (a:=⟨g,i * 5+1,none⟩) (hB.old g hg)).trans k1
   have k2:=(World.cell?_of_block (a:=⟨g,i * 5+2,none⟩) (hB.old g hg)).trans k2
   have k3:=(World.cell?_of_block (a:=⟨g,i * 5+3,none⟩) (hB.old g hg)).trans k3
   have k4:=(World.cell?_of_block (a:=⟨g,i * 5+4,none⟩) (hB.old g hg)).trans k4
   have hi0:(0:Int)≤(i:Int):=by omega
   have hi1:(i:Int) < (n:Int):=by omega
   rw [hi]
   have hwi:wrap64 ((i:Int) - 1)=(i:Int) - 1:=w64 _ (by omega) (by omega)
   have HB:=oH (oA hB (oA hi hkn))
   clear hrow hY h0 hn hik hil hj hB hi hkn e1 e2 hk
   refine(wpIn_wide (n:=m)).1 ?_
   obtain⟨fn,tmps,assign,body,hy,hR⟩:=hyy
   gi_wp2
   refine hR.mono ?_
   rintro e W' ⟨rfl,hj2,hbl⟩
   obtain⟨hB,hi,hkn⟩:=HB.out
   have HJ:=oH (oA hj2 (hB.on hbl))
   clear hj2 hbl hy hR cv k0 k1 k2 k3 k4 hB
   gi_wp2
   go_roundw
   case rel=>exact⟨k+1,by omega,by simp <;> omega,HJ.out.1,HJ.out.2⟩
   case measure=>simp [intOf] <;> omega
  ·have e:k=n:=by omega
   have HJ:=oH hj
   have hneg:¬((0:Int)≤(n:Int) - 1 - k):=by omega
   clear hj hB
   go_wp2_with fail
   go_end0
   refine⟨⟨_,rfl⟩,?_⟩
   rw [← e]
   exact HJ.out
end Go.Proofs.YtepfknfadpkigaaGreat
end
