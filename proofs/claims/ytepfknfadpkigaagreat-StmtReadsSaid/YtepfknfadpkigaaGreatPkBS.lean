/- Several texts in one. -/
import Derived.Test.YtepfknfadpkigaaGreatPkAA
import Derived.Test.YtepfknfadpkigaaGreatPkBR
import Derived.BigQuiet
set_option linter.unusedVariables false
set_option linter.unusedSimpArgs false
section
namespace Go.Proofs.YtepfknfadpkigaaGreat
open Go.RowKit Go.Maps Go.WideMaps
set_option maxHeartbeats 4000000
set_option maxRecDepth 100000
structure TbS (R:Nat) (W w:World) (tb:List (List UInt8 × Nat)) (n:Nat):Prop where
 own:w.ownsMap Tryz.prog 9 (mElem R) W.heap.size n (wdD tb)
 f:Fr [] W w
 s:w.heap.size=W.heap.size+1
theorem TbS.new (R:Nat) (W:World):TbS R W (W.alloc (.map #[] 0)) [] 0:=⟨World.ownsMap_made (H:=Nat) W Tryz.prog 9 (mElem R),Fr.alloc _ _,by simp⟩
theorem TbS.map {R:Nat} {W w:World} {tb:List (List UInt8 × Nat)} {n:Nat} (h:TbS R W w tb n):WMap w W.heap.size R tb:=⟨n,h.own⟩
theorem zBa {R:Nat} {W w:World} {ops:Array Oper} {rest:List Oper} {o:Oper} {a:Act} {Q:Exit→Act→World→Prop} {tb:List (List UInt8 × Nat)} {n:Nat}
  (hT:TbS R W w tb n) (hg:o.guard=none) (m x v:Operand) (hop:o.op=Op.insert 50 m x v)
  (hm:a.eval m=.map (some W.heap.size)) (hn:n < 100) (key:List UInt8) (hl:key.length≤16) (k:Nat) (hx:a.eval x=.string ⟨key.toArray⟩) (hv:a.eval v=.func (.func k) #[.pointer (some ⟨R,0,none⟩)] #[])
  (hK:∀w',TbS R W w' ((key,k)::tb) (n+1)→wpList Tryz.prog ops Q rest (a.put o.dst undef) w') :
  wpList Tryz.prog ops Q (o::rest) a w:=by
 refine wpList_plain hg fun K' hK'=>?_
 have hkey:keyOf Tryz.prog 9 (.string ⟨key.toArray⟩)=some (.string key):=by
  have:=keyOf_string_mk (P:=Tryz.prog) Tryz.underlying9 (s:=⟨key.toArray⟩) (by rw [zCn];unfold maxLen;omega)
  simpa using this
 obtain⟨w',hrun,r1,r2⟩:=hT.own.store lawS Tryz.underlying50 (by unfold maxLen;omega) hkey (zSh (H:=Nat) R k)
 unfold Oper.wp
 simp [execOp,hop,hm,hx,hv,hrun,Result.andThen]
 refine hK' _ _ (hK w' ⟨r1,hT.f.trans (Fr.of_grown r2.grown) (fun j hj=>.inr (by simp at hj;omega)),?_⟩)
 obtain⟨es,cl,es',cl',_,rfl⟩:=r2
 simp [Go.ChangeMaps.setBlock,hT.s]
theorem zRb (R:Nat) (w:World):Calls Tryz.prog 26 #[.pointer (some ⟨R,0,none⟩)] w fun e w'=>e=.returned (.map (some w.heap.size))∧Fr [] w w'∧WMap w' w.heap.size R wdT:=by
 have hmm:=@run_makeMap Tryz.prog
 go_enter Tryz.func26,Tryz.ntmps26
 have t0:=TbS.new R w
 go_wp2_with (refine zBa t0 rfl _ _ _ rfl rfl (by omega) [73,70] (by decide) 45 rfl rfl ?_)
 intro w1 t1
 clear t0
 go_wp2_with (refine zBa t1 rfl _ _ _ rfl rfl (by omega) [67,65,83,69] (by decide) 46 rfl rfl ?_)
 intro w2 t2
 clear t1
 go_wp2_with (refine zBa t2 rfl _ _ _ rfl rfl (by omega) [87,72,73,76,69] (by decide) 47 rfl rfl ?_)
 intro w3 t3
 clear t2
 go_wp2_with (refine zBa t3 rfl _ _ _ rfl rfl (by omega) [82,69,80,69,65,84] (by decide) 48 rfl rfl ?_)
 intro w4 t4
 clear t3
 go_wp2_with (refine zBa t4 rfl _ _ _ rfl rfl (by omega) [76,79,79,80] (by decide) 49 rfl rfl ?_)
 intro w5 t5
 clear t4
 go_wp2_with (refine zBa t5 rfl _ _ _ rfl rfl (by omega) [69,88,73,84] (by decide) 50 rfl rfl ?_)
 intro w6 t6
 clear t5
 go_wp2_with (refine zBa t6 rfl _ _ _ rfl rfl (by omega) [70,79,82] (by decide) 51 rfl rfl ?_)
 intro w7 t7
 clear t6
 go_wp2_with (refine zBa t7 rfl _ _ _ rfl rfl (by omega) [87,73,84,72] (by decide) 52 rfl rfl ?_)
 intro w8 t8
 clear t7
 go_wp2_with (refine zBa t8 rfl _ _ _ rfl rfl (by omega) [82,69,84,85,82,78] (by decide) 53 rfl rfl ?_)
 intro w9 t9
 clear t8
 have HT:=oH t9
 clear t9
 go_wp2_with fail
 go_ret
 exact⟨rfl,HT.out.f,HT.out.map⟩
theorem zYl (ts:List TK) (rv:Value) (i:Int) (w:World) (hrow:RowAt w w.heap.size rv ts) :
  Calls Tryz.prog 15 #[rv,.int .i64 i] w fun e w'=>e=.returned (.pointer (some ⟨w.heap.size,0,none⟩))∧w'.heap[w.heap.size]?=some (.cells #[rv,.int .i64 i,.map (some (w.heap.size+1))] 52 (0,0))∧RowAt w' w.heap.size rv ts∧WMap w' (w.heap.size+1) w.heap.size wdT∧Fr [] w w':=by
 obtain⟨w0,hw0⟩:∃w0,w.alloc (.cells #[rv,.int .i64 i,.map none] 52)=w0:=⟨_,rfl⟩
 have F0:Fr [] w w0:=by rw [← hw0];exact Fr.alloc _ _
 have r0:w0.heap[w.heap.size]?=some (.cells #[rv,.int .i64 i,.map none] 52 (0,0)):=by rw [← hw0];exact heap_alloc_new _ _
 have s0:w0.heap.size=w.heap.size+1:=by rw [← hw0];simp
 have HL:=zRb w.heap.size w0
 rw [s0] at HL
 have H0:=oH (oA F0 (oA r0 (oA s0 hrow)))
 obtain⟨q,cap,hq,_⟩:=hrow
 have hq':=oH hq
 clear F0 r0 s0
 subst hq
 go_enter Tryz.func15,Tryz.ntmps15
 go_wp2_with fail
 refine HL.mono ?_
 rintro e w1 ⟨rfl,F1,hE⟩
 obtain⟨F0,r0,s0,hrow⟩:=H0.out
 have r1:=(F1.block _ (by omega) (by simp)).trans r0
 have c2:w1.cell? ⟨w.heap.size,2,none⟩=some (.map none):=by rw [Lib.cell_of_heap r1];rfl
 have f2:w1.frozen? ⟨w.heap.size,2,none⟩=false:=Lib.frozen_of_heap r1 2
 have H1:=oH (oA (F0.trans F1 (by simp)) (oA hE (oA r1 (oA hrow s0))))
 clear F0 r0 s0 hrow r1 hE F1 HL hw0
 go_wp2_with fail
 go_ret
 obtain⟨F,hE,r1,hrow,s0⟩:=H1.out
 have F2:=Fr.set w1 w.heap.size 2 (.map (some (w.heap.size+1)))
 have hs:=F.size
 have FC1:Fc w.heap.size [] w w1:=Fc.of_fr F (by simp) (Nat.le_refl _)
 have FC2:Fc w.heap.size [w.heap.size] w1 (w1.setCell ⟨w.heap.size,2,none⟩ (.map (some (w.heap.size+1)))):=Fc.of_fr F2 (by simp) (by omega)
 refine⟨rfl,?_,(hrow.fc FC1).fc FC2,hE.keep F2 (by simp),F.trans F2 (fun j hj=>.inr (by simp at hj;omega))⟩
 simp [World.setCell,Array.getElem?_modify,r1]
end Go.Proofs.YtepfknfadpkigaaGreat
namespace Go.Proofs.YtepfknfadpkigaaGreat
open Go.RowKit Go.Maps Go.WideMaps
set_option maxHeartbeats 4000000
set_option maxRecDepth 100000
def lkV (R:Nat) (x:List UInt8):Value:=match wdT.lookup x with
 | some k=>.func (.func k) #[.pointer (some ⟨R,0,none⟩)] #[]
 | none=>.nilFunc
theorem zeroLev (w:World):(zeroValue 94).run Tryz.prog w=.ok .nilFunc w:=by kernel_rfl
theorem qBn {R mb:Nat} {w:World} (h:WMap w mb R wdT) (x:List UInt8) (hx:x.length≤65536):(Instr.lookup 50 (.map (some mb)) (.string ⟨x.toArray⟩) false).run Tryz.prog w=.ok (lkV R x) w:=by
 obtain⟨n,h⟩:=h
 have hkey:keyOf Tryz.prog 9 (.string ⟨x.toArray⟩)=some (.string x):=by
  have:=keyOf_string_mk (P:=Tryz.prog) Tryz.underlying9 (s:=⟨x.toArray⟩) (by rw [zCn];unfold maxLen;omega)
  simpa using this
 obtain⟨v,ps,hrun,hv⟩:=h.lookup lawS Tryz.underlying50 (zeroLev w) (zd:=.lit (.int .i64 (-1))) (zp:=[]) rfl hkey
 rw [zUa] at hv
 unfold lkV
 cases hl:wdT.lookup x with
 | none =>
  rw [hl] at hv
  rw [hrun,zPt hv]
 | some k =>
  rw [hl] at hv
  rw [hrun,zPs hv]
theorem zTe (c:Sc) (w:World) (i:Nat) (h:SX c w i) :
  Calls Tryz.prog 29 #[.pointer (some ⟨c.R,0,none⟩)] w fun e w'=>e=.returned (if (tk c.ts i).1.k=1 then .func (.func 59) #[.pointer (some ⟨c.R,0,none⟩)] #[] else if (tk c.ts i).1.k=6 then lkV c.R (tk c.ts i).1.x else .nilFunc)∧Fr [] w w':=by
 have hsc:=fun w a x y m=>zAg (P:=Tryz.prog) w a .f64 x y m
 obtain⟨px,py,e1⟩:=zAc (tk c.ts i).2.1.1 (tk c.ts i).2.1.2
 obtain⟨ex,ey,e2⟩:=zAc (tk c.ts i).2.2.1 (tk c.ts i).2.2.2
 have HK:=zCj c w i h px py ex ey e1 e2
 have hx:=h.txt i
 obtain⟨k,hk⟩:∃k,(tk c.ts i).1.k=k:=⟨_,rfl⟩
 obtain⟨X,hX⟩:∃X,(tk c.ts i).1.x=X:=⟨_,rfl⟩
 rw [hk,hX] at HK
 rw [hX] at hx
 rw [hk,hX]
 clear e1 e2 hk hX
 generalize (tk c.ts i).1.n=t4 at *
 by_cases k1:k=1
 ·subst k1
  rw [if_pos rfl]
  clear h hx
  go_enter Tryz.func29,Tryz.ntmps29
  go_wp2_with fail
  refine HK.mono ?_
  rintro e w2 ⟨rfl,F2⟩
  have H2:=oH F2
  clear HK F2
  go_wp2_with fail
  go_ret
  exact⟨rfl,H2.out.trans (Fr.alloc _ _) (by simp)⟩
 by_cases k6:k=6
 ·subst k6
  rw [if_neg (by decide),if_pos rfl]
  have HL:=oH (fun w' (F:Fr [] w w')=>qBn (h.mp.keep F (by simp)) X hx)
  have HX:=oH h
  clear h hx
  obtain⟨lv,hlv⟩:∃lv,lkV c.R X=lv:=⟨_,rfl⟩
  rw [hlv] at HL ⊢
  obtain⟨t3,ht3⟩:∃t3:ByteArray,(⟨X.toArray⟩:ByteArray)=t3:=⟨_,rfl⟩
  rw [ht3] at HL HK
  clear hlv ht3
  go_enter Tryz.func29,Tryz.ntmps29
  go_wp2_with fail
  refine HK.mono ?_
  rintro e w2 ⟨rfl,F2⟩
  have H2:=oH F2
  clear HK F2
  obtain⟨wA,hwA⟩:∃wA,w2.alloc (.cells #[.int .u8 6,.complex .f64 px py,.complex .f64 ex ey,.string t3,.int .i64 t4] 71)=wA:=⟨_,rfl⟩
  have FA:Fr [] w wA:=H2.out.trans (by rw [← hwA];exact Fr.alloc _ _) (by simp)
  have hlk:=HL.out wA FA
  have hlkn:=fun n=>HL.out (wA.drewN n) (FA.trans (Fr.drewN _ _) (by simp))
  have cm:=(HX.out.keep FA).c2
  have hA:wA.heap[w2.heap.size]?=some (.cells #[.int .u8 6,.complex .f64 px py,.complex .f64 ex ey,.string t3,.int .i64 t4] 71 (0,0)):=by rw [← hwA];exact heap_alloc_new _ _
  have a0:wA.cell? ⟨w2.heap.size,0,none⟩=some (.int .u8 6):=by rw [Lib.cell_of_heap hA];rfl
  have a3:wA.cell? ⟨w2.heap.size,3,none⟩=some (.string t3):=by rw [Lib.cell_of_heap hA];rfl
  have HFA:=oH FA
  clear FA hA HL
  go_upto_region 2 with fail
  try rw [hwA]
  clear hwA
  go_wp2_with fail
  go_quiet (fail)
  go_wp2_with fail
  go_ret
  exact⟨rfl,HFA.out.trans (Fr.drewN _ _) (by simp)⟩
 ·rw [if_neg k1,if_neg k6]
  have h1:((k:Int) == 1)=false:=beq_eq_false_iff_ne.2 (by omega)
  have h6:((k:Int) == 6)=false:=beq_eq_false_iff_ne.2 (by omega)
  generalize (k:Int)=kk at *
  clear h hx
  go_enter Tryz.func29,Tryz.ntmps29
  go_wp2_with fail
  refine HK.mono ?_
  rintro e w2 ⟨rfl,F2⟩
  have H2:=oH F2
  clear HK F2
  go_wp2_with fail
  go_ret
  exact⟨rfl,H2.out.trans (Fr.alloc _ _) (by simp)⟩
end Go.Proofs.YtepfknfadpkigaaGreat
namespace Go.Proofs.YtepfknfadpkigaaGreat
open Go.RowKit
set_option maxHeartbeats 4000000
set_option maxRecDepth 100000
theorem qBo:Enters 29:=⟨_,_,Tryz.func29,by kernel_rfl,rfl⟩
theorem qBp:Enters 59:=⟨_,_,Tryz.func59,by kernel_rfl,rfl⟩
theorem zTf:Enters 47:=⟨_,_,Tryz.func47,by kernel_rfl,rfl⟩
theorem zTg:Enters 48:=⟨_,_,Tryz.func48,by kernel_rfl,rfl⟩
theorem zTh:Enters 49:=⟨_,_,Tryz.func49,by kernel_rfl,rfl⟩
theorem zTi:Enters 50:=⟨_,_,Tryz.func50,by kernel_rfl,rfl⟩
theorem zTj:Enters 52:=⟨_,_,Tryz.func52,by kernel_rfl,rfl⟩
theorem zTk:Enters 53:=⟨_,_,Tryz.func53,by kernel_rfl,rfl⟩
def LevI (c:Sc) (f:FuncId) (G:Nat→Re):Prop:=Enters f∧∀w i done Post b,SX c w i→i < c.ts.length→c.mb < b→b≤w.heap.size→ThS c b w (G i) done Post→Calls Tryz.prog f #[.pointer (some ⟨c.R,0,none⟩),done.val] w (GQ Post)
theorem zIp {t:TK} {e:List UInt8} (h:isW t e=true):t.1.x=e:=by
 unfold isW at h
 simp at h
 exact h.2
theorem zIq {t:TK} {e:List UInt8} (hk:t.1.k=6) (h:¬isW t e=true):(t.1.x == e)=false:=by
 unfold isW at h
 simp [hk] at h
 exact beq_eq_false_iff_ne.2 h
theorem zYm (c:Sc) (B:Nat→Re) (hB:CB c B) (hif:LevI c 45 (fun i=>(ifsM c.ts B (c.ts.length+1) [] i).re fun l=>.node (nd 62 (tk c.ts i) [] 0) l)) (hca:LevI c 46 (casM c.ts B)) (hfo:LevI c 51 (forM c.ts B)):ItmS c 29 (stmM c.ts B):=by
 refine⟨qBo,fun w i h=>(zTe c w i h).mono ?_⟩
 rintro e w' ⟨rfl,F⟩
 refine⟨F,?_⟩
 have fin:∀(f:Nat) (G:Nat→Re),LevI c f G→i < c.ts.length→∃L:FV,Ending.returned (.func (.func f) #[.pointer (some ⟨c.R,0,none⟩)] #[])=.returned L.val∧∀w2 done Post b,SX c w2 i→c.mb < b→b≤w2.heap.size→ThS c b w2 (G i) done Post→GoQ L done.val w2 Post :=
  fun f G hL hlt=>⟨⟨f,#[.pointer (some ⟨c.R,0,none⟩)],#[]⟩,rfl,fun w2 done Post b X hR hb hT=>⟨hL.1,hL.2 w2 i done Post b X hlt hR hb hT⟩⟩
 have hun:stmM c.ts B i=stmM c.ts B i:=rfl
 by_cases k1:(tk c.ts i).1.k=1
 ·have hs:stmM c.ts B i=some (namM c.ts i):=by unfold stmM;rw [if_pos k1]
  rw [hs,if_pos k1]
  exact⟨⟨59,#[.pointer (some ⟨c.R,0,none⟩)],#[]⟩,rfl,fun w2 done Post b X hR hb hT=>⟨qBp,zYh c w2 i done Post b X hR hb hT⟩⟩
 rw [if_neg k1]
 by_cases k6:(tk c.ts i).1.k=6
 ·rw [if_pos k6]
  have hlt:i < c.ts.length:=by
   rcases Nat.lt_or_ge i c.ts.length with h1 | h1
   ·exact h1
   ·rw [zCz h1] at k6
    exact absurd k6 (by decide)
  by_cases q0:isW (tk c.ts i) [73,70]=true
  ·have hs:stmM c.ts B i=some ((fun i=>(ifsM c.ts B (c.ts.length+1) [] i).re fun l=>.node (nd 62 (tk c.ts i) [] 0) l) i):=by unfold stmM;rw [if_neg k1,if_pos q0]
   have hv:lkV c.R (tk c.ts i).1.x=.func (.func 45) #[.pointer (some ⟨c.R,0,none⟩)] #[]:=by rw [zIp q0];rfl
   rw [hs,hv]
   exact fin _ (fun i=>(ifsM c.ts B (c.ts.length+1) [] i).re fun l=>.node (nd 62 (tk c.ts i) [] 0) l) hif hlt
  by_cases q1:isW (tk c.ts i) [67,65,83,69]=true
  ·have hs:stmM c.ts B i=some ((casM c.ts B) i):=by unfold stmM;rw [if_neg k1,if_neg q0,if_pos q1]
   have hv:lkV c.R (tk c.ts i).1.x=.func (.func 46) #[.pointer (some ⟨c.R,0,none⟩)] #[]:=by rw [zIp q1];rfl
   rw [hs,hv]
   exact fin _ (casM c.ts B) hca hlt
  by_cases q2:isW (tk c.ts i) [87,72,73,76,69]=true
  ·have hs:stmM c.ts B i=some ((whiM c.ts B) i):=by unfold stmM;rw [if_neg k1,if_neg q0,if_neg q1,if_pos q2]
   have hv:lkV c.R (tk c.ts i).1.x=.func (.func 47) #[.pointer (some ⟨c.R,0,none⟩)] #[]:=by rw [zIp q2];rfl
   rw [hs,hv]
   exact fin _ (whiM c.ts B) ⟨zTf,fun w i done Post b h1 h2 h3 h4 h5=>zXx c B hB w i done Post b h1 h2 h3 h4 h5⟩ hlt
  by_cases q3:isW (tk c.ts i) [82,69,80,69,65,84]=true
  ·have hs:stmM c.ts B i=some ((repM c.ts B) i):=by unfold stmM;rw [if_neg k1,if_neg q0,if_neg q1,if_neg q2,if_pos q3]
   have hv:lkV c.R (tk c.ts i).1.x=.func (.func 48) #[.pointer (some ⟨c.R,0,none⟩)] #[]:=by rw [zIp q3];rfl
   rw [hs,hv]
   exact fin _ (repM c.ts B) ⟨zTg,fun w i done Post b h1 h2 h3 h4 h5=>zYg c B hB w i done Post b h1 h2 h3 h4 h5⟩ hlt
  by_cases q4:isW (tk c.ts i) [76,79,79,80]=true
  ·have hs:stmM c.ts B i=some ((looM c.ts B) i):=by unfold stmM;rw [if_neg k1,if_neg q0,if_neg q1,if_neg q2,if_neg q3,if_pos q4]
   have hv:lkV c.R (tk c.ts i).1.x=.func (.func 49) #[.pointer (some ⟨c.R,0,none⟩)] #[]:=by rw [zIp q4];rfl
   rw [hs,hv]
   exact fin _ (looM c.ts B) ⟨zTh,fun w i done Post b h1 h2 h3 h4 h5=>zYb c B hB w i done Post b h1 h2 h3 h4 h5⟩ hlt
  by_cases q5:isW (tk c.ts i) [69,88,73,84]=true
  ·have hs:stmM c.ts B i=some ((exiM c.ts) i):=by unfold stmM;rw [if_neg k1,if_neg q0,if_neg q1,if_neg q2,if_neg q3,if_neg q4,if_pos q5]
   have hv:lkV c.R (tk c.ts i).1.x=.func (.func 50) #[.pointer (some ⟨c.R,0,none⟩)] #[]:=by rw [zIp q5];rfl
   rw [hs,hv]
   exact fin _ (exiM c.ts) ⟨zTi,fun w i done Post b h1 h2 h3 h4 h5=>zYc c w i done Post b h1 h2 h3 h4 h5⟩ hlt
  by_cases q6:isW (tk c.ts i) [70,79,82]=true
  ·have hs:stmM c.ts B i=some ((forM c.ts B) i):=by unfold stmM;rw [if_neg k1,if_neg q0,if_neg q1,if_neg q2,if_neg q3,if_neg q4,if_neg q5,if_pos q6]
   have hv:lkV c.R (tk c.ts i).1.x=.func (.func 51) #[.pointer (some ⟨c.R,0,none⟩)] #[]:=by rw [zIp q6];rfl
   rw [hs,hv]
   exact fin _ (forM c.ts B) hfo hlt
  by_cases q7:isW (tk c.ts i) [87,73,84,72]=true
  ·have hs:stmM c.ts B i=some ((witM c.ts B) i):=by unfold stmM;rw [if_neg k1,if_neg q0,if_neg q1,if_neg q2,if_neg q3,if_neg q4,if_neg q5,if_neg q6,if_pos q7]
   have hv:lkV c.R (tk c.ts i).1.x=.func (.func 52) #[.pointer (some ⟨c.R,0,none⟩)] #[]:=by rw [zIp q7];rfl
   rw [hs,hv]
   exact fin _ (witM c.ts B) ⟨zTj,fun w i done Post b h1 h2 h3 h4 h5=>zXz c B hB w i done Post b h1 h2 h3 h4 h5⟩ hlt
  by_cases q8:isW (tk c.ts i) [82,69,84,85,82,78]=true
  ·have hs:stmM c.ts B i=some ((retM c.ts) i):=by unfold stmM;rw [if_neg k1,if_neg q0,if_neg q1,if_neg q2,if_neg q3,if_neg q4,if_neg q5,if_neg q6,if_neg q7,if_pos q8]
   have hv:lkV c.R (tk c.ts i).1.x=.func (.func 53) #[.pointer (some ⟨c.R,0,none⟩)] #[]:=by rw [zIp q8];rfl
   rw [hs,hv]
   exact fin _ (retM c.ts) ⟨zTk,fun w i done Post b h1 h2 h3 h4 h5=>zYd c w i done Post b h1 h2 h3 h4 h5⟩ hlt
  have hs:stmM c.ts B i=none:=by unfold stmM;rw [if_neg k1,if_neg q0,if_neg q1,if_neg q2,if_neg q3,if_neg q4,if_neg q5,if_neg q6,if_neg q7,if_neg q8]
  have hv:lkV c.R (tk c.ts i).1.x=.nilFunc:=by
   have hl:wdT.lookup (tk c.ts i).1.x=none:=by
    unfold wdT
    simp only [List.lookup,zIq k6 q0,zIq k6 q1,zIq k6 q2,zIq k6 q3,zIq k6 q4,zIq k6 q5,zIq k6 q6,zIq k6 q7,zIq k6 q8]
   unfold lkV
   rw [hl]
  rw [hs,hv]
 ·rw [if_neg k6]
  have hw:∀e,¬isW (tk c.ts i) e=true:=fun e he=>by
   unfold isW at he
   simp [k6] at he
  have hs:stmM c.ts B i=none:=by unfold stmM;rw [if_neg k1,if_neg (hw _),if_neg (hw _),if_neg (hw _),if_neg (hw _),if_neg (hw _),if_neg (hw _),if_neg (hw _),if_neg (hw _),if_neg (hw _)]
  rw [hs]
end Go.Proofs.YtepfknfadpkigaaGreat
end
