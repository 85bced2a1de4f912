/- Several texts in one. -/
import Derived.Test.YtepfknfadpkigaaGreatPkAA
import Derived.Test.YtepfknfadpkigaaGreatPkAB
import Derived.Laws.EntriesVeiled
import Derived.Test.YtepfknfadpkigaaGreatPkAA
import Derived.Test.YtepfknfadpkigaaGreatPkAD
import Derived.StillTailTactics
import Derived.Deep.QuietTactic
import Derived.BigQuiet
import Derived.Deep.RegionHeld3
import Derived.Outline
import Derived.Deep.DeepCutAuto
import Derived.Lib.AtoiErrMem
set_option linter.unusedVariables false
set_option linter.unusedSimpArgs false
section
namespace Go.Proofs.YtepfknfadpkigaaGreat
open Go.RowKit
set_option maxHeartbeats 1000000
set_option maxRecDepth 100000
def Enters (f : FuncId) : Prop := ∃ fn c, Tryz.prog.funcs[f]? = some fn ∧ (fn.name == "runtime.NumGoroutine") = false ∧ fn.body = some c
theorem zAe {f:FuncId} (h:Enters f) (args:Array Value) (w:World):(callFunc f args).run Tryz.prog w=.ok (.enter f args) w:=by
 obtain⟨fn,c,h1,h2,h3⟩:=h
 have h4 : ¬ fn.name = "runtime.NumGoroutine" := by simpa using h2
 simp [callFunc,h1,h3,h4,go_sem]
def solid:Obj→Bool
 | .cells _ _ _=>true
 | .map _ _=>true
 | _=>false
structure Fc (B:Nat) (N:List Nat) (w w':World):Prop where
 os:w'.os=w.os
 tape:w'.tape=w.tape
 output:w'.output=w.output
 size:w.heap.size≤w'.heap.size
 old:∀k,k < B→w'.heap[k]?=w.heap[k]?
 block:∀(k:Nat) (o:Obj),w.heap[k]?=some o→solid o=true→k ∉ N→w'.heap[k]?=some o
theorem Fc.refl (B:Nat) (N:List Nat) (w:World):Fc B N w w:=⟨rfl,rfl,rfl,Nat.le_refl _,fun _ _=>rfl,fun _ _ h _ _=>h⟩
theorem Fc.trans {B:Nat} {M N:List Nat} {a b c:World} (h1:Fc B M a b) (h2:Fc B N b c) (h:∀j ∈ N,j ∈ M∨a.heap.size≤j):Fc B M a c :=
 ⟨h2.os.trans h1.os,h2.tape.trans h1.tape,h2.output.trans h1.output,Nat.le_trans h1.size h2.size,fun k hk=>(h2.old k hk).trans (h1.old k hk),fun k o ho hs hn=>h2.block k o (h1.block k o ho hs hn) hs (fun hm=>by
  rcases h k hm with h | h
  ·exact hn h
  ·have:=zAd ho;omega)⟩
theorem Fc.mono {B:Nat} {M N:List Nat} {a b:World} (h:Fc B M a b) (hs:∀j ∈ M,j ∈ N):Fc B N a b:=⟨h.os,h.tape,h.output,h.size,h.old,fun k o ho hs' hn=>h.block k o ho hs' (fun hm=>hn (hs k hm))⟩
theorem Fc.up {B:Nat} {N:List Nat} {a b:World} (h:Fc B [] a b):Fc B N a b:=h.mono (by simp)
theorem Fc.of_fr {B:Nat} {N:List Nat} {w w':World} (hF:Fr N w w') (hN:∀j ∈ N,B≤j) (hB:B≤w.heap.size):Fc B N w w' :=
 ⟨hF.os,hF.tape,hF.output,hF.size,fun k hk=>hF.block k (by omega) (fun hm=>by have:=hN k hm;omega),fun k o ho _ hn=>(hF.block k (zAd ho) hn).trans ho⟩
theorem Var.fc {B:Nat} {N:List Nat} {w w':World} {b:Nat} {T:TypeId} {v:Value} (h:Var w b T v) (hF:Fc B N w w') (hb:b ∉ N):Var w' b T v:=hF.block b _ h rfl hb
def stat:Obj→Bool
 | .cells _ T _=>T == 124||T == 37||T == 140
 | _=>true
def Kn (w w':World):Prop:=∀(j:Nat) (o:Obj),w.heap[j]?=some o→stat o=true→w'.heap[j]?=some o
theorem Kn.refl (w:World):Kn w w:=fun _ _ h _=>h
theorem Kn.trans {a b c:World} (h1:Kn a b) (h2:Kn b c):Kn a c:=fun j o h hs=>h2 j o (h1 j o h hs) hs
theorem Kn.of_fr {N:List Nat} {w w':World} (hF:Fr N w w') (hN:∀j ∈ N,∀o,w.heap[j]?=some o→stat o=false):Kn w w':=fun j o h hs=>(hF.block j (zAd h) (fun hm=>by rw [hN j hm o h] at hs;cases hs)).trans h
theorem Kn.fr0 {w w':World} (hF:Fr [] w w'):Kn w w':=Kn.of_fr hF (by simp)
def Runs (Post:World→Prop) (s:Value) (w:World):Prop:=∀K:Value→World→Prop,(∀w,Post w→K .nilFunc w) →
 (∀f first caps w,Enters f→Calls Tryz.prog f (first++caps) w (fun e w'=>∃s',e=.returned s'∧K s' w')→K (.func (.func f) first caps) w)→K s w
theorem Runs.nil {Post:World→Prop} {w:World} (h:Post w):Runs Post .nilFunc w:=fun _ h1 _=>h1 _ h
def GP (B:Nat) (Post:World→Prop) (w:World) (e:Ending) (w':World):Prop:=∃s,e=.returned s∧Kn w w'∧∀w2,Fc B [] w' w2→Runs Post s w2
theorem Runs.step {B:Nat} {Post:World→Prop} {f:FuncId} {first caps:Array Value} {w:World} (hE:Enters f) (h:Calls Tryz.prog f (first++caps) w (GP B Post w)):Runs Post (.func (.func f) first caps) w:=fun K h1 h2 =>
 h2 _ _ _ _ hE (h.mono fun e w' ⟨s,he,_,hr⟩=>⟨s,he,hr w' (Fc.refl _ _ _) K h1 h2⟩)
theorem zAv {B:Nat} {Post:World→Prop} {s:Value} {w w':World} (hk:Kn w w') (h:∀w2,Fc B [] w' w2→Runs Post s w2):GP B Post w (.returned s) w':=⟨s,rfl,hk,h⟩
theorem zEx {B:Nat} {Post:World→Prop} {w w':World} (hk:Kn w w') (h:∀w2,Fc B [] w' w2→Post w2):GP B Post w (.returned .nilFunc) w':=⟨_,rfl,hk,fun w2 hw=>Runs.nil (h w2 hw)⟩
structure FV where
 f:FuncId
 first:Array Value
 caps:Array Value
@[reducible] def FV.val (v:FV):Value:=.func (.func v.f) v.first v.caps
def Goes (B:Nat) (v:FV) (x:Value) (w:World) (Post:World→Prop):Prop:=Enters v.f∧Calls Tryz.prog v.f (v.first.push x++v.caps) w (GP B Post w)
theorem qCc:Enters 130:=⟨_,_,Tryz.func130,by kernel_rfl,rfl⟩
theorem qCd:Enters 131:=⟨_,_,Tryz.func131,by kernel_rfl,rfl⟩
theorem qCe:Enters 132:=⟨_,_,Tryz.func132,by kernel_rfl,rfl⟩
theorem qCf:Enters 133:=⟨_,_,Tryz.func133,by kernel_rfl,rfl⟩
theorem zUx (B bd bx:Nat) (done:FV) (x:Value) (w:World) (Post:World→Prop) (hd:Var w bd 124 done.val) (hx:Var w bx 26 x) (hG:Goes B done x w Post) :
  Calls Tryz.prog 133 #[.pointer (some ⟨bd,0,none⟩),.pointer (some ⟨bx,0,none⟩)] w (GP B Post w):=by
 have c1:=hd.c
 have c2:=hx.c
 obtain⟨df,d1,d2⟩:=done
 obtain⟨hE,hC⟩:=hG
 have hR:=zAe hE
 clear hd hx hE
 go_enter Tryz.func133,Tryz.ntmps133
 go_wp2_with fail
 refine hC.mono ?_
 rintro e w' ⟨s,rfl,hk,hr⟩
 go_wp2_with fail
 go_ret
 exact zAv hk hr
theorem zUy (B bd:Nat) (q:Option Addr) (w:World) (done:FV) (Post:World→Prop) (hB:B≤w.heap.size) (hd:Var w bd 124 done.val) (hG:∀w',Fc B [] w w'→Goes B done (.pointer q) w' Post) :
  Calls Tryz.prog 132 #[.pointer q,.pointer (some ⟨bd,0,none⟩)] w (GP B Post w):=by
 go_enter Tryz.func132,Tryz.ntmps132
 go_wp2_with fail
 go_ret
 have F:=Fr.alloc w (.cells #[.pointer q] 26)
 have FC:=Fc.of_fr F (B:=B) (by simp) hB
 refine zAv (Kn.fr0 F) (fun w2 h2=>Runs.step (B:=B) qCf ?_)
 have hx:Var (w.alloc (.cells #[.pointer q] 26)) w.heap.size 26 (.pointer q):=heap_alloc_new _ _
 exact zUx B bd _ done (.pointer q) w2 Post ((hd.fc FC (by simp)).fc h2 (by simp)) (hx.fc h2 (by simp)) (hG _ (FC.trans h2 (by simp)))
theorem zUz (B bi:Nat) (inner done:FV) (w:World) (Post:World→Prop) (hB:B≤w.heap.size) (hi:Var w bi 116 inner.val)
  (hG:∀w' bd,Fc B [] w w'→w.heap.size≤bd→Var w' bd 124 done.val→Goes B inner (FV.val ⟨132,#[],#[.pointer (some ⟨bd,0,none⟩)]⟩) w' Post) :
  Calls Tryz.prog 130 #[done.val,.pointer (some ⟨bi,0,none⟩)] w (GP B Post w):=by
 go_enter Tryz.func130,Tryz.ntmps130
 go_wp2_with fail
 go_ret
 have F:=Fr.alloc w (.cells #[done.val] 124)
 have FC:=Fc.of_fr F (B:=B) (by simp) hB
 refine zAv (Kn.fr0 F) (fun w1 h1=>Runs.step (B:=B) qCd ?_)
 have hD:Var (w.alloc (.cells #[done.val] 124)) w.heap.size 124 done.val:=heap_alloc_new _ _
 have FC1:=FC.trans h1 (by simp)
 have hI:=hi.fc FC1 (by simp)
 obtain⟨hE,hC⟩:=hG w1 w.heap.size FC1 (Nat.le_refl _) (hD.fc h1 (by simp))
 have c1:=hI.c
 have hR:=zAe hE
 obtain⟨f,i1,i2⟩:=inner
 clear hi hG F hI hD hE FC FC1 h1
 show Calls Tryz.prog 131 #[.pointer (some ⟨bi,0,none⟩),.pointer (some ⟨w.heap.size,0,none⟩)] w1 (GP B Post w1)
 go_enter Tryz.func131,Tryz.ntmps131
 go_wp2_with fail
 refine hC.mono ?_
 rintro e w' ⟨s,rfl,hk,hr⟩
 go_wp2_with fail
 go_ret
 exact zAv hk hr
end Go.Proofs.YtepfknfadpkigaaGreat
namespace Go.Proofs.YtepfknfadpkigaaGreat
open Go.RowKit
set_option maxHeartbeats 1000000
def zTK:TK:=(⟨0,[],0⟩,(0,0),(0,0))
def tk (ts:List TK) (i:Nat):TK:=(ts[i]?).getD zTK
def isS (t:TK) (s:List UInt8):Bool:=t.1.k == 5&&t.1.x == s
def isO (tb:List (List UInt8 × Nat)) (t:TK):Bool:=tb.lookup t.1.x == some t.1.k
inductive Re where
 | ok (t:DT) (j:Nat)
 | bad (j:Nat)
 | out
inductive ReL where
 | ok (l:List DT) (j:Nat)
 | bad (j:Nat)
 | out
def nd (k:Nat) (t:TK) (x:List UInt8) (n:Int):ND:=⟨k,t.2.1.1,t.2.1.2,x,n⟩
def relT:List (List UInt8 × Nat):=[([73,78],6),([62,61],5),([62],5),([60,61],5),([60],5),([35],5),([61],5)]
def signT:List (List UInt8 × Nat):=[([45],5),([43],5)]
def sumT:List (List UInt8 × Nat):=[([79,82],6),([45],5),([43],5)]
def mulT:List (List UInt8 × Nat):=[([65,78,68],6),([77,79,68],6),([68,73,86],6),([47],5),([42],5)]
def notT:List (List UInt8 × Nat):=[([78,79,84],6)]
section
variable (ts:List TK)
def dotM (x:DT) (i:Nat):Option DT:=if (tk ts (i+1)).1.k=1 then some (.node (nd 2 (tk ts i) (tk ts (i+1)).1.x 0) [x]) else none
def dotsM:Nat→DT→Nat→Re
 | 0,_,_=>.out
 | m+1,x,i=>if isS (tk ts i) [46] then (match dotM ts x i with | some y=>dotsM m y (i+2) | none=>.bad (i+1)) else .ok x i
def qualM (i:Nat):Re:=if (tk ts i).1.k=1 then dotsM ts (ts.length+1) (.node (nd 1 (tk ts i) (tk ts i).1.x 0) []) (i+1) else .bad i
def selM (E:Nat→Re):Nat→Bool→DT→Nat→Re
 | 0,_,_,_=>.out
 | m+1,false,x,i =>
  if isS (tk ts i) [46] then (match dotM ts x i with | some y=>selM E m false y (i+2) | none=>.bad (i+1))
  else if isS (tk ts i) [94] then selM E m false (.node (nd 4 (tk ts i) [] 0) [x]) (i+1)
  else if isS (tk ts i) [91] then selM E m true x i
  else .ok x i
 | m+1,true,x,i =>
  match E (i+1) with
  | .ok e j =>
   if isS (tk ts j) [44] then selM E m true (.node (nd 3 (tk ts i) [] 0) [x,e]) j
   else if isS (tk ts j) [93] then selM E m false (.node (nd 3 (tk ts i) [] 0) [x,e]) (j+1)
   else .bad j
  | .bad j=>.bad j
  | .out=>.out
def lstM (I:Nat→Re):Nat→List DT→Nat→ReL
 | 0,_,_=>.out
 | m+1,acc,i =>
  match I i with
  | .ok t j=>if isS (tk ts j) [44] then lstM I m (acc++[t]) (j+1) else .ok (acc++[t]) j
  | .bad j=>.bad j
  | .out=>.out
def elTl (E:Nat→Re) (t:TK) (lo:DT) (j:Nat):Re :=
 if isS (tk ts j) [46,46] then (match E (j+1) with | .ok hi k=>.ok (.node (nd 9 t [] 0) [lo,hi]) k | .bad k=>.bad k | .out=>.out) else .ok lo j
def elemM (E:Nat→Re) (i:Nat):Re :=
 match E i with
 | .ok lo j=>elTl ts E (tk ts i) lo j
 | .bad j=>.bad j
 | .out=>.out
def withM (e:List UInt8) (I:Nat→Re) (i:Nat):ReL :=
 if isS (tk ts (i+1)) e then .ok [] (i+2)
 else match lstM ts I (ts.length+1) [] (i+1) with
  | .ok l j=>if isS (tk ts j) e then .ok l (j+1) else .bad j
  | .bad j=>.bad j
  | .out=>.out
def ReL.re (f:List DT→DT):ReL→Re
 | .ok l j=>.ok (f l) j
 | .bad j=>.bad j
 | .out=>.out
def dt0:DT:=.node ⟨0,0,0,[],0⟩ []
def setM (E:Nat→Re) (p:TK) (o:Option DT) (i:Nat):Re:=(withM ts [125] (elemM ts E) i).re fun l=>.node (nd 8 p [] 0) (o.getD dt0::l)
def callM (E:Nat→Re) (x:DT) (i:Nat):Re:=(withM ts [41] E i).re fun l=>.node (nd 10 (tk ts i) [] 0) (x::l)
def desM (E:Nat→Re) (i:Nat):Re :=
 match qualM ts i with
 | .ok x j=>selM ts E (2 * ts.length+2) false x j
 | .bad j=>.bad j
 | .out=>.out
def labM (E:Nat→Re) (i:Nat):Re:=(lstM ts (elemM ts E) (ts.length+1) [] i).re fun l=>.node (nd 29 (tk ts i) [] 0) l
def nmdM (E:Nat→Re) (i:Nat):Re :=
 match qualM ts i with
 | .ok x j =>
  if isS (tk ts j) [123] then setM ts E (tk ts i) (some x) j
  else match selM ts E (2 * ts.length+2) false x j with
   | .ok y k=>if isS (tk ts k) [40] then callM ts E y k else .ok y k
   | .bad k=>.bad k
   | .out=>.out
 | .bad j=>.bad j
 | .out=>.out
def operM (E:Nat→Re) (i:Nat):Re :=
 if (tk ts i).1.k=1 then nmdM ts E i
 else if (tk ts i).1.k=2 then .ok (.node (nd 5 (tk ts i) [] (tk ts i).1.n) []) (i+1)
 else if (tk ts i).1.k=3 then .ok (.node (nd 6 (tk ts i) [] (tk ts i).1.n) []) (i+1)
 else if (tk ts i).1.k=4 then .ok (.node (nd 7 (tk ts i) (tk ts i).1.x 0) []) (i+1)
 else if isS (tk ts i) [123] then setM ts E (tk ts i) none i
 else if isS (tk ts i) [40] then
  match E (i+1) with
  | .ok x j=>if isS (tk ts j) [41] then .ok x (j+1) else .bad j
  | .bad j=>.bad j
  | .out=>.out
 else .bad i
def opsM (tb:List (List UInt8 × Nat)):Nat→Nat→Nat
 | 0,_=>0
 | m+1,i=>if isO tb (tk ts i) then opsM tb m (i+1)+1 else 0
def wrapM (i:Nat):Nat→DT→DT
 | 0,x=>x
 | n+1,x=>wrapM i n (.node (nd 12 (tk ts (i+n)) (tk ts (i+n)).1.x 0) [x])
def aheadM (tb:List (List UInt8 × Nat)) (again:Bool) (next:Nat→Re) (i:Nat):Re :=
 match next (i+opsM ts tb (if again then ts.length+1 else 1) i) with
 | .ok x j=>.ok (wrapM ts i (opsM ts tb (if again then ts.length+1 else 1) i) x) j
 | .bad j=>.bad j
 | .out=>.out
def moreM (tb:List (List UInt8 × Nat)) (again:Bool) (next:Nat→Re):Nat→DT→Nat→Re
 | 0,_,_=>.out
 | m+1,x,i =>
  if isO tb (tk ts i) then
   match next (i+1) with
   | .ok y j=>if again then moreM tb again next m (.node (nd 11 (tk ts i) (tk ts i).1.x 0) [x,y]) j else .ok (.node (nd 11 (tk ts i) (tk ts i).1.x 0) [x,y]) j
   | .bad j=>.bad j
   | .out=>.out
  else .ok x i
def betwM (tb:List (List UInt8 × Nat)) (again:Bool) (first next:Nat→Re) (i:Nat):Re :=
 match first i with
 | .ok x j=>moreM ts tb again next (ts.length+1) x j
 | .bad j=>.bad j
 | .out=>.out
def facM (E:Nat→Re):Nat→Re:=aheadM ts notT true (operM ts E)
def termM (E:Nat→Re):Nat→Re:=betwM ts mulT true (facM ts E) (facM ts E)
def simM (E:Nat→Re):Nat→Re:=betwM ts sumT true (aheadM ts signT false (termM ts E)) (termM ts E)
def exM (E:Nat→Re):Nat→Re:=betwM ts relT false (simM ts E) (simM ts E)
def exprM:Nat→Nat→Re
 | 0,_=>.out
 | n+1,i=>exM ts (exprM n) i
end
end Go.Proofs.YtepfknfadpkigaaGreat
namespace Go.Proofs.YtepfknfadpkigaaGreat
open Go.RowKit
set_option maxHeartbeats 2000000
set_option maxRecDepth 100000
def RowAt (w:World) (B:Nat) (v:Value) (ts:List TK):Prop:=∃q cap,v=.slice q ts.length cap∧∀i x,ts[i]?=some x→∃g,q=some ⟨g,0,none⟩∧g < B∧g < w.heap.size ∧
  w.cell? ⟨g,i * 5,none⟩=some (.int .u8 x.1.k)∧w.cell? ⟨g,i * 5+1,none⟩=some (posV x.2.1.1 x.2.1.2)∧w.cell? ⟨g,i * 5+2,none⟩=some (posV x.2.2.1 x.2.2.2)∧w.cell? ⟨g,i * 5+3,none⟩=some (.string ⟨x.1.x.toArray⟩)∧w.cell? ⟨g,i * 5+4,none⟩=some (.int .i64 x.1.n)
theorem RowAt.fc {w w':World} {B:Nat} {v:Value} {ts:List TK} {N:List Nat} (h:RowAt w B v ts) (hF:Fc B N w w'):RowAt w' B v ts:=by
 obtain⟨q,cap,h1,h2⟩:=h
 refine⟨q,cap,h1,fun i x hx=>?_⟩
 obtain⟨g,e,hg,hg2,c0,c1,c2,c3,c4⟩:=h2 i x hx
 have hb:=hF.old g hg
 exact⟨g,e,hg,Nat.lt_of_lt_of_le hg2 hF.size,(World.cell?_of_block (a:=⟨g,_,none⟩) hb).trans c0,(World.cell?_of_block (a:=⟨g,_,none⟩) hb).trans c1,(World.cell?_of_block (a:=⟨g,_,none⟩) hb).trans c2,(World.cell?_of_block (a:=⟨g,_,none⟩) hb).trans c3,(World.cell?_of_block (a:=⟨g,_,none⟩) hb).trans c4⟩
structure Cx where
 ts:List TK
 rv:Value
 ev:Value
 R:Nat
 B:Nat
 W0:World
 hBR:B≤R
 S:World→Prop
 keepS:∀w w',S w→Fc B [R] w w'→S w'
structure RX (c:Cx) (w:World) (i:Nat):Prop where
 rd:w.heap[c.R]?=some (.cells #[c.rv,.int .i64 i,c.ev] 118 (0,0))
 row:RowAt w c.B c.rv c.ts
 st:c.S w
 le:i≤16384
 tl:c.ts.length≤16384
 tx:∀x ∈ c.ts,x.1.x.length≤65536
 hist:Below c.B c.W0 w
theorem RX.lt {c:Cx} {w:World} {i:Nat} (h:RX c w i):c.R < w.heap.size:=zAd h.rd
theorem RX.hB {c:Cx} {w:World} {i:Nat} (h:RX c w i):c.B≤w.heap.size:=by have:=h.lt;have:=c.hBR;omega
theorem Fc.bel {B:Nat} {N:List Nat} {w w':World} (h:Fc B N w w'):Below B w w':=⟨h.os,h.tape,h.output,h.size,fun k hk=>h.old k hk⟩
theorem RX.via {c:Cx} {w w':World} {i j:Nat} (h:RX c w i) (hF:Fc c.B [c.R] w w') (hrd:w'.heap[c.R]?=some (.cells #[c.rv,.int .i64 j,c.ev] 118 (0,0))) (hj:j≤16384):RX c w' j :=
 ⟨hrd,h.row.fc hF,c.keepS _ _ h.st hF,hj,h.tl,h.tx,h.hist.trans hF.bel⟩
theorem RX.keepC {c:Cx} {w w':World} {i:Nat} (h:RX c w i) (hF:Fc c.B [] w w'):RX c w' i:=h.via hF.up (hF.block _ _ h.rd rfl (by simp)) h.le
theorem RX.fc {c:Cx} {w w':World} {i:Nat} (h:RX c w i) (hF:Fr [] w w'):Fc c.B [] w w':=Fc.of_fr hF (by simp) h.hB
theorem RX.fcR {c:Cx} {w w':World} {i:Nat} (h:RX c w i) (hF:Fr [c.R] w w'):Fc c.B [c.R] w w':=Fc.of_fr hF (by simp;exact c.hBR) h.hB
theorem RX.knR {c:Cx} {w w':World} {i:Nat} (h:RX c w i) (hF:Fr [c.R] w w'):Kn w w':=Kn.of_fr hF (fun j hj o ho=>by
 obtain rfl:j=c.R:=by simpa using hj
 rw [h.rd] at ho;cases ho;rfl)
theorem RX.keep {c:Cx} {w w':World} {i:Nat} (h:RX c w i) (hF:Fr [] w w'):RX c w' i:=h.keepC (h.fc hF)
theorem RX.c0 {c:Cx} {w:World} {i:Nat} (h:RX c w i):w.cell? ⟨c.R,0,none⟩=some c.rv:=by rw [Lib.cell_of_heap h.rd];rfl
theorem RX.c1 {c:Cx} {w:World} {i:Nat} (h:RX c w i):w.cell? ⟨c.R,1,none⟩=some (.int .i64 i):=by rw [Lib.cell_of_heap h.rd];rfl
theorem RX.c2 {c:Cx} {w:World} {i:Nat} (h:RX c w i):w.cell? ⟨c.R,2,none⟩=some c.ev:=by rw [Lib.cell_of_heap h.rd];rfl
theorem RX.f {c:Cx} {w:World} {i:Nat} (h:RX c w i) (k:Nat):w.frozen? ⟨c.R,k,none⟩=false:=Lib.frozen_of_heap h.rd k
theorem RX.next {c:Cx} {w:World} {i:Nat} (h:RX c w i) (hi:i < c.ts.length):RX c (w.setCell ⟨c.R,1,none⟩ (.int .i64 ((i:Int)+1))) (i+1) :=
 h.via (h.fcR (Fr.set w c.R 1 _)) (by simp [World.setCell,Array.getElem?_modify,h.rd]) (by have:=h.tl;omega)
theorem RX.far {c:Cx} {w w4 w5:World} {i j:Nat} (hX:RX c w4 j) (h:RX c w i) (F14:Fr [c.R] w w4) (F45:Fr [w.heap.size] w4 w5):RX c w5 j:=by
 have hl:=h.lt
 have hRn:c.R ∉ [w.heap.size]:=by simp;omega
 exact h.via (h.fcR (F14.trans F45 (fun j hj=>.inr (by simp at hj;omega)))) ((F45.block _ hX.lt hRn).trans hX.rd) hX.le
def tkV (t:TK):Value:=.agg #[.int .u8 t.1.k,posV t.2.1.1 t.2.1.2,posV t.2.2.1 t.2.2.2,.string ⟨t.1.x.toArray⟩,.int .i64 t.1.n]
theorem zFw {ts:List TK} {i:Nat} (h:i < ts.length):ts[i]?=some (tk ts i):=by
 unfold tk
 rw [List.getElem?_eq_getElem h];rfl
theorem zCz {ts:List TK} {i:Nat} (h:ts.length≤i):tk ts i=zTK:=by
 unfold tk
 rw [List.getElem?_eq_none h];rfl
theorem Fr.cellE {w w':World} (hF:Fr [] w w') {a:Addr} {v:Value} (h:w.cell? a=some v):w'.cell? a=some v :=
 (World.cell?_of_block (hF.block a.block (Lib.lt_of_cell h) (by simp))).trans h
theorem Fr.bl {w w':World} (hF:Fr [] w w'):Below w.heap.size w w':=hF.below _ (by simp) (Nat.le_refl _)
theorem zDd {w w':World} {b:Nat} (h:Fr [] w w') (hb:w.heap.size≤b) (u0 u1 u2 u3 u4:Value):Fr [] w (((((w'.setCell ⟨b,0,none⟩ u0).setCell ⟨b,1,none⟩ u1).setCell ⟨b,2,none⟩ u2).setCell ⟨b,3,none⟩ u3).setCell ⟨b,4,none⟩ u4) :=
 Fr.of_below (zAw h.bl hb u0 u1 u2 u3 u4)
theorem zBh (c:Cx) (w:World) (i:Nat) (h:RX c w i) :
  Calls Tryz.prog 123 #[.pointer (some ⟨c.R,0,none⟩)] w fun e w'=>e=.returned (tkV (tk c.ts i))∧Fr [] w w':=by
 have c0:=h.c0
 have c1:=h.c1
 obtain⟨q,cap,hrv,hrow⟩:=h.row
 rw [hrv] at c0
 have hle:=h.le
 have htl:=h.tl
 have hlt:=h.lt
 have hsc:=fun w a x y m=>zAg (P:=Tryz.prog) w a .f64 x y m
 have FA:=oH (Fr.alloc w (.cells #[.int .u8 0,.complex .f64 0 0,.complex .f64 0 0,.string ⟨#[]⟩,.int .i64 0] 71))
 have A0:=oH (Fv.new w (.int .u8 0) (.complex .f64 0 0) (.complex .f64 0 0) (.string ⟨#[]⟩) (.int .i64 0) 71 w.heap.size rfl)
 obtain⟨L,hL⟩:∃L,c.ts.length=L:=⟨_,rfl⟩
 rw [hL] at c0 htl
 by_cases hi:i < c.ts.length
 ·obtain⟨g,rfl,hg,hg2,k0,k1,k2,k3,k4⟩:=hrow i _ (zFw hi)
  rw [hL] at hi
  have HR:Hid (tkV (tk c.ts i)=.agg #[.int .u8 (tk c.ts i).1.k,posV (tk c.ts i).2.1.1 (tk c.ts i).2.1.2,posV (tk c.ts i).2.2.1 (tk c.ts i).2.2.2,.string ⟨(tk c.ts i).1.x.toArray⟩,.int .i64 (tk c.ts i).1.n]):=oH rfl
  obtain⟨x1,y1,e1⟩:=zAc (tk c.ts i).2.1.1 (tk c.ts i).2.1.2
  obtain⟨x2,y2,e2⟩:=zAc (tk c.ts i).2.2.1 (tk c.ts i).2.2.2
  rw [e1,e2] at HR
  rw [e1] at k1
  rw [e2] at k2
  have ht:¬((L:Int)≤(i:Int)):=by omega
  have hi0:(0:Int)≤(i:Int):=by omega
  have hi1:(i:Int) < (L:Int):=by omega
  generalize tkV (tk c.ts i)=tv at *
  generalize ((tk c.ts i).1.k:Int)=t0 at *
  generalize (⟨(tk c.ts i).1.x.toArray⟩:ByteArray)=t3 at *
  generalize (tk c.ts i).1.n=t4 at *
  clear hrow hrv hL e1 e2 h
  go_enter Tryz.func123,Tryz.ntmps123
  go_wp2_with fail
  go_quiet (fail)
  go_wp2_with fail
  obtain⟨wS,hwS⟩:∃wS,(w.alloc (.cells #[.int .u8 0,.complex .f64 0 0,.complex .f64 0 0,.string ⟨#[]⟩,.int .i64 0] 71)).drewN nq=wS:=⟨_,rfl⟩
  have FS:Fr [] w wS:=by rw [← hwS];exact FA.out.trans (Fr.drewN _ _) (by simp)
  have AS:Fv wS w.heap.size (.int .u8 0) (.complex .f64 0 0) (.complex .f64 0 0) (.string ⟨#[]⟩) (.int .i64 0):=by
   rw [← hwS];exact⟨A0.out.c0,A0.out.c1,A0.out.c2,A0.out.c3,A0.out.c4,A0.out.f0,A0.out.f1,A0.out.f2,A0.out.f3,A0.out.f4⟩
  rw [hwS]
  have HWS:=oH (oA FS AS)
  have c0:=FS.cellE c0
  have c1:=FS.cellE c1
  have k0:=FS.cellE k0
  have k1:=FS.cellE k1
  have k2:=FS.cellE k2
  have k3:=FS.cellE k3
  have k4:=FS.cellE k4
  clear hwS FS AS
  go_still_tail 10,(by kernel_rfl)
  change wpList _ _ _ _ _ wS.drew
  have AD:=HWS.out.2
  have a0:=AD.c0
  have a1:=AD.c1
  have a2:=AD.c2
  have a3:=AD.c3
  have a4:=AD.c4
  have b0:=AD.f0
  have b1:=AD.f1
  have b2:=AD.f2
  have b3:=AD.f3
  have b4:=AD.f4
  have HAD:=oH AD
  clear AD
  go_wp2_with fail
  have R5:=(((((HAD.out.set0 (.int .u8 t0)).set1 (.complex .f64 x1 y1)).set2 (.complex .f64 x2 y2)).set3 (.string t3)).set4 (.int .i64 t4))
  have r0:=R5.c0
  have r1:=R5.c1
  have r2:=R5.c2
  have r3:=R5.c3
  have r4:=R5.c4
  refine bodyPost_ret (v:=.agg #[.int .u8 t0,.complex .f64 x1 y1,.complex .f64 x2 y2,.string t3,.int .i64 t4]) (by simp [results,Tryz.results123,go_sem,r0,r1,r2,r3,r4]) rfl ?_
  exact⟨by rw [HR.out],(zDd HWS.out.1 (Nat.le_refl _) _ _ _ _ _).trans (Fr.drew _) (by simp)⟩
 ·rw [zCz (by omega)]
  rw [hL] at hi
  have ht:(L:Int)≤(i:Int):=by omega
  have HR:Hid (tkV zTK=.agg #[.int .u8 0,.complex .f64 0 0,.complex .f64 0 0,.string ⟨#[]⟩,.int .i64 0]):=oH rfl
  generalize tkV zTK=tv at *
  clear hrow hrv hL h
  go_enter Tryz.func123,Tryz.ntmps123
  go_wp2_with fail
  go_quiet (fail)
  obtain⟨wS,hwS⟩:∃wS,(w.alloc (.cells #[.int .u8 0,.complex .f64 0 0,.complex .f64 0 0,.string ⟨#[]⟩,.int .i64 0] 71)).drewN nq=wS:=⟨_,rfl⟩
  have FS:Fr [] w wS:=by rw [← hwS];exact FA.out.trans (Fr.drewN _ _) (by simp)
  have AD:Fv wS w.heap.size (.int .u8 0) (.complex .f64 0 0) (.complex .f64 0 0) (.string ⟨#[]⟩) (.int .i64 0):=by
   rw [← hwS];exact⟨A0.out.c0,A0.out.c1,A0.out.c2,A0.out.c3,A0.out.c4,A0.out.f0,A0.out.f1,A0.out.f2,A0.out.f3,A0.out.f4⟩
  rw [hwS]
  have HWS:=oH (oA FS AD)
  have a0:=AD.c0
  have a1:=AD.c1
  have a2:=AD.c2
  have a3:=AD.c3
  have a4:=AD.c4
  have b0:=AD.f0
  have b1:=AD.f1
  have b2:=AD.f2
  have b3:=AD.f3
  have b4:=AD.f4
  clear hwS FS AD
  go_wp2_with fail
  have R5:=(((((HWS.out.2.set0 (.int .u8 0)).set1 (.complex .f64 0 0)).set2 (.complex .f64 0 0)).set3 (.string ⟨#[]⟩)).set4 (.int .i64 0))
  have r0:=R5.c0
  have r1:=R5.c1
  have r2:=R5.c2
  have r3:=R5.c3
  have r4:=R5.c4
  refine bodyPost_ret (v:=.agg #[.int .u8 0,.complex .f64 0 0,.complex .f64 0 0,.string ⟨#[]⟩,.int .i64 0]) (by simp [results,Tryz.results123,go_sem,r0,r1,r2,r3,r4]) rfl ?_
  exact⟨by rw [HR.out],zDd HWS.out.1 (Nat.le_refl _) _ _ _ _ _⟩
theorem Fv.fr {w w':World} {b:Nat} {v0 v1 v2 v3 v4:Value} {N:List Nat} (h:Fv w b v0 v1 v2 v3 v4) (hF:Fr N w w') (hb:b ∉ N):Fv w' b v0 v1 v2 v3 v4:=by
 have hl:=hF.block b (Lib.lt_of_cell h.c0) hb
 have hc:=fun k=>World.cell?_of_block (w:=w) (w':=w') (a:=⟨b,k,none⟩) hl
 have hf:=fun k=>World.frozen?_of_block (w:=w) (w':=w') (a:=⟨b,k,none⟩) hl
 exact⟨(hc 0).trans h.c0,(hc 1).trans h.c1,(hc 2).trans h.c2,(hc 3).trans h.c3,(hc 4).trans h.c4,(hf 0).trans h.f0,(hf 1).trans h.f1,(hf 2).trans h.f2,(hf 3).trans h.f3,(hf 4).trans h.f4⟩
theorem zBv (c:Cx) (w:World) (i:Nat) (h:RX c w i) (hi:i < c.ts.length) :
  Calls Tryz.prog 124 #[.pointer (some ⟨c.R,0,none⟩)] w fun e w'=>e=.returned (tkV (tk c.ts i))∧Fr [c.R] w w'∧RX c w' (i+1):=by
 have hsc:=fun w a x y m=>zAg (P:=Tryz.prog) w a .f64 x y m
 have F1:=Fr.alloc w (.cells #[.int .u8 0,.complex .f64 0 0,.complex .f64 0 0,.string ⟨#[]⟩,.int .i64 0] 71)
 have A1:=Fv.new w (.int .u8 0) (.complex .f64 0 0) (.complex .f64 0 0) (.string ⟨#[]⟩) (.int .i64 0) 71 w.heap.size rfl
 have HH:=zBh c _ i (h.keep F1)
 have hR:=h.lt
 have hle:=h.le
 have hw1:wrap64 ((i:Int)+1)=(i:Int)+1:=w64 _ (by omega) (by omega)
 have HR:Hid (tkV (tk c.ts i)=.agg #[.int .u8 (tk c.ts i).1.k,posV (tk c.ts i).2.1.1 (tk c.ts i).2.1.2,posV (tk c.ts i).2.2.1 (tk c.ts i).2.2.2,.string ⟨(tk c.ts i).1.x.toArray⟩,.int .i64 (tk c.ts i).1.n]):=oH rfl
 obtain⟨x1,y1,e1⟩:=zAc (tk c.ts i).2.1.1 (tk c.ts i).2.1.2
 obtain⟨x2,y2,e2⟩:=zAc (tk c.ts i).2.2.1 (tk c.ts i).2.2.2
 rw [e1,e2] at HR
 rw [HR.out] at HH ⊢
 clear e1 e2 HR
 generalize ((tk c.ts i).1.k:Int)=t0 at *
 generalize (⟨(tk c.ts i).1.x.toArray⟩:ByteArray)=t3 at *
 generalize (tk c.ts i).1.n=t4 at *
 have H1:=oH (oA h (oA F1 A1))
 clear h F1 A1
 go_enter Tryz.func124,Tryz.ntmps124
 go_wp2_with fail
 refine HH.mono ?_
 rintro e w2 ⟨rfl,F2⟩
 have H2:=oH F2
 have hR2:c.R < w2.heap.size:=by have:=F2.size;simp at this;omega
 clear HH F2
 go_upto_region 2 with fail
 obtain⟨w3,hw3⟩:∃w3,w2.alloc (.cells #[.int .u8 t0,.complex .f64 x1 y1,.complex .f64 x2 y2,.string t3,.int .i64 t4] 71)=w3:=⟨_,rfl⟩
 have F3:Fr [] w2 w3:=by rw [← hw3];exact Fr.alloc _ _
 have T3:Fv w3 w2.heap.size (.int .u8 t0) (.complex .f64 x1 y1) (.complex .f64 x2 y2) (.string t3) (.int .i64 t4):=by rw [← hw3];exact Fv.new _ _ _ _ _ _ _ _ rfl
 rw [hw3]
 obtain⟨h,F1,A1⟩:=H1.out
 have X3:=((h.keep F1).keep H2.out).keep F3
 have A3:=(A1.fr H2.out (by simp)).fr F3 (by simp)
 have c1:=X3.c1
 have f1:=X3.f 1
 have H3:=oH (oA X3 (oA A3 (oA T3 F3)))
 clear h F1 A1 F3 T3 X3 A3 hw3
 go_upto_region 3 with fail
 obtain⟨w4,hw4⟩:∃w4,w3.setCell ⟨c.R,1,none⟩ (.int .i64 ((i:Int)+1))=w4:=⟨_,rfl⟩
 have F4:=Fr.set w3 c.R 1 (.int .i64 ((i:Int)+1))
 have X4:=H3.out.1.next hi
 rw [hw4] at F4 X4 ⊢
 have A4:=H3.out.2.1.fr F4 (by simp;omega)
 have T4:=H3.out.2.2.1.fr F4 (by simp;omega)
 have a0:=A4.c0
 have a1:=A4.c1
 have a2:=A4.c2
 have a3:=A4.c3
 have a4:=A4.c4
 have b0:=A4.f0
 have b1:=A4.f1
 have b2:=A4.f2
 have b3:=A4.f3
 have b4:=A4.f4
 have d0:=T4.c0
 have d1:=T4.c1
 have d2:=T4.c2
 have d3:=T4.c3
 have d4:=T4.c4
 have H4:=oH (oA F4 (oA X4 A4))
 clear F4 X4 A4 T4 hw4 c1 f1
 go_wp2_with fail
 have R5:=(((((H4.out.2.2.set0 (.int .u8 t0)).set1 (.complex .f64 x1 y1)).set2 (.complex .f64 x2 y2)).set3 (.string t3)).set4 (.int .i64 t4))
 have r0:=R5.c0
 have r1:=R5.c1
 have r2:=R5.c2
 have r3:=R5.c3
 have r4:=R5.c4
 refine bodyPost_ret (v:=.agg #[.int .u8 t0,.complex .f64 x1 y1,.complex .f64 x2 y2,.string t3,.int .i64 t4]) (by simp [results,Tryz.results124,go_sem,r0,r1,r2,r3,r4]) rfl ?_
 obtain⟨h,F1,A1⟩:=H1.out
 have F14:Fr [c.R] w w4:=((((F1.trans H2.out (by simp)).trans H3.out.2.2.2 (by simp)).mono (by simp)).trans H4.out.1 (fun j hj=>.inl hj))
 have F45:Fr [w.heap.size] w4 _:=Fr.trans (Fr.trans (Fr.trans (Fr.trans (Fr.set w4 w.heap.size 0 (.int .u8 t0)) (Fr.set _ w.heap.size 1 (.complex .f64 x1 y1)) (fun j hj=>.inl hj)) (Fr.set _ w.heap.size 2 (.complex .f64 x2 y2)) (fun j hj=>.inl hj)) (Fr.set _ w.heap.size 3 (.string t3)) (fun j hj=>.inl hj)) (Fr.set _ w.heap.size 4 (.int .i64 t4)) (fun j hj=>.inl hj)
 exact⟨rfl,F14.trans F45 (fun j hj=>.inr (by simp at hj;omega)),H4.out.2.1.far h F14 F45⟩
theorem zAm {ts:List TK} {i:Nat} {s:List UInt8} (h:isS (tk ts i) s=true):i < ts.length:=by
 rcases Nat.lt_or_ge i ts.length with h1 | h1
 ·exact h1
 ·rw [zCz h1] at h
  simp [isS,zTK] at h
theorem zCg (x s:List UInt8):((⟨x.toArray⟩:ByteArray).toList == (⟨s.toArray⟩:ByteArray).toList)=(x == s):=by
 rw [ByteArray.toList_eq,ByteArray.toList_eq]
theorem zBg (c:Cx) (w:World) (i:Nat) (s:List UInt8) (h:RX c w i) :
  Calls Tryz.prog 125 #[.pointer (some ⟨c.R,0,none⟩),.string ⟨s.toArray⟩] w fun e w'=>e=.returned (.bool (isS (tk c.ts i) s))∧Fr [] w w':=by
 have hsc:=fun w a x y m=>zAg (P:=Tryz.prog) w a .f64 x y m
 have HH:=zBh c w i h
 have hq:=zCg (tk c.ts i).1.x s
 have HI:Hid (isS (tk c.ts i) s=((tk c.ts i).1.k == 5&&(tk c.ts i).1.x == s)):=oH rfl
 obtain⟨x1,y1,e1⟩:=zAc (tk c.ts i).2.1.1 (tk c.ts i).2.1.2
 obtain⟨x2,y2,e2⟩:=zAc (tk c.ts i).2.2.1 (tk c.ts i).2.2.2
 unfold tkV at HH
 rw [e1,e2] at HH
 have hk:(((tk c.ts i).1.k:Int) == 5)=((tk c.ts i).1.k == 5):=by
  by_cases hh:(tk c.ts i).1.k=5
  ·rw [hh];rfl
  ·rw [beq_eq_false_iff_ne.2 hh,beq_eq_false_iff_ne.2 (by omega)]
 rw [HI.out]
 obtain⟨kb,hkb⟩:∃kb,((tk c.ts i).1.k == 5)=kb:=⟨_,rfl⟩
 obtain⟨xb,hxb⟩:∃xb,((tk c.ts i).1.x == s)=xb:=⟨_,rfl⟩
 rw [hkb] at hk ⊢
 rw [hxb] at hq ⊢
 clear e1 e2 HI h hkb hxb
 generalize ((tk c.ts i).1.k:Int)=t0 at *
 generalize (⟨(tk c.ts i).1.x.toArray⟩:ByteArray)=t3 at *
 generalize (tk c.ts i).1.n=t4 at *
 generalize (⟨s.toArray⟩:ByteArray)=sb at *
 cases kb
 ·go_enter Tryz.func125,Tryz.ntmps125
  go_wp2_with fail
  refine HH.mono ?_
  rintro e w2 ⟨rfl,F2⟩
  have H2:=oH F2
  clear HH F2
  go_wp2_with fail
  go_ret
  exact⟨rfl,H2.out.trans (Fr.alloc _ _) (by simp)⟩
 ·cases xb
  ·go_enter Tryz.func125,Tryz.ntmps125
   go_wp2_with fail
   refine HH.mono ?_
   rintro e w2 ⟨rfl,F2⟩
   have H2:=oH F2
   clear HH F2
   go_wp2_with fail
   go_ret
   exact⟨rfl,H2.out.trans (Fr.alloc _ _) (by simp)⟩
  ·go_enter Tryz.func125,Tryz.ntmps125
   go_wp2_with fail
   refine HH.mono ?_
   rintro e w2 ⟨rfl,F2⟩
   have H2:=oH F2
   clear HH F2
   go_wp2_with fail
   go_ret
   exact⟨rfl,H2.out.trans (Fr.alloc _ _) (by simp)⟩
theorem zCo (c:Cx) (w:World) (i:Nat) (s:List UInt8) (h:RX c w i) (hs:isS (tk c.ts i) s=true) :
  Calls Tryz.prog 148 #[.pointer (some ⟨c.R,0,none⟩),.string ⟨s.toArray⟩] w fun e w'=>e=.returned (.bool true)∧Fr [c.R] w w'∧RX c w' (i+1):=by
 have HS:=zBg c w i s h
 rw [hs] at HS
 have HT:=oH (oA h (zAm hs))
 clear h hs
 generalize (⟨s.toArray⟩:ByteArray)=sb at *
 go_enter Tryz.func148,Tryz.ntmps148
 go_wp2_with fail
 refine HS.mono ?_
 rintro e w2 ⟨rfl,F2⟩
 have HK:=zBv c w2 i (HT.out.1.keep F2) HT.out.2
 have H2:=oH F2
 clear HS F2
 go_wp2_with fail
 refine HK.mono ?_
 rintro e w3 ⟨rfl,F3,X3⟩
 have H3:=oH (oA F3 X3)
 clear HK F3 X3
 go_wp2_with fail
 go_ret
 exact⟨rfl,(H2.out.mono (by simp)).trans H3.out.1 (fun j hj=>.inl hj),H3.out.2⟩
theorem zBy (c:Cx) (w:World) (i:Nat) (s:List UInt8) (h:RX c w i) (hs:isS (tk c.ts i) s=false) :
  Calls Tryz.prog 148 #[.pointer (some ⟨c.R,0,none⟩),.string ⟨s.toArray⟩] w fun e w'=>e=.returned (.bool false)∧Fr [] w w':=by
 have HS:=zBg c w i s h
 rw [hs] at HS
 clear h hs
 generalize (⟨s.toArray⟩:ByteArray)=sb at *
 go_enter Tryz.func148,Tryz.ntmps148
 go_wp2_with fail
 refine HS.mono ?_
 rintro e w2 ⟨rfl,F2⟩
 have H2:=oH F2
 clear HS F2
 go_wp2_with fail
 go_ret
 exact⟨rfl,H2.out⟩
theorem zOd {w w':World} {p:Nat} {d:ND} {os:List (Option Tr)} {v:Value} {out:List Tr} (h:NS w p d os w' v out) {b:Nat} (hT:∀t,some t ∈ os→IsT w (b≤·) t) (hb:b≤w.heap.size) :
  IsT w' (b≤·) (.node p d out)∧(Tr.node p d out).dt=.node d (os.map fun o=>(o.map Tr.dt).getD dt0):=by
 refine⟨⟨Nat.le_trans hb h.p,⟨v,h.n,h.r.keep (fun j hj _=>Nat.le_trans hb hj) (fun _ _ _=>rfl)⟩,IsTL.of fun t ht=>?_⟩,?_⟩
 ·rcases h.l t ht with h1 | ⟨g,rfl,h2,h3⟩
  ·exact(hT t h1).keep (fun j hj _=>hj) (fun j _ hl=>h.b.block j hl)
  ·exact⟨Nat.le_trans (Nat.le_trans hb h.p) (Nat.le_of_lt h2),⟨_,h3,⟨World.ownsRow_nil _ _ _ _,fun g hg=>(by cases hg)⟩⟩,trivial⟩
 ·have hf:∀{hi:Nat} {os:List (Option Tr)} {ts:List Tr},Fill (p+1) hi os ts→dtL ts=os.map fun o=>(o.map Tr.dt).getD dt0:=by
   intro hi os ts hf
   induction hf with
   | nil=>rfl
   | keep t _ ih=>simp [zDp,ih,dtL]
   | made g k _ _ _ _ ih=>simp [zDp,ih,dtL,Tr.dt,dt0,d0]
  show DT.node d (dtL out)=_
  rw [hf h.f]
end Go.Proofs.YtepfknfadpkigaaGreat
end
