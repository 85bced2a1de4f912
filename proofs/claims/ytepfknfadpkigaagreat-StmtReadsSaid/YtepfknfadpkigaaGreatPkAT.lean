/- Several texts in one. -/
import Derived.Test.YtepfknfadpkigaaGreatPkAA
import Derived.Test.YtepfknfadpkigaaGreatPkAG
import Derived.Test.YtepfknfadpkigaaGreatPkAH
import Derived.Test.YtepfknfadpkigaaGreatPkAS
set_option linter.unusedVariables false
set_option linter.unusedSimpArgs false
section
namespace Go.Proofs.YtepfknfadpkigaaGreat
open Go.RowKit
set_option maxHeartbeats 1000000
section
variable (ts:List TK)
def E0:Nat→Re:=exprM ts (ts.length+2)
def D0:Nat→Re:=desM ts (E0 ts)
def L0:Nat→Re:=labM ts (E0 ts)
def skM (s:List UInt8):Nat→Nat→Nat
 | 0,i=>i
 | m+1,i=>if isS (tk ts i) s then skM s m (i+1) else i
def partM (s:List UInt8) (I:Nat→Option Re):Nat→List DT→Nat→ReL
 | 0,_,_=>.out
 | m+1,acc,i =>
  match I (skM ts s (ts.length+1) i) with
  | none=>.ok acc (skM ts s (ts.length+1) i)
  | some r=>r.bndL fun x k=>if isS (tk ts k) s then partM s I m (acc++[x]) k else .ok (acc++[x]) k
def wrdM (e:List UInt8) (r:Re):Re:=r.bnd fun x j=>if isW (tk ts j) e then .ok x (j+1) else .bad j
def othM (B:Nat→Re) (i:Nat):ReL :=
 if isW (tk ts i) [69,76,83,69] then (wrdM ts [69,78,68] (B (i+1))).bndL fun x j=>.ok [x] j
 else if isW (tk ts i) [69,78,68] then .ok [] (i+1) else .bad i
def ifsM (B:Nat→Re):Nat→List DT→Nat→ReL
 | 0,_,_=>.out
 | m+1,acc,i =>
  (wrdM ts [84,72,69,78] (E0 ts (i+1))).bndL fun x j=>(B j).bndL fun b k =>
   if isW (tk ts k) [69,76,83,73,70] then ifsM B m (acc++[x,b]) k else (othM ts B k).bnd fun o l=>.ok (acc++[x,b]++o) l
def armM (B:Nat→Re) (i:Nat):Option Re :=
 if isW (tk ts i) [69,76,83,69]||isW (tk ts i) [69,78,68] then none
 else some ((L0 ts i).bnd fun x j=>if isS (tk ts j) [58] then (B (j+1)).bnd fun b k=>.ok (.node (nd 28 (tk ts i) [] 0) [x,b]) k else .bad j)
def casM (B:Nat→Re) (i:Nat):Re :=
 (wrdM ts [79,70] (E0 ts (i+1))).bnd fun x j =>
  ((partM ts [124] (armM ts B) (ts.length+1) [] j).bnd fun l k=>(othM ts B k).bnd fun o m=>.ok (x::(l++o.map fun b=>.node (nd 30 (tk ts k) [] 0) [b])) m).re fun l=>.node (nd 63 (tk ts i) [] 0) l
def whiM (B:Nat→Re) (i:Nat):Re :=
 (wrdM ts [68,79] (E0 ts (i+1))).bnd fun x j=>(wrdM ts [69,78,68] (B j)).bnd fun b k=>.ok (.node (nd 64 (tk ts i) [] 0) [x,b]) k
def repM (B:Nat→Re) (i:Nat):Re :=
 (wrdM ts [85,78,84,73,76] (B (i+1))).bnd fun b j=>(E0 ts j).bnd fun x k=>.ok (.node (nd 65 (tk ts i) [] 0) [b,x]) k
def looM (B:Nat→Re) (i:Nat):Re:=(wrdM ts [69,78,68] (B (i+1))).bnd fun b k=>.ok (.node (nd 66 (tk ts i) [] 0) [b]) k
def exiM (i:Nat):Re:=.ok (.node (nd 67 (tk ts i) [] 0) []) (i+1)
def behS (s:List UInt8) (i:Nat):Re:=if isS (tk ts i) s then E0 ts (i+1) else .bad i
def behW (s:List UInt8) (i:Nat):Re:=if isW (tk ts i) s then E0 ts (i+1) else .bad i
def cntM (i:Nat):ReL :=
 (behS ts [58,61] i).bndL fun a j=>(behW ts [84,79] j).bndL fun b k =>
  if isW (tk ts k) [66,89] then (behW ts [66,89] k).bndL fun c l=>.ok [a,b,c] l else .ok [a,b,dt0] k
def forM (B:Nat→Re) (i:Nat):Re :=
 if (tk ts (i+1)).1.k=1 then
  ((cntM ts (i+2)).bnd fun l j=>if isW (tk ts j) [68,79] then (wrdM ts [69,78,68] (B (j+1))).bndL fun b k=>.ok (l++[b]) k else .bad j).re fun l=>.node (nd 68 (tk ts i) (tk ts (i+1)).1.x 0) l
 else .bad (i+1)
def witM (B:Nat→Re) (i:Nat):Re :=
 (wrdM ts [68,79] (D0 ts (i+1))).bnd fun x j=>(wrdM ts [69,78,68] (B j)).bnd fun b k=>.ok (.node (nd 69 (tk ts i) [] 0) [x,b]) k
def aloB (t:TK):Bool:=t.1.k == 0||(t.1.k == 5&&(t.1.x == [59]||t.1.x == [124]))||(t.1.k == 6&&(t.1.x == [69,78,68]||t.1.x == [69,76,83,69]||t.1.x == [69,76,83,73,70]||t.1.x == [85,78,84,73,76]))
def retM (i:Nat):Re:=if aloB (tk ts (i+1)) then .ok (.node (nd 70 (tk ts i) [] 0) []) (i+1) else (E0 ts (i+1)).bnd fun x k=>.ok (.node (nd 70 (tk ts i) [] 0) [x]) k
def argM (i:Nat):ReL:=if isS (tk ts i) [40] then withM ts [41] (E0 ts) i else .ok [] i
def namM (i:Nat):Re :=
 (D0 ts i).bnd fun x j=>if isS (tk ts j) [58,61] then (E0 ts (j+1)).bnd fun y k=>.ok (.node (nd 60 (tk ts j) [] 0) [x,y]) k
  else (argM ts j).re fun l=>.node (nd 61 (tk ts i) [] 0) (x::l)
def stmM (B:Nat→Re) (i:Nat):Option Re :=
 if (tk ts i).1.k=1 then some (namM ts i)
 else if isW (tk ts i) [73,70] then some ((ifsM ts B (ts.length+1) [] i).re fun l=>.node (nd 62 (tk ts i) [] 0) l)
 else if isW (tk ts i) [67,65,83,69] then some (casM ts B i)
 else if isW (tk ts i) [87,72,73,76,69] then some (whiM ts B i)
 else if isW (tk ts i) [82,69,80,69,65,84] then some (repM ts B i)
 else if isW (tk ts i) [76,79,79,80] then some (looM ts B i)
 else if isW (tk ts i) [69,88,73,84] then some (exiM ts i)
 else if isW (tk ts i) [70,79,82] then some (forM ts B i)
 else if isW (tk ts i) [87,73,84,72] then some (witM ts B i)
 else if isW (tk ts i) [82,69,84,85,82,78] then some (retM ts i)
 else none
def bodyM:Nat→Nat→Re
 | 0,_=>.out
 | n+1,i=>(partM ts [59] (stmM ts (bodyM n)) (ts.length+1) [] i).re fun l=>.node (nd 46 (tk ts i) [] 0) l
end
end Go.Proofs.YtepfknfadpkigaaGreat
namespace Go.Proofs.YtepfknfadpkigaaGreat
open Go.RowKit
set_option maxHeartbeats 1000000
structure Pr (L p i:Nat) (C:Prop) (r r':Re):Prop where
 bd:Bd L i r
 fin:C→r≠.out
 ag:i < p→Ag p r r'
structure PrL (L p i:Nat) (C:Prop) (r r':ReL):Prop where
 bd:BdL L i r
 fin:C→r≠.out
 ag:i < p→AgL p r r'
section
variable {L p i:Nat} {C:Prop}
theorem BdL.pl' {r:ReL} (h:BdL L i r) (hr:r≠.out):i≤r.pl∧r.pl≤L:=by
 cases r with
 | ok d j=>exact h.1 d j rfl
 | bad j=>exact h.2 j rfl
 | out=>exact absurd rfl hr
theorem Pr.wk {C2:Prop} {r r':Re} (h:Pr L p i C2 r r') (hc:C→C2):Pr L p i C r r':=⟨h.bd,fun c=>h.fin (hc c),h.ag⟩
theorem PrL.wk {C2:Prop} {r r':ReL} (h:PrL L p i C2 r r') (hc:C→C2):PrL L p i C r r':=⟨h.bd,fun c=>h.fin (hc c),h.ag⟩
theorem Pr.low {k:Nat} {r r':Re} (h:Pr L p k C r r') (hi:i≤k):Pr L p i C r r' :=
 ⟨h.bd.low hi,h.fin,fun _ h1 h2 h3=>h.ag (Nat.lt_of_le_of_lt (h.bd.pl h1).1 h2) h1 h2 h3⟩
theorem PrL.low {k:Nat} {r r':ReL} (h:PrL L p k C r r') (hi:i≤k):PrL L p i C r r' :=
 ⟨h.bd.low hi,h.fin,fun _ h1 h2 h3=>h.ag (Nat.lt_of_le_of_lt (h.bd.pl' h1).1 h2) h1 h2 h3⟩
theorem Pr.ok {d d':DT} {j:Nat} (h1:i≤j) (h2:j≤L) (h3:i < p→d'=d):Pr L p i C (.ok d j) (.ok d' j):=⟨Bd.ok h1 h2,fun _=>by simp,fun hp _ _ _=>by rw [h3 hp]⟩
theorem Pr.bad {j:Nat} (h1:i≤j) (h2:j≤L):Pr L p i C (.bad j) (.bad j):=⟨Bd.bad h1 h2,fun _=>by simp,fun _=>Ag.same _ _⟩
theorem PrL.ok {d d':List DT} {j:Nat} (h1:i≤j) (h2:j≤L) (h3:i < p→d'=d):PrL L p i C (.ok d j) (.ok d' j):=⟨BdL.ok h1 h2,fun _=>by simp,fun hp _ _ _=>by rw [h3 hp]⟩
theorem PrL.bad {j:Nat} (h1:i≤j) (h2:j≤L):PrL L p i C (.bad j) (.bad j):=⟨BdL.bad h1 h2,fun _=>by simp,fun _=>AgL.same _ _⟩
theorem Pr.bnd {r r':Re} {K K':DT→Nat→Re} (h:Pr L p i C r r') (hK:∀x j,r=.ok x j→i≤j→j≤L→Pr L p j C (K x j) (K' x j)):Pr L p i C (r.bnd K) (r'.bnd K'):=by
 cases hr:r with
 | out=>subst hr;exact⟨Bd.out,fun c=>absurd rfl (h.fin c),fun _ h1=>absurd rfl h1⟩
 | bad j =>
  subst hr
  have hj:=h.bd.2 j rfl
  refine⟨Bd.bad hj.1 hj.2,fun _=>by simp [Re.bnd],fun hp h1 h2 h3=>?_⟩
  cases hr':r' with
  | out=>subst hr';exact absurd rfl h3
  | bad k=>subst hr';exact h.ag hp (by simp) h2 (by simp)
  | ok x k=>subst hr';have:=h.ag hp (by simp) h2 (by simp);cases this
 | ok x j =>
  subst hr
  have hj:=h.bd.1 x j rfl
  have hk:=hK x j rfl hj.1 hj.2
  refine⟨hk.bd.low hj.1,hk.fin,fun hp h1 h2 h3=>?_⟩
  have h1:K x j≠.out:=h1
  have h2:(K x j).pl < p:=h2
  have hjp:j < p:=Nat.lt_of_le_of_lt (hk.bd.pl h1).1 h2
  have e:r'=.ok x j:=h.ag hp (by simp) hjp (fun e=>h3 (by rw [e];rfl))
  subst e
  exact hk.ag hjp h1 h2 h3
theorem Pr.bndL {r r':Re} {K K':DT→Nat→ReL} (h:Pr L p i C r r') (hK:∀x j,r=.ok x j→i≤j→j≤L→PrL L p j C (K x j) (K' x j)):PrL L p i C (r.bndL K) (r'.bndL K'):=by
 cases hr:r with
 | out=>subst hr;exact⟨BdL.out,fun c=>absurd rfl (h.fin c),fun _ h1=>absurd rfl h1⟩
 | bad j =>
  subst hr
  have hj:=h.bd.2 j rfl
  refine⟨BdL.bad hj.1 hj.2,fun _=>by simp [Re.bndL],fun hp h1 h2 h3=>?_⟩
  cases hr':r' with
  | out=>subst hr';exact absurd rfl h3
  | bad k=>subst hr';have:=h.ag hp (by simp) h2 (by simp);cases this;rfl
  | ok x k=>subst hr';have:=h.ag hp (by simp) h2 (by simp);cases this
 | ok x j =>
  subst hr
  have hj:=h.bd.1 x j rfl
  have hk:=hK x j rfl hj.1 hj.2
  refine⟨hk.bd.low hj.1,hk.fin,fun hp h1 h2 h3=>?_⟩
  have h1:K x j≠.out:=h1
  have h2:(K x j).pl < p:=h2
  have hjp:j < p:=Nat.lt_of_le_of_lt (hk.bd.pl' h1).1 h2
  have e:r'=.ok x j:=h.ag hp (by simp) hjp (fun e=>h3 (by rw [e];rfl))
  subst e
  exact hk.ag hjp h1 h2 h3
theorem PrL.bnd {r r':ReL} {K K':List DT→Nat→ReL} (h:PrL L p i C r r') (hK:∀x j,r=.ok x j→i≤j→j≤L→PrL L p j C (K x j) (K' x j)):PrL L p i C (r.bnd K) (r'.bnd K'):=by
 cases hr:r with
 | out=>subst hr;exact⟨BdL.out,fun c=>absurd rfl (h.fin c),fun _ h1=>absurd rfl h1⟩
 | bad j =>
  subst hr
  have hj:=h.bd.2 j rfl
  refine⟨BdL.bad hj.1 hj.2,fun _=>by simp [ReL.bnd],fun hp h1 h2 h3=>?_⟩
  cases hr':r' with
  | out=>subst hr';exact absurd rfl h3
  | bad k=>subst hr';exact h.ag hp (by simp) h2 (by simp)
  | ok x k=>subst hr';have:=h.ag hp (by simp) h2 (by simp);cases this
 | ok x j =>
  subst hr
  have hj:=h.bd.1 x j rfl
  have hk:=hK x j rfl hj.1 hj.2
  refine⟨hk.bd.low hj.1,hk.fin,fun hp h1 h2 h3=>?_⟩
  have h1:K x j≠.out:=h1
  have h2:(K x j).pl < p:=h2
  have hjp:j < p:=Nat.lt_of_le_of_lt (hk.bd.pl' h1).1 h2
  have e:r'=.ok x j:=h.ag hp (by simp) hjp (fun e=>h3 (by rw [e];rfl))
  subst e
  exact hk.ag hjp h1 h2 h3
theorem PrL.re {r r':ReL} {f f':List DT→DT} (h:PrL L p i C r r') (hf:i < p→f'=f):Pr L p i C (r.re f) (r'.re f') :=
 ⟨h.bd.re f,fun c=>zJc (h.fin c),fun hp=>by rw [hf hp];exact(h.ag hp).re f⟩
end
section
variable {ts us:List TK} {p:Nat} (A:Agr p ts us)
include A
theorem Pr.ite {L i:Nat} {C:Prop} {X X' Y Y':Re} (f:TK→Bool) (hx:f (tk ts i)=true→Pr L p i C X X') (hy:f (tk ts i)=false→Pr L p i C Y Y') :
  Pr L p i C (if f (tk ts i)=true then X else Y) (if f (tk us i)=true then X' else Y'):=by
 cases h:f (tk ts i)
 ·have hy:=hy h
  rw [if_neg (by simp)]
  exact⟨hy.bd,hy.fin,fun hp=>by rw [A i hp,h,if_neg (by simp)];exact hy.ag hp⟩
 ·have hx:=hx h
  rw [if_pos rfl]
  exact⟨hx.bd,hx.fin,fun hp=>by rw [A i hp,h,if_pos rfl];exact hx.ag hp⟩
theorem PrL.ite {L i:Nat} {C:Prop} {X X' Y Y':ReL} (f:TK→Bool) (hx:f (tk ts i)=true→PrL L p i C X X') (hy:f (tk ts i)=false→PrL L p i C Y Y') :
  PrL L p i C (if f (tk ts i)=true then X else Y) (if f (tk us i)=true then X' else Y'):=by
 cases h:f (tk ts i)
 ·have hy:=hy h
  rw [if_neg (by simp)]
  exact⟨hy.bd,hy.fin,fun hp=>by rw [A i hp,h,if_neg (by simp)];exact hy.ag hp⟩
 ·have hx:=hx h
  rw [if_pos rfl]
  exact⟨hx.bd,hx.fin,fun hp=>by rw [A i hp,h,if_pos rfl];exact hx.ag hp⟩
variable {C:Prop}
theorem prE {k:Nat} (hk:k≤ts.length):Pr ts.length p k C (E0 ts k) (E0 us k):=⟨zVg 0 ts k hk,fun _=>zLh 0 ts k hk,fun _=>zVh A 0 k hk⟩
theorem prD {k:Nat} (hk:k≤ts.length):Pr ts.length p k C (D0 ts k) (D0 us k):=⟨zVg 1 ts k hk,fun _=>zLh 1 ts k hk,fun _=>zVh A 1 k hk⟩
theorem prL0 {k:Nat} (hk:k≤ts.length):Pr ts.length p k C (L0 ts k) (L0 us k):=⟨zVg 3 ts k hk,fun _=>zLh 3 ts k hk,fun _=>zVh A 3 k hk⟩
theorem zDm {i:Nat} {r r':Re} (e:List UInt8) (h:Pr ts.length p i C r r'):Pr ts.length p i C (wrdM ts e r) (wrdM us e r') :=
 h.bnd fun x j _ h1 h2=>Pr.ite A (fun t=>isW t e) (fun hs=>Pr.ok (by omega) (zCr hs) (fun _=>rfl)) (fun _=>Pr.bad (Nat.le_refl _) h2)
def BdsP (ts us:List TK) (p q:Nat) (C:Prop) (B B':Nat→Re):Prop:=∀k,q < k→k≤ts.length→Pr ts.length p k C (B k) (B' k)
variable {q:Nat} {B B':Nat→Re} (hB:BdsP ts us p q C B B')
include hB
theorem zTw {i:Nat} (hq:q≤i) (hi:i≤ts.length):PrL ts.length p i C (othM ts B i) (othM us B' i):=by
 refine PrL.ite A (fun t=>isW t [69,76,83,69]) (fun hs=>?_) (fun _=>PrL.ite A (fun t=>isW t [69,78,68]) (fun hs=>?_) (fun _=>?_))
 ·have:=zCr hs
  exact((zDm A [69,78,68] (hB (i+1) (by omega) (by omega))).bndL fun x j _ h1 h2=>PrL.ok (Nat.le_refl _) h2 (fun _=>rfl)).low (by omega)
 ·exact PrL.ok (by omega) (zCr hs) (fun _=>rfl)
 ·exact PrL.bad (Nat.le_refl _) hi
theorem zGi (m m':Nat) (acc:List DT) (i:Nat) (hq:q≤i) (hi:i < ts.length) (ih:∀(acc:List DT) (i:Nat),q≤i→i < ts.length→PrL ts.length p (i+1) (C∧ts.length≤m+i) (ifsM ts B m acc i) (ifsM us B' m' acc i)) :
  PrL ts.length p (i+1) (C∧ts.length≤m+1+i) (ifsM ts B (m+1) acc i) (ifsM us B' (m'+1) acc i):=by
 refine(zDm A [84,72,69,78] (prE A (show i+1≤ts.length by omega))).bndL fun x j _ h1 h2=>?_
 refine((hB j (by omega) h2).wk (fun c=>c.1)).bndL fun b k _ h3 h4=>?_
 refine PrL.ite A (fun t=>isW t [69,76,83,73,70]) (fun hs=>?_) (fun _=>?_)
 ·have:=zCr hs
  exact((ih (acc++[x,b]) k (by omega) this).wk (fun c=>⟨c.1,by have:=c.2;omega⟩)).low (by omega)
 ·exact((zTw A hB (by omega) h4).wk (fun c=>c.1)).bnd fun o l _ h5 h6=>PrL.ok (Nat.le_refl _) h6 (fun _=>rfl)
theorem zZt:∀(m m':Nat) (acc:List DT) (i:Nat),q≤i→i < ts.length→PrL ts.length p (i+1) (C∧ts.length≤m+i) (ifsM ts B m acc i) (ifsM us B' m' acc i):=by
 intro m
 induction m with
 | zero=>exact fun _ _ i _ hi=>⟨BdL.out,fun c=>absurd c.2 (by omega),fun _ h1=>absurd rfl h1⟩
 | succ m ih =>
  intro m' acc i hq hi
  cases m' with
  | zero =>
   have h:=zGi A hB m 0 acc i hq hi (ih 0)
   exact⟨h.bd,h.fin,fun _ _ _ h3=>absurd rfl h3⟩
  | succ m'=>exact zGi A hB m m' acc i hq hi (ih m')
theorem zZu {i:Nat} (hq:q≤i) (hi:i < ts.length):Pr ts.length p (i+1) C (whiM ts B i) (whiM us B' i) :=
 (zDm A [68,79] (prE A (show i+1≤ts.length by omega))).bnd fun x j _ h1 h2=>(zDm A [69,78,68] (hB j (by omega) h2)).bnd fun b k _ h3 h4=>Pr.ok (Nat.le_refl _) h4 (fun hp=>by rw [A i (by omega)])
theorem zZv {i:Nat} (hq:q≤i) (hi:i < ts.length):Pr ts.length p (i+1) C (witM ts B i) (witM us B' i) :=
 (zDm A [68,79] (prD A (show i+1≤ts.length by omega))).bnd fun x j _ h1 h2=>(zDm A [69,78,68] (hB j (by omega) h2)).bnd fun b k _ h3 h4=>Pr.ok (Nat.le_refl _) h4 (fun hp=>by rw [A i (by omega)])
theorem zZw {i:Nat} (hq:q≤i) (hi:i < ts.length):Pr ts.length p (i+1) C (repM ts B i) (repM us B' i) :=
 (zDm A [85,78,84,73,76] (hB (i+1) (by omega) hi)).bnd fun b j _ h1 h2=>(prE A h2).bnd fun x k _ h3 h4=>Pr.ok (Nat.le_refl _) h4 (fun hp=>by rw [A i (by omega)])
theorem zZx {i:Nat} (hq:q≤i) (hi:i < ts.length):Pr ts.length p (i+1) C (looM ts B i) (looM us B' i) :=
 (zDm A [69,78,68] (hB (i+1) (by omega) hi)).bnd fun b k _ h3 h4=>Pr.ok (Nat.le_refl _) h4 (fun hp=>by rw [A i (by omega)])
theorem zPm {i:Nat} (hq:q≤i) (hi:i≤ts.length):Pr ts.length p i C ((L0 ts i).bnd fun x j=>if isS (tk ts j) [58]=true then (B (j+1)).bnd fun b k=>.ok (.node (nd 28 (tk ts i) [] 0) [x,b]) k else .bad j)
  ((L0 us i).bnd fun x j=>if isS (tk us j) [58]=true then (B' (j+1)).bnd fun b k=>.ok (.node (nd 28 (tk us i) [] 0) [x,b]) k else .bad j) :=
 (prL0 A hi).bnd fun x j _ h1 h2=>Pr.ite A (fun t=>isS t [58]) (fun hs=>by
  have:=zAm hs
  exact((hB (j+1) (by omega) this).bnd fun b k _ h3 h4=>Pr.ok (Nat.le_refl _) h4 (fun hp=>by rw [A i (by omega)])).low (by omega)) (fun _=>Pr.bad (Nat.le_refl _) h2)
end
theorem zPn (ts:List TK):Mono (L0 ts):=fun i d j h=>by
 have h:labM ts (E0 ts) i=.ok d j:=h
 unfold labM at h
 obtain⟨l,hl⟩:=zOl h
 exact zHp (zBu (zAr _)) _ _ _ _ _ hl
theorem zVy (ts:List TK):Mono (D0 ts):=zRr (zAr _)
theorem zLp {L i:Nat} {r:Re} {K:DT→Nat→Re} (hr:∀x j,r=.ok x j→i < j∧Bd L j (K x j)) (d:DT) (k:Nat) (h:r.bnd K=.ok d k):i < k:=by
 cases r with
 | out=>cases h
 | bad j=>cases h
 | ok x j =>
  obtain⟨h1,h2⟩:=hr x j rfl
  have:=(h2.1 d k h).1
  omega
def ItP (ts us:List TK) (p q:Nat) (C:Prop) (I I':Nat→Option Re):Prop:=∀i,q≤i→i≤ts.length →
 (I i=none∧(i < p→I' i=none))∨∃r,I i=some r∧(∀d j,r=.ok d j→i < j)∧Bd ts.length i r∧(C→r≠.out)∧(i < p→∃r',I' i=some r'∧Ag p r r')
theorem zVz (ts:List TK) (s:List UInt8):∀(m i:Nat),i≤ts.length→i≤skM ts s m i∧skM ts s m i≤ts.length
 | 0,i,h=>⟨Nat.le_refl _,h⟩
 | m+1,i,h=>by
  unfold skM
  split
  ·rename_i hs
   have:=zVz ts s m (i+1) (zAm hs)
   omega
  ·omega
theorem zWa (ts:List TK) (s:List UInt8):∀(m i:Nat),ts.length+1≤m+i→1≤m→isS (tk ts (skM ts s m i)) s=false
 | 0,i,_,h=>absurd h (by omega)
 | m+1,i,h,_=>by
  unfold skM
  split
  ·rename_i hs
   have:=zAm hs
   exact zWa ts s m (i+1) (by omega) (by omega)
  ·rename_i hs
   simpa using hs
theorem zTx {ts us:List TK} {p:Nat} (A:Agr p ts us) (s:List UInt8):∀(m m' i:Nat),ts.length+1≤m+i→1≤m→us.length+1≤m'+i→1≤m'→skM ts s m i < p→skM us s m' i=skM ts s m i
 | 0,_,_,_,h,_,_,_=>absurd h (by omega)
 | _+1,0,_,_,_,_,h,_=>absurd h (by omega)
 | m+1,m'+1,i,h1,_,h3,_,hp=>by
  have hip:i < p:=by
   rcases Nat.lt_or_ge ts.length i with h | h
   ·have e:skM ts s (m+1) i=i:=by
     unfold skM
     rw [if_neg (by intro hs;have:=zAm hs;omega)]
    omega
   ·have:=(zVz ts s (m+1) i h).1
    omega
  unfold skM at hp ⊢
  rw [A i hip]
  split
  ·rename_i hs
   have h4:=zAm hs
   have h5:=zAm (show isS (tk us i) s=true by rw [A i hip];exact hs)
   rw [if_pos hs] at hp
   exact zTx A s m m' (i+1) (by omega) (by omega) (by omega) (by omega) hp
  ·rfl
theorem zCy (ts:List TK) (s:List UInt8) (I:Nat→Option Re) (m:Nat) (acc:List DT) (i:Nat):partM ts s I (m+1) acc i=(match I (skM ts s (ts.length+1) i) with | none=>.ok acc (skM ts s (ts.length+1) i) | some r=>r.bndL fun x k=>if isS (tk ts k) s=true then partM ts s I m (acc++[x]) k else .ok (acc++[x]) k):=by
 show (match I (skM ts s (ts.length+1) i) with | none=>_ | some r=>_)=_
 cases I (skM ts s (ts.length+1) i) <;> rfl
section
variable {ts us:List TK} {p:Nat} (A:Agr p ts us) {C:Prop} {q:Nat} {I I':Nat→Option Re} (hI:ItP ts us p q C I I') (s:List UInt8)
include A hI
theorem zEy (m m':Nat) (acc:List DT) (i:Nat) (hq:q≤i) (hi:i≤ts.length) (ih:∀(acc:List DT) (i:Nat),q≤i→i≤ts.length→PrL ts.length p i (C∧ts.length+1≤m+i) (partM ts s I m acc i) (partM us s I' m' acc i)) :
  PrL ts.length p i (C∧ts.length+1≤m+1+i) (partM ts s I (m+1) acc i) (partM us s I' (m'+1) acc i):=by
 rw [zCy,zCy]
 have hle:=zVz ts s (ts.length+1) i hi
 have hag:=zTx A s (ts.length+1) (us.length+1) i (by omega) (by omega) (by omega) (by omega)
 obtain⟨J,hJ⟩:∃J,skM ts s (ts.length+1) i=J:=⟨_,rfl⟩
 rw [hJ] at hle hag ⊢
 rcases hI J (by omega) hle.2 with⟨h0,h1⟩ | ⟨r,h0,hm,hb,hf,ha⟩
 ·rw [h0]
  refine⟨(BdL.ok (Nat.le_refl _) hle.2).low hle.1,fun _=>by simp,fun hp h2 h3 h4=>?_⟩
  have hJp:J < p:=h3
  rw [hag hJp,h1 hJp]
 ·rw [h0]
  have h:∀r',(J < p→Ag p r r')→PrL ts.length p J (C∧ts.length+1≤m+1+J) (r.bndL fun x k=>if isS (tk ts k) s=true then partM ts s I m (acc++[x]) k else .ok (acc++[x]) k) (r'.bndL fun x k=>if isS (tk us k) s=true then partM us s I' m' (acc++[x]) k else .ok (acc++[x]) k):=fun r' hr'=>by
   refine Pr.bndL (⟨hb,fun c=>hf c.1,hr'⟩:Pr ts.length p J (C∧ts.length+1≤m+1+J) r r') (fun x k e h2 h3=>?_)
   have:=hm x k e
   exact PrL.ite A (fun t=>isS t s) (fun hs=>(ih (acc++[x]) k (by omega) h3).wk (fun c=>⟨c.1,by have:=c.2;omega⟩)) (fun _=>PrL.ok (Nat.le_refl _) h3 (fun _=>rfl))
  have h9:=h .out (fun _ _ _ h3=>absurd rfl h3)
  refine⟨h9.bd.low hle.1,fun c=>h9.fin ⟨c.1,by have:=c.2;omega⟩,fun hp h2 h3 h4=>?_⟩
  have hJp:J < p:=Nat.lt_of_le_of_lt (h9.bd.pl' h2).1 h3
  obtain⟨r',e',har⟩:=ha hJp
  rw [hag hJp,e'] at h4 ⊢
  exact(h r' (fun _=>har)).ag hJp h2 h3 h4
theorem zPo:∀(m m':Nat) (acc:List DT) (i:Nat),q≤i→i≤ts.length→PrL ts.length p i (C∧ts.length+1≤m+i) (partM ts s I m acc i) (partM us s I' m' acc i):=by
 intro m
 induction m with
 | zero=>exact fun _ _ i _ hi=>⟨BdL.out,fun c=>absurd c.2 (by omega),fun _ h1=>absurd rfl h1⟩
 | succ m ih =>
  intro m' acc i hq hi
  cases m' with
  | zero =>
   have h:=zEy A hI s m 0 acc i hq hi (ih 0)
   exact⟨h.bd,h.fin,fun _ _ _ h3=>absurd rfl h3⟩
  | succ m'=>exact zEy A hI s m m' acc i hq hi (ih m')
end
section
variable {ts us:List TK} {p:Nat} (A:Agr p ts us) {C:Prop}
include A
theorem zWb {i:Nat} (e:List UInt8) (hi:i≤ts.length):Pr ts.length p i C (behS ts e i) (behS us e i) :=
 Pr.ite A (fun t=>isS t e) (fun hs=>(prE A (zAm hs)).low (by omega)) (fun _=>Pr.bad (Nat.le_refl _) hi)
theorem zPp {i:Nat} (e:List UInt8) (hi:i≤ts.length):Pr ts.length p i C (behW ts e i) (behW us e i) :=
 Pr.ite A (fun t=>isW t e) (fun hs=>(prE A (zCr hs)).low (by omega)) (fun _=>Pr.bad (Nat.le_refl _) hi)
theorem zZy {i:Nat} (hi:i≤ts.length):PrL ts.length p i C (cntM ts i) (cntM us i) :=
 (zWb A [58,61] hi).bndL fun a j _ h1 h2=>(zPp A [84,79] h2).bndL fun b k _ h3 h4=>PrL.ite A (fun t=>isW t [66,89])
  (fun _=>(zPp A [66,89] h4).bndL fun c l _ h5 h6=>PrL.ok (Nat.le_refl _) h6 (fun _=>rfl)) (fun _=>PrL.ok (Nat.le_refl _) h4 (fun _=>rfl))
theorem zZz {i:Nat} (hi:i < ts.length):Pr ts.length p (i+1) C (exiM ts i) (exiM us i):=Pr.ok (Nat.le_refl _) hi (fun hp=>by rw [A i (by omega)])
theorem qAa {i:Nat} (hi:i < ts.length):Pr ts.length p (i+1) C (retM ts i) (retM us i) :=
 Pr.ite A aloB (fun _=>Pr.ok (Nat.le_refl _) hi (fun hp=>by rw [A i (by omega)])) (fun _=>(prE A (show i+1≤ts.length from hi)).bnd fun x k _ h1 h2=>Pr.ok (Nat.le_refl _) h2 (fun hp=>by rw [A i (by omega)]))
theorem qAb {i:Nat} (hi:i≤ts.length):PrL ts.length p i C (argM ts i) (argM us i) :=
 PrL.ite A (fun t=>isS t [40]) (fun hs=>⟨zDt (zCh _) _ _ (zAm hs),fun _=>zFg (p:=0) (zAr _) (fun k _ hk=>zLh 0 ts k hk) _ _ (Nat.zero_le _) (zAm hs),fun _=>zHu A (zCh _) (zGd A _ _) _ _ (zAm hs)⟩) (fun _=>PrL.ok (Nat.le_refl _) hi (fun _=>rfl))
theorem zLq {i:Nat} (x:DT) (j:Nat) (hij:i≤j) (h2:j≤ts.length):Pr ts.length p j C (if isS (tk ts j) [58,61]=true then (E0 ts (j+1)).bnd fun y k=>.ok (.node (nd 60 (tk ts j) [] 0) [x,y]) k else (argM ts j).re fun l=>.node (nd 61 (tk ts i) [] 0) (x::l))
  (if isS (tk us j) [58,61]=true then (E0 us (j+1)).bnd fun y k=>.ok (.node (nd 60 (tk us j) [] 0) [x,y]) k else (argM us j).re fun l=>.node (nd 61 (tk us i) [] 0) (x::l)) :=
 Pr.ite A (fun t=>isS t [58,61]) (fun hs=>by
  have:=zAm hs
  exact((prE A (show j+1≤ts.length from this)).bnd fun y k _ h3 h4=>Pr.ok (Nat.le_refl _) h4 (fun hp=>by rw [A j (by omega)])).low (by omega)) (fun _=>(qAb A h2).re (fun hp=>by rw [A i (by omega)]))
theorem qAc {i:Nat} (hi:i≤ts.length):Pr ts.length p i C (namM ts i) (namM us i):=(prD A hi).bnd fun x j _ h1 h2=>zLq A x j h1 h2
variable {q:Nat} {B B':Nat→Re} (hB:BdsP ts us p q C B B')
include hB
theorem zTy:ItP ts us p q C (armM ts B) (armM us B'):=fun i hq hi=>by
 cases hs:(isW (tk ts i) [69,76,83,69]||isW (tk ts i) [69,78,68])
 ·refine .inr ⟨_,by unfold armM;rw [hs];exact if_neg (by simp),fun d j h=>?_,(zPm A hB hq hi).bd,(zPm A hB hq hi).fin,fun hp=>⟨_,by unfold armM;rw [A i hp,hs];exact if_neg (by simp),?_⟩⟩
  ·refine zLp (L:=ts.length) (fun x j e=>⟨zPn ts _ _ _ e,?_⟩) d j h
   have h1:=(prL0 (C:=C) A hi).bd.1 x j e
   split
   ·rename_i hs
    have:=zAm hs
    exact(Pr.bd ((hB (j+1) (by omega) this).bnd (K':=fun b k=>.ok (.node (nd 28 (tk ts i) [] 0) [x,b]) k) fun b k _ h3 h4=>Pr.ok (Nat.le_refl _) h4 (fun hp=>rfl))).low (by omega)
   ·exact Bd.bad (Nat.le_refl _) h1.2
  ·have h:=(zPm A hB hq hi).ag hp
   rw [A i hp] at h
   exact h
 ·exact .inl ⟨by unfold armM;rw [hs];exact if_pos rfl,fun hp=>by unfold armM;rw [A i hp,hs];exact if_pos rfl⟩
theorem qAd {i:Nat} (hq:q≤i) (hi:i < ts.length):Pr ts.length p (i+1) C (casM ts B i) (casM us B' i) :=
 (zDm A [79,70] (prE A (show i+1≤ts.length from hi))).bnd fun x j _ h1 h2 =>
  (((zPo A (zTy A hB) [124] (ts.length+1) (us.length+1) [] j (by omega) h2).wk (fun c=>⟨c,by omega⟩)).bnd fun l k _ h3 h4=>(zTw A hB (by omega) h4).bnd fun o m _ h5 h6=>PrL.ok (Nat.le_refl _) h6 (fun hp=>by rw [A k (by omega)])).re (fun hp=>by rw [A i (by omega)])
theorem qAe {i:Nat} (hq:q≤i) (hi:i < ts.length):Pr ts.length p (i+1) C (forM ts B i) (forM us B' i):=by
 have h1:Pr ts.length p (i+1) C (if (decide ((tk ts (i+1)).1.k=1))=true then ((cntM ts (i+2)).bnd fun l j=>if isW (tk ts j) [68,79]=true then (wrdM ts [69,78,68] (B (j+1))).bndL fun b k=>.ok (l++[b]) k else .bad j).re fun l=>.node (nd 68 (tk ts i) (tk ts (i+1)).1.x 0) l else .bad (i+1))
   (if (decide ((tk us (i+1)).1.k=1))=true then ((cntM us (i+2)).bnd fun l j=>if isW (tk us j) [68,79]=true then (wrdM us [69,78,68] (B' (j+1))).bndL fun b k=>.ok (l++[b]) k else .bad j).re fun l=>.node (nd 68 (tk us i) (tk us (i+1)).1.x 0) l else .bad (i+1)):=by
  refine Pr.ite A (fun t=>decide (t.1.k=1)) (fun hs=>?_) (fun _=>Pr.bad (Nat.le_refl _) hi)
  have hk:(tk ts (i+1)).1.k=1:=by simpa using hs
  have:=k_lt (ts:=ts) (i:=i+1) (by rw [hk];decide)
  refine(((zZy A (show i+2≤ts.length from this)).bnd fun l j _ h1 h2=>PrL.ite A (fun t=>isW t [68,79]) (fun hs=>?_) (fun _=>PrL.bad (Nat.le_refl _) h2)).re (fun hp=>by rw [A i (by omega),A (i+1) (by omega)])).low (by omega)
  have:=zCr hs
  exact((zDm A [69,78,68] (hB (j+1) (by omega) this)).bndL fun b k _ h3 h4=>PrL.ok (Nat.le_refl _) h4 (fun _=>rfl)).low (by omega)
 simp only [decide_eq_true_eq] at h1
 exact h1
end
def pickM (t:TK) (a0 a1 a2 a3 a4 a5 a6 a7 a8 a9:Re):Option Re :=
 if t.1.k=1 then some a0
 else if isW t [73,70] then some a1
 else if isW t [67,65,83,69] then some a2
 else if isW t [87,72,73,76,69] then some a3
 else if isW t [82,69,80,69,65,84] then some a4
 else if isW t [76,79,79,80] then some a5
 else if isW t [69,88,73,84] then some a6
 else if isW t [70,79,82] then some a7
 else if isW t [87,73,84,72] then some a8
 else if isW t [82,69,84,85,82,78] then some a9
 else none
theorem zEf (ts:List TK) (B:Nat→Re) (i:Nat):stmM ts B i=pickM (tk ts i) (namM ts i) ((ifsM ts B (ts.length+1) [] i).re fun l=>.node (nd 62 (tk ts i) [] 0) l) (casM ts B i) (whiM ts B i) (repM ts B i) (looM ts B i) (exiM ts i) (forM ts B i) (witM ts B i) (retM ts i):=rfl
def pickN (t:TK):Nat :=
 if t.1.k=1 then 0
 else if isW t [73,70] then 1
 else if isW t [67,65,83,69] then 2
 else if isW t [87,72,73,76,69] then 3
 else if isW t [82,69,80,69,65,84] then 4
 else if isW t [76,79,79,80] then 5
 else if isW t [69,88,73,84] then 6
 else if isW t [70,79,82] then 7
 else if isW t [87,73,84,72] then 8
 else if isW t [82,69,84,85,82,78] then 9
 else 10
theorem zLr (t:TK) (a0 a1 a2 a3 a4 a5 a6 a7 a8 a9:Re):pickM t a0 a1 a2 a3 a4 a5 a6 a7 a8 a9=[a0,a1,a2,a3,a4,a5,a6,a7,a8,a9][pickN t]?:=by
 unfold pickM pickN
 repeat' split
 all_goals rfl
theorem zHy {ts:List TK} {i:Nat} (h:pickN (tk ts i)≠10):i < ts.length:=by
 rcases Nat.lt_or_ge i ts.length with h1 | h1
 ·exact h1
 ·rw [zCz h1] at h
  exact absurd rfl h
section
variable {ts us:List TK} {p:Nat} (A:Agr p ts us) {C:Prop} {q:Nat} {B B':Nat→Re} (hB:BdsP ts us p q C B B')
include A hB
theorem zTz:ItP ts us p q C (stmM ts B) (stmM us B'):=fun i hq hi=>by
 obtain⟨n,hn⟩:∃n,pickN (tk ts i)=n:=⟨_,rfl⟩
 have hs:=zEf ts B i
 have hs':=zEf us B' i
 rw [zLr] at hs hs'
 have hu:i < p→pickN (tk us i)=n:=fun hp=>by rw [A i hp];exact hn
 rw [hn] at hs
 have fin:∀r r':Re,stmM ts B i=some r→(i < p→stmM us B' i=some r')→Pr ts.length p i C r r'→(∀d j,r=.ok d j→i < j)→(stmM ts B i=none∧(i < p→stmM us B' i=none))∨∃r,stmM ts B i=some r∧(∀d j,r=.ok d j→i < j)∧Bd ts.length i r∧(C→r≠.out)∧(i < p→∃r',stmM us B' i=some r'∧Ag p r r') :=
  fun r r' h1 h2 h3 h4=>.inr ⟨r,h1,h4,h3.bd,h3.fin,fun hp=>⟨r',h2 hp,h3.ag hp⟩⟩
 have fin1:∀r r':Re,stmM ts B i=some r→(i < p→stmM us B' i=some r')→Pr ts.length p (i+1) C r r'→(stmM ts B i=none∧(i < p→stmM us B' i=none))∨∃r,stmM ts B i=some r∧(∀d j,r=.ok d j→i < j)∧Bd ts.length i r∧(C→r≠.out)∧(i < p→∃r',stmM us B' i=some r'∧Ag p r r') :=
  fun r r' h1 h2 h3=>fin r r' h1 h2 (h3.low (by omega)) (fun d j e=>by have:=(h3.bd.1 d j e).1;omega)
 have hlt:n≠10→i < ts.length:=fun h=>zHy (by rw [hn];exact h)
 have hun:∀k:Nat,n=k→i < p→stmM us B' i=[namM us i,(ifsM us B' (us.length+1) [] i).re fun l=>.node (nd 62 (tk us i) [] 0) l,casM us B' i,whiM us B' i,repM us B' i,looM us B' i,exiM us i,forM us B' i,witM us B' i,retM us i][k]?:=fun k hk hp=>by rw [hs',hu hp,hk]
 match n,hs,hlt,hun with
 | 0,hs,hlt,hun =>
  refine fin _ _ hs (fun hp=>hun 0 rfl hp) (qAc A hi) (fun d j h=>zLp (L:=ts.length) (fun x j e=>⟨zVy ts _ _ _ e,?_⟩) d j h)
  have h1:=(prD (C:=C) A hi).bd.1 x j e
  exact(zLq (C:=C) (i:=i) A x j h1.1 h1.2).bd
 | 1,hs,hlt,hun =>
  have hl:=hlt (by omega)
  exact fin1 _ _ hs (fun hp=>hun 1 rfl hp) (((zZt A hB (ts.length+1) (us.length+1) [] i hq hl).wk (fun c=>⟨c,by omega⟩)).re (fun hp=>by rw [A i (by omega)]))
 | 2,hs,hlt,hun=>exact fin1 _ _ hs (fun hp=>hun 2 rfl hp) (qAd A hB hq (hlt (by omega)))
 | 3,hs,hlt,hun=>exact fin1 _ _ hs (fun hp=>hun 3 rfl hp) (zZu A hB hq (hlt (by omega)))
 | 4,hs,hlt,hun=>exact fin1 _ _ hs (fun hp=>hun 4 rfl hp) (zZw A hB hq (hlt (by omega)))
 | 5,hs,hlt,hun=>exact fin1 _ _ hs (fun hp=>hun 5 rfl hp) (zZx A hB hq (hlt (by omega)))
 | 6,hs,hlt,hun=>exact fin1 _ _ hs (fun hp=>hun 6 rfl hp) (zZz A (hlt (by omega)))
 | 7,hs,hlt,hun=>exact fin1 _ _ hs (fun hp=>hun 7 rfl hp) (qAe A hB hq (hlt (by omega)))
 | 8,hs,hlt,hun=>exact fin1 _ _ hs (fun hp=>hun 8 rfl hp) (zZv A hB hq (hlt (by omega)))
 | 9,hs,hlt,hun=>exact fin1 _ _ hs (fun hp=>hun 9 rfl hp) (qAa A (hlt (by omega)))
 | k+10,hs,hlt,hun=>exact .inl ⟨by rw [hs];rfl,fun hp=>by rw [hun (k+10) rfl hp];rfl⟩
end
section
variable {ts us:List TK} {p:Nat} (A:Agr p ts us)
include A
theorem zEz (n n' i:Nat) (hi:i≤ts.length) (ih:∀i,i≤ts.length→Pr ts.length p i (ts.length+1≤n+i) (bodyM ts n i) (bodyM us n' i)):Pr ts.length p i (ts.length+1≤n+1+i) (bodyM ts (n+1) i) (bodyM us (n'+1) i):=by
 have hB:BdsP ts us p i (ts.length+1≤n+1+i) (bodyM ts n) (bodyM us n'):=fun k h1 h2=>(ih k h2).wk (fun c=>by omega)
 exact((zPo A (zTz A hB) [59] (ts.length+1) (us.length+1) [] i (Nat.le_refl _) hi).wk (fun c=>⟨c,by omega⟩)).re (fun hp=>by rw [A i (by omega)])
theorem zGj:∀(n n' i:Nat),i≤ts.length→Pr ts.length p i (ts.length+1≤n+i) (bodyM ts n i) (bodyM us n' i):=by
 intro n
 induction n with
 | zero=>exact fun _ i hi=>⟨Bd.out,fun c=>absurd c (by omega),fun _ h1=>absurd rfl h1⟩
 | succ n ih =>
  intro n' i hi
  cases n' with
  | zero =>
   have h:=zEz A n 0 i hi (ih 0)
   exact⟨h.bd,h.fin,fun _ _ _ h3=>absurd rfl h3⟩
  | succ n'=>exact zEz A n n' i hi (ih n')
end
def BM (ts:List TK) (i:Nat):Re:=bodyM ts (ts.length+2) i
theorem zCu (p:Nat) (ts:List TK):Agr p ts ts:=fun _ _=>rfl
theorem qAf {p:Nat} {ts us:List TK} (A:Agr p ts us) (i:Nat) (hi:i≤ts.length):Bd ts.length i (BM ts i)∧BM ts i≠.out∧(i < p→Ag p (BM ts i) (BM us i)):=by
 have h:=zGj A (ts.length+2) (us.length+2) i hi
 exact⟨h.bd,h.fin (by omega),h.ag⟩
theorem zLs (ts:List TK) (n:Nat) (i:Nat) (d:DT) (j:Nat) (h:stmM ts (bodyM ts n) i=some (.ok d j)):i < j:=by
 have hlt:i < ts.length:=by
  refine zHy (fun h10=>?_)
  rw [zEf,zLr,h10] at h
  cases h
 have hB:BdsP ts ts 0 i False (bodyM ts n) (bodyM ts n):=fun k h1 h2=>((zGj (zCu 0 ts) n n k h2).wk (fun c=>c.elim))
 rcases zTz (zCu 0 ts) hB i (Nat.le_refl _) (by omega) with⟨h0,_⟩ | ⟨r,h0,hm,_⟩
 ·rw [h0] at h;cases h
 ·rw [h0] at h
  injection h with h
  exact hm d j h
theorem zPq (ts:List TK) (n:Nat) (i:Nat) (d:DT) (j:Nat) (h:armM ts (bodyM ts n) i=some (.ok d j)):i < j:=by
 have hlt:i≤ts.length:=by
  rcases Nat.lt_or_ge ts.length i with h1 | h1
  ·unfold armM at h
   split at h
   ·cases h
   ·injection h with h
    have e:L0 ts i=.bad i:=zKl (Nat.le_of_lt h1)
    rw [e] at h
    cases h
  ·exact h1
 have hB:BdsP ts ts 0 i False (bodyM ts n) (bodyM ts n):=fun k h1 h2=>((zGj (zCu 0 ts) n n k h2).wk (fun c=>c.elim))
 rcases zTy (zCu 0 ts) hB i (Nat.le_refl _) hlt with⟨h0,_⟩ | ⟨r,h0,hm,_⟩
 ·rw [h0] at h;cases h
 ·rw [h0] at h
  injection h with h
  exact hm d j h
end Go.Proofs.YtepfknfadpkigaaGreat
end
