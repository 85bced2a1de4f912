/- Several texts in one. -/
import Derived.Test.YtepfknfadpkigaaGreatPkAA
import Derived.Test.YtepfknfadpkigaaGreatPkBL
import Derived.Test.YtepfknfadpkigaaGreatPkBI
import Derived.Test.YtepfknfadpkigaaGreatPkAW
set_option linter.unusedVariables false
set_option linter.unusedSimpArgs false
section
namespace Go.Proofs.YtepfknfadpkigaaGreat
open Go.RowKit
set_option maxHeartbeats 1000000
theorem zFb {ts:List TK} {s:List UInt8} {i:Nat} (h:isS (tk ts i) s=false):∀n,skM ts s n i=i
 | 0=>rfl
 | n+1=>by show (if isS (tk ts i) s=true then _ else _)=_;rw [if_neg (by rw [h];simp)]
theorem zQn {ts:List TK} {s:List UInt8}:∀(n i:Nat),ts.length < n+i→skM ts s (n+1) i=skM ts s n i
 | 0,i,h=>by
  cases hs:isS (tk ts i) s
  ·rw [zFb hs,zFb hs]
  ·have:=zAm hs;omega
 | n+1,i,h=>by
  cases hs:isS (tk ts i) s
  ·rw [zFb hs,zFb hs]
  ·show (if isS (tk ts i) s=true then skM ts s (n+1) (i+1) else i)=(if isS (tk ts i) s=true then skM ts s n (i+1) else i)
   rw [if_pos hs,if_pos hs]
   exact zQn n (i+1) (by omega)
theorem zXp {ts:List TK} {s:List UInt8} {i:Nat} (h:isS (tk ts i) s=true):skM ts s (ts.length+1) i=skM ts s (ts.length+1) (i+1):=by
 rw [zQn (s:=s) ts.length (i+1) (by omega)]
 show (if isS (tk ts i) s=true then skM ts s ts.length (i+1) else i)=_
 rw [if_pos h]
theorem zGo {ts:List TK} {s:List UInt8} {I:Nat→Option Re} {acc:List DT} {i:Nat} (h:isS (tk ts i) s=true):∀m,partM ts s I m acc i=partM ts s I m acc (i+1)
 | 0=>rfl
 | m+1=>by rw [zCy,zCy,zXp h]
theorem zMi {ts:List TK} {s:List UInt8} {I:Nat→Option Re} (y:DT):∀(m:Nat) (acc:List DT) (i:Nat),partM ts s I m (y::acc) i=(partM ts s I m acc i).bnd fun l k=>.ok (y::l) k
 | 0,acc,i=>rfl
 | m+1,acc,i=>by
  rw [zCy,zCy]
  cases I (skM ts s (ts.length+1) i) with
  | none=>rfl
  | some r =>
   cases r with
   | out=>rfl
   | bad k=>rfl
   | ok x k =>
    show (if isS (tk ts k) s=true then partM ts s I m (y::acc++[x]) k else .ok (y::acc++[x]) k)=(if isS (tk ts k) s=true then partM ts s I m (acc++[x]) k else .ok (acc++[x]) k).bnd fun l k=>.ok (y::l) k
    split
    ·exact zMi y m (acc++[x]) k
    ·rfl
def caE (ts:List TK) (B:Nat→Re) (l:List DT) (k:Nat):ReL:=(othM ts B k).bnd fun o q=>.ok (l++o.map fun b=>.node (nd 30 (tk ts k) [] 0) [b]) q
def caG (ts:List TK) (B:Nat→Re) (m:Nat) (l:List DT) (j:Nat):ReL:=(partM ts [124] (armM ts B) m l j).bnd (caE ts B)
def arR (ts:List TK) (B:Nat→Re) (j:Nat):ReL:=kid B (needS ts [58] (kid (L0 ts) (.ok [] j)))
def arT (ts:List TK) (B:Nat→Re) (j:Nat):Re:=(arR ts B j).re fun l=>.node (nd 28 (tk ts j) [] 0) l
def elT (ts:List TK) (B:Nat→Re) (q j:Nat):Re:=(kid B (.ok [] j)).re fun l=>.node (nd 30 (tk ts q) [] 0) l
theorem qBf {ts:List TK} {B:Nat→Re} {j:Nat} (h1:isW (tk ts j) [69,76,83,69]=false) (h2:isW (tk ts j) [69,78,68]=false):armM ts B j=some (arT ts B j):=by
 unfold armM arT arR kid needS
 rw [h1,h2,if_neg (by simp)]
 congr 1
 show _=ReL.re _ ((((((L0 ts j).bndL fun x k=>ReL.ok ([]++[x]) k).bnd fun l j=>if isS (tk ts j) [58]=true then .ok l (j+1) else .bad j)).bnd fun l j=>(B j).bndL fun x k=>.ok (l++[x]) k))
 cases L0 ts j with
 | out=>rfl
 | bad k=>rfl
 | ok x k =>
  show (if isS (tk ts k) [58]=true then _ else _)=ReL.re _ ((if isS (tk ts k) [58]=true then ReL.ok ([]++[x]) (k+1) else .bad k).bnd _)
  cases isS (tk ts k) [58]
  ·rfl
  ·show ((B (k+1)).bnd _)=ReL.re _ ((B (k+1)).bndL fun y q=>.ok (([]++[x])++[y]) q)
   cases B (k+1) <;> rfl
theorem zQo {ts:List TK} {B:Nat→Re} {l:List DT} {i:Nat} (h:isS (tk ts i) [124]=true) (m:Nat):caG ts B m l i=caG ts B m l (i+1):=by unfold caG;rw [zGo h]
theorem zQp {ts:List TK} {B:Nat→Re} {l:List DT} {i:Nat} (h:isS (tk ts i) [124]=false) (hw:isW (tk ts i) [69,76,83,69]=true∨isW (tk ts i) [69,78,68]=true) (m:Nat):caG ts B (m+1) l i=caE ts B l i:=by
 unfold caG
 rw [zCy,zFb h]
 have e:armM ts B i=none:=by unfold armM;exact if_pos (by rcases hw with hw | hw <;> rw [hw] <;> simp)
 rw [e]
 rfl
theorem qBg {ts:List TK} {B:Nat→Re} {l:List DT} {i:Nat} (h:isS (tk ts i) [124]=false) (h1:isW (tk ts i) [69,76,83,69]=false) (h2:isW (tk ts i) [69,78,68]=false) (m:Nat) :
  caG ts B (m+1) l i=(kid (arT ts B) (.ok l i)).bnd fun l k=>if isS (tk ts k) [124]=true then caG ts B m l (k+1) else caE ts B l k:=by
 unfold caG
 rw [zCy,zFb h,qBf h1 h2]
 unfold kid
 show ((arT ts B i).bndL _).bnd _=((arT ts B i).bndL fun x k=>.ok (l++[x]) k).bnd _
 cases arT ts B i with
 | out=>rfl
 | bad k=>rfl
 | ok x k =>
  show (if isS (tk ts k) [124]=true then partM ts [124] (armM ts B) m (l++[x]) k else .ok (l++[x]) k).bnd (caE ts B)=(if isS (tk ts k) [124]=true then (partM ts [124] (armM ts B) m (l++[x]) (k+1)).bnd (caE ts B) else caE ts B (l++[x]) k)
  cases hs:isS (tk ts k) [124]
  ·rfl
  ·exact zQo (B:=B) (l:=l++[x]) hs m
theorem zKo {ts:List TK} {B:Nat→Re} {l:List DT} {k:Nat} (h:isW (tk ts k) [69,76,83,69]=true):caE ts B l k=needM ts [69,78,68] (kid (elT ts B k) (.ok l (k+1))):=by
 unfold caE othM kid needM wrdM elT kid
 rw [if_pos h]
 show ((((B (k+1)).bnd fun x j=>if isW (tk ts j) [69,78,68]=true then .ok x (j+1) else .bad j).bndL fun x j=>.ok [x] j).bnd _)=(((((B (k+1)).bndL fun x k=>ReL.ok ([]++[x]) k).re _).bndL fun x k=>.ok (l++[x]) k).bnd _)
 cases B (k+1) with
 | out=>rfl
 | bad q=>rfl
 | ok x q =>
  show (((if isW (tk ts q) [69,78,68]=true then Re.ok x (q+1) else Re.bad q).bndL fun x j=>.ok [x] j).bnd _)=(if isW (tk ts q) [69,78,68]=true then _ else _)
  cases isW (tk ts q) [69,78,68] <;> rfl
theorem zQq {ts:List TK} {B:Nat→Re} {l:List DT} {k:Nat} (h:isW (tk ts k) [69,76,83,69]=false):caE ts B l k=needM ts [69,78,68] (.ok l k):=by
 unfold caE othM needM
 rw [if_neg (by rw [h];simp)]
 show _=(if isW (tk ts k) [69,78,68]=true then ReL.ok l (k+1) else .bad k)
 cases isW (tk ts k) [69,78,68]
 ·rfl
 ·show ReL.ok (l++[]) (k+1)=_;rw [List.append_nil];rfl
theorem zUl (ts:List TK) (B:Nat→Re) (i:Nat):casM ts B i=((needM ts [79,70] (kid (E0 ts) (.ok [] (i+1)))).bnd (caG ts B (ts.length+1))).re fun l=>.node (nd 63 (tk ts i) [] 0) l:=by
 unfold casM wrdM needM kid
 show _=ReL.re _ ((((E0 ts (i+1)).bndL fun x k=>ReL.ok ([]++[x]) k).bnd fun l j=>if isW (tk ts j) [79,70]=true then .ok l (j+1) else .bad j).bnd _)
 cases E0 ts (i+1) with
 | out=>rfl
 | bad k=>rfl
 | ok x k =>
  show ((if isW (tk ts k) [79,70]=true then Re.ok x (k+1) else Re.bad k).bnd _)=ReL.re _ ((if isW (tk ts k) [79,70]=true then ReL.ok ([]++[x]) (k+1) else .bad k).bnd _)
  cases isW (tk ts k) [79,70]
  ·rfl
  ·show ReL.re _ ((partM ts [124] (armM ts B) (ts.length+1) [] (k+1)).bnd _)=ReL.re _ ((partM ts [124] (armM ts B) (ts.length+1) [x] (k+1)).bnd (caE ts B))
   rw [zMi x]
   cases partM ts [124] (armM ts B) (ts.length+1) [] (k+1) with
   | out=>rfl
   | bad q=>rfl
   | ok l q =>
    show ReL.re _ ((othM ts B q).bnd _)=ReL.re _ (caE ts B (x::l) q)
    unfold caE
    cases othM ts B q <;> rfl
end Go.Proofs.YtepfknfadpkigaaGreat
end
section
namespace Go.Proofs.YtepfknfadpkigaaGreat
open Go.RowKit
set_option maxHeartbeats 4000000
set_option maxRecDepth 100000
def CasP (c:Rc) (B:Nat→Re):Prop:=∀(w:World) (i:Nat) (t:TK) (px py:Nat),posV t.2.1.1 t.2.1.2=.complex .f64 px py→RF c w (i+1) false→i < c.ts.length→∀RES:ReL,RES=(needM c.ts [79,70] (kid (E0 c.ts) (.ok [] (i+1)))).bnd (caG c.ts B (c.ts.length+1))→RES≠.out →
  Calls Tryz.prog 64 #[.pointer (some ⟨c.R,0,none⟩),.complex .f64 px py] w (Tl c w.heap.size w (RES.re fun l=>.node (nd 63 t [] 0) l))
theorem qBh (ts:List TK) (B:Nat→Re) (i:Nat):whiM ts B i=(needM ts [69,78,68] (kid B (needM ts [68,79] (kid (E0 ts) (.ok [] (i+1)))))).re fun l=>.node (nd 64 (tk ts i) [] 0) l:=by
 unfold whiM wrdM needM kid
 show _=ReL.re _ ((((((E0 ts (i+1)).bndL fun x k=>ReL.ok ([]++[x]) k).bnd fun l j=>if isW (tk ts j) [68,79]=true then .ok l (j+1) else .bad j).bnd fun l j=>(B j).bndL fun x k=>.ok (l++[x]) k)).bnd fun l j=>if isW (tk ts j) [69,78,68]=true then .ok l (j+1) else .bad j)
 cases E0 ts (i+1) with
 | out=>rfl
 | bad k=>rfl
 | ok x k =>
  show ((if isW (tk ts k) [68,79]=true then Re.ok x (k+1) else Re.bad k).bnd _)=ReL.re _ (((if isW (tk ts k) [68,79]=true then ReL.ok ([]++[x]) (k+1) else .bad k).bnd _).bnd _)
  cases isW (tk ts k) [68,79]
  ·rfl
  ·show (((B (k+1)).bnd _).bnd _)=ReL.re _ (((B (k+1)).bndL _).bnd _)
   cases B (k+1) with
   | out=>rfl
   | bad q=>rfl
   | ok b q =>
    show ((if isW (tk ts q) [69,78,68]=true then Re.ok b (q+1) else Re.bad q).bnd _)=ReL.re _ (if isW (tk ts q) [69,78,68]=true then _ else _)
    cases isW (tk ts q) [69,78,68] <;> rfl
theorem qBi (ts:List TK) (B:Nat→Re) (i:Nat):witM ts B i=(needM ts [69,78,68] (kid B (needM ts [68,79] (kid (D0 ts) (.ok [] (i+1)))))).re fun l=>.node (nd 69 (tk ts i) [] 0) l:=by
 unfold witM wrdM needM kid
 show _=ReL.re _ ((((((D0 ts (i+1)).bndL fun x k=>ReL.ok ([]++[x]) k).bnd fun l j=>if isW (tk ts j) [68,79]=true then .ok l (j+1) else .bad j).bnd fun l j=>(B j).bndL fun x k=>.ok (l++[x]) k)).bnd fun l j=>if isW (tk ts j) [69,78,68]=true then .ok l (j+1) else .bad j)
 cases D0 ts (i+1) with
 | out=>rfl
 | bad k=>rfl
 | ok x k =>
  show ((if isW (tk ts k) [68,79]=true then Re.ok x (k+1) else Re.bad k).bnd _)=ReL.re _ (((if isW (tk ts k) [68,79]=true then ReL.ok ([]++[x]) (k+1) else .bad k).bnd _).bnd _)
  cases isW (tk ts k) [68,79]
  ·rfl
  ·show (((B (k+1)).bnd _).bnd _)=ReL.re _ (((B (k+1)).bndL _).bnd _)
   cases B (k+1) with
   | out=>rfl
   | bad q=>rfl
   | ok b q =>
    show ((if isW (tk ts q) [69,78,68]=true then Re.ok b (q+1) else Re.bad q).bnd _)=ReL.re _ (if isW (tk ts q) [69,78,68]=true then _ else _)
    cases isW (tk ts q) [69,78,68] <;> rfl
theorem qBj (ts:List TK) (B:Nat→Re) (i:Nat):repM ts B i=(kid (E0 ts) (needM ts [85,78,84,73,76] (kid B (.ok [] (i+1))))).re fun l=>.node (nd 65 (tk ts i) [] 0) l:=by
 unfold repM wrdM needM kid
 show _=ReL.re _ ((((B (i+1)).bndL fun x k=>ReL.ok ([]++[x]) k).bnd fun l j=>if isW (tk ts j) [85,78,84,73,76]=true then .ok l (j+1) else .bad j).bnd fun l j=>(E0 ts j).bndL fun x k=>.ok (l++[x]) k)
 cases B (i+1) with
 | out=>rfl
 | bad k=>rfl
 | ok x k =>
  show ((if isW (tk ts k) [85,78,84,73,76]=true then Re.ok x (k+1) else Re.bad k).bnd _)=ReL.re _ ((if isW (tk ts k) [85,78,84,73,76]=true then ReL.ok ([]++[x]) (k+1) else .bad k).bnd _)
  cases isW (tk ts k) [85,78,84,73,76]
  ·rfl
  ·show ((E0 ts (k+1)).bnd _)=ReL.re _ ((E0 ts (k+1)).bndL _)
   cases E0 ts (k+1) <;> rfl
theorem qBk (ts:List TK) (B:Nat→Re) (i:Nat):looM ts B i=(needM ts [69,78,68] (kid B (.ok [] (i+1)))).re fun l=>.node (nd 66 (tk ts i) [] 0) l:=by
 unfold looM wrdM needM kid
 show _=ReL.re _ (((B (i+1)).bndL fun x k=>ReL.ok ([]++[x]) k).bnd fun l j=>if isW (tk ts j) [69,78,68]=true then .ok l (j+1) else .bad j)
 cases B (i+1) with
 | out=>rfl
 | bad k=>rfl
 | ok x k =>
  show ((if isW (tk ts k) [69,78,68]=true then Re.ok x (k+1) else Re.bad k).bnd _)=ReL.re _ (if isW (tk ts k) [69,78,68]=true then _ else _)
  cases isW (tk ts k) [69,78,68] <;> rfl
theorem zXq (c:Rc) (hS:Scd c.ts) (B:Nat→Re) (hB:CF c 18 B) (hBm:∀i d j,i≤c.ts.length→B i=.ok d j→i≤j∧j≤c.ts.length) (w:World) (i:Nat) (h:RF c w i false) (hq:isW (tk c.ts i) [67,65,83,69]=true) (RES:Re) (hRES:RES≠.out) (hmod:RES=casM c.ts B i) (hC:CasP c B) :
  Calls Tryz.prog 35 #[.pointer (some ⟨c.R,0,none⟩)] w (Tl c w.heap.size w RES):=by
 obtain⟨px,py,e1⟩:=zAc (tk c.ts i).2.1.1 (tk c.ts i).2.1.2
 obtain⟨ex,ey,e2⟩:=zAc (tk c.ts i).2.2.1 (tk c.ts i).2.2.2
 have hfd:=zBb
 have HN:=zAo c w i false h px py ex ey e1 e2
 have HX:=oH (oA h (oA hq (oA e1 (oA hRES hmod))))
 have HCON:Hid (∀wh,RF c wh (i+1) false→Calls Tryz.prog 64 #[.pointer (some ⟨c.R,0,none⟩),.complex .f64 px py] wh (Tl c wh.heap.size wh RES)):=oH (fun wh X=>by
  rw [hmod,zUl]
  exact hC wh i (tk c.ts i) px py e1 X (zCr hq) _ rfl (zEm (by rw [← zUl,← hmod];exact hRES))
 )
 have HR0:=oH h.lt
 clear h hq e1 e2 hB hRES hmod hS hBm hC
 generalize ((tk c.ts i).1.k:Int)=t0 at *
 generalize (⟨(tk c.ts i).1.x.toArray⟩:ByteArray)=t3 at *
 generalize (tk c.ts i).1.n=t4 at *
 go_enter Tryz.func35,Tryz.ntmps35
 go_wp2_with fail
 refine HN.mono ?_
 rintro e w0 ⟨rfl,F0⟩
 have FF:=oH F0
 clear F0 HN
 have HK:=zAb c w0 i false [73,70] (HX.out.1.keep FF.out) (by rw [zBd HX.out.2.1 (by decide)];rfl)
 simp only [pt] at HK
 go_wp2_with fail
 refine HK.mono ?_
 rintro e u0 ⟨rfl,F1⟩
 have FG:=oH (FF.out.on F1)
 clear F1 HK FF
 have FF:=FG
 clear FG
 have HK:=zAz c u0 i [67,65,83,69] (HX.out.1.keep FF.out) HX.out.2.1
 simp only [pt] at HK
 go_wp2_with fail
 refine HK.mono ?_
 rintro e wh ⟨rfl,F1,X1⟩
 have HH:=oH (oA (FF.out.up0 (N:=[c.R]) |>.on F1) X1)
 clear F1 X1 HK FF
 have HC:=HCON.out wh HH.out.2
 go_wp2_with fail
 refine HC.mono ?_
 rintro e wz ht
 obtain⟨o,h1,h2,h3⟩:=ht.low (C':=w.heap.size) HH.out.1.size
 obtain⟨a,ha⟩:=zAx o
 rw [ha] at h1
 subst h1
 have HT:=oH (oA h2 (oA h3 ha))
 clear ht h2 h3 ha HC
 go_wp2_with fail
 go_ret
 exact⟨o,by rw [HT.out.2.2];rfl,HH.out.1.on HT.out.1,HT.out.2.1⟩
theorem zXr (c:Rc) (hS:Scd c.ts) (w:World) (i:Nat) (h:RF c w i false) (hk:(tk c.ts i).1.k=1) (hne:namM c.ts i≠.out):Calls Tryz.prog 35 #[.pointer (some ⟨c.R,0,none⟩)] w (Tl c w.heap.size w (namM c.ts i)):=by
 cases hd:D0 c.ts i with
 | out=>exact absurd (by unfold namM;rw [hd];rfl) hne
 | bad jb=>exact zXk c hS w i h hk hne jb hd
 | ok d j =>
  cases ha:isS (tk c.ts j) [58,61]
  ·cases hp:isS (tk c.ts j) [40]
   ·exact zXl c hS w i h hk hne d j hd ha hp
   ·cases hq:isS (tk c.ts (j+1)) [41]
    ·exact zXo c hS w i h hk hne d j hd ha ⟨hp,hq⟩
    ·exact zXn c hS w i h hk hne d j hd ha ⟨hp,hq⟩
  ·exact zXj c hS w i h hk hne (fun d' j' e=>by rw [hd] at e;injection e with _ e;rw [← e];exact ha) (fun j' e=>by rw [hd] at e;cases e)
theorem zXs (c:Rc) (hS:Scd c.ts) (B:Nat→Re) (hB:CF c 18 B) (hBm:∀i d j,i≤c.ts.length→B i=.ok d j→i≤j∧j≤c.ts.length) (hC:CasP c B) (w:World) (i:Nat) (h:RF c w i false) (r:Re) (hr:stmM c.ts B i=some r) (hne:r≠.out) :
  Calls Tryz.prog 35 #[.pointer (some ⟨c.R,0,none⟩)] w (Tl c w.heap.size w r):=by
 unfold stmM at hr
 by_cases hk:(tk c.ts i).1.k=1
 ·rw [if_pos hk] at hr;injection hr with hr;subst hr
  exact zXr c hS w i h hk hne
 rw [if_neg hk] at hr
 by_cases q0:isW (tk c.ts i) [73,70]=true
 ·rw [if_pos q0] at hr;injection hr with hr;subst hr
  exact qBd c hS B hB hBm w i h q0 _ hne rfl
 rw [if_neg q0] at hr
 by_cases q1:isW (tk c.ts i) [67,65,83,69]=true
 ·rw [if_pos q1] at hr;injection hr with hr;subst hr
  exact zXq c hS B hB hBm w i h q1 _ hne rfl hC
 rw [if_neg q1] at hr
 by_cases q2:isW (tk c.ts i) [87,72,73,76,69]=true
 ·rw [if_pos q2] at hr;injection hr with hr;subst hr
  rw [qBh] at hne ⊢;exact zWx c hS B hB w i h q2 _ (zEm hne) rfl
 rw [if_neg q2] at hr
 by_cases q3:isW (tk c.ts i) [82,69,80,69,65,84]=true
 ·rw [if_pos q3] at hr;injection hr with hr;subst hr
  rw [qBj] at hne ⊢;exact zWy c hS B hB w i h q3 _ (zEm hne) rfl
 rw [if_neg q3] at hr
 by_cases q4:isW (tk c.ts i) [76,79,79,80]=true
 ·rw [if_pos q4] at hr;injection hr with hr;subst hr
  rw [qBk] at hne ⊢;exact zWz c hS B hB w i h q4 _ (zEm hne) rfl
 rw [if_neg q4] at hr
 by_cases q5:isW (tk c.ts i) [69,88,73,84]=true
 ·rw [if_pos q5] at hr;injection hr with hr;subst hr
  exact zXb c hS B hB w i h q5 (.ok [] (i+1)) (by simp) rfl
 rw [if_neg q5] at hr
 by_cases q6:isW (tk c.ts i) [70,79,82]=true
 ·rw [if_pos q6] at hr;injection hr with hr;subst hr
  exact zXh c hS B hB hBm w i h q6 _ hne rfl
 rw [if_neg q6] at hr
 by_cases q7:isW (tk c.ts i) [87,73,84,72]=true
 ·rw [if_pos q7] at hr;injection hr with hr;subst hr
  rw [qBi] at hne ⊢;exact zXa c hS B hB w i h q7 _ (zEm hne) rfl
 rw [if_neg q7] at hr
 by_cases q8:isW (tk c.ts i) [82,69,84,85,82,78]=true
 ·rw [if_pos q8] at hr;injection hr with hr;subst hr
  exact zXg c hS B hB hBm w i h q8 _ hne rfl
 rw [if_neg q8] at hr
 cases hr
end Go.Proofs.YtepfknfadpkigaaGreat
end
section
namespace Go.Proofs.YtepfknfadpkigaaGreat
open Go.RowKit
set_option maxHeartbeats 4000000
set_option maxRecDepth 100000
def begL:List (List UInt8):=[[73,70],[67,65,83,69],[87,72,73,76,69],[82,69,80,69,65,84],[76,79,79,80],[69,88,73,84],[70,79,82],[87,73,84,72],[82,69,84,85,82,78]]
theorem zXt {t:TK} {x:List UInt8} (h:x ∈ begL) (hx:isW t x=true):pickN t≠10:=by
 unfold begL at h
 unfold pickN
 simp only [List.mem_cons,List.not_mem_nil,or_false] at h
 split
 ·decide
 rcases h with rfl | rfl | rfl | rfl | rfl | rfl | rfl | rfl | rfl <;> (repeat' split) <;> simp_all
theorem qBl {t:TK} (hk:t.1.k≠1) (h:∀x ∈ begL,isW t x=false):pickN t=10:=by
 unfold pickN
 rw [if_neg hk]
 simp only [h [73,70] (by decide),h [67,65,83,69] (by decide),h [87,72,73,76,69] (by decide),h [82,69,80,69,65,84] (by decide),h [76,79,79,80] (by decide),h [69,88,73,84] (by decide),h [70,79,82] (by decide),h [87,73,84,72] (by decide),h [82,69,84,85,82,78] (by decide)]
 rfl
theorem zQr (c:Rc) (w:World) (i:Nat) (h:RF c w i false) (hk:(tk c.ts i).1.k=1):Calls Tryz.prog 34 #[.pointer (some ⟨c.R,0,none⟩)] w fun e w'=>e=.returned (.bool true)∧Fr [] w w':=by
 obtain⟨px,py,e1⟩:=zAc (tk c.ts i).2.1.1 (tk c.ts i).2.1.2
 obtain⟨ex,ey,e2⟩:=zAc (tk c.ts i).2.2.1 (tk c.ts i).2.2.2
 have hfd:=zCp
 have HN:=zAo c w i false h px py ex ey e1 e2
 have hkt:(((tk c.ts i).1.k:Int) == 1)=true:=by rw [hk];rfl
 clear h e1 e2 hk
 generalize ((tk c.ts i).1.k:Int)=t0 at *
 generalize (⟨(tk c.ts i).1.x.toArray⟩:ByteArray)=t3 at *
 generalize (tk c.ts i).1.n=t4 at *
 go_enter Tryz.func34,Tryz.ntmps34
 go_wp2_with fail
 refine HN.mono ?_
 rintro e w2 ⟨rfl,F2⟩
 have H2:=oH F2
 clear F2 HN
 go_wp2_with fail
 go_ret
 exact⟨rfl,H2.out⟩
theorem zQs (c:Rc) (w:World) (i:Nat) (h:RF c w i false) (hk:(tk c.ts i).1.k≠1):Calls Tryz.prog 34 #[.pointer (some ⟨c.R,0,none⟩)] w fun e w'=>e=.returned (.bool (decide (pickN (tk c.ts i)≠10)))∧Fr [] w w':=by
 obtain⟨px,py,e1⟩:=zAc (tk c.ts i).2.1.1 (tk c.ts i).2.1.2
 obtain⟨ex,ey,e2⟩:=zAc (tk c.ts i).2.2.1 (tk c.ts i).2.2.2
 have hfd:=zCp
 have HN:=zAo c w i false h px py ex ey e1 e2
 have hkt:(((tk c.ts i).1.k:Int) == 1)=false:=by rw [beq_eq_false_iff_ne];omega
 have HX:=oH (oA h hk)
 clear h e1 e2 hk
 obtain⟨TKI,hTK⟩:∃t,tk c.ts i=t:=⟨_,rfl⟩
 have HTK:=oH hTK
 rw [hTK] at HN hkt ⊢
 clear hTK
 generalize (TKI.1.k:Int)=t0 at *
 generalize (⟨TKI.1.x.toArray⟩:ByteArray)=t3 at *
 generalize TKI.1.n=t4 at *
 obtain⟨RB,hRB⟩:∃b,decide (pickN TKI≠10)=b:=⟨_,rfl⟩
 have HRB:=oH hRB
 rw [hRB]
 clear hRB
 go_enter Tryz.func34,Tryz.ntmps34
 go_wp2_with fail
 refine HN.mono ?_
 rintro e w2 ⟨rfl,F2⟩
 clear HN
 obtain⟨w3,hw3⟩:∃w3,w2.alloc (.cells #[.string ⟨#[73,70]⟩,.string ⟨#[67,65,83,69]⟩,.string ⟨#[87,72,73,76,69]⟩,.string ⟨#[82,69,80,69,65,84]⟩,.string ⟨#[76,79,79,80]⟩,.string ⟨#[69,88,73,84]⟩,.string ⟨#[70,79,82]⟩,.string ⟨#[87,73,84,72]⟩,.string ⟨#[82,69,84,85,82,78]⟩] 9)=w3:=⟨_,rfl⟩
 have F3:Fr [] w2 w3:=by rw [← hw3];exact Fr.alloc _ _
 have hsl:StrL w3 (.slice (some ⟨w2.heap.size,0,none⟩) 9 9) begL:=by rw [← hw3];exact zMb w2 begL _ rfl 9 9 rfl
 have H3:=oH (oA (F2.on F3) hsl)
 clear F2 F3 hsl
 go_upto_region 5 with fail
 try rw [hw3]
 clear hw3
 obtain⟨g,hg⟩:∃g,w2.heap.size=g:=⟨_,rfl⟩
 have HSL:Hid (∀(k:Nat) (x:List UInt8),begL[k]?=some x→w3.cell? ⟨g,k,none⟩=some (.string ⟨x.toArray⟩)):=oH (fun k x hx=>by
  obtain⟨q,cap,he,hst⟩:=H3.out.2
  obtain⟨g2,e,_,hc⟩:=hst k x hx
  injection he with h1 _ _
  rw [← h1] at e
  injection e with e
  injection e with e
  rw [← hg,e];exact hc)
 try rw [hg]
 clear hg
 go_loopw [4] (fun iv wr=>∃k:Nat,k≤9∧iv=.int .i64 k∧(∀(j:Nat) (x:List UInt8),j < k→begL[j]?=some x→isW TKI x=false)∧Fr [] w3 wr) (fun iv _=>9 - (intOf iv).toNat)
 case atStart=>exact⟨0,Nat.zero_le _,rfl,fun j x hj=>absurd hj (Nat.not_lt_zero _),Fr.refl _ _⟩
 case round =>
  obtain⟨k,hk,rfl,hno,Fr3⟩:=hrel
  by_cases hlt:k < 9
  ·obtain⟨x,hx⟩:∃x,begL[k]?=some x:=⟨_,List.getElem?_eq_getElem (by show k < 9;exact hlt)⟩
   have cg:=Fr3.cellE (HSL.out k x hx)
   have HW:=zAy c wr i false x ((HX.out.1.keep H3.out.1).keep Fr3)
   rw [HTK.out] at HW
   simp only [Bool.not_false,Bool.true_and,pt] at HW
   have hk0:(0:Int)≤(k:Int):=by omega
   have hk1:(k:Int) < 9:=by omega
   have HXE:=oH (oA hx (oA hno Fr3))
   have hS1:∀w',Fr [] wr w'→w'.cell? ⟨g,k,none⟩=some (.string ⟨x.toArray⟩):=fun w' F=>F.cellE cg
   have HWD:=zAy c wr.drew i false x (((HX.out.1.keep H3.out.1).keep Fr3).keep (Fr.drew wr))
   rw [HTK.out] at HWD
   simp only [Bool.not_false,Bool.true_and,pt] at HWD
   clear hx hno Fr3 HW
   obtain⟨xb,hxb⟩:∃xb,isW TKI x=xb:=⟨_,rfl⟩
   have HXB:=oH hxb
   rw [hxb] at HWD
   clear hxb
   generalize (⟨x.toArray⟩:ByteArray)=sx at *
   cases xb
   all_goals
    go_wp2_with fail
    refine zAp 7 (S:=fun w'=>w'.cell? ⟨g,k,none⟩=some (.string sx)) (by kernel_rfl) ?_ (fun hHeld=>?_)
    ·exact hS1 _ (Fr.drew wr)
    refine aT 14 0 ?_
    refine aT 14 1 ?_
    refine aT 14 2 ?_
    refine aT 14 3 ?_
    refine aT 14 4 ?_
    refine aT 14 5 ?_
    refine aT 14 6 ?_
    refine zAa (rs:=[7]) (by kernel_rfl) (by simp) ?_
    refine AllL.last rfl (by kernel_rfl) (fun K hK=>?_) ?_
    rotate_left
    ·exact AllL.nil
    go_simp
    refine HWD.mono ?_
    rintro e w5 ⟨rfl,F5⟩
    have H5:=oH F5
    clear F5 HWD
    go_wp2_with fail
    refine hK.out _ _ ?_
    clear hK K
    try simp only[Act.put,oB,oC,oD,oE,oF,oG]
    refine zAl (by kernel_rfl) ?_ _
    go_wp2_with fail
   ·go_roundw
    case rel =>
     refine⟨k+1,by omega,by simp,fun j y hj hy=>?_,HXE.out.2.2.on ((Fr.drew wr).on H5.out)⟩
     rcases Nat.lt_or_ge j k with h1 | h1
     ·exact HXE.out.2.1 j y h1 hy
     ·obtain rfl:j=k:=by omega
      rw [HXE.out.1] at hy
      injection hy with hy
      rw [← hy];exact HXB.out
    case measure=>simp [intOf];omega
   ·go_ret
    refine⟨?_,(H3.out.1.on HXE.out.2.2).on ((Fr.drew wr).on H5.out)⟩
    rw [← HRB.out,decide_eq_true (zXt (List.mem_of_getElem? HXE.out.1) HXB.out)]
    rfl
  ·have hk9:k=9:=by omega
   subst hk9
   have HXE:=oH (oA hno Fr3)
   clear hno Fr3
   go_wp2_with fail
   go_ret
   refine⟨?_,H3.out.1.on HXE.out.2⟩
   have hn:pickN TKI=10:=qBl (by rw [← HTK.out];exact HX.out.2) (fun x hx=>by
    obtain⟨j,hj⟩:=List.getElem?_of_mem hx
    exact HXE.out.1 j x (by have:=(List.getElem?_eq_some_iff.1 hj).1;exact this) hj)
   rw [← HRB.out,hn]
   rfl
end Go.Proofs.YtepfknfadpkigaaGreat
end
section
namespace Go.Proofs.YtepfknfadpkigaaGreat
open Go.RowKit
set_option maxHeartbeats 1000000
theorem zSv (t:TK):pickN t≤10:=by
 unfold pickN
 repeat' split
 all_goals omega
theorem zQt {t:TK} (h:t.1.k=1):pickN t≠10:=by
 unfold pickN
 rw [if_pos h]
 decide
theorem zMj {ts:List TK} {B:Nat→Re} {i:Nat} (h:pickN (tk ts i)=10):stmM ts B i=none:=by
 rw [zEf,zLr,h]
 rfl
theorem zSw {ts:List TK} {B:Nat→Re} {i:Nat} (h:pickN (tk ts i)≠10):∃r,stmM ts B i=some r:=by
 cases hm:stmM ts B i with
 | some r=>exact⟨r,rfl⟩
 | none =>
  rw [zEf,zLr] at hm
  have h1:=List.getElem?_eq_none_iff.1 hm
  have h2:=zSv (tk ts i)
  simp at h1
  omega
theorem zXu {ts:List TK} {B:Nat→Re} {i:Nat} {s:List UInt8} (h:isS (tk ts i) s=true):pickN (tk ts i)=10:=by
 unfold isS at h
 simp only [Bool.and_eq_true,beq_iff_eq] at h
 have h1:=h.1
 unfold pickN isW
 simp [h1]
theorem zQu {ts:List TK} {s:List UInt8} {I:Nat→Option Re} {l:List DT} {i:Nat} (h:isS (tk ts i) s=false) (hI:I i=none) (m:Nat):partM ts s I (m+1) l i=.ok l i:=by
 rw [zCy,zFb h,hI]
theorem zXv {ts:List TK} {s:List UInt8} {I:Nat→Option Re} {l:List DT} {i:Nat} {r:Re} (h:isS (tk ts i) s=false) (hI:I i=some r) (m:Nat) :
  partM ts s I (m+1) l i=(kid (fun _=>r) (.ok l i)).bnd fun l k=>if isS (tk ts k) s=true then partM ts s I m l (k+1) else .ok l k:=by
 rw [zCy,zFb h,hI]
 unfold kid
 show (r.bndL _)=(r.bndL fun x k=>ReL.ok (l++[x]) k).bnd _
 cases r with
 | out=>rfl
 | bad k=>rfl
 | ok x k =>
  show (if isS (tk ts k) s=true then partM ts s I m (l++[x]) k else .ok (l++[x]) k)=(if isS (tk ts k) s=true then partM ts s I m (l++[x]) (k+1) else .ok (l++[x]) k)
  cases hs:isS (tk ts k) s
  ·rfl
  ·exact zGo hs m
theorem zMk (c:Rc) (w:World) (i:Nat) (h:RF c w i false):Calls Tryz.prog 34 #[.pointer (some ⟨c.R,0,none⟩)] w fun e w'=>e=.returned (.bool (decide (pickN (tk c.ts i)≠10)))∧Fr [] w w':=by
 by_cases hk:(tk c.ts i).1.k=1
 ·refine(zQr c w i h hk).mono ?_
  rintro e w' ⟨rfl,F⟩
  exact⟨by rw [decide_eq_true (zQt hk)],F⟩
 ·exact zQs c w i h hk
end Go.Proofs.YtepfknfadpkigaaGreat
end
