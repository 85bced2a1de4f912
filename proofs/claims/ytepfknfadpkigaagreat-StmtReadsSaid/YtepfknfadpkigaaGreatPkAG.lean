/- Several texts in one. -/
import Derived.Test.YtepfknfadpkigaaGreatPkAA
import Derived.Test.YtepfknfadpkigaaGreatPkAF
set_option linter.unusedVariables false
set_option linter.unusedSimpArgs false
section
namespace Go.Proofs.YtepfknfadpkigaaGreat
open Go.RowKit
set_option maxHeartbeats 1000000
def Mono (G:Nat→Re):Prop:=∀i d j,G i=.ok d j→i < j
def Fin' (G:Nat→Re) (p:Nat):Prop:=∀i,p≤i→G i≠.out
def FinL (L:Nat) (G:Nat→Re) (p:Nat):Prop:=∀i,p≤i→i≤L→G i≠.out
theorem Fin'.l {G:Nat→Re} {p:Nat} (h:Fin' G p) (L:Nat):FinL L G p:=fun i hi _=>h i hi
section
variable {ts:List TK}
theorem zJb:∀(m:Nat) (x:DT) (i:Nat) (d:DT) (j:Nat),dotsM ts m x i=.ok d j→i≤j
 | 0,_,_,_,_,h=>by cases h
 | m+1,x,i,d,j,h=>by
  unfold dotsM at h
  split at h
  ·split at h
   ·have:=zJb m _ _ _ _ h;omega
   ·cases h
  ·cases h;omega
theorem zLa:∀(m:Nat) (x:DT) (i:Nat),1≤m→ts.length+1≤m+i→dotsM ts m x i≠.out
 | 0,_,_,h,_=>absurd h (by omega)
 | m+1,x,i,_,hm=>by
  unfold dotsM
  split
  ·rename_i hs
   have:=zAm hs
   split
   ·exact zLa m _ _ (by omega) (by omega)
   ·simp
  ·simp
theorem zFx:Mono (qualM ts):=fun i d j h=>by
 unfold qualM at h
 split at h
 ·have:=zJb _ _ _ _ _ h;omega
 ·cases h
theorem zFf (i:Nat):qualM ts i≠.out:=by
 unfold qualM
 split
 ·exact zLa _ _ _ (by omega) (by omega)
 ·simp
theorem zCt {E:Nat→Re} (hE:Mono E):∀(m:Nat) (f:Bool) (x:DT) (i:Nat) (d:DT) (j:Nat),selM ts E m f x i=.ok d j→i≤j
 | 0,_,_,_,_,_,h=>by cases h
 | m+1,false,x,i,d,j,h=>by
  unfold selM at h
  split at h
  ·split at h
   ·have:=zCt hE m _ _ _ _ _ h;omega
   ·cases h
  ·split at h
   ·have:=zCt hE m _ _ _ _ _ h;omega
   ·split at h
    ·exact zCt hE m _ _ _ _ _ h
    ·cases h;omega
 | m+1,true,x,i,d,j,h=>by
  unfold selM at h
  split at h
  ·rename_i e k hk
   have:=hE _ _ _ hk
   split at h
   ·have:=zCt hE m _ _ _ _ _ h;omega
   ·split at h
    ·have:=zCt hE m _ _ _ _ _ h;omega
    ·cases h
  ·cases h
  ·cases h
theorem zDs {E:Nat→Re} {p:Nat} (hE:Mono E) (hF:FinL ts.length E (p+1)):∀(m:Nat) (f:Bool) (x:DT) (i:Nat),p≤i→1≤m→2 * ts.length+2≤m+2 * i+(if f then 1 else 0)→(f=true→i < ts.length)→selM ts E m f x i≠.out
 | 0,_,_,_,_,h,_,_=>absurd h (by omega)
 | m+1,false,x,i,hp,_,hm,_=>by
  unfold selM
  simp at hm
  split
  ·rename_i hs
   have:=zAm hs
   split
   ·exact zDs hE hF m false _ _ (by omega) (by omega) (by simp;omega) (by simp)
   ·simp
  ·split
   ·rename_i hs
    have:=zAm hs
    exact zDs hE hF m false _ _ (by omega) (by omega) (by simp;omega) (by simp)
   ·split
    ·rename_i hs
     have:=zAm hs
     exact zDs hE hF m true _ _ (by omega) (by omega) (by simp;omega) (fun _=>this)
    ·simp
 | m+1,true,x,i,hp,_,hm,hi=>by
  have hi:=hi rfl
  unfold selM
  simp at hm
  split
  ·rename_i e k hk
   have:=hE _ _ _ hk
   split
   ·rename_i hs
    have:=zAm hs
    exact zDs hE hF m true _ _ (by omega) (by omega) (by simp;omega) (fun _=>this)
   ·split
    ·rename_i hs
     have:=zAm hs
     exact zDs hE hF m false _ _ (by omega) (by omega) (by simp;omega) (by simp)
    ·simp
  ·simp
  ·rename_i hk
   exact absurd hk (hF _ (by omega) (by omega))
theorem zHp {I:Nat→Re} (hI:Mono I):∀(m:Nat) (acc:List DT) (i:Nat) (l:List DT) (j:Nat),lstM ts I m acc i=.ok l j→i < j
 | 0,_,_,_,_,h=>by cases h
 | m+1,acc,i,l,j,h=>by
  unfold lstM at h
  split at h
  ·rename_i t k hk
   have:=hI _ _ _ hk
   split at h
   ·have:=zHp hI m _ _ _ _ h;omega
   ·cases h;omega
  ·cases h
  ·cases h
theorem zKb {I:Nat→Re} {p:Nat} (hI:Mono I) (hF:FinL ts.length I p):∀(m:Nat) (acc:List DT) (i:Nat),p≤i→i≤ts.length→1≤m→ts.length+1≤m+i→lstM ts I m acc i≠.out
 | 0,_,_,_,_,h,_=>absurd h (by omega)
 | m+1,acc,i,hp,hi,_,hm=>by
  unfold lstM
  split
  ·rename_i t k hk
   have:=hI _ _ _ hk
   split
   ·rename_i hs
    have:=zAm hs
    exact zKb hI hF m _ _ (by omega) (by omega) (by omega) (by omega)
   ·simp
  ·simp
  ·rename_i hk
   exact absurd hk (hF _ hp hi)
theorem zBu {E:Nat→Re} (hE:Mono E):Mono (elemM ts E):=fun i d j h=>by
 unfold elemM at h
 split at h
 ·rename_i lo k hk
  have:=hE _ _ _ hk
  unfold elTl at h
  split at h
  ·split at h
   ·rename_i hi k2 hk2
    have:=hE _ _ _ hk2
    cases h;omega
   ·cases h
   ·cases h
  ·cases h;omega
 ·cases h
 ·cases h
theorem zHq {E:Nat→Re} {p:Nat} (hE:Mono E) (hF:FinL ts.length E p):FinL ts.length (elemM ts E) p:=fun i hp hi=>by
 unfold elemM
 split
 ·rename_i lo k hk
  have:=hE _ _ _ hk
  unfold elTl
  split
  ·rename_i hs
   have:=zAm hs
   split
   ·simp
   ·simp
   ·rename_i hk2
    exact absurd hk2 (hF _ (by omega) (by omega))
  ·simp
 ·simp
 ·rename_i hk
  exact absurd hk (hF _ hp hi)
theorem zFy {I:Nat→Re} (hI:Mono I) (e:List UInt8) (i:Nat) (l:List DT) (j:Nat) (h:withM ts e I i=.ok l j):i < j:=by
 unfold withM at h
 split at h
 ·cases h;omega
 ·split at h
  ·rename_i l2 k hk
   have:=zHp hI _ _ _ _ _ hk
   split at h
   ·cases h;omega
   ·cases h
  ·cases h
  ·cases h
theorem zFg {I:Nat→Re} {p:Nat} (hI:Mono I) (hF:FinL ts.length I (p+1)) (e:List UInt8) (i:Nat) (hp:p≤i) (hi:i < ts.length):withM ts e I i≠.out:=by
 unfold withM
 split
 ·simp
 ·split
  ·split <;> simp
  ·simp
  ·rename_i hk
   exact absurd hk (zKb hI hF _ _ _ (by omega) (by omega) (by omega) (by omega))
theorem zOl {f:List DT→DT} {r:ReL} {d:DT} {j:Nat} (h:r.re f=.ok d j):∃l,r=.ok l j:=by
 cases r with
 | ok l k=>cases h;exact⟨l,rfl⟩
 | bad k=>cases h
 | out=>cases h
theorem zJc {f:List DT→DT} {r:ReL} (h:r≠.out):r.re f≠.out:=by
 cases r with
 | ok l k=>simp [ReL.re]
 | bad k=>simp [ReL.re]
 | out=>exact absurd rfl h
theorem zRp {E:Nat→Re} (hE:Mono E):Mono (nmdM ts E):=fun i d j h=>by
 unfold nmdM at h
 split at h
 ·rename_i x k hk
  have:=zFx _ _ _ hk
  split at h
  ·obtain⟨l,hl⟩:=zOl h
   have:=zFy (zBu hE) _ _ _ _ hl
   omega
  ·split at h
   ·rename_i y k2 hk2
    have:=zCt hE _ _ _ _ _ _ hk2
    split at h
    ·obtain⟨l,hl⟩:=zOl h
     have:=zFy hE _ _ _ _ hl
     omega
    ·cases h;omega
   ·cases h
   ·cases h
 ·cases h
 ·cases h
theorem zVa {E:Nat→Re} {p:Nat} (hE:Mono E) (hF:FinL ts.length E (p+1)):Fin' (nmdM ts E) p:=fun i hp=>by
 unfold nmdM
 split
 ·rename_i x k hk
  have:=zFx _ _ _ hk
  split
  ·rename_i hs
   exact zJc (zFg (p:=p) (zBu hE) (zHq hE hF) _ _ (by omega) (zAm hs))
  ·split
   ·rename_i y k2 hk2
    have:=zCt hE _ _ _ _ _ _ hk2
    split
    ·rename_i hs
     exact zJc (zFg (p:=p) hE hF _ _ (by omega) (zAm hs))
    ·simp
   ·simp
   ·rename_i hk2
    exact absurd hk2 (zDs (p:=p) hE hF _ _ _ _ (by omega) (by omega) (by simp) (by simp))
 ·simp
 ·rename_i hk
  exact absurd hk (zFf _)
theorem zOm {E:Nat→Re} (hE:Mono E):Mono (operM ts E):=fun i d j h=>by
 unfold operM at h
 split at h
 ·exact zRp hE _ _ _ h
 split at h
 ·cases h;omega
 split at h
 ·cases h;omega
 split at h
 ·cases h;omega
 split at h
 ·obtain⟨l,hl⟩:=zOl h
  exact zFy (zBu hE) _ _ _ _ hl
 split at h
 ·split at h
  ·rename_i x k hk
   have:=hE _ _ _ hk
   split at h
   ·cases h;omega
   ·cases h
  ·cases h
  ·cases h
 ·cases h
theorem zRq {E:Nat→Re} {p:Nat} (hE:Mono E) (hF:FinL ts.length E (p+1)):Fin' (operM ts E) p:=fun i hp=>by
 unfold operM
 split
 ·exact zVa hE hF _ hp
 split
 ·simp
 split
 ·simp
 split
 ·simp
 split
 ·rename_i hs
  exact zJc (zFg (p:=p) (zBu hE) (zHq hE hF) _ _ hp (zAm hs))
 split
 ·rename_i hs
  have:=zAm hs
  split
  ·split <;> simp
  ·simp
  ·rename_i hk
   exact absurd hk (hF _ (by omega) (by omega))
 ·simp
theorem zEo {tb:List (List UInt8 × Nat)} {again:Bool} {G:Nat→Re} (hG:Mono G):Mono (aheadM ts tb again G):=fun i d j h=>by
 unfold aheadM at h
 split at h
 ·rename_i x k hk
  have:=hG _ _ _ hk
  cases h;omega
 ·cases h
 ·cases h
theorem zJd {tb:List (List UInt8 × Nat)} {again:Bool} {G:Nat→Re} {p:Nat} (hF:Fin' G p):Fin' (aheadM ts tb again G) p:=fun i hp=>by
 unfold aheadM
 split
 ·simp
 ·simp
 ·rename_i hk
  exact absurd hk (hF _ (by omega))
theorem zJe {tb:List (List UInt8 × Nat)} {again:Bool} {G:Nat→Re} (hG:Mono G):∀(m:Nat) (x:DT) (i:Nat) (d:DT) (j:Nat),moreM ts tb again G m x i=.ok d j→i≤j
 | 0,_,_,_,_,h=>by cases h
 | m+1,x,i,d,j,h=>by
  unfold moreM at h
  split at h
  ·split at h
   ·rename_i y k hk
    have:=hG _ _ _ hk
    split at h
    ·have:=zJe hG m _ _ _ _ h;omega
    ·cases h;omega
   ·cases h
   ·cases h
  ·cases h;omega
theorem zLb {tb:List (List UInt8 × Nat)} (hz:tb.lookup []=none) {again:Bool} {G:Nat→Re} {p:Nat} (hG:Mono G) (hF:Fin' G p):∀(m:Nat) (x:DT) (i:Nat),p≤i→1≤m→ts.length+1≤m+i→moreM ts tb again G m x i≠.out
 | 0,_,_,_,h,_=>absurd h (by omega)
 | m+1,x,i,hp,_,hm=>by
  unfold moreM
  split
  ·rename_i ho
   have:=zCb hz ho
   split
   ·rename_i y k hk
    have:=hG _ _ _ hk
    split
    ·exact zLb hz hG hF m _ _ (by omega) (by omega) (by omega)
    ·simp
   ·simp
   ·rename_i hk
    exact absurd hk (hF _ (by omega))
  ·simp
theorem zFz {tb:List (List UInt8 × Nat)} {again:Bool} {F G:Nat→Re} (hF:Mono F) (hG:Mono G):Mono (betwM ts tb again F G):=fun i d j h=>by
 unfold betwM at h
 split at h
 ·rename_i x k hk
  have:=hF _ _ _ hk
  have:=zJe hG _ _ _ _ _ h
  omega
 ·cases h
 ·cases h
theorem zHr {tb:List (List UInt8 × Nat)} (hz:tb.lookup []=none) {again:Bool} {F G:Nat→Re} {p:Nat} (hF:Mono F) (hG:Mono G) (fF:Fin' F p) (fG:Fin' G p):Fin' (betwM ts tb again F G) p:=fun i hp=>by
 unfold betwM
 split
 ·rename_i x k hk
  have:=hF _ _ _ hk
  exact zLb hz hG fG _ _ _ (by omega) (by omega) (by omega)
 ·simp
 ·rename_i hk
  exact absurd hk (fF _ hp)
theorem zEb {E:Nat→Re} (hE:Mono E):Mono (facM ts E):=zEo (zOm hE)
theorem zDe {E:Nat→Re} (hE:Mono E):Mono (termM ts E):=zFz (zEb hE) (zEb hE)
theorem zFh {E:Nat→Re} (hE:Mono E):Mono (simM ts E):=zFz (zEo (zDe hE)) (zDe hE)
theorem zVb {E:Nat→Re} (hE:Mono E):Mono (exM ts E):=zFz (zFh hE) (zFh hE)
theorem zOn {E:Nat→Re} {p:Nat} (hE:Mono E) (hF:FinL ts.length E (p+1)):Fin' (facM ts E) p:=zJd (zRq hE hF)
theorem zLc {E:Nat→Re} {p:Nat} (hE:Mono E) (hF:FinL ts.length E (p+1)):Fin' (termM ts E) p:=zHr rfl (zEb hE) (zEb hE) (zOn hE hF) (zOn hE hF)
theorem zOo {E:Nat→Re} {p:Nat} (hE:Mono E) (hF:FinL ts.length E (p+1)):Fin' (simM ts E) p:=zHr rfl (zEo (zDe hE)) (zDe hE) (zJd (zLc hE hF)) (zLc hE hF)
theorem zTp {E:Nat→Re} {p:Nat} (hE:Mono E) (hF:FinL ts.length E (p+1)):Fin' (exM ts E) p:=zHr rfl (zFh hE) (zFh hE) (zOo hE hF) (zOo hE hF)
theorem zAr:∀n,Mono (exprM ts n)
 | 0=>fun _ _ _ h=>by cases h
 | n+1=>zVb (zAr n)
theorem zLd:∀n,FinL ts.length (exprM ts n) (ts.length+1 - n)
 | 0=>fun i h1 h2=>by omega
 | n+1=>by
  have h:=zTp (ts:=ts) (p:=ts.length+1 - (n+1)) (zAr n) (fun i h1 h2=>zLd n i (by omega) h2)
  exact h.l _
theorem zCc (n:Nat) (h:ts.length+1≤n):Fin' (exprM ts (n+1)) 0:=zTp (zAr n) (fun i h1 h2=>zLd n i (by omega) h2)
theorem zRr {E:Nat→Re} (hE:Mono E):Mono (desM ts E):=fun i d j h=>by
 unfold desM at h
 split at h
 ·rename_i x k hk
  have:=zFx _ _ _ hk
  have:=zCt hE _ _ _ _ _ _ h
  omega
 ·cases h
 ·cases h
theorem zKc {E:Nat→Re} (hE:Mono E) (hF:Fin' E 0):Fin' (desM ts E) 0:=fun i hp=>by
 unfold desM
 split
 ·exact zDs (p:=0) hE (fun i _ _=>hF i (by omega)) _ _ _ _ (by omega) (by omega) (by simp) (by simp)
 ·simp
 ·rename_i hk
  exact absurd hk (zFf _)
theorem zOp {E:Nat→Re} (hE:Mono E) (hF:Fin' E 0) (i:Nat) (hi:i≤ts.length):labM ts E i≠.out:=by
 unfold labM
 exact zJc (zKb (p:=0) (zBu hE) (zHq hE (hF.l _)) _ _ _ (by omega) hi (by omega) (by omega))
end
end Go.Proofs.YtepfknfadpkigaaGreat
namespace Go.Proofs.YtepfknfadpkigaaGreat
open Go.RowKit
set_option maxHeartbeats 1000000
def Bd (L i:Nat) (r:Re):Prop:=(∀d j,r=.ok d j→i≤j∧j≤L)∧∀j,r=.bad j→i≤j∧j≤L
def BdL (L i:Nat) (r:ReL):Prop:=(∀d j,r=.ok d j→i≤j∧j≤L)∧∀j,r=.bad j→i≤j∧j≤L
def Bnd (L:Nat) (G:Nat→Re):Prop:=∀i,i≤L→Bd L i (G i)
theorem Bd.ok {L i j:Nat} {d:DT} (h1:i≤j) (h2:j≤L):Bd L i (.ok d j):=⟨fun _ _ e=>(by cases e;exact⟨h1,h2⟩),fun _ e=>(by cases e)⟩
theorem Bd.bad {L i j:Nat} (h1:i≤j) (h2:j≤L):Bd L i (.bad j):=⟨fun _ _ e=>(by cases e),fun _ e=>(by cases e;exact⟨h1,h2⟩)⟩
theorem Bd.out {L i:Nat}:Bd L i .out:=⟨fun _ _ e=>(by cases e),fun _ e=>(by cases e)⟩
theorem BdL.ok {L i j:Nat} {d:List DT} (h1:i≤j) (h2:j≤L):BdL L i (.ok d j):=⟨fun _ _ e=>(by cases e;exact⟨h1,h2⟩),fun _ e=>(by cases e)⟩
theorem BdL.bad {L i j:Nat} (h1:i≤j) (h2:j≤L):BdL L i (.bad j):=⟨fun _ _ e=>(by cases e),fun _ e=>(by cases e;exact⟨h1,h2⟩)⟩
theorem BdL.out {L i:Nat}:BdL L i .out:=⟨fun _ _ e=>(by cases e),fun _ e=>(by cases e)⟩
theorem Bd.low {L i k:Nat} {r:Re} (h:Bd L k r) (hi:i≤k):Bd L i r:=⟨fun d j e=>⟨Nat.le_trans hi (h.1 d j e).1,(h.1 d j e).2⟩,fun j e=>⟨Nat.le_trans hi (h.2 j e).1,(h.2 j e).2⟩⟩
theorem BdL.low {L i k:Nat} {r:ReL} (h:BdL L k r) (hi:i≤k):BdL L i r:=⟨fun d j e=>⟨Nat.le_trans hi (h.1 d j e).1,(h.1 d j e).2⟩,fun j e=>⟨Nat.le_trans hi (h.2 j e).1,(h.2 j e).2⟩⟩
theorem BdL.re {L i:Nat} {r:ReL} (h:BdL L i r) (f:List DT→DT):Bd L i (r.re f):=by
 cases r with
 | ok l j=>exact Bd.ok (h.1 _ _ rfl).1 (h.1 _ _ rfl).2
 | bad j=>exact Bd.bad (h.2 _ rfl).1 (h.2 _ rfl).2
 | out=>exact Bd.out
section
variable {ts:List TK}
theorem k_lt {i:Nat} (h:(tk ts i).1.k≠0):i < ts.length:=by
 rcases Nat.lt_or_ge i ts.length with h1 | h1
 ·exact h1
 ·rw [zCz h1] at h
  simp [zTK] at h
theorem zLe {x y:DT} {i:Nat} (h:dotM ts x i=some y):i+1 < ts.length:=by
 unfold dotM at h
 split at h
 ·rename_i hk
  exact k_lt (by rw [hk];decide)
 ·cases h
theorem zHs:∀(m:Nat) (x:DT) (i:Nat),i≤ts.length→Bd ts.length i (dotsM ts m x i)
 | 0,_,_,_=>Bd.out
 | m+1,x,i,hi=>by
  unfold dotsM
  split
  ·rename_i hs
   have:=zAm hs
   split
   ·rename_i y hy
    have:=zLe hy
    exact(zHs m _ _ (by omega)).low (by omega)
   ·exact Bd.bad (by omega) (by omega)
  ·exact Bd.ok (Nat.le_refl _) hi
theorem zEp:Bnd ts.length (qualM ts):=fun i hi=>by
 unfold qualM
 split
 ·rename_i hk
  have:=k_lt (ts:=ts) (i:=i) (by rw [hk];decide)
  exact(zHs _ _ _ (by omega)).low (by omega)
 ·exact Bd.bad (Nat.le_refl _) hi
theorem zCq {E:Nat→Re} (hE:Bnd ts.length E):∀(m:Nat) (f:Bool) (x:DT) (i:Nat),i≤ts.length→(f=true→i < ts.length)→Bd ts.length i (selM ts E m f x i)
 | 0,_,_,_,_,_=>by unfold selM;exact Bd.out
 | m+1,false,x,i,hi,_=>by
  unfold selM
  split
  ·rename_i hs
   have:=zAm hs
   split
   ·rename_i y hy
    have:=zLe hy
    exact(zCq hE m _ _ _ (by omega) (by simp)).low (by omega)
   ·exact Bd.bad (by omega) (by omega)
  ·split
   ·rename_i hs
    have:=zAm hs
    exact(zCq hE m _ _ _ (by omega) (by simp)).low (by omega)
   ·split
    ·rename_i hs
     have:=zAm hs
     exact zCq hE m _ _ _ (by omega) (fun _=>this)
    ·exact Bd.ok (Nat.le_refl _) hi
 | m+1,true,x,i,hi,hf=>by
  have hf:=hf rfl
  have h1:=hE (i+1) (by omega)
  unfold selM
  split
  ·rename_i e k hk
   have:=h1.1 _ _ hk
   split
   ·rename_i hs
    have:=zAm hs
    exact(zCq hE m _ _ _ (by omega) (fun _=>this)).low (by omega)
   ·split
    ·rename_i hs
     have:=zAm hs
     exact(zCq hE m _ _ _ (by omega) (by simp)).low (by omega)
    ·exact Bd.bad (by omega) (by omega)
  ·rename_i k hk
   have:=h1.2 _ hk
   exact Bd.bad (by omega) (by omega)
  ·exact Bd.out
theorem zGw {I:Nat→Re} (hI:Bnd ts.length I):∀(m:Nat) (acc:List DT) (i:Nat),i≤ts.length→BdL ts.length i (lstM ts I m acc i)
 | 0,_,_,_=>BdL.out
 | m+1,acc,i,hi=>by
  have h1:=hI i hi
  unfold lstM
  split
  ·rename_i t k hk
   have:=h1.1 _ _ hk
   split
   ·rename_i hs
    have:=zAm hs
    exact(zGw hI m _ _ (by omega)).low (by omega)
   ·exact BdL.ok (by omega) (by omega)
  ·rename_i k hk
   have:=h1.2 _ hk
   exact BdL.bad (by omega) (by omega)
  ·exact BdL.out
theorem zDf {E:Nat→Re} (hE:Bnd ts.length E):Bnd ts.length (elemM ts E):=fun i hi=>by
 have h1:=hE i hi
 unfold elemM
 split
 ·rename_i lo k hk
  have:=h1.1 _ _ hk
  unfold elTl
  split
  ·rename_i hs
   have:=zAm hs
   have h2:=hE (k+1) (by omega)
   split
   ·rename_i hi2 k2 hk2
    have:=h2.1 _ _ hk2
    exact Bd.ok (by omega) (by omega)
   ·rename_i k2 hk2
    have:=h2.2 _ hk2
    exact Bd.bad (by omega) (by omega)
   ·exact Bd.out
  ·exact Bd.ok (by omega) (by omega)
 ·rename_i k hk
  have:=h1.2 _ hk
  exact Bd.bad (by omega) (by omega)
 ·exact Bd.out
theorem zDt {I:Nat→Re} (hI:Bnd ts.length I) (e:List UInt8) (i:Nat) (hi:i < ts.length):BdL ts.length i (withM ts e I i):=by
 unfold withM
 split
 ·rename_i hs
  have:=zAm hs
  exact BdL.ok (by omega) (by omega)
 ·have h1:=zGw hI (ts.length+1) [] (i+1) (by omega)
  split
  ·rename_i l k hk
   have:=h1.1 _ _ hk
   split
   ·rename_i hs
    have:=zAm hs
    exact BdL.ok (by omega) (by omega)
   ·exact BdL.bad (by omega) (by omega)
  ·rename_i k hk
   have:=h1.2 _ hk
   exact BdL.bad (by omega) (by omega)
  ·exact BdL.out
theorem zTq {E:Nat→Re} (hE:Bnd ts.length E):Bnd ts.length (nmdM ts E):=fun i hi=>by
 have h1:=zEp (ts:=ts) i hi
 unfold nmdM
 split
 ·rename_i x k hk
  have:=h1.1 _ _ hk
  split
  ·rename_i hs
   exact((zDt (zDf hE) _ _ (zAm hs)).re _).low (by omega)
  ·have h2:=zCq hE (2 * ts.length+2) false x k (by omega) (by simp)
   split
   ·rename_i y k2 hk2
    have:=h2.1 _ _ hk2
    split
    ·rename_i hs
     exact((zDt hE _ _ (zAm hs)).re _).low (by omega)
    ·exact Bd.ok (by omega) (by omega)
   ·rename_i k2 hk2
    have:=h2.2 _ hk2
    exact Bd.bad (by omega) (by omega)
   ·exact Bd.out
 ·rename_i k hk
  have:=h1.2 _ hk
  exact Bd.bad (by omega) (by omega)
 ·exact Bd.out
theorem zHt {E:Nat→Re} (hE:Bnd ts.length E):Bnd ts.length (operM ts E):=fun i hi=>by
 unfold operM
 split
 ·exact zTq hE _ hi
 split
 ·rename_i hk
  have:=k_lt (ts:=ts) (i:=i) (by rw [hk];decide)
  exact Bd.ok (by omega) (by omega)
 split
 ·rename_i hk
  have:=k_lt (ts:=ts) (i:=i) (by rw [hk];decide)
  exact Bd.ok (by omega) (by omega)
 split
 ·rename_i hk
  have:=k_lt (ts:=ts) (i:=i) (by rw [hk];decide)
  exact Bd.ok (by omega) (by omega)
 split
 ·rename_i hs
  exact(zDt (zDf hE) _ _ (zAm hs)).re _
 split
 ·rename_i hs
  have:=zAm hs
  have h1:=hE (i+1) (by omega)
  split
  ·rename_i x k hk
   have:=h1.1 _ _ hk
   split
   ·rename_i hs
    have:=zAm hs
    exact Bd.ok (by omega) (by omega)
   ·exact Bd.bad (by omega) (by omega)
  ·rename_i k hk
   have:=h1.2 _ hk
   exact Bd.bad (by omega) (by omega)
  ·exact Bd.out
 ·exact Bd.bad (Nat.le_refl _) hi
theorem zOq {tb:List (List UInt8 × Nat)} (hz:tb.lookup []=none):∀(m i:Nat),i≤ts.length→i+opsM ts tb m i≤ts.length
 | 0,i,hi=>by unfold opsM;omega
 | m+1,i,hi=>by
  unfold opsM
  split
  ·rename_i ho
   have:=zCb hz ho
   have:=zOq hz m (i+1) (by omega)
   omega
  ·omega
theorem zEc {tb:List (List UInt8 × Nat)} (hz:tb.lookup []=none) {again:Bool} {G:Nat→Re} (hG:Bnd ts.length G):Bnd ts.length (aheadM ts tb again G):=fun i hi=>by
 have h0:=zOq (ts:=ts) hz (if again then ts.length+1 else 1) i hi
 have h1:=hG _ h0
 unfold aheadM
 split
 ·rename_i x k hk
  have:=h1.1 _ _ hk
  exact Bd.ok (by omega) (by omega)
 ·rename_i k hk
  have:=h1.2 _ hk
  exact Bd.bad (by omega) (by omega)
 ·exact Bd.out
theorem zGa {tb:List (List UInt8 × Nat)} (hz:tb.lookup []=none) {again:Bool} {G:Nat→Re} (hG:Bnd ts.length G):∀(m:Nat) (x:DT) (i:Nat),i≤ts.length→Bd ts.length i (moreM ts tb again G m x i)
 | 0,_,_,_=>Bd.out
 | m+1,x,i,hi=>by
  unfold moreM
  split
  ·rename_i ho
   have:=zCb hz ho
   have h1:=hG (i+1) (by omega)
   split
   ·rename_i y k hk
    have:=h1.1 _ _ hk
    split
    ·exact(zGa hz hG m _ _ (by omega)).low (by omega)
    ·exact Bd.ok (by omega) (by omega)
   ·rename_i k hk
    have:=h1.2 _ hk
    exact Bd.bad (by omega) (by omega)
   ·exact Bd.out
  ·exact Bd.ok (Nat.le_refl _) hi
theorem zGb {tb:List (List UInt8 × Nat)} (hz:tb.lookup []=none) {again:Bool} {F G:Nat→Re} (hF:Bnd ts.length F) (hG:Bnd ts.length G):Bnd ts.length (betwM ts tb again F G):=fun i hi=>by
 have h1:=hF i hi
 unfold betwM
 split
 ·rename_i x k hk
  have:=h1.1 _ _ hk
  exact(zGa hz hG _ _ _ (by omega)).low (by omega)
 ·rename_i k hk
  have:=h1.2 _ hk
  exact Bd.bad (by omega) (by omega)
 ·exact Bd.out
theorem qCi {E:Nat→Re} (hE:Bnd ts.length E):Bnd ts.length (exM ts E):=by
 have f:=zEc (ts:=ts) (tb:=notT) (again:=true) rfl (zHt hE)
 have t:Bnd ts.length (termM ts E):=zGb (tb:=mulT) (again:=true) rfl f f
 have s:Bnd ts.length (simM ts E):=zGb (tb:=sumT) (again:=true) rfl (zEc (tb:=signT) (again:=false) rfl t) t
 exact zGb rfl s s
theorem zCh:∀n,Bnd ts.length (exprM ts n)
 | 0=>fun _ _=>Bd.out
 | n+1=>qCi (zCh n)
theorem zTr {E:Nat→Re} (hE:Bnd ts.length E):Bnd ts.length (desM ts E):=fun i hi=>by
 have h1:=zEp (ts:=ts) i hi
 unfold desM
 split
 ·rename_i x k hk
  have:=h1.1 _ _ hk
  exact(zCq hE _ _ _ _ (by omega) (by simp)).low (by omega)
 ·rename_i k hk
  have:=h1.2 _ hk
  exact Bd.bad (by omega) (by omega)
 ·exact Bd.out
theorem zOr {E:Nat→Re} (hE:Bnd ts.length E):Bnd ts.length (labM ts E):=fun i hi=>(zGw (zDf hE) _ _ _ hi).re _
end
end Go.Proofs.YtepfknfadpkigaaGreat
namespace Go.Proofs.YtepfknfadpkigaaGreat
open Go.RowKit
set_option maxHeartbeats 1000000
def Re.pl:Re→Nat
 | .ok _ j=>j
 | .bad j=>j
 | .out=>0
def ReL.pl:ReL→Nat
 | .ok _ j=>j
 | .bad j=>j
 | .out=>0
def Re.bnd (r:Re) (K:DT→Nat→Re):Re:=match r with
 | .ok x j=>K x j
 | .bad j=>.bad j
 | .out=>.out
def Re.bndL (r:Re) (K:DT→Nat→ReL):ReL:=match r with
 | .ok x j=>K x j
 | .bad j=>.bad j
 | .out=>.out
def ReL.bnd (r:ReL) (K:List DT→Nat→ReL):ReL:=match r with
 | .ok x j=>K x j
 | .bad j=>.bad j
 | .out=>.out
theorem Bd.pl {L i:Nat} {r:Re} (h:Bd L i r) (hr:r≠.out):i≤r.pl∧r.pl≤L:=by
 cases r with
 | ok d j=>exact h.1 d j rfl
 | bad j=>exact h.2 j rfl
 | out=>exact absurd rfl hr
theorem BdL.pl {L i:Nat} {r:ReL} (h:BdL L i r) (hr:r≠.out):i≤r.pl∧r.pl≤L:=by
 cases r with
 | ok d j=>exact h.1 d j rfl
 | bad j=>exact h.2 j rfl
 | out=>exact absurd rfl hr
def Agr (p:Nat) (ts us:List TK):Prop:=∀i,i < p→tk us i=tk ts i
def Ag (p:Nat) (r r':Re):Prop:=r≠.out→r.pl < p→r'≠.out→r'=r
def AgL (p:Nat) (r r':ReL):Prop:=r≠.out→r.pl < p→r'≠.out→r'=r
def AgE (L p:Nat) (E E':Nat→Re):Prop:=∀i,i≤L→Ag p (E i) (E' i)
theorem Ag.same (p:Nat) (r:Re):Ag p r r:=fun _ _ _=>rfl
theorem AgL.same (p:Nat) (r:ReL):AgL p r r:=fun _ _ _=>rfl
theorem AgL.re {p:Nat} {r r':ReL} (h:AgL p r r') (f:List DT→DT):Ag p (r.re f) (r'.re f):=by
 cases r with
 | out=>exact fun h1 _ _=>absurd rfl h1
 | ok l j =>
  intro h1 h2 h3
  have:r'=.ok l j:=h (by simp) h2 (fun e=>h3 (by rw [e];rfl))
  rw [this]
 | bad j =>
  intro h1 h2 h3
  have:r'=.bad j:=h (by simp) h2 (fun e=>h3 (by rw [e];rfl))
  rw [this]
theorem zCw {p L i:Nat} {r r':Re} {K K':DT→Nat→Re} (hb:Bd L i r) (h:Ag p r r') (hK:∀x j,i≤j→j≤L→Bd L j (K x j)) (hA:∀x j,i≤j→j≤L→j < p→Ag p (K x j) (K' x j)):Ag p (r.bnd K) (r'.bnd K'):=by
 intro h1 h2 h3
 cases r with
 | out=>exact absurd rfl h1
 | ok x j =>
  have hij:=hb.1 x j rfl
  have h1':K x j≠.out:=h1
  have h2':(K x j).pl < p:=h2
  have hj:=((hK x j hij.1 hij.2).pl h1').1
  have e:r'=.ok x j:=h (by simp) (show j < p by omega) (fun e=>h3 (by rw [e];rfl))
  subst e
  exact hA x j hij.1 hij.2 (by omega) h1' h2' h3
 | bad j =>
  have e:r'=.bad j:=h (by simp) h2 (fun e=>h3 (by rw [e];rfl))
  subst e
  rfl
theorem zRs {p L i:Nat} {r r':Re} {K K':DT→Nat→ReL} (hb:Bd L i r) (h:Ag p r r') (hK:∀x j,i≤j→j≤L→BdL L j (K x j)) (hA:∀x j,i≤j→j≤L→j < p→AgL p (K x j) (K' x j)):AgL p (r.bndL K) (r'.bndL K'):=by
 intro h1 h2 h3
 cases r with
 | out=>exact absurd rfl h1
 | ok x j =>
  have hij:=hb.1 x j rfl
  have h1':K x j≠.out:=h1
  have h2':(K x j).pl < p:=h2
  have hj:=((hK x j hij.1 hij.2).pl h1').1
  have e:r'=.ok x j:=h (by simp) (show j < p by omega) (fun e=>h3 (by rw [e];rfl))
  subst e
  exact hA x j hij.1 hij.2 (by omega) h1' h2' h3
 | bad j =>
  have e:r'=.bad j:=h (by simp) h2 (fun e=>h3 (by rw [e];rfl))
  subst e
  rfl
theorem zRt {p L i:Nat} {r r':ReL} {K K':List DT→Nat→ReL} (hb:BdL L i r) (h:AgL p r r') (hK:∀x j,i≤j→j≤L→BdL L j (K x j)) (hA:∀x j,i≤j→j≤L→j < p→AgL p (K x j) (K' x j)):AgL p (r.bnd K) (r'.bnd K'):=by
 intro h1 h2 h3
 cases r with
 | out=>exact absurd rfl h1
 | ok x j =>
  have hij:=hb.1 x j rfl
  have h1':K x j≠.out:=h1
  have h2':(K x j).pl < p:=h2
  have hj:=((hK x j hij.1 hij.2).pl h1').1
  have e:r'=.ok x j:=h (by simp) (show j < p by omega) (fun e=>h3 (by rw [e];rfl))
  subst e
  exact hA x j hij.1 hij.2 (by omega) h1' h2' h3
 | bad j =>
  have e:r'=.bad j:=h (by simp) h2 (fun e=>h3 (by rw [e];rfl))
  subst e
  rfl
section
variable {p:Nat} {ts us:List TK} (A:Agr p ts us)
theorem zLf {x:DT} {i:Nat} (e0:tk us i=tk ts i) (e1:tk us (i+1)=tk ts (i+1)):dotM us x i=dotM ts x i:=by
 unfold dotM
 rw [e0,e1]
theorem zVc {E:Nat→Re} (hE:Bnd ts.length E) (t:TK) (lo:DT) (j:Nat) (hj:j≤ts.length):Bd ts.length j (elTl ts E t lo j):=by
 unfold elTl
 split
 ·rename_i hs
  have:=zAm hs
  have h2:=hE (j+1) (by omega)
  split
  ·rename_i hi2 k2 hk2
   have:=h2.1 _ _ hk2
   exact Bd.ok (by omega) (by omega)
  ·rename_i k2 hk2
   have:=h2.2 _ hk2
   exact Bd.bad (by omega) (by omega)
  ·exact Bd.out
 ·exact Bd.ok (Nat.le_refl _) hj
include A
theorem zOs:∀(m m':Nat) (x:DT) (i:Nat),i≤ts.length→Ag p (dotsM ts m x i) (dotsM us m' x i)
 | 0,_,_,_,_=>fun h _ _=>absurd rfl h
 | _+1,0,_,_,_=>fun _ _ h=>absurd rfl h
 | m+1,m'+1,x,i,hi=>fun h1 h2 h3=>by
  have e0:=A i (Nat.lt_of_le_of_lt ((zHs (m+1) x i hi).pl h1).1 h2)
  unfold dotsM at h1 h2 h3 ⊢
  rw [e0] at h3 ⊢
  by_cases hs:isS (tk ts i) [46]=true
  ·have hl:=zAm hs
   rw [if_pos hs] at h1 h2 h3 ⊢
   rw [if_pos hs]
   obtain⟨o,ho⟩:∃o,dotM ts x i=o:=⟨_,rfl⟩
   rw [ho] at h1 h2 ⊢
   cases o with
   | none =>
    have hp:i+1 < p:=h2
    rw [zLf e0 (A _ hp),ho]
   | some y =>
    have hd:=zLe ho
    have hp:=((zHs m y (i+2) (by omega)).pl h1).1
    have h2':(dotsM ts m y (i+2)).pl < p:=h2
    rw [zLf e0 (A _ (by omega)),ho] at h3 ⊢
    exact zOs m m' y (i+2) (by omega) h1 h2' h3
  ·rw [if_neg hs,if_neg hs]
theorem zKd:AgE ts.length p (qualM ts) (qualM us):=fun i hi h1 h2 h3=>by
 have e0:=A i (Nat.lt_of_le_of_lt ((zEp i hi).pl h1).1 h2)
 unfold qualM at h1 h2 h3 ⊢
 rw [e0] at h3 ⊢
 by_cases hs:(tk ts i).1.k=1
 ·have hl:=k_lt (ts:=ts) (i:=i) (by rw [hs];decide)
  rw [if_pos hs] at h1 h2 h3 ⊢
  rw [if_pos hs]
  exact zOs A _ _ _ _ (by omega) h1 h2 h3
 ·rw [if_neg hs,if_neg hs]
theorem zGc {E E':Nat→Re} (hE:Bnd ts.length E) (hA:AgE ts.length p E E'):∀(m m':Nat) (f:Bool) (x:DT) (i:Nat),i≤ts.length→(f=true→i < ts.length)→Ag p (selM ts E m f x i) (selM us E' m' f x i)
 | 0,_,_,_,_,_,_=>fun h _ _=>absurd (by unfold selM;rfl) h
 | _+1,0,_,_,_,_,_=>fun _ _ h=>absurd (by unfold selM;rfl) h
 | m+1,m'+1,false,x,i,hi,hf=>fun h1 h2 h3=>by
  have e0:=A i (Nat.lt_of_le_of_lt ((zCq hE (m+1) false x i hi hf).pl h1).1 h2)
  unfold selM at h1 h2 h3 ⊢
  rw [e0] at h3 ⊢
  by_cases hs:isS (tk ts i) [46]=true
  ·have hl:=zAm hs
   rw [if_pos hs] at h1 h2 h3 ⊢
   rw [if_pos hs]
   obtain⟨o,ho⟩:∃o,dotM ts x i=o:=⟨_,rfl⟩
   rw [ho] at h1 h2 ⊢
   cases o with
   | none =>
    have hp:i+1 < p:=h2
    rw [zLf e0 (A _ hp),ho]
   | some y =>
    have hd:=zLe ho
    have hp:=((zCq hE m false y (i+2) (by omega) (by simp)).pl h1).1
    have h2':(selM ts E m false y (i+2)).pl < p:=h2
    rw [zLf e0 (A _ (by omega)),ho] at h3 ⊢
    exact zGc hE hA m m' false y (i+2) (by omega) (by simp) h1 h2' h3
  ·rw [if_neg hs] at h1 h2 h3 ⊢
   rw [if_neg hs]
   by_cases hs2:isS (tk ts i) [94]=true
   ·have hl:=zAm hs2
    rw [if_pos hs2] at h1 h2 h3 ⊢
    rw [if_pos hs2]
    exact zGc hE hA m m' false _ _ (by omega) (by simp) h1 h2 h3
   ·rw [if_neg hs2] at h1 h2 h3 ⊢
    rw [if_neg hs2]
    by_cases hs3:isS (tk ts i) [91]=true
    ·have hl:=zAm hs3
     rw [if_pos hs3] at h1 h2 h3 ⊢
     rw [if_pos hs3]
     exact zGc hE hA m m' true _ _ hi (fun _=>hl) h1 h2 h3
    ·rw [if_neg hs3,if_neg hs3]
 | m+1,m'+1,true,x,i,hi,hf=>fun h1 h2 h3=>by
  have hl:=hf rfl
  have e0:=A i (Nat.lt_of_le_of_lt ((zCq hE (m+1) true x i hi hf).pl h1).1 h2)
  revert h1 h2 h3
  unfold selM
  rw [e0]
  refine zCw (i:=i+1) (K:=fun e j=>if isS (tk ts j) [44] then selM ts E m true (.node (nd 3 (tk ts i) [] 0) [x,e]) j else if isS (tk ts j) [93] then selM ts E m false (.node (nd 3 (tk ts i) [] 0) [x,e]) (j+1) else .bad j) (K':=fun e j=>if isS (tk us j) [44] then selM us E' m' true (.node (nd 3 (tk ts i) [] 0) [x,e]) j else if isS (tk us j) [93] then selM us E' m' false (.node (nd 3 (tk ts i) [] 0) [x,e]) (j+1) else .bad j) (hE (i+1) (by omega)) (hA (i+1) (by omega)) (fun e j h1 h2=>?_) (fun e j h1 h2 h3=>?_)
  ·try dsimp only
   split
   ·rename_i hs
    have:=zAm hs
    exact zCq hE m _ _ _ (by omega) (fun _=>this)
   ·split
    ·rename_i hs
     have:=zAm hs
     exact(zCq hE m _ _ _ (by omega) (by simp)).low (by omega)
    ·exact Bd.bad (by omega) (by omega)
  ·try dsimp only
   rw [A j h3]
   by_cases hs:isS (tk ts j) [44]=true
   ·have:=zAm hs
    rw [if_pos hs,if_pos hs]
    exact zGc hE hA m m' true _ _ h2 (fun _=>this)
   ·rw [if_neg hs,if_neg hs]
    by_cases hs2:isS (tk ts j) [93]=true
    ·have:=zAm hs2
     rw [if_pos hs2,if_pos hs2]
     exact zGc hE hA m m' false _ _ (by omega) (by simp)
    ·rw [if_neg hs2,if_neg hs2]
     exact Ag.same _ _
theorem zOt {I I':Nat→Re} (hI:Bnd ts.length I) (hA:AgE ts.length p I I'):∀(m m':Nat) (acc:List DT) (i:Nat),i≤ts.length→AgL p (lstM ts I m acc i) (lstM us I' m' acc i)
 | 0,_,_,_,_=>fun h _ _=>absurd rfl h
 | _+1,0,_,_,_=>fun _ _ h=>absurd rfl h
 | m+1,m'+1,acc,i,hi=>by
  unfold lstM
  refine zRs (i:=i) (K:=fun t j=>if isS (tk ts j) [44] then lstM ts I m (acc++[t]) (j+1) else .ok (acc++[t]) j) (K':=fun t j=>if isS (tk us j) [44] then lstM us I' m' (acc++[t]) (j+1) else .ok (acc++[t]) j) (hI i hi) (hA i hi) (fun e j h1 h2=>?_) (fun e j h1 h2 h3=>?_)
  ·try dsimp only
   split
   ·rename_i hs
    have:=zAm hs
    exact(zGw hI m _ _ (by omega)).low (by omega)
   ·exact BdL.ok (by omega) (by omega)
  ·try dsimp only
   rw [A j h3]
   by_cases hs:isS (tk ts j) [44]=true
   ·have:=zAm hs
    rw [if_pos hs,if_pos hs]
    exact zOt hI hA m m' _ _ (by omega)
   ·rw [if_neg hs,if_neg hs]
    exact AgL.same _ _
theorem zVd {E E':Nat→Re} (hE:Bnd ts.length E) (hA:AgE ts.length p E E') (t:TK) (lo:DT) (j:Nat) (hj:j≤ts.length) (hjp:j < p):Ag p (elTl ts E t lo j) (elTl us E' t lo j):=by
 unfold elTl
 rw [A j hjp]
 by_cases hs:isS (tk ts j) [46,46]=true
 ·have:=zAm hs
  rw [if_pos hs,if_pos hs]
  refine zCw (i:=j+1) (K:=fun hi k=>.ok (.node (nd 9 t [] 0) [lo,hi]) k) (K':=fun hi k=>.ok (.node (nd 9 t [] 0) [lo,hi]) k) (hE (j+1) (by omega)) (hA (j+1) (by omega)) (fun e k h1 h2=>?_) (fun e k h1 h2 h3=>?_)
  ·exact Bd.ok (by omega) (by omega)
  ·exact Ag.same _ _
 ·rw [if_neg hs,if_neg hs]
  exact Ag.same _ _
theorem zKe {E E':Nat→Re} (hE:Bnd ts.length E) (hA:AgE ts.length p E E'):AgE ts.length p (elemM ts E) (elemM us E'):=fun i hi h1 h2 h3=>by
 have e0:=A i (Nat.lt_of_le_of_lt ((zDf hE i hi).pl h1).1 h2)
 revert h1 h2 h3
 unfold elemM
 rw [e0]
 exact zCw (i:=i) (K:=fun lo j=>elTl ts E (tk ts i) lo j) (K':=fun lo j=>elTl us E' (tk ts i) lo j) (hE i hi) (hA i hi) (fun e j h1 h2=>zVc hE _ _ _ h2) (fun e j h1 h2 h3=>zVd A hE hA _ _ _ h2 h3)
theorem zHu {I I':Nat→Re} (hI:Bnd ts.length I) (hA:AgE ts.length p I I') (e:List UInt8) (i:Nat) (hi:i < ts.length):AgL p (withM ts e I i) (withM us e I' i):=by
 intro h1 h2 h3
 have hlow:i+1≤(withM ts e I i).pl:=by
  revert h1
  unfold withM
  split
  ·intro _
   show i+1≤i+2
   omega
  ·intro h1
   have h4:=zGw hI (ts.length+1) [] (i+1) (by omega)
   cases hk:lstM ts I (ts.length+1) [] (i+1) with
   | ok l k =>
    have:=h4.1 _ _ hk
    show i+1≤ReL.pl (if isS (tk ts k) e then .ok l (k+1) else .bad k)
    split
    ·show i+1≤k+1
     omega
    ·show i+1≤k
     omega
   | bad k =>
    have:=h4.2 _ hk
    show i+1≤k
    omega
   | out =>
    rw [hk] at h1
    exact absurd rfl h1
 have e1:=A (i+1) (by omega)
 revert h1 h2 h3
 unfold withM
 rw [e1]
 by_cases hs:isS (tk ts (i+1)) e=true
 ·rw [if_pos hs,if_pos hs]
  exact AgL.same _ _
 ·rw [if_neg hs,if_neg hs]
  refine zRt (i:=i+1) (K:=fun l j=>if isS (tk ts j) e then .ok l (j+1) else .bad j) (K':=fun l j=>if isS (tk us j) e then .ok l (j+1) else .bad j) (zGw hI _ _ _ (by omega)) (zOt A hI hA _ _ _ _ (by omega)) (fun l j h1 h2=>?_) (fun l j h1 h2 h3=>?_)
  ·try dsimp only
   split
   ·rename_i hs
    have:=zAm hs
    exact BdL.ok (by omega) (by omega)
   ·exact BdL.bad (by omega) (by omega)
  ·try dsimp only
   rw [A j h3]
   exact AgL.same _ _
theorem zYx {E E':Nat→Re} (hE:Bnd ts.length E) (hA:AgE ts.length p E E'):AgE ts.length p (nmdM ts E) (nmdM us E'):=fun i hi h1 h2 h3=>by
 have e0:=A i (Nat.lt_of_le_of_lt ((zTq hE i hi).pl h1).1 h2)
 revert h1 h2 h3
 unfold nmdM
 rw [e0]
 refine zCw (i:=i) (K:=fun x j=>if isS (tk ts j) [123] then setM ts E (tk ts i) (some x) j else Re.bnd (selM ts E (2 * ts.length+2) false x j) fun y k=>if isS (tk ts k) [40] then callM ts E y k else .ok y k) (K':=fun x j=>if isS (tk us j) [123] then setM us E' (tk ts i) (some x) j else Re.bnd (selM us E' (2 * us.length+2) false x j) fun y k=>if isS (tk us k) [40] then callM us E' y k else .ok y k) (zEp i hi) (zKd A i hi) (fun x j h1 h2=>?_) (fun x j h1 h2 h3=>?_)
 ·try dsimp only
  split
  ·rename_i hs
   exact(zDt (zDf hE) _ _ (zAm hs)).re _
  ·have h4:=zCq hE (2 * ts.length+2) false x j h2 (by simp)
   cases hr:selM ts E (2 * ts.length+2) false x j with
   | out=>exact Bd.out
   | bad k=>exact Bd.bad (h4.2 _ hr).1 (h4.2 _ hr).2
   | ok y k =>
    have:=h4.1 _ _ hr
    show Bd ts.length j (if isS (tk ts k) [40] then callM ts E y k else .ok y k)
    split
    ·rename_i hs
     exact((zDt hE _ _ (zAm hs)).re _).low (by omega)
    ·exact Bd.ok (by omega) (by omega)
 ·try dsimp only
  rw [A j h3]
  by_cases hs:isS (tk ts j) [123]=true
  ·rw [if_pos hs,if_pos hs]
   exact(zHu A (zDf hE) (zKe A hE hA) _ _ (zAm hs)).re _
  ·rw [if_neg hs,if_neg hs]
   refine zCw (i:=j) (zCq hE (2 * ts.length+2) false x j h2 (by simp)) (zGc A hE hA _ _ false x j h2 (by simp)) (fun y k h4 h5=>?_) (fun y k h4 h5 h6=>?_)
   ·try dsimp only
    split
    ·rename_i hs
     exact(zDt hE _ _ (zAm hs)).re _
    ·exact Bd.ok (by omega) (by omega)
   ·try dsimp only
    rw [A k h6]
    by_cases hs:isS (tk ts k) [40]=true
    ·rw [if_pos hs,if_pos hs]
     unfold callM
     rw [A k h6]
     exact(zHu A hE hA _ _ (zAm hs)).re _
    ·rw [if_neg hs,if_neg hs]
     exact Ag.same _ _
theorem zVe {E E':Nat→Re} (hE:Bnd ts.length E) (hA:AgE ts.length p E E'):AgE ts.length p (operM ts E) (operM us E'):=fun i hi h1 h2 h3=>by
 have e0:=A i (Nat.lt_of_le_of_lt ((zHt hE i hi).pl h1).1 h2)
 revert h1 h2 h3
 unfold operM
 rw [e0]
 split
 ·exact zYx A hE hA i hi
 split
 ·exact Ag.same _ _
 split
 ·exact Ag.same _ _
 split
 ·exact Ag.same _ _
 split
 ·rename_i hs
  exact(zHu A (zDf hE) (zKe A hE hA) _ _ (zAm hs)).re _
 split
 ·rename_i hs
  have:=zAm hs
  refine zCw (i:=i+1) (K:=fun x j=>if isS (tk ts j) [41] then .ok x (j+1) else .bad j) (K':=fun x j=>if isS (tk us j) [41] then .ok x (j+1) else .bad j) (hE (i+1) (by omega)) (hA (i+1) (by omega)) (fun x j h1 h2=>?_) (fun x j h1 h2 h3=>?_)
  ·try dsimp only
   split
   ·rename_i hs
    have:=zAm hs
    exact Bd.ok (by omega) (by omega)
   ·exact Bd.bad (by omega) (by omega)
  ·try dsimp only
   rw [A j h3]
   exact Ag.same _ _
 ·exact Ag.same _ _
theorem zTs {tb:List (List UInt8 × Nat)} (hz:tb.lookup []=none):∀(m m' i:Nat),1≤m'→us.length+1≤m'+i→opsM ts tb m i < m→i+opsM ts tb m i < p→opsM us tb m' i=opsM ts tb m i
 | 0,_,_,_,_,h,_=>absurd h (by omega)
 | m+1,0,_,h,_,_,_=>absurd h (by omega)
 | m+1,m'+1,i,_,hm,h1,h2=>by
  have e0:=A i (by omega)
  unfold opsM at h1 h2 ⊢
  rw [e0]
  by_cases ho:isO tb (tk ts i)=true
  ·rw [if_pos ho] at h1 h2 ⊢
   rw [if_pos ho]
   have hl:i < us.length:=zCb hz (by rw [e0];exact ho)
   rw [zTs hz m m' (i+1) (by omega) (by omega) (by omega) (by omega)]
  ·rw [if_neg ho,if_neg ho]
theorem zVf {tb:List (List UInt8 × Nat)} (i:Nat) (hi:i < p):opsM us tb 1 i=opsM ts tb 1 i:=by
 simp only [opsM,A i hi]
theorem zOu (i:Nat):∀(n:Nat) (x:DT),i+n≤p→wrapM us i n x=wrapM ts i n x
 | 0,_,_=>rfl
 | n+1,x,h=>by
  unfold wrapM
  rw [A (i+n) (by omega)]
  exact zOu i n _ (by omega)
theorem zLg {tb:List (List UInt8 × Nat)} (hz:tb.lookup []=none) {again:Bool} {G G':Nat→Re} (hG:Bnd ts.length G) (hA:AgE ts.length p G G'):AgE ts.length p (aheadM ts tb again G) (aheadM us tb again G'):=fun i hi h1 h2 h3=>by
 obtain⟨c,hc⟩:∃c,opsM ts tb (if again then ts.length+1 else 1) i=c:=⟨_,rfl⟩
 have hb:=zOq (ts:=ts) hz (if again then ts.length+1 else 1) i hi
 rw [hc] at hb
 have hlow:i+c≤(aheadM ts tb again G i).pl:=by
  revert h1
  unfold aheadM
  rw [hc]
  have h4:=hG (i+c) hb
  cases hr:G (i+c) with
  | out=>exact fun h1=>absurd rfl h1
  | ok x j=>exact fun _=>(h4.1 _ _ hr).1
  | bad j=>exact fun _=>(h4.2 _ hr).1
 have hu:opsM us tb (if again then us.length+1 else 1) i=c:=by
  cases again with
  | false=>exact(zVf A i (by omega)).trans hc
  | true =>
   have hc':opsM ts tb (ts.length+1) i=c:=hc
   exact(zTs A hz (ts.length+1) (us.length+1) i (by omega) (by omega) (by omega) (by omega)).trans hc'
 revert h1 h2 h3
 unfold aheadM
 rw [hc,hu]
 refine zCw (i:=i+c) (K:=fun x j=>.ok (wrapM ts i c x) j) (K':=fun x j=>.ok (wrapM us i c x) j) (hG (i+c) hb) (hA (i+c) hb) (fun x j h1 h2=>Bd.ok (by omega) (by omega)) (fun x j h1 h2 h3=>?_)
 try dsimp only
 rw [zOu A i c x (by omega)]
 exact Ag.same _ _
theorem zOv {tb:List (List UInt8 × Nat)} (hz:tb.lookup []=none) {again:Bool} {G G':Nat→Re} (hG:Bnd ts.length G) (hA:AgE ts.length p G G'):∀(m m':Nat) (x:DT) (i:Nat),i≤ts.length→Ag p (moreM ts tb again G m x i) (moreM us tb again G' m' x i)
 | 0,_,_,_,_=>fun h _ _=>absurd rfl h
 | _+1,0,_,_,_=>fun _ _ h=>absurd rfl h
 | m+1,m'+1,x,i,hi=>fun h1 h2 h3=>by
  have e0:=A i (Nat.lt_of_le_of_lt ((zGa hz hG (m+1) x i hi).pl h1).1 h2)
  revert h1 h2 h3
  unfold moreM
  rw [e0]
  by_cases ho:isO tb (tk ts i)=true
  ·have hl:=zCb hz ho
   rw [if_pos ho,if_pos ho]
   refine zCw (i:=i+1) (K:=fun y j=>if again then moreM ts tb again G m (.node (nd 11 (tk ts i) (tk ts i).1.x 0) [x,y]) j else .ok (.node (nd 11 (tk ts i) (tk ts i).1.x 0) [x,y]) j) (K':=fun y j=>if again then moreM us tb again G' m' (.node (nd 11 (tk ts i) (tk ts i).1.x 0) [x,y]) j else .ok (.node (nd 11 (tk ts i) (tk ts i).1.x 0) [x,y]) j) (hG (i+1) (by omega)) (hA (i+1) (by omega)) (fun y j h1 h2=>?_) (fun y j h1 h2 h3=>?_)
   ·try dsimp only
    split
    ·exact zGa hz hG m _ _ h2
    ·exact Bd.ok (by omega) (by omega)
   ·try dsimp only
    split
    ·exact zOv hz hG hA m m' _ _ h2
    ·exact Ag.same _ _
  ·rw [if_neg ho,if_neg ho]
   exact Ag.same _ _
theorem zKf {tb:List (List UInt8 × Nat)} (hz:tb.lookup []=none) {again:Bool} {F F' G G':Nat→Re} (hF:Bnd ts.length F) (hG:Bnd ts.length G) (aF:AgE ts.length p F F') (aG:AgE ts.length p G G'):AgE ts.length p (betwM ts tb again F G) (betwM us tb again F' G'):=fun i hi=>by
 unfold betwM
 exact zCw (i:=i) (K:=fun x j=>moreM ts tb again G (ts.length+1) x j) (K':=fun x j=>moreM us tb again G' (us.length+1) x j) (hF i hi) (aF i hi) (fun x j h1 h2=>zGa hz hG _ _ _ h2) (fun x j h1 h2 h3=>zOv A hz hG aG _ _ _ _ h2)
theorem qCj {E E':Nat→Re} (hE:Bnd ts.length E) (hA:AgE ts.length p E E'):AgE ts.length p (exM ts E) (exM us E'):=by
 have f:=zEc (ts:=ts) (tb:=notT) (again:=true) rfl (zHt hE)
 have t:Bnd ts.length (termM ts E):=zGb (tb:=mulT) (again:=true) rfl f f
 have s:Bnd ts.length (simM ts E):=zGb (tb:=sumT) (again:=true) rfl (zEc (tb:=signT) (again:=false) rfl t) t
 have af:AgE ts.length p (facM ts E) (facM us E'):=zLg A (tb:=notT) (again:=true) rfl (zHt hE) (zVe A hE hA)
 have ax:AgE ts.length p (termM ts E) (termM us E'):=zKf A (tb:=mulT) (again:=true) rfl f f af af
 have az:AgE ts.length p (simM ts E) (simM us E'):=zKf A (tb:=sumT) (again:=true) rfl (zEc (tb:=signT) (again:=false) rfl t) t (zLg A (tb:=signT) (again:=false) rfl t ax) ax
 exact zKf A rfl s s az az
theorem zGd:∀n n',AgE ts.length p (exprM ts n) (exprM us n')
 | 0,_=>fun _ _ h _ _=>absurd rfl h
 | _+1,0=>fun _ _ _ _ h=>absurd rfl h
 | n+1,n'+1=>qCj A (zCh n) (zGd n n')
theorem zYy {E E':Nat→Re} (hE:Bnd ts.length E) (hA:AgE ts.length p E E'):AgE ts.length p (desM ts E) (desM us E'):=fun i hi=>by
 unfold desM
 exact zCw (i:=i) (K:=fun x j=>selM ts E (2 * ts.length+2) false x j) (K':=fun x j=>selM us E' (2 * us.length+2) false x j) (zEp i hi) (zKd A i hi) (fun x j h1 h2=>zCq hE _ _ _ _ h2 (by simp)) (fun x j h1 h2 h3=>zGc A hE hA _ _ _ _ _ h2 (by simp))
theorem zYz {E E':Nat→Re} (hE:Bnd ts.length E) (hA:AgE ts.length p E E'):AgE ts.length p (labM ts E) (labM us E'):=fun i hi h1 h2 h3=>by
 have e0:=A i (Nat.lt_of_le_of_lt ((zOr hE i hi).pl h1).1 h2)
 revert h1 h2 h3
 unfold labM
 rw [e0]
 exact(zOt A (zDf hE) (zKe A hE hA) _ _ _ _ hi).re _
end
end Go.Proofs.YtepfknfadpkigaaGreat
namespace Go.Proofs.YtepfknfadpkigaaGreat
open Go.RowKit
set_option maxHeartbeats 1000000
def doM (k:Nat) (ts:List TK) (i:Nat):Re :=
 if k=0 then exprM ts (ts.length+2) i
 else if k=1 then desM ts (exprM ts (ts.length+2)) i
 else if k=2 then qualM ts i
 else labM ts (exprM ts (ts.length+2)) i
theorem zVg (k:Nat) (ts:List TK):Bnd ts.length (doM k ts):=fun i hi=>by
 unfold doM
 split
 ·exact zCh _ i hi
 split
 ·exact zTr (zCh _) i hi
 split
 ·exact zEp i hi
 ·exact zOr (zCh _) i hi
theorem zLh (k:Nat) (ts:List TK) (i:Nat) (hi:i≤ts.length):doM k ts i≠.out:=by
 have hF:=zCc (ts:=ts) (ts.length+1) (by omega)
 unfold doM
 split
 ·exact hF i (Nat.zero_le _)
 split
 ·exact zKc (zAr _) hF i (Nat.zero_le _)
 split
 ·exact zFf i
 ·exact zOp (zAr _) hF i hi
theorem zVh {p:Nat} {ts us:List TK} (A:Agr p ts us) (k:Nat):AgE ts.length p (doM k ts) (doM k us):=fun i hi=>by
 unfold doM
 split
 ·exact zGd A _ _ i hi
 split
 ·exact zYy A (zCh _) (zGd A _ _) i hi
 split
 ·exact zKd A i hi
 ·exact zYz A (zCh _) (zGd A _ _) i hi
end Go.Proofs.YtepfknfadpkigaaGreat
end
