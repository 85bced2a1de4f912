/- Several texts in one. -/
import Derived.Test.YtepfknfadpkigaaGreatPkAA
import Derived.Lib.ItoaNum
import Derived.KernelRfl
set_option linter.unusedVariables false
set_option linter.unusedSimpArgs false
section
namespace Go.Proofs.YtepfknfadpkigaaGreat
open Go
structure T0 where
 k:Nat
 x:List UInt8
 n:Int
def isLt (c:UInt8):Bool:=(decide (65≤c.toNat)&&decide (c.toNat≤90))||(decide (97≤c.toNat)&&decide (c.toNat≤122))
def isDg (c:UInt8):Bool:=decide (48≤c.toNat)&&decide (c.toNat≤57)
def isAn (c:UInt8):Bool:=isLt c||isDg c
def isHx (c:UInt8):Bool:=isDg c||(decide (65≤c.toNat)&&decide (c.toNat≤70))
def isBl (c:UInt8):Bool:=c == 9||c == 10||c == 13||c == 32
def resv:List (List UInt8):=[[65,78,68],[65,82,82,65,89],[66,69,71,73,78],[66,89],[67,65,83,69],[67,79,78,83,84],[68,69,70,73,78,73,84,73,79,78],[68,73,86],[68,79],[69,76,83,69],[69,76,83,73,70],[69,78,68],[69,88,73,84],[69,88,80,79,82,84],[70,79,82],[70,82,79,77],[73,70],[73,77,80,76,69,77,69,78,84,65,84,73,79,78],[73,77,80,79,82,84],[73,78],[76,79,79,80],[77,79,68],[77,79,68,85,76,69],[78,79,84],[79,70],[79,82],[80,79,73,78,84,69,82],[80,82,79,67,69,68,85,82,69],[81,85,65,76,73,70,73,69,68],[82,69,67,79,82,68],[82,69,80,69,65,84],[82,69,84,85,82,78],[83,69,84],[84,72,69,78],[84,79],[84,89,80,69],[85,78,84,73,76],[86,65,82],[87,72,73,76,69],[87,73,84,72]]
def wordB (s:List UInt8):Bool:=resv.contains s
def nameB (s:List UInt8):Bool:=!s.isEmpty&&decide (s.length≤32)&&(s.take 1).all isLt&&!wordB s&&s.all isAn
def cmt:Nat→List UInt8→Option Nat
 | _,[]=>none
 | _,[_]=>none
 | deep,c::d::r =>
  if c=40∧d=42 then (cmt (deep+1) r).map (·+2)
  else if c=42∧d=41 then (if deep≤1 then some 2 else (cmt (deep - 1) r).map (·+2))
  else (cmt deep (d::r)).map (·+1)
def digV (c:UInt8):Int:=if 65≤c.toNat then (c.toNat:Int) - 55 else (c.toNat:Int) - 48
def valL (base most:Int) (n:Int):List UInt8→Option Int
 | []=>if n≤most then some n else none
 | c::r=>if base≤digV c∨most < n then none else valL base most (n * base+digV c) r
def valS (base most:Int) (s:List UInt8):Option Int:=if s=[] then none else valL base most 0 s
def num (s:List UInt8):Option T0 :=
 if s.getLast?=some 72 then (valS 16 65535 s.dropLast).map (⟨2,[],·⟩)
 else match valS 10 65535 s with
  | some n=>some ⟨2,[],n⟩
  | none =>
   if s.getLast?=some 66 then (valS 8 65535 s.dropLast).map (⟨2,[],·⟩)
   else if s.getLast?=some 67 then (valS 8 255 s.dropLast).map (⟨3,[],·⟩)
   else none
def syms2:List (List UInt8):=[[58,61],[60,62],[60,61],[62,61],[46,46]]
def syms1:List UInt8:=[43,45,42,47,126,46,44,59,40,91,123,94,61,35,60,62,58,41,93,125,124,38]
def symb (s:List UInt8):Nat :=
 if syms2.contains (s.take 2) then 2 else if syms1.contains (s.headD 0) then 1 else 0
def plainT (u:List UInt8):T0 :=
 if u=[60,62] then ⟨5,[35],0⟩ else if u=[38] then ⟨6,[65,78,68],0⟩ else if u=[126] then ⟨6,[78,79,84],0⟩ else ⟨5,u,0⟩
def numS (s:List UInt8):List UInt8:=if (s.drop (s.takeWhile isHx).length).head?=some 72 then s.takeWhile isHx++[72] else s.takeWhile isHx
def strS (c:UInt8) (r:List UInt8):List UInt8:=r.takeWhile fun b=>b != c&&b != 10
def oneL (s:List UInt8):Option T0 × Nat × Int :=
 if isLt (s.headD 0) then
  if 32 < (s.takeWhile isAn).length then (none,0,5) else (some ⟨if wordB (s.takeWhile isAn) then 6 else 1,s.takeWhile isAn,0⟩,(s.takeWhile isAn).length,0)
 else if isDg (s.headD 0) then
  match num (numS s) with
  | some t=>(some t,(numS s).length,0)
  | none=>(none,0,41)
 else if s.headD 0=34∨s.headD 0=39 then
  if (s.tail.drop (strS (s.headD 0) s.tail).length).head?=some (s.headD 0) then (some ⟨4,strS (s.headD 0) s.tail,0⟩,(strS (s.headD 0) s.tail).length+2,0) else (none,0,42)
 else if symb s=0 then (none,0,40) else (some (plainT (s.take (symb s))),symb s,0)
def stp (s:List UInt8):Option T0 × Nat × Int :=
 if isBl (s.headD 0) then (none,1,0)
 else if s.take 2=[40,42] then
  match cmt 0 s with
  | some n=>(none,n,0)
  | none=>(none,0,43)
 else oneL s
def scanO:Nat→Nat→List UInt8→List (T0 × Nat × Nat) × Nat × Int
 | 0,off,_=>([],off,0)
 | f+1,off,s =>
  if s=[] then ([],off,0) else
  match stp s with
  | (some t,n,_)=>((t,off,off+n)::(scanO f (off+n) (s.drop n)).1,(scanO f (off+n) (s.drop n)).2)
  | (none,n,e)=>if e=0 then scanO f (off+n) (s.drop n) else ([],off,e)
def scanS (off:Nat) (s:List UInt8):List (T0 × Nat × Nat) × Nat × Int:=scanO s.length off s
def octD (u:Nat):List UInt8:=if h:u < 8 then [UInt8.ofNat (48+u)] else octD (u / 8)++[UInt8.ofNat (48+u % 8)]
termination_by u
decreasing_by omega
def txtT (t:T0):List UInt8 :=
 if t.k=2 then Lib.decDigits t.n.toNat else if t.k=3 then octD t.n.toNat++[67]
 else if t.k=4 then (if t.x.contains 34 then 39::(t.x++[39]) else 34::(t.x++[34])) else t.x
def joinT:List T0→List UInt8
 | []=>[]
 | t::r=>if r=[] then txtT t else txtT t++32::joinT r
end Go.Proofs.YtepfknfadpkigaaGreat
namespace Go.Proofs.YtepfknfadpkigaaGreat
open Go
theorem zNv (p:UInt8→Bool):∀s:List UInt8,(s.takeWhile p).length≤s.length
 | []=>Nat.le_refl _
 | c::r=>by
  rw [List.takeWhile_cons]
  split
  ·have:=zNv p r;simp;omega
  ·simp
theorem zFo (p:UInt8→Bool):∀s:List UInt8,∀b ∈ s.takeWhile p,p b=true
 | [],b,h=>by simp at h
 | c::r,b,h=>by
  rw [List.takeWhile_cons] at h
  split at h
  ·rename_i hc
   rcases List.mem_cons.1 h with rfl | h
   ·exact hc
   ·exact zFo p r b h
  ·simp at h
theorem zIs:∀(s:List UInt8) (deep n:Nat),cmt deep s=some n→2≤n∧n≤s.length
 | [],_,n,h=>by simp [cmt] at h
 | [_],_,n,h=>by simp [cmt] at h
 | c::d::r,deep,n,h=>by
  rw [cmt] at h
  split at h
  ·cases hr:cmt (deep+1) r with
   | none=>rw [hr] at h;cases h
   | some m =>
    rw [hr] at h
    have:=zIs r _ m hr
    simp at h
    simp;omega
  ·split at h
   ·split at h
    ·injection h with h;simp;omega
    ·cases hr:cmt (deep - 1) r with
     | none=>rw [hr] at h;cases h
     | some m =>
      rw [hr] at h
      have:=zIs r _ m hr
      simp at h
      simp;omega
   ·cases hr:cmt deep (d::r) with
    | none=>rw [hr] at h;cases h
    | some m =>
     rw [hr] at h
     have:=zIs (d::r) _ m hr
     simp at h this
     simp;omega
def vOf (base:Nat) (a:Nat):List UInt8→Nat
 | []=>a
 | c::r=>vOf base (a * base+(digV c).toNat) r
theorem zKw (base:Nat) (most:Int):∀(s:List UInt8) (a:Nat) (n:Int),(∀b ∈ s,0≤digV b)→valL base most a s=some n→(∀b ∈ s,digV b < base)∧n=((vOf base a s:Nat):Int)∧n≤most
 | [],a,n,_,h=>by
  have h':(if (a:Int)≤most then some (a:Int) else none)=some n:=h
  split at h'
  ·injection h' with h'
   subst h'
   exact⟨fun b hb=>by simp at hb,rfl,by assumption⟩
  ·cases h'
 | c::r,a,n,hd,h=>by
  have hc:=hd c (by simp)
  have e:((a:Int) * base+digV c)=((a * base+(digV c).toNat:Nat):Int):=by
   rw [Int.natCast_add,Int.natCast_mul,Int.toNat_of_nonneg hc]
  rw [valL] at h
  split at h
  ·cases h
  ·rename_i hn
   rw [e] at h
   obtain⟨h1,h2,h3⟩:=zKw base most r _ n (fun b hb=>hd b (by simp [hb])) h
   refine⟨fun b hb=>?_,h2,h3⟩
   rcases List.mem_cons.1 hb with rfl | hb
   ·exact Int.not_le.1 fun k=>hn (.inl k)
   ·exact h1 b hb
theorem zJu (n u:Nat) (h:u < 10 ^ (n+1)):(Lib.decDigits u).length≤n+1:=by
 induction n generalizing u with
 | zero=>rw [Lib.decDigits,dif_pos (by simpa using h)];simp
 | succ n ih =>
  by_cases h2:u < 10
  ·rw [Lib.decDigits,dif_pos h2];simp
  ·rw [Lib.decDigits,dif_neg h2]
   have:=ih (u / 10) (by rw [Nat.div_lt_iff_lt_mul (by omega),← Nat.pow_succ];exact h)
   simp;omega
theorem zMq (n u:Nat) (h:u < 8 ^ (n+1)):(octD u).length≤n+1:=by
 induction n generalizing u with
 | zero=>rw [octD,dif_pos (by simpa using h)];simp
 | succ n ih =>
  by_cases h2:u < 8
  ·rw [octD,dif_pos h2];simp
  ·rw [octD,dif_neg h2]
   have:=ih (u / 8) (by rw [Nat.div_lt_iff_lt_mul (by omega),← Nat.pow_succ];exact h)
   simp;omega
theorem zNw (base:Nat) (hb:1≤base):∀(s:List UInt8) (a m:Nat),(∀b ∈ s,digV b < base)→a < m→vOf base a s < m * base ^ s.length
 | [],a,m,_,h=>by
  show a < m * base ^ 0
  rw [Nat.pow_zero,Nat.mul_one];exact h
 | c::r,a,m,hd,h=>by
  have hc:=hd c (by simp)
  have h2:a * base+(digV c).toNat < m * base:=by
   have:(a+1) * base≤m * base:=Nat.mul_le_mul_right base h
   rw [Nat.add_mul] at this
   omega
  have:=zNw base hb r _ (m * base) (fun b hbb=>hd b (by simp [hbb])) h2
  rw [List.length_cons,Nat.pow_succ,Nat.mul_comm (base ^ r.length) base,← Nat.mul_assoc]
  exact this
end Go.Proofs.YtepfknfadpkigaaGreat
namespace Go.Proofs.YtepfknfadpkigaaGreat
open Go
set_option maxRecDepth 10000
def symsP:List (List UInt8):=[[43],[45],[42],[47],[46],[44],[59],[40],[91],[123],[94],[61],[35],[60],[62],[58],[41],[93],[125],[124],[58,61],[60,61],[62,61],[46,46]]
def tokOk (t:T0):Prop :=
 (t.k=1∧nameB t.x=true∧t.n=0)∨(t.k=6∧wordB t.x=true∧t.n=0)∨(t.k=2∧t.x=[]∧0≤t.n∧t.n≤65535)∨(t.k=3∧t.x=[]∧0≤t.n∧t.n≤255) ∨
 (t.k=4∧t.n=0∧(∀b ∈ t.x,b≠10)∧(t.x.contains 34=true→t.x.contains 39=false))∨(t.k=5∧t.n=0∧symsP.contains t.x=true)
def sepOk (rest:List UInt8):Prop:=∀c,rest.head?=some c→c=9∨c=10∨c=13∨c=32∨c=40
theorem qCa (c:UInt8) (h:isLt c=true):isBl c=false∧c≠40∧isDg c=false:=by
 unfold isLt at h
 unfold isBl isDg
 simp at h
 refine⟨?_,?_,?_⟩
 ·simp
  refine⟨⟨⟨?_,?_⟩,?_⟩,?_⟩ <;> (intro e;subst e;revert h;decide)
 ·intro e;subst e;revert h;decide
 ·simp;omega
theorem qCb (c:UInt8) (h:isDg c=true):isBl c=false∧c≠40∧isLt c=false:=by
 unfold isDg at h
 unfold isBl isLt
 simp at h
 refine⟨?_,?_,?_⟩
 ·simp
  refine⟨⟨⟨?_,?_⟩,?_⟩,?_⟩ <;> (intro e;subst e;revert h;decide)
 ·intro e;subst e;revert h;decide
 ·simp;omega
theorem zHn (c:UInt8) (r:List UInt8) (h:c≠40):(c::r).take 2≠[40,42]:=fun e=>by
 cases r with
 | nil=>simp at e
 | cons d r=>simp at e;exact h e.1
theorem zMr (c:UInt8) (r:List UInt8) (h:isLt c=true):stp (c::r)=if 32 < ((c::r).takeWhile isAn).length then (none,0,5) else (some ⟨if wordB ((c::r).takeWhile isAn) then 6 else 1,(c::r).takeWhile isAn,0⟩,((c::r).takeWhile isAn).length,0):=by
 obtain⟨h1,h2,h3⟩:=qCa c h
 unfold stp
 rw [show (c::r).headD 0=c from rfl,if_neg (by rw [h1];decide),if_neg (zHn c r h2)]
 unfold oneL
 rw [show (c::r).headD 0=c from rfl,if_pos h]
theorem zNx (c:UInt8) (r:List UInt8) (h:isDg c=true):stp (c::r)=match num (numS (c::r)) with
  | some t=>(some t,(numS (c::r)).length,0)
  | none=>(none,0,41):=by
 obtain⟨h1,h2,h3⟩:=qCb c h
 unfold stp
 rw [show (c::r).headD 0=c from rfl,if_neg (by rw [h1];decide),if_neg (zHn c r h2)]
 unfold oneL
 rw [show (c::r).headD 0=c from rfl,if_neg (by rw [h3];decide),if_pos h]
 all_goals (cases num (numS (c::r)) <;> rfl)
theorem zNy (c:UInt8) (r:List UInt8) (h:c=34∨c=39):stp (c::r)=if (r.drop (strS c r).length).head?=some c then (some ⟨4,strS c r,0⟩,(strS c r).length+2,0) else (none,0,42):=by
 have h1:isBl c=false:=by rcases h with rfl | rfl <;> decide
 have h2:c≠40:=by rcases h with rfl | rfl <;> decide
 have h3:isLt c=false:=by rcases h with rfl | rfl <;> decide
 have h4:isDg c=false:=by rcases h with rfl | rfl <;> decide
 unfold stp
 rw [show (c::r).headD 0=c from rfl,if_neg (by rw [h1];decide),if_neg (zHn c r h2)]
 unfold oneL
 rw [show (c::r).headD 0=c from rfl,if_neg (by rw [h3];decide),if_neg (by rw [h4];decide),if_pos h]
 rfl
end Go.Proofs.YtepfknfadpkigaaGreat
namespace Go.Proofs.YtepfknfadpkigaaGreat
open Go
set_option maxRecDepth 10000
theorem qBz (t:T0) (hk:t.k=5) (hn:t.n=0) (hx:symsP.contains t.x=true) (rest:List UInt8) (hs:sepOk rest):stp (t.x++rest)=(some t,t.x.length,0):=by
 obtain⟨k,x,n⟩:=t
 simp only at hk hn hx ⊢
 subst hk;subst hn
 have hm:x ∈ symsP:=List.contains_iff_mem.1 hx
 clear hx
 unfold symsP at hm
 simp only [List.mem_cons,List.not_mem_nil,or_false] at hm
 rcases hm with rfl | rfl | rfl | rfl | rfl | rfl | rfl | rfl | rfl | rfl | rfl | rfl | rfl | rfl | rfl | rfl | rfl | rfl | rfl | rfl | rfl | rfl | rfl | rfl
 all_goals
  cases rest with
  | nil=>(apply Eq.symm;kernel_rfl)
  | cons c r=>rcases hs c rfl with rfl | rfl | rfl | rfl | rfl <;> (apply Eq.symm;kernel_rfl)
theorem zTo (b:UInt8) (h:isHx b=true):0≤digV b:=by
 unfold isHx isDg at h
 unfold digV
 simp at h
 split <;> omega
theorem zRl (m:Nat):16 ^ m≤10 ^ (2 * m):=by
 rw [Nat.pow_mul]
 exact Nat.pow_le_pow_left (by omega) m
theorem zUr (base:Nat) (hb:1≤base) (hb2:base≤16) (s:List UInt8) (hs:s≠[]) (hd:∀b ∈ s,digV b < base):(Lib.decDigits (vOf base 0 s)).length≤2 * s.length:=by
 have h1:=zNw base hb s 0 1 hd (by omega)
 rw [Nat.one_mul] at h1
 have h2:base ^ s.length≤16 ^ s.length:=Nat.pow_le_pow_left hb2 _
 have h3:=zRl s.length
 have hl:1≤s.length:=by
  cases s with
  | nil=>exact absurd rfl hs
  | cons c r=>simp
 have:=zJu (2 * s.length - 1) (vOf base 0 s) (by rw [show 2 * s.length - 1+1=2 * s.length by omega];omega)
 omega
theorem zUs (s:List UInt8) (hs:s≠[]) (hd:∀b ∈ s,digV b < 8):(octD (vOf 8 0 s)).length≤s.length:=by
 have h1:=zNw 8 (by omega) s 0 1 hd (by omega)
 rw [Nat.one_mul] at h1
 have hl:1≤s.length:=by
  cases s with
  | nil=>exact absurd rfl hs
  | cons c r=>simp
 have:=zMq (s.length - 1) (vOf 8 0 s) (by rw [show s.length - 1+1=s.length by omega];exact h1)
 omega
theorem zKx (base:Nat) (most:Int) (s:List UInt8) (n:Int) (h0:∀b ∈ s,0≤digV b) (h:valS base most s=some n):s≠[]∧(∀b ∈ s,digV b < base)∧n=((vOf base 0 s:Nat):Int)∧n≤most:=by
 unfold valS at h
 split at h
 ·cases h
 ·rename_i hne
  obtain⟨a,b,c⟩:=zKw base most s 0 n h0 h
  exact⟨hne,a,b,c⟩
theorem zUt (s:List UInt8) (t:T0) (h0:∀b ∈ s,0≤digV b) (h:num s=some t):tokOk t∧(txtT t).length≤2 * s.length:=by
 have hdl:s.dropLast.length≤s.length - 1:=by rw [List.length_dropLast];omega
 have hd0:∀b ∈ s.dropLast,0≤digV b:=fun b hb=>h0 b (List.dropLast_subset s hb)
 have two:∀(base:Nat) (v:List UInt8) (n:Int),1≤base→base≤16→v.length≤s.length→(∀b ∈ v,0≤digV b)→valS base 65535 v=some n→t=⟨2,[],n⟩→tokOk t∧(txtT t).length≤2 * s.length:=by
  intro base v n hb1 hb2 hl hv hh ht
  obtain⟨hne,a1,a2,a3⟩:=zKx base 65535 v n hv hh
  subst ht
  refine⟨.inr (.inr (.inl ⟨rfl,rfl,by rw [a2];exact Int.natCast_nonneg _,a3⟩)),?_⟩
  show (Lib.decDigits n.toNat).length≤_
  have:=zUr base hb1 hb2 v hne a1
  rw [a2,Int.toNat_natCast];omega
 unfold num at h
 split at h
 ·cases hh:valS 16 65535 s.dropLast with
  | none=>rw [hh] at h;cases h
  | some n =>
   rw [hh] at h
   exact two 16 s.dropLast n (by omega) (by omega) (by omega) hd0 hh (by injection h with h;exact h.symm)
 ·cases hh:valS 10 65535 s with
  | some n =>
   rw [hh] at h
   exact two 10 s n (by omega) (by omega) (by omega) h0 hh (by injection h with h;exact h.symm)
  | none =>
   rw [hh] at h
   simp only at h
   split at h
   ·cases hh:valS 8 65535 s.dropLast with
    | none=>rw [hh] at h;cases h
    | some n =>
     rw [hh] at h
     exact two 8 s.dropLast n (by omega) (by omega) (by omega) hd0 hh (by injection h with h;exact h.symm)
   ·split at h
    ·cases hh:valS 8 255 s.dropLast with
     | none=>rw [hh] at h;cases h
     | some n =>
      rw [hh] at h
      obtain⟨hne,a1,a2,a3⟩:=zKx 8 255 s.dropLast n hd0 hh
      have ht:t=⟨3,[],n⟩:=by injection h with h;exact h.symm
      subst ht
      refine⟨.inr (.inr (.inr (.inl ⟨rfl,rfl,by rw [a2];exact Int.natCast_nonneg _,a3⟩))),?_⟩
      show (octD n.toNat++[67]).length≤_
      have:=zUs s.dropLast hne a1
      have hl:1≤s.dropLast.length:=by
       cases hq:s.dropLast with
       | nil=>exact absurd hq hne
       | cons c r=>simp
      rw [a2,Int.toNat_natCast,List.length_append]
      simp;omega
    ·cases h
theorem zNz (c:UInt8) (r:List UInt8) (h1:isBl c=false) (h2:(c::r).take 2≠[40,42]) (h3:isLt c=false) (h4:isDg c=false) (h5:¬(c=34∨c=39)) :
  stp (c::r)=if symb (c::r)=0 then (none,0,40) else (some (plainT ((c::r).take (symb (c::r)))),symb (c::r),0):=by
 unfold stp
 rw [show (c::r).headD 0=c from rfl,if_neg (by rw [h1];decide),if_neg h2]
 unfold oneL
 rw [show (c::r).headD 0=c from rfl,if_neg (by rw [h3];decide),if_neg (by rw [h4];decide),if_neg h5]
theorem zDx (s:List UInt8):(numS s).length≤s.length∧∀b ∈ numS s,0≤digV b:=by
 have h1:=zNv isHx s
 unfold numS
 split
 ·rename_i h
  have:(s.takeWhile isHx).length < s.length:=by
   rcases Nat.lt_or_ge (s.takeWhile isHx).length s.length with k | k
   ·exact k
   ·rw [List.drop_of_length_le k] at h;cases h
  refine⟨by simp;omega,fun b hb=>?_⟩
  rcases List.mem_append.1 hb with hb | hb
  ·exact zTo b (zFo isHx s b hb)
  ·rw [List.mem_singleton] at hb;subst hb;decide
 ·exact⟨h1,fun b hb=>zTo b (zFo isHx s b hb)⟩
theorem zKy (c:UInt8) (r:List UInt8) (h:isDg c=true):1≤(numS (c::r)).length:=by
 have:1≤((c::r).takeWhile isHx).length:=by
  rw [List.takeWhile_cons,if_pos (by unfold isHx;rw [h];rfl)];simp
 unfold numS
 split
 ·simp
 ·exact this
theorem zIt (c:UInt8) (r:List UInt8) (h:symb (c::r)≠0):tokOk (plainT ((c::r).take (symb (c::r))))∧1≤symb (c::r)∧symb (c::r)≤(c::r).length∧(txtT (plainT ((c::r).take (symb (c::r))))).length≤3 * symb (c::r):=by
 unfold symb at h ⊢
 by_cases h2:syms2.contains ((c::r).take 2)=true
 ·rw [if_pos h2]
  have hm:(c::r).take 2 ∈ syms2:=List.contains_iff_mem.1 h2
  have hl:2≤(c::r).length:=by
   have:((c::r).take 2).length=2:=by
    unfold syms2 at hm
    simp only [List.mem_cons,List.not_mem_nil,or_false] at hm
    rcases hm with h | h | h | h | h <;> (rw [h];rfl)
   rw [List.length_take] at this;omega
  refine⟨?_,by omega,hl,?_⟩
  ·unfold syms2 at hm
   simp only [List.mem_cons,List.not_mem_nil,or_false] at hm
   rcases hm with h | h | h | h | h <;> (rw [h];exact .inr (.inr (.inr (.inr (.inr ⟨rfl,rfl,by decide⟩)))))
  ·unfold syms2 at hm
   simp only [List.mem_cons,List.not_mem_nil,or_false] at hm
   rcases hm with h | h | h | h | h <;> (rw [h];decide)
 ·rw [if_neg h2] at h ⊢
  by_cases h1:syms1.contains ((c::r).headD 0)=true
  ·rw [if_pos h1]
   have hm:c ∈ syms1:=List.contains_iff_mem.1 h1
   refine⟨?_,by omega,by simp,?_⟩
   ·show tokOk (plainT [c])
    unfold syms1 at hm
    simp only [List.mem_cons,List.not_mem_nil,or_false] at hm
    rcases hm with rfl | rfl | rfl | rfl | rfl | rfl | rfl | rfl | rfl | rfl | rfl | rfl | rfl | rfl | rfl | rfl | rfl | rfl | rfl | rfl | rfl | rfl
    all_goals first | exact .inr (.inr (.inr (.inr (.inr ⟨rfl,rfl,by decide⟩)))) | exact .inr (.inl ⟨rfl,by decide,rfl⟩)
   ·show (txtT (plainT [c])).length≤3
    unfold syms1 at hm
    simp only [List.mem_cons,List.not_mem_nil,or_false] at hm
    rcases hm with rfl | rfl | rfl | rfl | rfl | rfl | rfl | rfl | rfl | rfl | rfl | rfl | rfl | rfl | rfl | rfl | rfl | rfl | rfl | rfl | rfl | rfl
    all_goals decide
  ·rw [if_neg h1] at h;exact absurd rfl h
theorem zGt (s:List UInt8) (hs:s≠[]) (t:T0) (n:Nat) (e:Int) (h:stp s=(some t,n,e)):tokOk t∧1≤n∧n≤s.length∧(txtT t).length≤3 * n∧e=0:=by
 cases s with
 | nil=>exact absurd rfl hs
 | cons c r =>
  by_cases h3:isLt c=true
  ·rw [zMr c r h3] at h
   split at h
   ·cases h
   ·rename_i hl
    injection h with ha hb
    injection ha with ha
    injection hb with hb hc
    subst ha;subst hb
    have hall:=zFo isAn (c::r)
    have hle:=zNv isAn (c::r)
    have hx:(c::r).takeWhile isAn=c::r.takeWhile isAn:=by rw [List.takeWhile_cons,if_pos (by unfold isAn;rw [h3];rfl)]
    have hp:1≤((c::r).takeWhile isAn).length:=by rw [hx];simp
    refine⟨?_,hp,hle,?_,hc.symm⟩
    ·cases hw:wordB ((c::r).takeWhile isAn)
     ·refine .inl ⟨rfl,?_,rfl⟩
      unfold nameB
      rw [hw]
      simp only [Bool.and_eq_true,Bool.not_eq_true',decide_eq_true_eq]
      exact⟨⟨⟨⟨by rw [hx];rfl,by omega⟩,by rw [hx];simpa using h3⟩,trivial⟩,List.all_eq_true.2 hall⟩
     ·exact .inr (.inl ⟨rfl,hw,rfl⟩)
    ·have:txtT ⟨if wordB ((c::r).takeWhile isAn)=true then 6 else 1,(c::r).takeWhile isAn,0⟩=(c::r).takeWhile isAn:=by
      unfold txtT
      cases wordB ((c::r).takeWhile isAn) <;> rfl
     rw [this];omega
  ·have h3':isLt c=false:=by simpa using h3
   by_cases h4:isDg c=true
   ·rw [zNx c r h4] at h
    cases hn:num (numS (c::r)) with
    | none=>rw [hn] at h;cases h
    | some t' =>
     rw [hn] at h
     injection h with ha hb
     injection ha with ha
     injection hb with hb hc
     subst ha;subst hb
     obtain⟨l1,l2⟩:=zDx (c::r)
     obtain⟨k1,k2⟩:=zUt _ _ l2 hn
     have:=zKy c r h4
     exact⟨k1,this,l1,by omega,hc.symm⟩
   ·have h4':isDg c=false:=by simpa using h4
    by_cases h5:c=34∨c=39
    ·rw [zNy c r h5] at h
     split at h
     ·rename_i hq
      injection h with ha hb
      injection ha with ha
      injection hb with hb hc
      subst ha;subst hb
      have hall:=zFo (fun b=>b != c&&b != 10) r
      have hle:(strS c r).length < r.length:=by
       rcases Nat.lt_or_ge (strS c r).length r.length with k | k
       ·exact k
       ·rw [List.drop_of_length_le k] at hq;cases hq
      have hno:∀b ∈ strS c r,b≠c∧b≠10:=fun b hb=>by
       have:=hall b hb
       simpa using this
      refine⟨.inr (.inr (.inr (.inr (.inl ⟨rfl,rfl,fun b hb=>(hno b hb).2,fun h34=>?_⟩)))),by omega,by simp;omega,?_,hc.symm⟩
      ·rcases h5 with rfl | rfl
       ·exact absurd rfl (hno 34 (List.contains_iff_mem.1 h34)).1
       ·cases h39:(strS 39 r).contains 39
        ·rfl
        ·exact absurd rfl (hno 39 (List.contains_iff_mem.1 h39)).1
      ·show (if (strS c r).contains 34 then 39::(strS c r++[39]) else 34::(strS c r++[34])).length≤_
       split <;> (simp;omega)
     ·cases h
    ·by_cases h1:isBl c=true
     ·unfold stp at h
      rw [show (c::r).headD 0=c from rfl,if_pos h1] at h
      cases h
     ·have h1':isBl c=false:=by simpa using h1
      by_cases h2:(c::r).take 2=[40,42]
      ·unfold stp at h
       rw [show (c::r).headD 0=c from rfl,if_neg h1,if_pos h2] at h
       cases hq:cmt 0 (c::r) with
       | none=>rw [hq] at h;cases h
       | some m=>rw [hq] at h;cases h
      ·rw [zNz c r h1' h2 h3' h4' h5] at h
       split at h
       ·cases h
       ·rename_i h0
        injection h with ha hb
        injection ha with ha
        injection hb with hb hc
        subst ha;subst hb
        obtain⟨k1,k2,k3,k4⟩:=zIt c r h0
        exact⟨k1,k2,k3,k4,hc.symm⟩
end Go.Proofs.YtepfknfadpkigaaGreat
namespace Go.Proofs.YtepfknfadpkigaaGreat
open Go
set_option maxRecDepth 10000
theorem zIu (s:List UInt8) (n:Nat) (e:Int) (h:oneL s=(none,n,e)):e≠0:=by
 unfold oneL at h
 split at h
 ·split at h
  ·injection h with _ h;injection h with _ h;omega
  ·cases h
 ·split at h
  ·split at h
   ·cases h
   ·injection h with _ h;injection h with _ h;omega
  ·split at h
   ·split at h
    ·cases h
    ·injection h with _ h;injection h with _ h;omega
   ·split at h
    ·injection h with _ h;injection h with _ h;omega
    ·cases h
theorem zFe (s:List UInt8) (hs:s≠[]) (n:Nat) (h:stp s=(none,n,0)):1≤n∧n≤s.length:=by
 have hl:1≤s.length:=by
  cases s with
  | nil=>exact absurd rfl hs
  | cons c r=>simp
 unfold stp at h
 split at h
 ·injection h with _ h;injection h with h _;omega
 ·split at h
  ·cases hq:cmt 0 s with
   | none=>rw [hq] at h;injection h with _ h;injection h with _ h;omega
   | some m =>
    rw [hq] at h
    injection h with _ h;injection h with h _
    have:=zIs s 0 m hq
    omega
  ·exact absurd rfl (zIu s n 0 h)
theorem zCk:∀(f:Nat) (s:List UInt8) (off:Nat),s.length≤f→scanO f off s=scanO s.length off s
 | 0,s,off,h=>by rw [show s.length=0 by omega]
 | f+1,[],off,h=>rfl
 | f+1,c::r,off,h=>by
  have hne:(c::r)≠[]:=by simp
  have hr:r.length≤f:=by simpa using h
  rw [show (c::r).length=r.length+1 from rfl]
  rw [scanO,scanO,if_neg hne,if_neg hne]
  have hd:∀n,1≤n→((c::r).drop n).length≤r.length:=fun n hn=>by rw [List.length_drop];simp;omega
  rcases hq:stp (c::r) with⟨o,n,e⟩
  cases o with
  | some t =>
   obtain⟨_,h1,h2,_⟩:=zGt _ hne t n e hq
   simp only
   rw [zCk f _ _ (Nat.le_trans (hd n h1) hr),zCk r.length _ _ (hd n h1)]
  | none =>
   simp only
   by_cases he:e=0
   ·subst he
    obtain⟨h1,h2⟩:=zFe _ hne n hq
    rw [if_pos rfl,if_pos rfl,zCk f _ _ (Nat.le_trans (hd n h1) hr),zCk r.length _ _ (hd n h1)]
   ·rw [if_neg he,if_neg he]
theorem zFp (off:Nat):scanS off []=([],off,0):=rfl
theorem zHo (off:Nat) (s:List UInt8) (hs:s≠[]):scanS off s=match stp s with
  | (some t,n,_)=>((t,off,off+n)::(scanO (s.length - 1) (off+n) (s.drop n)).1,(scanO (s.length - 1) (off+n) (s.drop n)).2)
  | (none,n,e)=>if e=0 then scanO (s.length - 1) (off+n) (s.drop n) else ([],off,e):=by
 cases s with
 | nil=>exact absurd rfl hs
 | cons c r =>
  unfold scanS
  rw [show (c::r).length=r.length+1 from rfl,scanO,if_neg hs]
  rfl
theorem zFq (off:Nat) (s:List UInt8) (hs:s≠[]) (t:T0) (n:Nat) (e:Int) (h:stp s=(some t,n,e)):scanS off s=((t,off,off+n)::(scanS (off+n) (s.drop n)).1,(scanS (off+n) (s.drop n)).2):=by
 obtain⟨_,h1,h2,_⟩:=zGt s hs t n e h
 rw [zHo off s hs,h]
 simp only
 rw [zCk (s.length - 1) (s.drop n) (off+n) (by rw [List.length_drop];omega)]
 rfl
theorem zEn (off:Nat) (s:List UInt8) (hs:s≠[]) (n:Nat) (h:stp s=(none,n,0)):scanS off s=scanS (off+n) (s.drop n):=by
 obtain⟨h1,h2⟩:=zFe s hs n h
 rw [zHo off s hs,h]
 simp only
 rw [if_pos trivial,zCk (s.length - 1) (s.drop n) (off+n) (by rw [List.length_drop];omega)]
 rfl
theorem zFr (off:Nat) (s:List UInt8) (hs:s≠[]) (n:Nat) (e:Int) (he:e≠0) (h:stp s=(none,n,e)):scanS off s=([],off,e):=by
 rw [zHo off s hs,h]
 simp only
 rw [if_neg he]
def chainO:Nat→List (T0 × Nat × Nat)→Nat→Prop
 | a,[],b=>a≤b
 | a,(t,x,y)::r,b=>a≤x∧x < y∧chainO y r b
theorem zJv:∀(m:Nat) (s:List UInt8) (off:Nat),s.length≤m →
  (∀x ∈ (scanS off s).1,tokOk x.1)∧off≤(scanS off s).2.1∧(scanS off s).2.1≤off+s.length∧((scanS off s).2.2=0→(scanS off s).2.1=off+s.length)∧((scanS off s).2.2≠0→(scanS off s).2.1 < off+s.length) ∧
  chainO off (scanS off s).1 (scanS off s).2.1∧(joinT ((scanS off s).1.map (·.1))).length≤4 * s.length∧((scanS off s).1≠[]→(joinT ((scanS off s).1.map (·.1))).length+1≤4 * s.length)
 | _,[],off,_=>by
  rw [zFp]
  exact⟨fun x hx=>by simp at hx,Nat.le_refl _,by simp,fun _=>by simp,fun h=>absurd rfl h,Nat.le_refl _,by simp [joinT],fun h=>absurd rfl h⟩
 | 0,c::r,off,h=>by simp at h
 | m+1,c::r,off,h=>by
  have hne:(c::r)≠[]:=by simp
  have hc:(c::r).length=r.length+1:=rfl
  rcases hq:stp (c::r) with⟨o,n,e⟩
  cases o with
  | some t =>
   obtain⟨k0,k1,k2,k3,k4⟩:=zGt _ hne t n e hq
   have hl:((c::r).drop n).length=(c::r).length - n:=List.length_drop
   obtain⟨i1,i2,i3,i4,i5,i6,i7,i8⟩:=zJv m ((c::r).drop n) (off+n) (by omega)
   rw [zFq off _ hne t n e hq]
   generalize scanS (off+n) ((c::r).drop n)=R at *
   refine⟨fun x hx=>?_,by simp only;omega,by simp only;omega,fun he=>by have:=i4 he;simp only;omega,fun he=>by have:=i5 he;simp only;omega,⟨Nat.le_refl _,by omega,i6⟩,?_,fun _=>?_⟩
   ·rcases List.mem_cons.1 hx with rfl | hx
    ·exact k0
    ·exact i1 x hx
   all_goals
    simp only [List.map_cons,joinT]
    split
    ·omega
    ·rename_i hz
     have:=i8 (fun hz2=>hz (by rw [hz2];rfl))
     simp
     omega
  | none =>
   by_cases he:e=0
   ·subst he
    obtain⟨k1,k2⟩:=zFe _ hne n hq
    have hl:((c::r).drop n).length=(c::r).length - n:=List.length_drop
    obtain⟨i1,i2,i3,i4,i5,i6,i7,i8⟩:=zJv m ((c::r).drop n) (off+n) (by omega)
    rw [zEn off _ hne n hq]
    generalize scanS (off+n) ((c::r).drop n)=R at *
    refine⟨i1,by omega,by omega,fun he=>by have:=i4 he;omega,fun he=>by have:=i5 he;omega,?_,by omega,fun h=>by have:=i8 h;omega⟩
    cases hR:R.1 with
    | nil=>rw [hR] at i6;have:off+n≤R.2.1:=i6;show off≤R.2.1;omega
    | cons x l=>rw [hR] at i6;obtain⟨t,a,b⟩:=x;exact⟨by have:=i6.1;omega,i6.2⟩
   ·rw [zFr off _ hne n e he hq]
    exact⟨fun x hx=>by simp at hx,Nat.le_refl _,by simp only;omega,fun h=>absurd h he,fun _=>by simp,Nat.le_refl _,by simp [joinT],fun h=>absurd rfl h⟩
end Go.Proofs.YtepfknfadpkigaaGreat
namespace Go.Proofs.YtepfknfadpkigaaGreat
open Go
set_option maxRecDepth 10000
theorem zUu (s:List UInt8) (n:Nat) (h0:isBl (s.headD 0)=false) (h:s.take 2=[40,42]) (hc:cmt 0 s=some n):stp s=(none,n,0):=by
 unfold stp
 rw [if_neg (by rw [h0];decide),if_pos h,hc]
end Go.Proofs.YtepfknfadpkigaaGreat
namespace Go.Proofs.YtepfknfadpkigaaGreat
open Go
set_option maxRecDepth 10000
end Go.Proofs.YtepfknfadpkigaaGreat
end
