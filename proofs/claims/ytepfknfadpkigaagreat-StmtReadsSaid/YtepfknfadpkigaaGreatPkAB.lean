/- Several texts in one. -/
import Derived.Test.YtepfknfadpkigaaGreatPkAA
import Derived.Test.YtepfknfadpkigaaGreatPkAA
import Derived.Deep.LoopGhost
import Derived.Deep.RegionHeld3
import Derived.Outline
import Derived.Deep.QuietTactic
import Derived.BigQuiet
import Derived.Test.YtepfknfadpkigaaGreatShelf
set_option linter.unusedVariables false
set_option linter.unusedSimpArgs false
section
namespace Go.Proofs.YtepfknfadpkigaaGreat
open Go.RowKit
set_option maxHeartbeats 2000000
set_option maxRecDepth 100000
theorem zNt (s:ByteArray) (w:World) (hlim:s.size≤281474976710656) :
  Calls Tryz.prog 60 #[.string s] w fun e w'=>e=.returned (.string s)∧Below w.heap.size w w':=by
 go_enter Tryz.func60,Tryz.ntmps60
 go_wp2_with fail
 refine(Tryz.stringslite_Clone s _ hlim).mono ?_
 rintro e w1 ⟨rfl,B⟩
 go_wp2_with fail
 go_ret
 exact⟨rfl,B⟩
def d0:ND:=⟨0,0,0,[],0⟩
inductive Fill (lo:Nat):Nat→List (Option Tr)→List Tr→Prop
 | nil (hi:Nat):Fill lo hi [] []
 | keep {hi:Nat} {os:List (Option Tr)} {ts:List Tr} (t:Tr):Fill lo hi os ts→Fill lo hi (os++[some t]) (ts++[t])
 | made {hi:Nat} {os:List (Option Tr)} {ts:List Tr} (g hi':Nat):Fill lo hi os ts→lo≤g→hi≤g→g < hi'→Fill lo hi' (os++[none]) (ts++[.node g d0 []])
theorem Fill.up {lo hi hi':Nat} {os:List (Option Tr)} {ts:List Tr} (h:Fill lo hi os ts) (hh:hi≤hi'):Fill lo hi' os ts:=by
 induction h generalizing hi' with
 | nil=>exact .nil _
 | keep t _ ih=>exact .keep t (ih hh)
 | made g k h1 h2 h3 h4 _=>exact .made g hi' h1 h2 h3 (by omega)
theorem Fill.len {lo hi:Nat} {os:List (Option Tr)} {ts:List Tr} (h:Fill lo hi os ts):ts.length=os.length:=by
 induction h with
 | nil=>rfl
 | keep t _ ih=>simp [ih]
 | made g k _ _ _ _ ih=>simp [ih]
structure NS (w:World) (p:Nat) (d:ND) (os:List (Option Tr)) (wr:World) (v:Value) (out:List Tr):Prop where
 b:Below w.heap.size w wr
 n:wr.heap[p]?=some (nodeO d v)
 r:Row wr (w.heap.size≤·) v (out.map Tr.p)
 f:Fill (p+1) wr.heap.size os out
 l:∀t ∈ out,some t ∈ os∨∃g,t=.node g d0 []∧p < g∧wr.heap[g]?=some (nodeO d0 (.slice none 0 0))
 p:w.heap.size≤p
theorem tyN:40≠26:=by decide
theorem zBe {w:World} {P:Nat→Prop} {v v2:Value} {ps:List Nat} {p:Nat} {d:ND} (h:Row w P v ps) (hp:w.heap[p]?=some (nodeO d v2)):p ∉ obL v:=fun hm =>
 Lib.ownBlock_ne h.1 hp tyN ((zBc v p).1 hm)
theorem NS.alloc {w wr:World} {p:Nat} {d:ND} {os:List (Option Tr)} {v:Value} {out:List Tr} (h:NS w p d os wr v out) (o:Obj):NS w p d os (wr.alloc o) v out:=by
 have hF:=Fr.alloc wr o
 refine⟨h.b.trans ((zAn wr o).mono h.b.size),(hF.block p (zAd h.n) (by simp)).trans h.n,h.r.frame hF (by simp),h.f.up hF.size,fun t ht=>?_,h.p⟩
 rcases h.l t ht with h1 | ⟨g,h1,h2,h3⟩
 ·exact .inl h1
 ·exact .inr ⟨g,h1,h2,(hF.block g (zAd h3) (by simp)).trans h3⟩
theorem zKv {w wr:World} {p:Nat} {d:ND} {os:List (Option Tr)} {v:Value} {out:List Tr} (h:NS w p d os wr v out) (o:Option Tr) (x:Tr)
  (hf:Fill (p+1) wr.heap.size (os++[o]) (out++[x])) (hx:o=some x∨∃g,x=.node g d0 []∧p < g∧wr.heap[g]?=some (nodeO d0 (.slice none 0 0)))
  (g cap:Nat) (w3:World) (c:Obj) (hown:w3.ownsRow 0 26 1 (.slice (some ⟨g,0,none⟩) (out.length+1) cap) (out.length+1) ((out.map Tr.p).map ptrV++[ptrV x.p])) (hgrow:(wr.alloc c).grownBy w3 v.ownBlock) (hat:v.ownBlock=some g∨g=wr.heap.size+1) :
  NS w p d (os++[o]) (w3.setCell ⟨p,4,none⟩ (.slice (some ⟨g,0,none⟩) (out.length+1) cap)) (.slice (some ⟨g,0,none⟩) (out.length+1) cap) (out++[x]):=by
 have F1:=Fr.alloc wr c
 have F2:=Fr.of_grown hgrow
 have F12:Fr (obL v) wr w3:=(F1.mono (by simp)).trans F2 (fun j hj=>.inl hj)
 have F3:=Fr.set w3 p 4 (.slice (some ⟨g,0,none⟩) (out.length+1) cap)
 have hpv:=zBe h.r h.n
 have n3:w3.heap[p]?=some (nodeO d v):=(F12.block p (zAd h.n) hpv).trans h.n
 have hR3:Row w3 (w.heap.size≤·) (.slice (some ⟨g,0,none⟩) (out.length+1) cap) ((out++[x]).map Tr.p):=by
  refine⟨?_,fun k hk=>?_⟩
  ·have e1:((out++[x]).map Tr.p).length=out.length+1:=by simp
   have e2:((out++[x]).map Tr.p).map ptrV=((out.map Tr.p).map ptrV++[ptrV x.p]):=by simp
   rw [e1,e2]
   exact hown
  ·obtain rfl:g=k:=by simpa [Value.ownBlock] using hk
   rcases hat with h1 | h1
   ·exact h.r.2 g h1
   ·have:=h.b.size
    show w.heap.size≤g
    omega
 have hpg:p ∉ obL (.slice (some ⟨g,0,none⟩) (out.length+1) cap):=zBe hR3 n3
 have B12:Below w.heap.size wr w3:=F12.below w.heap.size (fun j hj=>(h.r.base j hj).1) h.b.size
 refine⟨(h.b.trans B12).trans (F3.below w.heap.size (fun j hj=>by
   obtain rfl:j=p:=by simpa using hj
   exact h.p) (Nat.le_trans h.b.size F12.size)),by simp [World.setCell,Array.getElem?_modify,n3,nodeO],hR3.frame F3 (fun j hj hm=>?_),hf.up (Nat.le_trans F12.size F3.size),fun t ht=>?_,h.p⟩
 ·obtain rfl:j=p:=by simpa using hm
  exact hpg hj
 ·have leaf:∀g',p < g'→wr.heap[g']?=some (nodeO d0 (.slice none 0 0))→(w3.setCell ⟨p,4,none⟩ (.slice (some ⟨g,0,none⟩) (out.length+1) cap)).heap[g']?=some (nodeO d0 (.slice none 0 0)):=fun g' h1 h2=>by
   have h3:=(F12.block g' (zAd h2) (zBe h.r h2)).trans h2
   exact(F3.block g' (zAd h3) (by simp;omega)).trans h3
  rcases List.mem_append.1 ht with ht | ht
  ·rcases h.l t ht with h1 | ⟨g',h1,h2,h3⟩
   ·exact .inl (List.mem_append_left _ h1)
   ·exact .inr ⟨g',h1,h2,leaf g' h2 h3⟩
  ·obtain rfl:t=x:=by simpa using ht
   rcases hx with h1 | ⟨g',h1,h2,h3⟩
   ·exact .inl (by simp [h1])
   ·exact .inr ⟨g',h1,h2,leaf g' h2 h3⟩
def ArgL (w:World) (v:Value) (os:List (Option Tr)):Prop :=
 ∃q cap,v=.slice q os.length cap∧∀i o,os[i]?=some o→∃g,q=some ⟨g,0,none⟩∧g < w.heap.size∧w.cell? ⟨g,i,none⟩=some (encP (o.map Tr.p))
theorem zNu (w:World) (d:ND) (av:Value) (os:List (Option Tr)) (hx:d.x.length≤281474976710656) (hA:ArgL w av os) (hos:os.length≤1048576) :
  Calls Tryz.prog 31 #[.int .u8 d.k,posV d.l d.c,.string ⟨d.x.toArray⟩,.int .i64 d.n,av] w fun e w'=>∃p v out,e=.returned (ptrV p)∧NS w p d os w' v out:=by
 have HC:=zNt ⟨d.x.toArray⟩ w (by rw [show (⟨d.x.toArray⟩:ByteArray).size=d.x.length from by simp [ByteArray.size]];exact hx)
 obtain⟨i0,hi,hz0,hz1,hz2⟩:=info_parts infoP
 obtain⟨px,py,hp⟩:∃px py,posV d.l d.c=.complex .f64 px py:=⟨_,_,rfl⟩
 have HP:∀v,nodeO d v=.cells #[.int .u8 d.k,.complex .f64 px py,.string ⟨d.x.toArray⟩,.int .i64 d.n,v] 40 (0,0):=fun v=>by unfold nodeO;rw [hp]
 have HP':=oH HP
 obtain⟨L,hL⟩:∃L,os.length=L:=⟨_,rfl⟩
 have HL:=oH hL
 obtain⟨q,cap,rfl,hcell⟩:=hA
 rw [hp,hL]
 rw [hL] at hos
 have HCE:=oH hcell
 clear hcell hL
 generalize (d.k:Int)=dk at *
 generalize d.n=dn at *
 generalize (⟨d.x.toArray⟩:ByteArray)=dx at *
 clear hp
 go_enter Tryz.func31,Tryz.ntmps31
 go_wp2_with fail
 refine HC.mono ?_
 rintro e w1 ⟨rfl,B⟩
 have n0:NS w w1.heap.size d [] (w1.alloc (.cells #[.int .u8 dk,.complex .f64 px py,.string dx,.int .i64 dn,.slice none 0 0] 40)) (.slice none 0 0) []:=by
  refine⟨B.trans ((zAn w1 _).mono B.size),?_,⟨World.ownsRow_nil _ _ _ _,fun g hg=>(by cases hg)⟩,.nil _,fun t ht=>(by cases ht),B.size⟩
  rw [HP']
  exact heap_alloc_new _ _
 have HN0:=oH n0
 clear n0 HP
 have hs0:=B.size
 clear B HC
 go_wp2_with fail
 go_loopw [23] (fun i wr=>∃(k:Nat) (v:Value) (out:List Tr),k≤L∧i=.int .i64 k∧NS w w1.heap.size d (os.take k) wr v out) (fun i _=>L - (intOf i).toNat)
 case atStart=>exact⟨0,_,[],Nat.zero_le _,rfl,HN0.out⟩
 case round =>
  obtain⟨k,v,out,hk,rfl,ns⟩:=hrel
  by_cases hkL:k=L
  ·subst hkL
   have HNS:=oH ns
   clear ns
   go_wp2_with fail
   go_ret
   refine⟨_,v,out,rfl,?_⟩
   have:=HNS.out
   rw [← HL.out,List.take_length] at this
   exact this
  ·have hlt:k < L:=by omega
   obtain⟨o,ho⟩:∃o,os[k]?=some o:=⟨_,List.getElem?_eq_getElem (by have:=HL.out;omega)⟩
   obtain⟨g,rfl,hg,cA⟩:=HCE.out k o ho
   have cA:=(ns.b.cell (show (⟨g,k,none⟩:Addr).block < w.heap.size from hg)).trans cA
   have hol:out.length=k:=by
    have:=ns.f.len
    rw [List.length_take,HL.out] at this
    omega
   have htk:os.take (k+1)=os.take k++[o]:=by rw [List.take_add_one,ho];rfl
   have HTK:=oH htk
   clear htk ho
   cases o with
   | some t =>
    have c4:=(NodeAt.mk ns.n).c4
    have f4:=(NodeAt.mk ns.n).f 4
    have hsr:=ns.r.1.alloc (.cells #[ptrV t.p] 26)
    have hsz:=ns.b.size
    have hll:(out.map Tr.p).length=k:=by rw [List.length_map,hol]
    rw [hll] at hsr
    have HNS:=oH ns
    have HOL:=oH hol
    have HN1:=oH (new1 wr (ptrV t.p) 26)
    have HO1:=oH (one1 t.p)
    clear ns hol hll
    simp only [Option.map,encP,ptrV] at cA hsr HN1 HO1
    have hpw:w1.heap.size≠wr.heap.size:=by have:=zAd HNS.out.n;omega
    go_wp2_with (at_builtin;refine wpList_append_lies _ rfl _ _ 38 rfl 0 26 i0 _ 1 8 Tryz.underlying38 hi hz0 hz1 hz2 rfl (by decide) v k (out.map Tr.p |>.map ptrV) rfl hsr ⟨wr.heap.size,0,none⟩ 1 1 [.pointer (some ⟨t.p,0,none⟩)] rfl rfl HN1.out HO1.out (by decide) (by unfold maxLen;omega) (by omega) (by simp <;> omega) (wr.heap.size+1) (by simp) ?_)
    intro gl capl w3 hown hgrow hat hlt3
    have F12:Fr (obL v) wr w3:=((Fr.alloc wr _).mono (by simp)).trans (Fr.of_grown hgrow) (fun j hj=>.inl hj)
    have n3:NodeAt w3 w1.heap.size d v:=⟨(F12.block _ (zAd HNS.out.n) (zBe HNS.out.r HNS.out.n)).trans HNS.out.n⟩
    have c5:=n3.c4
    have f5:=n3.f 4
    have HST:=oH (zKv HNS.out (some t) t (.keep t HNS.out.f) (.inl rfl) gl capl w3 _ (by rw [HOL.out];simpa [ptrV,Function.comp_def] using hown) hgrow hat)
    clear hown hgrow hat hsr F12 n3 HN1 HO1 HNS
    go_wp2_with fail
    go_roundw
    case rel =>
     have:=HST.out
     rw [HOL.out,← HTK.out] at this
     exact⟨k+1,_,_,by omega,by simp,this⟩
    case measure=>simp [intOf];omega
   | none =>
    have ns2:=ns.alloc (nodeO d0 (.slice none 0 0))
    have hfl:Fill (w1.heap.size+1) (wr.alloc (nodeO d0 (.slice none 0 0))).heap.size (os.take k++[none]) (out++[.node wr.heap.size d0 []]) :=
     .made _ _ ns.f (by have:=zAd ns.n;omega) (Nat.le_refl _) (by simp)
    have hgt:w1.heap.size < wr.heap.size:=zAd ns.n
    have hnew:(wr.alloc (nodeO d0 (.slice none 0 0))).heap[wr.heap.size]?=some (nodeO d0 (.slice none 0 0)):=heap_alloc_new _ _
    have HSP:=oH (oA hfl (oA hgt hnew))
    clear ns hfl hnew
    have e0:nodeO d0 (.slice none 0 0)=.cells #[.int .u8 0,.complex .f64 0 0,.string ⟨#[]⟩,.int .i64 0,.slice none 0 0] 40 (0,0):=rfl
    have hs2:(wr.alloc (nodeO d0 (.slice none 0 0))).heap.size=wr.heap.size+1:=by simp
    have hb2:=HSP.out.1
    rw [e0] at ns2 hs2 hb2
    have hnew:=HSP.out.2.2
    rw [e0] at hnew
    obtain⟨w2,hw2⟩:∃w2,wr.alloc (.cells #[.int .u8 0,.complex .f64 0 0,.string ⟨#[]⟩,.int .i64 0,.slice none 0 0] 40 (0,0))=w2:=⟨_,rfl⟩
    rw [hw2] at ns2 hs2 hb2 hnew
    have HB2:=oH hb2
    have HNW:=oH (hnew.trans (congrArg some e0.symm))
    have HGT:=oH hgt
    clear e0 hb2 hnew HSP
    have c4:=(NodeAt.mk ns2.n).c4
    have f4:=(NodeAt.mk ns2.n).f 4
    have hsr:=ns2.r.1.alloc (.cells #[ptrV wr.heap.size] 26)
    have hll:(out.map Tr.p).length=k:=by rw [List.length_map,hol]
    rw [hll] at hsr
    have HNS:=oH ns2
    have HOL:=oH hol
    have HN1:=oH (new1 w2 (ptrV wr.heap.size) 26)
    have HO1:=oH (one1 wr.heap.size)
    have hsz:=ns2.b.size
    have HS2:=oH hs2
    clear ns2 hol hll hs2
    simp only [Option.map,encP,ptrV] at cA hsr HN1 HO1
    go_wp2_with (at_builtin;refine wpList_append_lies _ rfl _ _ 38 rfl 0 26 i0 _ 1 8 Tryz.underlying38 hi hz0 hz1 hz2 rfl (by decide) v k (out.map Tr.p |>.map ptrV) rfl hsr ⟨w2.heap.size,0,none⟩ 1 1 [.pointer (some ⟨wr.heap.size,0,none⟩)] rfl rfl HN1.out HO1.out (by decide) (by unfold maxLen;omega) (by omega) (by simp <;> omega) (w2.heap.size+1) (by simp) ?_)
    intro gl capl w3 hown hgrow hat hlt3
    have F12:Fr (obL v) w2 w3:=((Fr.alloc w2 _).mono (by simp)).trans (Fr.of_grown hgrow) (fun j hj=>.inl hj)
    have n3:NodeAt w3 w1.heap.size d v:=⟨(F12.block _ (zAd HNS.out.n) (zBe HNS.out.r HNS.out.n)).trans HNS.out.n⟩
    have c5:=n3.c4
    have f5:=n3.f 4
    have HST:=oH (zKv HNS.out none (.node wr.heap.size d0 []) HB2.out (.inr ⟨_,rfl,HGT.out,HNW.out⟩) gl capl w3 _ (by rw [HOL.out];simpa [ptrV,Function.comp_def,Tr.p] using hown) hgrow hat)
    clear hown hgrow hat hsr F12 n3 HN1 HO1 HNS
    go_wp2_with fail
    go_roundw
    case rel =>
     have:=HST.out
     rw [HOL.out,← HTK.out] at this
     exact⟨k+1,_,_,by omega,by simp,this⟩
    case measure=>simp [intOf];omega
end Go.Proofs.YtepfknfadpkigaaGreat
end
