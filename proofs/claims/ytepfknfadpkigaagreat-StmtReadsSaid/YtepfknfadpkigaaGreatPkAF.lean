/- Several texts in one. -/
import Derived.Test.YtepfknfadpkigaaGreatPkAA
import Derived.Test.YtepfknfadpkigaaGreatPkAE
import Derived.Maps.OwnSet
import Derived.Maps.Views
set_option linter.unusedVariables false
set_option linter.unusedSimpArgs false
section
namespace Go.Proofs.YtepfknfadpkigaaGreat
open Go.RowKit Go.Maps Go.WideMaps
set_option maxHeartbeats 2000000
set_option maxRecDepth 100000
def tbD:List (List UInt8 × Nat)→DataW Nat
 | []=>.map []
 | p::r=>(tbD r).put (.string p.1) (.lit (.int .u8 p.2))
theorem zJy:∀l,IsMap (tbD l)
 | []=>⟨[],rfl⟩
 | p::r=>by
  obtain⟨es,e⟩:=zJy r
  show IsMap ((tbD r).put _ _)
  rw [e]
  exact⟨_,rfl⟩
theorem zOe (x:List UInt8):∀l:List (List UInt8 × Nat),(tbD l).atKey (.string x) (.lit (.int .u8 0))=.lit (.int .u8 (((l.lookup x).getD 0:Nat):Int))∧has (tbD l) (.string x)=(l.lookup x).isSome
 | []=>⟨rfl,rfl⟩
 | (y,k)::r=>by
  obtain⟨h1,h2⟩:=zOe x r
  by_cases h:x=y
  ·subst h
   refine⟨?_,?_⟩
   ·show ((tbD r).put (.string x) _).atKey _ _=_
    rw [atKey_put_same (zJy r) (show WideAt.IsKeyLit (.string x) from trivial)]
    simp [List.lookup]
   ·show has ((tbD r).put (.string x) _) _=_
    rw [has_put_same (zJy r) (show WideAt.IsKeyLit (.string x) from trivial)]
    simp [List.lookup]
  ·have hne:(Lit.string x)≠.string y:=fun e=>h (by injection e)
   have hb:(x == y)=false:=beq_eq_false_iff_ne.2 h
   refine⟨?_,?_⟩
   ·show ((tbD r).put (.string y) _).atKey _ _=_
    rw [atKey_put_other hne,h1]
    simp [List.lookup,hb]
   ·show has ((tbD r).put (.string y) _) _=_
    rw [has_put_other hne,h2]
    simp [List.lookup,hb]
def MapF (w:World) (b:Nat) (tb:List (List UInt8 × Nat)):Prop:=∃n,w.ownsMap Tryz.prog 9 (plainElem Tryz.prog 5) b n (tbD tb)
theorem MapF.keep {w w':World} {b:Nat} {tb:List (List UInt8 × Nat)} {N:List Nat} (h:MapF w b tb) (hF:Fr N w w') (hb:b ∉ N):MapF w' b tb:=by
 obtain⟨n,h⟩:=h
 have hl:=h.lt
 obtain⟨es,cl,h1,h2,h3,h4⟩:=h
 exact⟨n,es,cl,(hF.block b hl hb).trans h1,h2,h3,h4⟩
theorem MapF.fc {B:Nat} {w w':World} {b:Nat} {tb:List (List UInt8 × Nat)} {N:List Nat} (h:MapF w b tb) (hF:Fc B N w w') (hb:b ∉ N):MapF w' b tb:=by
 obtain⟨n,es,cl,h1,h2,h3,h4⟩:=h
 exact⟨n,es,cl,hF.block b _ h1 rfl hb,h2,h3,h4⟩
theorem MapF.lt {w:World} {b:Nat} {tb:List (List UInt8 × Nat)} (h:MapF w b tb):b < w.heap.size:=by
 obtain⟨n,h⟩:=h
 exact h.lt
theorem lawS:Keyed Tryz.prog 9:=string_keyed Tryz.underlying9
theorem zOf (w:World):(zeroValue 5).run Tryz.prog w=.ok (.int .u8 0) w:=by kernel_rfl
theorem zCb {ts:List TK} {i:Nat} {tb:List (List UInt8 × Nat)} (hz:tb.lookup []=none) (h:isO tb (tk ts i)=true):i < ts.length:=by
 rcases Nat.lt_or_ge i ts.length with h1 | h1
 ·exact h1
 ·rw [zCz h1] at h
  simp [isO,zTK,hz] at h
theorem zOg (c:Cx) (w:World) (i mb:Nat) (tb:List (List UInt8 × Nat)) (h:RX c w i) (hm:MapF w mb tb) (hz:tb.lookup []=none) (ho:isO tb (tk c.ts i)=true) :
  Calls Tryz.prog 135 #[.pointer (some ⟨c.R,0,none⟩),.map (some mb)] w fun e w'=>e=.returned (.tuple #[tkV (tk c.ts i),.bool true])∧Fr [c.R] w w'∧RX c w' (i+1):=by
 have hsc:=fun w a x y m=>zAg (P:=Tryz.prog) w a .f64 x y m
 have F1:=Fr.alloc w (.cells #[.int .u8 0,.complex .f64 0 0,.complex .f64 0 0,.string ⟨#[]⟩,.int .i64 0] 71)
 have A1:=Fv.new w (.int .u8 0) (.complex .f64 0 0) (.complex .f64 0 0) (.string ⟨#[]⟩) (.int .i64 0) 71 w.heap.size rfl
 have HH:=zBh c _ i (h.keep F1)
 have hR:=h.lt
 have hmlt:=hm.lt
 have hlen:(tk c.ts i).1.x.length≤65536:=by
  rcases Nat.lt_or_ge i c.ts.length with h1 | h1
  ·exact h.tx _ (List.mem_of_getElem? (zFw h1))
  ·rw [zCz h1];decide
 have hkey:keyOf Tryz.prog 9 (.string ⟨(tk c.ts i).1.x.toArray⟩)=some (.string (tk c.ts i).1.x):=by
  have:=keyOf_string_mk (P:=Tryz.prog) Tryz.underlying9 (s:=⟨(tk c.ts i).1.x.toArray⟩) (by rw [zCn];unfold maxLen;omega)
  simpa using this
 obtain⟨hat,hhas⟩:=zOe (tk c.ts i).1.x tb
 have HR:Hid (tkV (tk c.ts i)=.agg #[.int .u8 (tk c.ts i).1.k,posV (tk c.ts i).2.1.1 (tk c.ts i).2.1.2,posV (tk c.ts i).2.2.1 (tk c.ts i).2.2.2,.string ⟨(tk c.ts i).1.x.toArray⟩,.int .i64 (tk c.ts i).1.n]):=oH rfl
 have HI:Hid (i < c.ts.length∨isO tb (tk c.ts i)=false):=oH (by
  cases hq:isO tb (tk c.ts i)
  ·exact .inr rfl
  ·exact .inl (zCb hz hq))
 obtain⟨x1,y1,e1⟩:=zAc (tk c.ts i).2.1.1 (tk c.ts i).2.1.2
 obtain⟨x2,y2,e2⟩:=zAc (tk c.ts i).2.2.1 (tk c.ts i).2.2.2
 rw [e1,e2] at HR
 rw [HR.out] at HH ⊢
 have HTV:=HR
 clear e1 e2 HR
 have hlk:tb.lookup (tk c.ts i).1.x=some (tk c.ts i).1.k:=by simpa [isO] using ho
 rw [hlk] at hat hhas
 have hlt:i < c.ts.length:=HI.out.resolve_right (by rw [ho];decide)
 obtain⟨xs,hxs⟩:∃xs,(tk c.ts i).1.x=xs:=⟨_,rfl⟩
 obtain⟨k0,hk0⟩:∃k0,(tk c.ts i).1.k=k0:=⟨_,rfl⟩
 have HTK:=oH (oA hxs hk0)
 rw [hxs] at hat hhas hkey HH HTV ⊢
 rw [hk0] at hat HH HTV ⊢
 clear hlk ho hlen HI hz
 have hxs2:=hxs
 generalize (tk c.ts i).1.n=t4 at *
 generalize hB:(⟨xs.toArray⟩:ByteArray)=t3 at *
 simp only [Option.getD_some,Option.isSome_some] at hat hhas
 have H1:=oH (oA h (oA F1 (oA A1 (oA hm (oA hat (oA hhas (oA hkey hlt)))))))
 clear h F1 A1 hm hat hhas hkey hxs hk0 hxs2 hB
 have hk5:¬((k0:Int)≠(k0:Int)):=by omega
 go_enter Tryz.func135,Tryz.ntmps135
 go_wp2_with fail
 refine HH.mono ?_
 rintro e w2 ⟨rfl,F2⟩
 have H2:=oH F2
 have hR2:c.R < w2.heap.size:=by have:=F2.size;simp at this;omega
 clear HH F2
 go_upto_region 2 with fail
 obtain⟨w3,hw3⟩:∃w3,w2.alloc (.cells #[.int .u8 (k0:Int),.complex .f64 x1 y1,.complex .f64 x2 y2,.string t3,.int .i64 t4] 71)=w3:=⟨_,rfl⟩
 have F3:Fr [] w2 w3:=by rw [← hw3];exact Fr.alloc _ _
 have T3:Fv w3 w2.heap.size (.int .u8 (k0:Int)) (.complex .f64 x1 y1) (.complex .f64 x2 y2) (.string t3) (.int .i64 t4):=by rw [← hw3];exact Fv.new _ _ _ _ _ _ _ _ rfl
 rw [hw3]
 obtain⟨h,F1,A1,hm,hat,hhas,hkey,hlt⟩:=H1.out
 have X3:=((h.keep F1).keep H2.out).keep F3
 have A3:=(A1.fr H2.out (by simp)).fr F3 (by simp)
 obtain⟨nm,hown⟩:=((hm.keep F1 (by simp)).keep H2.out (by simp)).keep F3 (by simp)
 have HT:=zBv c w3 i X3 hlt
 rw [show tkV (tk c.ts i)=.agg #[.int .u8 (k0:Int),.complex .f64 x1 y1,.complex .f64 x2 y2,.string t3,.int .i64 t4] from HTV.out] at HT
 have d0:=T3.c0
 have d3:=T3.c3
 have H3:=oH (oA A3 (oA F3 (oA hat hhas)))
 clear h F1 A1 F3 T3 X3 A3 hw3 hm hat hhas hlt
 go_wp2_with (refine wpList_lookup_own_ok_int _ rfl _ _ 127 rfl 9 5 .u8 lawS Tryz.underlying127 Tryz.underlying5 (zOf _) mb nm (tbD tb) rfl hown _ _ rfl hkey ?_)
 intro cc hcc hwc
 rw [H3.out.2.2.1] at hcc
 obtain rfl:cc=(k0:Int):=by injection hcc with hcc;injection hcc with _ hcc;exact hcc.symm
 rw [H3.out.2.2.2]
 clear hcc hwc hown hkey
 go_wp2_with fail
 refine HT.mono ?_
 rintro e w4 ⟨rfl,F4,X4⟩
 have A4:=H3.out.1.fr F4 (by simp;omega)
 have a0:=A4.c0
 have a1:=A4.c1
 have a2:=A4.c2
 have a3:=A4.c3
 have a4:=A4.c4
 have b0:=A4.f0
 have b1:=A4.f1
 have b2:=A4.f2
 have b3:=A4.f3
 have b4:=A4.f4
 have H4:=oH (oA F4 (oA X4 A4))
 clear F4 X4 A4 HT
 go_wp2_with fail
 have R5:=(((((H4.out.2.2.set0 (.int .u8 (k0:Int))).set1 (.complex .f64 x1 y1)).set2 (.complex .f64 x2 y2)).set3 (.string t3)).set4 (.int .i64 t4))
 have r0:=R5.c0
 have r1:=R5.c1
 have r2:=R5.c2
 have r3:=R5.c3
 have r4:=R5.c4
 refine bodyPost_ret (v:=.tuple #[.agg #[.int .u8 (k0:Int),.complex .f64 x1 y1,.complex .f64 x2 y2,.string t3,.int .i64 t4],.bool true]) (by simp [results,Tryz.results135,go_sem,r0,r1,r2,r3,r4]) rfl ?_
 obtain⟨h,F1,A1,_⟩:=H1.out
 have F14:Fr [c.R] w w4:=((((F1.trans H2.out (by simp)).trans H3.out.2.1 (by simp)).mono (by simp)).trans H4.out.1 (fun j hj=>.inl hj))
 have F45:Fr [w.heap.size] w4 _:=Fr.trans (Fr.trans (Fr.trans (Fr.trans (Fr.set w4 w.heap.size 0 (.int .u8 (k0:Int))) (Fr.set _ w.heap.size 1 (.complex .f64 x1 y1)) (fun j hj=>.inl hj)) (Fr.set _ w.heap.size 2 (.complex .f64 x2 y2)) (fun j hj=>.inl hj)) (Fr.set _ w.heap.size 3 (.string t3)) (fun j hj=>.inl hj)) (Fr.set _ w.heap.size 4 (.int .i64 t4)) (fun j hj=>.inl hj)
 exact⟨rfl,F14.trans F45 (fun j hj=>.inr (by simp at hj;omega)),H4.out.2.1.far h F14 F45⟩
theorem zJz (c:Cx) (w:World) (i mb:Nat) (tb:List (List UInt8 × Nat)) (h:RX c w i) (hm:MapF w mb tb) (ho:isO tb (tk c.ts i)=false) :
  Calls Tryz.prog 135 #[.pointer (some ⟨c.R,0,none⟩),.map (some mb)] w fun e w'=>e=.returned (.tuple #[tkV zTK,.bool false])∧Fr [] w w':=by
 have hsc:=fun w a x y m=>zAg (P:=Tryz.prog) w a .f64 x y m
 have F1:=Fr.alloc w (.cells #[.int .u8 0,.complex .f64 0 0,.complex .f64 0 0,.string ⟨#[]⟩,.int .i64 0] 71)
 have A1:=Fv.new w (.int .u8 0) (.complex .f64 0 0) (.complex .f64 0 0) (.string ⟨#[]⟩) (.int .i64 0) 71 w.heap.size rfl
 have HH:=zBh c _ i (h.keep F1)
 have hR:=h.lt
 have hmlt:=hm.lt
 have hlen:(tk c.ts i).1.x.length≤65536:=by
  rcases Nat.lt_or_ge i c.ts.length with h1 | h1
  ·exact h.tx _ (List.mem_of_getElem? (zFw h1))
  ·rw [zCz h1];decide
 have hkey:keyOf Tryz.prog 9 (.string ⟨(tk c.ts i).1.x.toArray⟩)=some (.string (tk c.ts i).1.x):=by
  have:=keyOf_string_mk (P:=Tryz.prog) Tryz.underlying9 (s:=⟨(tk c.ts i).1.x.toArray⟩) (by rw [zCn];unfold maxLen;omega)
  simpa using this
 obtain⟨hat,hhas⟩:=zOe (tk c.ts i).1.x tb
 have HR:Hid (tkV (tk c.ts i)=.agg #[.int .u8 (tk c.ts i).1.k,posV (tk c.ts i).2.1.1 (tk c.ts i).2.1.2,posV (tk c.ts i).2.2.1 (tk c.ts i).2.2.2,.string ⟨(tk c.ts i).1.x.toArray⟩,.int .i64 (tk c.ts i).1.n]):=oH rfl
 obtain⟨x1,y1,e1⟩:=zAc (tk c.ts i).2.1.1 (tk c.ts i).2.1.2
 obtain⟨x2,y2,e2⟩:=zAc (tk c.ts i).2.2.1 (tk c.ts i).2.2.2
 rw [e1,e2] at HR
 rw [HR.out] at HH
 have HZ:Hid (tkV zTK=.agg #[.int .u8 0,.complex .f64 0 0,.complex .f64 0 0,.string ⟨#[]⟩,.int .i64 0]):=oH rfl
 rw [HZ.out]
 clear e1 e2 HR
 obtain⟨xs,hxs⟩:∃xs,(tk c.ts i).1.x=xs:=⟨_,rfl⟩
 obtain⟨k0,hk0⟩:∃k0,(tk c.ts i).1.k=k0:=⟨_,rfl⟩
 have hno:tb.lookup xs=none∨∃k1,tb.lookup xs=some k1∧k1≠k0:=by
  rw [← hxs,← hk0]
  unfold isO at ho
  cases hq:tb.lookup (tk c.ts i).1.x with
  | none=>exact .inl rfl
  | some k1=>exact .inr ⟨k1,rfl,fun e=>by rw [hq,e] at ho;simp at ho⟩
 rw [hxs] at hat hhas hkey HH
 rw [hk0] at HH
 clear ho hlen
 generalize (tk c.ts i).1.n=t4 at *
 generalize hB:(⟨xs.toArray⟩:ByteArray)=t3 at *
 have H1:=oH (oA h (oA F1 (oA A1 (oA hm (oA hat (oA hhas (oA hkey hno)))))))
 clear h F1 A1 hm hat hhas hkey hxs hk0 hB hno
 go_enter Tryz.func135,Tryz.ntmps135
 go_wp2_with fail
 refine HH.mono ?_
 rintro e w2 ⟨rfl,F2⟩
 have H2:=oH F2
 have hR2:c.R < w2.heap.size:=by have:=F2.size;simp at this;omega
 clear HH F2
 go_upto_region 2 with fail
 obtain⟨w3,hw3⟩:∃w3,w2.alloc (.cells #[.int .u8 (k0:Int),.complex .f64 x1 y1,.complex .f64 x2 y2,.string t3,.int .i64 t4] 71)=w3:=⟨_,rfl⟩
 have F3:Fr [] w2 w3:=by rw [← hw3];exact Fr.alloc _ _
 have T3:Fv w3 w2.heap.size (.int .u8 (k0:Int)) (.complex .f64 x1 y1) (.complex .f64 x2 y2) (.string t3) (.int .i64 t4):=by rw [← hw3];exact Fv.new _ _ _ _ _ _ _ _ rfl
 rw [hw3]
 obtain⟨h,F1,A1,hm,hat,hhas,hkey,hno⟩:=H1.out
 have A3:=(A1.fr H2.out (by simp)).fr F3 (by simp)
 obtain⟨nm,hown⟩:=((hm.keep F1 (by simp)).keep H2.out (by simp)).keep F3 (by simp)
 have d0:=T3.c0
 have d3:=T3.c3
 have a0:=A3.c0
 have a1:=A3.c1
 have a2:=A3.c2
 have a3:=A3.c3
 have a4:=A3.c4
 have b0:=A3.f0
 have b1:=A3.f1
 have b2:=A3.f2
 have b3:=A3.f3
 have b4:=A3.f4
 have H3:=oH (oA A3 (oA F3 (oA hat hhas)))
 clear h F1 A1 F3 T3 A3 hw3 hm hat hhas
 rcases hno with hno | ⟨k1,hno,hne⟩
 ·go_wp2_with (refine wpList_lookup_own_ok_int _ rfl _ _ 127 rfl 9 5 .u8 lawS Tryz.underlying127 Tryz.underlying5 (zOf _) mb nm (tbD tb) rfl hown _ _ rfl hkey ?_)
  intro cc hcc hwc
  rw [H3.out.2.2.2,hno,Option.isSome_none]
  clear hcc hwc hown hkey hno
  go_wp2_with fail
  have R5:=(((((H3.out.1.set0 (.int .u8 0)).set1 (.complex .f64 0 0)).set2 (.complex .f64 0 0)).set3 (.string ⟨#[]⟩)).set4 (.int .i64 0))
  have r0:=R5.c0
  have r1:=R5.c1
  have r2:=R5.c2
  have r3:=R5.c3
  have r4:=R5.c4
  refine bodyPost_ret (v:=.tuple #[.agg #[.int .u8 0,.complex .f64 0 0,.complex .f64 0 0,.string ⟨#[]⟩,.int .i64 0],.bool false]) (by simp [results,Tryz.results135,go_sem,r0,r1,r2,r3,r4]) rfl ?_
  obtain⟨h,F1,A1,_⟩:=H1.out
  exact⟨rfl,zDd ((F1.trans H2.out (by simp)).trans H3.out.2.1 (by simp)) (Nat.le_refl _) _ _ _ _ _⟩
 ·have hk5:((k1:Int) != (k0:Int))=true:=by simp;omega
  go_wp2_with (refine wpList_lookup_own_ok_int _ rfl _ _ 127 rfl 9 5 .u8 lawS Tryz.underlying127 Tryz.underlying5 (zOf _) mb nm (tbD tb) rfl hown _ _ rfl hkey ?_)
  intro cc hcc hwc
  rw [H3.out.2.2.1,hno,Option.getD_some] at hcc
  obtain rfl:cc=(k1:Int):=by injection hcc with hcc;injection hcc with _ hcc;exact hcc.symm
  rw [H3.out.2.2.2,hno,Option.isSome_some]
  clear hcc hwc hown hkey hno hne
  go_wp2_with fail
  have R5:=(((((H3.out.1.set0 (.int .u8 0)).set1 (.complex .f64 0 0)).set2 (.complex .f64 0 0)).set3 (.string ⟨#[]⟩)).set4 (.int .i64 0))
  have r0:=R5.c0
  have r1:=R5.c1
  have r2:=R5.c2
  have r3:=R5.c3
  have r4:=R5.c4
  refine bodyPost_ret (v:=.tuple #[.agg #[.int .u8 0,.complex .f64 0 0,.complex .f64 0 0,.string ⟨#[]⟩,.int .i64 0],.bool false]) (by simp [results,Tryz.results135,go_sem,r0,r1,r2,r3,r4]) rfl ?_
  obtain⟨h,F1,A1,_⟩:=H1.out
  exact⟨rfl,zDd ((F1.trans H2.out (by simp)).trans H3.out.2.1 (by simp)) (Nat.le_refl _) _ _ _ _ _⟩
end Go.Proofs.YtepfknfadpkigaaGreat
namespace Go.Proofs.YtepfknfadpkigaaGreat
open Go.RowKit
set_option maxHeartbeats 2000000
set_option maxRecDepth 100000
theorem zBj (w:World) (d:ND) (av:Value) (os:List (Option Tr)) (b:Nat) (hA:ArgL w av os) (hos:os.length≤1048576) (hT:∀t,some t ∈ os→IsT w (b≤·) t) (hb:b≤w.heap.size) (hx:d.x.length≤65536)
  (pv:Value) (hp:posV d.l d.c=pv) (s:ByteArray) (hs:(⟨d.x.toArray⟩:ByteArray)=s) (k:Int) (hk:(d.k:Int)=k) (n:Int) (hn:d.n=n) (ks:List DT) (hks:os.map (fun o=>(o.map Tr.dt).getD dt0)=ks) :
  Calls Tryz.prog 31 #[.int .u8 k,pv,.string s,.int .i64 n,av] w fun e w'=>∃u,e=.returned (ptrV u.p)∧Fr [] w w'∧IsT w' (b≤·) u∧u.dt=.node d ks:=by
 subst hp;subst hs;subst hk;subst hn;subst hks
 refine(zNu w d av os (by omega) hA hos).mono ?_
 rintro e w' ⟨p,v,out,rfl,ns⟩
 obtain⟨h1,h2⟩:=zOd ns hT hb
 exact⟨.node p d out,rfl,Fr.of_below ns.b,h1,h2⟩
theorem zIx (w:World):ArgL w (.slice none 0 0) []:=⟨none,0,rfl,fun i o h=>by simp at h⟩
theorem zIy (w:World) (x:Tr):ArgL (w.alloc (.cells #[.pointer (some ⟨x.p,0,none⟩)] 26)) (.slice (some ⟨w.heap.size,0,none⟩) 1 1) [some x]:=by
 refine⟨_,1,rfl,fun i o h=>?_⟩
 match i,h with
 | 0,h =>
  simp at h;subst h
  exact⟨_,rfl,by simp,by rw [World.cell?_alloc_at _ _ _ _ rfl];rfl⟩
theorem zIz (w:World) (x y:Tr):ArgL (w.alloc (.cells #[.pointer (some ⟨x.p,0,none⟩),.pointer (some ⟨y.p,0,none⟩)] 26)) (.slice (some ⟨w.heap.size,0,none⟩) 2 2) [some x,some y]:=by
 refine⟨_,2,rfl,fun i o h=>?_⟩
 match i,h with
 | 0,h =>
  simp at h;subst h
  exact⟨_,rfl,by simp,by rw [World.cell?_alloc_at _ _ _ _ rfl];rfl⟩
 | 1,h =>
  simp at h;subst h
  exact⟨_,rfl,by simp,by rw [World.cell?_alloc_at _ _ _ _ rfl];rfl⟩
theorem IsT.fr {w w':World} {b:Nat} {N:List Nat} {t:Tr} (h:IsT w (b≤·) t) (hF:Fr N w w') (hN:∀j ∈ N,j < b):IsT w' (b≤·) t :=
 h.keep (fun _ h _=>h) (fun j hj hl=>hF.block j hl (fun hm=>by have:=hN j hm;have:b≤j:=hj;omega))
theorem zJa {B0:Nat} {N:List Nat} {w w':World} {B e size:Nat} {v:Value} {n:Nat} {xs:List Value} (h:w.ownsRow B e size v n xs) (hF:Fc B0 N w w') (hv:∀j ∈ obL v,j ∉ N):w'.ownsRow B e size v n xs:=by
 obtain⟨h1,h2⟩:=h
 refine⟨h1,?_⟩
 rcases h2 with h2 | ⟨g,cap,cur,e1,e2,e3,e4,e5,e6,e7⟩
 ·exact .inl h2
 ·exact .inr ⟨g,cap,cur,e1,e2,hF.block g _ e3 rfl (hv g (by rw [e1];simp [obL,Value.ownBlock])),e4,e5,e6,e7⟩
mutual
theorem IsT.fcP {B b:Nat} {N:List Nat} {w w':World} (hF:Fc B N w w') (hN:∀j ∈ N,j < b):∀{t:Tr},IsT w (b≤·) t→IsT w' (b≤·) t
 | .node p d ks,h=>by
  obtain⟨h1,⟨v,h2,h3⟩,h4⟩:=h
  exact⟨h1,⟨v,hF.block p _ h2 rfl (fun hm=>by have:=hN p hm;have:b≤p:=h1;omega),zJa h3.1 hF (fun j hj hm=>by
   have:=hN j hm
   have:b≤j:=h3.2 j ((zBc v j).1 hj)
   omega),h3.2⟩,IsTL.fcP hF hN h4⟩
theorem IsTL.fcP {B b:Nat} {N:List Nat} {w w':World} (hF:Fc B N w w') (hN:∀j ∈ N,j < b):∀{l:List Tr},IsTL w (b≤·) l→IsTL w' (b≤·) l
 | [],_=>trivial
 | t::r,h=>⟨IsT.fcP hF hN h.1,IsTL.fcP hF hN h.2⟩
end
theorem IsT.fc {B b:Nat} {N:List Nat} {w w':World} {t:Tr} (h:IsT w (b≤·) t) (hF:Fc B N w w') (hN:∀j ∈ N,j < b):IsT w' (b≤·) t:=IsT.fcP hF hN h
theorem zKa {ts:List TK} {i:Nat} (h:(tk ts i).1.k=1):i < ts.length:=by
 rcases Nat.lt_or_ge i ts.length with h1 | h1
 ·exact h1
 ·rw [zCz h1] at h
  simp [zTK] at h
theorem RX.txt {c:Cx} {w:World} {i:Nat} (h:RX c w i) (j:Nat):(tk c.ts j).1.x.length≤65536:=by
 rcases Nat.lt_or_ge j c.ts.length with h1 | h1
 ·exact h.tx _ (List.mem_of_getElem? (zFw h1))
 ·rw [zCz h1];decide
theorem zCp (a b c d e:Value) (w:World):(Instr.field 71 (.agg #[a,b,c,d,e]) 0).run Tryz.prog w=.ok a w:=by kernel_rfl
theorem zBb (a b c d e:Value) (w:World):(Instr.field 71 (.agg #[a,b,c,d,e]) 1).run Tryz.prog w=.ok b w:=by kernel_rfl
theorem zOh (a b c d e:Value) (w:World):(Instr.field 71 (.agg #[a,b,c,d,e]) 3).run Tryz.prog w=.ok d w:=by kernel_rfl
theorem zOi (c:Cx) (w:World) (i b:Nat) (x:Tr) (h:RX c w i) (hi:i < c.ts.length) (hk:(tk c.ts (i+1)).1.k=1) (hT:IsT w (b≤·) x) (hR:c.R < b) (hb:b≤w.heap.size) :
  Calls Tryz.prog 126 #[.pointer (some ⟨c.R,0,none⟩),ptrV x.p] w fun e w'=>∃u,e=.returned (ptrV u.p)∧Fr [c.R] w w'∧RX c w' (i+2)∧IsT w' (b≤·) u∧u.dt=.node (nd 2 (tk c.ts i) (tk c.ts (i+1)).1.x 0) [x.dt]:=by
 have H1:=zBv c w i h hi
 have hh:=oH (oA h (oA hT (oA hk (zKa hk))))
 obtain⟨x1,y1,e1⟩:=zAc (tk c.ts i).2.1.1 (tk c.ts i).2.1.2
 have HE:=oH e1
 have H2:=fun w1 (hx1:RX c w1 (i+1))=>zBh c w1 (i+1) hx1
 have H3:=fun w1 (hx1:RX c w1 (i+1))=>zBv c w1 (i+1) hx1 hh.out.2.2.2
 unfold tkV at H1 H2 H3
 rw [e1] at H1
 rw [hk] at H2 H3
 have hT3:Hid (∃t3:ByteArray,(⟨(tk c.ts (i+1)).1.x.toArray⟩:ByteArray)=t3):=oH ⟨_,rfl⟩
 obtain⟨t3,h3⟩:=hT3.out
 rw [h3] at H2 H3
 have HT3:=oH h3
 have H2H:=oH H2
 have H3H:=oH H3
 clear h hT hk e1 H2 H3 h3 hT3
 simp only [ptrV]
 have hf0:=zCp
 have hf1:=zBb
 have hf3:=zOh
 go_enter Tryz.func126,Tryz.ntmps126
 go_wp2_with fail
 refine H1.mono ?_
 rintro e w1 ⟨rfl,F1,X1⟩
 have HX1:=oH (oA F1 X1)
 have H2:=H2H.out w1 X1
 clear F1 X1 H1
 go_wp2_with fail
 refine H2.mono ?_
 rintro e w2 ⟨rfl,F2⟩
 have HX2:=oH (oA F2 (HX1.out.2.keep F2))
 have H3:=H3H.out w2 HX2.out.2
 clear F2 H2
 go_wp2_with fail
 refine H3.mono ?_
 rintro e w3 ⟨rfl,F3,X3⟩
 have F03:Fr [c.R] w w3:=(HX1.out.1.trans (HX2.out.1.mono (N:=[c.R]) (by simp)) (fun j hj=>.inl hj)).trans F3 (fun j hj=>.inl hj)
 have F34:Fr [] w3 (w3.alloc (.cells #[.pointer (some ⟨x.p,0,none⟩)] 26)):=Fr.alloc _ _
 have hT4:=(hh.out.2.1.fr F03 (by simp;omega)).fr F34 (by simp)
 have HN:=zBj (w3.alloc (.cells #[.pointer (some ⟨x.p,0,none⟩)] 26)) (nd 2 (tk c.ts i) (tk c.ts (i+1)).1.x 0) _ [some x] b (zIy w3 x) (by simp) (fun t ht=>by
   obtain rfl:t=x:=by simpa using ht
   exact hT4) (by have:=F03.size;have:=F34.size;omega) (hh.out.1.txt _) _ HE.out _ HT3.out 2 rfl 0 rfl [x.dt] rfl
 have HX3:=oH (oA F03 (oA F34 X3))
 clear F3 X3 H3 hT4 F03 F34
 go_wp2_with fail
 refine HN.mono ?_
 rintro e w4 ⟨u,rfl,F4,hu,hd⟩
 have HX4:=oH (oA F4 (oA hu hd))
 clear F4 hu hd HN
 simp only [ptrV]
 go_wp2_with fail
 go_ret
 obtain⟨F03,F34,X3⟩:=HX3.out
 obtain⟨F4,hu,hd⟩:=HX4.out
 have F:=F34.trans F4 (by simp)
 exact⟨u,rfl,F03.trans (F.mono (by simp)) (fun j hj=>.inl hj),X3.keep F,hu,hd⟩
theorem zKz (c:Cx) (w:World) (i:Nat) (v:Option Addr) (h:RX c w i) (hi:i < c.ts.length) (hk:(tk c.ts (i+1)).1.k≠1) :
  Calls Tryz.prog 126 #[.pointer (some ⟨c.R,0,none⟩),.pointer v] w fun e w'=>e=.returned (.pointer none)∧Fr [c.R] w w'∧RX c w' (i+1):=by
 have H1:=zBv c w i h hi
 obtain⟨x1,y1,e1⟩:=zAc (tk c.ts i).2.1.1 (tk c.ts i).2.1.2
 have H2:=fun w1 (hx1:RX c w1 (i+1))=>zBh c w1 (i+1) hx1
 unfold tkV at H1 H2
 rw [e1] at H1
 obtain⟨k0,hk0⟩:∃k0,(tk c.ts (i+1)).1.k=k0:=⟨_,rfl⟩
 rw [hk0] at hk H2
 have hkb:((k0:Int) != 1)=true:=by simp;omega
 have H2H:=oH H2
 clear h e1 H2 hk0
 have hf0:=zCp
 have hf1:=zBb
 have hf3:=zOh
 go_enter Tryz.func126,Tryz.ntmps126
 go_wp2_with fail
 refine H1.mono ?_
 rintro e w1 ⟨rfl,F1,X1⟩
 have HX1:=oH (oA F1 X1)
 have H2:=H2H.out w1 X1
 clear F1 X1 H1
 go_wp2_with fail
 refine H2.mono ?_
 rintro e w2 ⟨rfl,F2⟩
 have HX2:=oH F2
 clear F2 H2
 go_wp2_with fail
 go_ret
 exact⟨rfl,HX1.out.1.trans (HX2.out.mono (by simp)) (fun j hj=>.inl hj),HX1.out.2.keep HX2.out⟩
end Go.Proofs.YtepfknfadpkigaaGreat
namespace Go.Proofs.YtepfknfadpkigaaGreat
open Go.RowKit
set_option maxHeartbeats 2000000
set_option maxRecDepth 100000
structure Then (c:Cx) (b:Nat) (w:World) (res:Re) (done:FV) (Post:World→Prop):Prop where
 ok:∀d j,res=.ok d j→∀u w',Fc c.B [c.R] w w'→RX c w' j→IsT w' (b≤·) u→u.dt=d→Goes c.B done (ptrV u.p) w' Post
 bad:∀j,res=.bad j→∀w',Fc c.B [c.R] w w'→RX c w' j→Post w'
 no:res≠.out
theorem Fc.on {B:Nat} {N:List Nat} {a b c:World} (h1:Fc B N a b) (h2:Fc B N b c):Fc B N a c:=h1.trans h2 (fun j hj=>.inl hj)
theorem Then.on {c:Cx} {b:Nat} {w w1:World} {res:Re} {done:FV} {Post:World→Prop} (h:Then c b w res done Post) (F:Fc c.B [c.R] w w1):Then c b w1 res done Post :=
 ⟨fun d j e u w' F'=>h.ok d j e u w' (F.on F'),fun j e w' F'=>h.bad j e w' (F.on F'),h.no⟩
def Lev (c:Cx) (L:FV) (G:Nat→Re):Prop:=∀w i done Post b,RX c w i→c.R < b→b≤w.heap.size→Then c b w (G i) done Post→Goes c.B L done.val w Post
theorem zYu {c:Cx} {w:World} {i b:Nat} {T:TypeId} {v:Value} (hX:RX c w i) (h:Var w b T v):b≠c.R:=by
 rintro rfl
 have:=hX.rd
 rw [show w.heap[c.R]?=_ from h] at this
 simp at this
theorem Var.stay {c:Cx} {w w':World} {i b:Nat} {T:TypeId} {v:Value} (h:Var w b T v) (hX:RX c w i) (F:Fc c.B [c.R] w w'):Var w' b T v:=h.fc F (by simp;exact zYu hX h)
theorem MapF.stay {c:Cx} {w w':World} {i mb:Nat} {tb:List (List UInt8 × Nat)} (h:MapF w mb tb) (hX:RX c w i) (F:Fc c.B [c.R] w w'):MapF w' mb tb:=by
 refine h.fc F ?_
 simp
 rintro rfl
 obtain⟨n,es,cl,h1,_⟩:=h
 rw [hX.rd] at h1
 simp at h1
theorem IsT.stay {c:Cx} {w w':World} {b:Nat} {t:Tr} (h:IsT w (b≤·) t) (hR:c.R < b) (F:Fc c.B [c.R] w w'):IsT w' (b≤·) t:=h.fc F (by simp;exact hR)
def TkAt (w:World) (b:Nat) (t:TK) (pv ev:Value):Prop:=w.heap[b]?=some (.cells #[.int .u8 t.1.k,pv,ev,.string ⟨t.1.x.toArray⟩,.int .i64 t.1.n] 71 (0,0))
theorem TkAt.stay {c:Cx} {w w':World} {i b:Nat} {t:TK} {pv ev:Value} (h:TkAt w b t pv ev) (hX:RX c w i) (F:Fc c.B [c.R] w w'):TkAt w' b t pv ev:=by
 refine F.block b _ h rfl ?_
 simp
 rintro rfl
 have:=hX.rd
 rw [show w.heap[c.R]?=_ from h] at this
 simp at this
theorem zOj (c:Cx) (bi:Nat) (inner:FV) (G:Nat→Re) (hi:∀w,c.S w→Var w bi 116 inner.val) (hL:Lev c inner G):Lev c ⟨130,#[],#[.pointer (some ⟨bi,0,none⟩)]⟩ G:=by
 intro w i done Post b hX hR hb hT
 refine⟨qCc,?_⟩
 show Calls Tryz.prog 130 #[done.val,.pointer (some ⟨bi,0,none⟩)] w (GP c.B Post w)
 refine zUz c.B bi inner done w Post hX.hB (hi w hX.st) (fun w1 bd F1 hbd hD=>?_)
 have hX1:=hX.keepC F1
 refine hL w1 i ⟨132,#[],#[.pointer (some ⟨bd,0,none⟩)]⟩ Post b hX1 hR (by have:=F1.size;omega) ⟨fun d j e u w2 F2 hX2 hu hd=>⟨qCe,?_⟩,fun j e w2 F2 hX2=>hT.bad j e w2 (F1.up.on F2) hX2,hT.no⟩
 show Calls Tryz.prog 132 #[.pointer (some ⟨u.p,0,none⟩),.pointer (some ⟨bd,0,none⟩)] w2 (GP c.B Post w2)
 refine zUy c.B bd _ w2 done Post hX2.hB (hD.stay hX1 F2) (fun w3 F3=>?_)
 exact hT.ok d j e u w3 ((F1.up.on F2).on F3.up) (hX2.keepC F3) (hu.stay hR F3.up) hd
theorem qCg:Enters 141:=⟨_,_,Tryz.func141,by kernel_rfl,rfl⟩
theorem zYv:Enters 142:=⟨_,_,Tryz.func142,by kernel_rfl,rfl⟩
theorem qCh:Enters 143:=⟨_,_,Tryz.func143,by kernel_rfl,rfl⟩
def pt (b:Nat):Value:=.pointer (some ⟨b,0,none⟩)
theorem zYw (c:Cx) (bt bx ba bm bd:Nat) (t:TK) (x y:Tr) (again:Bool) (more done:FV) (w:World) (i b:Nat) (Post:World→Prop) (hX:RX c w i)
  (hk:t.1.x.length≤65536) (pv ev:Value) (hp:posV t.2.1.1 t.2.1.2=pv) (hFv:TkAt w bt t pv ev)
  (hbx:Var w bx 26 (ptrV x.p)) (hba:Var w ba 4 (.bool again)) (hbm:Var w bm 124 more.val) (hbd:Var w bd 124 done.val)
  (hx:IsT w (b≤·) x) (hy:IsT w (b≤·) y) (hb:b≤w.heap.size)
  (hG:∀u w',Fr [] w w'→IsT w' (b≤·) u→u.dt=.node (nd 11 t t.1.x 0) [x.dt,y.dt]→if again then Goes c.B more (ptrV u.p) w' Post else Goes c.B done (ptrV u.p) w' Post) :
  Calls Tryz.prog 143 #[ptrV y.p,pt bt,pt bx,pt ba,pt bm,pt bd] w (GP c.B Post w):=by
 have d1:w.cell? ⟨bt,1,none⟩=some pv:=by rw [Lib.cell_of_heap hFv];rfl
 have d3:w.cell? ⟨bt,3,none⟩=some (.string ⟨t.1.x.toArray⟩):=by rw [Lib.cell_of_heap hFv];rfl
 obtain⟨x1,y1,e1⟩:=zAc t.2.1.1 t.2.1.2
 rw [hp] at e1
 subst e1
 obtain⟨t3,h3⟩:∃t3,(⟨t.1.x.toArray⟩:ByteArray)=t3:=⟨_,rfl⟩
 rw [h3] at d3
 have cx:=hbx.c
 have F1:=Fr.alloc w (.cells #[.pointer (some ⟨x.p,0,none⟩),.pointer (some ⟨y.p,0,none⟩)] 26)
 have HN:=zBj (w.alloc (.cells #[.pointer (some ⟨x.p,0,none⟩),.pointer (some ⟨y.p,0,none⟩)] 26)) (nd 11 t t.1.x 0) _ [some x,some y] b (zIz w x y) (by simp) (fun u hu=>by
   have:u=x∨u=y:=by simpa using hu
   rcases this with rfl | rfl
   ·exact hx.fr F1 (by simp)
   ·exact hy.fr F1 (by simp)) (by have:=F1.size;omega) hk _ hp t3 h3 11 rfl 0 rfl [x.dt,y.dt] rfl
 have HV:=oH (oA F1 (oA hba (oA hbm (oA hbd hG))))
 clear hX hFv hbx hba hbm hbd hx hy hG F1 hp h3
 simp only [ptrV,pt] at cx ⊢
 go_enter Tryz.func143,Tryz.ntmps143
 go_wp2_with fail
 refine HN.mono ?_
 rintro e w1 ⟨u,rfl,F2,hu,hd⟩
 obtain⟨F1,hba,hbm,hbd,hG⟩:=HV.out
 have F:=F1.trans F2 (by simp)
 have ca:=(hba.keep F (by simp)).c
 have cm:=(hbm.keep F (by simp)).c
 have cd:=(hbd.keep F (by simp)).c
 have hg:=hG u w1 F hu hd
 have HK:=oH (Kn.fr0 F)
 clear F1 hba hbm hbd hG F HN F2 hu hd HV
 simp only [ptrV] at hg ⊢
 cases again
 ·obtain⟨hE,hC⟩:=hg
  have hRn:=zAe hE
  clear hE
  go_wp2_with fail
  refine hC.mono ?_
  rintro e w' ⟨s,rfl,hk2,hr⟩
  go_wp2_with fail
  go_ret
  exact zAv (HK.out.trans hk2) hr
 ·obtain⟨hE,hC⟩:=hg
  have hRn:=zAe hE
  clear hE
  go_wp2_with fail
  refine hC.mono ?_
  rintro e w' ⟨s,rfl,hk2,hr⟩
  go_wp2_with fail
  go_ret
  exact zAv (HK.out.trans hk2) hr
def fv91 (br bo bd bn ba bm:Nat):FV:=⟨142,#[],#[pt br,pt bo,pt bd,pt bn,pt ba,pt bm]⟩
def fv92 (bt bx ba bm bd:Nat):FV:=⟨143,#[],#[pt bt,pt bx,pt ba,pt bm,pt bd]⟩
structure BB (c:Cx) (w:World) (br bo bn ba mb:Nat) (tb:List (List UInt8 × Nat)) (next:FV) (again:Bool):Prop where
 r:Var w br 112 (pt c.R)
 o:Var w bo 127 (.map (some mb))
 n:Var w bn 116 next.val
 a:Var w ba 4 (.bool again)
 m:MapF w mb tb
theorem BB.stay {c:Cx} {w w':World} {i br bo bn ba mb:Nat} {tb:List (List UInt8 × Nat)} {next:FV} {again:Bool} (h:BB c w br bo bn ba mb tb next again) (hX:RX c w i) (F:Fc c.B [c.R] w w'):BB c w' br bo bn ba mb tb next again :=
 ⟨h.r.stay hX F,h.o.stay hX F,h.n.stay hX F,h.a.stay hX F,h.m.stay hX F⟩
theorem zOk (c:Cx) (br bo bd bn ba bm mb:Nat) (tb:List (List UInt8 × Nat)) (again:Bool) (next done:FV) (Gn:Nat→Re) (Post:World→Prop) (hz:tb.lookup []=none) (hn:Lev c next Gn) :
  ∀(m:Nat) (w:World) (i b:Nat) (x:Tr),RX c w i→BB c w br bo bn ba mb tb next again→Var w bd 124 done.val→Var w bm 124 (fv91 br bo bd bn ba bm).val →
   IsT w (b≤·) x→c.R < b→b≤w.heap.size→Then c b w (moreM c.ts tb again Gn m x.dt i) done Post →
   Calls Tryz.prog 142 #[ptrV x.p,pt br,pt bo,pt bd,pt bn,pt ba,pt bm] w (GP c.B Post w)
 | 0,w,i,b,x,_,_,_,_,_,_,_,hT=>absurd rfl hT.no
 | m+1,w,i,b,x,hX,hB,hd,hm,hx,hR,hb,hT=>by
  have HIH:=oH (zOk c br bo bd bn ba bm mb tb again next done Gn Post hz hn m)
  have F0:=Fr.alloc w (.cells #[.pointer (some ⟨x.p,0,none⟩)] 26)
  have hbx:Var (w.alloc (.cells #[.pointer (some ⟨x.p,0,none⟩)] 26)) w.heap.size 26 (ptrV x.p):=heap_alloc_new _ _
  obtain⟨w0,hw0⟩:∃w0,w.alloc (.cells #[.pointer (some ⟨x.p,0,none⟩)] 26)=w0:=⟨_,rfl⟩
  rw [hw0] at F0 hbx
  have FC0:=hX.fc F0
  have hX0:=hX.keep F0
  have hB0:=hB.stay hX FC0.up
  have hd0:=hd.stay hX FC0.up
  have hm0:=hm.stay hX FC0.up
  have hx0:=hx.stay hR FC0.up
  have hs0:=F0.size
  obtain⟨px,py,hpx⟩:=zAc (tk c.ts i).2.1.1 (tk c.ts i).2.1.2
  obtain⟨ex,ey,hex⟩:=zAc (tk c.ts i).2.2.1 (tk c.ts i).2.2.2
  have hsc:=fun w a x y m=>zAg (P:=Tryz.prog) w a .f64 x y m
  have cr:=hB0.r.c
  have co:=hB0.o.c
  have HH:=oH (oA hX0 (oA hB0 (oA hd0 (oA hm0 (oA hx0 (oA hbx (oA hT hn)))))))
  have HF:=oH (oA F0 (oA hpx (oA hex FC0)))
  clear hX hB hd hm hx hX0 hB0 hd0 hm0 hx0 hbx F0 FC0 hT hn
  simp only [pt] at cr co
  cases ho:isO tb (tk c.ts i) with
  | false =>
   have HO:=zJz c _ i mb tb HH.out.1 HH.out.2.1.m ho
   have hG:∀w',Fr [] w0 w'→Goes c.B done (ptrV x.p) w' Post:=fun w' F'=>by
    obtain⟨hX0,hB0,hd0,hm0,hx0,hbx,hT,hn⟩:=HH.out
    exact hT.ok x.dt i (by simp [moreM,ho]) x w' (HF.out.2.2.2.up.on (hX0.fc F').up) (hX0.keep F') (hx0.fr F' (by simp)) rfl
   have HG:=oH (oA hG (oA HH.out.2.2.1 (oA HH.out.2.2.2.2.2.1 HF.out.1)))
   have hzt:tkV zTK=.agg #[.int .u8 0,.complex .f64 0 0,.complex .f64 0 0,.string ⟨#[]⟩,.int .i64 0]:=rfl
   rw [hzt] at HO
   clear hG hzt HH HF hpx hex ho HIH hs0
   simp only [ptrV,pt]
   go_enter Tryz.func142,Tryz.ntmps142
   go_wp2_with fail
   refine HO.mono ?_
   rintro e w1 ⟨rfl,F1⟩
   have HF1:=oH F1
   clear HO F1 cr co
   go_upto_region 2 with fail
   obtain⟨w2,hw2⟩:∃w2,w1.alloc (.cells #[.int .u8 0,.complex .f64 0 0,.complex .f64 0 0,.string ⟨#[]⟩,.int .i64 0] 71)=w2:=⟨_,rfl⟩
   have F2:Fr [] w0 w2:=by rw [← hw2];exact HF1.out.trans (Fr.alloc _ _) (by simp)
   rw [hw2]
   have cd:=(HG.out.2.1.keep F2 (by simp)).c
   have cx:=(HG.out.2.2.1.keep F2 (by simp)).c
   have HK:=oH (Kn.fr0 (HG.out.2.2.2.trans F2 (by simp)))
   obtain⟨hE,hC⟩:=HG.out.1 w2 F2
   have hRn:=zAe hE
   clear hE F2 hw2 hw0
   simp only [ptrV] at cx hC
   go_wp2_with fail
   refine hC.mono ?_
   rintro e w' ⟨s,rfl,hk2,hr⟩
   go_wp2_with fail
   go_ret
   exact zAv (HK.out.trans hk2) hr
  | true =>
   have HO:=zOg c _ i mb tb HH.out.1 HH.out.2.1.m hz ho
   have hlt:=zCb hz ho
   have htk:tkV (tk c.ts i)=.agg #[.int .u8 (tk c.ts i).1.k,.complex .f64 px py,.complex .f64 ex ey,.string ⟨(tk c.ts i).1.x.toArray⟩,.int .i64 (tk c.ts i).1.n]:=by unfold tkV;rw [hpx,hex]
   rw [htk] at HO
   have HM:=oH (oA ho htk)
   clear hpx hex ho htk
   simp only [ptrV,pt]
   go_enter Tryz.func142,Tryz.ntmps142
   go_wp2_with fail
   refine HO.mono ?_
   rintro e w1 ⟨rfl,F1,X1⟩
   have HF1:=oH (oA F1 X1)
   have hs1:=F1.size
   clear HO F1 X1 cr co
   go_upto_region 2 with fail
   obtain⟨w2,hw2⟩:∃w2,w1.alloc (.cells #[.int .u8 (tk c.ts i).1.k,.complex .f64 px py,.complex .f64 ex ey,.string ⟨(tk c.ts i).1.x.toArray⟩,.int .i64 (tk c.ts i).1.n] 71)=w2:=⟨_,rfl⟩
   have F12:Fr [] w1 w2:=by rw [← hw2];exact Fr.alloc _ _
   have T2:TkAt w2 w1.heap.size (tk c.ts i) (.complex .f64 px py) (.complex .f64 ex ey):=by rw [← hw2];exact heap_alloc_new _ _
   rw [hw2]
   obtain⟨hX0,hB0,hd0,hm0,hx0,hbx,hT,hn⟩:=HH.out
   have X1:=HF1.out.2
   have G01:=hX0.fcR HF1.out.1
   have G12:=X1.fc F12
   have F02:Fc c.B [c.R] w0 w2:=G01.on G12.up
   have X2:RX c w2 (i+1):=X1.keep F12
   have B2:=hB0.stay hX0 F02
   have cn:=B2.n.c
   have HK:=oH ((Kn.fr0 HF.out.1).trans ((hX0.knR HF1.out.1).trans (Kn.fr0 F12)))
   have hgo:Goes c.B next (fv92 w1.heap.size w.heap.size ba bm bd).val w2 Post:=by
    refine hn w2 (i+1) _ Post b X2 hR (by have:=F02.size;omega) ⟨fun d j e y w3 F23 hX3 hy hyd=>?_,fun j e w3 F23 hX3=>?_,fun e=>?_⟩
    ·refine⟨qCh,?_⟩
     show Calls Tryz.prog 143 #[ptrV y.p,pt w1.heap.size,pt w.heap.size,pt ba,pt bm,pt bd] w3 (GP c.B Post w3)
     have F03:Fc c.B [c.R] w0 w3:=F02.on F23
     refine zYw c w1.heap.size w.heap.size ba bm bd (tk c.ts i) x y again (fv91 br bo bd bn ba bm) done w3 j b Post hX3 (hX0.txt i) (.complex .f64 px py) (.complex .f64 ex ey) HF.out.2.1 (T2.stay X2 F23) (hbx.stay hX0 F03) (hB0.a.stay hX0 F03) (hm0.stay hX0 F03) (hd0.stay hX0 F03) (hx0.stay hR F03) hy (by have:=F03.size;omega) (fun u w4 F34 hu hud=>?_)
     have F04:Fc c.B [c.R] w0 w4:=F03.on (hX3.fc F34).up
     have FW:Fc c.B [c.R] w w4:=HF.out.2.2.2.up.on F04
     have em:moreM c.ts tb again Gn (m+1) x.dt i=if again then moreM c.ts tb again Gn m (.node (nd 11 (tk c.ts i) (tk c.ts i).1.x 0) [x.dt,y.dt]) j else .ok (.node (nd 11 (tk c.ts i) (tk c.ts i).1.x 0) [x.dt,y.dt]) j:=by
      simp only [moreM,HM.out.1,if_true,e,hyd]
     cases again with
     | true =>
      simp only [if_true] at em ⊢
      rw [em] at hT
      refine⟨zYv,?_⟩
      show Calls Tryz.prog 142 #[ptrV u.p,pt br,pt bo,pt bd,pt bn,pt ba,pt bm] w4 (GP c.B Post w4)
      refine HIH.out w4 j b u (hX3.keep F34) (hB0.stay hX0 F04) (hd0.stay hX0 F04) (hm0.stay hX0 F04) hu hR (by have:=F04.size;omega) ?_
      rw [hud]
      exact hT.on FW
     | false =>
      simp only [Bool.false_eq_true,if_false] at em ⊢
      exact hT.ok _ j em u w4 FW (hX3.keep F34) hu hud
    ·refine hT.bad j (by simp only [moreM,HM.out.1,if_true,e]) w3 ((HF.out.2.2.2.up.on F02).on F23) hX3
    ·exact hT.no (by simp only [moreM,HM.out.1,if_true,e])
   obtain⟨hE,hC⟩:=hgo
   have hRn:=zAe hE
   clear hE G01 G12 X1 F12 T2 hX0 hB0 hd0 hm0 hx0 hbx hT hn F02 X2 B2 hw2 hw0
   simp only [fv92,pt] at hC
   go_wp2_with fail
   refine hC.mono ?_
   rintro e w' ⟨s,rfl,hk2,hr⟩
   go_wp2_with fail
   go_ret
   exact zAv (HK.out.trans hk2) hr
theorem zDr (c:Cx) (br bo bn ba bf mb:Nat) (tb:List (List UInt8 × Nat)) (again:Bool) (first next:FV) (Gf Gn:Nat→Re) (hz:tb.lookup []=none)
  (hS:∀w,c.S w→BB c w br bo bn ba mb tb next again∧Var w bf 116 first.val) (hf:Lev c first Gf) (hn:Lev c next Gn) :
  Lev c ⟨141,#[],#[pt br,pt bo,pt bn,pt ba,pt bf]⟩ (betwM c.ts tb again Gf Gn):=by
 intro w i done Post b hX hR hb hT
 refine⟨qCg,?_⟩
 show Calls Tryz.prog 141 #[done.val,pt br,pt bo,pt bn,pt ba,pt bf] w (GP c.B Post w)
 obtain⟨w0,hw0⟩:∃w0,w.alloc (.cells #[done.val] 124)=w0:=⟨_,rfl⟩
 have F0:Fr [] w w0:=by rw [← hw0];exact Fr.alloc _ _
 have hd0:Var w0 w.heap.size 124 done.val:=by rw [← hw0];exact heap_alloc_new _ _
 have hs0:w0.heap.size=w.heap.size+1:=by rw [← hw0];simp
 obtain⟨w1,hw1⟩:∃w1,w0.alloc (.cells #[(fv91 br bo w.heap.size bn ba (w.heap.size+1)).val] 124)=w1:=⟨_,rfl⟩
 have F1:Fr [] w0 w1:=by rw [← hw1];exact Fr.alloc _ _
 have hm1:Var w1 (w.heap.size+1) 124 (fv91 br bo w.heap.size bn ba (w.heap.size+1)).val:=by rw [← hw1,← hs0];exact heap_alloc_new _ _
 have F01:Fr [] w w1:=F0.trans F1 (by simp)
 have hX1:=hX.keep F01
 obtain⟨hB1,hf1⟩:=hS w1 hX1.st
 have cf:=hf1.c
 have FC01:=hX.fc F01
 have HK:=oH (Kn.fr0 F01)
 have hgo:Goes c.B first (fv91 br bo w.heap.size bn ba (w.heap.size+1)).val w1 Post:=by
  refine hf w1 i _ Post b hX1 hR (by have:=F01.size;omega) ⟨fun d j e u w2 F2 hX2 hu hud=>?_,fun j e w2 F2 hX2=>?_,fun e=>hT.no (by simp only [betwM,e])⟩
  ·refine⟨zYv,?_⟩
   show Calls Tryz.prog 142 #[ptrV u.p,pt br,pt bo,pt w.heap.size,pt bn,pt ba,pt (w.heap.size+1)] w2 (GP c.B Post w2)
   refine zOk c br bo w.heap.size bn ba (w.heap.size+1) mb tb again next done Gn Post hz hn (c.ts.length+1) w2 j b u hX2 (hB1.stay hX1 F2) ((hd0.keep F1 (by simp)).stay hX1 F2) (hm1.stay hX1 F2) hu hR (by have:=F01.size;have:=F2.size;omega) ?_
   have:=hT.on (FC01.up.on F2)
   simpa only [betwM,e,hud] using this
  ·exact hT.bad j (by simp only [betwM,e]) w2 (FC01.up.on F2) hX2
 obtain⟨hE,hC⟩:=hgo
 have hRn:=zAe hE
 have hs1:=F01.size
 have hfl:=hf1.lt
 simp only [fv91,FV.val,pt] at hw1 hC hm1
 have cm:=hm1.c
 have hfne:bf≠w.heap.size+1:=by
  have:=(hS w hX.st).2.lt
  omega
 have hfl0:bf < w.heap.size:=(hS w hX.st).2.lt
 clear hE hX hT hS hf hn hX1 hB1 hf1 F0 F1 F01 FC01 hm1 hd0
 simp only [pt]
 go_enter Tryz.func141,Tryz.ntmps141
 go_wp2_with fail
 refine hC.mono ?_
 rintro e w' ⟨s,rfl,hk2,hr⟩
 go_wp2_with fail
 go_ret
 exact zAv (HK.out.trans hk2) hr
end Go.Proofs.YtepfknfadpkigaaGreat
end
