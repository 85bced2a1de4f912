/- Several texts in one. -/
import Derived.Test.YtepfknfadpkigaaGreatPkAA
import Derived.Test.YtepfknfadpkigaaGreatPkBT
import Derived.Test.YtepfknfadpkigaaGreatPkAW
import Derived.Test.YtepfknfadpkigaaGreatPkBO
import Derived.Test.YtepfknfadpkigaaGreatPkBB
import Derived.Test.YtepfknfadpkigaaGreatPkAA
set_option linter.unusedVariables false
set_option linter.unusedSimpArgs false
section
namespace Go.Proofs.YtepfknfadpkigaaGreat
open Go.RowKit
set_option maxHeartbeats 4000000
set_option maxRecDepth 100000
theorem zMn (c:Sc) (n:Nat):EndB c (bodyM c.ts n):=fun i d j hi h=>((zGj (zCu 0 c.ts) n n i hi).bd.1 d j h).1
theorem qBu (c:Sc):∀n,CB c (bodyM c.ts n):=by
 intro n
 induction n with
 | zero=>exact fun w i done Post b _ _ _ hT=>absurd rfl hT.no
 | succ n ih =>
  exact zSz c (bodyM c.ts n) (zYm c _ ih ⟨qDh,fun w i done Post b h1 h2 h3 h4 h5=>zYq c _ ih (zMn c n) w i done Post b h1 h2 h3 h4 h5⟩
   ⟨qDi,fun w i done Post b h1 h2 h3 h4 h5=>zYr c _ ih (zMn c n) (zPq c.ts n) w i done Post b h1 h2 h3 h4 h5⟩
   ⟨zYn,fun w i done Post b h1 h2 h3 h4 h5=>zYp c _ ih w i done Post b h1 h2 h3 h4 h5⟩) (zLs c.ts n)
theorem zJr (w:World):(binOp .neq 47 .nilFunc .nilFunc).run Tryz.prog w=.ok (.bool false) w:=by kernel_rfl
theorem zKq (f:FuncId) (a b:Array Value) (w:World):(binOp .neq 47 (.func (.func f) a b) .nilFunc).run Tryz.prog w=.ok (.bool true) w:=by kernel_rfl
theorem qBv:Enters 17:=⟨_,_,Tryz.func17,by kernel_rfl,rfl⟩
structure Rds (c:Sc) (w:World) (j:Nat):Prop where
 rd:w.heap[c.R]?=some (.cells #[c.rv,.int .i64 j,.map (some c.mb)] 52 (0,0))
 h:Below c.B c.W0 w
def Tolds (c:Sc) (B X:Nat) (res:Re) (w:World):Prop:=(∃d j u,res=.ok d j∧Rds c w j∧Var w X 26 (ptrV u.p)∧IsT w (B≤·) u∧u.dt=d)∨∃j,res=.bad j∧Rds c w j∧Var w X 26 (.pointer none)
theorem qDk (c:Sc) (X j:Nat) (u:Tr) (v:Value) (d:DT) (w:World) (hX:SX c w j) (hB:c.B≤X) (hR:X < c.R) (hv:Var w X 26 v) (hu:IsT w (X+1≤·) u) (hd:u.dt=d) :
  Calls Tryz.prog 17 #[ptrV u.p,pt X] w (GQ (Tolds c (X+1) X (.ok d j))):=by
 have cx:=hv.c
 have fx:=hv.f
 have H:=oH (oA hX (oA hv hu))
 clear hX hv hu
 simp only [ptrV,pt]
 go_enter Tryz.func17,Tryz.ntmps17
 go_wp2_with fail
 go_ret
 obtain⟨hX,hv,hu⟩:=H.out
 have F:=Fr.set w X 0 (ptrV u.p)
 have hXl:=hv.lt
 refine zCd (.inl ⟨d,j,u,rfl,⟨(F.block _ hX.lt (by simp;omega)).trans hX.rd,hX.hist.trans (F.below c.B (by simp;omega) (by omega))⟩,hv.set _,hu.keep (fun q hq _=>hq) (fun q hq hl=>F.block q hl (by simp;have:X+1≤q:=hq;omega)),hd⟩)
theorem zMo (ts:List TK) (rv:Value) (i:Nat) (w:World) (hrow:RowAt w w.heap.size rv ts) (hi:i≤16384) (htl:ts.length≤16384) (htx:∀x ∈ ts,x.1.x.length≤65536) (hne:BM ts i≠.out) :
  Calls Tryz.prog 9 #[rv,.int .i64 i] w (Says w.heap.size w (BM ts i)):=by
 obtain⟨X,hX⟩:∃X,w.heap.size=X:=⟨_,rfl⟩
 obtain⟨w1,hw1⟩:∃w1,w.alloc (.cells #[.pointer none] 26)=w1:=⟨_,rfl⟩
 have F1:Fr [] w w1:=by rw [← hw1];exact Fr.alloc _ _
 have v1:Var w1 X 26 (.pointer none):=by rw [← hw1,← hX];exact heap_alloc_new _ _
 have s1:w1.heap.size=X+1:=by rw [← hw1,← hX];simp
 have hrow1:RowAt w1 w1.heap.size rv ts:=by
  obtain⟨q,cap,e1,e2⟩:=hrow.fc (Fc.of_fr F1 (B:=w.heap.size) (by simp) (Nat.le_refl _))
  exact⟨q,cap,e1,fun i x hx=>by obtain⟨g,a1,a2,a3⟩:=e2 i x hx;exact⟨g,a1,by omega,a3⟩⟩
 have HB:=zYl ts rv i w1 hrow1
 have hi0:¬((i:Int) < 0):=by omega
 have HH:=oH (oA F1 (oA v1 (oA hrow (oA hi (oA htl (oA htx (oA hX hne)))))))
 obtain⟨q,cap,hq,_⟩:=hrow
 clear F1 v1 hi htl htx hrow1 hX hne
 rw [s1] at HB
 have HQ:=oH hq
 subst hq
 go_enter Tryz.func9,Tryz.ntmps9
 go_wp2_with fail
 refine HB.mono ?_
 rintro e w2 ⟨rfl,hrd,hr2,hmp,F2⟩
 have HST:Hid (∃c:Sc,c.ts=ts∧c.R=X+1∧c.B=X∧c.W0=w∧c.mb=X+2∧SX c w2 i):=oH (by
  obtain⟨F1,v1,hrow,hi,htl,htx,hX,hne⟩:=HH.out
  have F02:Fr [] w w2:=F1.on F2
  have hr3:RowAt w2 X (.slice q ts.length cap) ts:=by rw [← hX];exact hrow.fc (Fc.of_fr F02 (B:=w.heap.size) (by simp) (Nat.le_refl _))
  exact⟨⟨ts,.slice q ts.length cap,X+1,X,X+2,w,by omega,by omega⟩,rfl,rfl,rfl,rfl,rfl,⟨hrd,hr3,hmp,hi,htl,htx,F02.below X (by simp) (by omega)⟩⟩)
 have v2:=oH (HH.out.2.1.keep F2 (by simp))
 clear HB hrd hr2 hmp F2
 rw [HH.out.2.2.2.2.2.2.1]
 obtain⟨c,rfl,hcR,hcB,hcW,hcm,hS⟩:=HST.out
 have HC:=qBu c (c.ts.length+2) w2 i ⟨17,#[],#[pt X]⟩ (Tolds c (X+1) X (BM c.ts i)) (X+3) hS (by omega) (by have:=hS.mp.lt;omega) ⟨fun d j er u w' F X' hu hd=>⟨qBv,by
  have er:BM c.ts i=.ok d j:=er
  rw [er]
  exact qDk c X j u _ d w' X' (by omega) (by omega) (v2.out.keep F (by simp;omega)) (hu.keep (fun q hq _=>by have hq:X+3≤q:=hq;show X+1≤q;omega) (fun _ _ _=>rfl)) hd⟩,fun j er w' F X'=>.inr ⟨j,er,⟨X'.rd,X'.hist⟩,v2.out.keep F (by simp;omega)⟩,HH.out.2.2.2.2.2.2.2⟩
 rw [hcR] at HC
 have HCI:=oH (oA hcR (oA hcB (oA hcW hcm)))
 clear HST hcR hcB hcW hcm hS v2
 simp only [FV.val,pt] at HC
 go_wp2_with fail
 refine HC.mono ?_
 rintro e w3 ⟨s,rfl,hr⟩
 have hruns:=oH hr
 clear HC hr
 go_wp2_with fail
 have hnn:=fun w=>zJr w
 have hnf:=fun f a b w=>zKq f a b w
 refine Turn.loop ?_
 refine hruns.out (fun s' w'=>∀u17 u18 u19 u20,Turn _ _ _ { tmps:=#[.slice q c.ts.length cap,.int .i64 i,undef,undef,.pointer (some ⟨X,0,none⟩),.int .i64 0,.int .i64 0,.pointer (some ⟨X+1,0,none⟩),s',.int .i64 i,.bool false,.slice q c.ts.length cap,.int .i64 i,.pointer (some ⟨X+1,0,none⟩),.pointer (some ⟨X+1,0,none⟩),.func (.func 17) #[] #[.pointer (some ⟨X,0,none⟩)],s,u17,u18,u19,u20,undef,undef,undef,undef,undef,undef,undef,undef,undef,undef,undef],defers:=[] } w') ?nil ?func undef undef undef undef
 case nil =>
  intro w' hP u17 u18 u19 u20
  refine Turn.step ?_
  clear hruns
  have hnc:∀(w:World),(binOp .eql 26 (.pointer none) (.pointer none)).run Tryz.prog w=.ok (.bool true) w:=zKp
  rcases hP with⟨d,j,u,hres,hrd,hv,hu,hd⟩ | ⟨j,hres,hrd,hv⟩
  ·have cj:w'.cell? ⟨X+1,1,none⟩=some (.int .i64 j):=by rw [← HCI.out.1,Lib.cell_of_heap hrd.rd];rfl
   have cx:=hv.c
   have fx:=hv.f
   have H:=oH (oA hres (oA hrd (oA hu (oA hd hv))))
   clear hres hrd hu hd hv
   simp only [ptrV] at cx
   go_wp2_with fail
   go_region
   obtain⟨w4,hw4⟩:∃w4,(w'.setCell ⟨X,0,none⟩ (.pointer (some ⟨u.p,0,none⟩))).drew=w4:=⟨_,rfl⟩
   try rw [hw4]
   have H4:Hid (Fr [X] w' w4):=oH (by rw [← hw4];exact(Fr.set w' X 0 (ptrV u.p)).trans (Fr.drew _) (by simp))
   have c4:w4.cell? ⟨X,0,none⟩=some (.pointer (some ⟨u.p,0,none⟩)):=by rw [← hw4];exact(H.out.2.2.2.2.set (ptrV u.p)).c
   clear cj cx fx hw4
   go_wp2_with fail
   refine bodyPost_ret (v:=.tuple #[.pointer (some ⟨u.p,0,none⟩),.int .i64 j,.int .i64 0]) (by simp [results,Tryz.results9,go_sem,c4]) rfl ?_
   obtain⟨hres,hrd,hu,hd,hv⟩:=H.out
   obtain⟨hcR,hcB,hcW,hcm⟩:=HCI.out
   have hXw:w.heap.size=X:=HH.out.2.2.2.2.2.2.1
   have hBel:=hrd.h
   rw [hcB,hcW] at hBel
   have hXl:=hv.lt
   refine⟨by rw [hXw];exact hBel.trans (H4.out.below X (by simp) (by omega)),.inl ⟨d,j,u,hres,rfl,hu.keep (fun q hq _=>?_) (fun q hq hl=>H4.out.block q hl ?_),hd⟩⟩
   ·have hq:X+1≤q:=hq;omega
   ·simp;have hq:X+1≤q:=hq;omega
  ·have cj:w'.cell? ⟨X+1,1,none⟩=some (.int .i64 j):=by rw [← HCI.out.1,Lib.cell_of_heap hrd.rd];rfl
   have cx:=hv.c
   have fx:=hv.f
   have H:=oH (oA hres (oA hrd hv))
   clear hres hrd hv
   go_wp2_with fail
   go_region
   obtain⟨w4,hw4⟩:∃w4,(w'.setCell ⟨X,0,none⟩ (.pointer none)).drew=w4:=⟨_,rfl⟩
   try rw [hw4]
   have H4:Hid (Fr [X] w' w4):=oH (by rw [← hw4];exact(Fr.set w' X 0 (.pointer none)).trans (Fr.drew _) (by simp))
   have c4:w4.cell? ⟨X,0,none⟩=some (.pointer none):=by rw [← hw4];exact(H.out.2.2.set (.pointer none)).c
   clear cj cx fx hw4
   go_wp2_with fail
   refine bodyPost_ret (v:=.tuple #[.pointer none,.int .i64 j,.int .i64 60]) (by simp [results,Tryz.results9,go_sem,c4]) rfl ?_
   obtain⟨hres,hrd,hv⟩:=H.out
   obtain⟨hcR,hcB,hcW,hcm⟩:=HCI.out
   have hXw:w.heap.size=X:=HH.out.2.2.2.2.2.2.1
   have hBel:=hrd.h
   rw [hcB,hcW] at hBel
   have hXl:=hv.lt
   exact⟨by rw [hXw];exact hBel.trans (H4.out.below X (by simp) (by omega)),.inr ⟨j,hres,rfl⟩⟩
 case func =>
  intro f first caps w' hE hC u17 u18 u19 u20
  have hRn2:=zAe hE
  refine Turn.step ?_
  clear hE hruns
  go_wp2_with fail
  refine hC.mono ?_
  rintro e w3 ⟨s',rfl,hK⟩
  have HK:=oH hK
  clear hC hK
  go_wp2_with fail
  exact HK.out _ _ _ _
end Go.Proofs.YtepfknfadpkigaaGreat
end
section
namespace Go.Proofs.YtepfknfadpkigaaGreat
open Go.RowKit
set_option maxHeartbeats 4000000
set_option maxRecDepth 100000
theorem Says.err {B:Nat} {W0:World} {res:Re} {e:Ending} {w':World} (h:Says B W0 res e w') {j:Nat} (hr:res=.bad j) :
  e=.returned (.tuple #[.pointer none,.int .i64 j,.int .i64 60])∧Below B W0 w':=by
 subst hr
 obtain⟨hb,⟨d,i,u,h1,_⟩ | ⟨i,h1,rfl⟩⟩:=h
 ·cases h1
 ·cases h1
  exact⟨rfl,hb⟩
theorem zJs (s:ByteArray) (hs:s.size≤16384):(rowT s.data.toList).length≤16384∧∀x ∈ rowT s.data.toList,x.1.x.length≤65536:=by
 have hlen:s.data.toList.length=s.size:=by rw [Array.length_toList];rfl
 exact⟨Nat.le_trans (zWg _) (by omega),zWh _ (by omega)⟩
theorem zRf (s:ByteArray) (w:World) :
  Calls Tryz.prog 6 #[.string s] w fun e w'=>e=.returned (.bool (decide ((2048:Int) < (s.size:Int))))∧w'=w:=by
 go_enter Tryz.func6,Tryz.ntmps6
 go_wp2_with fail
 go_ret
 exact⟨rfl,rfl⟩
theorem qBw (ts:List TK) (rv:Value) (w:World) (hrow:RowAt w w.heap.size rv ts) (htl:ts.length≤16384) (htx:∀x ∈ ts,x.1.x.length≤65536) :
  Calls Tryz.prog 9 #[rv,.int .i64 0] w (Says w.heap.size w (BM ts 0)) :=
 zMo ts rv 0 w hrow (Nat.zero_le _) htl htx (qAf (zCu 0 ts) 0 (Nat.zero_le _)).2.1
def kidsOf:Re→Option (Nat × Nat)
 | .ok (.node _ ks) j=>some (ks.length,j)
 | _=>none
theorem zMp:∀l:List Tr,(dtL l).length=l.length
 | []=>rfl
 | t::r=>by simp [dtL,zMp r]
theorem Says.kids {B:Nat} {W0:World} {res:Re} {e:Ending} {w':World} (h:Says B W0 res e w') {n j:Nat} (hr:kidsOf res=some (n,j)) (hn:0 < n) :
  ∃p d q cap,e=.returned (.tuple #[ptrV p,.int .i64 j,.int .i64 0])∧Below B W0 w'∧w'.heap[p]?=some (nodeO d (.slice q n cap)):=by
 obtain⟨hb,⟨d,i,u,rfl,rfl,hu,hd⟩ | ⟨i,rfl,rfl⟩⟩:=h
 ·cases u with
  | node p nd ks =>
   subst hd
   obtain⟨_,⟨v,hv,hrow,_⟩,_⟩:=hu
   have hl:ks.length=n∧i=j:=by simpa [kidsOf,Tr.dt,zMp] using hr
   obtain⟨rfl,rfl⟩:=hl
   obtain⟨g,cap,e,_,_⟩:=hrow.form (by simpa using hn)
   rw [e] at hv
   simp only [List.length_map] at hv
   exact⟨p,nd,_,_,rfl,hb,hv⟩
 ·simp [kidsOf] at hr
def srcA:ByteArray:=⟨#[97,32,58,61,32,49,59,59,32,102,40,120,41]⟩
def srcB:ByteArray:=⟨#[73,70,32,97,32,84,72,69,78]⟩
theorem exA:kidsOf (BM (rowT srcA.data.toList) 0)=some (2,9):=by kernel_rfl
theorem exB:BM (rowT srcB.data.toList) 0=.bad 3:=by kernel_rfl
theorem zRg (w:World) :
  Calls Tryz.prog 7 #[] w fun e w'=>e=.returned (.bool true)∧Below w.heap.size w w':=by
 have R1:=fun w=>zHx srcA (by decide) w
 have R2:=fun w=>zHx srcB (by decide) w
 have E1:=fun v w h=>qBw (rowT srcA.data.toList) v w h (zJs srcA (by decide)).1 (zJs srcA (by decide)).2
 have E2:=fun v w h=>qBw (rowT srcB.data.toList) v w h (zJs srcB (by decide)).1 (zJs srcB (by decide)).2
 have G1:=oH exA
 have G2:=oH exB
 have RH1:=oH R1
 have RH2:=oH R2
 have EH1:=oH E1
 have EH2:=oH E2
 clear R1 R2 E1 E2
 go_enter Tryz.func7,Tryz.ntmps7
 go_wp2_with fail
 refine(RH1.out _).mono ?_
 rintro e w1 ⟨v1,rfl,B1,r1,_⟩
 have C1:=oH (EH1.out v1 w1 r1)
 clear r1
 go_wp2_with fail
 refine C1.out.mono ?_
 rintro e w2 h2
 obtain⟨p1,d1,q1,cap1,rfl,B2,n1⟩:=h2.kids G1.out (by omega)
 have B12:=oH (bt B1 B2)
 clear B1 B2 C1 h2
 obtain⟨q1',hq1⟩:∃q,ptrV p1=q:=⟨_,rfl⟩
 rw [hq1]
 go_wp2_with fail
 refine(RH2.out _).mono ?_
 rintro e w3 ⟨v3,rfl,B3,r3,_⟩
 have C3:=oH (EH2.out v3 w3 r3)
 clear r3
 go_wp2_with fail
 refine C3.out.mono ?_
 rintro e w4 h4
 obtain⟨rfl,B4⟩:=h4.err G2.out
 have B34:=bt B3 B4
 have n1':=(B34.block p1 (zAd n1)).trans n1
 have B14:=oH (bt B12.out B34)
 have c4:w4.cell? ⟨p1,4,none⟩=some (.slice q1 2 cap1):=by rw [Lib.cell_of_heap n1'];rfl
 clear B3 B4 C3 h4 B12 n1 B34 n1'
 subst hq1
 simp only [ptrV]
 go_wp2_with fail
 go_ret
 exact⟨rfl,B14.out⟩
end Go.Proofs.YtepfknfadpkigaaGreat
end
section
namespace Go.Proofs.YtepfknfadpkigaaGreat
open Go.RowKit
set_option maxHeartbeats 4000000
set_option maxRecDepth 100000
theorem qBx {ts:List TK} {i:Nat} (h:ts.length≤i):BM ts i≠.out:=by
 have hz:=zCz h
 have e:partM ts [59] (stmM ts (bodyM ts (ts.length+1))) (ts.length+1) [] i=.ok [] i:=zQu (by rw [hz];rfl) (zMj (by rw [hz];rfl)) _
 intro hb
 have hb:(partM ts [59] (stmM ts (bodyM ts (ts.length+1))) (ts.length+1) [] i).re (fun l=>.node (nd 46 (tk ts i) [] 0) l)=.out:=hb
 rw [e] at hb
 cases hb
theorem qBy (ts:List TK) (i:Nat):BM ts i≠.out:=by
 by_cases h:i≤ts.length
 ·exact(qAf (zCu 0 ts) i h).2.1
 ·exact qBx (by omega)
theorem zYs (ts:List TK) (hS:Scd ts) (rv:Value) (i:Nat) (w:World) (hrow:RowAt w w.heap.size rv ts) (hi:i≤16384) (htl:ts.length≤16384) (htx:∀x ∈ ts,x.1.x.length≤65536) :
  Calls Tryz.prog 10 #[rv,.int .i64 i] w (Says w.heap.size w (BM ts i)):=by
 obtain⟨w1,hw1⟩:∃w1,w.alloc (.cells #[rv,.int .i64 i,.bool false] 57)=w1:=⟨_,rfl⟩
 have F1:Fr [] w w1:=by rw [← hw1];exact Fr.alloc _ _
 have r1:w1.heap[w.heap.size]?=some (.cells #[rv,.int .i64 i,.bool false] 57 (0,0)):=by rw [← hw1];exact heap_alloc_new _ _
 obtain⟨c,hc⟩:∃c:Rc,c=⟨ts,rv,w.heap.size,w.heap.size,57,Nat.le_refl _⟩:=⟨_,rfl⟩
 have hts:c.ts=ts:=by rw [hc]
 have hcR:c.R=w.heap.size:=by rw [hc]
 have X:RF c w1 i false:=by
  subst hc
  exact⟨r1,hrow.fc (Fc.of_fr F1 (B:=w.heap.size) (by simp) (Nat.le_refl _)),hi,htl,htx⟩
 have HC:Calls Tryz.prog 18 #[.pointer (some ⟨w.heap.size,0,none⟩)] w1 fun e w'=>∃o a,encP o=.pointer a∧e=.returned (.pointer a)∧Fr [w.heap.size] w1 w'∧Itm c (fun i=>BM ts i) i w1 w' o:=by
  have hE:=zQw c (by rw [hts];exact hS) (c.ts.length+2) w1 i false X (fun _=>qBy c.ts i)
  rw [hcR] at hE
  refine hE.mono ?_
  rintro e w' ⟨o,a,h1,h2,h3,h4,_⟩
  have h4:=h4 rfl
  rw [hts] at h4
  exact⟨o,a,h1,h2,h3,h4⟩
 have HTO:=oH (fun w i h a=>zSt c w i h a)
 have HTB:=oH (fun w i h a=>zQj c w i h a)
 have hi0:¬(i:Int) < 0:=by omega
 have HH:=oH F1
 obtain⟨q,cap,hq,_⟩:=hrow
 rw [hcR] at HTO HTB
 clear hS htl htx F1 r1 hts X hi hcR hc
 subst hq
 go_enter Tryz.func10,Tryz.ntmps10
 go_wp2_with fail
 refine HC.mono ?_
 rintro e w2 ⟨o,a,ha,rfl,F2,⟨d,j,u,hr,rfl,X,hT,hd⟩ | ⟨j,hr,X⟩⟩
 ·have HQ:=HTO.out w2 j X a
  have hae:a=some ⟨u.p,0,none⟩:=by
   have h:Value.pointer (some ⟨u.p,0,none⟩)=.pointer a:=ha
   injection h with h
   exact h.symm
  have H2:=oH (oA F2 (oA hr (oA hT (oA hd hae))))
  clear F2 X hr hT hd HC HTO HTB ha hae
  go_wp2_with fail
  refine HQ.mono ?_
  rintro e w3 ⟨rfl,F3⟩
  have H3:=oH F3
  clear F3 HQ
  go_wp2_with fail
  go_ret3
  have F1:=HH.out
  obtain⟨F2,hr,hT,hd,hae⟩:=H2.out
  subst hae
  refine⟨(((F1.up0 (N:=[w.heap.size])).on F2).on0 H3.out).below w.heap.size (by simp) (Nat.le_refl _),.inl ⟨d,j,u,hr,rfl,zAt (zAk hT H3.out (by simp)) F1.size,hd⟩⟩
 ·have HQ:=HTB.out w2 j X a
  have H2:=oH (oA F2 hr)
  clear F2 X hr HC HTO HTB ha
  go_wp2_with fail
  refine HQ.mono ?_
  rintro e w3 ⟨rfl,F3⟩
  have H3:=oH F3
  clear F3 HQ
  go_wp2_with fail
  go_ret3
  have F1:=HH.out
  obtain⟨F2,hr⟩:=H2.out
  exact⟨(((F1.up0 (N:=[w.heap.size])).on F2).on0 H3.out).below w.heap.size (by simp) (Nat.le_refl _),.inr ⟨j,hr,rfl⟩⟩
theorem zYt (rv:Value) (a:Int) (ha:a < 0) (w:World) (hv:∃q n cap,rv=.slice q n cap):Calls Tryz.prog 10 #[rv,.int .i64 a] w (Neg w):=by
 obtain⟨q,n,cap,rfl⟩:=hv
 go_enter Tryz.func10,Tryz.ntmps10
 go_wp2_with fail
 go_ret3
 exact⟨rfl,(Fr.refl [] w).below _ (by simp) (Nat.le_refl _)⟩
theorem zTm (rv:Value) (a:Int) (ha:a < 0) (w:World) (hv:∃q n cap,rv=.slice q n cap):Calls Tryz.prog 9 #[rv,.int .i64 a] w (Neg w):=by
 obtain⟨q,n,cap,rfl⟩:=hv
 obtain⟨X,hX⟩:∃X,w.heap.size=X:=⟨_,rfl⟩
 obtain⟨w1,hw1⟩:∃w1,w.alloc (.cells #[.pointer none] 26)=w1:=⟨_,rfl⟩
 have F1:Fr [] w w1:=by rw [← hw1];exact Fr.alloc _ _
 have v1:Var w1 X 26 (.pointer none):=by rw [← hw1,← hX];exact heap_alloc_new _ _
 have cx:=v1.c
 have fx:=v1.f
 have HH:=oH (oA F1 (oA v1 hX))
 clear F1 v1
 go_enter Tryz.func9,Tryz.ntmps9
 go_wp2_with fail
 have c4:(w1.setCell ⟨X,0,none⟩ (.pointer none)).cell? ⟨X,0,none⟩=some (.pointer none):=(HH.out.2.1.set (.pointer none)).c
 refine bodyPost_ret (v:=.tuple #[.pointer none,.int .i64 0,.int .i64 60]) (by simp [results,Tryz.results9,go_sem,c4]) rfl ?_
 obtain⟨F1,_,hX2⟩:=HH.out
 exact⟨rfl,((F1.up0 (N:=[X])).on (Fr.set w1 X 0 (.pointer none))).below w.heap.size (by simp [hX2]) (Nat.le_refl _)⟩
theorem zHj (w:World):Calls Tryz.prog 11 #[.pointer none,.pointer none] w fun e w'=>e=.returned (.bool true)∧Below w.heap.size w w':=by
 have HS:Calls Tryz.prog 13 #[.pointer none,.pointer none] w fun e w'=>e=.returned (.bool true)∧Below w.heap.size w w':=by
  go_enter Tryz.func13,Tryz.ntmps13
  go_wp2_with fail
  go_ret
  exact⟨rfl,(Fr.refl [] w).below _ (by simp) (Nat.le_refl _)⟩
 go_enter Tryz.func11,Tryz.ntmps11
 go_wp2_with fail
 refine HS.mono ?_
 rintro e w1 ⟨rfl,B⟩
 have H:=oH B
 clear B HS
 go_wp2_with fail
 go_ret
 exact⟨rfl,H.out⟩
theorem zKr (s:ByteArray) (at':Int) (h:2048 < s.size∨1024 < at') (w:World) :
  Calls Tryz.prog 3 #[.string s,.int .i64 at'] w fun e w'=>e=.returned (.bool true)∧Below w.heap.size w w':=by
 have H1:=zRf s w
 have HW:=oH (zRg w)
 by_cases hs:2048 < s.size
 ·rw [decide_eq_true (by omega)] at H1
  clear h hs
  go_enter Tryz.func3,Tryz.ntmps3
  go_wp2_with fail
  refine H1.mono ?_
  rintro e w1 ⟨rfl,rfl⟩
  go_wp2_with fail
  refine HW.out.mono ?_
  rintro e w2 ⟨rfl,hb⟩
  go_wp2_with fail
  go_ret
  exact⟨rfl,hb⟩
 ·rw [decide_eq_false (by omega)] at H1
  have ha:(1024:Int) < at':=by omega
  clear h hs
  go_enter Tryz.func3,Tryz.ntmps3
  go_wp2_with fail
  refine H1.mono ?_
  rintro e w1 ⟨rfl,rfl⟩
  go_wp2_with fail
  refine HW.out.mono ?_
  rintro e w2 ⟨rfl,hb⟩
  go_wp2_with fail
  go_ret
  exact⟨rfl,hb⟩
theorem zRh (s:ByteArray) (i:Nat) (hi:i≤1024) (hs:¬2048 < s.size) (w:World) :
  Calls Tryz.prog 3 #[.string s,.int .i64 i] w fun e w'=>e=.returned (.bool true)∧Below w.heap.size w w':=by
 have H1:=zRf s w
 rw [decide_eq_false (by omega)] at H1
 have H2:=zHx s (by omega) w
 obtain⟨hl,hx⟩:=zJs s (by omega)
 have hsc:=zWj s.data.toList
 obtain⟨ts,hts⟩:∃ts,rowT s.data.toList=ts:=⟨_,rfl⟩
 rw [hts] at hl hx H2 hsc
 have HW:=oH zRg
 have HX:=oH (oA hx hsc)
 clear hts hx hsc
 have hat:¬(1024:Int) < (i:Int):=by omega
 go_enter Tryz.func3,Tryz.ntmps3
 go_wp2_with fail
 refine H1.mono ?_
 rintro e w1 ⟨rfl,rfl⟩
 clear H1
 go_wp2_with fail
 refine H2.mono ?_
 rintro e w2 ⟨v,rfl,B2,hR⟩
 clear H2
 have H3:=zMo ts v i w2 hR.1 (by omega) hl HX.out.1 (qBy ts i)
 have HDO:=oH (fun w3 (B:Below w2.heap.size w2 w3)=>zYs ts HX.out.2 v i w3 ((hR.bel B).1) (by omega) hl HX.out.1)
 obtain⟨q,cap,rfl,hc1,hc2⟩:=hR.2
 clear hR
 go_wp2_with fail
 refine H3.mono ?_
 rintro e w3 ⟨B3,⟨d,j,u,h1,rfl,h3,h4⟩ | ⟨j,h1,rfl⟩⟩
 ·have HC:=HDO.out w3 B3
  have H:=oH (oA (bt B2 B3) (oA h1 (oA h3 h4)))
  clear B2 B3 h1 h3 h4 H3 HDO
  simp only [ptrV]
  go_wp2_with fail
  refine HC.mono ?_
  rintro e w4 ⟨B4,⟨d2,j2,u2,g1,rfl,g3,g4⟩ | ⟨j2,g1,rfl⟩⟩
  ·obtain⟨B13,h1,h3,h4⟩:=H.out
   rw [h1] at g1
   injection g1 with e1 e2
   subst e2
   have HEX:=zNh u.cnt u u2 w4 (Nat.le_refl _) (h3.below B4) g3 (zUi u u2 (by rw [g4,h4,e1]))
   have H5:=oH (bt B13 B4)
   clear B13 h1 h3 h4 B4 g3 g4 e1 HC H
   simp only [ptrV] at HEX ⊢
   go_wp2_with fail
   refine HEX.mono ?_
   rintro e w5 ⟨rfl,B5⟩
   have H6:=oH (bt H5.out B5)
   clear B5 HEX H5
   go_wp2_with fail
   refine(HW.out _).mono ?_
   rintro e w6 ⟨rfl,B6⟩
   go_wp2_with fail
   go_ret
   exact⟨rfl,bt H6.out B6⟩
  ·rw [H.out.2.1] at g1
   cases g1
 ·have HC:=HDO.out w3 B3
  have H:=oH (oA (bt B2 B3) h1)
  clear B2 B3 h1 H3 HDO
  go_wp2_with fail
  refine HC.mono ?_
  rintro e w4 ⟨B4,⟨d2,j2,u2,g1,rfl,g3,g4⟩ | ⟨j2,g1,rfl⟩⟩
  ·rw [H.out.2] at g1
   cases g1
  ·obtain⟨B13,h1⟩:=H.out
   rw [h1] at g1
   injection g1 with e2
   subst e2
   have HEX:=zHj w4
   have H5:=oH (bt B13 B4)
   clear B13 h1 B4 HC H
   go_wp2_with fail
   refine HEX.mono ?_
   rintro e w5 ⟨rfl,B5⟩
   have H6:=oH (bt H5.out B5)
   clear B5 HEX H5
   go_wp2_with fail
   refine(HW.out _).mono ?_
   rintro e w6 ⟨rfl,B6⟩
   go_wp2_with fail
   go_ret
   exact⟨rfl,bt H6.out B6⟩
theorem zNl (s:ByteArray) (a:Int) (ha:a < 0) (hs:¬2048 < s.size) (w:World) :
  Calls Tryz.prog 3 #[.string s,.int .i64 a] w fun e w'=>e=.returned (.bool true)∧Below w.heap.size w w':=by
 have H1:=zRf s w
 rw [decide_eq_false (by omega)] at H1
 have H2:=zHx s (by omega) w
 obtain⟨ts,hts⟩:∃ts,rowT s.data.toList=ts:=⟨_,rfl⟩
 rw [hts] at H2
 have HW:=oH zRg
 clear hts
 have hat:¬(1024:Int) < a:=by omega
 have HA:=oH ha
 go_enter Tryz.func3,Tryz.ntmps3
 go_wp2_with fail
 refine H1.mono ?_
 rintro e w1 ⟨rfl,rfl⟩
 clear H1
 go_wp2_with fail
 refine H2.mono ?_
 rintro e w2 ⟨v,rfl,B2,hR⟩
 clear H2
 have hvs:∃q n cap,v=.slice q n cap:=by obtain⟨q,cap,e,_⟩:=hR.2;exact⟨q,_,cap,e⟩
 have H3:=zTm v a HA.out w2 hvs
 have HDO:=oH (fun w3=>zYt v a HA.out w3 hvs)
 clear hvs
 obtain⟨q,cap,rfl,hc1,hc2⟩:=hR.2
 clear hR
 go_wp2_with fail
 refine H3.mono ?_
 rintro e w3 ⟨rfl,B3⟩
 have HC:=HDO.out w3
 have H:=oH (bt B2 B3)
 clear B2 B3 H3 HDO
 go_wp2_with fail
 refine HC.mono ?_
 rintro e w4 ⟨rfl,B4⟩
 have HEX:=zHj w4
 have H5:=oH (bt H.out B4)
 clear B4 HC H
 go_wp2_with fail
 refine HEX.mono ?_
 rintro e w5 ⟨rfl,B5⟩
 have H6:=oH (bt H5.out B5)
 clear B5 HEX H5
 go_wp2_with fail
 refine(HW.out _).mono ?_
 rintro e w6 ⟨rfl,B6⟩
 go_wp2_with fail
 go_ret
 exact⟨rfl,bt H6.out B6⟩
theorem sreads_any (s:ByteArray) (a:Int) (w:World) :
  Calls Tryz.prog 3 #[.string s,.int .i64 a] w fun e w'=>e=.returned (.bool true)∧Below w.heap.size w w':=by
 by_cases h:2048 < s.size∨1024 < a
 ·exact zKr s a h w
 ·by_cases ha:a < 0
  ·exact zNl s a ha (by omega) w
  ·obtain⟨i,rfl⟩:∃i:Nat,a=i:=⟨a.toNat,by omega⟩
   exact zRh s i (by omega) (by omega) w
end Go.Proofs.YtepfknfadpkigaaGreat
end
