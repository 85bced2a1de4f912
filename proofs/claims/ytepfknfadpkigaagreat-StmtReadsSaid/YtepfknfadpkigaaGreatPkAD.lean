/- Several texts in one. -/
import Derived.Test.YtepfknfadpkigaaGreatPkAA
import Derived.Test.YtepfknfadpkigaaGreatPkAC
import Derived.Test.YtepfknfadpkigaaGreatPkAA
import Derived.Laws.AppendOwn
import Derived.Deep.DeepCutAuto
import Derived.Deep.RegionWith
import Derived.Deep.RegionHeld3
import Derived.Deep.AppendLies
import Derived.Deep.Onto
set_option linter.unusedVariables false
set_option linter.unusedSimpArgs false
section
namespace Go.Proofs.YtepfknfadpkigaaGreat
open Go.RowKit
set_option maxHeartbeats 1000000
set_option maxRecDepth 100000
theorem zRm (c:UInt8) (k:Nat):decide ((k:Int)≤(c.toNat:Int))=decide (k≤c.toNat):=by
 by_cases h:k≤c.toNat
 ·rw [decide_eq_true h,decide_eq_true (by omega)]
 ·rw [decide_eq_false h,decide_eq_false (by omega)]
theorem zRn (x:List UInt8) (s:ByteArray):(x == s.toList)=decide (x=s.data.toList):=by
 rw [ByteArray.toList_eq]
 by_cases h:x=s.data.toList
 ·rw [decide_eq_true h,beq_iff_eq.2 h]
 ·rw [decide_eq_false h,beq_eq_false_iff_ne.2 h]
theorem zGu (s:ByteArray):s.toList.isEmpty=decide (s.size=0):=by
 rw [ByteArray.toList_eq]
 have:s.data.toList.length=s.size:=by rw [Array.length_toList];rfl
 cases h:s.data.toList with
 | nil=>rw [h] at this;rw [decide_eq_true (by simpa using this.symm)];rfl
 | cons c r=>rw [h] at this;rw [decide_eq_false (by simp at this;omega)];rfl
theorem zAq (s:ByteArray):s.data.toList.length=s.size:=by rw [Array.length_toList];rfl
theorem zDb (s:ByteArray) (k:Nat) (h:k < s.size):s.data.toList[k]?=some s[k]:=by
 rw [List.getElem?_eq_getElem (by rw [zAq];exact h)];rfl
theorem zCm (s:ByteArray) (h:0 < s.size):∃r,s.data.toList=s[0]::r:=by
 have:=zDb s 0 h
 cases hq:s.data.toList with
 | nil=>rw [hq] at this;cases this
 | cons c r=>rw [hq] at this;exact⟨r,by rw [← Option.some.inj this]⟩
theorem zJw (s:ByteArray) (k:Nat) (h:k+1 < s.size):(s.extract k (k+2)).toList=[s[k],s[k+1]]:=by
 have h2:k < s.data.toList.length:=by rw [zAq];omega
 rw [ByteArray.toList_eq,ByteArray.data_extract,Array.toList_extract,List.extract_eq_take_drop]
 rw [zCa s k (by omega),zCa s (k+1) h,show k+2 - k=0+1+1 by omega,List.take_succ_cons,List.take_succ_cons,List.take_zero]
theorem w64 (n:Int) (h0:-9223372036854775808≤n) (h1:n≤9223372036854775807):wrap64 n=n:=by unfold wrap64;omega
def tokV (t:T0) (p q:Value):Value:=.agg #[.int .u8 t.k,p,q,.string ⟨t.x.toArray⟩,.int .i64 t.n]
theorem zAg {P:Program} (w:World) (a:Addr) (k:FloatKind) (x y:Nat) (m:Mode):(store a (.complex k x y) m).run P w=stored P w a (.complex k x y) m:=run_store P w a _ m rfl
theorem zCf (c:UInt8) (k:Nat) (h:c≠UInt8.ofNat k) (hk:k < 256:=by omega):((c.toNat:Int) == (k:Int))=false:=by
 rw [beq_eq_false_iff_ne]
 intro e
 apply h
 apply UInt8.toNat_inj.1
 rw [UInt8.toNat_ofNat'];omega
theorem zBf (s:ByteArray) (k:Nat) (h:k≤s.size):(s.extract 0 k).data.toList=s.data.toList.take k:=by
 rw [ByteArray.data_extract,Array.toList_extract,List.extract_eq_take_drop];simp
theorem zIv (c b:UInt8):((c.toNat:Int) == (b.toNat:Int))=decide (c=b):=by
 by_cases h:c=b
 ·subst h;rw [decide_eq_true rfl];simp
 ·rw [decide_eq_false h,beq_eq_false_iff_ne]
  intro e;apply h;apply UInt8.toNat_inj.1;omega
def tok0 (o:Option T0):T0:=o.getD ⟨0,[],0⟩
def oneV (r:Option T0 × Nat × Int):Value:=.tuple #[tokV (tok0 r.1) (.complex .f64 0 0) (.complex .f64 0 0),.int .i64 r.2.1,.int .i64 r.2.2]
theorem zOa (s:ByteArray) (x:List UInt8) (h:s.data.toList=x):s=⟨x.toArray⟩:=by
 apply ByteArray.ext;rw [← h]
theorem zCn (a:List UInt8):(⟨a.toArray⟩:ByteArray).size=a.length:=by
 show a.toArray.size=_
 simp
end Go.Proofs.YtepfknfadpkigaaGreat
end
section
namespace Go.Proofs.YtepfknfadpkigaaGreat
open Go.RowKit
structure Fv (w:World) (b:Nat) (v0 v1 v2 v3 v4:Value):Prop where
 c0:w.cell? ⟨b,0,none⟩=some v0
 c1:w.cell? ⟨b,1,none⟩=some v1
 c2:w.cell? ⟨b,2,none⟩=some v2
 c3:w.cell? ⟨b,3,none⟩=some v3
 c4:w.cell? ⟨b,4,none⟩=some v4
 f0:w.frozen? ⟨b,0,none⟩=false
 f1:w.frozen? ⟨b,1,none⟩=false
 f2:w.frozen? ⟨b,2,none⟩=false
 f3:w.frozen? ⟨b,3,none⟩=false
 f4:w.frozen? ⟨b,4,none⟩=false
theorem Fv.below {w w':World} {b B:Nat} {v0 v1 v2 v3 v4:Value} (h:Fv w b v0 v1 v2 v3 v4) (hb:Below B w w') (hlt:b < B):Fv w' b v0 v1 v2 v3 v4 :=
 ⟨(hb.cell hlt).trans h.c0,(hb.cell hlt).trans h.c1,(hb.cell hlt).trans h.c2,(hb.cell hlt).trans h.c3,(hb.cell hlt).trans h.c4,(hb.frozen hlt).trans h.f0,(hb.frozen hlt).trans h.f1,(hb.frozen hlt).trans h.f2,(hb.frozen hlt).trans h.f3,(hb.frozen hlt).trans h.f4⟩
theorem Fv.set0 {w:World} {b:Nat} {v0 v1 v2 v3 v4:Value} (h:Fv w b v0 v1 v2 v3 v4) (u:Value):Fv (w.setCell ⟨b,0,none⟩ u) b u v1 v2 v3 v4 :=
 ⟨World.cell?_setCell_same _ _ _ h.c0,(World.cell?_setCell_other _ _ _ _ (by simp)).trans h.c1,(World.cell?_setCell_other _ _ _ _ (by simp)).trans h.c2,(World.cell?_setCell_other _ _ _ _ (by simp)).trans h.c3,(World.cell?_setCell_other _ _ _ _ (by simp)).trans h.c4,(World.frozen?_setCell _ _ _ _).trans h.f0,(World.frozen?_setCell _ _ _ _).trans h.f1,(World.frozen?_setCell _ _ _ _).trans h.f2,(World.frozen?_setCell _ _ _ _).trans h.f3,(World.frozen?_setCell _ _ _ _).trans h.f4⟩
theorem Fv.set1 {w:World} {b:Nat} {v0 v1 v2 v3 v4:Value} (h:Fv w b v0 v1 v2 v3 v4) (u:Value):Fv (w.setCell ⟨b,1,none⟩ u) b v0 u v2 v3 v4 :=
 ⟨(World.cell?_setCell_other _ _ _ _ (by simp)).trans h.c0,World.cell?_setCell_same _ _ _ h.c1,(World.cell?_setCell_other _ _ _ _ (by simp)).trans h.c2,(World.cell?_setCell_other _ _ _ _ (by simp)).trans h.c3,(World.cell?_setCell_other _ _ _ _ (by simp)).trans h.c4,(World.frozen?_setCell _ _ _ _).trans h.f0,(World.frozen?_setCell _ _ _ _).trans h.f1,(World.frozen?_setCell _ _ _ _).trans h.f2,(World.frozen?_setCell _ _ _ _).trans h.f3,(World.frozen?_setCell _ _ _ _).trans h.f4⟩
theorem Fv.set2 {w:World} {b:Nat} {v0 v1 v2 v3 v4:Value} (h:Fv w b v0 v1 v2 v3 v4) (u:Value):Fv (w.setCell ⟨b,2,none⟩ u) b v0 v1 u v3 v4 :=
 ⟨(World.cell?_setCell_other _ _ _ _ (by simp)).trans h.c0,(World.cell?_setCell_other _ _ _ _ (by simp)).trans h.c1,World.cell?_setCell_same _ _ _ h.c2,(World.cell?_setCell_other _ _ _ _ (by simp)).trans h.c3,(World.cell?_setCell_other _ _ _ _ (by simp)).trans h.c4,(World.frozen?_setCell _ _ _ _).trans h.f0,(World.frozen?_setCell _ _ _ _).trans h.f1,(World.frozen?_setCell _ _ _ _).trans h.f2,(World.frozen?_setCell _ _ _ _).trans h.f3,(World.frozen?_setCell _ _ _ _).trans h.f4⟩
theorem Fv.set3 {w:World} {b:Nat} {v0 v1 v2 v3 v4:Value} (h:Fv w b v0 v1 v2 v3 v4) (u:Value):Fv (w.setCell ⟨b,3,none⟩ u) b v0 v1 v2 u v4 :=
 ⟨(World.cell?_setCell_other _ _ _ _ (by simp)).trans h.c0,(World.cell?_setCell_other _ _ _ _ (by simp)).trans h.c1,(World.cell?_setCell_other _ _ _ _ (by simp)).trans h.c2,World.cell?_setCell_same _ _ _ h.c3,(World.cell?_setCell_other _ _ _ _ (by simp)).trans h.c4,(World.frozen?_setCell _ _ _ _).trans h.f0,(World.frozen?_setCell _ _ _ _).trans h.f1,(World.frozen?_setCell _ _ _ _).trans h.f2,(World.frozen?_setCell _ _ _ _).trans h.f3,(World.frozen?_setCell _ _ _ _).trans h.f4⟩
theorem Fv.set4 {w:World} {b:Nat} {v0 v1 v2 v3 v4:Value} (h:Fv w b v0 v1 v2 v3 v4) (u:Value):Fv (w.setCell ⟨b,4,none⟩ u) b v0 v1 v2 v3 u :=
 ⟨(World.cell?_setCell_other _ _ _ _ (by simp)).trans h.c0,(World.cell?_setCell_other _ _ _ _ (by simp)).trans h.c1,(World.cell?_setCell_other _ _ _ _ (by simp)).trans h.c2,(World.cell?_setCell_other _ _ _ _ (by simp)).trans h.c3,World.cell?_setCell_same _ _ _ h.c4,(World.frozen?_setCell _ _ _ _).trans h.f0,(World.frozen?_setCell _ _ _ _).trans h.f1,(World.frozen?_setCell _ _ _ _).trans h.f2,(World.frozen?_setCell _ _ _ _).trans h.f3,(World.frozen?_setCell _ _ _ _).trans h.f4⟩
theorem Fv.new (w:World) (v0 v1 v2 v3 v4:Value) (T:TypeId) (b:Nat) (hb:b=w.heap.size):Fv (w.alloc (.cells #[v0,v1,v2,v3,v4] T)) b v0 v1 v2 v3 v4:=by
 subst hb
 exact⟨by rw [World.cell?_alloc_at _ _ _ _ rfl];rfl,by rw [World.cell?_alloc_at _ _ _ _ rfl];rfl,by rw [World.cell?_alloc_at _ _ _ _ rfl];rfl,by rw [World.cell?_alloc_at _ _ _ _ rfl];rfl,by rw [World.cell?_alloc_at _ _ _ _ rfl];rfl,World.frozen?_alloc_at _ _ _ _ rfl,World.frozen?_alloc_at _ _ _ _ rfl,World.frozen?_alloc_at _ _ _ _ rfl,World.frozen?_alloc_at _ _ _ _ rfl,World.frozen?_alloc_at _ _ _ _ rfl⟩
theorem Fv.drew {w:World} {b:Nat} {v0 v1 v2 v3 v4:Value} (h:Fv w b v0 v1 v2 v3 v4):Fv w.drew b v0 v1 v2 v3 v4:=⟨h.c0,h.c1,h.c2,h.c3,h.c4,h.f0,h.f1,h.f2,h.f3,h.f4⟩
theorem zAw {w w':World} {b:Nat} (h:Below w.heap.size w w') (hb:w.heap.size≤b) (u0 u1 u2 u3 u4:Value):Below w.heap.size w (((((w'.setCell ⟨b,0,none⟩ u0).setCell ⟨b,1,none⟩ u1).setCell ⟨b,2,none⟩ u2).setCell ⟨b,3,none⟩ u3).setCell ⟨b,4,none⟩ u4) :=
 ((((h.setCell hb _).setCell hb _).setCell hb _).setCell hb _).setCell hb _
def farI (p:UInt8→Bool) (u:List UInt8) (k:Nat):Prop:=u.takeWhile p=u.take k++(u.drop k).takeWhile p
theorem zFs (p:UInt8→Bool) (u:List UInt8):farI p u 0:=by unfold farI;simp
theorem zDy (p:UInt8→Bool) (u:List UInt8) (k:Nat) (b:UInt8) (hb:u[k]?=some b) (hp:p b=true) (h:farI p u k):farI p u (k+1):=by
 unfold farI at h ⊢
 have hlt:k < u.length:=by
  rcases Nat.lt_or_ge k u.length with q | q
  ·exact q
  ·rw [List.getElem?_eq_none q] at hb;cases hb
 have hd:u.drop k=b::u.drop (k+1):=by
  rw [List.drop_eq_getElem_cons hlt]
  rw [List.getElem?_eq_getElem hlt] at hb
  rw [Option.some.inj hb]
 have ht:u.take (k+1)=u.take k++[b]:=by
  rw [List.take_add_one,hb];rfl
 rw [h,hd,List.takeWhile_cons,if_pos hp,ht,List.append_assoc];rfl
theorem zDq (p:UInt8→Bool) (u:List UInt8) (k:Nat) (hk:k≤u.length) (h:farI p u k) (he:∀b,u[k]?=some b→p b=false):u.takeWhile p=u.take k∧(u.takeWhile p).length=k:=by
 have hd:(u.drop k).takeWhile p=[]:=by
  cases hq:u.drop k with
  | nil=>rfl
  | cons b r =>
   have hb:u[k]?=some b:=by
    have:=List.head?_drop (l:=u) (i:=k)
    rw [hq] at this
    exact this.symm
   rw [List.takeWhile_cons,if_neg (by rw [he b hb];decide)]
 unfold farI at h
 rw [hd,List.append_nil] at h
 exact⟨h,by rw [h,List.length_take];omega⟩
end Go.Proofs.YtepfknfadpkigaaGreat
end
section
namespace Go.Proofs.YtepfknfadpkigaaGreat
open Go.RowKit
structure Two (w:World) (b:Nat) (x y:Int):Prop where
 c0:w.cell? ⟨b,0,none⟩=some (.int .i64 x)
 c1:w.cell? ⟨b,1,none⟩=some (.int .i64 y)
 f0:w.frozen? ⟨b,0,none⟩=false
 f1:w.frozen? ⟨b,1,none⟩=false
theorem Two.below {w w':World} {b B:Nat} {x y:Int} (h:Two w b x y) (hb:Below B w w') (hlt:b < B):Two w' b x y :=
 ⟨(hb.cell hlt).trans h.c0,(hb.cell hlt).trans h.c1,(hb.frozen hlt).trans h.f0,(hb.frozen hlt).trans h.f1⟩
theorem Two.set0 {w:World} {b:Nat} {x y:Int} (h:Two w b x y) (z:Int):Two (w.setCell ⟨b,0,none⟩ (.int .i64 z)) b z y :=
 ⟨World.cell?_setCell_same _ _ _ h.c0,(World.cell?_setCell_other _ _ _ _ (by simp)).trans h.c1,(World.frozen?_setCell _ _ _ _).trans h.f0,(World.frozen?_setCell _ _ _ _).trans h.f1⟩
theorem Two.set1 {w:World} {b:Nat} {x y:Int} (h:Two w b x y) (z:Int):Two (w.setCell ⟨b,1,none⟩ (.int .i64 z)) b x z :=
 ⟨(World.cell?_setCell_other _ _ _ _ (by simp)).trans h.c0,World.cell?_setCell_same _ _ _ h.c1,(World.frozen?_setCell _ _ _ _).trans h.f0,(World.frozen?_setCell _ _ _ _).trans h.f1⟩
theorem zOb {b d o p:Nat} (hd:d≠b):(⟨b,p,none⟩:Addr)≠⟨d,o,none⟩:=fun h=>hd (congrArg Addr.block h).symm
theorem Two.other {w:World} {b:Nat} {x y:Int} (h:Two w b x y) (d o:Nat) (v:Value) (hd:d≠b):Two (w.setCell ⟨d,o,none⟩ v) b x y :=
 ⟨(World.cell?_setCell_other _ _ _ _ (zOb (Ne.symm hd))).trans h.c0,(World.cell?_setCell_other _ _ _ _ (zOb (Ne.symm hd))).trans h.c1,(World.frozen?_setCell _ _ _ _).trans h.f0,(World.frozen?_setCell _ _ _ _).trans h.f1⟩
theorem Two.new (w:World) (x y:Int) (T:TypeId) (b:Nat) (hb:b=w.heap.size):Two (w.alloc (.cells #[.int .i64 x,.int .i64 y] T)) b x y:=by
 subst hb
 exact⟨by rw [World.cell?_alloc_at _ _ _ _ rfl];rfl,by rw [World.cell?_alloc_at _ _ _ _ rfl];rfl,World.frozen?_alloc_at _ _ _ _ rfl,World.frozen?_alloc_at _ _ _ _ rfl⟩
theorem Two.alloc {w:World} {b:Nat} {x y:Int} (h:Two w b x y) (o:Obj) (hb:b < w.heap.size):Two (w.alloc o) b x y:=h.below (zAn w o) hb
theorem Two.drew {w:World} {b:Nat} {x y:Int} (h:Two w b x y):Two w.drew b x y:=⟨h.c0,h.c1,h.f0,h.f1⟩
end Go.Proofs.YtepfknfadpkigaaGreat
end
section
namespace Go.Proofs.YtepfknfadpkigaaGreat
open Go.RowKit
set_option maxHeartbeats 1000000
set_option maxRecDepth 100000
theorem zDz (l c:Int):∃x y,posV l c=.complex .f64 x y:=⟨_,_,rfl⟩
def TK:Type:=T0 × (Int × Int) × (Int × Int)
def tkCells (x:TK):List Value:=[.int .u8 x.1.k,posV x.2.1.1 x.2.1.2,posV x.2.2.1 x.2.2.2,.string ⟨x.1.x.toArray⟩,.int .i64 x.1.n]
def OwnT (w:World) (B:Nat) (v:Value) (l:List TK):Prop:=w.ownsRow B 71 5 v l.length (l.flatMap tkCells)
theorem infoTok:(Tryz.prog.info? 71).map (fun i=>(i.zero,i.size,i.bytes))=some (some (.agg #[.int .u8 0,.complex .f64 0 0,.complex .f64 0 0,.string ⟨#[]⟩,.int .i64 0]),5,64):=by kernel_rfl
def plOf (S:List UInt8) (x:T0 × Nat × Nat):TK:=(x.1,goB 1 1 (S.take x.2.1),goB 1 1 (S.take x.2.2))
def lenOf (v:Value):Nat:=match v with | .string s=>s.size | _=>0
theorem zFt:∃i,Tryz.prog.info? 71=some i∧i.zero=some (.agg #[.int .u8 0,.complex .f64 0 0,.complex .f64 0 0,.string ⟨#[]⟩,.int .i64 0])∧i.size=5∧i.bytes=64:=by
 have h:=infoTok
 cases hi:Tryz.prog.info? 71 with
 | none=>rw [hi] at h;cases h
 | some i =>
  rw [hi] at h
  simp at h
  exact⟨i,rfl,h.1,h.2.1,h.2.2⟩
theorem OwnT.below {w w':World} {B:Nat} {v:Value} {l:List TK} (h:OwnT w B v l) (hb:Below w.heap.size w w'):OwnT w' B v l:=by
 obtain⟨h1,h2⟩:=h
 refine⟨h1,?_⟩
 rcases h2 with h2 | ⟨g,cap,cur,e1,e2,e3,e4,e5,e6,e7⟩
 ·exact .inl h2
 ·have hlt:g < w.heap.size:=by
   rcases Nat.lt_or_ge g w.heap.size with q | q
   ·exact q
   ·rw [Array.getElem?_eq_none q] at e3;cases e3
  exact .inr ⟨g,cap,cur,e1,e2,(hb.block g hlt).trans e3,e4,e5,e6,e7⟩
theorem OwnT.set {w:World} {B:Nat} {v:Value} {l:List TK} (h:OwnT w B v l) (a:Addr) (ha:a.block < B) (u:Value):OwnT (w.setCell a u) B v l:=ownsRow_setCell_below h ha u
theorem OwnT.next {B:Nat} {w1:World} {v':Value} {l:List TK} {x:TK} (h:w1.ownsRow B 71 5 v' (l.length+1) (l.flatMap tkCells++tkCells x)):OwnT w1 B v' (l++[x]):=by
 unfold OwnT
 rw [List.length_append,List.flatMap_append]
 simpa using h
theorem Two.grown {w w':World} {row:Option Nat} {b:Nat} {x y:Int} (h:Two w b x y) (hg:w.grownBy w' row) (hb:b < w.heap.size) (hne:some b≠row):Two w' b x y:=by
 have e:=hg.block b hb hne
 exact⟨(World.cell?_of_block (a:=⟨b,0,none⟩) e).trans h.c0,(World.cell?_of_block (a:=⟨b,1,none⟩) e).trans h.c1,(World.frozen?_of_block (a:=⟨b,0,none⟩) e).trans h.f0,(World.frozen?_of_block (a:=⟨b,1,none⟩) e).trans h.f1⟩
def scanAt (S:List UInt8) (off:Nat) (done:List (T0 × Nat × Nat)):Prop:=scanS 0 S=(done++(scanS off (S.drop off)).1,(scanS off (S.drop off)).2)
theorem zIw (S:List UInt8):scanAt S 0 []:=by unfold scanAt;simp
theorem zFu (S:List UInt8) (off n:Nat) (done:List (T0 × Nat × Nat)) (h:scanAt S off done) (hne:S.drop off≠[]) (hs:stp (S.drop off)=(none,n,0)):scanAt S (off+n) done:=by
 unfold scanAt at h ⊢
 rw [h,zEn off _ hne n hs,List.drop_drop]
theorem zMs (S:List UInt8) (off n:Nat) (done:List (T0 × Nat × Nat)) (t:T0) (e:Int) (h:scanAt S off done) (hne:S.drop off≠[]) (hs:stp (S.drop off)=(some t,n,e)):scanAt S (off+n) (done++[(t,off,off+n)]):=by
 unfold scanAt at h ⊢
 rw [h,zFq off _ hne t n e hs,List.drop_drop]
 simp
theorem zGv (S:List UInt8) (off n:Nat) (done:List (T0 × Nat × Nat)) (e:Int) (he:e≠0) (h:scanAt S off done) (hne:S.drop off≠[]) (hs:stp (S.drop off)=(none,n,e)):(scanS 0 S).2=(off,e):=by
 unfold scanAt at h
 rw [h,zFr off _ hne n e he hs]
theorem zMt (S:List UInt8) (off:Nat) (done:List (T0 × Nat × Nat)) (h:scanAt S off done) (he:S.drop off=[]):scanS 0 S=(done,off,0):=by
 unfold scanAt at h
 rw [h,he,zFp];simp
theorem zJx (S:List UInt8) (off m:Nat):goB 1 1 (S.take (off+m))=goB (goB 1 1 (S.take off)).1 (goB 1 1 (S.take off)).2 ((S.drop off).take m):=by
 rw [← zGs]
 congr 1
 rw [List.take_add]
end Go.Proofs.YtepfknfadpkigaaGreat
end
section
namespace Go.Proofs.YtepfknfadpkigaaGreat
open Go.RowKit
set_option maxHeartbeats 1000000
set_option maxRecDepth 100000
def endT (S:List UInt8) (off:Nat):TK:=(⟨0,[],0⟩,goB 1 1 (S.take off),goB 1 1 (S.take off))
theorem zRo (c:UInt8) (h:isBl c=true):(((c.toNat:Int) == 9)=true)∨(((c.toNat:Int) == 9)=false∧((c.toNat:Int) == 10)=true)∨(((c.toNat:Int) == 9)=false∧((c.toNat:Int) == 10)=false∧((c.toNat:Int) == 13)=true)∨(((c.toNat:Int) == 9)=false∧((c.toNat:Int) == 10)=false∧((c.toNat:Int) == 13)=false∧((c.toNat:Int) == 32)=true):=by
 unfold isBl at h
 simp only [Bool.or_eq_true,beq_iff_eq] at h
 rcases h with ((rfl | rfl) | rfl) | rfl
 ·exact .inl rfl
 ·exact .inr (.inl ⟨rfl,rfl⟩)
 ·exact .inr (.inr (.inl ⟨rfl,rfl,rfl⟩))
 ·exact .inr (.inr (.inr ⟨rfl,rfl,rfl,rfl⟩))
theorem zUv (c:UInt8) (h:isBl c=false):((c.toNat:Int) == 9)=false∧((c.toNat:Int) == 10)=false∧((c.toNat:Int) == 13)=false∧((c.toNat:Int) == 32)=false:=by
 unfold isBl at h
 simp only [Bool.or_eq_false_iff,beq_eq_false_iff_ne] at h
 obtain⟨⟨⟨h1,h2⟩,h3⟩,h4⟩:=h
 exact⟨zCf c 9 h1,zCf c 10 h2,zCf c 13 h3,zCf c 32 h4⟩
theorem zFv (S:List UInt8) (sr:ByteArray) (off m:Nat) (h:sr.data.toList=S.drop off) (hm:m≤sr.size) (hle:off≤S.length):off+m≤S.length∧(sr.extract m sr.size).data.toList=S.drop (off+m)∧(sr.extract 0 m).data.toList=(S.drop off).take m∧(sr.extract 0 m).size≤sr.size∧(sr.extract m sr.size).size+m=sr.size:=by
 have hl:=zAq sr
 rw [h,List.length_drop] at hl
 have e1:(sr.extract m sr.size).data.toList=S.drop (off+m):=by
  rw [ByteArray.data_extract,Array.toList_extract,List.extract_eq_take_drop,h,List.drop_drop,List.take_of_length_le]
  rw [List.length_drop];omega
 have e2:(sr.extract 0 m).data.toList=(S.drop off).take m:=by rw [zBf sr m hm,h]
 refine⟨by omega,e1,e2,?_,?_⟩
 ·rw [← zAq,e2,List.length_take];omega
 ·rw [← zAq,e1,List.length_drop];omega
theorem OwnT.mono {w:World} {B B':Nat} {v:Value} {l:List TK} (h:OwnT w B v l) (hb:B'≤B):OwnT w B' v l:=World.ownsRow.mono h hb
theorem zUw (w:World) (a b c d e:Value) (T:TypeId):∀j u,[a,b,c,d,e][j]?=some u→(w.alloc (.cells #[a,b,c,d,e] T)).cell? ((⟨w.heap.size,0,none⟩:Addr).add j)=some u:=by
 intro j u hj
 match j,hj with
 | 0,hj=>simp at hj;subst hj;simp [Addr.add]
 | 1,hj=>simp at hj;subst hj;simp [Addr.add]
 | 2,hj=>simp at hj;subst hj;simp [Addr.add]
 | 3,hj=>simp at hj;subst hj;simp [Addr.add]
 | 4,hj=>simp at hj;subst hj;simp [Addr.add]
theorem one5 (a b c d e:Value) (h1:a.oneCell'=true) (h2:b.oneCell'=true) (h3:c.oneCell'=true) (h4:d.oneCell'=true) (h5:e.oneCell'=true):∀u ∈ [a,b,c,d,e],u.oneCell'=true:=by
 intro u hu
 simp at hu
 rcases hu with rfl | rfl | rfl | rfl | rfl <;> assumption
def ScanPost (S:List UInt8) (w:World) (e:Ending) (w':World):Prop :=
 ∃v at',e=.returned (.tuple #[v,at',.int .i64 (scanS 0 S).2.2])∧Below w.heap.size w w' ∧
  (((scanS 0 S).2.2=0∧at'=.complex .f64 0 0∧OwnT w' w.heap.size v ((scanS 0 S).1.map (plOf S)++[endT S (scanS 0 S).2.1]))∨((scanS 0 S).2.2≠0∧v=.slice none 0 0∧at'=posV (goB 1 1 (S.take (scanS 0 S).2.1)).1 (goB 1 1 (S.take (scanS 0 S).2.1)).2))
theorem zEa (S:List UInt8) (w w':World) (off:Nat) (e:Int) (he:e≠0) (h:(scanS 0 S).2=(off,e)) (px py:Int) (hp:goB 1 1 (S.take off)=(px,py)) (hb:Below w.heap.size w w'):ScanPost S w (.returned (.tuple #[.slice none 0 0,posV px py,.int .i64 e])) w':=by
 exact⟨.slice none 0 0,posV px py,by rw [h],hb,.inr ⟨by rw [h];exact he,rfl,by rw [h,hp]⟩⟩
theorem zOc (u:List UInt8) (h:isBl (u.headD 0)=true):stp u=(none,1,0):=by unfold stp;rw [if_pos h]
end Go.Proofs.YtepfknfadpkigaaGreat
end
