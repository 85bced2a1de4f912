/- Several texts in one. -/
import Derived.Test.YtepfknfadpkigaaGreatPkAA
import Derived.Test.YtepfknfadpkigaaGreatPkAL
import Derived.Test.YtepfknfadpkigaaGreatPkAG
set_option linter.unusedVariables false
set_option linter.unusedSimpArgs false
section
namespace Go.Proofs.YtepfknfadpkigaaGreat
open Go.RowKit
set_option maxHeartbeats 1000000
set_option maxRecDepth 100000
def ahdV (s:Nat):FV:=⟨134,#[],#[pt (s+2),pt s,pt (s+1),pt (s+3)]⟩
def btwV (s:Nat):FV:=⟨141,#[],#[pt s,pt (s+1),pt (s+4),pt (s+2),pt (s+3)]⟩
def aptV (s:Nat):FV:=⟨130,#[],#[pt s]⟩
def oprV (R:Nat):FV:=⟨120,#[pt R],#[]⟩
structure Ahd (w:World) (s R mb:Nat) (again:Bool) (next:FV):Prop where
 r:Var w s 112 (pt R)
 o:Var w (s+1) 127 (.map (some mb))
 a:Var w (s+2) 4 (.bool again)
 n:Var w (s+3) 116 next.val
structure Btw (w:World) (s R mb:Nat) (again:Bool) (first next:FV):Prop where
 r:Var w s 112 (pt R)
 o:Var w (s+1) 127 (.map (some mb))
 a:Var w (s+2) 4 (.bool again)
 f:Var w (s+3) 116 first.val
 n:Var w (s+4) 116 next.val
theorem Ahd.fc {w w':World} {B s R mb:Nat} {again:Bool} {next:FV} (h:Ahd w s R mb again next) (F:Fc B [R] w w') (hs:R < s):Ahd w' s R mb again next :=
 ⟨h.r.fc F (by simp;omega),h.o.fc F (by simp;omega),h.a.fc F (by simp;omega),h.n.fc F (by simp;omega)⟩
theorem Btw.fc {w w':World} {B s R mb:Nat} {again:Bool} {first next:FV} (h:Btw w s R mb again first next) (F:Fc B [R] w w') (hs:R < s):Btw w' s R mb again first next :=
 ⟨h.r.fc F (by simp;omega),h.o.fc F (by simp;omega),h.a.fc F (by simp;omega),h.f.fc F (by simp;omega),h.n.fc F (by simp;omega)⟩
structure Env (R:Nat) (w:World):Prop where
 m1:MapF w (R+1) relT
 m2:MapF w (R+2) signT
 m3:MapF w (R+3) sumT
 m4:MapF w (R+4) mulT
 m5:MapF w (R+5) notT
 a1:Ahd w (R+6) R (R+5) true (oprV R)
 ap:Var w (R+10) 116 (ahdV (R+6)).val
 b1:Btw w (R+11) R (R+4) true (aptV (R+10)) (aptV (R+10))
 a2:Ahd w (R+16) R (R+2) false (btwV (R+11))
 b2:Btw w (R+20) R (R+3) true (ahdV (R+16)) (btwV (R+11))
 b3:Btw w (R+25) R (R+1) false (btwV (R+20)) (btwV (R+20))
theorem Env.fc {R B:Nat} {w w':World} (h:Env R w) (F:Fc B [R] w w'):Env R w' :=
 ⟨h.m1.fc F (by simp),h.m2.fc F (by simp),h.m3.fc F (by simp),h.m4.fc F (by simp),h.m5.fc F (by simp),h.a1.fc F (by omega),h.ap.fc F (by simp),h.b1.fc F (by omega),h.a2.fc F (by omega),h.b2.fc F (by omega),h.b3.fc F (by omega)⟩
def exV (R:Nat):FV:=btwV (R+25)
def cxOf (ts:List TK) (rv:Value) (R:Nat) (W0:World):Cx:=⟨ts,rv,(exV R).val,R,R,W0,Nat.le_refl _,Env R,fun _ _ h F=>h.fc F⟩
theorem Ahd.bb {c:Cx} {w:World} {s mb:Nat} {again:Bool} {next:FV} {tb:List (List UInt8 × Nat)} (h:Ahd w s c.R mb again next) (hm:MapF w mb tb):BB c w s (s+1) (s+3) (s+2) mb tb next again:=⟨h.r,h.o,h.n,h.a,hm⟩
theorem Btw.bb {c:Cx} {w:World} {s mb:Nat} {again:Bool} {first next:FV} {tb:List (List UInt8 × Nat)} (h:Btw w s c.R mb again first next) (hm:MapF w mb tb):BB c w s (s+1) (s+4) (s+2) mb tb next again:=⟨h.r,h.o,h.n,h.a,hm⟩
theorem zFi (ts:List TK) (rv:Value) (R:Nat) (W0:World):∀n,Lev (cxOf ts rv R W0) (exV R) (exprM ts n)
 | 0=>fun w i done Post b _ _ _ hT=>absurd rfl hT.no
 | n+1=>by
  have ih:=zFi ts rv R W0 n
  have l0:=zSb (cxOf ts rv R W0) (exprM ts n) (exV R) rfl ih (zAr n) (zBu (zAr n))
  have l1:Lev (cxOf ts rv R W0) (ahdV (R+6)) (facM ts (exprM ts n)):=zJg (cxOf ts rv R W0) _ _ _ _ (R+5) notT true (oprV R) _ rfl (fun w h=>(Env.a1 h).bb (Env.m5 h)) l0
  have l2:Lev (cxOf ts rv R W0) (aptV (R+10)) (facM ts (exprM ts n)):=zOj (cxOf ts rv R W0) (R+10) (ahdV (R+6)) _ (fun w h=>Env.ap h) l1
  have l3:Lev (cxOf ts rv R W0) (btwV (R+11)) (termM ts (exprM ts n)):=zDr (cxOf ts rv R W0) _ _ _ _ _ (R+4) mulT true (aptV (R+10)) (aptV (R+10)) _ _ rfl (fun w h=>⟨(Env.b1 h).bb (Env.m4 h),(Env.b1 h).f⟩) l2 l2
  have l4:Lev (cxOf ts rv R W0) (ahdV (R+16)) (aheadM ts signT false (termM ts (exprM ts n))):=zJg (cxOf ts rv R W0) _ _ _ _ (R+2) signT false (btwV (R+11)) _ rfl (fun w h=>(Env.a2 h).bb (Env.m2 h)) l3
  have l5:Lev (cxOf ts rv R W0) (btwV (R+20)) (simM ts (exprM ts n)):=zDr (cxOf ts rv R W0) _ _ _ _ _ (R+3) sumT true (ahdV (R+16)) (btwV (R+11)) _ _ rfl (fun w h=>⟨(Env.b2 h).bb (Env.m3 h),(Env.b2 h).f⟩) l4 l3
  exact zDr (cxOf ts rv R W0) _ _ _ _ _ (R+1) relT false (btwV (R+20)) (btwV (R+20)) _ _ rfl (fun w h=>⟨(Env.b3 h).bb (Env.m1 h),(Env.b3 h).f⟩) l5 l5
end Go.Proofs.YtepfknfadpkigaaGreat
namespace Go.Proofs.YtepfknfadpkigaaGreat
open Go.RowKit Go.Maps Go.WideMaps
set_option maxHeartbeats 2000000
set_option maxRecDepth 100000
structure Tb (W w:World) (tb:List (List UInt8 × Nat)) (n:Nat):Prop where
 own:w.ownsMap Tryz.prog 9 (plainElem Tryz.prog 5) W.heap.size n (tbD tb)
 f:Fr [] W w
 s:w.heap.size=W.heap.size+1
theorem Tb.new (W:World):Tb W (W.alloc (.map #[] 0)) [] 0:=⟨World.ownsMap_made (H:=Nat) W Tryz.prog 9 (plainElem Tryz.prog 5),Fr.alloc _ _,by simp⟩
theorem Tb.map {W w:World} {tb:List (List UInt8 × Nat)} {n:Nat} (h:Tb W w tb n):MapF w W.heap.size tb:=⟨n,h.own⟩
theorem zAj {W w:World} {ops:Array Oper} {rest:List Oper} {o:Oper} {a:Act} {Q:Exit→Act→World→Prop} {tb:List (List UInt8 × Nat)} {n:Nat}
  (hT:Tb W w tb n) (hg:o.guard=none) (m x v:Operand) (hop:o.op=Op.insert 127 m x v)
  (hm:a.eval m=.map (some W.heap.size)) (hn:n < 100) (key:List UInt8) (hl:key.length≤16) (k:Nat) (hw:(Lit.int .u8 (k:Int)).wf=true) (hx:a.eval x=.string ⟨key.toArray⟩) (hv:a.eval v=.int .u8 k)
  (hK:∀w',Tb W w' ((key,k)::tb) (n+1)→wpList Tryz.prog ops Q rest (a.put o.dst undef) w') :
  wpList Tryz.prog ops Q (o::rest) a w:=by
 refine wpList_plain hg fun K' hK'=>?_
 have hkey:keyOf Tryz.prog 9 (.string ⟨key.toArray⟩)=some (.string key):=by
  have:=keyOf_string_mk (P:=Tryz.prog) Tryz.underlying9 (s:=⟨key.toArray⟩) (by rw [zCn];unfold maxLen;omega)
  simpa using this
 obtain⟨w',hrun,r1,r2⟩:=hT.own.store lawS Tryz.underlying127 (by unfold maxLen;omega) hkey (plainElem_int (H:=Nat) Tryz.underlying5 (a:=(k:Int)) hw)
 unfold Oper.wp
 simp [execOp,hop,hm,hx,hv,hrun,Result.andThen]
 refine hK' _ _ (hK w' ⟨r1,hT.f.trans (Fr.of_grown r2.grown) (fun j hj=>.inr (by simp at hj;omega)),?_⟩)
 obtain⟨es,cl,es',cl',_,rfl⟩:=r2
 simp [Go.ChangeMaps.setBlock,hT.s]
theorem zZq (R mb:Nat) (again:Bool) (next:FV) (nv:Value) (hnv:next.val=nv) (w:World) :
  Calls Tryz.prog 119 #[pt R,.map (some mb),.bool again,nv] w fun e w'=>∃v,e=.returned v∧(ahdV w.heap.size).val=v∧Fr [] w w'∧w'.heap.size=w.heap.size+4∧Ahd w' w.heap.size R mb again next:=by
 obtain⟨W,hW⟩:∃W,(((w.alloc (.cells #[pt R] 112)).alloc (.cells #[.map (some mb)] 127)).alloc (.cells #[.bool again] 4)).alloc (.cells #[next.val] 116)=W:=⟨_,rfl⟩
 have HW:Hid (Fr [] w W∧W.heap.size=w.heap.size+4∧Ahd W w.heap.size R mb again next):=oH (by
  rw [← hW]
  have F1:=Fr.alloc w (.cells #[pt R] 112)
  have F2:=Fr.alloc (w.alloc (.cells #[pt R] 112)) (.cells #[.map (some mb)] 127)
  have F3:=Fr.alloc ((w.alloc (.cells #[pt R] 112)).alloc (.cells #[.map (some mb)] 127)) (.cells #[.bool again] 4)
  have F4:=Fr.alloc (((w.alloc (.cells #[pt R] 112)).alloc (.cells #[.map (some mb)] 127)).alloc (.cells #[.bool again] 4)) (.cells #[next.val] 116)
  have v1:Var (w.alloc (.cells #[pt R] 112)) w.heap.size 112 (pt R):=heap_alloc_new _ _
  have v2:=heap_alloc_new (w.alloc (.cells #[pt R] 112)) (.cells #[.map (some mb)] 127)
  have v3:=heap_alloc_new ((w.alloc (.cells #[pt R] 112)).alloc (.cells #[.map (some mb)] 127)) (.cells #[.bool again] 4)
  have v4:=heap_alloc_new (((w.alloc (.cells #[pt R] 112)).alloc (.cells #[.map (some mb)] 127)).alloc (.cells #[.bool again] 4)) (.cells #[next.val] 116)
  simp only [World.size_alloc] at v2 v3 v4
  exact⟨((F1.trans F2 (by simp)).trans F3 (by simp)).trans F4 (by simp),by simp,((v1.keep F2 (by simp)).keep F3 (by simp)).keep F4 (by simp),(Var.keep (Var.keep v2 F3 (by simp)) F4 (by simp)),Var.keep v3 F4 (by simp),v4⟩)
 subst hnv
 obtain⟨nf,n1,n2⟩:=next
 simp only [pt,FV.val] at hW ⊢
 go_enter Tryz.func119,Tryz.ntmps119
 go_wp2_with fail
 go_ret
 exact⟨_,rfl,rfl,HW.out⟩
theorem zVt (R mb:Nat) (again:Bool) (first next:FV) (fv nv:Value) (hfv:first.val=fv) (hnv:next.val=nv) (w:World) :
  Calls Tryz.prog 121 #[pt R,.map (some mb),.bool again,fv,nv] w fun e w'=>∃v,e=.returned v∧(btwV w.heap.size).val=v∧Fr [] w w'∧w'.heap.size=w.heap.size+5∧Btw w' w.heap.size R mb again first next:=by
 obtain⟨W,hW⟩:∃W,((((w.alloc (.cells #[pt R] 112)).alloc (.cells #[.map (some mb)] 127)).alloc (.cells #[.bool again] 4)).alloc (.cells #[first.val] 116)).alloc (.cells #[next.val] 116)=W:=⟨_,rfl⟩
 have HW:Hid (Fr [] w W∧W.heap.size=w.heap.size+5∧Btw W w.heap.size R mb again first next):=oH (by
  rw [← hW]
  have F1:=Fr.alloc w (.cells #[pt R] 112)
  have F2:=Fr.alloc (w.alloc (.cells #[pt R] 112)) (.cells #[.map (some mb)] 127)
  have F3:=Fr.alloc ((w.alloc (.cells #[pt R] 112)).alloc (.cells #[.map (some mb)] 127)) (.cells #[.bool again] 4)
  have F4:=Fr.alloc (((w.alloc (.cells #[pt R] 112)).alloc (.cells #[.map (some mb)] 127)).alloc (.cells #[.bool again] 4)) (.cells #[first.val] 116)
  have F5:=Fr.alloc ((((w.alloc (.cells #[pt R] 112)).alloc (.cells #[.map (some mb)] 127)).alloc (.cells #[.bool again] 4)).alloc (.cells #[first.val] 116)) (.cells #[next.val] 116)
  have v1:Var (w.alloc (.cells #[pt R] 112)) w.heap.size 112 (pt R):=heap_alloc_new _ _
  have v2:=heap_alloc_new (w.alloc (.cells #[pt R] 112)) (.cells #[.map (some mb)] 127)
  have v3:=heap_alloc_new ((w.alloc (.cells #[pt R] 112)).alloc (.cells #[.map (some mb)] 127)) (.cells #[.bool again] 4)
  have v4:=heap_alloc_new (((w.alloc (.cells #[pt R] 112)).alloc (.cells #[.map (some mb)] 127)).alloc (.cells #[.bool again] 4)) (.cells #[first.val] 116)
  have v5:=heap_alloc_new ((((w.alloc (.cells #[pt R] 112)).alloc (.cells #[.map (some mb)] 127)).alloc (.cells #[.bool again] 4)).alloc (.cells #[first.val] 116)) (.cells #[next.val] 116)
  simp only [World.size_alloc] at v2 v3 v4 v5
  exact⟨(((F1.trans F2 (by simp)).trans F3 (by simp)).trans F4 (by simp)).trans F5 (by simp),by simp,(((v1.keep F2 (by simp)).keep F3 (by simp)).keep F4 (by simp)).keep F5 (by simp),(Var.keep (Var.keep (Var.keep v2 F3 (by simp)) F4 (by simp)) F5 (by simp)),Var.keep (Var.keep v3 F4 (by simp)) F5 (by simp),Var.keep v4 F5 (by simp),v5⟩)
 subst hnv
 subst hfv
 obtain⟨ff,f1,f2⟩:=first
 obtain⟨nf,n1,n2⟩:=next
 simp only [pt,FV.val] at hW ⊢
 go_enter Tryz.func121,Tryz.ntmps121
 go_wp2_with fail
 go_ret
 exact⟨_,rfl,rfl,HW.out⟩
theorem qCz (inner:FV) (iv:Value) (hiv:inner.val=iv) (w:World) :
  Calls Tryz.prog 118 #[iv] w fun e w'=>∃v,e=.returned v∧(aptV w.heap.size).val=v∧Fr [] w w'∧w'.heap.size=w.heap.size+1∧Var w' w.heap.size 116 inner.val:=by
 obtain⟨W,hW⟩:∃W,w.alloc (.cells #[inner.val] 116)=W:=⟨_,rfl⟩
 have HW:Hid (Fr [] w W∧W.heap.size=w.heap.size+1∧Var W w.heap.size 116 inner.val):=oH (by
  rw [← hW]
  exact⟨Fr.alloc _ _,by simp,heap_alloc_new _ _⟩)
 subst hiv
 obtain⟨nf,n1,n2⟩:=inner
 simp only [FV.val] at hW ⊢
 go_enter Tryz.func118,Tryz.ntmps118
 go_wp2_with fail
 go_ret
 exact⟨_,rfl,rfl,HW.out⟩
theorem Ahd.fr0 {w w':World} {s R mb:Nat} {again:Bool} {next:FV} (h:Ahd w s R mb again next) (F:Fr [] w w'):Ahd w' s R mb again next:=⟨h.r.keep F (by simp),h.o.keep F (by simp),h.a.keep F (by simp),h.n.keep F (by simp)⟩
theorem Btw.fr0 {w w':World} {s R mb:Nat} {again:Bool} {first next:FV} (h:Btw w s R mb again first next) (F:Fr [] w w'):Btw w' s R mb again first next:=⟨h.r.keep F (by simp),h.o.keep F (by simp),h.a.keep F (by simp),h.f.keep F (by simp),h.n.keep F (by simp)⟩
theorem zSd (R:Nat) (w:World) (hs:w.heap.size=R+1) :
  Calls Tryz.prog 110 #[pt R] w fun e w'=>e=.returned (exV R).val∧Fr [] w w'∧Env R w':=by
 have hmm:=@run_makeMap Tryz.prog
 have HS:=oH hs
 clear hs
 simp only [pt]
 go_enter Tryz.func110,Tryz.ntmps110
 have t0:=Tb.new w
 go_wp2_with (refine zAj t0 rfl _ _ _ rfl rfl (by omega) [61] (by decide) 5 (by decide) rfl rfl ?_)
 intro w1 t1
 clear t0
 go_wp2_with (refine zAj t1 rfl _ _ _ rfl rfl (by omega) [35] (by decide) 5 (by decide) rfl rfl ?_)
 intro w2 t2
 clear t1
 go_wp2_with (refine zAj t2 rfl _ _ _ rfl rfl (by omega) [60] (by decide) 5 (by decide) rfl rfl ?_)
 intro w3 t3
 clear t2
 go_wp2_with (refine zAj t3 rfl _ _ _ rfl rfl (by omega) [60,61] (by decide) 5 (by decide) rfl rfl ?_)
 intro w4 t4
 clear t3
 go_wp2_with (refine zAj t4 rfl _ _ _ rfl rfl (by omega) [62] (by decide) 5 (by decide) rfl rfl ?_)
 intro w5 t5
 clear t4
 go_wp2_with (refine zAj t5 rfl _ _ _ rfl rfl (by omega) [62,61] (by decide) 5 (by decide) rfl rfl ?_)
 intro w6 t6
 clear t5
 go_wp2_with (refine zAj t6 rfl _ _ _ rfl rfl (by omega) [73,78] (by decide) 6 (by decide) rfl rfl ?_)
 intro w7 t7
 clear t6
 have H1:=oH t7
 clear t7
 have t0:=Tb.new w7
 go_wp2_with (refine zAj t0 rfl _ _ _ rfl rfl (by omega) [43] (by decide) 5 (by decide) rfl rfl ?_)
 intro w8 t1
 clear t0
 go_wp2_with (refine zAj t1 rfl _ _ _ rfl rfl (by omega) [45] (by decide) 5 (by decide) rfl rfl ?_)
 intro w9 t2
 clear t1
 have H2:=oH t2
 clear t2
 have t0:=Tb.new w9
 go_wp2_with (refine zAj t0 rfl _ _ _ rfl rfl (by omega) [43] (by decide) 5 (by decide) rfl rfl ?_)
 intro w10 t1
 clear t0
 go_wp2_with (refine zAj t1 rfl _ _ _ rfl rfl (by omega) [45] (by decide) 5 (by decide) rfl rfl ?_)
 intro w11 t2
 clear t1
 go_wp2_with (refine zAj t2 rfl _ _ _ rfl rfl (by omega) [79,82] (by decide) 6 (by decide) rfl rfl ?_)
 intro w12 t3
 clear t2
 have H3:=oH t3
 clear t3
 have t0:=Tb.new w12
 go_wp2_with (refine zAj t0 rfl _ _ _ rfl rfl (by omega) [42] (by decide) 5 (by decide) rfl rfl ?_)
 intro w13 t1
 clear t0
 go_wp2_with (refine zAj t1 rfl _ _ _ rfl rfl (by omega) [47] (by decide) 5 (by decide) rfl rfl ?_)
 intro w14 t2
 clear t1
 go_wp2_with (refine zAj t2 rfl _ _ _ rfl rfl (by omega) [68,73,86] (by decide) 6 (by decide) rfl rfl ?_)
 intro w15 t3
 clear t2
 go_wp2_with (refine zAj t3 rfl _ _ _ rfl rfl (by omega) [77,79,68] (by decide) 6 (by decide) rfl rfl ?_)
 intro w16 t4
 clear t3
 go_wp2_with (refine zAj t4 rfl _ _ _ rfl rfl (by omega) [65,78,68] (by decide) 6 (by decide) rfl rfl ?_)
 intro w17 t5
 clear t4
 have H4:=oH t5
 clear t5
 have t0:=Tb.new w17
 go_wp2_with (refine zAj t0 rfl _ _ _ rfl rfl (by omega) [78,79,84] (by decide) 6 (by decide) rfl rfl ?_)
 intro w18 t1
 clear t0
 have H5:=oH t1
 clear t1
 have C:=zZq R w17.heap.size true (oprV R) _ rfl w18
 simp only [pt,FV.val,oprV] at C
 go_wp2_with fail
 refine C.mono ?_
 rintro e w19 ⟨v19,rfl,hv,hf⟩
 have q19:=oH hv
 have F19:=oH hf
 clear C hv hf
 have C:=qCz (ahdV w18.heap.size) v19 q19.out w19
 try simp only [pt] at C
 go_wp2_with fail
 refine C.mono ?_
 rintro e w20 ⟨v20,rfl,hv,hf⟩
 have q20:=oH hv
 have F20:=oH hf
 clear C hv hf
 have C:=zVt R w12.heap.size true (aptV w19.heap.size) (aptV w19.heap.size) v20 v20 q20.out q20.out w20
 try simp only [pt] at C
 go_wp2_with fail
 refine C.mono ?_
 rintro e w21 ⟨v21,rfl,hv,hf⟩
 have q21:=oH hv
 have F21:=oH hf
 clear C hv hf
 have C:=zZq R w7.heap.size false (btwV w20.heap.size) v21 q21.out w21
 try simp only [pt] at C
 go_wp2_with fail
 refine C.mono ?_
 rintro e w22 ⟨v22,rfl,hv,hf⟩
 have q22:=oH hv
 have F22:=oH hf
 clear C hv hf
 have C:=zVt R w9.heap.size true (ahdV w21.heap.size) (btwV w20.heap.size) v22 v21 q22.out q21.out w22
 try simp only [pt] at C
 go_wp2_with fail
 refine C.mono ?_
 rintro e w23 ⟨v23,rfl,hv,hf⟩
 have q23:=oH hv
 have F23:=oH hf
 clear C hv hf
 have C:=zVt R w.heap.size false (btwV w22.heap.size) (btwV w22.heap.size) v23 v23 q23.out q23.out w23
 try simp only [pt] at C
 go_wp2_with fail
 refine C.mono ?_
 rintro e w24 ⟨v24,rfl,hv,hf⟩
 have q24:=oH hv
 have F24:=oH hf
 clear C hv hf
 go_wp2_with fail
 go_ret
 have z0:=HS.out
 have z7:w7.heap.size=R+2:=by rw [H1.out.s,z0]
 have z9:w9.heap.size=R+3:=by rw [H2.out.s,z7]
 have z12:w12.heap.size=R+4:=by rw [H3.out.s,z9]
 have z17:w17.heap.size=R+5:=by rw [H4.out.s,z12]
 have z18:w18.heap.size=R+6:=by rw [H5.out.s,z17]
 have z19:w19.heap.size=R+10:=by rw [F19.out.2.1,z18]
 have z20:w20.heap.size=R+11:=by rw [F20.out.2.1,z19]
 have z21:w21.heap.size=R+16:=by rw [F21.out.2.1,z20]
 have z22:w22.heap.size=R+20:=by rw [F22.out.2.1,z21]
 have z23:w23.heap.size=R+25:=by rw [F23.out.2.1,z22]
 have g23:=F24.out.1
 have g22:=F23.out.1.trans g23 (by simp)
 have g21:=F22.out.1.trans g22 (by simp)
 have g20:=F21.out.1.trans g21 (by simp)
 have g19:=F20.out.1.trans g20 (by simp)
 have g18:=F19.out.1.trans g19 (by simp)
 have g17:=H5.out.f.trans g18 (by simp)
 have g12:=H4.out.f.trans g17 (by simp)
 have g9:=H3.out.f.trans g12 (by simp)
 have g7:=H2.out.f.trans g9 (by simp)
 have g0:=H1.out.f.trans g7 (by simp)
 have m1:=H1.out.map.keep g7 (by simp)
 have m2:=H2.out.map.keep g9 (by simp)
 have m3:=H3.out.map.keep g12 (by simp)
 have m4:=H4.out.map.keep g17 (by simp)
 have m5:=H5.out.map.keep g18 (by simp)
 have a1:=F19.out.2.2.fr0 g19
 have ap:=F20.out.2.2.keep g20 (by simp)
 have b1:=F21.out.2.2.fr0 g21
 have a2:=F22.out.2.2.fr0 g22
 have b2:=F23.out.2.2.fr0 g23
 have b3:=F24.out.2.2
 rw [z0] at m1 b3
 rw [z7] at m2 a2
 rw [z9] at m3 b2
 rw [z12] at m4 b1
 rw [z17] at m5 a1
 rw [z18] at a1 ap
 rw [z19] at ap b1
 rw [z20] at b1 a2 b2
 rw [z21] at a2 b2
 rw [z22] at b2 b3
 rw [z23] at b3
 have qe:=q24.out
 rw [z23] at qe
 exact⟨by rw [← qe];rfl,g0,m1,m2,m3,m4,m5,a1,ap,b1,a2,b2,b3⟩
end Go.Proofs.YtepfknfadpkigaaGreat
namespace Go.Proofs.YtepfknfadpkigaaGreat
open Go.RowKit
set_option maxHeartbeats 2000000
set_option maxRecDepth 100000
def Turn (P:Program) (c:Code) (Q:Exit→Act→World→Prop) (a:Act) (w:World):Prop:=∀b k cs,∃e a' w',Q e a' w'∧Arrives P (lone (b.at a (.code c::.inLoop c::k)) cs w) b k cs e a' w'
theorem Turn.step {P:Program} {c:Code} {Q:Exit→Act→World→Prop} {a:Act} {w:World} (h:c.wp P (Exit.then (fun a w=>Turn P c Q a w) Q) a w):Turn P c Q a w:=by
 intro b k cs
 obtain⟨e,a₁,w₁,hq,harr⟩:=h b (.inLoop c::k) cs
 cases e with
 | normal =>
  obtain⟨e₂,a₂,w₂,hq₂,harr₂⟩:=hq b k cs
  exact⟨e₂,a₂,w₂,hq₂,.of_steps (Steps.trans harr (.one step_inLoop)) harr₂⟩
 | exit id=>exact⟨_,a₁,w₁,hq,.pass (x:=.inLoop c) rfl (fun _ _=>.inl (by simp)) harr⟩
 | goto l=>exact⟨_,a₁,w₁,hq,.pass (x:=.inLoop c) rfl (fun _ _=>.inl (by simp)) harr⟩
 | ret=>exact⟨_,a₁,w₁,hq,.pass (x:=.inLoop c) rfl (fun _ _=>.inl (by simp)) harr⟩
 | panic ch=>exact⟨_,a₁,w₁,hq,.pass (x:=.inLoop c) rfl (fun _ _=>.inl (by simp)) harr⟩
 | outgrown=>exact⟨_,a₁,w₁,hq,.pass (x:=.inLoop c) rfl (fun _ _=>.inl (by simp)) harr⟩
theorem Turn.loop {P:Program} {c:Code} {Q:Exit→Act→World→Prop} {a:Act} {w:World} (h:Turn P c Q a w):(Code.loop c).wp P Q a w:=by
 intro b k cs
 obtain⟨e,a',w',hq,harr⟩:=h b k cs
 exact⟨e,a',w',hq,.of_steps (.one step_loop) harr⟩
theorem zVu (w:World):(binOp .neq 122 .nilFunc .nilFunc).run Tryz.prog w=.ok (.bool false) w:=by kernel_rfl
theorem zZr (f:FuncId) (a b:Array Value) (w:World):(binOp .neq 122 (.func (.func f) a b) .nilFunc).run Tryz.prog w=.ok (.bool true) w:=by kernel_rfl
theorem qDa:Enters 111:=⟨_,_,Tryz.func111,by kernel_rfl,rfl⟩
structure Rd (c:Cx) (w:World) (j:Nat):Prop where
 rd:w.heap[c.R]?=some (.cells #[c.rv,.int .i64 j,c.ev] 118 (0,0))
 h:Below c.B c.W0 w
theorem RX.out {c:Cx} {w:World} {j:Nat} (h:RX c w j):Rd c w j:=⟨h.rd,h.hist⟩
theorem Rd.fc {c:Cx} {w w':World} {j:Nat} {N:List Nat} (h:Rd c w j) (F:Fc c.B N w w') (hN:c.R ∉ N):Rd c w' j:=⟨F.block _ _ h.rd rfl hN,h.h.trans F.bel⟩
def Told (c:Cx) (B X:Nat) (res:Re) (w:World):Prop:=(∃d j u,res=.ok d j∧Rd c w j∧Var w X 26 (ptrV u.p)∧IsT w (B≤·) u∧u.dt=d)∨∃j,res=.bad j∧Rd c w j∧Var w X 26 (.pointer none)
theorem zZs (c:Cx) (X j:Nat) (u:Tr) (v:Value) (d:DT) (w:World) (hX:RX c w j) (hR:c.R < X) (hv:Var w X 26 v) (hu:IsT w (X+1≤·) u) (hd:u.dt=d) :
  Calls Tryz.prog 111 #[ptrV u.p,pt X] w (GP c.B (Told c (X+1) X (.ok d j)) w):=by
 have cx:=hv.c
 have fx:=hv.f
 have H:=oH (oA hX (oA hv hu))
 clear hX hv hu
 simp only [ptrV,pt]
 go_enter Tryz.func111,Tryz.ntmps111
 go_wp2_with fail
 go_ret
 obtain⟨hX,hv,hu⟩:=H.out
 have F:=Fr.set w X 0 (ptrV u.p)
 have hB:=c.hBR
 have FC:Fc c.B [X] w (w.setCell ⟨X,0,none⟩ (ptrV u.p)):=Fc.of_fr F (by simp;omega) hX.hB
 have X1:=hX.out.fc FC (by simp;omega)
 refine zEx (Kn.of_fr F (fun q hq o ho=>?_)) (fun w2 h2=>.inl ⟨d,j,u,rfl,X1.fc h2 (by simp),(hv.set _).fc h2 (by simp),?_,hd⟩)
 ·obtain rfl:q=X:=by simpa using hq
  rw [show w.heap[q]?=_ from hv] at ho;cases ho;rfl
 ·exact(hu.keep (fun q hq _=>hq) (fun q hq hl=>F.block q hl (by simp;have:X+1≤q:=hq;omega))).fc h2 (by simp)
theorem zHw (c:Cx) (L:FV) (G:Nat→Re) (hL:Lev c L G) (w:World) (i:Nat) (hX:RX c w i) (hne:G i≠.out) :
  Calls Tryz.prog 104 #[pt c.R,L.val] w fun e w'=>Below c.B c.W0 w' ∧
   ((∃d j u,G i=.ok d j∧e=.returned (.tuple #[ptrV u.p,.int .i64 j,.int .i64 0])∧IsT w' (c.B≤·) u∧u.dt=d)∨∃j:Nat,G i=.bad j∧e=.returned (.tuple #[.pointer none,.int .i64 j,.int .i64 60])):=by
 obtain⟨w1,hw1⟩:∃w1,w.alloc (.cells #[.pointer none] 26)=w1:=⟨_,rfl⟩
 have F1:Fr [] w w1:=by rw [← hw1];exact Fr.alloc _ _
 have v1:Var w1 w.heap.size 26 (.pointer none):=by rw [← hw1];exact heap_alloc_new _ _
 have s1:w1.heap.size=w.heap.size+1:=by rw [← hw1];simp
 have X1:=hX.keep F1
 have c1:=X1.c1
 have hi0:¬((i:Int) < 0):=by omega
 have hlt:=hX.lt
 have hgo:Goes c.B L (FV.val ⟨111,#[],#[pt w.heap.size]⟩) w1 (Told c (w.heap.size+1) w.heap.size (G i)):=by
  refine hL w1 i _ _ (w.heap.size+1) X1 (by omega) (by omega) ⟨fun d j e u w2 F2 X2 hu hd=>⟨qDa,?_⟩,fun j e w2 F2 X2=>.inr ⟨j,e,X2.out,v1.stay X1 F2⟩,hne⟩
  rw [e]
  exact zZs c w.heap.size j u _ d w2 X2 hlt (v1.stay X1 F2) hu hd
 obtain⟨hE,hC⟩:=hgo
 have hRn:=zAe hE
 have HB:=oH (oA c.hBR hlt)
 clear hE F1 v1 X1 hX hL hne
 simp only [FV.val,pt] at hC
 obtain⟨lf,l1,l2⟩:=L
 simp only [pt]
 go_enter Tryz.func104,Tryz.ntmps104
 go_wp2_with fail
 refine hC.mono ?_
 rintro e w2 ⟨s,rfl,hk2,hr⟩
 have hruns:=oH (hr w2 (Fc.refl _ _ _))
 clear hC hr hk2
 go_wp2_with fail
 have hnn:=fun w=>zVu w
 have hnf:=fun f a b w=>zZr f a b w
 refine Turn.loop ?_
 clear hlt
 refine hruns.out (fun s' w'=>∀u16 u17 u18 u19,Turn _ _ _ { tmps:=#[.pointer (some ⟨c.R,0,none⟩),(FV.mk lf l1 l2).val,undef,undef,.pointer (some ⟨w.heap.size,0,none⟩),.int .i64 0,.int .i64 0,s',.pointer (some ⟨c.R,0,none⟩),.pointer (some ⟨c.R,0,none⟩),.pointer (some ⟨c.R,1,none⟩),.int .i64 i,.bool false,(FV.mk lf l1 l2).val,.func (.func 111) #[] #[.pointer (some ⟨w.heap.size,0,none⟩)],s,u16,u17,u18,u19,undef,undef,undef,undef,undef,undef,undef,undef,undef,undef,undef],defers:=[] } w') ?nil ?func undef undef undef undef
 case nil =>
  intro w' hP u16 u17 u18 u19
  refine Turn.step ?_
  clear hruns
  rcases hP with⟨d,j,u,hres,hrd,hv,hu,hd⟩ | ⟨j,hres,hrd,hv⟩
  ·have cj:w'.cell? ⟨c.R,1,none⟩=some (.int .i64 j):=by rw [Lib.cell_of_heap hrd.rd];rfl
   have cx:=hv.c
   have fx:=hv.f
   have H:=oH (oA hres (oA hrd (oA hu (oA hd hv))))
   clear hres hrd hu hd hv
   simp only [ptrV] at cx
   go_wp2_with fail
   go_region
   obtain⟨w4,hw4⟩:∃w4,(w'.setCell ⟨w.heap.size,0,none⟩ (.pointer (some ⟨u.p,0,none⟩))).drew=w4:=⟨_,rfl⟩
   rw [hw4]
   have H4:Hid (Fr [w.heap.size] w' w4):=oH (by rw [← hw4];exact(Fr.set w' w.heap.size 0 (ptrV u.p)).trans (Fr.drew _) (by simp))
   have c4:w4.cell? ⟨w.heap.size,0,none⟩=some (.pointer (some ⟨u.p,0,none⟩)):=by rw [← hw4];exact(H.out.2.2.2.2.set (ptrV u.p)).c
   clear cj cx fx hw4
   go_wp2_with fail
   refine bodyPost_ret (v:=.tuple #[.pointer (some ⟨u.p,0,none⟩),.int .i64 j,.int .i64 0]) (by simp [results,Tryz.results104,go_sem,c4]) rfl ?_
   obtain⟨hres,hrd,hu,hd,hv⟩:=H.out
   refine⟨hrd.h.trans (H4.out.below c.B (by simp;have:=HB.out.1;have:=HB.out.2;omega) ?_),.inl ⟨d,j,u,hres,rfl,hu.keep (fun q hq _=>?_) (fun q hq hl=>H4.out.block q hl ?_),hd⟩⟩
   ·have:=zAd hrd.rd;have:=HB.out.1;omega
   ·have:=HB.out.1;have:=HB.out.2;have:w.heap.size+1≤q:=hq;omega
   ·simp;have:w.heap.size+1≤q:=hq;omega
  ·have cj:w'.cell? ⟨c.R,1,none⟩=some (.int .i64 j):=by rw [Lib.cell_of_heap hrd.rd];rfl
   have cx:=hv.c
   have fx:=hv.f
   have H:=oH (oA hres (oA hrd hv))
   clear hres hrd hv
   go_wp2_with fail
   go_region
   obtain⟨w4,hw4⟩:∃w4,(w'.setCell ⟨w.heap.size,0,none⟩ (.pointer none)).drew=w4:=⟨_,rfl⟩
   rw [hw4]
   have H4:Hid (Fr [w.heap.size] w' w4):=oH (by rw [← hw4];exact(Fr.set w' w.heap.size 0 (.pointer none)).trans (Fr.drew _) (by simp))
   have c4:w4.cell? ⟨w.heap.size,0,none⟩=some (.pointer none):=by rw [← hw4];exact(H.out.2.2.set (.pointer none)).c
   clear cj cx fx hw4
   go_wp2_with fail
   refine bodyPost_ret (v:=.tuple #[.pointer none,.int .i64 j,.int .i64 60]) (by simp [results,Tryz.results104,go_sem,c4]) rfl ?_
   obtain⟨hres,hrd,hv⟩:=H.out
   refine⟨hrd.h.trans (H4.out.below c.B (by simp;have:=HB.out.1;have:=HB.out.2;omega) ?_),.inr ⟨j,hres,rfl⟩⟩
   have:=zAd hrd.rd;have:=HB.out.1;omega
 case func =>
  intro f first caps w' hE hC u16 u17 u18 u19
  have hRn2:=zAe hE
  refine Turn.step ?_
  clear hE hruns
  go_wp2_with fail
  refine hC.mono ?_
  rintro e w3 ⟨s',rfl,hK⟩
  have HK:=oH hK
  clear hC hK
  go_wp2_with fail
  exact HK.out _ _ _ _
end Go.Proofs.YtepfknfadpkigaaGreat
end
