/- Several texts in one. -/
import Derived.Test.YtepfknfadpkigaaGreatPkAA
import Derived.Deep.RegionHeld
import Derived.Test.YtepfknfadpkigaaGreatPkAU
import Derived.Deep.RegionHeld3
set_option linter.unusedVariables false
set_option linter.unusedSimpArgs false
section
namespace Go.Proofs.YtepfknfadpkigaaGreat
open Go
section
variable {P:Program} {ops:Array Oper} {Q:Exit→Act→World→Prop} {md:Region.Mode} {S:World→Prop} {L:Nat}
def AnyL (P:Program) (md:Region.Mode) (ops:Array Oper) (Q:Exit→Act→World→Prop) (S:World→Prop) (L:Nat):Nat→Array Bool→Act→World→Prop
 | 0,listed,a,w=>Region.ready md ops listed=[]∧Q .normal a w
 | n+1,listed,a,w =>
  (Region.ready md ops listed=[]→Q .normal a w) ∧
  ∀i ∈ Region.ready md ops listed,wpOp P ops Q i (fun a' w'=>((listed.setIfInBounds i true).getD L false=false→S w')∧AnyL P md ops Q S L n (listed.setIfInBounds i true) a' w') a w
theorem zLv:∀(n:Nat) (listed:Array Bool) (a:Act) (w:World),AnyL P md ops Q S L n listed a w→wpAny P md ops Q n listed a w
 | 0,_,_,_,h=>h
 | n+1,_,_,_,h=>⟨h.1,fun i hi=>wpOp_mono (fun a' w' h'=>zLv n _ a' w' h'.2) (h.2 i hi)⟩
def Shutd (md:Region.Mode) (ops:Array Oper) (listed:Array Bool):Prop :=
 ∀(j:Nat) (o:Oper),ops[j]?=some o→listed.getD j false=true→∀e ∈ o.after,Region.binds md e=true→listed.getD e.on false=true
theorem zHz {listed:Array Bool} {i j:Nat} (h:(listed.setIfInBounds i true).getD j false=true):j=i∨listed.getD j false=true:=by
 by_cases hij:i=j
 ·exact .inl hij.symm
 ·rw [getD_set_ne false hij] at h
  exact .inr h
theorem Shutd.next {listed:Array Bool} {i:Nat} (h:Shutd md ops listed) (hi:i ∈ Region.ready md ops listed):Shutd md ops (listed.setIfInBounds i true):=by
 obtain⟨_,o,ho,hall⟩:=mem_ready.1 hi
 intro j oj hoj hj e he hb
 rcases zHz hj with rfl | hj
 ·rw [ho] at hoj
  injection hoj with hoj
  subst hoj
  exact getD_set_true (hall e he hb)
 ·exact getD_set_true (h j oj hoj hj e he hb)
def shutB (md:Region.Mode) (ops:Array Oper) (listed:Array Bool):Bool :=
 (List.range ops.size).all fun j=>!listed.getD j false||match ops[j]? with
  | some o=>o.after.all fun e=>!Region.binds md e||listed.getD e.on false
  | none=>true
theorem zNd {listed:Array Bool} (h:shutB md ops listed=true):Shutd md ops listed:=by
 intro j o ho hj e he hb
 simp only [shutB,List.all_eq_true,List.mem_range] at h
 have h1:=h j (Array.getElem?_eq_some_iff.1 ho).1
 rw [hj,ho] at h1
 simp only [Bool.not_true,Bool.false_or,Array.all_eq_true',List.all_eq_true] at h1
 have h2:=h1 e he
 rw [hb] at h2
 simpa using h2
def waits (md:Region.Mode) (ops:Array Oper) (i:Nat):Nat→Nat→Bool
 | 0,j=>j == i
 | n+1,j=>j == i||match ops[j]? with
  | some o=>o.after.any fun e=>Region.binds md e&&waits md ops i n e.on
  | none=>false
theorem zHa {listed:Array Bool} (hc:Shutd md ops listed) {i:Nat}:∀(n j:Nat),waits md ops i n j=true→listed.getD j false=true→listed.getD i false=true
 | 0,j,h,hj=>by
  have h:j=i:=by simpa [waits] using h
  rw [← h];exact hj
 | n+1,j,h,hj=>by
  simp only [waits,Bool.or_eq_true,beq_iff_eq] at h
  rcases h with h | h
  ·rw [← h];exact hj
  ·cases ho:ops[j]? with
   | none=>rw [ho] at h;cases h
   | some o =>
    rw [ho] at h
    simp only [Array.any_eq_true',List.any_eq_true,Bool.and_eq_true] at h
    obtain⟨e,he,hb,hw⟩:=h
    exact zHa hc n e.on hw (hc j o ho hj e he hb)
theorem unl {listed:Array Bool} {i:Nat} (h:listed.getD i true=false):listed.getD i false=false:=by
 simp only [Array.getD_eq_getD_getElem?] at *
 cases hx:listed[i]? with
 | none=>simp
 | some b=>rw [hx] at h;simpa using h
theorem zNe {i:Nat} {oi:Oper} {v:Value} (hi:ops[i]?=some oi) (hsel:∀(j:Nat) (o:Oper) cs b,ops[j]?=some o→o.op≠.select cs b)
  (hQ:∀c a w,Q (.panic c) (a.put oi.dst v) w→Q (.panic c) a w) (hiL:i≠L) {k:Nat} (hw:waits md ops i k L=true) :
  ∀(n:Nat) (listed:Array Bool) (a:Act) (w:World),
   (∀j oj,ops[j]?=some oj→j≠i→listed.getD j true=false→(∀e ∈ oj.after,Region.binds md e=true→e.on≠i)→oi.apart ops oj=true) →
   Shutd md ops listed→i ∈ Region.ready md ops listed→YieldsIf P ops S oi v a→S w →
   AnyL P md ops Q S L n (listed.setIfInBounds i true) (a.put oi.dst v) w→AnyL P md ops Q S L (n+1) listed a w:=by
 intro n
 induction n with
 | zero =>
  intro listed a w _ _ hr hy hS H
  refine⟨fun h=>(by rw [h] at hr;cases hr),fun j hj=>?_⟩
  by_cases hji:j=i
  ·subst hji;exact hy.wpOp hi hS ⟨fun _=>hS,H⟩
  ·have:=ready_mono hj hji
   rw [H.1] at this
   cases this
 | succ n ih =>
  intro listed a w hfree hc hr hy hS H
  refine⟨fun h=>(by rw [h] at hr;cases hr),fun j hj=>?_⟩
  by_cases hji:j=i
  ·subst hji;exact hy.wpOp hi hS ⟨fun _=>hS,H⟩
  ·have h1:=H.2 j (ready_mono hj hji)
   obtain⟨hjun,oj,hoj,hall⟩:=mem_ready.1 hj
   have hnot:∀e ∈ oj.after,Region.binds md e=true→e.on≠i:=fun e he hb heq=>by
    have h2:=hall e he hb
    rw [heq,unl (mem_ready.1 hr).1] at h2
    cases h2
   have h2:=wpOp_putIf hoj (hfree j oj hoj hji hjun hnot) (fun cs b=>hsel i oi cs b hi) (fun cs b=>hsel j oj cs b hoj) hQ hy h1
   have hfree':∀k ok,ops[k]?=some ok→k≠i→(listed.setIfInBounds j true).getD k true=false →
     (∀e ∈ ok.after,Region.binds md e=true→e.on≠i)→oi.apart ops ok=true:=fun k ok hk hki hun hno=>by
    refine hfree k ok hk hki ?_ hno
    by_cases hjk:j=k
    ·subst hjk;exact hjun
    ·rw [getD_set_ne true hjk] at hun;exact hun
   have hr':i ∈ Region.ready md ops (listed.setIfInBounds j true):=ready_mono hr (Ne.symm hji)
   have hc':=hc.next hj
   have hL:(listed.setIfInBounds j true).getD L false=false:=by
    cases hx:(listed.setIfInBounds j true).getD L false
    ·rfl
    ·have h3:=zHa hc' k L hw hx
     rw [unl (mem_ready.1 hr').1] at h3
     cases h3
   refine wpOp_mono (fun a' w' h3=>?_) h2
   have hS':S w':=h3.2.1 (by rw [Array.setIfInBounds_comm _ _ (Ne.symm hji),getD_set_ne false hiL];exact hL)
   refine⟨fun _=>hS',ih (listed.setIfInBounds j true) a' w' hfree' hc' hr' h3.1 hS' ?_⟩
   rw [Array.setIfInBounds_comm _ _ hji]
   exact h3.2.2
theorem zAh {i:Nat} {oi:Oper} {v:Value} {n k:Nat} {listed:Array Bool} {a:Act} {w:World} (hi:ops[i]?=some oi)
  (hs:Region.noSelect ops=true) (hf:Region.free md ops listed i=true) (hr:(Region.ready md ops listed).contains i=true) (hw:(waits md ops i k L&&shutB md ops listed&&(i != L))=true)
  (hQ:∀c a w,Q (.panic c) (a.put oi.dst v) w→Q (.panic c) a w) (hy:YieldsIf P ops S oi v a) (hS:S w)
  (h:AnyL P md ops Q S L n (listed.setIfInBounds i true) (a.put oi.dst v) w):AnyL P md ops Q S L (n+1) listed a w:=by
 simp only [Bool.and_eq_true,bne_iff_ne] at hw
 exact zNe hi (Region.noSelect_spec hs) hQ hw.2 hw.1.1 n listed a w (Region.free_spec hi hf) (zNd hw.1.2) (by simpa using hr) hy hS h
theorem zAl {listed:Array Bool} {a:Act} {w:World} (hr:Region.ready md ops listed=[]) (h:Q .normal a w):∀n,AnyL P md ops Q S L n listed a w
 | 0=>⟨hr,h⟩
 | _+1=>⟨fun _=>h,by rw [hr];simp⟩
def AllL (P:Program) (md:Region.Mode) (ops:Array Oper) (Q:Exit→Act→World→Prop) (S:World→Prop) (L n:Nat) (listed:Array Bool) (a:Act) (w:World) (rs:List Nat):Prop :=
 ∀i ∈ rs,wpOp P ops Q i (fun a' w'=>((listed.setIfInBounds i true).getD L false=false→S w')∧AnyL P md ops Q S L n (listed.setIfInBounds i true) a' w') a w
theorem AllL.nil {n:Nat} {listed:Array Bool} {a:Act} {w:World}:AllL P md ops Q S L n listed a w []:=fun _ h=>by cases h
theorem AllL.cons {n:Nat} {listed:Array Bool} {a:Act} {w:World} {i:Nat} {o:Oper} {rs:List Nat} (ho:ops[i]?=some o)
  (h:∀K':Act→World→Prop,Shut (∀a w,S w→(S w→AnyL P md ops Q S L n (listed.setIfInBounds i true) a w)→K' a w)→if Region.wanted o (yielded ops a.tmps)=true then Oper.wp P o a w K' Q else K' (a.put o.dst undef) w)
  (hs:AllL P md ops Q S L n listed a w rs):AllL P md ops Q S L n listed a w (i::rs):=fun j hj=>by
 rcases List.mem_cons.1 hj with rfl | hj
 ·exact wpOp_step ho (fun K' hK=>h K' (fun a w hS hW=>hK a w ⟨fun _=>hS,hW hS⟩))
 ·exact hs j hj
theorem AllL.last {n:Nat} {listed:Array Bool} {a:Act} {w:World} {i:Nat} {o:Oper} {rs:List Nat} (ho:ops[i]?=some o) (hl:(listed.setIfInBounds i true).getD L false=true)
  (h:∀K':Act→World→Prop,Shut (∀a w,AnyL P md ops Q S L n (listed.setIfInBounds i true) a w→K' a w)→if Region.wanted o (yielded ops a.tmps)=true then Oper.wp P o a w K' Q else K' (a.put o.dst undef) w)
  (hs:AllL P md ops Q S L n listed a w rs):AllL P md ops Q S L n listed a w (i::rs):=fun j hj=>by
 rcases List.mem_cons.1 hj with rfl | hj
 ·exact wpOp_step ho (fun K' hK=>h K' (fun a w hW=>hK a w ⟨fun hx=>(by rw [hl] at hx;cases hx),hW⟩))
 ·exact hs j hj
theorem zAa {rs:List Nat} {n:Nat} {listed:Array Bool} {a:Act} {w:World} (hr:Region.ready md ops listed=rs) (hne:rs≠[])
  (h:AllL P md ops Q S L n listed a w rs):AnyL P md ops Q S L (n+1) listed a w :=
 ⟨fun h0=>absurd (hr ▸ h0) hne,hr ▸ h⟩
theorem zAp (L:Nat) {id:Nat} {a:Act} {w:World} (hm:P.follows .mixedOrders=true) (hS:S w.drew)
  (h:S w.drew→AnyL P .any ops Q S L ops.size (Array.replicate ops.size false) a w.drew):(Code.region id ops true).wp P Q a w :=
 wp_region_any hm (zLv _ _ _ _ (h hS))
end
end Go.Proofs.YtepfknfadpkigaaGreat
namespace Go.Proofs.YtepfknfadpkigaaGreat
open Go.RowKit
set_option maxHeartbeats 2000000
set_option maxRecDepth 100000
theorem zEi {w:World} {g n cap:Nat} {us:List Tr} (h:w.ownsRow 0 26 1 (.slice (some ⟨g,0,none⟩) n cap) n (us.map fun t=>ptrV t.p)) (hn:us.length=n):ArgL w (.slice (some ⟨g,0,none⟩) n cap) (us.map some):=by
 refine zDc (os:=us.map some) ?_ (by simpa using hn)
 have e:(us.map some).map (fun o=>encP (o.map Tr.p))=us.map fun t=>ptrV t.p:=by rw [List.map_map];rfl
 rw [e]
 exact h
theorem LsS.argL {w:World} {b:Nat} {v:Value} {us:List Tr} (h:LsS w b v us):ArgL w v (us.map some):=by
 cases us with
 | nil=>rw [h.nil rfl];exact zIx w
 | cons t r =>
  have hr:=h.row
  rcases hr.2 with⟨h1,h2⟩ | ⟨g,cap,cur,e1,e2,e3,e4,e5,e6,e7⟩
  ·simp at h2
  ·rw [e1] at hr ⊢
   exact zEi hr rfl
theorem LsS.keep {w w':World} {b:Nat} {v:Value} {us:List Tr} (h:LsS w b v us) (F:Fr [] w w'):LsS w' b v us :=
 ⟨zAf h.row F (by simp),fun t ht=>zAk (h.t t ht) F (by simp),h.le,h.nil,h.far⟩
theorem zEj (us:List Tr):(us.map some).map (fun o=>(o.map Tr.dt).getD dt0)=us.map Tr.dt:=by rw [List.map_map];rfl
theorem qDc (v:Value) (us:List Tr) (t:TK) (done:FV) (Post:World→Prop) (w:World) (bd bp b:Nat) (hd:Var w bd 76 done.val) (hbp:Var w bp 37 (posV t.2.1.1 t.2.1.2)) (hl:LsS w b v us) (hb:b≤w.heap.size)
  (hG:∀u w',Fr [] w w'→IsT w' (b≤·) u→u.dt=.node (nd 46 t [] 0) (us.map Tr.dt)→GoQ done (ptrV u.p) w' Post):Calls Tryz.prog 30 #[v,pt bd,pt bp] w (GQ Post):=by
 obtain⟨px,py,e1⟩:=zAc t.2.1.1 t.2.1.2
 obtain⟨dv,hdv⟩:∃dv,done.val=dv:=⟨_,rfl⟩
 rw [e1] at hbp
 have cd:=hd.c
 have cp:=hbp.c
 have HN:∀w1:World,Fr [] w w1→Calls Tryz.prog 31 #[.int .u8 46,.complex .f64 px py,.string ⟨#[]⟩,.int .i64 0,v] w1 fun e w'=>∃u:Tr,e=.returned (.pointer (some ⟨u.p,0,none⟩))∧Fr [] w w'∧IsT w' (b≤·) u∧u.dt=.node (nd 46 t [] 0) (us.map Tr.dt):=fun w1 F1=>by
  refine(zBj w1 (nd 46 t [] 0) _ (us.map some) b (hl.keep F1).argL (by rw [List.length_map];have:=hl.le;omega) (fun z hz=>by obtain⟨z2,hz2,e⟩:=List.mem_map.1 hz;injection e with e;subst e;exact zAk (hl.t _ hz2) F1 (by simp)) (Nat.le_trans hb (F1).size) (by simp [nd]) _ e1 ⟨#[]⟩ rfl 46 rfl 0 rfl _ (zEj us)).mono ?_
  rintro e w' ⟨u,rfl,F2,h3,h4⟩
  exact⟨u,rfl,(F1).on F2,h3,h4⟩
 have HSS:∀w':World,Fr [] w w'→(w'.cell? ⟨bd,0,none⟩=some done.val∧w'.cell? ⟨bp,0,none⟩=some (.complex .f64 px py)):=fun w' F=>⟨(hd.keep F (by simp)).c,(hbp.keep F (by simp)).c⟩
 have HG:=oH hG
 have F0:Fr [] w w.drew:=Fr.drew w
 skip
 obtain⟨qv,nv,cv,hvv⟩:∃q n cap,v=.slice q n cap:=by rcases hl.row.2 with⟨h1,_⟩ | ⟨g,cap,cur,e,_⟩;(· exact⟨none,0,0,h1⟩);(· exact⟨_,_,_,e⟩)
 clear hd hbp hG hb hdv e1 hl
 subst hvv
 obtain⟨df,d1,d2⟩:=done
 simp only [ptrV,pt,FV.val] at cd HG HSS ⊢
 skip
 go_enter Tryz.func30,Tryz.ntmps30
 go_wp2_with fail
 refine zAp 4 (S:=fun w'=>w'.cell? ⟨bd,0,none⟩=some (.func (.func df) d1 d2)∧w'.cell? ⟨bp,0,none⟩=some (.complex .f64 px py)) (by kernel_rfl) ?_ (fun hHeld=>?_)
 ·exact HSS _ (Fr.drew w)
 refine zAh (k:=12) (i:=0) (v:=?_) rfl (by kernel_rfl) (by kernel_rfl) (by kernel_rfl) (by kernel_rfl) (fun _ _ _ h=>h) (Or.inl ⟨by rfl,?_⟩) (by assumption) ?_
 rotate_left
 ·intro w hSw;(try dsimp only at hSw);(try obtain⟨h1,h2⟩:=hSw);go_simp;try with_reducible rfl
 simp only[Act.put,oB,oC,oD,oE,oF,oG]
 refine zAh (k:=12) (i:=1) (v:=?_) rfl (by kernel_rfl) (by kernel_rfl) (by kernel_rfl) (by kernel_rfl) (fun _ _ _ h=>h) (Or.inl ⟨by rfl,?_⟩) (by assumption) ?_
 rotate_left
 ·intro w hSw;(try dsimp only at hSw);(try obtain⟨h1,h2⟩:=hSw);go_simp;try with_reducible rfl
 simp only[Act.put,oB,oC,oD,oE,oF,oG]
 refine zAh (k:=12) (i:=2) (v:=?_) rfl (by kernel_rfl) (by kernel_rfl) (by kernel_rfl) (by kernel_rfl) (fun _ _ _ h=>h) (Or.inl ⟨by rfl,?_⟩) (by assumption) ?_
 rotate_left
 ·intro w hSw;(try dsimp only at hSw);(try obtain⟨h1,h2⟩:=hSw);go_simp;try with_reducible rfl
 simp only[Act.put,oB,oC,oD,oE,oF,oG]
 refine zAa (rs:=[3]) (by kernel_rfl) (by simp) ?_
 refine AllL.cons rfl (fun K hK=>?_) ?_
 rotate_left
 ·exact AllL.nil
 go_simp
 refine(HN _ (Fr.drew w)).mono ?_
 rintro e w9 ⟨u,rfl,F9,hu,hud⟩
 have H9:=HSS w9 F9
 obtain⟨hE,hC⟩:=HG.out u w9 F9 hu hud
 have hR2:=zAe hE
 clear hE hu hud F9 HN
 go_wp2_with fail
 refine hK.out _ _ (H9) (fun hHeld=>?_)
 clear hK K
 try simp only[Act.put,oB,oC,oD,oE,oF,oG]
 refine zAa (rs:=[4]) (by kernel_rfl) (by simp) ?_
 refine AllL.last rfl (by kernel_rfl) (fun K hK=>?_) ?_
 rotate_left
 ·exact AllL.nil
 go_simp
 refine hC.mono ?_
 rintro e w10 ⟨s,rfl,hr⟩
 have HRS:=oH hr
 clear hr hC HG HSS H9
 go_wp2_with fail
 refine hK.out _ _ ?_
 clear hK K
 try simp only[Act.put,oB,oC,oD,oE,oF,oG]
 refine zAa (rs:=[5]) (by kernel_rfl) (by simp) ?_
 refine AllL.last rfl (by kernel_rfl) (fun K hK=>?_) ?_
 rotate_left
 ·exact AllL.nil
 go_simp
 refine hK.out _ _ ?_
 clear hK K
 try simp only[Act.put,oB,oC,oD,oE,oF,oG]
 refine zAl (by kernel_rfl) ?_ _
 go_wp2_with fail
 go_ret
 exact⟨s,rfl,HRS.out⟩
theorem whi1 (x y:Tr) (t:TK) (done:FV) (Post:World→Prop) (w:World) (bd bp bx b:Nat) (hd:Var w bd 76 done.val) (hbp:Var w bp 37 (posV t.2.1.1 t.2.1.2)) (hbx:Var w bx 26 (ptrV x.p)) (hx:IsT w (b≤·) x) (hy:IsT w (b≤·) y) (hb:b≤w.heap.size)
  (hG:∀u w',Fr [] w w'→IsT w' (b≤·) u→u.dt=.node (nd 64 t [] 0) [x.dt,y.dt]→GoQ done (ptrV u.p) w' Post):Calls Tryz.prog 85 #[ptrV y.p,pt bd,pt bp,pt bx] w (GQ Post):=by
 obtain⟨px,py,e1⟩:=zAc t.2.1.1 t.2.1.2
 obtain⟨dv,hdv⟩:∃dv,done.val=dv:=⟨_,rfl⟩
 rw [e1] at hbp
 have cd:=hd.c
 have cp:=hbp.c
 have cx:=hbx.c
 have HN:∀w1:World,Fr [] w w1→Calls Tryz.prog 31 #[.int .u8 64,.complex .f64 px py,.string ⟨#[]⟩,.int .i64 0,.slice (some ⟨w1.heap.size,0,none⟩) 2 2] (w1.alloc (.cells #[.pointer (some ⟨x.p,0,none⟩),.pointer (some ⟨y.p,0,none⟩)] 26)) fun e w'=>∃u:Tr,e=.returned (.pointer (some ⟨u.p,0,none⟩))∧Fr [] w w'∧IsT w' (b≤·) u∧u.dt=.node (nd 64 t [] 0) [x.dt,y.dt]:=fun w1 F1=>by
  refine(zBj (w1.alloc (.cells #[.pointer (some ⟨x.p,0,none⟩),.pointer (some ⟨y.p,0,none⟩)] 26)) (nd 64 t [] 0) _ [some x,some y] b (zIz w1 x y) (by simp) (fun z hz=>by
   have hz:z=x∨z=y:=by simpa using hz
   rcases hz with rfl | rfl
   ·exact zAk hx (F1.on (Fr.alloc w1 _)) (by simp)
   ·exact zAk hy (F1.on (Fr.alloc w1 _)) (by simp)) (Nat.le_trans hb ((F1.on (Fr.alloc w1 _))).size) (by simp [nd]) _ e1 ⟨#[]⟩ rfl 64 rfl 0 rfl _ rfl).mono ?_
  rintro e w' ⟨u,rfl,F2,h3,h4⟩
  exact⟨u,rfl,((F1.on (Fr.alloc w1 _))).on F2,h3,h4⟩
 have HSS:∀w':World,Fr [] w w'→(w'.cell? ⟨bd,0,none⟩=some done.val∧w'.cell? ⟨bp,0,none⟩=some (.complex .f64 px py)∧w'.cell? ⟨bx,0,none⟩=some (.pointer (some ⟨x.p,0,none⟩))):=fun w' F=>⟨(hd.keep F (by simp)).c,(hbp.keep F (by simp)).c,(hbx.keep F (by simp)).c⟩
 have HG:=oH hG
 have F0:Fr [] w w.drew:=Fr.drew w
 have HAL:=HSS _ (Fr.alloc w (.cells #[.pointer (some ⟨x.p,0,none⟩),.pointer (some ⟨y.p,0,none⟩)] 26))
 skip
 clear hd hbp hG hb hdv e1 hbx hx hy
 skip
 obtain⟨df,d1,d2⟩:=done
 simp only [ptrV,pt,FV.val] at cx cd HG HSS HAL ⊢
 obtain⟨g1,g2,g3⟩:=HAL
 go_enter Tryz.func85,Tryz.ntmps85
 go_wp2_with fail
 refine zAp 6 (S:=fun w'=>w'.cell? ⟨bd,0,none⟩=some (.func (.func df) d1 d2)∧w'.cell? ⟨bp,0,none⟩=some (.complex .f64 px py)∧w'.cell? ⟨bx,0,none⟩=some (.pointer (some ⟨x.p,0,none⟩))) (by kernel_rfl) ?_ (fun hHeld=>?_)
 ·exact HSS _ (Fr.drew w)
 refine zAh (k:=12) (i:=0) (v:=?_) rfl (by kernel_rfl) (by kernel_rfl) (by kernel_rfl) (by kernel_rfl) (fun _ _ _ h=>h) (Or.inl ⟨by rfl,?_⟩) (by assumption) ?_
 rotate_left
 ·intro w hSw;(try dsimp only at hSw);(try obtain⟨h1,h2,h3⟩:=hSw);go_simp;try with_reducible rfl
 simp only[Act.put,oB,oC,oD,oE,oF,oG]
 refine zAh (k:=12) (i:=1) (v:=?_) rfl (by kernel_rfl) (by kernel_rfl) (by kernel_rfl) (by kernel_rfl) (fun _ _ _ h=>h) (Or.inl ⟨by rfl,?_⟩) (by assumption) ?_
 rotate_left
 ·intro w hSw;(try dsimp only at hSw);(try obtain⟨h1,h2,h3⟩:=hSw);go_simp;try with_reducible rfl
 simp only[Act.put,oB,oC,oD,oE,oF,oG]
 refine zAh (k:=12) (i:=2) (v:=?_) rfl (by kernel_rfl) (by kernel_rfl) (by kernel_rfl) (by kernel_rfl) (fun _ _ _ h=>h) (Or.inl ⟨by rfl,?_⟩) (by assumption) ?_
 rotate_left
 ·intro w hSw;(try dsimp only at hSw);(try obtain⟨h1,h2,h3⟩:=hSw);go_simp;try with_reducible rfl
 simp only[Act.put,oB,oC,oD,oE,oF,oG]
 refine zAh (k:=12) (i:=3) (v:=?_) rfl (by kernel_rfl) (by kernel_rfl) (by kernel_rfl) (by kernel_rfl) (fun _ _ _ h=>h) (Or.inl ⟨by rfl,?_⟩) (by assumption) ?_
 rotate_left
 ·intro w hSw;(try dsimp only at hSw);(try obtain⟨h1,h2,h3⟩:=hSw);go_simp;try with_reducible rfl
 simp only[Act.put,oB,oC,oD,oE,oF,oG]
 refine zAa (rs:=[4]) (by kernel_rfl) (by simp) ?_
 refine AllL.cons rfl (fun K hK=>?_) ?_
 rotate_left
 ·exact AllL.nil
 go_simp
 refine hK.out _ _ (HSS _ ((Fr.drew w).on (Fr.alloc _ _))) (fun hHeld=>?_)
 clear hK K
 try simp only[Act.put,oB,oC,oD,oE,oF,oG]
 refine zAa (rs:=[5]) (by kernel_rfl) (by simp) ?_
 refine AllL.cons rfl (fun K hK=>?_) ?_
 rotate_left
 ·exact AllL.nil
 go_simp
 refine(HN _ (Fr.drew w)).mono ?_
 rintro e w9 ⟨u,rfl,F9,hu,hud⟩
 have H9:=HSS w9 F9
 obtain⟨hE,hC⟩:=HG.out u w9 F9 hu hud
 have hR2:=zAe hE
 clear hE hu hud F9 HN
 go_wp2_with fail
 refine hK.out _ _ (H9) (fun hHeld=>?_)
 clear hK K
 try simp only[Act.put,oB,oC,oD,oE,oF,oG]
 refine zAa (rs:=[6]) (by kernel_rfl) (by simp) ?_
 refine AllL.last rfl (by kernel_rfl) (fun K hK=>?_) ?_
 rotate_left
 ·exact AllL.nil
 go_simp
 refine hC.mono ?_
 rintro e w10 ⟨s,rfl,hr⟩
 have HRS:=oH hr
 clear hr hC HG HSS H9
 go_wp2_with fail
 refine hK.out _ _ ?_
 clear hK K
 try simp only[Act.put,oB,oC,oD,oE,oF,oG]
 refine zAa (rs:=[7]) (by kernel_rfl) (by simp) ?_
 refine AllL.last rfl (by kernel_rfl) (fun K hK=>?_) ?_
 rotate_left
 ·exact AllL.nil
 go_simp
 refine hK.out _ _ ?_
 clear hK K
 try simp only[Act.put,oB,oC,oD,oE,oF,oG]
 refine zAl (by kernel_rfl) ?_ _
 go_wp2_with fail
 go_ret
 exact⟨s,rfl,HRS.out⟩
theorem wit1 (x y:Tr) (t:TK) (done:FV) (Post:World→Prop) (w:World) (bd bp bx b:Nat) (hd:Var w bd 76 done.val) (hbp:Var w bp 37 (posV t.2.1.1 t.2.1.2)) (hbx:Var w bx 26 (ptrV x.p)) (hx:IsT w (b≤·) x) (hy:IsT w (b≤·) y) (hb:b≤w.heap.size)
  (hG:∀u w',Fr [] w w'→IsT w' (b≤·) u→u.dt=.node (nd 69 t [] 0) [x.dt,y.dt]→GoQ done (ptrV u.p) w' Post):Calls Tryz.prog 92 #[ptrV y.p,pt bd,pt bp,pt bx] w (GQ Post):=by
 obtain⟨px,py,e1⟩:=zAc t.2.1.1 t.2.1.2
 obtain⟨dv,hdv⟩:∃dv,done.val=dv:=⟨_,rfl⟩
 rw [e1] at hbp
 have cd:=hd.c
 have cp:=hbp.c
 have cx:=hbx.c
 have HN:∀w1:World,Fr [] w w1→Calls Tryz.prog 31 #[.int .u8 69,.complex .f64 px py,.string ⟨#[]⟩,.int .i64 0,.slice (some ⟨w1.heap.size,0,none⟩) 2 2] (w1.alloc (.cells #[.pointer (some ⟨x.p,0,none⟩),.pointer (some ⟨y.p,0,none⟩)] 26)) fun e w'=>∃u:Tr,e=.returned (.pointer (some ⟨u.p,0,none⟩))∧Fr [] w w'∧IsT w' (b≤·) u∧u.dt=.node (nd 69 t [] 0) [x.dt,y.dt]:=fun w1 F1=>by
  refine(zBj (w1.alloc (.cells #[.pointer (some ⟨x.p,0,none⟩),.pointer (some ⟨y.p,0,none⟩)] 26)) (nd 69 t [] 0) _ [some x,some y] b (zIz w1 x y) (by simp) (fun z hz=>by
   have hz:z=x∨z=y:=by simpa using hz
   rcases hz with rfl | rfl
   ·exact zAk hx (F1.on (Fr.alloc w1 _)) (by simp)
   ·exact zAk hy (F1.on (Fr.alloc w1 _)) (by simp)) (Nat.le_trans hb ((F1.on (Fr.alloc w1 _))).size) (by simp [nd]) _ e1 ⟨#[]⟩ rfl 69 rfl 0 rfl _ rfl).mono ?_
  rintro e w' ⟨u,rfl,F2,h3,h4⟩
  exact⟨u,rfl,((F1.on (Fr.alloc w1 _))).on F2,h3,h4⟩
 have HSS:∀w':World,Fr [] w w'→(w'.cell? ⟨bd,0,none⟩=some done.val∧w'.cell? ⟨bp,0,none⟩=some (.complex .f64 px py)∧w'.cell? ⟨bx,0,none⟩=some (.pointer (some ⟨x.p,0,none⟩))):=fun w' F=>⟨(hd.keep F (by simp)).c,(hbp.keep F (by simp)).c,(hbx.keep F (by simp)).c⟩
 have HG:=oH hG
 have F0:Fr [] w w.drew:=Fr.drew w
 have HAL:=HSS _ (Fr.alloc w (.cells #[.pointer (some ⟨x.p,0,none⟩),.pointer (some ⟨y.p,0,none⟩)] 26))
 skip
 clear hd hbp hG hb hdv e1 hbx hx hy
 skip
 obtain⟨df,d1,d2⟩:=done
 simp only [ptrV,pt,FV.val] at cx cd HG HSS HAL ⊢
 obtain⟨g1,g2,g3⟩:=HAL
 go_enter Tryz.func92,Tryz.ntmps92
 go_wp2_with fail
 refine zAp 6 (S:=fun w'=>w'.cell? ⟨bd,0,none⟩=some (.func (.func df) d1 d2)∧w'.cell? ⟨bp,0,none⟩=some (.complex .f64 px py)∧w'.cell? ⟨bx,0,none⟩=some (.pointer (some ⟨x.p,0,none⟩))) (by kernel_rfl) ?_ (fun hHeld=>?_)
 ·exact HSS _ (Fr.drew w)
 refine zAh (k:=12) (i:=0) (v:=?_) rfl (by kernel_rfl) (by kernel_rfl) (by kernel_rfl) (by kernel_rfl) (fun _ _ _ h=>h) (Or.inl ⟨by rfl,?_⟩) (by assumption) ?_
 rotate_left
 ·intro w hSw;(try dsimp only at hSw);(try obtain⟨h1,h2,h3⟩:=hSw);go_simp;try with_reducible rfl
 simp only[Act.put,oB,oC,oD,oE,oF,oG]
 refine zAh (k:=12) (i:=1) (v:=?_) rfl (by kernel_rfl) (by kernel_rfl) (by kernel_rfl) (by kernel_rfl) (fun _ _ _ h=>h) (Or.inl ⟨by rfl,?_⟩) (by assumption) ?_
 rotate_left
 ·intro w hSw;(try dsimp only at hSw);(try obtain⟨h1,h2,h3⟩:=hSw);go_simp;try with_reducible rfl
 simp only[Act.put,oB,oC,oD,oE,oF,oG]
 refine zAh (k:=12) (i:=2) (v:=?_) rfl (by kernel_rfl) (by kernel_rfl) (by kernel_rfl) (by kernel_rfl) (fun _ _ _ h=>h) (Or.inl ⟨by rfl,?_⟩) (by assumption) ?_
 rotate_left
 ·intro w hSw;(try dsimp only at hSw);(try obtain⟨h1,h2,h3⟩:=hSw);go_simp;try with_reducible rfl
 simp only[Act.put,oB,oC,oD,oE,oF,oG]
 refine zAh (k:=12) (i:=3) (v:=?_) rfl (by kernel_rfl) (by kernel_rfl) (by kernel_rfl) (by kernel_rfl) (fun _ _ _ h=>h) (Or.inl ⟨by rfl,?_⟩) (by assumption) ?_
 rotate_left
 ·intro w hSw;(try dsimp only at hSw);(try obtain⟨h1,h2,h3⟩:=hSw);go_simp;try with_reducible rfl
 simp only[Act.put,oB,oC,oD,oE,oF,oG]
 refine zAa (rs:=[4]) (by kernel_rfl) (by simp) ?_
 refine AllL.cons rfl (fun K hK=>?_) ?_
 rotate_left
 ·exact AllL.nil
 go_simp
 refine hK.out _ _ (HSS _ ((Fr.drew w).on (Fr.alloc _ _))) (fun hHeld=>?_)
 clear hK K
 try simp only[Act.put,oB,oC,oD,oE,oF,oG]
 refine zAa (rs:=[5]) (by kernel_rfl) (by simp) ?_
 refine AllL.cons rfl (fun K hK=>?_) ?_
 rotate_left
 ·exact AllL.nil
 go_simp
 refine(HN _ (Fr.drew w)).mono ?_
 rintro e w9 ⟨u,rfl,F9,hu,hud⟩
 have H9:=HSS w9 F9
 obtain⟨hE,hC⟩:=HG.out u w9 F9 hu hud
 have hR2:=zAe hE
 clear hE hu hud F9 HN
 go_wp2_with fail
 refine hK.out _ _ (H9) (fun hHeld=>?_)
 clear hK K
 try simp only[Act.put,oB,oC,oD,oE,oF,oG]
 refine zAa (rs:=[6]) (by kernel_rfl) (by simp) ?_
 refine AllL.last rfl (by kernel_rfl) (fun K hK=>?_) ?_
 rotate_left
 ·exact AllL.nil
 go_simp
 refine hC.mono ?_
 rintro e w10 ⟨s,rfl,hr⟩
 have HRS:=oH hr
 clear hr hC HG HSS H9
 go_wp2_with fail
 refine hK.out _ _ ?_
 clear hK K
 try simp only[Act.put,oB,oC,oD,oE,oF,oG]
 refine zAa (rs:=[7]) (by kernel_rfl) (by simp) ?_
 refine AllL.last rfl (by kernel_rfl) (fun K hK=>?_) ?_
 rotate_left
 ·exact AllL.nil
 go_simp
 refine hK.out _ _ ?_
 clear hK K
 try simp only[Act.put,oB,oC,oD,oE,oF,oG]
 refine zAl (by kernel_rfl) ?_ _
 go_wp2_with fail
 go_ret
 exact⟨s,rfl,HRS.out⟩
theorem arm1 (x y:Tr) (t:TK) (done:FV) (Post:World→Prop) (w:World) (bd bp bx b:Nat) (hd:Var w bd 76 done.val) (hbp:Var w bp 37 (posV t.2.1.1 t.2.1.2)) (hbx:Var w bx 26 (ptrV x.p)) (hx:IsT w (b≤·) x) (hy:IsT w (b≤·) y) (hb:b≤w.heap.size)
  (hG:∀u w',Fr [] w w'→IsT w' (b≤·) u→u.dt=.node (nd 28 t [] 0) [x.dt,y.dt]→GoQ done (ptrV u.p) w' Post):Calls Tryz.prog 113 #[ptrV y.p,pt bd,pt bp,pt bx] w (GQ Post):=by
 obtain⟨px,py,e1⟩:=zAc t.2.1.1 t.2.1.2
 obtain⟨dv,hdv⟩:∃dv,done.val=dv:=⟨_,rfl⟩
 rw [e1] at hbp
 have cd:=hd.c
 have cp:=hbp.c
 have cx:=hbx.c
 have HN:∀w1:World,Fr [] w w1→Calls Tryz.prog 31 #[.int .u8 28,.complex .f64 px py,.string ⟨#[]⟩,.int .i64 0,.slice (some ⟨w1.heap.size,0,none⟩) 2 2] (w1.alloc (.cells #[.pointer (some ⟨x.p,0,none⟩),.pointer (some ⟨y.p,0,none⟩)] 26)) fun e w'=>∃u:Tr,e=.returned (.pointer (some ⟨u.p,0,none⟩))∧Fr [] w w'∧IsT w' (b≤·) u∧u.dt=.node (nd 28 t [] 0) [x.dt,y.dt]:=fun w1 F1=>by
  refine(zBj (w1.alloc (.cells #[.pointer (some ⟨x.p,0,none⟩),.pointer (some ⟨y.p,0,none⟩)] 26)) (nd 28 t [] 0) _ [some x,some y] b (zIz w1 x y) (by simp) (fun z hz=>by
   have hz:z=x∨z=y:=by simpa using hz
   rcases hz with rfl | rfl
   ·exact zAk hx (F1.on (Fr.alloc w1 _)) (by simp)
   ·exact zAk hy (F1.on (Fr.alloc w1 _)) (by simp)) (Nat.le_trans hb ((F1.on (Fr.alloc w1 _))).size) (by simp [nd]) _ e1 ⟨#[]⟩ rfl 28 rfl 0 rfl _ rfl).mono ?_
  rintro e w' ⟨u,rfl,F2,h3,h4⟩
  exact⟨u,rfl,((F1.on (Fr.alloc w1 _))).on F2,h3,h4⟩
 have HSS:∀w':World,Fr [] w w'→(w'.cell? ⟨bd,0,none⟩=some done.val∧w'.cell? ⟨bp,0,none⟩=some (.complex .f64 px py)∧w'.cell? ⟨bx,0,none⟩=some (.pointer (some ⟨x.p,0,none⟩))):=fun w' F=>⟨(hd.keep F (by simp)).c,(hbp.keep F (by simp)).c,(hbx.keep F (by simp)).c⟩
 have HG:=oH hG
 have F0:Fr [] w w.drew:=Fr.drew w
 have HAL:=HSS _ (Fr.alloc w (.cells #[.pointer (some ⟨x.p,0,none⟩),.pointer (some ⟨y.p,0,none⟩)] 26))
 skip
 clear hd hbp hG hb hdv e1 hbx hx hy
 skip
 obtain⟨df,d1,d2⟩:=done
 simp only [ptrV,pt,FV.val] at cx cd HG HSS HAL ⊢
 obtain⟨g1,g2,g3⟩:=HAL
 go_enter Tryz.func113,Tryz.ntmps113
 go_wp2_with fail
 refine zAp 6 (S:=fun w'=>w'.cell? ⟨bd,0,none⟩=some (.func (.func df) d1 d2)∧w'.cell? ⟨bp,0,none⟩=some (.complex .f64 px py)∧w'.cell? ⟨bx,0,none⟩=some (.pointer (some ⟨x.p,0,none⟩))) (by kernel_rfl) ?_ (fun hHeld=>?_)
 ·exact HSS _ (Fr.drew w)
 refine zAh (k:=12) (i:=0) (v:=?_) rfl (by kernel_rfl) (by kernel_rfl) (by kernel_rfl) (by kernel_rfl) (fun _ _ _ h=>h) (Or.inl ⟨by rfl,?_⟩) (by assumption) ?_
 rotate_left
 ·intro w hSw;(try dsimp only at hSw);(try obtain⟨h1,h2,h3⟩:=hSw);go_simp;try with_reducible rfl
 simp only[Act.put,oB,oC,oD,oE,oF,oG]
 refine zAh (k:=12) (i:=1) (v:=?_) rfl (by kernel_rfl) (by kernel_rfl) (by kernel_rfl) (by kernel_rfl) (fun _ _ _ h=>h) (Or.inl ⟨by rfl,?_⟩) (by assumption) ?_
 rotate_left
 ·intro w hSw;(try dsimp only at hSw);(try obtain⟨h1,h2,h3⟩:=hSw);go_simp;try with_reducible rfl
 simp only[Act.put,oB,oC,oD,oE,oF,oG]
 refine zAh (k:=12) (i:=2) (v:=?_) rfl (by kernel_rfl) (by kernel_rfl) (by kernel_rfl) (by kernel_rfl) (fun _ _ _ h=>h) (Or.inl ⟨by rfl,?_⟩) (by assumption) ?_
 rotate_left
 ·intro w hSw;(try dsimp only at hSw);(try obtain⟨h1,h2,h3⟩:=hSw);go_simp;try with_reducible rfl
 simp only[Act.put,oB,oC,oD,oE,oF,oG]
 refine zAh (k:=12) (i:=3) (v:=?_) rfl (by kernel_rfl) (by kernel_rfl) (by kernel_rfl) (by kernel_rfl) (fun _ _ _ h=>h) (Or.inl ⟨by rfl,?_⟩) (by assumption) ?_
 rotate_left
 ·intro w hSw;(try dsimp only at hSw);(try obtain⟨h1,h2,h3⟩:=hSw);go_simp;try with_reducible rfl
 simp only[Act.put,oB,oC,oD,oE,oF,oG]
 refine zAa (rs:=[4]) (by kernel_rfl) (by simp) ?_
 refine AllL.cons rfl (fun K hK=>?_) ?_
 rotate_left
 ·exact AllL.nil
 go_simp
 refine hK.out _ _ (HSS _ ((Fr.drew w).on (Fr.alloc _ _))) (fun hHeld=>?_)
 clear hK K
 try simp only[Act.put,oB,oC,oD,oE,oF,oG]
 refine zAa (rs:=[5]) (by kernel_rfl) (by simp) ?_
 refine AllL.cons rfl (fun K hK=>?_) ?_
 rotate_left
 ·exact AllL.nil
 go_simp
 refine(HN _ (Fr.drew w)).mono ?_
 rintro e w9 ⟨u,rfl,F9,hu,hud⟩
 have H9:=HSS w9 F9
 obtain⟨hE,hC⟩:=HG.out u w9 F9 hu hud
 have hR2:=zAe hE
 clear hE hu hud F9 HN
 go_wp2_with fail
 refine hK.out _ _ (H9) (fun hHeld=>?_)
 clear hK K
 try simp only[Act.put,oB,oC,oD,oE,oF,oG]
 refine zAa (rs:=[6]) (by kernel_rfl) (by simp) ?_
 refine AllL.last rfl (by kernel_rfl) (fun K hK=>?_) ?_
 rotate_left
 ·exact AllL.nil
 go_simp
 refine hC.mono ?_
 rintro e w10 ⟨s,rfl,hr⟩
 have HRS:=oH hr
 clear hr hC HG HSS H9
 go_wp2_with fail
 refine hK.out _ _ ?_
 clear hK K
 try simp only[Act.put,oB,oC,oD,oE,oF,oG]
 refine zAa (rs:=[7]) (by kernel_rfl) (by simp) ?_
 refine AllL.last rfl (by kernel_rfl) (fun K hK=>?_) ?_
 rotate_left
 ·exact AllL.nil
 go_simp
 refine hK.out _ _ ?_
 clear hK K
 try simp only[Act.put,oB,oC,oD,oE,oF,oG]
 refine zAl (by kernel_rfl) ?_ _
 go_wp2_with fail
 go_ret
 exact⟨s,rfl,HRS.out⟩
theorem loo1 (y:Tr) (t:TK) (done:FV) (Post:World→Prop) (w:World) (bd bp b:Nat) (hd:Var w bd 76 done.val) (hbp:Var w bp 37 (posV t.2.1.1 t.2.1.2)) (hy:IsT w (b≤·) y) (hb:b≤w.heap.size)
  (hG:∀u w',Fr [] w w'→IsT w' (b≤·) u→u.dt=.node (nd 66 t [] 0) [y.dt]→GoQ done (ptrV u.p) w' Post):Calls Tryz.prog 88 #[ptrV y.p,pt bd,pt bp] w (GQ Post):=by
 obtain⟨px,py,e1⟩:=zAc t.2.1.1 t.2.1.2
 obtain⟨dv,hdv⟩:∃dv,done.val=dv:=⟨_,rfl⟩
 rw [e1] at hbp
 have cd:=hd.c
 have cp:=hbp.c
 have HN:∀w1:World,Fr [] w w1→Calls Tryz.prog 31 #[.int .u8 66,.complex .f64 px py,.string ⟨#[]⟩,.int .i64 0,.slice (some ⟨w1.heap.size,0,none⟩) 1 1] (w1.alloc (.cells #[.pointer (some ⟨y.p,0,none⟩)] 26)) fun e w'=>∃u:Tr,e=.returned (.pointer (some ⟨u.p,0,none⟩))∧Fr [] w w'∧IsT w' (b≤·) u∧u.dt=.node (nd 66 t [] 0) [y.dt]:=fun w1 F1=>by
  refine(zBj (w1.alloc (.cells #[.pointer (some ⟨y.p,0,none⟩)] 26)) (nd 66 t [] 0) _ [some y] b (zIy w1 y) (by simp) (fun z hz=>by
   have hz:z=y:=by simpa using hz
   subst hz
   exact zAk hy (F1.on (Fr.alloc w1 _)) (by simp)) (Nat.le_trans hb ((F1.on (Fr.alloc w1 _))).size) (by simp [nd]) _ e1 ⟨#[]⟩ rfl 66 rfl 0 rfl _ rfl).mono ?_
  rintro e w' ⟨u,rfl,F2,h3,h4⟩
  exact⟨u,rfl,((F1.on (Fr.alloc w1 _))).on F2,h3,h4⟩
 have HSS:∀w':World,Fr [] w w'→(w'.cell? ⟨bd,0,none⟩=some done.val∧w'.cell? ⟨bp,0,none⟩=some (.complex .f64 px py)):=fun w' F=>⟨(hd.keep F (by simp)).c,(hbp.keep F (by simp)).c⟩
 have HG:=oH hG
 have F0:Fr [] w w.drew:=Fr.drew w
 have HAL:=HSS _ (Fr.alloc w (.cells #[.pointer (some ⟨y.p,0,none⟩)] 26))
 skip
 clear hd hbp hG hb hdv e1 hy
 skip
 obtain⟨df,d1,d2⟩:=done
 simp only [ptrV,pt,FV.val] at cd HG HSS HAL ⊢
 obtain⟨g1,g2⟩:=HAL
 go_enter Tryz.func88,Tryz.ntmps88
 go_wp2_with fail
 refine zAp 5 (S:=fun w'=>w'.cell? ⟨bd,0,none⟩=some (.func (.func df) d1 d2)∧w'.cell? ⟨bp,0,none⟩=some (.complex .f64 px py)) (by kernel_rfl) ?_ (fun hHeld=>?_)
 ·exact HSS _ (Fr.drew w)
 refine zAh (k:=12) (i:=0) (v:=?_) rfl (by kernel_rfl) (by kernel_rfl) (by kernel_rfl) (by kernel_rfl) (fun _ _ _ h=>h) (Or.inl ⟨by rfl,?_⟩) (by assumption) ?_
 rotate_left
 ·intro w hSw;(try dsimp only at hSw);(try obtain⟨h1,h2⟩:=hSw);go_simp;try with_reducible rfl
 simp only[Act.put,oB,oC,oD,oE,oF,oG]
 refine zAh (k:=12) (i:=1) (v:=?_) rfl (by kernel_rfl) (by kernel_rfl) (by kernel_rfl) (by kernel_rfl) (fun _ _ _ h=>h) (Or.inl ⟨by rfl,?_⟩) (by assumption) ?_
 rotate_left
 ·intro w hSw;(try dsimp only at hSw);(try obtain⟨h1,h2⟩:=hSw);go_simp;try with_reducible rfl
 simp only[Act.put,oB,oC,oD,oE,oF,oG]
 refine zAh (k:=12) (i:=2) (v:=?_) rfl (by kernel_rfl) (by kernel_rfl) (by kernel_rfl) (by kernel_rfl) (fun _ _ _ h=>h) (Or.inl ⟨by rfl,?_⟩) (by assumption) ?_
 rotate_left
 ·intro w hSw;(try dsimp only at hSw);(try obtain⟨h1,h2⟩:=hSw);go_simp;try with_reducible rfl
 simp only[Act.put,oB,oC,oD,oE,oF,oG]
 refine zAa (rs:=[3]) (by kernel_rfl) (by simp) ?_
 refine AllL.cons rfl (fun K hK=>?_) ?_
 rotate_left
 ·exact AllL.nil
 go_simp
 refine hK.out _ _ (HSS _ ((Fr.drew w).on (Fr.alloc _ _))) (fun hHeld=>?_)
 clear hK K
 try simp only[Act.put,oB,oC,oD,oE,oF,oG]
 refine zAa (rs:=[4]) (by kernel_rfl) (by simp) ?_
 refine AllL.cons rfl (fun K hK=>?_) ?_
 rotate_left
 ·exact AllL.nil
 go_simp
 refine(HN _ (Fr.drew w)).mono ?_
 rintro e w9 ⟨u,rfl,F9,hu,hud⟩
 have H9:=HSS w9 F9
 obtain⟨hE,hC⟩:=HG.out u w9 F9 hu hud
 have hR2:=zAe hE
 clear hE hu hud F9 HN
 go_wp2_with fail
 refine hK.out _ _ (H9) (fun hHeld=>?_)
 clear hK K
 try simp only[Act.put,oB,oC,oD,oE,oF,oG]
 refine zAa (rs:=[5]) (by kernel_rfl) (by simp) ?_
 refine AllL.last rfl (by kernel_rfl) (fun K hK=>?_) ?_
 rotate_left
 ·exact AllL.nil
 go_simp
 refine hC.mono ?_
 rintro e w10 ⟨s,rfl,hr⟩
 have HRS:=oH hr
 clear hr hC HG HSS H9
 go_wp2_with fail
 refine hK.out _ _ ?_
 clear hK K
 try simp only[Act.put,oB,oC,oD,oE,oF,oG]
 refine zAa (rs:=[6]) (by kernel_rfl) (by simp) ?_
 refine AllL.last rfl (by kernel_rfl) (fun K hK=>?_) ?_
 rotate_left
 ·exact AllL.nil
 go_simp
 refine hK.out _ _ ?_
 clear hK K
 try simp only[Act.put,oB,oC,oD,oE,oF,oG]
 refine zAl (by kernel_rfl) ?_ _
 go_wp2_with fail
 go_ret
 exact⟨s,rfl,HRS.out⟩
end Go.Proofs.YtepfknfadpkigaaGreat
end
