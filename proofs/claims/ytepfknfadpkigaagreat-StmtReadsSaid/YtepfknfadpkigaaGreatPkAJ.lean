/- Several texts in one. -/
import Derived.Test.YtepfknfadpkigaaGreatPkAA
import Derived.Test.YtepfknfadpkigaaGreatPkAI
import Derived.Deep.AppendSrc
import Derived.Deep.RegionHeld3
set_option linter.unusedVariables false
set_option linter.unusedSimpArgs false
section
namespace Go.Proofs.YtepfknfadpkigaaGreat
open Go.RowKit
set_option maxHeartbeats 2000000
set_option maxRecDepth 100000
theorem zDc {w:World} {g n cap:Nat} {os:List (Option Tr)} (h:w.ownsRow 0 26 1 (.slice (some ⟨g,0,none⟩) n cap) n (os.map fun o=>encP (o.map Tr.p))) (hn:os.length=n):ArgL w (.slice (some ⟨g,0,none⟩) n cap) os:=by
 refine⟨_,cap,by rw [hn],fun i o hi=>?_⟩
 have hlt:i < os.length:=(List.getElem?_eq_some_iff.1 hi).1
 refine⟨g,rfl,(h.lt g rfl).2,?_⟩
 rw [h.cellAt i (by omega),List.getElem?_map,hi];rfl
theorem zKg (us:List Tr):(us.map some).map (fun o=>encP (o.map Tr.p))=us.map fun t=>ptrV t.p:=by
 rw [List.map_map];rfl
theorem LsAt.argL {w:World} {b:Nat} {v:Value} {us:List Tr} (h:LsAt w b v us):ArgL w v (us.map some):=by
 rcases h.row.2 with⟨h1,h2⟩ | ⟨g,cap,cur,h1,h2⟩
 ·obtain rfl:us=[]:=List.length_eq_zero_iff.1 h2
  rw [h1]
  exact zIx w
 ·have hr:=h.row
  rw [h1] at hr ⊢
  exact zDc (by rw [zKg];exact hr) (by simp)
theorem zOy (us:List Tr):(us.map some).map (fun o=>(o.map Tr.dt).getD dt0)=us.map Tr.dt:=by
 rw [List.map_map];rfl
theorem zBz {w w':World} {b:Nat} {T:TypeId} {v:Value} (h:Var w b T v) (hk:Kn w w') (hT:(T == 124||T == 37||T == 140)=true:=by decide):w'.cell? ⟨b,0,none⟩=some v:=Var.c (T:=T) (hk b _ h hT)
theorem zOz (b:Nat) (ty:TypeId) (w:World):(Builtin.append_ #[38,38] ty #[.slice (some ⟨b,0,none⟩) 1 1,.slice none 0 0]).run Tryz.prog w=.ok (.slice (some ⟨b,0,none⟩) 1 1) w:=by
 obtain⟨i1,hi,hz0,hz1,hz2⟩:=info_parts infoP
 exact run_append_room_src w 38 38 ty 26 i1 Tryz.underlying38 hi b 0 1 1 (.slice none 0 0) 0 [] (by rw [hz1];exact Src.ofNil w Tryz.underlying38 0) (by omega) (by simp) (by simp)
theorem zKh:Enters 159:=⟨_,_,Tryz.func159,by kernel_rfl,rfl⟩
theorem zVl (c:Cx) (bd bp bx j b:Nat) (done:FV) (Post:World→Prop) (t:TK) (o:Option Tr) (us:List Tr) (v:Value) (w:World) (pv:Value) (hX:RX c w j) (hbd:Var w bd 124 done.val) (hbp:Var w bp 37 pv) (hp:posV t.2.1.1 t.2.1.2=pv)
  (hbx:Var w bx 26 (encP (o.map Tr.p))) (ho:∀x,o=some x→IsT w (b≤·) x) (hv:LsAt w b v us) (hb:b≤w.heap.size)
  (hG:∀u w',Fr [] w w'→IsT w' (b≤·) u→u.dt=.node (nd 10 t [] 0) ((o.map Tr.dt).getD dt0::us.map Tr.dt)→Goes c.B done (ptrV u.p) w' Post) :
  Calls Tryz.prog 159 #[v,pt bd,pt bp,pt bx] w (GP c.B Post w):=by
 obtain⟨i1,hi,hz0,hz1,hz2⟩:=info_parts infoP
 obtain⟨x1,y1,e1⟩:=zAc t.2.1.1 t.2.1.2
 rw [hp] at e1
 subst e1
 have cd:=hbd.c
 have cp:=hbp.c
 have cx:=hbx.c
 obtain⟨hq,hhq⟩:∃hq,encP (o.map Tr.p)=.pointer hq:=by cases o <;> exact⟨_,rfl⟩
 rw [hhq] at cx
 obtain⟨w1,hw1⟩:∃w1,(w.alloc (.cells #[.pointer hq] 26))=w1:=⟨_,rfl⟩
 have F1:Fr [] w w1:=by rw [← hw1];exact Fr.alloc _ _
 have hc1:w1.heap[w.heap.size]?=some (.cells #[.pointer hq] 26 (0,0)):=by rw [← hw1];exact heap_alloc_new _ _
 have own1:w1.ownsRow 0 26 1 (.slice (some ⟨w.heap.size,0,none⟩) 1 1) 1 [.pointer hq] :=
  ⟨rfl,.inr ⟨w.heap.size,1,#[.pointer hq],rfl,Nat.zero_le _,hc1,by decide,by decide,rfl,rfl⟩⟩
 have HO:=oH (oA hhq (oA hp (oA F1 (oA own1 (oA ho (oA hv hG))))))
 have hvl:=hv.le
 have hs1:=F1.size
 have HVV:=oH (oA hbd hbp)
 clear hX hbd hbp hbx hhq hp ho hG F1 own1 hc1
 simp only [pt]
 by_cases hn:us=[]
 ·subst hn
  obtain rfl:v=.slice none 0 0:=hv.nil rfl
  have HN1:=zBj w1.drew (nd 10 t [] 0) (.slice (some ⟨w.heap.size,0,none⟩) 1 1) [o] b (zDc (by
    have:=zAf HO.out.2.2.2.1 (Fr.drew w1) (by simp)
    rw [← HO.out.1] at this
    exact this) rfl) (by simp) (fun x hx=>by
    have:o=some x:=by simpa [eq_comm] using hx
    exact((HO.out.2.2.2.2.1 x this).fr HO.out.2.2.1 (by simp)).fr (Fr.drew w1) (by simp)) (by show b≤w1.heap.size;omega) (by simp [nd]) _ HO.out.2.1 ⟨#[]⟩ rfl 10 rfl 0 rfl [(o.map Tr.dt).getD dt0] rfl
  have hap:=zOz
  have cd1:=HO.out.2.2.1.cellE cd
  have cp1:=HO.out.2.2.1.cellE cp
  have HNH:=oH HN1
  have HBX:=oH (oA HO.out.2.2.1 HO.out.2.2.2.2.2.2)
  clear hv HN1
  go_enter Tryz.func159,Tryz.ntmps159
  go_wp2_with fail
  refine wp_region_held_drew (S:=fun w'=>w'.cell? ⟨bd,0,none⟩=some (.func (.func done.f) done.first done.caps)∧w'.cell? ⟨bp,0,none⟩=some (.complex .f64 x1 y1)) (by kernel_rfl) ?_ (fun hHeld=>?_)
  ·exact⟨cd,cp⟩
  refine wpAnyH_take (i:=0) (v:=?_) rfl (by kernel_rfl) (by kernel_rfl) (by kernel_rfl) (fun _ _ _ h=>h) (Or.inl ⟨by rfl,?_⟩) (by assumption) ?_
  rotate_left
  ·intro w hSw;(try dsimp only at hSw);go_simp;try with_reducible rfl
  simp only[Act.put,oB,oC,oD,oE,oF,oG]
  refine wpAnyH_take (i:=1) (v:=?_) rfl (by kernel_rfl) (by kernel_rfl) (by kernel_rfl) (fun _ _ _ h=>h) (Or.inl ⟨by rfl,?_⟩) (by assumption) ?_
  rotate_left
  ·intro w hSw;(try dsimp only at hSw);go_simp;try with_reducible rfl
  simp only[Act.put,oB,oC,oD,oE,oF,oG]
  refine wpAnyH_take (i:=4) (v:=?_) rfl (by kernel_rfl) (by kernel_rfl) (by kernel_rfl) (fun _ _ _ h=>h) (Or.inl ⟨by rfl,?_⟩) (by assumption) ?_
  rotate_left
  ·intro w hSw;(try dsimp only at hSw);go_simp;try with_reducible rfl
  simp only[Act.put,oB,oC,oD,oE,oF,oG]
  refine wpAnyH_ready (rs:=[2]) (by kernel_rfl) (by simp) ?_
  refine AllReadyH.cons rfl (fun K hK=>?_) ?_
  rotate_left
  ·exact AllReadyH.nil
  go_simp
  refine hK.out _ _ (hHeld) (fun hHeld=>?_)
  clear hK K
  try simp only[Act.put,oB,oC,oD,oE,oF,oG]
  refine wpAnyH_ready (rs:=[3]) (by kernel_rfl) (by simp) ?_
  refine AllReadyH.cons rfl (fun K hK=>?_) ?_
  rotate_left
  ·exact AllReadyH.nil
  go_simp
  refine hK.out _ _ (⟨cd1,cp1⟩) (fun hHeld=>?_)
  clear hK K
  try simp only[Act.put,oB,oC,oD,oE,oF,oG]
  refine wpAnyH_ready (rs:=[5]) (by kernel_rfl) (by simp) ?_
  refine AllReadyH.cons rfl (fun K hK=>?_) ?_
  rotate_left
  ·exact AllReadyH.nil
  go_simp
  refine hK.out _ _ (⟨cd1,cp1⟩) (fun hHeld=>?_)
  clear hK K
  try simp only[Act.put,oB,oC,oD,oE,oF,oG]
  refine wpAnyH_ready (rs:=[6]) (by kernel_rfl) (by simp) ?_
  refine AllReadyH.cons rfl (fun K hK=>?_) ?_
  rotate_left
  ·exact AllReadyH.nil
  go_simp
  refine HNH.out.mono ?_
  rintro e w3 ⟨u,rfl,F3,hu,hud⟩
  have FF:=(HBX.out.1.trans (Fr.drew w1) (by simp)).trans F3 (by simp)
  obtain⟨hE,hC⟩:=HBX.out.2 u w3 FF hu hud
  have hRn:=zAe hE
  have HK:=oH (Kn.fr0 FF)
  have cd3:=FF.cellE cd
  have cp3:=FF.cellE cp
  clear hE FF F3 hu hud
  simp only [ptrV] at hC ⊢
  go_wp2_with fail
  refine hK.out _ _ (⟨cd3,cp3⟩) (fun hHeld=>?_)
  clear hK K
  try simp only[Act.put,oB,oC,oD,oE,oF,oG]
  refine wpAnyH_ready (rs:=[7]) (by kernel_rfl) (by simp) ?_
  refine AllReadyH.cons rfl (fun K hK=>?_) ?_
  rotate_left
  ·exact AllReadyH.nil
  go_simp
  refine hC.mono ?_
  rintro e w4 ⟨s,rfl,hk2,hr⟩
  have cd4:=zBz HVV.out.1 (HK.out.trans hk2)
  have cp4:=zBz HVV.out.2 (HK.out.trans hk2)
  go_wp2_with fail
  refine hK.out _ _ (⟨cd4,cp4⟩) (fun hHeld=>?_)
  clear hK K
  try simp only[Act.put,oB,oC,oD,oE,oF,oG]
  refine wpAnyH_take (i:=8) (v:=?_) rfl (by kernel_rfl) (by kernel_rfl) (by kernel_rfl) (fun _ _ _ h=>h) (Or.inl ⟨by rfl,?_⟩) (by assumption) ?_
  rotate_left
  ·intro w hSw;(try dsimp only at hSw);go_simp;try with_reducible rfl
  simp only[Act.put,oB,oC,oD,oE,oF,oG]
  refine wpAnyH_done (by kernel_rfl) ?_ _
  go_wp2_with fail
  go_ret
  exact zAv (HK.out.trans hk2) hr
 ·obtain⟨n,hnl⟩:∃n,us.length=n:=⟨_,rfl⟩
  have hn0:0 < n:=by have:=List.length_pos_iff.2 hn;omega
  obtain⟨g,cap,hvg,_,_⟩:=hv.row.form (by omega)
  rw [hnl] at hvg hvl
  subst hvg
  have hbg:g < w.heap.size:=(hv.row.lt g rfl).2
  have hnews:∀j u,(us.map fun t=>ptrV t.p)[j]?=some u→w1.drew.cell? ((⟨g,0,none⟩:Addr).add j)=some u:=fun j u hj=>by
   have h8:=World.ownsRow.cells hv.row (g:=g) rfl j u hj
   exact(HO.out.2.2.1.trans (Fr.drew w1) (by simp)).cellE h8
  have hone:∀u ∈ (us.map fun t=>ptrV t.p),u.oneCell'=true:=fun u hu=>by
   obtain⟨t,_,rfl⟩:=List.mem_map.1 hu
   rfl
  have hmk:∀(w9:World) (g9 cap9:Nat),Fr [] w w9→w9.ownsRow 0 26 1 (.slice (some ⟨g9,0,none⟩) (1+n) cap9) (1+n) ([.pointer hq]++us.map fun t=>ptrV t.p) →
    Calls Tryz.prog 31 #[.int .u8 10,.complex .f64 x1 y1,.string ⟨#[]⟩,.int .i64 0,.slice (some ⟨g9,0,none⟩) (1+n) cap9] w9 fun e w'=>∃u,e=.returned (ptrV u.p)∧Fr [] w9 w'∧IsT w' (b≤·) u∧u.dt=.node (nd 10 t [] 0) ((o.map Tr.dt).getD dt0::us.map Tr.dt):=fun w9 g9 cap9 F9 hown=>by
   refine zBj w9 (nd 10 t [] 0) _ (o::us.map some) b (zDc ?_ (by simp [hnl];omega)) (by simp [hnl];omega) (fun x hx=>?_) (by have:=F9.size;omega) (by simp [nd]) _ HO.out.2.1 ⟨#[]⟩ rfl 10 rfl 0 rfl _ ?_
   ·rw [List.map_cons,zKg,HO.out.1]
    exact hown
   ·rcases List.mem_cons.1 hx with h | h
    ·exact(HO.out.2.2.2.2.1 x h.symm).fr F9 (by simp)
    ·obtain⟨x',hx',e⟩:=List.mem_map.1 h
     obtain rfl:x'=x:=Option.some.inj e
     exact(HO.out.2.2.2.2.2.1.t x' hx').fr F9 (by simp)
   ·rw [List.map_cons,zOy]
  have cd1:=HO.out.2.2.1.cellE cd
  have cp1:=HO.out.2.2.1.cellE cp
  have hown1:=zAf HO.out.2.2.2.1 (Fr.drew w1) (by simp)
  have HBX:=oH (oA HO.out.2.2.1 (oA hown1 (oA hnl (oA hnews (oA hone (oA hmk HO.out.2.2.2.2.2.2))))))
  clear hv hown1 hnews hone hmk hn hnl HO
  go_enter Tryz.func159,Tryz.ntmps159
  go_wp2_with fail
  refine wp_region_held_drew (S:=fun w'=>w'.cell? ⟨bd,0,none⟩=some (.func (.func done.f) done.first done.caps)∧w'.cell? ⟨bp,0,none⟩=some (.complex .f64 x1 y1)) (by kernel_rfl) ?_ (fun hHeld=>?_)
  ·exact⟨cd,cp⟩
  refine wpAnyH_take (i:=0) (v:=?_) rfl (by kernel_rfl) (by kernel_rfl) (by kernel_rfl) (fun _ _ _ h=>h) (Or.inl ⟨by rfl,?_⟩) (by assumption) ?_
  rotate_left
  ·intro w hSw;(try dsimp only at hSw);go_simp;try with_reducible rfl
  simp only[Act.put,oB,oC,oD,oE,oF,oG]
  refine wpAnyH_take (i:=1) (v:=?_) rfl (by kernel_rfl) (by kernel_rfl) (by kernel_rfl) (fun _ _ _ h=>h) (Or.inl ⟨by rfl,?_⟩) (by assumption) ?_
  rotate_left
  ·intro w hSw;(try dsimp only at hSw);go_simp;try with_reducible rfl
  simp only[Act.put,oB,oC,oD,oE,oF,oG]
  refine wpAnyH_take (i:=4) (v:=?_) rfl (by kernel_rfl) (by kernel_rfl) (by kernel_rfl) (fun _ _ _ h=>h) (Or.inl ⟨by rfl,?_⟩) (by assumption) ?_
  rotate_left
  ·intro w hSw;(try dsimp only at hSw);go_simp;try with_reducible rfl
  simp only[Act.put,oB,oC,oD,oE,oF,oG]
  refine wpAnyH_ready (rs:=[2]) (by kernel_rfl) (by simp) ?_
  refine AllReadyH.cons rfl (fun K hK=>?_) ?_
  rotate_left
  ·exact AllReadyH.nil
  go_simp
  refine hK.out _ _ (hHeld) (fun hHeld=>?_)
  clear hK K
  try simp only[Act.put,oB,oC,oD,oE,oF,oG]
  refine wpAnyH_ready (rs:=[3]) (by kernel_rfl) (by simp) ?_
  refine AllReadyH.cons rfl (fun K hK=>?_) ?_
  rotate_left
  ·exact AllReadyH.nil
  go_simp
  refine hK.out _ _ (⟨cd1,cp1⟩) (fun hHeld=>?_)
  clear hK K
  try simp only[Act.put,oB,oC,oD,oE,oF,oG]
  refine wpAnyH_ready (rs:=[5]) (by kernel_rfl) (by simp) ?_
  refine AllReadyH.cons rfl (fun K hK=>?_) ?_
  rotate_left
  ·exact AllReadyH.nil
  refine step_append_lies _ (by rfl) _ _ _ (by rfl) 0 26 i1 (.pointer none) 1 8 Tryz.underlying38 hi hz0 hz1 hz2 (by rfl) (by decide) (.slice (some ⟨w.heap.size,0,none⟩) 1 1) 1 [.pointer hq] (by rfl) HBX.out.2.1 ⟨g,0,none⟩ n cap (us.map fun t=>ptrV t.p) (by rfl) (by simp [HBX.out.2.2.1]) HBX.out.2.2.2.1 HBX.out.2.2.2.2.1 (by omega) (by unfold maxLen;omega) (by omega) (Nat.zero_le _) w1.heap.size rfl ?_
  intro g9 cap9 w9 hown9 hgrow hat hlt9
  have F9:Fr [] w w9:=(HBX.out.1.trans (Fr.drew w1) (by simp)).trans (Fr.of_grown hgrow) (fun j hj=>.inr (by simp [Value.ownBlock] at hj;omega))
  have cd9:=F9.cellE cd
  have cp9:=F9.cellE cp
  have HN:=HBX.out.2.2.2.2.2.1 w9 g9 cap9 F9 hown9
  have H9:=oH F9
  clear hown9 hgrow hat hlt9 F9
  refine hK.out _ _ (⟨cd9,cp9⟩) (fun hHeld=>?_)
  clear hK K
  try simp only[Act.put,oB,oC,oD,oE,oF,oG]
  refine wpAnyH_ready (rs:=[6]) (by kernel_rfl) (by simp) ?_
  refine AllReadyH.cons rfl (fun K hK=>?_) ?_
  rotate_left
  ·exact AllReadyH.nil
  go_simp
  refine HN.mono ?_
  rintro e w3 ⟨u,rfl,F3,hu,hud⟩
  have FF:=H9.out.trans F3 (by simp)
  obtain⟨hE,hC⟩:=HBX.out.2.2.2.2.2.2 u w3 FF hu hud
  have hRn:=zAe hE
  have HK:=oH (Kn.fr0 FF)
  have cd3:=FF.cellE cd
  have cp3:=FF.cellE cp
  clear hE FF F3 hu hud HN
  simp only [ptrV] at hC ⊢
  go_wp2_with fail
  refine hK.out _ _ (⟨cd3,cp3⟩) (fun hHeld=>?_)
  clear hK K
  try simp only[Act.put,oB,oC,oD,oE,oF,oG]
  refine wpAnyH_ready (rs:=[7]) (by kernel_rfl) (by simp) ?_
  refine AllReadyH.cons rfl (fun K hK=>?_) ?_
  rotate_left
  ·exact AllReadyH.nil
  go_simp
  refine hC.mono ?_
  rintro e w4 ⟨s,rfl,hk2,hr⟩
  have cd4:=zBz HVV.out.1 (HK.out.trans hk2)
  have cp4:=zBz HVV.out.2 (HK.out.trans hk2)
  go_wp2_with fail
  refine hK.out _ _ (⟨cd4,cp4⟩) (fun hHeld=>?_)
  clear hK K
  try simp only[Act.put,oB,oC,oD,oE,oF,oG]
  refine wpAnyH_take (i:=8) (v:=?_) rfl (by kernel_rfl) (by kernel_rfl) (by kernel_rfl) (fun _ _ _ h=>h) (Or.inl ⟨by rfl,?_⟩) (by assumption) ?_
  rotate_left
  ·intro w hSw;(try dsimp only at hSw);go_simp;try with_reducible rfl
  simp only[Act.put,oB,oC,oD,oE,oF,oG]
  refine wpAnyH_done (by kernel_rfl) ?_ _
  go_wp2_with fail
  go_ret
  exact zAv (HK.out.trans hk2) hr
theorem zMu:Enters 154:=⟨_,_,Tryz.func154,by kernel_rfl,rfl⟩
theorem zZf (c:Cx) (bd bp bx j b:Nat) (done:FV) (Post:World→Prop) (t:TK) (o:Option Tr) (us:List Tr) (v:Value) (w:World) (pv:Value) (hX:RX c w j) (hbd:Var w bd 124 done.val) (hbp:Var w bp 37 pv) (hp:posV t.2.1.1 t.2.1.2=pv)
  (hbx:Var w bx 26 (encP (o.map Tr.p))) (ho:∀x,o=some x→IsT w (b≤·) x) (hv:LsAt w b v us) (hb:b≤w.heap.size)
  (hG:∀u w',Fr [] w w'→IsT w' (b≤·) u→u.dt=.node (nd 8 t [] 0) ((o.map Tr.dt).getD dt0::us.map Tr.dt)→Goes c.B done (ptrV u.p) w' Post) :
  Calls Tryz.prog 154 #[v,pt bd,pt bp,pt bx] w (GP c.B Post w):=by
 obtain⟨i1,hi,hz0,hz1,hz2⟩:=info_parts infoP
 obtain⟨x1,y1,e1⟩:=zAc t.2.1.1 t.2.1.2
 rw [hp] at e1
 subst e1
 have cd:=hbd.c
 have cp:=hbp.c
 have cx:=hbx.c
 obtain⟨hq,hhq⟩:∃hq,encP (o.map Tr.p)=.pointer hq:=by cases o <;> exact⟨_,rfl⟩
 rw [hhq] at cx
 obtain⟨w1,hw1⟩:∃w1,(w.alloc (.cells #[.pointer hq] 26))=w1:=⟨_,rfl⟩
 have F1:Fr [] w w1:=by rw [← hw1];exact Fr.alloc _ _
 have hc1:w1.heap[w.heap.size]?=some (.cells #[.pointer hq] 26 (0,0)):=by rw [← hw1];exact heap_alloc_new _ _
 have own1:w1.ownsRow 0 26 1 (.slice (some ⟨w.heap.size,0,none⟩) 1 1) 1 [.pointer hq] :=
  ⟨rfl,.inr ⟨w.heap.size,1,#[.pointer hq],rfl,Nat.zero_le _,hc1,by decide,by decide,rfl,rfl⟩⟩
 have HO:=oH (oA hhq (oA hp (oA F1 (oA own1 (oA ho (oA hv hG))))))
 have hvl:=hv.le
 have hs1:=F1.size
 have HVV:=oH (oA hbd hbp)
 clear hX hbd hbp hbx hhq hp ho hG F1 own1 hc1
 simp only [pt]
 by_cases hn:us=[]
 ·subst hn
  obtain rfl:v=.slice none 0 0:=hv.nil rfl
  have HN1:=zBj w1.drew (nd 8 t [] 0) (.slice (some ⟨w.heap.size,0,none⟩) 1 1) [o] b (zDc (by
    have:=zAf HO.out.2.2.2.1 (Fr.drew w1) (by simp)
    rw [← HO.out.1] at this
    exact this) rfl) (by simp) (fun x hx=>by
    have:o=some x:=by simpa [eq_comm] using hx
    exact((HO.out.2.2.2.2.1 x this).fr HO.out.2.2.1 (by simp)).fr (Fr.drew w1) (by simp)) (by show b≤w1.heap.size;omega) (by simp [nd]) _ HO.out.2.1 ⟨#[]⟩ rfl 8 rfl 0 rfl [(o.map Tr.dt).getD dt0] rfl
  have hap:=zOz
  have cd1:=HO.out.2.2.1.cellE cd
  have cp1:=HO.out.2.2.1.cellE cp
  have HNH:=oH HN1
  have HBX:=oH (oA HO.out.2.2.1 HO.out.2.2.2.2.2.2)
  clear hv HN1
  go_enter Tryz.func154,Tryz.ntmps154
  go_wp2_with fail
  refine wp_region_held_drew (S:=fun w'=>w'.cell? ⟨bd,0,none⟩=some (.func (.func done.f) done.first done.caps)∧w'.cell? ⟨bp,0,none⟩=some (.complex .f64 x1 y1)) (by kernel_rfl) ?_ (fun hHeld=>?_)
  ·exact⟨cd,cp⟩
  refine wpAnyH_take (i:=0) (v:=?_) rfl (by kernel_rfl) (by kernel_rfl) (by kernel_rfl) (fun _ _ _ h=>h) (Or.inl ⟨by rfl,?_⟩) (by assumption) ?_
  rotate_left
  ·intro w hSw;(try dsimp only at hSw);go_simp;try with_reducible rfl
  simp only[Act.put,oB,oC,oD,oE,oF,oG]
  refine wpAnyH_take (i:=1) (v:=?_) rfl (by kernel_rfl) (by kernel_rfl) (by kernel_rfl) (fun _ _ _ h=>h) (Or.inl ⟨by rfl,?_⟩) (by assumption) ?_
  rotate_left
  ·intro w hSw;(try dsimp only at hSw);go_simp;try with_reducible rfl
  simp only[Act.put,oB,oC,oD,oE,oF,oG]
  refine wpAnyH_take (i:=4) (v:=?_) rfl (by kernel_rfl) (by kernel_rfl) (by kernel_rfl) (fun _ _ _ h=>h) (Or.inl ⟨by rfl,?_⟩) (by assumption) ?_
  rotate_left
  ·intro w hSw;(try dsimp only at hSw);go_simp;try with_reducible rfl
  simp only[Act.put,oB,oC,oD,oE,oF,oG]
  refine wpAnyH_ready (rs:=[2]) (by kernel_rfl) (by simp) ?_
  refine AllReadyH.cons rfl (fun K hK=>?_) ?_
  rotate_left
  ·exact AllReadyH.nil
  go_simp
  refine hK.out _ _ (hHeld) (fun hHeld=>?_)
  clear hK K
  try simp only[Act.put,oB,oC,oD,oE,oF,oG]
  refine wpAnyH_ready (rs:=[3]) (by kernel_rfl) (by simp) ?_
  refine AllReadyH.cons rfl (fun K hK=>?_) ?_
  rotate_left
  ·exact AllReadyH.nil
  go_simp
  refine hK.out _ _ (⟨cd1,cp1⟩) (fun hHeld=>?_)
  clear hK K
  try simp only[Act.put,oB,oC,oD,oE,oF,oG]
  refine wpAnyH_ready (rs:=[5]) (by kernel_rfl) (by simp) ?_
  refine AllReadyH.cons rfl (fun K hK=>?_) ?_
  rotate_left
  ·exact AllReadyH.nil
  go_simp
  refine hK.out _ _ (⟨cd1,cp1⟩) (fun hHeld=>?_)
  clear hK K
  try simp only[Act.put,oB,oC,oD,oE,oF,oG]
  refine wpAnyH_ready (rs:=[6]) (by kernel_rfl) (by simp) ?_
  refine AllReadyH.cons rfl (fun K hK=>?_) ?_
  rotate_left
  ·exact AllReadyH.nil
  go_simp
  refine HNH.out.mono ?_
  rintro e w3 ⟨u,rfl,F3,hu,hud⟩
  have FF:=(HBX.out.1.trans (Fr.drew w1) (by simp)).trans F3 (by simp)
  obtain⟨hE,hC⟩:=HBX.out.2 u w3 FF hu hud
  have hRn:=zAe hE
  have HK:=oH (Kn.fr0 FF)
  have cd3:=FF.cellE cd
  have cp3:=FF.cellE cp
  clear hE FF F3 hu hud
  simp only [ptrV] at hC ⊢
  go_wp2_with fail
  refine hK.out _ _ (⟨cd3,cp3⟩) (fun hHeld=>?_)
  clear hK K
  try simp only[Act.put,oB,oC,oD,oE,oF,oG]
  refine wpAnyH_ready (rs:=[7]) (by kernel_rfl) (by simp) ?_
  refine AllReadyH.cons rfl (fun K hK=>?_) ?_
  rotate_left
  ·exact AllReadyH.nil
  go_simp
  refine hC.mono ?_
  rintro e w4 ⟨s,rfl,hk2,hr⟩
  have cd4:=zBz HVV.out.1 (HK.out.trans hk2)
  have cp4:=zBz HVV.out.2 (HK.out.trans hk2)
  go_wp2_with fail
  refine hK.out _ _ (⟨cd4,cp4⟩) (fun hHeld=>?_)
  clear hK K
  try simp only[Act.put,oB,oC,oD,oE,oF,oG]
  refine wpAnyH_take (i:=8) (v:=?_) rfl (by kernel_rfl) (by kernel_rfl) (by kernel_rfl) (fun _ _ _ h=>h) (Or.inl ⟨by rfl,?_⟩) (by assumption) ?_
  rotate_left
  ·intro w hSw;(try dsimp only at hSw);go_simp;try with_reducible rfl
  simp only[Act.put,oB,oC,oD,oE,oF,oG]
  refine wpAnyH_done (by kernel_rfl) ?_ _
  go_wp2_with fail
  go_ret
  exact zAv (HK.out.trans hk2) hr
 ·obtain⟨n,hnl⟩:∃n,us.length=n:=⟨_,rfl⟩
  have hn0:0 < n:=by have:=List.length_pos_iff.2 hn;omega
  obtain⟨g,cap,hvg,_,_⟩:=hv.row.form (by omega)
  rw [hnl] at hvg hvl
  subst hvg
  have hbg:g < w.heap.size:=(hv.row.lt g rfl).2
  have hnews:∀j u,(us.map fun t=>ptrV t.p)[j]?=some u→w1.drew.cell? ((⟨g,0,none⟩:Addr).add j)=some u:=fun j u hj=>by
   have h8:=World.ownsRow.cells hv.row (g:=g) rfl j u hj
   exact(HO.out.2.2.1.trans (Fr.drew w1) (by simp)).cellE h8
  have hone:∀u ∈ (us.map fun t=>ptrV t.p),u.oneCell'=true:=fun u hu=>by
   obtain⟨t,_,rfl⟩:=List.mem_map.1 hu
   rfl
  have hmk:∀(w9:World) (g9 cap9:Nat),Fr [] w w9→w9.ownsRow 0 26 1 (.slice (some ⟨g9,0,none⟩) (1+n) cap9) (1+n) ([.pointer hq]++us.map fun t=>ptrV t.p) →
    Calls Tryz.prog 31 #[.int .u8 8,.complex .f64 x1 y1,.string ⟨#[]⟩,.int .i64 0,.slice (some ⟨g9,0,none⟩) (1+n) cap9] w9 fun e w'=>∃u,e=.returned (ptrV u.p)∧Fr [] w9 w'∧IsT w' (b≤·) u∧u.dt=.node (nd 8 t [] 0) ((o.map Tr.dt).getD dt0::us.map Tr.dt):=fun w9 g9 cap9 F9 hown=>by
   refine zBj w9 (nd 8 t [] 0) _ (o::us.map some) b (zDc ?_ (by simp [hnl];omega)) (by simp [hnl];omega) (fun x hx=>?_) (by have:=F9.size;omega) (by simp [nd]) _ HO.out.2.1 ⟨#[]⟩ rfl 8 rfl 0 rfl _ ?_
   ·rw [List.map_cons,zKg,HO.out.1]
    exact hown
   ·rcases List.mem_cons.1 hx with h | h
    ·exact(HO.out.2.2.2.2.1 x h.symm).fr F9 (by simp)
    ·obtain⟨x',hx',e⟩:=List.mem_map.1 h
     obtain rfl:x'=x:=Option.some.inj e
     exact(HO.out.2.2.2.2.2.1.t x' hx').fr F9 (by simp)
   ·rw [List.map_cons,zOy]
  have cd1:=HO.out.2.2.1.cellE cd
  have cp1:=HO.out.2.2.1.cellE cp
  have hown1:=zAf HO.out.2.2.2.1 (Fr.drew w1) (by simp)
  have HBX:=oH (oA HO.out.2.2.1 (oA hown1 (oA hnl (oA hnews (oA hone (oA hmk HO.out.2.2.2.2.2.2))))))
  clear hv hown1 hnews hone hmk hn hnl HO
  go_enter Tryz.func154,Tryz.ntmps154
  go_wp2_with fail
  refine wp_region_held_drew (S:=fun w'=>w'.cell? ⟨bd,0,none⟩=some (.func (.func done.f) done.first done.caps)∧w'.cell? ⟨bp,0,none⟩=some (.complex .f64 x1 y1)) (by kernel_rfl) ?_ (fun hHeld=>?_)
  ·exact⟨cd,cp⟩
  refine wpAnyH_take (i:=0) (v:=?_) rfl (by kernel_rfl) (by kernel_rfl) (by kernel_rfl) (fun _ _ _ h=>h) (Or.inl ⟨by rfl,?_⟩) (by assumption) ?_
  rotate_left
  ·intro w hSw;(try dsimp only at hSw);go_simp;try with_reducible rfl
  simp only[Act.put,oB,oC,oD,oE,oF,oG]
  refine wpAnyH_take (i:=1) (v:=?_) rfl (by kernel_rfl) (by kernel_rfl) (by kernel_rfl) (fun _ _ _ h=>h) (Or.inl ⟨by rfl,?_⟩) (by assumption) ?_
  rotate_left
  ·intro w hSw;(try dsimp only at hSw);go_simp;try with_reducible rfl
  simp only[Act.put,oB,oC,oD,oE,oF,oG]
  refine wpAnyH_take (i:=4) (v:=?_) rfl (by kernel_rfl) (by kernel_rfl) (by kernel_rfl) (fun _ _ _ h=>h) (Or.inl ⟨by rfl,?_⟩) (by assumption) ?_
  rotate_left
  ·intro w hSw;(try dsimp only at hSw);go_simp;try with_reducible rfl
  simp only[Act.put,oB,oC,oD,oE,oF,oG]
  refine wpAnyH_ready (rs:=[2]) (by kernel_rfl) (by simp) ?_
  refine AllReadyH.cons rfl (fun K hK=>?_) ?_
  rotate_left
  ·exact AllReadyH.nil
  go_simp
  refine hK.out _ _ (hHeld) (fun hHeld=>?_)
  clear hK K
  try simp only[Act.put,oB,oC,oD,oE,oF,oG]
  refine wpAnyH_ready (rs:=[3]) (by kernel_rfl) (by simp) ?_
  refine AllReadyH.cons rfl (fun K hK=>?_) ?_
  rotate_left
  ·exact AllReadyH.nil
  go_simp
  refine hK.out _ _ (⟨cd1,cp1⟩) (fun hHeld=>?_)
  clear hK K
  try simp only[Act.put,oB,oC,oD,oE,oF,oG]
  refine wpAnyH_ready (rs:=[5]) (by kernel_rfl) (by simp) ?_
  refine AllReadyH.cons rfl (fun K hK=>?_) ?_
  rotate_left
  ·exact AllReadyH.nil
  refine step_append_lies _ (by rfl) _ _ _ (by rfl) 0 26 i1 (.pointer none) 1 8 Tryz.underlying38 hi hz0 hz1 hz2 (by rfl) (by decide) (.slice (some ⟨w.heap.size,0,none⟩) 1 1) 1 [.pointer hq] (by rfl) HBX.out.2.1 ⟨g,0,none⟩ n cap (us.map fun t=>ptrV t.p) (by rfl) (by simp [HBX.out.2.2.1]) HBX.out.2.2.2.1 HBX.out.2.2.2.2.1 (by omega) (by unfold maxLen;omega) (by omega) (Nat.zero_le _) w1.heap.size rfl ?_
  intro g9 cap9 w9 hown9 hgrow hat hlt9
  have F9:Fr [] w w9:=(HBX.out.1.trans (Fr.drew w1) (by simp)).trans (Fr.of_grown hgrow) (fun j hj=>.inr (by simp [Value.ownBlock] at hj;omega))
  have cd9:=F9.cellE cd
  have cp9:=F9.cellE cp
  have HN:=HBX.out.2.2.2.2.2.1 w9 g9 cap9 F9 hown9
  have H9:=oH F9
  clear hown9 hgrow hat hlt9 F9
  refine hK.out _ _ (⟨cd9,cp9⟩) (fun hHeld=>?_)
  clear hK K
  try simp only[Act.put,oB,oC,oD,oE,oF,oG]
  refine wpAnyH_ready (rs:=[6]) (by kernel_rfl) (by simp) ?_
  refine AllReadyH.cons rfl (fun K hK=>?_) ?_
  rotate_left
  ·exact AllReadyH.nil
  go_simp
  refine HN.mono ?_
  rintro e w3 ⟨u,rfl,F3,hu,hud⟩
  have FF:=H9.out.trans F3 (by simp)
  obtain⟨hE,hC⟩:=HBX.out.2.2.2.2.2.2 u w3 FF hu hud
  have hRn:=zAe hE
  have HK:=oH (Kn.fr0 FF)
  have cd3:=FF.cellE cd
  have cp3:=FF.cellE cp
  clear hE FF F3 hu hud HN
  simp only [ptrV] at hC ⊢
  go_wp2_with fail
  refine hK.out _ _ (⟨cd3,cp3⟩) (fun hHeld=>?_)
  clear hK K
  try simp only[Act.put,oB,oC,oD,oE,oF,oG]
  refine wpAnyH_ready (rs:=[7]) (by kernel_rfl) (by simp) ?_
  refine AllReadyH.cons rfl (fun K hK=>?_) ?_
  rotate_left
  ·exact AllReadyH.nil
  go_simp
  refine hC.mono ?_
  rintro e w4 ⟨s,rfl,hk2,hr⟩
  have cd4:=zBz HVV.out.1 (HK.out.trans hk2)
  have cp4:=zBz HVV.out.2 (HK.out.trans hk2)
  go_wp2_with fail
  refine hK.out _ _ (⟨cd4,cp4⟩) (fun hHeld=>?_)
  clear hK K
  try simp only[Act.put,oB,oC,oD,oE,oF,oG]
  refine wpAnyH_take (i:=8) (v:=?_) rfl (by kernel_rfl) (by kernel_rfl) (by kernel_rfl) (fun _ _ _ h=>h) (Or.inl ⟨by rfl,?_⟩) (by assumption) ?_
  rotate_left
  ·intro w hSw;(try dsimp only at hSw);go_simp;try with_reducible rfl
  simp only[Act.put,oB,oC,oD,oE,oF,oG]
  refine wpAnyH_done (by kernel_rfl) ?_ _
  go_wp2_with fail
  go_ret
  exact zAv (HK.out.trans hk2) hr
theorem zPa:Enters 146:=⟨_,_,Tryz.func146,by kernel_rfl,rfl⟩
theorem qCm (c:Cx) (bd bp j b:Nat) (done:FV) (Post:World→Prop) (t:TK) (us:List Tr) (v:Value) (w:World) (pv:Value) (hbd:Var w bd 124 done.val) (hbp:Var w bp 37 pv) (hp:posV t.2.1.1 t.2.1.2=pv)
  (hv:LsAt w b v us) (hb:b≤w.heap.size)
  (hG:∀u w',Fr [] w w'→IsT w' (b≤·) u→u.dt=.node (nd 29 t [] 0) (us.map Tr.dt)→Goes c.B done (ptrV u.p) w' Post) :
  Calls Tryz.prog 146 #[v,pt bd,pt bp] w (GP c.B Post w):=by
 obtain⟨x1,y1,e1⟩:=zAc t.2.1.1 t.2.1.2
 rw [hp] at e1
 subst e1
 have cd:=hbd.c
 have cp:=hbp.c
 have hvd:LsAt w.drew b v us:=⟨zAf hv.row (Fr.drew w) (by simp),fun t ht=>(hv.t t ht).fr (Fr.drew w) (by simp),hv.le,hv.nil⟩
 have HN:=zBj w.drew (nd 29 t [] 0) v (us.map some) b hvd.argL (by have:=hv.le;simp;omega) (fun x hx=>by
   obtain⟨x',hx',e⟩:=List.mem_map.1 hx
   obtain rfl:x'=x:=Option.some.inj e
   exact hvd.t x' hx') hb (by simp [nd]) _ hp ⟨#[]⟩ rfl 29 rfl 0 rfl (us.map Tr.dt) (zOy us)
 have HG:=oH hG
 obtain⟨q,n,cap,hq⟩:∃q n cap,v=.slice q n cap:=by
  rcases hv.row.2 with⟨h1,h2⟩ | ⟨g,cap,cur,h1,_⟩
  ·exact⟨_,_,_,h1⟩
  ·exact⟨_,_,_,h1⟩
 subst hq
 have HVV:=oH (oA hbd hbp)
 clear hbd hbp hp hv hG hvd
 simp only [pt]
 go_enter Tryz.func146,Tryz.ntmps146
 go_wp2_with fail
 refine wp_region_held_drew (S:=fun w'=>w'.cell? ⟨bd,0,none⟩=some (.func (.func done.f) done.first done.caps)∧w'.cell? ⟨bp,0,none⟩=some (.complex .f64 x1 y1)) (by kernel_rfl) ?_ (fun hHeld=>?_)
 ·exact⟨cd,cp⟩
 refine wpAnyH_take (i:=0) (v:=?_) rfl (by kernel_rfl) (by kernel_rfl) (by kernel_rfl) (fun _ _ _ h=>h) (Or.inl ⟨by rfl,?_⟩) (by assumption) ?_
 rotate_left
 ·intro w hSw;(try dsimp only at hSw);go_simp;try with_reducible rfl
 simp only[Act.put,oB,oC,oD,oE,oF,oG]
 refine wpAnyH_take (i:=1) (v:=?_) rfl (by kernel_rfl) (by kernel_rfl) (by kernel_rfl) (fun _ _ _ h=>h) (Or.inl ⟨by rfl,?_⟩) (by assumption) ?_
 rotate_left
 ·intro w hSw;(try dsimp only at hSw);go_simp;try with_reducible rfl
 simp only[Act.put,oB,oC,oD,oE,oF,oG]
 refine wpAnyH_take (i:=2) (v:=?_) rfl (by kernel_rfl) (by kernel_rfl) (by kernel_rfl) (fun _ _ _ h=>h) (Or.inl ⟨by rfl,?_⟩) (by assumption) ?_
 rotate_left
 ·intro w hSw;(try dsimp only at hSw);go_simp;try with_reducible rfl
 simp only[Act.put,oB,oC,oD,oE,oF,oG]
 refine wpAnyH_ready (rs:=[3]) (by kernel_rfl) (by simp) ?_
 refine AllReadyH.cons rfl (fun K hK=>?_) ?_
 rotate_left
 ·exact AllReadyH.nil
 go_simp
 refine HN.mono ?_
 rintro e w3 ⟨u,rfl,F3,hu,hud⟩
 have FF:=(Fr.drew w).trans F3 (by simp)
 obtain⟨hE,hC⟩:=HG.out u w3 FF hu hud
 have hRn:=zAe hE
 have HK:=oH (Kn.fr0 FF)
 have cd3:=FF.cellE cd
 have cp3:=FF.cellE cp
 clear hE FF F3 hu hud HN
 simp only [ptrV] at hC ⊢
 go_wp2_with fail
 refine hK.out _ _ (⟨cd3,cp3⟩) (fun hHeld=>?_)
 clear hK K
 try simp only[Act.put,oB,oC,oD,oE,oF,oG]
 refine wpAnyH_ready (rs:=[4]) (by kernel_rfl) (by simp) ?_
 refine AllReadyH.cons rfl (fun K hK=>?_) ?_
 rotate_left
 ·exact AllReadyH.nil
 go_simp
 refine hC.mono ?_
 rintro e w4 ⟨s,rfl,hk2,hr⟩
 have cd4:=zBz HVV.out.1 (HK.out.trans hk2)
 have cp4:=zBz HVV.out.2 (HK.out.trans hk2)
 go_wp2_with fail
 refine hK.out _ _ (⟨cd4,cp4⟩) (fun hHeld=>?_)
 clear hK K
 try simp only[Act.put,oB,oC,oD,oE,oF,oG]
 refine wpAnyH_take (i:=5) (v:=?_) rfl (by kernel_rfl) (by kernel_rfl) (by kernel_rfl) (fun _ _ _ h=>h) (Or.inl ⟨by rfl,?_⟩) (by assumption) ?_
 rotate_left
 ·intro w hSw;(try dsimp only at hSw);go_simp;try with_reducible rfl
 simp only[Act.put,oB,oC,oD,oE,oF,oG]
 refine wpAnyH_done (by kernel_rfl) ?_ _
 go_wp2_with fail
 go_ret
 exact zAv (HK.out.trans hk2) hr
theorem zRv:Enters 158:=⟨_,_,Tryz.func158,by kernel_rfl,rfl⟩
theorem el77 (c:Cx) (bd bp bx b:Nat) (done:FV) (Post:World→Prop) (t:TK) (x y:Tr) (w:World) (pv:Value) (hbd:Var w bd 124 done.val) (hbp:Var w bp 37 pv) (hp:posV t.2.1.1 t.2.1.2=pv) (hbx:Var w bx 26 (ptrV x.p))
  (hx:IsT w (b≤·) x) (hy:IsT w (b≤·) y) (hb:b≤w.heap.size)
  (hG:∀u w',Fr [] w w'→IsT w' (b≤·) u→u.dt=.node (nd 9 t [] 0) [x.dt,y.dt]→Goes c.B done (ptrV u.p) w' Post) :
  Calls Tryz.prog 158 #[ptrV y.p,pt bd,pt bp,pt bx] w (GP c.B Post w):=by
 obtain⟨x1,y1,e1⟩:=zAc t.2.1.1 t.2.1.2
 rw [hp] at e1
 subst e1
 have cd:=hbd.c
 have cp:=hbp.c
 have cx:=hbx.c
 obtain⟨w1,hw1⟩:∃w1,(w.alloc (.cells #[.pointer (some ⟨x.p,0,none⟩),.pointer (some ⟨y.p,0,none⟩)] 26))=w1:=⟨_,rfl⟩
 have F1:Fr [] w w1:=by rw [← hw1];exact Fr.alloc _ _
 have hA:ArgL w1.drew (.slice (some ⟨w.heap.size,0,none⟩) 2 2) [some x,some y]:=by rw [← hw1];exact zIz w x y
 have F1d:=F1.trans (Fr.drew w1) (by simp)
 have HN:=zBj w1.drew (nd 9 t [] 0) _ [some x,some y] b hA (by simp) (fun u hu=>by
   have:u=x∨u=y:=by simpa using hu
   rcases this with rfl | rfl
   ·exact hx.fr F1d (by simp)
   ·exact hy.fr F1d (by simp)) (by have:=F1d.size;omega) (by simp [nd]) _ hp ⟨#[]⟩ rfl 9 rfl 0 rfl [x.dt,y.dt] rfl
 have HG:=oH (oA hG F1d)
 have HVV:=oH (oA hbd hbp)
 have cd1:=F1.cellE cd
 have cp1:=F1.cellE cp
 clear hbd hbp hp hbx hx hy hG hA F1 F1d
 simp only [pt,ptrV] at cx ⊢
 go_enter Tryz.func158,Tryz.ntmps158
 go_wp2_with fail
 refine wp_region_held_drew (S:=fun w'=>w'.cell? ⟨bd,0,none⟩=some (.func (.func done.f) done.first done.caps)∧w'.cell? ⟨bp,0,none⟩=some (.complex .f64 x1 y1)) (by kernel_rfl) ?_ (fun hHeld=>?_)
 ·exact⟨cd,cp⟩
 refine wpAnyH_take (i:=0) (v:=?_) rfl (by kernel_rfl) (by kernel_rfl) (by kernel_rfl) (fun _ _ _ h=>h) (Or.inl ⟨by rfl,?_⟩) (by assumption) ?_
 rotate_left
 ·intro w hSw;(try dsimp only at hSw);go_simp;try with_reducible rfl
 simp only[Act.put,oB,oC,oD,oE,oF,oG]
 refine wpAnyH_take (i:=1) (v:=?_) rfl (by kernel_rfl) (by kernel_rfl) (by kernel_rfl) (fun _ _ _ h=>h) (Or.inl ⟨by rfl,?_⟩) (by assumption) ?_
 rotate_left
 ·intro w hSw;(try dsimp only at hSw);go_simp;try with_reducible rfl
 simp only[Act.put,oB,oC,oD,oE,oF,oG]
 refine wpAnyH_take (i:=3) (v:=?_) rfl (by kernel_rfl) (by kernel_rfl) (by kernel_rfl) (fun _ _ _ h=>h) (Or.inl ⟨by rfl,?_⟩) (by assumption) ?_
 rotate_left
 ·intro w hSw;(try dsimp only at hSw);go_simp;try with_reducible rfl
 simp only[Act.put,oB,oC,oD,oE,oF,oG]
 refine wpAnyH_ready (rs:=[2]) (by kernel_rfl) (by simp) ?_
 refine AllReadyH.cons rfl (fun K hK=>?_) ?_
 rotate_left
 ·exact AllReadyH.nil
 go_simp
 refine hK.out _ _ (hHeld) (fun hHeld=>?_)
 clear hK K
 try simp only[Act.put,oB,oC,oD,oE,oF,oG]
 refine wpAnyH_ready (rs:=[4]) (by kernel_rfl) (by simp) ?_
 refine AllReadyH.cons rfl (fun K hK=>?_) ?_
 rotate_left
 ·exact AllReadyH.nil
 go_simp
 refine hK.out _ _ (⟨cd1,cp1⟩) (fun hHeld=>?_)
 clear hK K
 try simp only[Act.put,oB,oC,oD,oE,oF,oG]
 refine wpAnyH_ready (rs:=[5]) (by kernel_rfl) (by simp) ?_
 refine AllReadyH.cons rfl (fun K hK=>?_) ?_
 rotate_left
 ·exact AllReadyH.nil
 go_simp
 refine HN.mono ?_
 rintro e w3 ⟨u,rfl,F3,hu,hud⟩
 have FF:=(HG.out.2).trans F3 (by simp)
 obtain⟨hE,hC⟩:=HG.out.1 u w3 FF hu hud
 have hRn:=zAe hE
 have HK:=oH (Kn.fr0 FF)
 have cd3:=FF.cellE cd
 have cp3:=FF.cellE cp
 clear hE FF F3 hu hud HN
 simp only [ptrV] at hC ⊢
 go_wp2_with fail
 refine hK.out _ _ (⟨cd3,cp3⟩) (fun hHeld=>?_)
 clear hK K
 try simp only[Act.put,oB,oC,oD,oE,oF,oG]
 refine wpAnyH_ready (rs:=[6]) (by kernel_rfl) (by simp) ?_
 refine AllReadyH.cons rfl (fun K hK=>?_) ?_
 rotate_left
 ·exact AllReadyH.nil
 go_simp
 refine hC.mono ?_
 rintro e w4 ⟨s,rfl,hk2,hr⟩
 have cd4:=zBz HVV.out.1 (HK.out.trans hk2)
 have cp4:=zBz HVV.out.2 (HK.out.trans hk2)
 go_wp2_with fail
 refine hK.out _ _ (⟨cd4,cp4⟩) (fun hHeld=>?_)
 clear hK K
 try simp only[Act.put,oB,oC,oD,oE,oF,oG]
 refine wpAnyH_take (i:=7) (v:=?_) rfl (by kernel_rfl) (by kernel_rfl) (by kernel_rfl) (fun _ _ _ h=>h) (Or.inl ⟨by rfl,?_⟩) (by assumption) ?_
 rotate_left
 ·intro w hSw;(try dsimp only at hSw);go_simp;try with_reducible rfl
 simp only[Act.put,oB,oC,oD,oE,oF,oG]
 refine wpAnyH_done (by kernel_rfl) ?_ _
 go_wp2_with fail
 go_ret
 exact zAv (HK.out.trans hk2) hr
end Go.Proofs.YtepfknfadpkigaaGreat
namespace Go.Proofs.YtepfknfadpkigaaGreat
open Go.RowKit
set_option maxHeartbeats 2000000
set_option maxRecDepth 100000
theorem tkE (t:TK):∃px py ex ey,posV t.2.1.1 t.2.1.2=.complex .f64 px py∧posV t.2.2.1 t.2.2.2=.complex .f64 ex ey:=by
 obtain⟨px,py,h1⟩:=zAc t.2.1.1 t.2.1.2
 obtain⟨ex,ey,h2⟩:=zAc t.2.2.1 t.2.2.2
 exact⟨px,py,ex,ey,h1,h2⟩
theorem qCn:Enters 157:=⟨_,_,Tryz.func157,by kernel_rfl,rfl⟩
def fv76 (br bd bp:Nat):FV:=⟨157,#[],#[pt br,pt bd,pt bp]⟩
def fv77 (bd bp bx:Nat):FV:=⟨158,#[],#[pt bd,pt bp,pt bx]⟩
theorem el76 (c:Cx) (E:Nat→Re) (ef done:FV) (Post:World→Prop) (hev:c.ev=ef.val) (hE:Lev c ef E) (br bd bp b j:Nat) (t:TK) (x:Tr) (w:World) (pv:Value) (hX:RX c w j) (hbr:Var w br 112 (pt c.R)) (hbd:Var w bd 124 done.val) (hbp:Var w bp 37 pv) (hp:posV t.2.1.1 t.2.1.2=pv)
  (hx:IsT w (b≤·) x) (hR:c.R < b) (hb:b≤w.heap.size)
  (hT:Then c b w (elTl c.ts E t x.dt j) done Post) :
  Calls Tryz.prog 157 #[ptrV x.p,pt br,pt bd,pt bp] w (GP c.B Post w):=by
 obtain⟨w0,hw0⟩:∃w0,w.alloc (.cells #[.pointer (some ⟨x.p,0,none⟩)] 26)=w0:=⟨_,rfl⟩
 have F0:Fr [] w w0:=by rw [← hw0];exact Fr.alloc _ _
 have hz0:w0.heap.size=w.heap.size+1:=by rw [← hw0];simp
 have hb0:Var w0 w.heap.size 26 (ptrV x.p):=by rw [← hw0];exact heap_alloc_new _ _
 have hv0:=hb0
 have FB:Fr [] w w0:=F0
 have XB:=hX.keep FB
 clear F0 hb0
 have hbr0:=hbr.keep FB (by simp)
 have cr:=hbr0.c
 cases hs:isS (tk c.ts j) [46,46] with
 | false =>
  have HT:=zBy c w0 j [46,46] XB hs
  have HH:=oH (oA hX (oA FB (oA (hbd.keep FB (by simp)) (oA hv0 (oA hx hT)))))
  clear hX FB XB hbr hbd hbp hp hx hT hev hE hv0 hbr0
  simp only [ptrV,pt] at cr ⊢
  go_enter Tryz.func157,Tryz.ntmps157
  go_wp2_with fail
  refine HT.mono ?_
  rintro e w1 ⟨rfl,F1⟩
  obtain⟨hX,FB,hbd0,hv0,hx,hT⟩:=HH.out
  have FF:=FB.trans F1 (by simp)
  have hC0:Goes c.B done (ptrV x.p) w1 Post:=hT.ok x.dt j (by simp [elTl,hs]) x w1 (hX.fc FF).up (hX.keep FF) (hx.fr FF (by simp)) rfl
  obtain⟨hEn,hC⟩:=hC0
  have hRn:=zAe hEn
  have cd:=(hbd0.keep F1 (by simp)).c
  have cx:=(hv0.keep F1 (by simp)).c
  have HK:=oH (Kn.fr0 FF)
  clear hEn hX FB hbd0 hv0 hx hT FF F1 HT HH
  simp only [ptrV] at hC cx
  go_wp2_with fail
  refine hC.mono ?_
  rintro e w' ⟨s,rfl,hk2,hr⟩
  go_wp2_with fail
  go_ret
  exact zAv (HK.out.trans hk2) hr
 | true =>
  have HT:=zCo c w0 j [46,46] XB hs
  have HH:=oH (oA hX (oA FB (oA (hbd.keep FB (by simp)) (oA hv0 (oA hx (oA hT (oA hev (oA hE (oA hbr0 (oA (hbp.keep FB (by simp)) (oA hp XB)))))))))))
  clear hX FB XB hbr hbd hbp hp hx hT hev hE hv0 hbr0
  simp only [ptrV,pt] at cr ⊢
  go_enter Tryz.func157,Tryz.ntmps157
  go_wp2_with fail
  refine HT.mono ?_
  rintro e w1 ⟨rfl,F1,X1⟩
  obtain⟨hX,FB,hbd0,hv0,hx,hT,hev,hE,hbr0,hbp0,hp,XB⟩:=HH.out
  have G1:=XB.fcR F1
  have GF:=(hX.fc FB).up.on G1
  have hbd1:=hbd0.stay XB G1
  have hbp1:=hbp0.stay XB G1
  have hv1:=hv0.stay XB G1
  have hC0:Goes c.B ef (fv77 bd bp w.heap.size).val w1 Post:=by
   refine hE w1 (j+1) _ Post b X1 hR (by have:=GF.size;omega) ⟨fun d k e y w2 F2 X2 hy hyd=>?_,fun k e w2 F2 X2=>?_,fun e=>?_⟩
   ·refine⟨zRv,?_⟩
    show Calls Tryz.prog 158 #[ptrV y.p,pt bd,pt bp,pt w.heap.size] w2 (GP c.B Post w2)
    refine el77 c bd bp w.heap.size b done Post t x y w2 pv (hbd1.stay X1 F2) (hbp1.stay X1 F2) hp (hv1.stay X1 F2) ((hx.stay hR GF).stay hR F2) hy (by have:=GF.size;have:=F2.size;omega) (fun u w3 F3 hu hud=>?_)
    subst hyd
    exact hT.ok (.node (nd 9 t [] 0) [x.dt,y.dt]) k (by simp only [elTl,hs,if_true,e]) u w3 ((GF.on F2).on (X2.fc F3).up) (X2.keep F3) hu hud
   ·exact hT.bad k (by simp only [elTl,hs,if_true,e]) w2 (GF.on F2) X2
   ·exact hT.no (by simp only [elTl,hs,if_true,e])
  obtain⟨hEn,hC⟩:=hC0
  have hRn:=zAe hEn
  have cr1:=(hbr0.stay XB G1).c
  have ce:=X1.c2
  rw [hev] at ce
  have HK:=oH ((Kn.fr0 FB).trans (XB.knR F1))
  clear hEn hX FB hbd0 hv0 hx hT hev hE hbr0 hbp0 hp XB G1 GF hbd1 hbp1 hv1 F1 X1 HT HH cr
  simp only [fv77,FV.val,pt] at hC cr1
  go_wp2_with fail
  refine hC.mono ?_
  rintro e w' ⟨s,rfl,hk2,hr⟩
  go_wp2_with fail
  go_ret
  exact zAv (HK.out.trans hk2) hr
def elFV (c:Cx):FV:=⟨145,#[pt c.R],#[]⟩
theorem qCo:Enters 145:=⟨_,_,Tryz.func145,by kernel_rfl,rfl⟩
theorem zLl (c:Cx) (E:Nat→Re) (ef:FV) (hev:c.ev=ef.val) (hE:Lev c ef E):Lev c (elFV c) (elemM c.ts E):=by
 intro w i done Post b hX hR hb hT
 refine⟨qCo,?_⟩
 show Calls Tryz.prog 145 #[pt c.R,done.val] w (GP c.B Post w)
 obtain⟨w0,hw0⟩:∃w0,w.alloc (.cells #[.pointer (some ⟨c.R,0,none⟩)] 112)=w0:=⟨_,rfl⟩
 have F0:Fr [] w w0:=by rw [← hw0];exact Fr.alloc _ _
 have hz0:w0.heap.size=w.heap.size+1:=by rw [← hw0];simp
 have hb0:Var w0 w.heap.size 112 (pt c.R):=by rw [← hw0];exact heap_alloc_new _ _
 obtain⟨w1,hw1⟩:∃w1,w0.alloc (.cells #[done.val] 124)=w1:=⟨_,rfl⟩
 have F1:Fr [] w0 w1:=by rw [← hw1];exact Fr.alloc _ _
 have hz1:w1.heap.size=w.heap.size+2:=by rw [← hw1];simp [hz0]
 have hb1:Var w1 (w.heap.size+1) 124 done.val:=by rw [← hw1,← hz0];exact heap_alloc_new _ _
 have hv0:=(hb0.keep F1 (by simp))
 have hv1:=hb1
 have FB:Fr [] w w1:=(F0.trans F1 (by simp))
 have XB:=hX.keep FB
 clear F0 F1 hb0 hb1
 obtain⟨px,py,ex,ey,hpx,hex⟩:=tkE (tk c.ts i)
 have H1:=zBh c w1 i XB
 rw [zCx hpx hex] at H1
 have hf1:=zBb
 have hsc:=fun w a x y m=>zAg (P:=Tryz.prog) w a .f64 x y m
 have cr:=hv0.c
 have HH:=oH (oA hX (oA FB (oA XB (oA hv0 (oA hv1 (oA hT (oA hev (oA hE hpx))))))))
 clear hX FB XB hv0 hv1 hT hev hE hpx hex
 simp only [pt] at cr ⊢
 go_enter Tryz.func145,Tryz.ntmps145
 go_wp2_with fail
 refine H1.mono ?_
 rintro e w3 ⟨rfl,F3⟩
 obtain⟨hX,FB,XB,hv0,hv1,hT,hev,hE,hpx⟩:=HH.out
 obtain⟨w4,hw4⟩:∃w4,w3.alloc (.cells #[.complex .f64 px py] 37)=w4:=⟨_,rfl⟩
 have F4:Fr [] w3 w4:=by rw [← hw4];exact Fr.alloc _ _
 have hp4:Var w4 w3.heap.size 37 (.complex .f64 px py):=by rw [← hw4];exact heap_alloc_new _ _
 have F14:=F3.trans F4 (by simp)
 have X4:=XB.keep F14
 have FF:=FB.trans F14 (by simp)
 have hr4:=hv0.keep F14 (by simp)
 have hd4:=hv1.keep F14 (by simp)
 have hC0:Goes c.B ef (fv76 w.heap.size (w.heap.size+1) w3.heap.size).val w4 Post:=by
  refine hE w4 i _ Post b X4 hR (by have:=FF.size;omega) ⟨fun d k e y w5 F5 X5 hy hyd=>?_,fun k e w5 F5 X5=>?_,fun e=>?_⟩
  ·refine⟨qCn,?_⟩
   show Calls Tryz.prog 157 #[ptrV y.p,pt w.heap.size,pt (w.heap.size+1),pt w3.heap.size] w5 (GP c.B Post w5)
   refine el76 c E ef done Post hev hE _ _ _ b k (tk c.ts i) y w5 _ X5 (hr4.stay X4 F5) (hd4.stay X4 F5) (hp4.stay X4 F5) hpx hy hR (by have:=FF.size;have:=F5.size;omega) ?_
   have:=hT.on ((hX.fc FF).up.on F5)
   simpa only [elemM,e,hyd] using this
  ·exact hT.bad k (by simp only [elemM,e]) w5 ((hX.fc FF).up.on F5) X5
  ·exact hT.no (by simp only [elemM,e])
 obtain⟨hEn,hC⟩:=hC0
 have hRn:=zAe hEn
 have cr4:=hr4.c
 have ce:=X4.c2
 rw [hev] at ce
 have HK:=oH (Kn.fr0 FF)
 clear hEn hX FB XB hv0 hv1 hT hev hE hpx F4 hp4 F14 X4 FF hr4 hd4 F3 H1 HH cr
 simp only [fv76,FV.val,pt] at hC cr4
 go_wp2_with fail
 refine hC.mono ?_
 rintro e w' ⟨s,rfl,hk2,hr⟩
 go_wp2_with fail
 go_ret
 exact zAv (HK.out.trans hk2) hr
def zZg (bd bp bx:Nat):FV:=⟨159,#[],#[pt bd,pt bp,pt bx]⟩
def zZh (bd bp bx:Nat):FV:=⟨154,#[],#[pt bd,pt bp,pt bx]⟩
theorem zRw (c:Cx) (E:Nat→Re) (ef done:FV) (Post:World→Prop) (hev:c.ev=ef.val) (hE:Lev c ef E) (hmono:∀i d j,E i=.ok d j→i < j) (b i:Nat) (x:Tr) (w:World) (hX:RX c w i) (hi:i < c.ts.length) (hx:IsT w (b≤·) x) (hR:c.R < b) (hb:b≤w.heap.size)
  (hT:Then c b w (callM c.ts E x.dt i) done Post) :
  Calls Tryz.prog 152 #[pt c.R,ptrV x.p,done.val] w (GP c.B Post w):=by
 obtain⟨w0,hw0⟩:∃w0,w.alloc (.cells #[.pointer (some ⟨x.p,0,none⟩)] 26)=w0:=⟨_,rfl⟩
 have F0:Fr [] w w0:=by rw [← hw0];exact Fr.alloc _ _
 have hz0:w0.heap.size=w.heap.size+1:=by rw [← hw0];simp
 have hb0:Var w0 w.heap.size 26 (ptrV x.p):=by rw [← hw0];exact heap_alloc_new _ _
 obtain⟨w1,hw1⟩:∃w1,w0.alloc (.cells #[done.val] 124)=w1:=⟨_,rfl⟩
 have F1:Fr [] w0 w1:=by rw [← hw1];exact Fr.alloc _ _
 have hz1:w1.heap.size=w.heap.size+2:=by rw [← hw1];simp [hz0]
 have hb1:Var w1 (w.heap.size+1) 124 done.val:=by rw [← hw1,← hz0];exact heap_alloc_new _ _
 have hv0:=(hb0.keep F1 (by simp))
 have hv1:=hb1
 have FB:Fr [] w w1:=(F0.trans F1 (by simp))
 have XB:=hX.keep FB
 clear F0 F1 hb0 hb1
 obtain⟨px,py,ex,ey,hpx,hex⟩:=tkE (tk c.ts i)
 have H1:=zBh c w1 i XB
 rw [zCx hpx hex] at H1
 have hf1:=zBb
 have hsc:=fun w a x y m=>zAg (P:=Tryz.prog) w a .f64 x y m
 have HH:=oH (oA hX (oA FB (oA XB (oA hv0 (oA hv1 (oA hT (oA hev (oA hE (oA hpx hx)))))))))
 clear hX FB XB hv0 hv1 hT hev hE hpx hex hx
 simp only [pt,ptrV]
 go_enter Tryz.func152,Tryz.ntmps152
 go_wp2_with fail
 refine H1.mono ?_
 rintro e w3 ⟨rfl,F3⟩
 obtain⟨hX,FB,XB,hv0,hv1,hT,hev,hE,hpx,hx⟩:=HH.out
 obtain⟨w4,hw4⟩:∃w4,w3.alloc (.cells #[.complex .f64 px py] 37)=w4:=⟨_,rfl⟩
 have F4:Fr [] w3 w4:=by rw [← hw4];exact Fr.alloc _ _
 have hp4:Var w4 w3.heap.size 37 (.complex .f64 px py):=by rw [← hw4];exact heap_alloc_new _ _
 have F14:=F3.trans F4 (by simp)
 have X4:=XB.keep F14
 have FF:=FB.trans F14 (by simp)
 have hx4:=hv0.keep F14 (by simp)
 have hd4:=hv1.keep F14 (by simp)
 have hC:Calls Tryz.prog 153 #[pt c.R,.string ⟨#[41]⟩,ef.val,(zZg (w.heap.size+1) w3.heap.size w.heap.size).val] w4 (GP c.B Post w4):=by
  refine zGy c [41] E ef _ Post b i w4 X4 hi hE hmono hR (by have:=FF.size;omega) ⟨fun ds j e us v w5 F5 X5 hv hvd=>?_,fun j e w5 F5 X5=>?_,fun e=>?_⟩
  ·refine⟨zKh,?_⟩
   show Calls Tryz.prog 159 #[v,pt (w.heap.size+1),pt w3.heap.size,pt w.heap.size] w5 (GP c.B Post w5)
   have G5:=(hX.fc FF).up.on F5
   refine zVl c _ _ _ j b done Post (tk c.ts i) (some x) us v w5 _ X5 (hd4.stay X4 F5) (hp4.stay X4 F5) hpx (hx4.stay X4 F5) (fun x' hx'=>?_) hv (by have:=FF.size;have:=F5.size;omega) (fun u w6 F6 hu hud=>?_)
   ·obtain rfl:x=x':=Option.some.inj hx'
    exact hx.stay hR G5
   ·subst hvd
    exact hT.ok (.node (nd 10 (tk c.ts i) [] 0) (x.dt::us.map Tr.dt)) j (by simp only [callM,e,ReL.re]) u w6 (G5.on (X5.fc F6).up) (X5.keep F6) hu hud
  ·exact hT.bad j (by simp only [callM,e,ReL.re]) w5 ((hX.fc FF).up.on F5) X5
  ·exact hT.no (by simp only [callM,e,ReL.re])
 have ce:=X4.c2
 rw [hev] at ce
 have HK:=oH (Kn.fr0 FF)
 clear hX FB XB hv0 hv1 hT hev hE hpx hx F4 hp4 F14 X4 FF hx4 hd4 F3 H1 HH
 simp only [zZg,FV.val,pt] at hC
 go_wp2_with fail
 refine hC.mono ?_
 rintro e w' ⟨s,rfl,hk2,hr⟩
 go_wp2_with fail
 go_ret
 exact zAv (HK.out.trans hk2) hr
theorem zPb (c:Cx) (E:Nat→Re) (ef done:FV) (Post:World→Prop) (hev:c.ev=ef.val) (hE:Lev c ef E) (hmono:∀i d j,elemM c.ts E i=.ok d j→i < j) (b i:Nat) (t:TK) (pv:Value) (hp:posV t.2.1.1 t.2.1.2=pv) (o:Option Tr) (w:World) (hX:RX c w i) (hi:i < c.ts.length) (ho:∀x,o=some x→IsT w (b≤·) x) (hR:c.R < b) (hb:b≤w.heap.size)
  (hT:Then c b w (setM c.ts E t (o.map Tr.dt) i) done Post) :
  Calls Tryz.prog 139 #[pt c.R,pv,encP (o.map Tr.p),done.val] w (GP c.B Post w):=by
 obtain⟨px,py,hpx⟩:=zAc t.2.1.1 t.2.1.2
 rw [hp] at hpx
 subst hpx
 obtain⟨q,hq⟩:∃q,encP (o.map Tr.p)=.pointer q:=by cases o <;> exact⟨_,rfl⟩
 obtain⟨w0,hw0⟩:∃w0,w.alloc (.cells #[.complex .f64 px py] 37)=w0:=⟨_,rfl⟩
 have F0:Fr [] w w0:=by rw [← hw0];exact Fr.alloc _ _
 have hz0:w0.heap.size=w.heap.size+1:=by rw [← hw0];simp
 have hb0:Var w0 w.heap.size 37 (.complex .f64 px py):=by rw [← hw0];exact heap_alloc_new _ _
 obtain⟨w1,hw1⟩:∃w1,w0.alloc (.cells #[.pointer q] 26)=w1:=⟨_,rfl⟩
 have F1:Fr [] w0 w1:=by rw [← hw1];exact Fr.alloc _ _
 have hz1:w1.heap.size=w.heap.size+2:=by rw [← hw1];simp [hz0]
 have hb1:Var w1 (w.heap.size+1) 26 (.pointer q):=by rw [← hw1,← hz0];exact heap_alloc_new _ _
 obtain⟨w2,hw2⟩:∃w2,w1.alloc (.cells #[done.val] 124)=w2:=⟨_,rfl⟩
 have F2:Fr [] w1 w2:=by rw [← hw2];exact Fr.alloc _ _
 have hz2:w2.heap.size=w.heap.size+3:=by rw [← hw2];simp [hz1]
 have hb2:Var w2 (w.heap.size+2) 124 done.val:=by rw [← hw2,← hz1];exact heap_alloc_new _ _
 have hv0:=((hb0.keep F1 (by simp)).keep F2 (by simp))
 have hv1:=(hb1.keep F2 (by simp))
 have hv2:=hb2
 have FB:Fr [] w w2:=((F0.trans F1 (by simp)).trans F2 (by simp))
 have XB:=hX.keep FB
 clear F0 F1 F2 hb0 hb1 hb2
 have hsc:=fun w a x y m=>zAg (P:=Tryz.prog) w a .f64 x y m
 have hC:Calls Tryz.prog 153 #[pt c.R,.string ⟨#[125]⟩,(elFV c).val,(zZh (w.heap.size+2) w.heap.size (w.heap.size+1)).val] w2 (GP c.B Post w2):=by
  refine zGy c [125] (elemM c.ts E) (elFV c) _ Post b i w2 XB hi (zLl c E ef hev hE) hmono hR (by have:=FB.size;omega) ⟨fun ds j e us v w5 F5 X5 hv hvd=>?_,fun j e w5 F5 X5=>?_,fun e=>?_⟩
  ·refine⟨zMu,?_⟩
   show Calls Tryz.prog 154 #[v,pt (w.heap.size+2),pt w.heap.size,pt (w.heap.size+1)] w5 (GP c.B Post w5)
   have G5:=(hX.fc FB).up.on F5
   refine zZf c _ _ _ j b done Post t o us v w5 _ X5 (hv2.stay XB F5) (hv0.stay XB F5) hp (by rw [hq];exact hv1.stay XB F5) (fun x' hx'=>(ho x' hx').stay hR G5) hv (by have:=FB.size;have:=F5.size;omega) (fun u w6 F6 hu hud=>?_)
   subst hvd
   exact hT.ok (.node (nd 8 t [] 0) ((o.map Tr.dt).getD dt0::us.map Tr.dt)) j (by simp only [setM,e,ReL.re]) u w6 (G5.on (X5.fc F6).up) (X5.keep F6) hu hud
  ·exact hT.bad j (by simp only [setM,e,ReL.re]) w5 ((hX.fc FB).up.on F5) X5
  ·exact hT.no (by simp only [setM,e,ReL.re])
 have HK:=oH (Kn.fr0 FB)
 rw [hq]
 clear hX FB XB hv0 hv1 hv2 hT hev hE hp ho hq
 simp only [zZh,elFV,FV.val,pt] at hC ⊢
 go_enter Tryz.func139,Tryz.ntmps139
 go_wp2_with fail
 refine hC.mono ?_
 rintro e w' ⟨s,rfl,hk2,hr⟩
 go_wp2_with fail
 go_ret
 exact zAv (HK.out.trans hk2) hr
def fv64 (bd bp:Nat):FV:=⟨146,#[],#[pt bd,pt bp]⟩
def laFV (c:Cx):FV:=⟨122,#[pt c.R],#[]⟩
theorem qCp:Enters 122:=⟨_,_,Tryz.func122,by kernel_rfl,rfl⟩
theorem zMv (c:Cx) (E:Nat→Re) (ef:FV) (hev:c.ev=ef.val) (hE:Lev c ef E) (hmono:∀i d j,elemM c.ts E i=.ok d j→i < j):Lev c (laFV c) (labM c.ts E):=by
 intro w i done Post b hX hR hb hT
 refine⟨qCp,?_⟩
 show Calls Tryz.prog 122 #[pt c.R,done.val] w (GP c.B Post w)
 obtain⟨w0,hw0⟩:∃w0,w.alloc (.cells #[done.val] 124)=w0:=⟨_,rfl⟩
 have F0:Fr [] w w0:=by rw [← hw0];exact Fr.alloc _ _
 have hz0:w0.heap.size=w.heap.size+1:=by rw [← hw0];simp
 have hb0:Var w0 w.heap.size 124 done.val:=by rw [← hw0];exact heap_alloc_new _ _
 have hv0:=hb0
 have FB:Fr [] w w0:=F0
 have XB:=hX.keep FB
 clear F0 hb0
 obtain⟨px,py,ex,ey,hpx,hex⟩:=tkE (tk c.ts i)
 have H1:=zBh c w0 i XB
 rw [zCx hpx hex] at H1
 have hf1:=zBb
 have hsc:=fun w a x y m=>zAg (P:=Tryz.prog) w a .f64 x y m
 have HH:=oH (oA hX (oA FB (oA XB (oA hv0 (oA hT (oA hev (oA hE hpx)))))))
 clear hX FB XB hv0 hT hev hE hpx hex
 simp only [pt]
 go_enter Tryz.func122,Tryz.ntmps122
 go_wp2_with fail
 refine H1.mono ?_
 rintro e w3 ⟨rfl,F3⟩
 obtain⟨hX,FB,XB,hv0,hT,hev,hE,hpx⟩:=HH.out
 obtain⟨w4,hw4⟩:∃w4,w3.alloc (.cells #[.complex .f64 px py] 37)=w4:=⟨_,rfl⟩
 have F4:Fr [] w3 w4:=by rw [← hw4];exact Fr.alloc _ _
 have hp4:Var w4 w3.heap.size 37 (.complex .f64 px py):=by rw [← hw4];exact heap_alloc_new _ _
 have F14:=F3.trans F4 (by simp)
 have X4:=XB.keep F14
 have FF:=FB.trans F14 (by simp)
 have hd4:=hv0.keep F14 (by simp)
 have hC:Calls Tryz.prog 144 #[pt c.R,(elFV c).val,(fv64 w.heap.size w3.heap.size).val] w4 (GP c.B Post w4):=by
  refine zLk c (elemM c.ts E) (elFV c) _ Post b i c.ts.length w4 X4 (zLl c E ef hev hE) hmono hR (by have:=FF.size;omega) ⟨fun ds j e us v w5 F5 X5 hv hvd=>?_,fun j e w5 F5 X5=>?_,fun e=>?_⟩
  ·refine⟨zPa,?_⟩
   show Calls Tryz.prog 146 #[v,pt w.heap.size,pt w3.heap.size] w5 (GP c.B Post w5)
   have G5:=(hX.fc FF).up.on F5
   refine qCm c _ _ j b done Post (tk c.ts i) us v w5 _ (hd4.stay X4 F5) (hp4.stay X4 F5) hpx hv (by have:=FF.size;have:=F5.size;omega) (fun u w6 F6 hu hud=>?_)
   subst hvd
   exact hT.ok (.node (nd 29 (tk c.ts i) [] 0) (us.map Tr.dt)) j (by simp only [labM,e,ReL.re]) u w6 (G5.on (X5.fc F6).up) (X5.keep F6) hu hud
  ·exact hT.bad j (by simp only [labM,e,ReL.re]) w5 ((hX.fc FF).up.on F5) X5
  ·exact hT.no (by simp only [labM,e,ReL.re])
 have HK:=oH (Kn.fr0 FF)
 clear hX FB XB hv0 hT hev hE hpx F4 hp4 F14 X4 FF hd4 F3 H1 HH
 simp only [fv64,elFV,FV.val,pt] at hC
 go_wp2_with fail
 refine hC.mono ?_
 rintro e w' ⟨s,rfl,hk2,hr⟩
 go_wp2_with fail
 go_ret
 exact zAv (HK.out.trans hk2) hr
end Go.Proofs.YtepfknfadpkigaaGreat
namespace Go.Proofs.YtepfknfadpkigaaGreat
open Go.RowKit
set_option maxHeartbeats 2000000
set_option maxRecDepth 100000
theorem zZi:Enters 155:=⟨_,_,Tryz.func155,by kernel_rfl,rfl⟩
def zZj (br bd:Nat):FV:=⟨155,#[],#[pt br,pt bd]⟩
theorem zZk (c:Cx) (br bd b j:Nat) (done:FV) (Post:World→Prop) (x:Tr) (w:World) (hX:RX c w j) (hbr:Var w br 112 (pt c.R)) (hbd:Var w bd 124 done.val) (hx:IsT w (b≤·) x) (hR:c.R < b)
  (hok:isS (tk c.ts j) [41]=true→∀w',Fc c.B [c.R] w w'→RX c w' (j+1)→IsT w' (b≤·) x→Goes c.B done (ptrV x.p) w' Post) (hbad:isS (tk c.ts j) [41]=false→∀w',Fc c.B [c.R] w w'→RX c w' j→Post w') :
  Calls Tryz.prog 155 #[ptrV x.p,pt br,pt bd] w (GP c.B Post w):=by
 have cr:=hbr.c
 cases hs:isS (tk c.ts j) [41] with
 | true =>
  have HT:=zCo c w j [41] hX hs
  have HH:=oH (oA hX (oA hbd (oA hx (hok hs))))
  clear hX hbr hbd hx hok hbad hs
  simp only [ptrV,pt] at cr ⊢
  go_enter Tryz.func155,Tryz.ntmps155
  go_wp2_with fail
  refine HT.mono ?_
  rintro e w1 ⟨rfl,F1,X1⟩
  obtain⟨hX,hbd,hx,hok⟩:=HH.out
  have G1:=hX.fcR F1
  obtain⟨hEn,hC⟩:=hok w1 G1 X1 (hx.stay hR G1)
  have hRn:=zAe hEn
  have cd:=(hbd.stay hX G1).c
  have HK:=oH (hX.knR F1)
  clear hEn hX hbd hx hok G1 F1 X1 HT HH
  simp only [ptrV] at hC
  go_wp2_with fail
  refine hC.mono ?_
  rintro e w' ⟨s,rfl,hk2,hr⟩
  go_wp2_with fail
  go_ret
  exact zAv (HK.out.trans hk2) hr
 | false =>
  have HT:=zBy c w j [41] hX hs
  have HH:=oH (oA hX (hbad hs))
  clear hX hbr hbd hx hok hbad hs
  simp only [ptrV,pt] at cr ⊢
  go_enter Tryz.func155,Tryz.ntmps155
  go_wp2_with fail
  refine HT.mono ?_
  rintro e w1 ⟨rfl,F1⟩
  have HF:=oH F1
  clear HT F1
  go_wp2_with fail
  go_ret
  obtain⟨hX,hbad⟩:=HH.out
  exact zEx (Kn.fr0 HF.out) (fun w2 h2=>hbad w2 ((hX.fc HF.out).on h2).up ((hX.keep HF.out).keepC h2))
theorem zVm (c:Cx) (E:Nat→Re) (ef done:FV) (Post:World→Prop) (hev:c.ev=ef.val) (hE:Lev c ef E) (b i:Nat) (w:World) (hX:RX c w i) (hR:c.R < b) (hb:b≤w.heap.size)
  (h1:(tk c.ts i).1.k≠1) (h2:(tk c.ts i).1.k≠2) (h3:(tk c.ts i).1.k≠3) (h4:(tk c.ts i).1.k≠4) (h5:isS (tk c.ts i) [123]=false) (hT:Then c b w (operM c.ts E i) done Post) :
  Calls Tryz.prog 140 #[pt c.R,done.val] w (GP c.B Post w):=by
 obtain⟨w0,hw0⟩:∃w0,w.alloc (.cells #[.pointer (some ⟨c.R,0,none⟩)] 112)=w0:=⟨_,rfl⟩
 have F0:Fr [] w w0:=by rw [← hw0];exact Fr.alloc _ _
 have hz0:w0.heap.size=w.heap.size+1:=by rw [← hw0];simp
 have hb0:Var w0 w.heap.size 112 (pt c.R):=by rw [← hw0];exact heap_alloc_new _ _
 obtain⟨w1,hw1⟩:∃w1,w0.alloc (.cells #[done.val] 124)=w1:=⟨_,rfl⟩
 have F1:Fr [] w0 w1:=by rw [← hw1];exact Fr.alloc _ _
 have hz1:w1.heap.size=w.heap.size+2:=by rw [← hw1];simp [hz0]
 have hb1:Var w1 (w.heap.size+1) 124 done.val:=by rw [← hw1,← hz0];exact heap_alloc_new _ _
 have hv0:=(hb0.keep F1 (by simp))
 have hv1:=hb1
 have FB:Fr [] w w1:=(F0.trans F1 (by simp))
 have XB:=hX.keep FB
 clear F0 F1 hb0 hb1
 have cr:=hv0.c
 cases hs:isS (tk c.ts i) [40] with
 | true =>
  have HT:=zCo c w1 i [40] XB hs
  have HH:=oH (oA hX (oA FB (oA XB (oA hv0 (oA hv1 (oA hT (oA hev (oA hE (oA h1 (oA h2 (oA h3 (oA h4 (oA h5 hs)))))))))))))
  clear hX FB XB hv0 hv1 hT hev hE h1 h2 h3 h4 h5 hs
  simp only [pt] at cr ⊢
  go_enter Tryz.func140,Tryz.ntmps140
  go_wp2_with fail
  refine HT.mono ?_
  rintro e w3 ⟨rfl,F3,X3⟩
  obtain⟨hX,FB,XB,hv0,hv1,hT,hev,hE,h1,h2,h3,h4,h5,hs⟩:=HH.out
  have G3:=XB.fcR F3
  have GF:=(hX.fc FB).up.on G3
  have hr3:=hv0.stay XB G3
  have hd3:=hv1.stay XB G3
  have hC0:Goes c.B ef (zZj w.heap.size (w.heap.size+1)).val w3 Post:=by
   refine hE w3 (i+1) _ Post b X3 hR (by have:=GF.size;omega) ⟨fun d j e x w4 F4 X4 hx hxd=>?_,fun j e w4 F4 X4=>?_,fun e=>?_⟩
   ·refine⟨zZi,?_⟩
    show Calls Tryz.prog 155 #[ptrV x.p,pt w.heap.size,pt (w.heap.size+1)] w4 (GP c.B Post w4)
    refine zZk c _ _ b j done Post x w4 X4 (hr3.stay X3 F4) (hd3.stay X3 F4) hx hR (fun hs2 w5 F5 X5 hx5=>?_) (fun hs2 w5 F5 X5=>?_)
    ·exact hT.ok d (j+1) (by simp [operM,h1,h2,h3,h4,h5,hs,e,hs2]) x w5 ((GF.on F4).on F5) X5 hx5 hxd
    ·exact hT.bad j (by simp [operM,h1,h2,h3,h4,h5,hs,e,hs2]) w5 ((GF.on F4).on F5) X5
   ·exact hT.bad j (by simp [operM,h1,h2,h3,h4,h5,hs,e]) w4 (GF.on F4) X4
   ·exact hT.no (by simp [operM,h1,h2,h3,h4,h5,hs,e])
  obtain⟨hEn,hC⟩:=hC0
  have hRn:=zAe hEn
  have cr3:=hr3.c
  have ce:=X3.c2
  rw [hev] at ce
  have HK:=oH ((Kn.fr0 FB).trans (XB.knR F3))
  clear hEn hX FB XB hv0 hv1 hT hev hE h1 h2 h3 h4 h5 hs G3 GF hr3 hd3 F3 X3 HT HH cr
  simp only [zZj,FV.val,pt] at hC cr3
  go_wp2_with fail
  refine hC.mono ?_
  rintro e w' ⟨s,rfl,hk2,hr⟩
  go_wp2_with fail
  go_ret
  exact zAv (HK.out.trans hk2) hr
 | false =>
  have HT:=zBy c w1 i [40] XB hs
  have HH:=oH (oA hX (oA FB (hT.bad i (by simp [operM,h1,h2,h3,h4,h5,hs]))))
  clear hX FB XB hv0 hv1 hT hev hE h1 h2 h3 h4 h5 hs
  simp only [pt] at cr ⊢
  go_enter Tryz.func140,Tryz.ntmps140
  go_wp2_with fail
  refine HT.mono ?_
  rintro e w3 ⟨rfl,F3⟩
  have HF:=oH F3
  clear HT F3
  go_wp2_with fail
  go_ret
  obtain⟨hX,FB,hbad⟩:=HH.out
  have FF:=FB.trans HF.out (by simp)
  exact zEx (Kn.fr0 FF) (fun w2 h2=>hbad w2 ((hX.fc FF).on h2).up ((hX.keep FF).keepC h2))
theorem zZl:Enters 151:=⟨_,_,Tryz.func151,by kernel_rfl,rfl⟩
def zVn (br bd:Nat):FV:=⟨151,#[],#[pt br,pt bd]⟩
theorem qCq (c:Cx) (E:Nat→Re) (ef done:FV) (Post:World→Prop) (hev:c.ev=ef.val) (hE:Lev c ef E) (hmono:∀i d j,E i=.ok d j→i < j) (br bd b k:Nat) (y:Tr) (w:World) (hX:RX c w k) (hbr:Var w br 112 (pt c.R)) (hbd:Var w bd 124 done.val)
  (hy:IsT w (b≤·) y) (hR:c.R < b) (hb:b≤w.heap.size) (hT:Then c b w (if isS (tk c.ts k) [40] then callM c.ts E y.dt k else .ok y.dt k) done Post) :
  Calls Tryz.prog 151 #[ptrV y.p,pt br,pt bd] w (GP c.B Post w):=by
 have HS:=zBg c w k [40] hX
 have cr:=hbr.c
 cases hs:isS (tk c.ts k) [40] with
 | true =>
  rw [hs] at HS hT
  rw [if_pos rfl] at hT
  have HH:=oH (oA hX (oA hbr (oA hbd (oA hy (oA hT (oA hev (oA hE (zAm hs))))))))
  clear hX hbr hbd hy hT hev hE hs
  simp only [ptrV,pt] at cr ⊢
  go_enter Tryz.func151,Tryz.ntmps151
  go_wp2_with fail
  refine HS.mono ?_
  rintro e w1 ⟨rfl,F1⟩
  obtain⟨hX,hbr,hbd,hy,hT,hev,hE,hk⟩:=HH.out
  have hC:=zRw c E ef done Post hev hE hmono b k y w1 (hX.keep F1) hk (hy.fr F1 (by simp)) hR (by have:=F1.size;omega) (hT.on (hX.fc F1).up)
  have cr1:=(hbr.keep F1 (by simp)).c
  have cd1:=(hbd.keep F1 (by simp)).c
  have HK:=oH (Kn.fr0 F1)
  clear hX hbr hbd hy hT hev hE F1 HS HH cr
  simp only [ptrV,pt] at hC cr1
  go_wp2_with fail
  refine hC.mono ?_
  rintro e w' ⟨s,rfl,hk2,hr⟩
  go_wp2_with fail
  go_ret
  exact zAv (HK.out.trans hk2) hr
 | false =>
  rw [hs] at HS hT
  rw [if_neg (by simp)] at hT
  have HH:=oH (oA hX (oA hbd (oA hy hT)))
  clear hX hbr hbd hy hT hev hE hs
  simp only [ptrV,pt] at cr ⊢
  go_enter Tryz.func151,Tryz.ntmps151
  go_wp2_with fail
  refine HS.mono ?_
  rintro e w1 ⟨rfl,F1⟩
  obtain⟨hX,hbd,hy,hT⟩:=HH.out
  obtain⟨hEn,hC⟩:=hT.ok y.dt k rfl y w1 (hX.fc F1).up (hX.keep F1) (hy.fr F1 (by simp)) rfl
  have hRn:=zAe hEn
  have cd1:=(hbd.keep F1 (by simp)).c
  have HK:=oH (Kn.fr0 F1)
  clear hEn hX hbd hy hT F1 HS HH cr
  simp only [ptrV] at hC
  go_wp2_with fail
  refine hC.mono ?_
  rintro e w' ⟨s,rfl,hk2,hr⟩
  go_wp2_with fail
  go_ret
  exact zAv (HK.out.trans hk2) hr
theorem zZm:Enters 150:=⟨_,_,Tryz.func150,by kernel_rfl,rfl⟩
def zZn (br bp bd:Nat):FV:=⟨150,#[],#[pt br,pt bp,pt bd]⟩
theorem qCr (c:Cx) (E:Nat→Re) (ef done:FV) (Post:World→Prop) (hev:c.ev=ef.val) (hE:Lev c ef E) (hmono:∀i d j,E i=.ok d j→i < j) (hmono2:∀i d j,elemM c.ts E i=.ok d j→i < j) (br bp bd b i j:Nat) (x:Tr) (w:World) (pv:Value) (hX:RX c w j)
  (hbr:Var w br 112 (pt c.R)) (hbp:Var w bp 37 pv) (hp:posV (tk c.ts i).2.1.1 (tk c.ts i).2.1.2=pv) (hbd:Var w bd 124 done.val) (hx:IsT w (b≤·) x) (hR:c.R < b) (hb:b≤w.heap.size) (hq:qualM c.ts i=.ok x.dt j) (hT:Then c b w (nmdM c.ts E i) done Post) :
  Calls Tryz.prog 150 #[ptrV x.p,pt br,pt bp,pt bd] w (GP c.B Post w):=by
 have HS:=zBg c w j [123] hX
 have cr:=hbr.c
 obtain⟨px,py,hpx⟩:=zAc (tk c.ts i).2.1.1 (tk c.ts i).2.1.2
 rw [hp] at hpx
 subst hpx
 cases hs:isS (tk c.ts j) [123] with
 | true =>
  rw [hs] at HS
  have em:nmdM c.ts E i=setM c.ts E (tk c.ts i) (some x.dt) j:=by simp only [nmdM,hq,hs,if_true]
  rw [em] at hT
  have HH:=oH (oA hX (oA hbr (oA hbp (oA hp (oA hbd (oA hx (oA hT (oA hev (oA hE (zAm hs))))))))))
  clear hX hbr hbp hp hbd hx hT hev hE hs em
  simp only [ptrV,pt] at cr ⊢
  go_enter Tryz.func150,Tryz.ntmps150
  go_wp2_with fail
  refine HS.mono ?_
  rintro e w1 ⟨rfl,F1⟩
  obtain⟨hX,hbr,hbp,hp,hbd,hx,hT,hev,hE,hk⟩:=HH.out
  have hC:=zPb c E ef done Post hev hE hmono2 b j (tk c.ts i) _ hp (some x) w1 (hX.keep F1) hk (fun x' hx'=>by
   obtain rfl:x=x':=Option.some.inj hx'
   exact hx.fr F1 (by simp)) hR (by have:=F1.size;omega) (hT.on (hX.fc F1).up)
  have cr1:=(hbr.keep F1 (by simp)).c
  have cp1:=(hbp.keep F1 (by simp)).c
  have cd1:=(hbd.keep F1 (by simp)).c
  have HK:=oH (Kn.fr0 F1)
  clear hX hbr hbp hp hbd hx hT hev hE F1 HS HH cr
  simp only [ptrV,pt,Option.map_some,encP] at hC cr1
  go_wp2_with fail
  refine hC.mono ?_
  rintro e w' ⟨s,rfl,hk2,hr⟩
  go_wp2_with fail
  go_ret
  exact zAv (HK.out.trans hk2) hr
 | false =>
  rw [hs] at HS
  have HH:=oH (oA hX (oA hbr (oA hbd (oA hx (oA hT (oA hev (oA hE hs)))))))
  clear hX hbr hbp hp hbd hx hT hev hE hs
  simp only [ptrV,pt] at cr ⊢
  go_enter Tryz.func150,Tryz.ntmps150
  go_wp2_with fail
  refine HS.mono ?_
  rintro e w1 ⟨rfl,F1⟩
  obtain⟨hX,hbr,hbd,hx,hT,hev,hE,hs⟩:=HH.out
  have X1:=hX.keep F1
  have hr1:=hbr.keep F1 (by simp)
  have hd1:=hbd.keep F1 (by simp)
  have hC:Calls Tryz.prog 116 #[pt c.R,ptrV x.p,(zVn br bd).val] w1 (GP c.B Post w1):=by
   refine(zOw c E ef (zVn br bd) Post hev hE (2 * c.ts.length+2)).1 w1 j b x X1 (hx.fr F1 (by simp)) hR (by have:=F1.size;omega) ⟨fun d k e y w2 F2 X2 hy hyd=>?_,fun k e w2 F2 X2=>?_,fun e=>?_⟩
   ·refine⟨zZl,?_⟩
    show Calls Tryz.prog 151 #[ptrV y.p,pt br,pt bd] w2 (GP c.B Post w2)
    refine qCq c E ef done Post hev hE hmono br bd b k y w2 X2 (hr1.stay X1 F2) (hd1.stay X1 F2) hy hR (by have:=F1.size;have:=F2.size;omega) ?_
    have:=hT.on ((hX.fc F1).up.on F2)
    simpa only [nmdM,hq,hs,Bool.false_eq_true,if_false,e,hyd] using this
   ·exact hT.bad k (by simp only [nmdM,hq,hs,Bool.false_eq_true,if_false,e]) w2 ((hX.fc F1).up.on F2) X2
   ·exact hT.no (by simp only [nmdM,hq,hs,Bool.false_eq_true,if_false,e])
  have cr1:=hr1.c
  have HK:=oH (Kn.fr0 F1)
  clear hX hbr hbd hx hT hev hE hs X1 hr1 hd1 F1 HS HH cr
  simp only [ptrV,pt,zVn,FV.val] at hC cr1
  go_wp2_with fail
  refine hC.mono ?_
  rintro e w' ⟨s,rfl,hk2,hr⟩
  go_wp2_with fail
  go_ret
  exact zAv (HK.out.trans hk2) hr
theorem zVo (c:Cx) (E:Nat→Re) (ef done:FV) (Post:World→Prop) (hev:c.ev=ef.val) (hE:Lev c ef E) (hmono:∀i d j,E i=.ok d j→i < j) (hmono2:∀i d j,elemM c.ts E i=.ok d j→i < j) (b i:Nat) (w:World) (hX:RX c w i) (hR:c.R < b) (hb:b≤w.heap.size) (hT:Then c b w (nmdM c.ts E i) done Post) :
  Calls Tryz.prog 138 #[pt c.R,done.val] w (GP c.B Post w):=by
 obtain⟨w0,hw0⟩:∃w0,w.alloc (.cells #[.pointer (some ⟨c.R,0,none⟩)] 112)=w0:=⟨_,rfl⟩
 have F0:Fr [] w w0:=by rw [← hw0];exact Fr.alloc _ _
 have hz0:w0.heap.size=w.heap.size+1:=by rw [← hw0];simp
 have hb0:Var w0 w.heap.size 112 (pt c.R):=by rw [← hw0];exact heap_alloc_new _ _
 obtain⟨w1,hw1⟩:∃w1,w0.alloc (.cells #[done.val] 124)=w1:=⟨_,rfl⟩
 have F1:Fr [] w0 w1:=by rw [← hw1];exact Fr.alloc _ _
 have hz1:w1.heap.size=w.heap.size+2:=by rw [← hw1];simp [hz0]
 have hb1:Var w1 (w.heap.size+1) 124 done.val:=by rw [← hw1,← hz0];exact heap_alloc_new _ _
 have hv0:=(hb0.keep F1 (by simp))
 have hv1:=hb1
 have FB:Fr [] w w1:=(F0.trans F1 (by simp))
 have XB:=hX.keep FB
 clear F0 F1 hb0 hb1
 obtain⟨px,py,ex,ey,hpx,hex⟩:=tkE (tk c.ts i)
 have H1:=zBh c w1 i XB
 rw [zCx hpx hex] at H1
 have hf1:=zBb
 have hsc:=fun w a x y m=>zAg (P:=Tryz.prog) w a .f64 x y m
 have cr:=hv0.c
 have HH:=oH (oA hX (oA FB (oA XB (oA hv0 (oA hv1 (oA hT (oA hev (oA hE hpx))))))))
 clear hX FB XB hv0 hv1 hT hev hE hpx hex
 simp only [pt] at cr ⊢
 go_enter Tryz.func138,Tryz.ntmps138
 go_wp2_with fail
 refine H1.mono ?_
 rintro e w3 ⟨rfl,F3⟩
 obtain⟨hX,FB,XB,hv0,hv1,hT,hev,hE,hpx⟩:=HH.out
 obtain⟨w4,hw4⟩:∃w4,w3.alloc (.cells #[.complex .f64 px py] 37)=w4:=⟨_,rfl⟩
 have F4:Fr [] w3 w4:=by rw [← hw4];exact Fr.alloc _ _
 have hp4:Var w4 w3.heap.size 37 (.complex .f64 px py):=by rw [← hw4];exact heap_alloc_new _ _
 have F14:=F3.trans F4 (by simp)
 have X4:=XB.keep F14
 have FF:=FB.trans F14 (by simp)
 have hr4:=hv0.keep F14 (by simp)
 have hd4:=hv1.keep F14 (by simp)
 have hC:Calls Tryz.prog 114 #[pt c.R,(zZn w.heap.size w3.heap.size (w.heap.size+1)).val] w4 (GP c.B Post w4):=by
  refine zLi c w4 i b _ Post X4 hR (by have:=FF.size;omega) ⟨fun d j e x w5 F5 X5 hx hxd=>?_,fun j e w5 F5 X5=>?_,fun e=>?_⟩
  ·refine⟨zZm,?_⟩
   show Calls Tryz.prog 150 #[ptrV x.p,pt w.heap.size,pt w3.heap.size,pt (w.heap.size+1)] w5 (GP c.B Post w5)
   exact qCr c E ef done Post hev hE hmono hmono2 _ _ _ b i j x w5 _ X5 (hr4.stay X4 F5) (hp4.stay X4 F5) hpx (hd4.stay X4 F5) hx hR (by have:=FF.size;have:=F5.size;omega) (by rw [e,hxd]) (hT.on ((hX.fc FF).up.on F5))
  ·exact hT.bad j (by simp only [nmdM,e]) w5 ((hX.fc FF).up.on F5) X5
  ·exact hT.no (by simp only [nmdM,e])
 have cr4:=hr4.c
 have HK:=oH (Kn.fr0 FF)
 clear hX FB XB hv0 hv1 hT hev hE hpx F4 hp4 F14 X4 FF hr4 hd4 F3 H1 HH cr
 simp only [zZn,FV.val,pt] at hC cr4
 go_wp2_with fail
 refine hC.mono ?_
 rintro e w' ⟨s,rfl,hk2,hr⟩
 go_wp2_with fail
 go_ret
 exact zAv (HK.out.trans hk2) hr
theorem qCs:Enters 115:=⟨_,_,Tryz.func115,by kernel_rfl,rfl⟩
def fv48 (br bd:Nat):FV:=⟨115,#[],#[pt br,pt bd]⟩
theorem qCt:Enters 107:=⟨_,_,Tryz.func107,by kernel_rfl,rfl⟩
def deFV (c:Cx):FV:=⟨107,#[pt c.R],#[]⟩
theorem qCu (c:Cx) (E:Nat→Re) (ef done:FV) (Post:World→Prop) (hev:c.ev=ef.val) (hE:Lev c ef E) (br bd b j:Nat) (x:Tr) (w:World) (hX:RX c w j) (hbr:Var w br 112 (pt c.R)) (hbd:Var w bd 124 done.val) (hx:IsT w (b≤·) x) (hR:c.R < b) (hb:b≤w.heap.size)
  (hT:Then c b w (selM c.ts E (2 * c.ts.length+2) false x.dt j) done Post) :
  Calls Tryz.prog 115 #[ptrV x.p,pt br,pt bd] w (GP c.B Post w):=by
 have hC:=(zOw c E ef done Post hev hE (2 * c.ts.length+2)).1 w j b x hX hx hR hb hT
 have cr:=hbr.c
 have cd:=hbd.c
 have HK:=oH (Kn.refl w)
 clear hX hbr hbd hx hT hev hE
 simp only [ptrV,pt] at cr hC ⊢
 go_enter Tryz.func115,Tryz.ntmps115
 go_wp2_with fail
 refine hC.mono ?_
 rintro e w' ⟨s,rfl,hk2,hr⟩
 go_wp2_with fail
 go_ret
 exact zAv (HK.out.trans hk2) hr
theorem zVp (c:Cx) (E:Nat→Re) (ef:FV) (hev:c.ev=ef.val) (hE:Lev c ef E):Lev c (deFV c) (desM c.ts E):=by
 intro w i done Post b hX hR hb hT
 refine⟨qCt,?_⟩
 show Calls Tryz.prog 107 #[pt c.R,done.val] w (GP c.B Post w)
 obtain⟨w0,hw0⟩:∃w0,w.alloc (.cells #[.pointer (some ⟨c.R,0,none⟩)] 112)=w0:=⟨_,rfl⟩
 have F0:Fr [] w w0:=by rw [← hw0];exact Fr.alloc _ _
 have hz0:w0.heap.size=w.heap.size+1:=by rw [← hw0];simp
 have hb0:Var w0 w.heap.size 112 (pt c.R):=by rw [← hw0];exact heap_alloc_new _ _
 obtain⟨w1,hw1⟩:∃w1,w0.alloc (.cells #[done.val] 124)=w1:=⟨_,rfl⟩
 have F1:Fr [] w0 w1:=by rw [← hw1];exact Fr.alloc _ _
 have hz1:w1.heap.size=w.heap.size+2:=by rw [← hw1];simp [hz0]
 have hb1:Var w1 (w.heap.size+1) 124 done.val:=by rw [← hw1,← hz0];exact heap_alloc_new _ _
 have hv0:=(hb0.keep F1 (by simp))
 have hv1:=hb1
 have FB:Fr [] w w1:=(F0.trans F1 (by simp))
 have XB:=hX.keep FB
 clear F0 F1 hb0 hb1
 have hC:Calls Tryz.prog 114 #[pt c.R,(fv48 w.heap.size (w.heap.size+1)).val] w1 (GP c.B Post w1):=by
  refine zLi c w1 i b _ Post XB hR (by have:=FB.size;omega) ⟨fun d j e x w5 F5 X5 hx hxd=>?_,fun j e w5 F5 X5=>?_,fun e=>?_⟩
  ·refine⟨qCs,?_⟩
   show Calls Tryz.prog 115 #[ptrV x.p,pt w.heap.size,pt (w.heap.size+1)] w5 (GP c.B Post w5)
   refine qCu c E ef done Post hev hE _ _ b j x w5 X5 (hv0.stay XB F5) (hv1.stay XB F5) hx hR (by have:=FB.size;have:=F5.size;omega) ?_
   have:=hT.on ((hX.fc FB).up.on F5)
   simpa only [desM,e,hxd] using this
  ·exact hT.bad j (by simp only [desM,e]) w5 ((hX.fc FB).up.on F5) X5
  ·exact hT.no (by simp only [desM,e])
 have cr:=hv0.c
 have HK:=oH (Kn.fr0 FB)
 clear hX FB XB hv0 hv1 hT hev hE
 simp only [fv48,FV.val,pt] at hC cr ⊢
 go_enter Tryz.func107,Tryz.ntmps107
 go_wp2_with fail
 refine hC.mono ?_
 rintro e w' ⟨s,rfl,hk2,hr⟩
 go_wp2_with fail
 go_ret
 exact zAv (HK.out.trans hk2) hr
def quFV (c:Cx):FV:=⟨114,#[pt c.R],#[]⟩
end Go.Proofs.YtepfknfadpkigaaGreat
namespace Go.Proofs.YtepfknfadpkigaaGreat
open Go.RowKit
set_option maxHeartbeats 2000000
set_option maxRecDepth 100000
theorem zEq {ts:List TK} {i:Nat} (h:(tk ts i).1.k≠0):i < ts.length:=by
 rcases Nat.lt_or_ge i ts.length with h1 | h1
 ·exact h1
 ·rw [zCz h1] at h
  simp [zTK] at h
def opFV (c:Cx):FV:=⟨120,#[pt c.R],#[]⟩
theorem qCv:Enters 120:=⟨_,_,Tryz.func120,by kernel_rfl,rfl⟩
theorem zMw (c:Cx) (E:Nat→Re) (ef done:FV) (Post:World→Prop) (hev:c.ev=ef.val) (hE:Lev c ef E) (hmono:∀i d j,E i=.ok d j→i < j) (hmono2:∀i d j,elemM c.ts E i=.ok d j→i < j) (b i:Nat) (w:World) (hX:RX c w i) (hR:c.R < b) (hb:b≤w.heap.size) (hk:(tk c.ts i).1.k=1) (hT:Then c b w (operM c.ts E i) done Post) :
  Calls Tryz.prog 120 #[pt c.R,done.val] w (GP c.B Post w):=by
 have H1:=zBh c w i hX
 obtain⟨px,py,ex,ey,hpx,hex⟩:=tkE (tk c.ts i)
 have hsc:=fun w a x y m=>zAg (P:=Tryz.prog) w a .f64 x y m
 obtain⟨t3,h3⟩:∃t3:ByteArray,(⟨(tk c.ts i).1.x.toArray⟩:ByteArray)=t3:=⟨_,rfl⟩
 rw [zCx hpx hex,hk,h3] at H1
 have em:operM c.ts E i=nmdM c.ts E i:=by simp only [operM,hk,if_true]
 rw [em] at hT
 have HH:=oH (oA hX (oA hT (oA hev hE)))
 clear hX hT hpx hex hk hev hE em h3
 simp only [pt]
 go_enter Tryz.func120,Tryz.ntmps120
 go_wp2_with fail
 refine H1.mono ?_
 rintro e w1 ⟨rfl,F1⟩
 obtain⟨hX,hT,hev,hE⟩:=HH.out
 have F2:=Fr.alloc w1 (.cells #[.int .u8 1,.complex .f64 px py,.complex .f64 ex ey,.string t3,.int .i64 (tk c.ts i).1.n] 71)
 have FF:=F1.trans F2 (by simp)
 have hC:=zVo c E ef done Post hev hE hmono hmono2 b i _ (hX.keep FF) hR (by have:=FF.size;omega) (hT.on (hX.fc FF).up)
 have HK:=oH (Kn.fr0 FF)
 clear hX hT hev hE F1 F2 FF H1 HH
 simp only [pt] at hC
 go_wp2_with fail
 refine hC.mono ?_
 rintro e w' ⟨s,rfl,hk2,hr⟩
 go_wp2_with fail
 go_ret
 exact zAv (HK.out.trans hk2) hr
theorem zRx (c:Cx) (E:Nat→Re) (done:FV) (Post:World→Prop) (b i:Nat) (w:World) (hX:RX c w i) (hR:c.R < b) (hb:b≤w.heap.size) (hk:(tk c.ts i).1.k=2) (hT:Then c b w (operM c.ts E i) done Post) :
  Calls Tryz.prog 120 #[pt c.R,done.val] w (GP c.B Post w):=by
 have H1:=zBh c w i hX
 obtain⟨px,py,ex,ey,hpx,hex⟩:=tkE (tk c.ts i)
 have hsc:=fun w a x y m=>zAg (P:=Tryz.prog) w a .f64 x y m
 obtain⟨t3,h3⟩:∃t3:ByteArray,(⟨(tk c.ts i).1.x.toArray⟩:ByteArray)=t3:=⟨_,rfl⟩
 have htk:=zCx hpx hex
 have hlt:=zEq (ts:=c.ts) (i:=i) (by rw [hk];decide)
 rw [htk,hk,h3] at H1
 have HH:=oH (oA hX (oA hT (oA hpx (oA htk (oA hk h3)))))
 clear hX hT hpx hex htk hk
 simp only [pt]
 go_enter Tryz.func120,Tryz.ntmps120
 go_wp2_with fail
 refine H1.mono ?_
 rintro e w1 ⟨rfl,F1⟩
 obtain⟨hX,hT,hpx,htk,hk,h3'⟩:=HH.out
 obtain⟨w2,hw2⟩:∃w2,w1.alloc (.cells #[.int .u8 2,.complex .f64 px py,.complex .f64 ex ey,.string t3,.int .i64 (tk c.ts i).1.n] 71)=w2:=⟨_,rfl⟩
 have F2:Fr [] w1 w2:=by rw [← hw2];exact Fr.alloc _ _
 have T2:TkAt w2 w1.heap.size (tk c.ts i) (.complex .f64 px py) (.complex .f64 ex ey):=by
  rw [← hw2]
  have:=heap_alloc_new w1 (.cells #[.int .u8 2,.complex .f64 px py,.complex .f64 ex ey,.string t3,.int .i64 (tk c.ts i).1.n] 71)
  unfold TkAt
  rw [hk,h3']
  exact this
 have FF:=F1.trans F2 (by simp)
 have X2:=hX.keep FF
 have d0:w2.cell? ⟨w1.heap.size,0,none⟩=some (.int .u8 2):=by rw [Lib.cell_of_heap T2,hk];rfl
 have H2:=zBv c w2 i X2 hlt
 rw [htk,hk,h3'] at H2
 have HW:=oH (oA FF (oA X2 T2))
 clear hX hT hpx htk hk h3' F1 F2 FF X2 T2 H1
 go_wp2_with fail
 refine H2.mono ?_
 rintro e w3 ⟨rfl,F3,X3⟩
 obtain⟨FF,X2,T2⟩:=HW.out
 obtain⟨hX,hT,hpx,htk,hk,h3'⟩:=HH.out
 have G3:=X2.fcR F3
 have T3:=T2.stay X2 G3
 have d1:w3.cell? ⟨w1.heap.size,1,none⟩=some (.complex .f64 px py):=by rw [Lib.cell_of_heap T3];rfl
 have d3:w3.cell? ⟨w1.heap.size,3,none⟩=some (.string t3):=by rw [Lib.cell_of_heap T3,← h3'];rfl
 have d4:w3.cell? ⟨w1.heap.size,4,none⟩=some (.int .i64 (tk c.ts i).1.n):=by rw [Lib.cell_of_heap T3];rfl
 have HN:=zBj w3 (nd 5 (tk c.ts i) [] (tk c.ts i).1.n) _ [] b (zIx _) (by simp) (by simp) (by have:=FF.size;have:=F3.size;omega) (by simp [nd]) _ hpx ⟨#[]⟩ rfl 5 rfl (tk c.ts i).1.n rfl [] rfl
 have HW3:=oH (oA G3 (oA X3 (X2.knR F3)))
 clear hX hT hpx htk hk h3' FF X2 T2 G3 T3 F3 X3 H2
 go_wp2_with fail
 refine HN.mono ?_
 rintro e w4 ⟨u,rfl,F4,hu,hud⟩
 obtain⟨G3,X3,K3⟩:=HW3.out
 obtain⟨FF,X2,T2⟩:=HW.out
 obtain⟨hX,hT,hpx,htk,hk,h3'⟩:=HH.out
 obtain⟨hEn,hC⟩:=hT.ok _ (i+1) (by simp only [operM,hk];rfl) u w4 (((hX.fc FF).up.on G3).on (X3.fc F4).up) (X3.keep F4) hu hud
 have hRn:=zAe hEn
 have HK:=oH ((Kn.fr0 FF).trans (K3.trans (Kn.fr0 F4)))
 clear hEn hX hT hpx htk hk h3' FF X2 T2 G3 X3 K3 F4 hu hud HN HH HW HW3
 simp only [ptrV] at hC ⊢
 go_wp2_with fail
 refine hC.mono ?_
 rintro e w' ⟨s,rfl,hk2,hr⟩
 go_wp2_with fail
 go_ret
 exact zAv (HK.out.trans hk2) hr
theorem zPc (c:Cx) (E:Nat→Re) (done:FV) (Post:World→Prop) (b i:Nat) (w:World) (hX:RX c w i) (hR:c.R < b) (hb:b≤w.heap.size) (hk:(tk c.ts i).1.k=3) (hT:Then c b w (operM c.ts E i) done Post) :
  Calls Tryz.prog 120 #[pt c.R,done.val] w (GP c.B Post w):=by
 have H1:=zBh c w i hX
 obtain⟨px,py,ex,ey,hpx,hex⟩:=tkE (tk c.ts i)
 have hsc:=fun w a x y m=>zAg (P:=Tryz.prog) w a .f64 x y m
 obtain⟨t3,h3⟩:∃t3:ByteArray,(⟨(tk c.ts i).1.x.toArray⟩:ByteArray)=t3:=⟨_,rfl⟩
 have htk:=zCx hpx hex
 have hlt:=zEq (ts:=c.ts) (i:=i) (by rw [hk];decide)
 rw [htk,hk,h3] at H1
 have HH:=oH (oA hX (oA hT (oA hpx (oA htk (oA hk h3)))))
 clear hX hT hpx hex htk hk
 simp only [pt]
 go_enter Tryz.func120,Tryz.ntmps120
 go_wp2_with fail
 refine H1.mono ?_
 rintro e w1 ⟨rfl,F1⟩
 obtain⟨hX,hT,hpx,htk,hk,h3'⟩:=HH.out
 obtain⟨w2,hw2⟩:∃w2,w1.alloc (.cells #[.int .u8 3,.complex .f64 px py,.complex .f64 ex ey,.string t3,.int .i64 (tk c.ts i).1.n] 71)=w2:=⟨_,rfl⟩
 have F2:Fr [] w1 w2:=by rw [← hw2];exact Fr.alloc _ _
 have T2:TkAt w2 w1.heap.size (tk c.ts i) (.complex .f64 px py) (.complex .f64 ex ey):=by
  rw [← hw2]
  have:=heap_alloc_new w1 (.cells #[.int .u8 3,.complex .f64 px py,.complex .f64 ex ey,.string t3,.int .i64 (tk c.ts i).1.n] 71)
  unfold TkAt
  rw [hk,h3']
  exact this
 have FF:=F1.trans F2 (by simp)
 have X2:=hX.keep FF
 have d0:w2.cell? ⟨w1.heap.size,0,none⟩=some (.int .u8 3):=by rw [Lib.cell_of_heap T2,hk];rfl
 have H2:=zBv c w2 i X2 hlt
 rw [htk,hk,h3'] at H2
 have HW:=oH (oA FF (oA X2 T2))
 clear hX hT hpx htk hk h3' F1 F2 FF X2 T2 H1
 go_wp2_with fail
 refine H2.mono ?_
 rintro e w3 ⟨rfl,F3,X3⟩
 obtain⟨FF,X2,T2⟩:=HW.out
 obtain⟨hX,hT,hpx,htk,hk,h3'⟩:=HH.out
 have G3:=X2.fcR F3
 have T3:=T2.stay X2 G3
 have d1:w3.cell? ⟨w1.heap.size,1,none⟩=some (.complex .f64 px py):=by rw [Lib.cell_of_heap T3];rfl
 have d3:w3.cell? ⟨w1.heap.size,3,none⟩=some (.string t3):=by rw [Lib.cell_of_heap T3,← h3'];rfl
 have d4:w3.cell? ⟨w1.heap.size,4,none⟩=some (.int .i64 (tk c.ts i).1.n):=by rw [Lib.cell_of_heap T3];rfl
 have HN:=zBj w3 (nd 6 (tk c.ts i) [] (tk c.ts i).1.n) _ [] b (zIx _) (by simp) (by simp) (by have:=FF.size;have:=F3.size;omega) (by simp [nd]) _ hpx ⟨#[]⟩ rfl 6 rfl (tk c.ts i).1.n rfl [] rfl
 have HW3:=oH (oA G3 (oA X3 (X2.knR F3)))
 clear hX hT hpx htk hk h3' FF X2 T2 G3 T3 F3 X3 H2
 go_wp2_with fail
 refine HN.mono ?_
 rintro e w4 ⟨u,rfl,F4,hu,hud⟩
 obtain⟨G3,X3,K3⟩:=HW3.out
 obtain⟨FF,X2,T2⟩:=HW.out
 obtain⟨hX,hT,hpx,htk,hk,h3'⟩:=HH.out
 obtain⟨hEn,hC⟩:=hT.ok _ (i+1) (by simp only [operM,hk];rfl) u w4 (((hX.fc FF).up.on G3).on (X3.fc F4).up) (X3.keep F4) hu hud
 have hRn:=zAe hEn
 have HK:=oH ((Kn.fr0 FF).trans (K3.trans (Kn.fr0 F4)))
 clear hEn hX hT hpx htk hk h3' FF X2 T2 G3 X3 K3 F4 hu hud HN HH HW HW3
 simp only [ptrV] at hC ⊢
 go_wp2_with fail
 refine hC.mono ?_
 rintro e w' ⟨s,rfl,hk2,hr⟩
 go_wp2_with fail
 go_ret
 exact zAv (HK.out.trans hk2) hr
theorem zRy (c:Cx) (E:Nat→Re) (done:FV) (Post:World→Prop) (b i:Nat) (w:World) (hX:RX c w i) (hR:c.R < b) (hb:b≤w.heap.size) (hk:(tk c.ts i).1.k=4) (hT:Then c b w (operM c.ts E i) done Post) :
  Calls Tryz.prog 120 #[pt c.R,done.val] w (GP c.B Post w):=by
 have H1:=zBh c w i hX
 obtain⟨px,py,ex,ey,hpx,hex⟩:=tkE (tk c.ts i)
 have hsc:=fun w a x y m=>zAg (P:=Tryz.prog) w a .f64 x y m
 obtain⟨t3,h3⟩:∃t3:ByteArray,(⟨(tk c.ts i).1.x.toArray⟩:ByteArray)=t3:=⟨_,rfl⟩
 have htk:=zCx hpx hex
 have hlt:=zEq (ts:=c.ts) (i:=i) (by rw [hk];decide)
 rw [htk,hk,h3] at H1
 have HH:=oH (oA hX (oA hT (oA hpx (oA htk (oA hk h3)))))
 clear hX hT hpx hex htk hk
 simp only [pt]
 go_enter Tryz.func120,Tryz.ntmps120
 go_wp2_with fail
 refine H1.mono ?_
 rintro e w1 ⟨rfl,F1⟩
 obtain⟨hX,hT,hpx,htk,hk,h3'⟩:=HH.out
 obtain⟨w2,hw2⟩:∃w2,w1.alloc (.cells #[.int .u8 4,.complex .f64 px py,.complex .f64 ex ey,.string t3,.int .i64 (tk c.ts i).1.n] 71)=w2:=⟨_,rfl⟩
 have F2:Fr [] w1 w2:=by rw [← hw2];exact Fr.alloc _ _
 have T2:TkAt w2 w1.heap.size (tk c.ts i) (.complex .f64 px py) (.complex .f64 ex ey):=by
  rw [← hw2]
  have:=heap_alloc_new w1 (.cells #[.int .u8 4,.complex .f64 px py,.complex .f64 ex ey,.string t3,.int .i64 (tk c.ts i).1.n] 71)
  unfold TkAt
  rw [hk,h3']
  exact this
 have FF:=F1.trans F2 (by simp)
 have X2:=hX.keep FF
 have d0:w2.cell? ⟨w1.heap.size,0,none⟩=some (.int .u8 4):=by rw [Lib.cell_of_heap T2,hk];rfl
 have H2:=zBv c w2 i X2 hlt
 rw [htk,hk,h3'] at H2
 have HW:=oH (oA FF (oA X2 T2))
 clear hX hT hpx htk hk h3' F1 F2 FF X2 T2 H1
 go_wp2_with fail
 refine H2.mono ?_
 rintro e w3 ⟨rfl,F3,X3⟩
 obtain⟨FF,X2,T2⟩:=HW.out
 obtain⟨hX,hT,hpx,htk,hk,h3'⟩:=HH.out
 have G3:=X2.fcR F3
 have T3:=T2.stay X2 G3
 have d1:w3.cell? ⟨w1.heap.size,1,none⟩=some (.complex .f64 px py):=by rw [Lib.cell_of_heap T3];rfl
 have d3:w3.cell? ⟨w1.heap.size,3,none⟩=some (.string t3):=by rw [Lib.cell_of_heap T3,← h3'];rfl
 have d4:w3.cell? ⟨w1.heap.size,4,none⟩=some (.int .i64 (tk c.ts i).1.n):=by rw [Lib.cell_of_heap T3];rfl
 have HN:=zBj w3 (nd 7 (tk c.ts i) (tk c.ts i).1.x 0) _ [] b (zIx _) (by simp) (by simp) (by have:=FF.size;have:=F3.size;omega) (hX.txt _) _ hpx t3 h3' 7 rfl 0 rfl [] rfl
 have HW3:=oH (oA G3 (oA X3 (X2.knR F3)))
 clear hX hT hpx htk hk h3' FF X2 T2 G3 T3 F3 X3 H2
 go_wp2_with fail
 refine HN.mono ?_
 rintro e w4 ⟨u,rfl,F4,hu,hud⟩
 obtain⟨G3,X3,K3⟩:=HW3.out
 obtain⟨FF,X2,T2⟩:=HW.out
 obtain⟨hX,hT,hpx,htk,hk,h3'⟩:=HH.out
 obtain⟨hEn,hC⟩:=hT.ok _ (i+1) (by simp only [operM,hk];rfl) u w4 (((hX.fc FF).up.on G3).on (X3.fc F4).up) (X3.keep F4) hu hud
 have hRn:=zAe hEn
 have HK:=oH ((Kn.fr0 FF).trans (K3.trans (Kn.fr0 F4)))
 clear hEn hX hT hpx htk hk h3' FF X2 T2 G3 X3 K3 F4 hu hud HN HH HW HW3
 simp only [ptrV] at hC ⊢
 go_wp2_with fail
 refine hC.mono ?_
 rintro e w' ⟨s,rfl,hk2,hr⟩
 go_wp2_with fail
 go_ret
 exact zAv (HK.out.trans hk2) hr
theorem zRz (c:Cx) (E:Nat→Re) (ef done:FV) (Post:World→Prop) (hev:c.ev=ef.val) (hE:Lev c ef E) (hmono2:∀i d j,elemM c.ts E i=.ok d j→i < j) (b i:Nat) (w:World) (hX:RX c w i) (hR:c.R < b) (hb:b≤w.heap.size)
  (h1:(tk c.ts i).1.k≠1) (h2:(tk c.ts i).1.k≠2) (h3k:(tk c.ts i).1.k≠3) (h4:(tk c.ts i).1.k≠4) (h5:isS (tk c.ts i) [123]=true) (hT:Then c b w (operM c.ts E i) done Post) :
  Calls Tryz.prog 120 #[pt c.R,done.val] w (GP c.B Post w):=by
 have H1:=zBh c w i hX
 obtain⟨px,py,ex,ey,hpx,hex⟩:=tkE (tk c.ts i)
 have hsc:=fun w a x y m=>zAg (P:=Tryz.prog) w a .f64 x y m
 obtain⟨t3,h3⟩:∃t3:ByteArray,(⟨(tk c.ts i).1.x.toArray⟩:ByteArray)=t3:=⟨_,rfl⟩
 obtain⟨k0,hk0⟩:∃k0,(tk c.ts i).1.k=k0:=⟨_,rfl⟩
 rw [zCx hpx hex,h3,hk0] at H1
 have HH:=oH (oA hX (oA hT (oA hev (oA hE (oA h1 (oA h2 (oA h3k (oA h4 (oA h5 hpx)))))))))
 rw [hk0] at h1 h2 h3k h4
 have q1:((k0:Int) == 1)=false:=beq_eq_false_iff_ne.2 (by omega)
 have q2:((k0:Int) == 2)=false:=beq_eq_false_iff_ne.2 (by omega)
 have q3:((k0:Int) == 3)=false:=beq_eq_false_iff_ne.2 (by omega)
 have q4:((k0:Int) == 4)=false:=beq_eq_false_iff_ne.2 (by omega)
 clear hX hT hpx hex hev hE h1 h2 h3k h4 h5 h3 hk0
 simp only [pt]
 go_enter Tryz.func120,Tryz.ntmps120
 go_wp2_with fail
 refine H1.mono ?_
 rintro e w1 ⟨rfl,F1⟩
 obtain⟨hX,hT,hev,hE,h1,h2,h3k,h4,h5,hpx⟩:=HH.out
 obtain⟨w2,hw2⟩:∃w2,w1.alloc (.cells #[.int .u8 k0,.complex .f64 px py,.complex .f64 ex ey,.string t3,.int .i64 (tk c.ts i).1.n] 71)=w2:=⟨_,rfl⟩
 have F2:Fr [] w1 w2:=by rw [← hw2];exact Fr.alloc _ _
 have T2:w2.heap[w1.heap.size]?=some (.cells #[.int .u8 k0,.complex .f64 px py,.complex .f64 ex ey,.string t3,.int .i64 (tk c.ts i).1.n] 71 (0,0)):=by rw [← hw2];exact heap_alloc_new _ _
 have FF:=F1.trans F2 (by simp)
 have X2:=hX.keep FF
 have d0:w2.cell? ⟨w1.heap.size,0,none⟩=some (.int .u8 k0):=by rw [Lib.cell_of_heap T2];rfl
 have HS:=zBg c w2 i [123] X2
 rw [h5] at HS
 have HW:=oH (oA FF (oA X2 T2))
 clear hX hT hev hE h1 h2 h3k h4 h5 hpx F1 F2 FF X2 T2 H1
 go_wp2_with fail
 refine HS.mono ?_
 rintro e w3 ⟨rfl,F3⟩
 obtain⟨FF,X2,T2⟩:=HW.out
 obtain⟨hX,hT,hev,hE,h1,h2,h3k,h4,h5,hpx⟩:=HH.out
 have F03:=FF.trans F3 (by simp)
 have X3:=X2.keep F3
 have d1:w3.cell? ⟨w1.heap.size,1,none⟩=some (.complex .f64 px py):=by rw [Lib.cell_of_heap ((F3.block _ (zAd T2) (by simp)).trans T2)];rfl
 have em:operM c.ts E i=setM c.ts E (tk c.ts i) none i:=by simp [operM,h1,h2,h3k,h4,h5]
 rw [em] at hT
 have hC:=zPb c E ef done Post hev hE hmono2 b i (tk c.ts i) _ hpx none w3 X3 (zAm h5) (by simp) hR (by have:=F03.size;omega) (hT.on (hX.fc F03).up)
 have HK:=oH (Kn.fr0 F03)
 clear hX hT hev hE h1 h2 h3k h4 h5 hpx FF X2 T2 F03 X3 F3 HS HH HW
 simp only [pt,Option.map_none,encP] at hC
 go_wp2_with fail
 refine hC.mono ?_
 rintro e w' ⟨s,rfl,hk2,hr⟩
 go_wp2_with fail
 go_ret
 exact zAv (HK.out.trans hk2) hr
theorem zSa (c:Cx) (E:Nat→Re) (ef done:FV) (Post:World→Prop) (hev:c.ev=ef.val) (hE:Lev c ef E) (hmono2:∀i d j,elemM c.ts E i=.ok d j→i < j) (b i:Nat) (w:World) (hX:RX c w i) (hR:c.R < b) (hb:b≤w.heap.size)
  (h1:(tk c.ts i).1.k≠1) (h2:(tk c.ts i).1.k≠2) (h3k:(tk c.ts i).1.k≠3) (h4:(tk c.ts i).1.k≠4) (h5:isS (tk c.ts i) [123]=false) (hT:Then c b w (operM c.ts E i) done Post) :
  Calls Tryz.prog 120 #[pt c.R,done.val] w (GP c.B Post w):=by
 have H1:=zBh c w i hX
 obtain⟨px,py,ex,ey,hpx,hex⟩:=tkE (tk c.ts i)
 have hsc:=fun w a x y m=>zAg (P:=Tryz.prog) w a .f64 x y m
 obtain⟨t3,h3⟩:∃t3:ByteArray,(⟨(tk c.ts i).1.x.toArray⟩:ByteArray)=t3:=⟨_,rfl⟩
 obtain⟨k0,hk0⟩:∃k0,(tk c.ts i).1.k=k0:=⟨_,rfl⟩
 rw [zCx hpx hex,h3,hk0] at H1
 have HH:=oH (oA hX (oA hT (oA hev (oA hE (oA h1 (oA h2 (oA h3k (oA h4 (oA h5 hpx)))))))))
 rw [hk0] at h1 h2 h3k h4
 have q1:((k0:Int) == 1)=false:=beq_eq_false_iff_ne.2 (by omega)
 have q2:((k0:Int) == 2)=false:=beq_eq_false_iff_ne.2 (by omega)
 have q3:((k0:Int) == 3)=false:=beq_eq_false_iff_ne.2 (by omega)
 have q4:((k0:Int) == 4)=false:=beq_eq_false_iff_ne.2 (by omega)
 clear hX hT hpx hex hev hE h1 h2 h3k h4 h5 h3 hk0
 simp only [pt]
 go_enter Tryz.func120,Tryz.ntmps120
 go_wp2_with fail
 refine H1.mono ?_
 rintro e w1 ⟨rfl,F1⟩
 obtain⟨hX,hT,hev,hE,h1,h2,h3k,h4,h5,hpx⟩:=HH.out
 obtain⟨w2,hw2⟩:∃w2,w1.alloc (.cells #[.int .u8 k0,.complex .f64 px py,.complex .f64 ex ey,.string t3,.int .i64 (tk c.ts i).1.n] 71)=w2:=⟨_,rfl⟩
 have F2:Fr [] w1 w2:=by rw [← hw2];exact Fr.alloc _ _
 have T2:w2.heap[w1.heap.size]?=some (.cells #[.int .u8 k0,.complex .f64 px py,.complex .f64 ex ey,.string t3,.int .i64 (tk c.ts i).1.n] 71 (0,0)):=by rw [← hw2];exact heap_alloc_new _ _
 have FF:=F1.trans F2 (by simp)
 have X2:=hX.keep FF
 have d0:w2.cell? ⟨w1.heap.size,0,none⟩=some (.int .u8 k0):=by rw [Lib.cell_of_heap T2];rfl
 have HS:=zBg c w2 i [123] X2
 rw [h5] at HS
 have HW:=oH (oA FF (oA X2 T2))
 clear hX hT hev hE h1 h2 h3k h4 h5 hpx F1 F2 FF X2 T2 H1
 go_wp2_with fail
 refine HS.mono ?_
 rintro e w3 ⟨rfl,F3⟩
 obtain⟨FF,X2,T2⟩:=HW.out
 obtain⟨hX,hT,hev,hE,h1,h2,h3k,h4,h5,hpx⟩:=HH.out
 have F03:=FF.trans F3 (by simp)
 have X3:=X2.keep F3
 have d1:w3.cell? ⟨w1.heap.size,1,none⟩=some (.complex .f64 px py):=by rw [Lib.cell_of_heap ((F3.block _ (zAd T2) (by simp)).trans T2)];rfl
 have hC:=zVm c E ef done Post hev hE b i w3 X3 hR (by have:=F03.size;omega) h1 h2 h3k h4 h5 (hT.on (hX.fc F03).up)
 have HK:=oH (Kn.fr0 F03)
 clear hX hT hev hE h1 h2 h3k h4 h5 hpx FF X2 T2 F03 X3 F3 HS HH HW
 simp only [pt,Option.map_none,encP] at hC
 go_wp2_with fail
 refine hC.mono ?_
 rintro e w' ⟨s,rfl,hk2,hr⟩
 go_wp2_with fail
 go_ret
 exact zAv (HK.out.trans hk2) hr
theorem zSb (c:Cx) (E:Nat→Re) (ef:FV) (hev:c.ev=ef.val) (hE:Lev c ef E) (hmono:∀i d j,E i=.ok d j→i < j) (hmono2:∀i d j,elemM c.ts E i=.ok d j→i < j):Lev c (opFV c) (operM c.ts E):=by
 intro w i done Post b hX hR hb hT
 refine⟨qCv,?_⟩
 show Calls Tryz.prog 120 #[pt c.R,done.val] w (GP c.B Post w)
 by_cases h1:(tk c.ts i).1.k=1
 ·exact zMw c E ef done Post hev hE hmono hmono2 b i w hX hR hb h1 hT
 by_cases h2:(tk c.ts i).1.k=2
 ·exact zRx c E done Post b i w hX hR hb h2 hT
 by_cases h3:(tk c.ts i).1.k=3
 ·exact zPc c E done Post b i w hX hR hb h3 hT
 by_cases h4:(tk c.ts i).1.k=4
 ·exact zRy c E done Post b i w hX hR hb h4 hT
 cases h5:isS (tk c.ts i) [123] with
 | true=>exact zRz c E ef done Post hev hE hmono2 b i w hX hR hb h1 h2 h3 h4 h5 hT
 | false=>exact zSa c E ef done Post hev hE hmono2 b i w hX hR hb h1 h2 h3 h4 h5 hT
end Go.Proofs.YtepfknfadpkigaaGreat
end
