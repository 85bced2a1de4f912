/- Several texts in one. -/
import Derived.Test.YtepfknfadpkigaaGreatPkAA
import Derived.Test.YtepfknfadpkigaaGreatPkBS
import Derived.Test.YtepfknfadpkigaaGreatPkAT
import Derived.Test.YtepfknfadpkigaaGreatPkAV
import Derived.Deep.RegionHeld3
import Derived.Laws.AppendOwnNone
set_option linter.unusedVariables false
set_option linter.unusedSimpArgs false
section
namespace Go.Proofs.YtepfknfadpkigaaGreat
open Go.RowKit
set_option maxHeartbeats 4000000
set_option maxRecDepth 100000
theorem for1 (x1 x2 y:Tr) (o:Option Tr) (t:TK) (nm:List UInt8) (done:FV) (Post:World→Prop) (w:World) (bd bp bn bl g b:Nat) (hd:Var w bd 76 done.val) (hbp:Var w bp 37 (posV t.2.1.1 t.2.1.2)) (hbn:Var w bn 9 (.string ⟨nm.toArray⟩)) (hbl:Var w bl 38 (.slice (some ⟨g,0,none⟩) 3 3))
  (hrow:w.ownsRow 0 26 1 (.slice (some ⟨g,0,none⟩) 3 3) 3 [ptrV x1.p,ptrV x2.p,encP (o.map Tr.p)]) (h1:IsT w (fun q=>b≤q∧q≠g) x1) (h2:IsT w (fun q=>b≤q∧q≠g) x2) (h3:∀z,o=some z→IsT w (fun q=>b≤q∧q≠g) z) (hy:IsT w (fun q=>b≤q∧q≠g) y)
  (hne:bd≠g∧bp≠g∧bn≠g∧bl≠g) (hb:b≤w.heap.size) (hnm:nm.length≤65536)
  (hG:∀u w',Fr [g] w w'→IsT w' (b≤·) u→u.dt=.node (nd 68 t nm 0) [x1.dt,x2.dt,(o.map Tr.dt).getD dt0,y.dt]→GoQ done (ptrV u.p) w' Post):Calls Tryz.prog 90 #[ptrV y.p,pt bd,pt bp,pt bn,pt bl] w (GQ Post):=by
 obtain⟨i1,hi,hz0,hz1,hz2⟩:=info_parts infoP
 obtain⟨px,py,e1⟩:=zAc t.2.1.1 t.2.1.2
 rw [e1] at hbp
 obtain⟨S,hS⟩:∃S,(⟨nm.toArray⟩:ByteArray)=S:=⟨_,rfl⟩
 rw [hS] at hbn
 obtain⟨df,d1,d2⟩:=done
 obtain⟨w1,hw1⟩:∃w1,w.drew.alloc (.cells #[.pointer (some ⟨y.p,0,none⟩)] 26)=w1:=⟨_,rfl⟩
 have F1:Fr [] w w1:=by rw [← hw1];exact(Fr.drew w).on (Fr.alloc _ _)
 have hrow1:=zAf hrow F1 (by simp)
 have hnews:∀j u,[ptrV y.p][j]?=some u→w1.cell? ((⟨w.heap.size,0,none⟩:Addr).add j)=some u:=fun j u hj=>by rw [← hw1];exact new1 w.drew (ptrV y.p) 26 j u hj
 have hone:=one1 y.p
 have hs1:w1.heap.size=w.heap.size+1:=by rw [← hw1];simp
 have hgl:g < w.heap.size:=(hrow.lt g rfl).2
 have HV:∀w',Fr [g] w w'→(w'.cell? ⟨bd,0,none⟩=some (.func (.func df) d1 d2)∧w'.cell? ⟨bp,0,none⟩=some (.complex .f64 px py)∧w'.cell? ⟨bn,0,none⟩=some (.string S)∧w'.cell? ⟨bl,0,none⟩=some (.slice (some ⟨g,0,none⟩) 3 3)):=fun w' F=>⟨(hd.keep F (by simp;exact hne.1)).c,(hbp.keep F (by simp;exact hne.2.1)).c,(hbn.keep F (by simp;exact hne.2.2.1)).c,(hbl.keep F (by simp;exact hne.2.2.2)).c⟩
 have HN:∀(w9:World) (g9 cap9:Nat),Fr [g] w w9→w9.ownsRow 0 26 1 (.slice (some ⟨g9,0,none⟩) (3+1) cap9) (3+1) ([ptrV x1.p,ptrV x2.p,encP (o.map Tr.p)]++[ptrV y.p]) →
   Calls Tryz.prog 31 #[.int .u8 68,.complex .f64 px py,.string S,.int .i64 0,.slice (some ⟨g9,0,none⟩) (3+1) cap9] w9 fun e w'=>∃z:Tr,e=.returned (.pointer (some ⟨z.p,0,none⟩))∧Fr [g] w w'∧GoQ ⟨df,d1,d2⟩ (.pointer (some ⟨z.p,0,none⟩)) w' Post:=fun w9 g9 cap9 F9 hown=>by
  have K:∀z,IsT w (fun q=>b≤q∧q≠g) z→IsT w9 (b≤·) z:=fun z hz=>hz.keep (fun q hq hl=>hq.1) (fun q hq hl=>F9.block q hl (by simp;exact hq.2))
  refine(zBj w9 (nd 68 t nm 0) _ [some x1,some x2,o,some y] b (zDc (os:=[some x1,some x2,o,some y]) hown rfl) (by simp) (fun z hz=>?_) (Nat.le_trans hb F9.size) (by simpa [nd] using hnm) _ e1 S hS 68 rfl 0 rfl _ rfl).mono ?_
  ·have hz:z=x1∨z=x2∨some z=o∨z=y:=by simpa using hz
   rcases hz with rfl | rfl | hz | rfl
   ·exact K _ h1
   ·exact K _ h2
   ·exact K _ (h3 _ hz.symm)
   ·exact K _ hy
  ·rintro e w' ⟨z,rfl,F10,hz,hzd⟩
   exact⟨z,rfl,F9.on0 F10,hG z w' (F9.on0 F10) hz (by rw [hzd];rfl)⟩
 have cd:=(HV w (Fr.refl _ w)).1
 have cp:=(HV w (Fr.refl _ w)).2.1
 have cn:=(HV w (Fr.refl _ w)).2.2.1
 have cl:=(HV w (Fr.refl _ w)).2.2.2
 have HX:=oH (oA F1 (oA hrow1 (oA hnews (oA hone (oA hs1 (oA HV (oA HN hgl)))))))
 clear hd hbp hbn hbl hrow h1 h2 h3 hy hne hG HN HV F1 hrow1 hnews hone hs1 hgl e1 hS hnm
 simp only [ptrV,pt] at HX ⊢
 go_enter Tryz.func90,Tryz.ntmps90
 go_wp2_with fail
 refine zAp 8 (S:=fun w'=>w'.cell? ⟨bd,0,none⟩=some (.func (.func df) d1 d2)∧w'.cell? ⟨bp,0,none⟩=some (.complex .f64 px py)∧w'.cell? ⟨bn,0,none⟩=some (.string S)∧w'.cell? ⟨bl,0,none⟩=some (.slice (some ⟨g,0,none⟩) 3 3)) (by kernel_rfl) ?_ (fun hHeld=>?_)
 ·exact⟨cd,cp,cn,cl⟩
 refine zAh (k:=9) (i:=0) (v:=?_) rfl (by kernel_rfl) (by kernel_rfl) (by kernel_rfl) (by kernel_rfl) (fun _ _ _ h=>h) (Or.inl ⟨by rfl,?_⟩) (by assumption) ?_
 rotate_left
 ·intro w hSw;(try dsimp only at hSw);(try obtain⟨h1,h2,h3,h4⟩:=hSw);go_simp;try with_reducible rfl
 simp only[Act.put,oB,oC,oD,oE,oF,oG]
 refine zAh (k:=9) (i:=1) (v:=?_) rfl (by kernel_rfl) (by kernel_rfl) (by kernel_rfl) (by kernel_rfl) (fun _ _ _ h=>h) (Or.inl ⟨by rfl,?_⟩) (by assumption) ?_
 rotate_left
 ·intro w hSw;(try dsimp only at hSw);(try obtain⟨h1,h2,h3,h4⟩:=hSw);go_simp;try with_reducible rfl
 simp only[Act.put,oB,oC,oD,oE,oF,oG]
 refine zAh (k:=9) (i:=2) (v:=?_) rfl (by kernel_rfl) (by kernel_rfl) (by kernel_rfl) (by kernel_rfl) (fun _ _ _ h=>h) (Or.inl ⟨by rfl,?_⟩) (by assumption) ?_
 rotate_left
 ·intro w hSw;(try dsimp only at hSw);(try obtain⟨h1,h2,h3,h4⟩:=hSw);go_simp;try with_reducible rfl
 simp only[Act.put,oB,oC,oD,oE,oF,oG]
 refine zAh (k:=9) (i:=3) (v:=?_) rfl (by kernel_rfl) (by kernel_rfl) (by kernel_rfl) (by kernel_rfl) (fun _ _ _ h=>h) (Or.inl ⟨by rfl,?_⟩) (by assumption) ?_
 rotate_left
 ·intro w hSw;(try dsimp only at hSw);(try obtain⟨h1,h2,h3,h4⟩:=hSw);go_simp;try with_reducible rfl
 simp only[Act.put,oB,oC,oD,oE,oF,oG]
 refine zAh (k:=9) (i:=4) (v:=?_) rfl (by kernel_rfl) (by kernel_rfl) (by kernel_rfl) (by kernel_rfl) (fun _ _ _ h=>h) (Or.inl ⟨by rfl,?_⟩) (by assumption) ?_
 rotate_left
 ·intro w hSw;(try dsimp only at hSw);(try obtain⟨h1,h2,h3,h4⟩:=hSw);go_simp;try with_reducible rfl
 simp only[Act.put,oB,oC,oD,oE,oF,oG]
 refine zAa (rs:=[5]) (by kernel_rfl) (by simp) ?_
 refine AllL.cons rfl (fun K hK=>?_) ?_
 rotate_left
 ·exact AllL.nil
 go_simp
 try rw [hw1]
 refine hK.out _ _ (HX.out.2.2.2.2.2.1 _ HX.out.1.up0) (fun hHeld=>?_)
 clear hK K
 try simp only[Act.put,oB,oC,oD,oE,oF,oG]
 refine zAa (rs:=[6]) (by kernel_rfl) (by simp) ?_
 refine AllL.cons rfl (fun K hK=>?_) ?_
 rotate_left
 ·exact AllL.nil
 refine step_append_lies _ (by rfl) _ _ _ (by rfl) 0 26 i1 (.pointer none) 1 8 Tryz.underlying38 hi hz0 hz1 hz2 (by rfl) (by decide) (.slice (some ⟨g,0,none⟩) 3 3) 3 _ (by rfl) HX.out.2.1 ⟨w.heap.size,0,none⟩ 1 1 [.pointer (some ⟨y.p,0,none⟩)] (by rfl) (by rfl) HX.out.2.2.1 HX.out.2.2.2.1 (by decide) (by unfold maxLen;omega) (by omega) (Nat.zero_le _) w1.heap.size rfl ?_
 intro g9 cap9 w9 hown9 hgrow hat hlt9
 have F9:Fr [g] w w9:=(HX.out.1.up0 (N:=[g])).on ((Fr.of_grown hgrow).mono (fun q hq=>by simpa [obL,Value.ownBlock] using hq))
 have HC:=HX.out.2.2.2.2.2.2.1 w9 g9 cap9 F9 hown9
 have H9:=HX.out.2.2.2.2.2.1 w9 F9
 clear hown9 hgrow hat hlt9 F9
 refine hK.out _ _ (H9) (fun hHeld=>?_)
 clear hK K
 try simp only[Act.put,oB,oC,oD,oE,oF,oG]
 refine zAa (rs:=[7]) (by kernel_rfl) (by simp) ?_
 refine AllL.cons rfl (fun K hK=>?_) ?_
 rotate_left
 ·exact AllL.nil
 go_simp
 refine HC.mono ?_
 rintro e w3 ⟨z,rfl,F3,hg⟩
 obtain⟨hE,hCC⟩:=hg
 have hRn:=zAe hE
 have H3:=HX.out.2.2.2.2.2.1 w3 F3
 clear hE F3
 go_wp2_with fail
 refine hK.out _ _ (H3) (fun hHeld=>?_)
 clear hK K
 try simp only[Act.put,oB,oC,oD,oE,oF,oG]
 refine zAa (rs:=[8]) (by kernel_rfl) (by simp) ?_
 refine AllL.last rfl (by kernel_rfl) (fun K hK=>?_) ?_
 rotate_left
 ·exact AllL.nil
 go_simp
 refine hCC.mono ?_
 rintro e w4 ⟨s,rfl,hr⟩
 have HRS:=oH hr
 clear hr hCC HX H3 H9 HC
 go_wp2_with fail
 refine hK.out _ _ ?_
 clear hK K
 try simp only[Act.put,oB,oC,oD,oE,oF,oG]
 refine zAa (rs:=[9]) (by kernel_rfl) (by simp) ?_
 refine AllL.last rfl (by kernel_rfl) (fun K hK=>?_) ?_
 rotate_left
 ·exact AllL.nil
 go_simp
 refine hK.out _ _ ?_
 clear hK K
 try simp only[Act.put,oB,oC,oD,oE,oF,oG]
 refine zAl (by kernel_rfl) ?_ _
 go_wp2_with fail
 go_ret
 exact⟨s,rfl,HRS.out⟩
theorem zTl:Enters 90:=⟨_,_,Tryz.func90,by kernel_rfl,rfl⟩
theorem zYn:Enters 51:=⟨_,_,Tryz.func51,by kernel_rfl,rfl⟩
theorem qBq (ts:List TK) (B:Nat→Re) (i:Nat):forM ts B i=if (tk ts (i+1)).1.k=1 then ((cntM ts (i+2)).bnd fun l j=>if isW (tk ts j) [68,79]=true then (wrdM ts [69,78,68] (B (j+1))).bndL fun b k=>.ok (l++[b]) k else .bad j).re fun l=>.node (nd 68 (tk ts i) (tk ts (i+1)).1.x 0) l else .bad (i+1):=rfl
theorem zYo (c:Sc) (B:Nat→Re) (hB:CB c B) (w w8:World) (i j W P Q U g b:Nat) (x1 x2:Tr) (o:Option Tr) (done:FV) (Post:World→Prop)
  (X8:SX c w8 (j+1)) (F8:Fr [c.R] w w8) (hW:c.mb < W) (hWP:W < P∧P < Q∧Q < U∧U≠g) (hg:w.heap.size≤g∧g≠W∧g≠P∧g≠Q)
  (v0:Var w8 W 76 done.val) (v1:Var w8 P 37 (posV (tk c.ts i).2.1.1 (tk c.ts i).2.1.2)) (v2:Var w8 Q 9 (.string ⟨(tk c.ts (i+1)).1.x.toArray⟩)) (v3:Var w8 U 38 (.slice (some ⟨g,0,none⟩) 3 3))
  (hrow:w8.ownsRow 0 26 1 (.slice (some ⟨g,0,none⟩) 3 3) 3 [ptrV x1.p,ptrV x2.p,encP (o.map Tr.p)]) (h1:IsT w8 (fun q=>b≤q∧q≠g) x1) (h2:IsT w8 (fun q=>b≤q∧q≠g) x2) (h3:∀z,o=some z→IsT w8 (fun q=>b≤q∧q≠g) z)
  (hR:c.mb < b) (hb:b≤w.heap.size)
  (hT:ThS c b w (((wrdM c.ts [69,78,68] (B (j+1))).bndL fun z k=>.ok ([x1.dt,x2.dt,(o.map Tr.dt).getD dt0]++[z]) k).re fun l=>.node (nd 68 (tk c.ts i) (tk c.ts (i+1)).1.x 0) l) done Post) :
  Calls Tryz.prog 84 #[.pointer (some ⟨c.R,0,none⟩),.string ⟨([69,78,68]:List UInt8).toArray⟩,FV.val ⟨90,#[],#[pt W,pt P,pt Q,pt U]⟩] w8 (GQ Post):=by
 have hRm:=c.hRm
 have hgl:=(hrow.lt g rfl).2
 have hs8:=F8.size
 refine zCl c B hB [69,78,68] w8 (j+1) _ Post w8.heap.size X8 (by omega) (Nat.le_refl _) ⟨fun d k er u w9 F9 X9 hu hd=>⟨zTl,?_⟩,fun k er w9 F9 X9=>?_,fun er=>?_⟩
 ·rw [er] at hT
  have hT:ThS c b w (.ok (.node (nd 68 (tk c.ts i) (tk c.ts (i+1)).1.x 0) [x1.dt,x2.dt,(o.map Tr.dt).getD dt0,d]) k) done Post:=hT
  have K:∀z,IsT w8 (fun q=>b≤q∧q≠g) z→IsT w9 (fun q=>b≤q∧q≠g) z:=fun z hz=>hz.keep (fun _ h _=>h) (fun q hq hl=>F9.block q hl (by simp;have:=hq.1;omega))
  have hs9:=F9.size
  refine for1 x1 x2 u o (tk c.ts i) (tk c.ts (i+1)).1.x done Post w9 W P Q U g b (v0.keep F9 (by simp;omega)) (v1.keep F9 (by simp;omega)) (v2.keep F9 (by simp;omega)) (v3.keep F9 (by simp;omega)) (zAf hrow F9 (fun q hq hm=>?_)) (K _ h1) (K _ h2) (fun z hz=>K _ (h3 z hz)) (hu.keep (fun q hq _=>?_) (fun _ _ _=>rfl)) ⟨by omega,by omega,by omega,by omega⟩ (by omega) (X9.txt _) (fun uu w' F' huu hduu=>?_)
  ·have e1:q=g:=by simpa [obL,Value.ownBlock] using hq
   have e2:q=c.R:=by simpa using hm
   omega
  ·have hq:w8.heap.size≤q:=hq
   exact⟨by omega,by omega⟩
  ·refine hT.ok _ _ rfl uu w' ((F8.on F9).trans F' (fun q hq=>.inr ?_)) (X9.stay F' (fun q hq=>?_)) huu (by rw [hduu,hd])
   ·obtain rfl:q=g:=by simpa using hq
    exact hg.1
   ·obtain rfl:q=g:=by simpa using hq
    omega
 ·rw [er] at hT
  have hT:ThS c b w (.bad k) done Post:=hT
  exact hT.bad _ rfl w9 (F8.on F9) X9
 ·rw [er] at hT
  have hT:ThS c b w .out done Post:=hT
  exact hT.no rfl
theorem zYp (c:Sc) (B:Nat→Re) (hB:CB c B) (w:World) (i:Nat) (done:FV) (Post:World→Prop) (b:Nat) (hX:SX c w i) (hlt:i < c.ts.length) (hR:c.mb < b) (hb:b≤w.heap.size) (hT:ThS c b w (forM c.ts B i) done Post) :
  Calls Tryz.prog 51 #[.pointer (some ⟨c.R,0,none⟩),done.val] w (GQ Post):=by
 obtain⟨px,py,e1⟩:=zAc (tk c.ts i).2.1.1 (tk c.ts i).2.1.2
 obtain⟨ex,ey,e2⟩:=zAc (tk c.ts i).2.2.1 (tk c.ts i).2.2.2
 obtain⟨qx,qy,f1⟩:=zAc (tk c.ts (i+1)).2.1.1 (tk c.ts (i+1)).2.1.2
 obtain⟨gx,gy,f2⟩:=zAc (tk c.ts (i+1)).2.2.1 (tk c.ts (i+1)).2.2.2
 have hfd:=zBb
 have hfd0:=zCp
 have hfd3:=zOh
 have hsc:=fun w a x y m=>zAg (P:=Tryz.prog) w a .f64 x y m
 obtain⟨W,hW⟩:∃W,w.heap.size=W:=⟨_,rfl⟩
 obtain⟨w0,hw0⟩:∃w0,w.alloc (.cells #[done.val] 76)=w0:=⟨_,rfl⟩
 have F0:Fr [] w w0:=by rw [← hw0];exact Fr.alloc _ _
 have v0:Var w0 W 76 done.val:=by rw [← hw0,← hW];exact heap_alloc_new _ _
 have HTK:=zCi c w0 i (hX.keep F0) hlt px py ex ey e1 e2
 have hRm:=c.hRm
 have hmW:c.mb < W:=by rw [← hW];omega
 rw [qBq] at hT
 obtain⟨k1,hk1⟩:∃k1:Nat,(tk c.ts (i+1)).1.k=k1:=⟨_,rfl⟩
 obtain⟨sx,hsx⟩:∃sx,(⟨(tk c.ts (i+1)).1.x.toArray⟩:ByteArray)=sx:=⟨_,rfl⟩
 have HHE:∀w2,SX c w2 (i+1)→Calls Tryz.prog 27 #[.pointer (some ⟨c.R,0,none⟩)] w2 fun e w'=>e=.returned (.agg #[.int .u8 k1,.complex .f64 qx qy,.complex .f64 gx gy,.string sx,.int .i64 (tk c.ts (i+1)).1.n])∧Fr [] w2 w':=fun w2 X2=>by rw [← hk1,← hsx];exact zCj c w2 (i+1) X2 qx qy gx gy f1 f2
 have HTK2:k1=1→∀w3,SX c w3 (i+1)→Calls Tryz.prog 75 #[.pointer (some ⟨c.R,0,none⟩)] w3 fun e w'=>e=.returned (.agg #[.int .u8 k1,.complex .f64 qx qy,.complex .f64 gx gy,.string sx,.int .i64 (tk c.ts (i+1)).1.n])∧Fr [c.R] w3 w'∧SX c w' (i+2):=fun hk w3 X3=>by rw [← hk1,← hsx];exact zCi c w3 (i+1) X3 (k_lt (by rw [hk1,hk];decide)) qx qy gx gy f1 f2
 rw [hk1] at hT
 generalize (tk c.ts (i+1)).1.n=t9 at *
 have HHT:=oH (oA HHE HTK2)
 have HH:=oH (oA hB (oA hT (oA F0 (oA v0 (oA hmW (oA hR (oA hb (oA hW (oA e1 hsx)))))))))
 clear hB hX hlt hR hb hT F0 v0 hW e1 e2 f1 f2 hmW hRm HHE HTK2 hsx hk1
 generalize ((tk c.ts i).1.k:Int)=t0 at *
 generalize (⟨(tk c.ts i).1.x.toArray⟩:ByteArray)=t3 at *
 generalize (tk c.ts i).1.n=t4 at *
 obtain⟨df,d1,d2,rfl⟩:∃df d1 d2,done=⟨df,d1,d2⟩:=⟨_,_,_,rfl⟩
 simp only [FV.val] at hw0 ⊢
 go_enter Tryz.func51,Tryz.ntmps51
 go_wp2_with fail
 refine HTK.mono ?_
 rintro e w1 ⟨rfl,F1,X1⟩
 clear HTK
 go_upto_region 2 with fail
 obtain⟨P,hP⟩:∃P,w1.heap.size=P:=⟨_,rfl⟩
 obtain⟨w2,hw2⟩:∃w2,w1.alloc (.cells #[.complex .f64 px py] 37)=w2:=⟨_,rfl⟩
 have F2:Fr [] w1 w2:=by rw [← hw2];exact Fr.alloc _ _
 have v2:Var w2 P 37 (.complex .f64 px py):=by rw [← hw2,← hP];exact heap_alloc_new _ _
 try rw [hw2]
 try rw [hP]
 have HA:=HHT.out.1 w2 (X1.keep F2)
 have HWP:Hid (W < P):=oH (by rw [← hP];have:=HH.out.2.2.2.1.lt;have:=F1.size;omega)
 have H2:=oH (oA (F1.on0 F2) (oA v2 (X1.keep F2)))
 clear F1 X1 F2 v2 hP hw2
 by_cases hk:k1=1
 ·have hkt:((k1:Int) == 1)=true:=by rw [hk];rfl
  have hkn:(k1:Int)=1:=by rw [hk];rfl
  go_wp2_with fail
  refine HA.mono ?_
  rintro e w3 ⟨rfl,F3⟩
  have HB:=HHT.out.2 hk w3 (H2.out.2.2.keep F3)
  have HT2:Hid (ThS c b w (((cntM c.ts (i+2)).bnd fun l j=>if isW (tk c.ts j) [68,79]=true then (wrdM c.ts [69,78,68] (B (j+1))).bndL fun b k=>.ok (l++[b]) k else .bad j).re fun l=>.node (nd 68 (tk c.ts i) (tk c.ts (i+1)).1.x 0) l) ⟨df,d1,d2⟩ Post):=oH (by
   have hT:=HH.out.2.1
   rw [if_pos hk] at hT
   exact hT)
  have H3:=oH F3
  clear HA F3 HHT
  go_wp2_with fail
  refine HB.mono ?_
  rintro e w4 ⟨rfl,F4,X4⟩
  clear HB hkt hkn hk
  go_upto_region 5 with fail
  obtain⟨Q,hQ⟩:∃Q,w4.heap.size=Q:=⟨_,rfl⟩
  obtain⟨w5,hw5⟩:∃w5,w4.alloc (.cells #[.string sx] 9)=w5:=⟨_,rfl⟩
  have F5:Fr [] w4 w5:=by rw [← hw5];exact Fr.alloc _ _
  have v5:Var w5 Q 9 (.string sx):=by rw [← hw5,← hQ];exact heap_alloc_new _ _
  try rw [hw5]
  try rw [hQ]
  have F25:Fr [c.R] w2 w5:=(H3.out.up0.on F4).on0 F5
  have HPQ:Hid (P < Q):=oH (by rw [← hQ];have:=H2.out.2.1.lt;have:=H3.out.size;have:=F4.size;omega)
  have HC:=zYk c w5 (i+2) (X4.keep F5) (by have:=(X4.keep F5).lt;exact this)
  have H5:=oH (oA F25 (oA v5 hQ))
  clear F4 X4 F5 v5 hQ hw5 F25 H3
  go_wp2_with fail
  refine HC.mono ?_
  rintro e w6 ⟨F6,⟨j,x1,x2,o,g,hr,rfl,X6,hrow,hg,h1,h2,h3⟩ | ⟨j,q,n,cap,hr,rfl,X6⟩⟩
  ·clear HC
   go_upto_region 6 with fail
   obtain⟨U,hU⟩:∃U,w6.heap.size=U:=⟨_,rfl⟩
   obtain⟨w7,hw7⟩:∃w7,w6.alloc (.cells #[.slice (some ⟨g,0,none⟩) 3 3] 38)=w7:=⟨_,rfl⟩
   have F7:Fr [] w6 w7:=by rw [← hw7];exact Fr.alloc _ _
   have v7:Var w7 U 38 (.slice (some ⟨g,0,none⟩) 3 3):=by rw [← hw7,← hU];exact heap_alloc_new _ _
   try rw [hw7]
   try rw [hU]
   have c7:=v7.c
   have hgl:g < w6.heap.size:=(hrow.lt g rfl).2
   have X7:=X6.keep F7
   have K:∀z,IsT w6 (fun q=>w5.heap.size≤q∧q≠g) z→IsT w7 (fun q=>w5.heap.size≤q∧q≠g) z:=fun z hz=>hz.keep (fun _ h _=>h) (fun q hq hl=>F7.block q hl (by simp))
   have H7:=oH (oA (F6.on0 F7) (oA v7 (oA (zAf hrow F7 (by simp)) (oA (show w5.heap.size≤g∧g < U by omega) (oA (K _ h1) (oA (K _ h2) (oA (fun z hz=>K _ (h3 z hz)) (oA hr X7))))))))
   clear F6 F7 v7 hrow hg hgl h1 h2 h3 hr hU X6 hw7 K
   cases hq:isW (tk c.ts j) [68,79]
   ·have HK:=zBt c w7 j [68,79] X7 hq
    have HP:Hid (∀w',Fr [] w7 w'→Post w'):=oH (fun w' F=>by
     have hT:=HT2.out
     rw [H7.out.2.2.2.2.2.2.2.1] at hT
     have hT:ThS c b w ((if isW (tk c.ts j) [68,79]=true then (wrdM c.ts [69,78,68] (B (j+1))).bndL fun b k=>.ok ([x1.dt,x2.dt,(o.map Tr.dt).getD dt0]++[b]) k else .bad j).re fun l=>.node (nd 68 (tk c.ts i) (tk c.ts (i+1)).1.x 0) l) ⟨df,d1,d2⟩ Post:=hT
     rw [if_neg (by rw [hq];simp)] at hT
     exact hT.bad _ rfl w' ((((HH.out.2.2.1.up0.on H2.out.1).on H5.out.1).on H7.out.1).on0 F) (H7.out.2.2.2.2.2.2.2.2.keep F))
    clear X7 hq
    go_wp2_with fail
    refine HK.mono ?_
    rintro e w8 ⟨rfl,F8⟩
    have H8:=oH F8
    clear F8 HK
    go_wp2_with fail
    go_ret
    exact zCd (HP.out _ H8.out)
   ·have HK:=zBw c w7 j [68,79] X7 hq
    have HQQ:=oH hq
    clear X7 hq
    go_wp2_with fail
    refine HK.mono ?_
    rintro e w8 ⟨rfl,F8,X8⟩
    have HC:=by
     obtain⟨hB,hT,F0,v0,hmW,hR,hb,hW,e1,hsx⟩:=HH.out
     obtain⟨F02,v2,X2⟩:=H2.out
     obtain⟨F25,v5,hQ⟩:=H5.out
     obtain⟨F57,v7,hrow,hg,h1,h2,h3,hr,X7⟩:=H7.out
     have hRm:=c.hRm
     have hWP:=HWP.out
     have hPQ:=HPQ.out
     have hQ5:=v5.lt
     have F05:Fr [c.R] w0 w5:=F02.on F25
     have F58:Fr [c.R] w5 w8:=F57.on F8
     have F08:Fr [c.R] w0 w8:=F05.on F58
     have F28:Fr [c.R] w2 w8:=F25.on F58
     have hs5:=F05.size
     have hs0:=F0.size
     have hT:=HT2.out
     rw [hr] at hT
     have hT:ThS c b w ((if isW (tk c.ts j) [68,79]=true then (wrdM c.ts [69,78,68] (B (j+1))).bndL fun b k=>.ok ([x1.dt,x2.dt,(o.map Tr.dt).getD dt0]++[b]) k else .bad j).re fun l=>.node (nd 68 (tk c.ts i) (tk c.ts (i+1)).1.x 0) l) ⟨df,d1,d2⟩ Post:=hT
     rw [if_pos HQQ.out] at hT
     have K:∀z,IsT w7 (fun q=>w5.heap.size≤q∧q≠g) z→IsT w8 (fun q=>b≤q∧q≠g) z:=fun z hz=>hz.keep (fun q hq _=>⟨by have:=hq.1;omega,hq.2⟩) (fun q hq hl=>F8.block q hl (by simp;have:=hq.1;omega))
     exact zYo c B hB w w8 i j W P Q U g b x1 x2 o ⟨df,d1,d2⟩ Post X8 (F0.up0.on F08) hmW ⟨by omega,by omega,by omega,by omega⟩ ⟨by omega,by omega,by omega,by omega⟩
      (v0.keep F08 (by simp;omega)) (by rw [e1];exact v2.keep F28 (by simp;omega)) (by rw [hsx];exact v5.keep F58 (by simp;omega)) (v7.keep F8 (by simp;omega))
      (zAf hrow F8 (fun q hq hm=>by
       have e1:q=g:=by simpa [obL,Value.ownBlock] using hq
       have e2:q=c.R:=by simpa using hm
       omega)) (K _ h1) (K _ h2) (fun z hz=>K _ (h3 z hz)) hR hb hT
    clear F8 X8 HK c7
    rw [← HH.out.2.2.2.2.2.2.2.1] at HC
    simp only [FV.val,pt] at HC
    go_wp2_with fail
    refine HC.mono ?_
    rintro e w' ⟨s,rfl,hr⟩
    go_wp2_with fail
    go_ret
    exact⟨s,rfl,hr⟩
  ·have HP:Hid (∀w',Fr [] w6 w'→Post w'):=oH (fun w' F=>by
    have hT:=HT2.out
    rw [hr] at hT
    have hT:ThS c b w (.bad j) ⟨df,d1,d2⟩ Post:=hT
    exact hT.bad _ rfl w' ((((HH.out.2.2.1.up0.on H2.out.1).on H5.out.1).on F6).on0 F) (X6.keep F))
   clear HC hr F6 X6
   go_wp2_with fail
   go_ret
   exact zCd (HP.out _ (Fr.alloc _ _))
 ·have hkt:((k1:Int) == 1)=false:=by
   rw [beq_eq_false_iff_ne]
   omega
  have hkn:¬(k1:Int)=1:=by omega
  have HP:Hid (∀w',Fr [] w2 w'→Post w'):=oH (fun w' F=>by
   have hT:=HH.out.2.1
   rw [if_neg hk] at hT
   exact hT.bad _ rfl w' ((HH.out.2.2.1.up0.on H2.out.1).on0 F) (H2.out.2.2.keep F))
  clear HHT hk
  go_wp2_with fail
  refine HA.mono ?_
  rintro e w3 ⟨rfl,F3⟩
  have H3:=oH F3
  clear F3 HA
  go_wp2_with fail
  go_ret
  exact zCd (HP.out _ H3.out)
end Go.Proofs.YtepfknfadpkigaaGreat
namespace Go.Proofs.YtepfknfadpkigaaGreat
open Go.RowKit
set_option maxHeartbeats 4000000
set_option maxRecDepth 100000
def EndB (c:Sc) (B:Nat→Re):Prop:=∀i d j,i≤c.ts.length→B i=.ok d j→i≤j
theorem zRc {ts:List TK} {e:List UInt8} {r:Re} {d:DT} {j:Nat} (h:wrdM ts e r=.ok d j):∃j0,r=.ok d j0∧j=j0+1∧j0 < ts.length:=by
 cases r with
 | out=>cases h
 | bad k=>cases h
 | ok x k =>
  have h:(if isW (tk ts k) e=true then Re.ok x (k+1) else Re.bad k)=Re.ok d j:=h
  split at h
  ·rename_i hs
   injection h with h1 h2
   subst h1 h2
   exact⟨k,rfl,rfl,zCr hs⟩
  ·cases h
theorem zUm {c:Sc} {B:Nat→Re} (hBm:EndB c B) {k:Nat} {l:List DT} {j:Nat} (h:othM c.ts B k=.ok l j):k+1≤j:=by
 unfold othM at h
 split at h
 ·rename_i hs
  have hk:=zCr hs
  cases hr:wrdM c.ts [69,78,68] (B (k+1)) with
  | out=>rw [hr] at h;cases h
  | bad q=>rw [hr] at h;cases h
  | ok d q =>
   rw [hr] at h
   have h:ReL.ok [d] q=ReL.ok l j:=h
   injection h with _ h2
   subst h2
   obtain⟨j0,e0,rfl,_⟩:=zRc hr
   have:=hBm _ _ _ (show k+1≤c.ts.length from hk) e0
   omega
 ·split at h
  ·injection h with _ h2
   omega
  ·cases h
theorem qBr:Enters 74:=⟨_,_,Tryz.func74,by kernel_rfl,rfl⟩
theorem qBs:Enters 78:=⟨_,_,Tryz.func78,by kernel_rfl,rfl⟩
theorem zRd:Enters 80:=⟨_,_,Tryz.func80,by kernel_rfl,rfl⟩
theorem qDh:Enters 45:=⟨_,_,Tryz.func45,by kernel_rfl,rfl⟩
structure IV (c:Sc) (w:World) (br bl bm bd ba:Nat) (t:TK) (done:FV):Prop where
 r:Var w br 44 (pt c.R)
 m:Var w bm 47 (.func (.func 74) #[] #[pt br,pt bl,pt bm,pt bd,pt ba])
 d:Var w bd 76 done.val
 a:Var w ba 37 (posV t.2.1.1 t.2.1.2)
theorem IV.keep {c:Sc} {w w':World} {br bl bm bd ba:Nat} {t:TK} {done:FV} {N:List Nat} (h:IV c w br bl bm bd ba t done) (F:Fr N w w') (hN:∀q ∈ N,q≠br∧q≠bm∧q≠bd∧q≠ba):IV c w' br bl bm bd ba t done :=
 ⟨h.r.keep F (fun hm=>(hN _ hm).1 rfl),h.m.keep F (fun hm=>(hN _ hm).2.1 rfl),h.d.keep F (fun hm=>(hN _ hm).2.2.1 rfl),h.a.keep F (fun hm=>(hN _ hm).2.2.2 rfl)⟩
structure II (c:Sc) (w0 w:World) (b lo br bl bm bd ba i:Nat) (t:TK) (done:FV) (v:Value) (acc:List Tr):Prop where
 x:SX c w i
 f:Fr [c.R] w0 w
 pv:IV c w br bl bm bd ba t done
 l:Var w bl 38 v
 row:w.ownsRow 0 26 1 v acc.length (acc.map fun t=>ptrV t.p)
 own:∀g ∈ obL v,lo≤g
 t:∀t ∈ acc,IsT w (fun q=>lo≤q∧q ∉ obL v) t
 vars:∀q ∈ [br,bl,bm,bd,ba],w0.heap.size≤q∧q < lo
 dis:bl≠br∧bl≠bm∧bl≠bd∧bl≠ba
 hb:b≤w0.heap.size
 hlo:w0.heap.size≤lo
 hsz:lo≤w.heap.size
 hn:acc.length≤i
 nil:acc=[]→v=.slice none 0 0
section
variable {c:Sc} {w0 w:World} {b lo br bl bm bd ba i:Nat} {t:TK} {done:FV} {v:Value} {acc:List Tr}
theorem II.ls (h:II c w0 w b lo br bl bm bd ba i t done v acc):LsS w b v acc :=
 ⟨h.row,fun t ht=>(h.t t ht).keep (fun q hq _=>Nat.le_trans h.hb (Nat.le_trans h.hlo hq.1)) (fun _ _ _=>rfl),by have:=h.hn;have:=h.x.le;omega,h.nil,fun q hq=>Nat.le_trans h.hb (Nat.le_trans h.hlo (h.own q hq))⟩
theorem II.keep {w':World} (h:II c w0 w b lo br bl bm bd ba i t done v acc) (F:Fr [] w w'):II c w0 w' b lo br bl bm bd ba i t done v acc :=
 ⟨h.x.keep F,h.f.on0 F,h.pv.keep F (by simp),h.l.keep F (by simp),zAf h.row F (by simp),h.own,fun t ht=>(h.t t ht).keep (fun _ h _=>h) (fun q _ hl=>F.block q hl (by simp)),h.vars,h.dis,h.hb,h.hlo,Nat.le_trans h.hsz F.size,h.hn,h.nil⟩
theorem II.at {w':World} {j:Nat} (h:II c w0 w b lo br bl bm bd ba i t done v acc) (hR:c.mb < b) (F:Fr [c.R] w w') (X:SX c w' j) (hj:i≤j):II c w0 w' b lo br bl bm bd ba j t done v acc:=by
 have h1:=c.hRm
 have h2:=h.hb
 have h3:=h.hlo
 have hv:∀q ∈ [br,bl,bm,bd,ba],c.R≠q:=fun q hq=>by have:=(h.vars q hq).1;omega
 refine⟨X,h.f.on F,h.pv.keep F (fun q hq=>?_),h.l.keep F (by simp;exact Ne.symm (hv bl (by simp))),zAf h.row F (fun q hq hm=>?_),h.own,fun t ht=>(h.t t ht).keep (fun _ h _=>h) (fun q hq hl=>F.block q hl (by simp;have:=hq.1;omega)),h.vars,h.dis,h.hb,h.hlo,Nat.le_trans h.hsz F.size,Nat.le_trans h.hn hj,h.nil⟩
 ·obtain rfl:q=c.R:=by simpa using hq
  exact⟨hv _ (by simp),hv _ (by simp),hv _ (by simp),hv _ (by simp)⟩
 ·obtain rfl:q=c.R:=by simpa using hm
  have:=h.own _ hq
  omega
theorem II.next {w3:World} {g cap n:Nat} (h:II c w0 w b lo br bl bm bd ba i t done v acc) (hR:c.mb < b) (us:List Tr) (hne:us≠[]) (hun:us.length=n) (hu:∀u ∈ us,IsT w (fun q=>lo≤q∧q ∉ obL v) u) (hn:acc.length+n≤i) (o:Obj)
  (hown:w3.ownsRow 0 26 1 (.slice (some ⟨g,0,none⟩) (acc.length+n) cap) (acc.length+n) ((acc.map fun t=>ptrV t.p)++us.map fun t=>ptrV t.p)) (hgrow:(w.alloc o).grownBy w3 v.ownBlock) (hat:v.ownBlock=some g∨g=w.heap.size+1) :
  Var w3 bl 38 v∧II c w0 (w3.setCell ⟨bl,0,none⟩ (.slice (some ⟨g,0,none⟩) (acc.length+n) cap)) b lo br bl bm bd ba i t done (.slice (some ⟨g,0,none⟩) (acc.length+n) cap) (acc++us):=by
 subst hun
 have h1:=c.hRm
 have h2:=h.hb
 have h3:=h.hlo
 have F1:=Fr.alloc w o
 have F12:Fr (obL v) w w3:=(F1.mono (by simp)).trans (Fr.of_grown hgrow) (fun j hj=>.inl hj)
 have hblv:bl ∉ obL v:=fun hm=>by have:=h.own _ hm;have:=(h.vars bl (by simp)).2;omega
 have hl3:Var w3 bl 38 v:=h.l.keep F12 hblv
 have F3:=Fr.set w3 bl 0 (.slice (some ⟨g,0,none⟩) (acc.length+us.length) cap)
 have F:Fr (bl::obL v) w (w3.setCell ⟨bl,0,none⟩ (.slice (some ⟨g,0,none⟩) (acc.length+us.length) cap)):=(F12.mono (fun j hj=>List.mem_cons_of_mem _ hj)).trans F3 (fun j hj=>.inl (by
  obtain rfl:j=bl:=by simpa using hj
  exact List.mem_cons_self))
 have hg:lo≤g∧(g ∈ obL v∨w.heap.size < g):=by
  rcases hat with h4 | h4
  ·have:=(zBc v g).2 h4
   exact⟨h.own g this,.inl this⟩
  ·have:=h.hsz
   exact⟨by omega,.inr (by omega)⟩
 have hob:∀j,j ∈ obL (.slice (some ⟨g,0,none⟩) (acc.length+us.length) cap)→j=g:=fun j hj=>by simpa [obL,Value.ownBlock] using hj
 have hbl:=h.vars bl (by simp)
 have hfar:∀q ∈ bl::obL v,w0.heap.size≤q:=fun q hq=>by
  rcases List.mem_cons.1 hq with rfl | hq
  ·exact hbl.1
  ·have:=h.own q hq;omega
 have hgbl:g≠bl:=by have:=hg.1;omega
 refine⟨hl3,h.x.stay F (fun q hq=>by have:=hfar q hq;omega),h.f.trans F (fun q hq=>.inr (hfar q hq)),h.pv.keep F (fun q hq=>?_),hl3.set _,?_,fun q hq=>by rw [hob q hq];exact hg.1,fun t ht=>?_,h.vars,h.dis,h.hb,h.hlo,Nat.le_trans h.hsz F.size,by simpa using hn,fun e=>by simp at e;exact absurd e.2 hne⟩
 ·rcases List.mem_cons.1 hq with rfl | hq
  ·exact h.dis
  ·have hq:=h.own q hq
   have hne:∀z ∈ [br,bl,bm,bd,ba],q≠z:=fun z hz=>by have:=(h.vars z hz).2;omega
   exact⟨hne _ (by simp),hne _ (by simp),hne _ (by simp),hne _ (by simp)⟩
 ·have h5:=zAf hown F3 (fun q hq hm=>by
   rw [hob q hq] at hm
   simp at hm
   exact hgbl hm)
  have e1:(acc++us).length=acc.length+us.length:=by simp
  have e2:(acc++us).map (fun t=>ptrV t.p)=(acc.map fun t=>ptrV t.p)++us.map fun t=>ptrV t.p:=by simp
  rw [e1,e2]
  exact h5
 ·have q2:∀t,IsT w (fun q=>lo≤q∧q ∉ obL v) t→IsT (w3.setCell ⟨bl,0,none⟩ (.slice (some ⟨g,0,none⟩) (acc.length+us.length) cap)) (fun q=>lo≤q∧q ∉ obL (.slice (some ⟨g,0,none⟩) (acc.length+us.length) cap)) t:=fun t ht=>ht.keep (fun q hq hl=>⟨hq.1,fun hm=>by
    have e:=hob q hm
    subst e
    rcases hg.2 with h4 | h4
    ·exact hq.2 h4
    ·omega⟩) (fun q hq hl=>F.block q hl (fun hm=>by
    rcases List.mem_cons.1 hm with rfl | hm
    ·have:=hq.1;omega
    ·exact hq.2 hm))
  rcases List.mem_append.1 ht with ht | ht
  ·exact q2 t (h.t t ht)
  ·exact q2 t (hu t ht)
theorem II.new (h:II c w0 w b lo br bl bm bd ba i t done v acc) (px py:Nat) (e1:posV t.2.1.1 t.2.1.2=.complex .f64 px py) (w1:World) (F1:Fr [] w w1) :
  Calls Tryz.prog 31 #[.int .u8 62,.complex .f64 px py,.string ⟨#[]⟩,.int .i64 0,v] w1 fun e w'=>∃u:Tr,e=.returned (.pointer (some ⟨u.p,0,none⟩))∧Fr [] w w'∧IsT w' (b≤·) u∧u.dt=.node (nd 62 t [] 0) (acc.map Tr.dt):=by
 have hl:=h.ls
 have hb:=Nat.le_trans h.hb h.f.size
 refine(zBj w1 (nd 62 t [] 0) _ (acc.map some) b (hl.keep F1).argL (by rw [List.length_map];have:=hl.le;omega) (fun z hz=>by obtain⟨z2,hz2,e⟩:=List.mem_map.1 hz;injection e with e;subst e;exact zAk (hl.t _ hz2) F1 (by simp)) (Nat.le_trans hb F1.size) (by simp [nd]) _ e1 ⟨#[]⟩ rfl 62 rfl 0 rfl _ (zEj acc)).mono ?_
 rintro e w' ⟨u,rfl,F2,h3,h4⟩
 exact⟨u,rfl,F1.on F2,h3,h4⟩
end
theorem new2 (w:World) (p q:Nat):∀j u,[Value.pointer (some ⟨p,0,none⟩),.pointer (some ⟨q,0,none⟩)][j]?=some u→(w.alloc (.cells #[.pointer (some ⟨p,0,none⟩),.pointer (some ⟨q,0,none⟩)] 26)).cell? ((⟨w.heap.size,0,none⟩:Addr).add j)=some u :=
 fun j u hu=>World.news_of_block (heap_alloc_new w _) j u hu
theorem one2 (p q:Nat):∀x ∈ [Value.pointer (some ⟨p,0,none⟩),.pointer (some ⟨q,0,none⟩)],x.oneCell'=true:=fun x hx=>by
 rcases List.mem_cons.1 hx with rfl | hx
 ·rfl
 ·obtain rfl:x=.pointer (some ⟨q,0,none⟩):=by simpa using hx
  rfl
theorem zJq (p:Nat) (w:World):(binOp .neq 26 (.pointer (some ⟨p,0,none⟩)) (.pointer none)).run Tryz.prog w=.ok (.bool true) w:=by kernel_rfl
theorem qBt (c:Sc) (w0 w:World) (b lo br bl bm bd ba i:Nat) (t:TK) (done:FV) (v:Value) (acc:List Tr) (o:Option Tr) (Post:World→Prop) (hR:c.mb < b) (h:II c w0 w b lo br bl bm bd ba i t done v acc) (ho:∀u,o=some u→IsT w (fun q=>lo≤q∧q ∉ obL v) u) (hn:acc.length+1≤i)
  (hG:∀u w',Fr [c.R] w0 w'→SX c w' i→IsT w' (b≤·) u→u.dt=.node (nd 62 t [] 0) ((acc++o.toList).map Tr.dt)→GoQ done (ptrV u.p) w' Post) :
  Calls Tryz.prog 80 #[encP (o.map Tr.p),pt bl,pt bd,pt ba] w (GQ Post):=by
 obtain⟨i1,hi,hz0,hz1,hz2⟩:=info_parts infoP
 obtain⟨px,py,e1⟩:=zAc t.2.1.1 t.2.1.2
 have hnn:=zIo
 obtain⟨df,d1,d2,rfl⟩:∃df d1 d2,done=⟨df,d1,d2⟩:=⟨_,_,_,rfl⟩
 cases o with
 | none =>
  obtain⟨w5,hw5⟩:∃w5,w=w5:=⟨_,rfl⟩
  obtain⟨vv,hvv⟩:∃vv,v=vv:=⟨_,rfl⟩
  subst hw5 hvv
  have HN:=fun w1 F1=>h.new px py e1 w1 F1
  have HSS:∀w':World,Fr [] w w'→(w'.cell? ⟨bd,0,none⟩=some (.func (.func df) d1 d2)∧w'.cell? ⟨ba,0,none⟩=some (.complex .f64 px py)∧w'.cell? ⟨bl,0,none⟩=some v):=fun w' F=>⟨(h.pv.d.keep F (by simp)).c,by rw [← e1];exact(h.pv.a.keep F (by simp)).c,(h.l.keep F (by simp)).c⟩
  have HG:Hid (∀z w',Fr [] w w'→IsT w' (b≤·) z→z.dt=.node (nd 62 t [] 0) (acc.map Tr.dt)→GoQ ⟨df,d1,d2⟩ (.pointer (some ⟨z.p,0,none⟩)) w' Post):=oH (fun z w' F hz hzd=>hG z w' (h.f.on0 F) (h.x.keep F) hz (by rw [hzd];simp))
  clear hG h ho hn e1 hR hi hz0 hz1 hz2
  simp only [Option.map,encP,pt,FV.val] at HG ⊢
  go_enter Tryz.func80,Tryz.ntmps80
  go_wp2_with fail
  refine zAp 4 (S:=fun w'=>w'.cell? ⟨bd,0,none⟩=some (.func (.func df) d1 d2)∧w'.cell? ⟨ba,0,none⟩=some (.complex .f64 px py)∧w'.cell? ⟨bl,0,none⟩=some v) (by kernel_rfl) ?_ (fun hHeld=>?_)
  ·exact HSS _ (Fr.drew w)
  refine zAh (k:=12) (i:=0) (v:=?_) rfl (by kernel_rfl) (by kernel_rfl) (by kernel_rfl) (by kernel_rfl) (fun _ _ _ h=>h) (Or.inl ⟨by rfl,?_⟩) (by assumption) ?_
  rotate_left
  ·intro w hSw;(try dsimp only at hSw);(try obtain⟨h1,h2,h3⟩:=hSw);go_simp;try with_reducible rfl
  simp only[Act.put,oB,oC,oD,oE,oF,oG]
  refine zAh (k:=12) (i:=1) (v:=?_) rfl (by kernel_rfl) (by kernel_rfl) (by kernel_rfl) (by kernel_rfl) (fun _ _ _ h=>h) (Or.inl ⟨by rfl,?_⟩) (by assumption) ?_
  rotate_left
  ·intro w hSw;(try dsimp only at hSw);(try obtain⟨h1,h2,h3⟩:=hSw);go_simp;try with_reducible rfl
  simp only[Act.put,oB,oC,oD,oE,oF,oG]
  refine zAh (k:=12) (i:=2) (v:=?_) rfl (by kernel_rfl) (by kernel_rfl) (by kernel_rfl) (by kernel_rfl) (fun _ _ _ h=>h) (Or.inl ⟨by rfl,?_⟩) (by assumption) ?_
  rotate_left
  ·intro w hSw;(try dsimp only at hSw);(try obtain⟨h1,h2,h3⟩:=hSw);go_simp;try with_reducible rfl
  simp only[Act.put,oB,oC,oD,oE,oF,oG]
  refine zAa (rs:=[3]) (by kernel_rfl) (by simp) ?_
  refine AllL.cons rfl (fun K hK=>?_) ?_
  rotate_left
  ·exact AllL.nil
  go_simp
  refine(HN _ (Fr.drew w)).mono ?_
  rintro e w9 ⟨z,rfl,F9,hz,hzd⟩
  have H9:=HSS w9 F9
  obtain⟨hE,hC⟩:=HG.out z w9 F9 hz hzd
  have hR2:=zAe hE
  clear hE hz hzd F9 HN
  go_wp2_with fail
  refine hK.out _ _ (H9) (fun hHeld=>?_)
  clear hK K
  try simp only[Act.put,oB,oC,oD,oE,oF,oG]
  refine zAa (rs:=[4]) (by kernel_rfl) (by simp) ?_
  refine AllL.last rfl (by kernel_rfl) (fun K hK=>?_) ?_
  rotate_left
  ·exact AllL.nil
  go_simp
  refine hC.mono ?_
  rintro e w10 ⟨s,rfl,hr⟩
  have HRS:=oH hr
  clear hr hC HG HSS H9
  go_wp2_with fail
  refine hK.out _ _ ?_
  clear hK K
  try simp only[Act.put,oB,oC,oD,oE,oF,oG]
  refine zAa (rs:=[5]) (by kernel_rfl) (by simp) ?_
  refine AllL.last rfl (by kernel_rfl) (fun K hK=>?_) ?_
  rotate_left
  ·exact AllL.nil
  go_simp
  refine hK.out _ _ ?_
  clear hK K
  try simp only[Act.put,oB,oC,oD,oE,oF,oG]
  refine zAl (by kernel_rfl) ?_ _
  go_wp2_with fail
  go_ret
  exact⟨s,rfl,HRS.out⟩
 | some u =>
  have cl:=h.l.c
  have hsr:=h.row.alloc (.cells #[ptrV u.p] 26)
  have HN1:=oH (new1 w (ptrV u.p) 26)
  have HO1:=oH (one1 u.p)
  have hk:acc.length≤16384:=by have:=h.hn;have:=h.x.le;omega
  obtain⟨n,hnl⟩:∃n,acc.length=n:=⟨_,rfl⟩
  have HKL:=oH hnl
  rw [hnl] at hsr hk
  have HH:=oH (oA h (oA (ho u rfl) (oA hn (oA hG (oA hR e1)))))
  have hns:=zJq u.p
  clear h ho hn hG hnl hR e1
  simp only [ptrV] at hsr HN1 HO1
  simp only [Option.map,encP,ptrV,pt]
  go_enter Tryz.func80,Tryz.ntmps80
  go_wp2_with (at_builtin;refine wpList_append_lies _ rfl _ _ 38 rfl 0 26 i1 _ 1 8 Tryz.underlying38 hi hz0 hz1 hz2 rfl (by decide) v n _ rfl hsr ⟨w.heap.size,0,none⟩ 1 1 [.pointer (some ⟨u.p,0,none⟩)] rfl rfl HN1.out HO1.out (by decide) (by unfold maxLen;omega) (by omega) (by simp <;> omega) (w.heap.size+1) (by simp) ?_)
  intro g cap w3 hown hgrow hat hlt3
  have hst:=HH.out.1.next HH.out.2.2.2.2.1 [u] (by simp) (n:=1) rfl (fun z hz=>by
   have hz:z=u:=by simpa using hz
   rw [hz]
   exact HH.out.2.1) HH.out.2.2.1 _ (by rw [HKL.out];simpa [ptrV] using hown) hgrow hat
  rw [HKL.out] at hst
  have c3:=hst.1.c
  have f3:=hst.1.f
  have HS:=oH hst.2
  clear hst hown hgrow hat hsr HN1 HO1 cl
  go_upto_region 3 with fail
  obtain⟨vv,hvv⟩:∃vv,Value.slice (some ⟨g,0,none⟩) (n+1) cap=vv:=⟨_,rfl⟩
  rw [hvv] at HS
  try rw [hvv]
  obtain⟨w5,hw5⟩:∃w5,w3.setCell ⟨bl,0,none⟩ vv=w5:=⟨_,rfl⟩
  rw [hw5] at HS
  try rw [hw5]
  have HN:=fun w1 F1=>HS.out.new px py HH.out.2.2.2.2.2 w1 F1
  have HSS:∀w':World,Fr [] w5 w'→(w'.cell? ⟨bd,0,none⟩=some (.func (.func df) d1 d2)∧w'.cell? ⟨ba,0,none⟩=some (.complex .f64 px py)∧w'.cell? ⟨bl,0,none⟩=some vv):=fun w' F=>⟨(HS.out.pv.d.keep F (by simp)).c,by rw [← HH.out.2.2.2.2.2];exact(HS.out.pv.a.keep F (by simp)).c,(HS.out.l.keep F (by simp)).c⟩
  have HG:Hid (∀z w',Fr [] w5 w'→IsT w' (b≤·) z→z.dt=.node (nd 62 t [] 0) ((acc++[u]).map Tr.dt)→GoQ ⟨df,d1,d2⟩ (.pointer (some ⟨z.p,0,none⟩)) w' Post):=oH (fun z w' F hz hzd=>HH.out.2.2.2.1 z w' (HS.out.f.on0 F) (HS.out.x.keep F) hz hzd)
  clear c3 f3 hw5 hvv HS HH hi hz0 hz1 hz2
  refine zAp 4 (S:=fun w'=>w'.cell? ⟨bd,0,none⟩=some (.func (.func df) d1 d2)∧w'.cell? ⟨ba,0,none⟩=some (.complex .f64 px py)∧w'.cell? ⟨bl,0,none⟩=some vv) (by kernel_rfl) ?_ (fun hHeld=>?_)
  ·exact HSS _ (Fr.drew w5)
  refine zAh (k:=12) (i:=0) (v:=?_) rfl (by kernel_rfl) (by kernel_rfl) (by kernel_rfl) (by kernel_rfl) (fun _ _ _ h=>h) (Or.inl ⟨by rfl,?_⟩) (by assumption) ?_
  rotate_left
  ·intro w hSw;(try dsimp only at hSw);(try obtain⟨h1,h2,h3⟩:=hSw);go_simp;try with_reducible rfl
  simp only[Act.put,oB,oC,oD,oE,oF,oG]
  refine zAh (k:=12) (i:=1) (v:=?_) rfl (by kernel_rfl) (by kernel_rfl) (by kernel_rfl) (by kernel_rfl) (fun _ _ _ h=>h) (Or.inl ⟨by rfl,?_⟩) (by assumption) ?_
  rotate_left
  ·intro w hSw;(try dsimp only at hSw);(try obtain⟨h1,h2,h3⟩:=hSw);go_simp;try with_reducible rfl
  simp only[Act.put,oB,oC,oD,oE,oF,oG]
  refine zAh (k:=12) (i:=2) (v:=?_) rfl (by kernel_rfl) (by kernel_rfl) (by kernel_rfl) (by kernel_rfl) (fun _ _ _ h=>h) (Or.inl ⟨by rfl,?_⟩) (by assumption) ?_
  rotate_left
  ·intro w hSw;(try dsimp only at hSw);(try obtain⟨h1,h2,h3⟩:=hSw);go_simp;try with_reducible rfl
  simp only[Act.put,oB,oC,oD,oE,oF,oG]
  refine zAa (rs:=[3]) (by kernel_rfl) (by simp) ?_
  refine AllL.cons rfl (fun K hK=>?_) ?_
  rotate_left
  ·exact AllL.nil
  go_simp
  refine(HN _ (Fr.drew w5)).mono ?_
  rintro e w9 ⟨z,rfl,F9,hz,hzd⟩
  have H9:=HSS w9 F9
  obtain⟨hE,hC⟩:=HG.out z w9 F9 hz hzd
  have hR2:=zAe hE
  clear hE hz hzd F9 HN
  go_wp2_with fail
  refine hK.out _ _ (H9) (fun hHeld=>?_)
  clear hK K
  try simp only[Act.put,oB,oC,oD,oE,oF,oG]
  refine zAa (rs:=[4]) (by kernel_rfl) (by simp) ?_
  refine AllL.last rfl (by kernel_rfl) (fun K hK=>?_) ?_
  rotate_left
  ·exact AllL.nil
  go_simp
  refine hC.mono ?_
  rintro e w10 ⟨s,rfl,hr⟩
  have HRS:=oH hr
  clear hr hC HG HSS H9
  go_wp2_with fail
  refine hK.out _ _ ?_
  clear hK K
  try simp only[Act.put,oB,oC,oD,oE,oF,oG]
  refine zAa (rs:=[5]) (by kernel_rfl) (by simp) ?_
  refine AllL.last rfl (by kernel_rfl) (fun K hK=>?_) ?_
  rotate_left
  ·exact AllL.nil
  go_simp
  refine hK.out _ _ ?_
  clear hK K
  try simp only[Act.put,oB,oC,oD,oE,oF,oG]
  refine zAl (by kernel_rfl) ?_ _
  go_wp2_with fail
  go_ret
  exact⟨s,rfl,HRS.out⟩
end Go.Proofs.YtepfknfadpkigaaGreat
namespace Go.Proofs.YtepfknfadpkigaaGreat
open Go.RowKit
set_option maxHeartbeats 4000000
set_option maxRecDepth 100000
theorem if11 (c:Sc) (B:Nat→Re) (hB:CB c B) (hBm:EndB c B) (w0 w:World) (b lo br bl bm bd ba k bx m:Nat) (t:TK) (done:FV) (v:Value) (acc:List Tr) (x u:Tr) (Post:World→Prop) (hR:c.mb < b)
  (h:II c w0 w b lo br bl bm bd ba k t done v acc) (hx:IsT w (fun q=>lo≤q∧q ∉ obL v) x) (hu:IsT w (fun q=>lo≤q∧q ∉ obL v) u) (hbx:Var w bx 26 (ptrV x.p)) (hn:acc.length+3≤k)
  (hMore:∀(w:World) (i:Nat) (v:Value) (acc:List Tr),II c w0 w b lo br bl bm bd ba i t done v acc→i < c.ts.length→ThS c b w0 ((ifsM c.ts B m (acc.map Tr.dt) i).re fun l=>.node (nd 62 t [] 0) l) done Post→Calls Tryz.prog 74 #[pt br,pt bl,pt bm,pt bd,pt ba] w (GQ Post))
  (hT:ThS c b w0 ((if isW (tk c.ts k) [69,76,83,73,70]=true then ifsM c.ts B m (acc.map Tr.dt++[x.dt,u.dt]) k else (othM c.ts B k).bnd fun o l=>.ok (acc.map Tr.dt++[x.dt,u.dt]++o) l).re fun l=>.node (nd 62 t [] 0) l) done Post) :
  Calls Tryz.prog 78 #[ptrV u.p,pt bl,pt bx,pt br,pt bm,pt bd,pt ba] w (GQ Post):=by
 obtain⟨i1,hi,hz0,hz1,hz2⟩:=info_parts infoP
 have cl:=h.l.c
 have cx:=hbx.c
 have hsr:=h.row.alloc (.cells #[.pointer (some ⟨x.p,0,none⟩),.pointer (some ⟨u.p,0,none⟩)] 26)
 have HN1:=oH (new2 w x.p u.p)
 have HO1:=oH (one2 x.p u.p)
 have hk:acc.length≤16384:=by have:=h.hn;have:=h.x.le;omega
 obtain⟨n,hnl⟩:∃n,acc.length=n:=⟨_,rfl⟩
 have HKL:=oH hnl
 rw [hnl] at hsr hk
 have HH:=oH (oA h (oA hx (oA hu (oA hn (oA hT (oA hMore (oA hB (oA hBm hR))))))))
 clear h hx hu hn hT hMore hnl hR hbx hB hBm
 simp only [ptrV] at cx
 simp only [ptrV,pt]
 go_enter Tryz.func78,Tryz.ntmps78
 go_wp2_with (at_builtin;refine wpList_append_lies _ rfl _ _ 38 rfl 0 26 i1 _ 1 8 Tryz.underlying38 hi hz0 hz1 hz2 rfl (by decide) v n _ rfl hsr ⟨w.heap.size,0,none⟩ 2 2 [.pointer (some ⟨x.p,0,none⟩),.pointer (some ⟨u.p,0,none⟩)] rfl rfl HN1.out HO1.out (by decide) (by unfold maxLen;omega) (by omega) (by simp <;> omega) (w.heap.size+1) (by simp) ?_)
 intro g cap w3 hown hgrow hat hlt3
 have hst:=HH.out.1.next HH.out.2.2.2.2.2.2.2.2 [x,u] (by simp) (n:=2) rfl (fun z hz=>by
  have hz:z=x∨z=u:=by simpa using hz
  rcases hz with rfl | rfl
  ·exact HH.out.2.1
  ·exact HH.out.2.2.1) (by have:=HH.out.2.2.2.1;omega) _ (by rw [HKL.out];simpa [ptrV] using hown) hgrow hat
 rw [HKL.out] at hst
 have c3:=hst.1.c
 have f3:=hst.1.f
 have HS:=oH hst.2
 clear hst hown hgrow hat hsr HN1 HO1 cl cx
 go_upto_region 2 with fail
 obtain⟨w4,hw4⟩:∃w4,w3.setCell ⟨bl,0,none⟩ (.slice (some ⟨g,0,none⟩) (n+2) cap)=w4:=⟨_,rfl⟩
 rw [hw4] at HS
 try rw [hw4]
 have cr:=HS.out.pv.r.c
 have HC:=sStandsW c w4 k [69,76,83,73,70] HS.out.x
 have hT:=HH.out.2.2.2.2.1
 have e2:(acc++[x,u]).map Tr.dt=acc.map Tr.dt++[x.dt,u.dt]:=by simp
 rw [← e2] at hT
 clear c3 f3 hw4 e2
 cases hq:isW (tk c.ts k) [69,76,83,73,70]
 ·rw [hq] at HC
  rw [if_neg (by rw [hq];simp)] at hT
  have HT:=oH hT
  clear hT hq
  simp only [pt] at cr HC
  go_wp2_with fail
  refine HC.mono ?_
  rintro e w5 ⟨rfl,F5⟩
  have H5:=oH (HS.out.keep F5)
  have cr5:=H5.out.pv.r.c
  have HO:Calls Tryz.prog 79 #[.pointer (some ⟨c.R,0,none⟩),FV.val ⟨80,#[],#[pt bl,pt bd,pt ba]⟩] w5 (GQ Post):=by
   have h5:=H5.out
   have hT:=HT.out
   have hR:=HH.out.2.2.2.2.2.2.2.2
   have hsz:=h5.hsz
   have h1:=h5.hb
   have h2:=h5.hlo
   have hn:=HH.out.2.2.2.1
   have hRm:=c.hRm
   refine zRa c B HH.out.2.2.2.2.2.2.1 w5 k ⟨80,#[],#[pt bl,pt bd,pt ba]⟩ Post w5.heap.size h5.x (by omega) (Nat.le_refl _) ⟨fun d j er u2 w6 F6 X6 hu2 hd2=>⟨zRd,?_⟩,fun j er w6 F6 X6=>⟨zRd,?_⟩,fun j er w6 F6 X6=>?_,fun er=>?_⟩
   ·have hj:=zUm HH.out.2.2.2.2.2.2.2.1 er
    rw [er] at hT
    have hT:ThS c b w0 (.ok (.node (nd 62 t [] 0) ((acc++[x,u]).map Tr.dt++[d])) j) done Post:=hT
    have hu3:IsT w6 (fun q=>lo≤q∧q ∉ obL (Value.slice (some ⟨g,0,none⟩) (n+2) cap)) u2:=hu2.keep (fun q hq _=>⟨by have hq:w5.heap.size≤q:=hq;omega,fun hm=>by
     have:=(h5.row.lt q ((zBc _ q).1 hm)).2
     have hq:w5.heap.size≤q:=hq
     omega⟩) (fun _ _ _=>rfl)
    refine qBt c w0 w6 b lo br bl bm bd ba j t done _ _ (some u2) Post hR (h5.at hR F6 X6 (by omega)) (fun z hz=>by injection hz with hz;subst hz;exact hu3) (by have:=HKL.out;simp;omega) (fun z w7 F7 X7 hz hzd=>?_)
    exact hT.ok _ _ rfl z w7 F7 X7 hz (by rw [hzd];simp [hd2])
   ·have hj:=zUm HH.out.2.2.2.2.2.2.2.1 er
    rw [er] at hT
    have hT:ThS c b w0 (.ok (.node (nd 62 t [] 0) ((acc++[x,u]).map Tr.dt++[])) j) done Post:=hT
    refine qBt c w0 w6 b lo br bl bm bd ba j t done _ _ none Post hR (h5.at hR F6 X6 (by omega)) (fun z hz=>by cases hz) (by have:=HKL.out;simp;omega) (fun z w7 F7 X7 hz hzd=>?_)
    exact hT.ok _ _ rfl z w7 F7 X7 hz (by rw [hzd];simp)
   ·rw [er] at hT
    have hT:ThS c b w0 (.bad j) done Post:=hT
    exact hT.bad _ rfl w6 (h5.f.on F6) X6
   ·rw [er] at hT
    have hT:ThS c b w0 .out done Post:=hT
    exact hT.no rfl
  clear F5 HC HS cr HT HH
  simp only [FV.val,pt] at HO cr5
  go_wp2_with fail
  refine HO.mono ?_
  rintro e w' ⟨s,rfl,hr⟩
  go_wp2_with fail
  go_ret
  exact⟨s,rfl,hr⟩
 ·rw [hq] at HC
  rw [if_pos hq] at hT
  have HT:=oH (oA hT (zCr hq))
  clear hT hq
  simp only [pt] at cr HC
  go_wp2_with fail
  refine HC.mono ?_
  rintro e w5 ⟨rfl,F5⟩
  have H5:=oH (HS.out.keep F5)
  have cm:=H5.out.pv.m.c
  clear F5 HC HS cr
  simp only [pt] at cm
  go_wp2_with fail
  go_ret
  exact⟨_,rfl,rstep (first:=#[]) (caps:=#[pt br,pt bl,pt bm,pt bd,pt ba]) qBr (HH.out.2.2.2.2.2.1 w5 k _ _ H5.out HT.out.2 HT.out.1)⟩
theorem if1 (c:Sc) (B:Nat→Re) (hB:CB c B) (hBm:EndB c B) (w0:World) (b lo br bl bm bd ba:Nat) (t:TK) (done:FV) (Post:World→Prop) (hR:c.mb < b):∀(m:Nat) (w:World) (i:Nat) (v:Value) (acc:List Tr),II c w0 w b lo br bl bm bd ba i t done v acc→i < c.ts.length→ThS c b w0 ((ifsM c.ts B m (acc.map Tr.dt) i).re fun l=>.node (nd 62 t [] 0) l) done Post →
  Calls Tryz.prog 74 #[pt br,pt bl,pt bm,pt bd,pt ba] w (GQ Post):=by
 intro m
 induction m with
 | zero=>intro w i v acc h hlt hT;exact absurd rfl hT.no
 | succ m ih =>
 intro w i v acc h hlt hT
 have hen:=zKp
 have hT:ThS c b w0 (((wrdM c.ts [84,72,69,78] (E0 c.ts (i+1))).bndL fun x j=>(B j).bndL fun b k=>if isW (tk c.ts k) [69,76,83,73,70]=true then ifsM c.ts B m (acc.map Tr.dt++[x,b]) k else (othM c.ts B k).bnd fun o l=>.ok (acc.map Tr.dt++[x,b]++o) l).re fun l=>.node (nd 62 t [] 0) l) done Post:=hT
 have cr:=h.pv.r.c
 have HTK:=zEh c w i h.x hlt
 obtain⟨tv,htv⟩:∃tv,tkV (tk c.ts i)=tv:=⟨_,rfl⟩
 rw [htv] at HTK
 have HH:=oH (oA h (oA hT (oA ih (oA hB (oA hBm (oA hR hlt))))))
 clear h hT ih hB hBm hR hlt htv
 simp only [pt] at cr
 simp only [pt]
 go_enter Tryz.func74,Tryz.ntmps74
 go_wp2_with fail
 refine HTK.mono ?_
 rintro e w1 ⟨rfl,F1,X1⟩
 have H1:=oH (HH.out.1.at HH.out.2.2.2.2.2.1 F1 X1 (by omega))
 have cr1:=H1.out.pv.r.c
 have HA:=sAheadE c w1 (i+1) [84,72,69,78] X1
 clear HTK F1 X1 cr
 simp only [pt] at cr1
 go_wp2_with fail
 refine HA.mono ?_
 rintro e w2 ⟨o,rfl,F2,⟨d,j,u,hr,rfl,X2,hu,hd⟩ | ⟨j,hr,rfl,X2⟩⟩
 ·clear HA cr1
  simp only [encP,ptrV]
  go_upto_region 3 with fail
  obtain⟨Q,hQ⟩:∃Q,w2.heap.size=Q:=⟨_,rfl⟩
  obtain⟨w3,hw3⟩:∃w3,w2.alloc (.cells #[.pointer (some ⟨u.p,0,none⟩)] 26)=w3:=⟨_,rfl⟩
  have F3:Fr [] w2 w3:=by rw [← hw3];exact Fr.alloc _ _
  have v3:Var w3 Q 26 (.pointer (some ⟨u.p,0,none⟩)):=by rw [← hw3,← hQ];exact heap_alloc_new _ _
  try rw [hw3]
  try rw [hQ]
  have c3:=v3.c
  have hj:i+3≤j∧j≤c.ts.length:=by
   obtain⟨j0,e0,rfl,hl0⟩:=zRc hr
   have:=zAr (ts:=c.ts) _ _ _ _ e0
   omega
  have hp1:=H1.out
  have hp3:=((hp1.at HH.out.2.2.2.2.2.1 F2 X2 (show i+1≤j by omega)).keep F3)
  have hu3:IsT w3 (fun q=>lo≤q∧q ∉ obL v) u:=(zAk hu F3 (by simp)).keep (fun q hq _=>⟨by have hq:w1.heap.size≤q:=hq;have:=hp1.hsz;omega,fun hm=>by
   have:=(hp1.row.lt q ((zBc _ q).1 hm)).2
   have hq:w1.heap.size≤q:=hq
   omega⟩) (fun _ _ _=>rfl)
  have HC:Calls Tryz.prog 16 #[.pointer (some ⟨c.R,0,none⟩),FV.val ⟨78,#[],#[pt bl,pt Q,pt br,pt bm,pt bd,pt ba]⟩] w3 (GQ Post):=by
   obtain⟨h,hT,ih,hB,hBm,hR,hlt⟩:=HH.out
   have hsz:=hp3.hsz
   have h1:=hp3.hb
   have h2:=hp3.hlo
   have hRm:=c.hRm
   have hQ3:=v3.lt
   rw [hr] at hT
   have hT:ThS c b w0 (((B j).bndL fun b k=>if isW (tk c.ts k) [69,76,83,73,70]=true then ifsM c.ts B m (acc.map Tr.dt++[d,b]) k else (othM c.ts B k).bnd fun o l=>.ok (acc.map Tr.dt++[d,b]++o) l).re fun l=>.node (nd 62 t [] 0) l) done Post:=hT
   have hQb:c.R < Q:=by have:=hp3.x.lt;have:=X2.lt;omega
   refine hB w3 j _ Post w3.heap.size hp3.x (by omega) (Nat.le_refl _) ⟨fun d2 k er u2 w4 F4 X4 hu2 hd2=>⟨qBs,?_⟩,fun k er w4 F4 X4=>?_,fun er=>?_⟩
   ·have hk:=hBm _ _ _ hj.2 er
    rw [er] at hT
    have hT:ThS c b w0 ((if isW (tk c.ts k) [69,76,83,73,70]=true then ifsM c.ts B m (acc.map Tr.dt++[d,d2]) k else (othM c.ts B k).bnd fun o l=>.ok (acc.map Tr.dt++[d,d2]++o) l).re fun l=>.node (nd 62 t [] 0) l) done Post:=hT
    rw [← hd,← hd2] at hT
    refine if11 c B hB hBm w0 w4 b lo br bl bm bd ba k Q m t done v acc u u2 Post hR (hp3.at hR F4 X4 hk) (hu3.keep (fun _ h _=>h) (fun q hq hl=>F4.block q hl (by simp;have:=hq.1;omega))) (hu2.keep (fun q hq _=>⟨by have hq:w3.heap.size≤q:=hq;omega,fun hm=>by
     have:=(hp3.row.lt q ((zBc _ q).1 hm)).2
     have hq:w3.heap.size≤q:=hq
     omega⟩) (fun _ _ _=>rfl)) (v3.keep F4 (by simp;omega)) (by have:=h.hn;omega) (fun w i v acc hi hl ht=>ih w i v acc hi hl ht) hT
   ·rw [er] at hT
    have hT:ThS c b w0 (.bad k) done Post:=hT
    exact hT.bad _ rfl w4 (hp3.f.on F4) X4
   ·rw [er] at hT
    have hT:ThS c b w0 .out done Post:=hT
    exact hT.no rfl
  have cr3:=hp3.pv.r.c
  clear F2 X2 hu hd hr F3 v3 hw3 hQ hj hp1 hp3 hu3 HH H1
  simp only [FV.val,pt] at HC cr3
  go_wp2_with fail
  refine HC.mono ?_
  rintro e w' ⟨s,rfl,hr⟩
  go_wp2_with fail
  go_ret
  exact⟨s,rfl,hr⟩
 ·clear HA cr1
  have HP:Hid (∀w',Fr [] w2 w'→Post w'):=oH (fun w' F=>by
   have hT:=HH.out.2.1
   rw [hr] at hT
   have hT:ThS c b w0 (.bad j) done Post:=hT
   exact hT.bad _ rfl w' ((H1.out.f.on F2).on0 F) (X2.keep F))
  clear hr F2 X2
  simp only [encP]
  go_wp2_with fail
  go_ret
  exact zCd (HP.out _ (Fr.alloc _ _))
theorem zYq (c:Sc) (B:Nat→Re) (hB:CB c B) (hBm:EndB c B) (w:World) (i:Nat) (done:FV) (Post:World→Prop) (b:Nat) (hX:SX c w i) (hlt:i < c.ts.length) (hR:c.mb < b) (hb:b≤w.heap.size) (hT:ThS c b w ((ifsM c.ts B (c.ts.length+1) [] i).re fun l=>.node (nd 62 (tk c.ts i) [] 0) l) done Post) :
  Calls Tryz.prog 45 #[.pointer (some ⟨c.R,0,none⟩),done.val] w (GQ Post):=by
 obtain⟨px,py,e1⟩:=zAc (tk c.ts i).2.1.1 (tk c.ts i).2.1.2
 obtain⟨ex,ey,e2⟩:=zAc (tk c.ts i).2.2.1 (tk c.ts i).2.2.2
 have hfd:=zBb
 have hsc:=fun w a x y m=>zAg (P:=Tryz.prog) w a .f64 x y m
 obtain⟨W,hW⟩:∃W,w.heap.size=W:=⟨_,rfl⟩
 obtain⟨w0,hw0⟩:∃w0,w.alloc (.cells #[.pointer (some ⟨c.R,0,none⟩)] 44)=w0:=⟨_,rfl⟩
 have F0:Fr [] w w0:=by rw [← hw0];exact Fr.alloc _ _
 have v0:Var w0 W 44 (pt c.R):=by rw [← hw0,← hW];exact heap_alloc_new _ _
 have s0:w0.heap.size=W+1:=by rw [← hw0,← hW];simp
 obtain⟨w1,hw1⟩:∃w1,w0.alloc (.cells #[done.val] 76)=w1:=⟨_,rfl⟩
 have F1:Fr [] w0 w1:=by rw [← hw1];exact Fr.alloc _ _
 have v1:Var w1 (W+1) 76 done.val:=by rw [← hw1,← s0];exact heap_alloc_new _ _
 have s1:w1.heap.size=W+2:=by rw [← hw1];simp [s0]
 have v01:=v0.keep F1 (by simp)
 have cr:=v01.c
 have X1:=hX.keep (F0.on F1)
 have HTK:=zCj c w1 i X1 px py ex ey e1 e2
 have hRm:=c.hRm
 have hmW:c.mb < W:=by rw [← hW];omega
 have HH:=oH (oA hB (oA hBm (oA hT (oA (F0.on F1) (oA v01 (oA v1 (oA hmW (oA hR (oA hb (oA s1 (oA hW (oA e1 (oA X1 hlt)))))))))))))
 clear hB hBm hX hlt hR hb hT F0 F1 v0 v1 v01 s1 e1 e2 hmW hRm X1
 generalize ((tk c.ts i).1.k:Int)=t0 at *
 generalize (⟨(tk c.ts i).1.x.toArray⟩:ByteArray)=t3 at *
 generalize (tk c.ts i).1.n=t4 at *
 obtain⟨df,d1,d2c,rfl⟩:∃df d1 d2,done=⟨df,d1,d2⟩:=⟨_,_,_,rfl⟩
 simp only [FV.val,pt] at hw1 cr ⊢
 go_enter Tryz.func45,Tryz.ntmps45
 go_wp2_with fail
 refine HTK.mono ?_
 rintro e w2 ⟨rfl,F2⟩
 clear HTK
 go_upto_region 2 with fail
 obtain⟨P,hP⟩:∃P,w2.heap.size=P:=⟨_,rfl⟩
 obtain⟨w3,hw3⟩:∃w3,w2.alloc (.cells #[.complex .f64 px py] 37)=w3:=⟨_,rfl⟩
 have F3:Fr [] w2 w3:=by rw [← hw3];exact Fr.alloc _ _
 have v3:Var w3 P 37 (.complex .f64 px py):=by rw [← hw3,← hP];exact heap_alloc_new _ _
 have s3:w3.heap.size=P+1:=by rw [← hw3,← hP];simp
 try rw [hw3]
 try rw [hP]
 obtain⟨w4,hw4⟩:∃w4,w3.alloc (.cells #[.slice none 0 0] 38)=w4:=⟨_,rfl⟩
 have F4:Fr [] w3 w4:=by rw [← hw4];exact Fr.alloc _ _
 have v4:Var w4 (P+1) 38 (.slice none 0 0):=by rw [← hw4,← s3];exact heap_alloc_new _ _
 have s4:w4.heap.size=P+2:=by rw [← hw4];simp [s3]
 obtain⟨w5,hw5⟩:∃w5,w4.alloc (.cells #[.nilFunc] 47)=w5:=⟨_,rfl⟩
 have F5:Fr [] w4 w5:=by rw [← hw5];exact Fr.alloc _ _
 have v5:Var w5 (P+2) 47 .nilFunc:=by rw [← hw5,← s4];exact heap_alloc_new _ _
 have s5:w5.heap.size=P+3:=by rw [← hw5];simp [s4]
 have c5:=v5.c
 have f5:=v5.f
 obtain⟨w6,hw6⟩:∃w6,w5.setCell ⟨P+2,0,none⟩ (.func (.func 74) #[] #[pt W,pt (P+1),pt (P+2),pt (W+1),pt P])=w6:=⟨_,rfl⟩
 have F6:Fr [P+2] w5 w6:=by rw [← hw6];exact Fr.set _ _ _ _
 have v6:Var w6 (P+2) 47 (.func (.func 74) #[] #[pt W,pt (P+1),pt (P+2),pt (W+1),pt P]):=by rw [← hw6];exact v5.set _
 have HC:Calls Tryz.prog 74 #[pt W,pt (P+1),pt (P+2),pt (W+1),pt P] w6 (GQ Post):=by
  obtain⟨hB,hBm,hT,F01,v01,v1,hmW,hR,hb,s1,hW,e1,X1,hlt⟩:=HH.out
  have hWP:W+2≤P:=by rw [← hP,← s1];exact F2.size
  have G5:Fr [] w1 w5:=((F2.on F3).on F4).on F5
  have G6:Fr [P+2] w1 w6:=G5.up0.on F6
  have G3:Fr [P+2] w3 w6:=((F4.on F5).up0).on F6
  have G4:Fr [P+2] w4 w6:=F5.up0.on F6
  have G06:Fr [P+2] w w6:=F01.up0.on G6
  have hs6:w6.heap.size=P+3:=by rw [← hw6];simp [s5]
  refine if1 c B hB hBm w b (P+3) W (P+1) (P+2) (W+1) P (tk c.ts i) ⟨df,d1,d2c⟩ Post hR (c.ts.length+1) w6 i (.slice none 0 0) [] ⟨X1.stay G6 (by simp;omega),G06.trans (Fr.refl [] w6) (by simp) |> fun h=>⟨h.os,h.tape,h.output,h.size,fun k hk hn=>h.block k hk (by simp;omega)⟩,⟨v01.keep G6 (by simp;omega),v6,v1.keep G6 (by simp;omega),by rw [e1];exact v3.keep G3 (by simp)⟩,v4.keep G4 (by simp),World.ownsRow_nil _ _ _ _,by simp [obL,Value.ownBlock],by simp,fun q hq=>?_,by omega,by omega,by omega,by omega,by simp,fun _=>rfl⟩ hlt hT
  simp only [List.mem_cons,List.not_mem_nil,or_false] at hq
  rw [hW]
  omega
 have c6:=v6.c
 have hRn:=zAe qBr
 have HF5:Hid (P=P):=oH rfl
 clear F2 F3 v3 F4 v4 F5 v5 F6 v6 hw3 cr HH hP
 simp only [pt] at HC c6 hw6
 go_wp2_with fail
 refine HC.mono ?_
 rintro e w' ⟨s,rfl,hr⟩
 go_wp2_with fail
 go_ret
 exact⟨s,rfl,hr⟩
end Go.Proofs.YtepfknfadpkigaaGreat
namespace Go.Proofs.YtepfknfadpkigaaGreat
open Go.RowKit
set_option maxHeartbeats 4000000
set_option maxRecDepth 100000
theorem qDi:Enters 46:=⟨_,_,Tryz.func46,by kernel_rfl,rfl⟩
theorem qDj:Enters 82:=⟨_,_,Tryz.func82,by kernel_rfl,rfl⟩
theorem zUn:Enters 83:=⟨_,_,Tryz.func83,by kernel_rfl,rfl⟩
theorem zFc {P:Program} {w:World} {ops:Array Oper} {o:Oper} {a:Act} {K:Act→World→Prop} {Q:Exit→Act→World→Prop} {E:Prop} (hgd:o.guard=none) (s x:Operand) (t:TypeId)
  (ho:o.op=.call { callee:=.builtin .append,args:=#[s,x],argTypes:=#[t,t] })
  (base:Nat) (e:TypeId) (i:TypeInfo) (size:Nat) (ht:P.underlying t=some (.slice e)) (hi:P.info? e=some i)
  (v:Value) (n:Nat) (xs:List Value) (hs:a.eval s=v) (hown:w.ownsRow base e size v n xs) (hx:a.eval x=.slice none 0 0)
  (h:K (a.put o.dst v) w):if Region.wanted o (yielded ops a.tmps)=true then Oper.wp P o a w K Q else E:=by
 have hw:Region.wanted o (yielded ops a.tmps)=true:=by simp [Region.wanted,hgd]
 rw [if_pos hw]
 have hrun:=run_append_owned_none (P:=P) (w:=w) base t o.type e i size ht hi v n xs hown
 unfold Oper.wp
 simp [execOp,ho,resolve,invoke,builtin,hs,hx,hrun,Result.andThen]
 exact h
theorem zRe {w:World} {v:Value} {us:List Tr} (hr:w.ownsRow 0 26 1 v us.length (us.map fun t=>ptrV t.p)) (hn:us≠[]):∃g cap,v=.slice (some ⟨g,0,none⟩) us.length cap∧∀j x,(us.map fun t=>ptrV t.p)[j]?=some x→w.cell? ((⟨g,0,none⟩:Addr).add j)=some x:=by
 obtain⟨g,cap,e,_,_⟩:=hr.form (List.length_pos_iff.2 hn)
 refine⟨g,cap,e,fun j x hj=>?_⟩
 rw [e] at hr
 have hlt:j < us.length:=by have:=(List.getElem?_eq_some_iff.1 hj).1;simpa using this
 have hadd:(⟨g,0,none⟩:Addr).add j=⟨g,j,none⟩:=by simp [Addr.add];omega
 rw [hadd,hr.cellAt j (by omega),hj]
theorem zUo (c:Sc) (w0 w5:World) (b i px py:Nat) (t:TK) (e1:posV t.2.1.1 t.2.1.2=.complex .f64 px py) (done:FV) (Post:World→Prop) (x:Tr) (L:List Tr) (hX:SX c w5 i) (F:Fr [c.R] w0 w5) (hb:b≤w5.heap.size) (hx:IsT w5 (b≤·) x) (hL:∀u ∈ L,IsT w5 (b≤·) u) (hle:L.length≤16385)
  (hG:∀z w',Fr [c.R] w0 w'→SX c w' i→IsT w' (b≤·) z→z.dt=.node (nd 63 t [] 0) (x.dt::L.map Tr.dt)→GoQ done (ptrV z.p) w' Post) (v':Value) (w7:World) (F7:Fr [] w5 w7) (ha:ArgL w7 v' ((x::L).map some)) :
  Calls Tryz.prog 31 #[.int .u8 63,.complex .f64 px py,.string ⟨#[]⟩,.int .i64 0,v'] w7 fun e w'=>∃z:Tr,e=.returned (.pointer (some ⟨z.p,0,none⟩))∧Fr [] w5 w'∧GoQ done (.pointer (some ⟨z.p,0,none⟩)) w' Post:=by
 refine(zBj w7 (nd 63 t [] 0) v' ((x::L).map some) b ha (by simp;omega) (fun z hz=>by
  obtain⟨z2,hz2,e⟩:=List.mem_map.1 hz
  injection e with e
  subst e
  rcases List.mem_cons.1 hz2 with rfl | hz2
  ·exact zAk hx F7 (by simp)
  ·exact zAk (hL _ hz2) F7 (by simp)) (Nat.le_trans hb F7.size) (by simp [nd]) _ e1 ⟨#[]⟩ rfl 63 rfl 0 rfl _ (zEj (x::L))).mono ?_
 rintro e w' ⟨z,rfl,F8,hz,hzd⟩
 exact⟨z,rfl,F7.on F8,hG z w' (F.on0 (F7.on F8)) (hX.keep (F7.on F8)) hz (by rw [hzd];rfl)⟩
theorem ca11 (c:Sc) (w0 w:World) (b C i bl bk bd ba bx:Nat) (t tl:TK) (done:FV) (v:Value) (us:List Tr) (x:Tr) (o:Option Tr) (Post:World→Prop)
  (hX:SX c w i) (hF:Fr [c.R] w0 w) (hR:c.mb < b) (hb:b≤w0.heap.size)
  (hbl:Var w bl 38 v) (hbk:Var w bk 37 (posV tl.2.1.1 tl.2.1.2)) (hbd:Var w bd 76 done.val) (hba:Var w ba 37 (posV t.2.1.1 t.2.1.2)) (hbx:Var w bx 26 (ptrV x.p))
  (hrow:w.ownsRow 0 26 1 v us.length (us.map fun t=>ptrV t.p)) (hus:∀t ∈ us,IsT w (fun q=>b≤q∧q≠bl∧q ∉ obL v) t) (hle:us.length≤16384) (hnil:us=[]→v=.slice none 0 0)
  (hfar:∀q ∈ obL v,w0.heap.size≤q∧q < C∧q≠bl∧q≠bk∧q≠bd∧q≠ba∧q≠bx) (hbll:w0.heap.size≤bl∧bl < C∧bl≠bk∧bl≠bd∧bl≠ba∧bl≠bx) (hC:b≤C∧C≤w.heap.size)
  (hx:IsT w (fun q=>b≤q∧q≠bl∧q ∉ obL v) x)
  (ho:∀u,o=some u→IsT w (C≤·) u)
  (hG:∀z w',Fr [c.R] w0 w'→SX c w' i→IsT w' (b≤·) z→z.dt=.node (nd 63 t [] 0) (x.dt::(us.map Tr.dt++(o.map fun u=>DT.node (nd 30 tl [] 0) [u.dt]).toList))→GoQ done (ptrV z.p) w' Post) :
  Calls Tryz.prog 83 #[encP (o.map Tr.p),pt bl,pt bk,pt bd,pt ba,pt bx] w (GQ Post):=by
 obtain⟨i1,hi,hz0,hz1,hz2⟩:=info_parts infoP
 obtain⟨px,py,e1⟩:=zAc t.2.1.1 t.2.1.2
 have hnn:=zIo
 obtain⟨df,d1,d2,rfl⟩:∃df d1 d2,done=⟨df,d1,d2⟩:=⟨_,_,_,rfl⟩
 have hb5:b≤w.heap.size:=Nat.le_trans hb hF.size
 cases o with
 | none =>
  obtain⟨w5,rfl⟩:∃w5,w5=w:=⟨_,rfl⟩
  obtain⟨L,rfl⟩:∃L,L=us:=⟨_,rfl⟩
  have HNW:=zUo c w0 w5 b i px py t e1 ⟨df,d1,d2⟩ Post x L hX hF hb5 (hx.keep (fun q hq _=>hq.1) (fun _ _ _=>rfl)) (fun u hu=>(hus u hu).keep (fun q hq _=>hq.1) (fun _ _ _=>rfl)) (by omega) (fun z w' F X hz hzd=>hG z w' F X hz (by rw [hzd];simp))
  have HV:∀w':World,Fr [] w5 w'→(w'.cell? ⟨bd,0,none⟩=some (.func (.func df) d1 d2)∧w'.cell? ⟨ba,0,none⟩=some (.complex .f64 px py)∧w'.cell? ⟨bx,0,none⟩=some (.pointer (some ⟨x.p,0,none⟩))∧w'.cell? ⟨bl,0,none⟩=some v):=fun w' F=>⟨(hbd.keep F (by simp)).c,by rw [← e1];exact(hba.keep F (by simp)).c,(hbx.keep F (by simp)).c,(hbl.keep F (by simp)).c⟩
  have hrow5:=hrow
  have hLle:L.length≤16385:=by omega
  clear hX hF hR hb hbl hbk hbd hba hbx hrow hus hfar hbll hC hx ho hG e1 hb5 hle
  by_cases hL0:L=[]
  ·obtain rfl:v=.slice none 0 0:=hnil hL0
   subst hL0
   clear hnil hrow5 hLle
   obtain⟨w6,hw6⟩:∃w6,w5.drew.alloc (.cells #[.pointer (some ⟨x.p,0,none⟩)] 26)=w6:=⟨_,rfl⟩
   have F6:Fr [] w5 w6:=by rw [← hw6];exact(Fr.drew w5).on (Fr.alloc _ _)
   have s6:w6.heap.size=w5.heap.size+1:=by rw [← hw6];simp
   have hown6:=zIn w5.drew x.p
   rw [hw6] at hown6
   have ha6:=zIy w5.drew x
   rw [hw6] at ha6
   have HY:=oH (oA F6 (oA HV (oA HNW (oA hown6 ha6))))
   clear F6 HV HNW hown6 ha6 s6
   simp only [Option.map,encP,pt,FV.val] at HY ⊢
   go_enter Tryz.func83,Tryz.ntmps83
   go_wp2_with fail
   refine zAp 7 (S:=fun w'=>w'.cell? ⟨bd,0,none⟩=some (.func (.func df) d1 d2)∧w'.cell? ⟨ba,0,none⟩=some (.complex .f64 px py)∧w'.cell? ⟨bx,0,none⟩=some (.pointer (some ⟨x.p,0,none⟩))∧w'.cell? ⟨bl,0,none⟩=some (.slice none 0 0)) (by kernel_rfl) ?_ (fun hHeld=>?_)
   ·exact HY.out.2.1 _ (Fr.drew w5)
   refine zAh (k:=12) (i:=0) (v:=?_) rfl (by kernel_rfl) (by kernel_rfl) (by kernel_rfl) (by kernel_rfl) (fun _ _ _ h=>h) (Or.inl ⟨by rfl,?_⟩) (by assumption) ?_
   rotate_left
   ·intro w hSw;(try dsimp only at hSw);(try obtain⟨h1,h2,h3,h4⟩:=hSw);go_simp;try with_reducible rfl
   simp only[Act.put,oB,oC,oD,oE,oF,oG]
   refine zAh (k:=12) (i:=1) (v:=?_) rfl (by kernel_rfl) (by kernel_rfl) (by kernel_rfl) (by kernel_rfl) (fun _ _ _ h=>h) (Or.inl ⟨by rfl,?_⟩) (by assumption) ?_
   rotate_left
   ·intro w hSw;(try dsimp only at hSw);(try obtain⟨h1,h2,h3,h4⟩:=hSw);go_simp;try with_reducible rfl
   simp only[Act.put,oB,oC,oD,oE,oF,oG]
   refine zAh (k:=12) (i:=2) (v:=?_) rfl (by kernel_rfl) (by kernel_rfl) (by kernel_rfl) (by kernel_rfl) (fun _ _ _ h=>h) (Or.inl ⟨by rfl,?_⟩) (by assumption) ?_
   rotate_left
   ·intro w hSw;(try dsimp only at hSw);(try obtain⟨h1,h2,h3,h4⟩:=hSw);go_simp;try with_reducible rfl
   simp only[Act.put,oB,oC,oD,oE,oF,oG]
   refine zAh (k:=12) (i:=4) (v:=?_) rfl (by kernel_rfl) (by kernel_rfl) (by kernel_rfl) (by kernel_rfl) (fun _ _ _ h=>h) (Or.inl ⟨by rfl,?_⟩) (by assumption) ?_
   rotate_left
   ·intro w hSw;(try dsimp only at hSw);(try obtain⟨h1,h2,h3,h4⟩:=hSw);go_simp;try with_reducible rfl
   simp only[Act.put,oB,oC,oD,oE,oF,oG]
   refine zAa (rs:=[3]) (by kernel_rfl) (by simp) ?_
   refine AllL.cons rfl (fun K hK=>?_) ?_
   rotate_left
   ·exact AllL.nil
   go_simp
   try rw [hw6]
   refine hK.out _ _ (HY.out.2.1 _ HY.out.1) (fun hHeld=>?_)
   clear hK K
   try simp only[Act.put,oB,oC,oD,oE,oF,oG]
   refine zAa (rs:=[5]) (by kernel_rfl) (by simp) ?_
   refine AllL.cons rfl (fun K hK=>?_) ?_
   rotate_left
   ·exact AllL.nil
   refine zFc (by rfl) _ _ 38 (by rfl) 0 26 i1 1 Tryz.underlying38 hi (.slice (some ⟨w5.heap.size,0,none⟩) 1 1) 1 _ (by rfl) HY.out.2.2.2.1 (by rfl) ?_
   refine hK.out _ _ (HY.out.2.1 _ HY.out.1) (fun hHeld=>?_)
   clear hK K
   try simp only[Act.put,oB,oC,oD,oE,oF,oG]
   have HC:=HY.out.2.2.1 _ w6 HY.out.1 (HY.out.2.2.2.2)
   refine zAa (rs:=[6]) (by kernel_rfl) (by simp) ?_
   refine AllL.cons rfl (fun K hK=>?_) ?_
   rotate_left
   ·exact AllL.nil
   go_simp
   refine HC.mono ?_
   rintro e w3 ⟨z,rfl,F3,hg⟩
   obtain⟨hE,hCC⟩:=hg
   have hRn:=zAe hE
   have H3:=HY.out.2.1 w3 F3
   clear hE F3
   go_wp2_with fail
   refine hK.out _ _ (H3) (fun hHeld=>?_)
   clear hK K
   try simp only[Act.put,oB,oC,oD,oE,oF,oG]
   refine zAa (rs:=[7]) (by kernel_rfl) (by simp) ?_
   refine AllL.last rfl (by kernel_rfl) (fun K hK=>?_) ?_
   rotate_left
   ·exact AllL.nil
   go_simp
   refine hCC.mono ?_
   rintro e w4 ⟨s,rfl,hr⟩
   have HRS:=oH hr
   clear hr hCC HY H3 HC
   go_wp2_with fail
   refine hK.out _ _ ?_
   clear hK K
   try simp only[Act.put,oB,oC,oD,oE,oF,oG]
   refine zAa (rs:=[8]) (by kernel_rfl) (by simp) ?_
   refine AllL.last rfl (by kernel_rfl) (fun K hK=>?_) ?_
   rotate_left
   ·exact AllL.nil
   go_simp
   refine hK.out _ _ ?_
   clear hK K
   try simp only[Act.put,oB,oC,oD,oE,oF,oG]
   refine zAl (by kernel_rfl) ?_ _
   go_wp2_with fail
   go_ret
   exact⟨s,rfl,HRS.out⟩
  ·clear hnil
   obtain⟨w6,hw6⟩:∃w6,w5.drew.alloc (.cells #[.pointer (some ⟨x.p,0,none⟩)] 26)=w6:=⟨_,rfl⟩
   have F6:Fr [] w5 w6:=by rw [← hw6];exact(Fr.drew w5).on (Fr.alloc _ _)
   have s6:w6.heap.size=w5.heap.size+1:=by rw [← hw6];simp
   have hown6:=zIn w5.drew x.p
   rw [hw6] at hown6
   obtain⟨gl,cl,rfl,hsrc⟩:=zRe hrow5 hL0
   obtain⟨nl,hnl⟩:∃nl,L.length=nl:=⟨_,rfl⟩
   have HLL:=oH hnl
   have hpos:0 < nl:=by rw [← hnl];exact List.length_pos_iff.2 hL0
   have hlm:(L.map fun t=>ptrV t.p).length=nl * 1:=by simp [hnl]
   have hle:nl≤16385:=by rw [← hnl];exact hLle
   have hsrc6:∀j u,(L.map fun t=>ptrV t.p)[j]?=some u→w6.cell? ((⟨gl,0,none⟩:Addr).add j)=some u:=fun j u hj=>F6.cellE (hsrc j u hj)
   rw [hnl] at HV
   have HY:=oH (oA F6 (oA HV (oA HNW (oA hown6 (oA hlm (oA hsrc6 s6))))))
   clear F6 HV HNW hown6 hlm hsrc hsrc6 s6 hrow5 hL0 hLle
   try simp only [hnl]
   clear hnl
   simp only [Option.map,encP,pt,FV.val] at HY ⊢
   go_enter Tryz.func83,Tryz.ntmps83
   go_wp2_with fail
   refine zAp 7 (S:=fun w'=>w'.cell? ⟨bd,0,none⟩=some (.func (.func df) d1 d2)∧w'.cell? ⟨ba,0,none⟩=some (.complex .f64 px py)∧w'.cell? ⟨bx,0,none⟩=some (.pointer (some ⟨x.p,0,none⟩))∧w'.cell? ⟨bl,0,none⟩=some (.slice (some ⟨gl,0,none⟩) nl cl)) (by kernel_rfl) ?_ (fun hHeld=>?_)
   ·exact HY.out.2.1 _ (Fr.drew w5)
   refine zAh (k:=12) (i:=0) (v:=?_) rfl (by kernel_rfl) (by kernel_rfl) (by kernel_rfl) (by kernel_rfl) (fun _ _ _ h=>h) (Or.inl ⟨by rfl,?_⟩) (by assumption) ?_
   rotate_left
   ·intro w hSw;(try dsimp only at hSw);(try obtain⟨h1,h2,h3,h4⟩:=hSw);go_simp;try with_reducible rfl
   simp only[Act.put,oB,oC,oD,oE,oF,oG]
   refine zAh (k:=12) (i:=1) (v:=?_) rfl (by kernel_rfl) (by kernel_rfl) (by kernel_rfl) (by kernel_rfl) (fun _ _ _ h=>h) (Or.inl ⟨by rfl,?_⟩) (by assumption) ?_
   rotate_left
   ·intro w hSw;(try dsimp only at hSw);(try obtain⟨h1,h2,h3,h4⟩:=hSw);go_simp;try with_reducible rfl
   simp only[Act.put,oB,oC,oD,oE,oF,oG]
   refine zAh (k:=12) (i:=2) (v:=?_) rfl (by kernel_rfl) (by kernel_rfl) (by kernel_rfl) (by kernel_rfl) (fun _ _ _ h=>h) (Or.inl ⟨by rfl,?_⟩) (by assumption) ?_
   rotate_left
   ·intro w hSw;(try dsimp only at hSw);(try obtain⟨h1,h2,h3,h4⟩:=hSw);go_simp;try with_reducible rfl
   simp only[Act.put,oB,oC,oD,oE,oF,oG]
   refine zAh (k:=12) (i:=4) (v:=?_) rfl (by kernel_rfl) (by kernel_rfl) (by kernel_rfl) (by kernel_rfl) (fun _ _ _ h=>h) (Or.inl ⟨by rfl,?_⟩) (by assumption) ?_
   rotate_left
   ·intro w hSw;(try dsimp only at hSw);(try obtain⟨h1,h2,h3,h4⟩:=hSw);go_simp;try with_reducible rfl
   simp only[Act.put,oB,oC,oD,oE,oF,oG]
   refine zAa (rs:=[3]) (by kernel_rfl) (by simp) ?_
   refine AllL.cons rfl (fun K hK=>?_) ?_
   rotate_left
   ·exact AllL.nil
   go_simp
   try rw [hw6]
   refine hK.out _ _ (HY.out.2.1 _ HY.out.1) (fun hHeld=>?_)
   clear hK K
   try simp only[Act.put,oB,oC,oD,oE,oF,oG]
   refine zAa (rs:=[5]) (by kernel_rfl) (by simp) ?_
   refine AllL.cons rfl (fun K hK=>?_) ?_
   rotate_left
   ·exact AllL.nil
   refine step_append_lies _ (by rfl) _ _ 38 (by rfl) 0 26 i1 (.pointer none) 1 8 Tryz.underlying38 hi hz0 hz1 hz2 (by rfl) (by decide) (.slice (some ⟨w5.heap.size,0,none⟩) 1 1) 1 _ (by rfl) HY.out.2.2.2.1 ⟨gl,0,none⟩ nl cl (L.map fun t=>ptrV t.p) (by rfl) HY.out.2.2.2.2.1 HY.out.2.2.2.2.2.1 (ones L) hpos (by unfold maxLen;omega) (by omega) (by simp) (w5.heap.size+1) HY.out.2.2.2.2.2.2 ?_
   intro g9 cap9 w9 hown9 hgrow hat hlt9
   have F9:Fr [] w5 w9:=HY.out.1.trans (Fr.of_grown hgrow) (fun q hq=>.inr (by simp [obL,Value.ownBlock] at hq;omega))
   have HC:=HY.out.2.2.1 _ w9 F9 (zEi (us:=x::L) (by simpa [ptrV] using hown9) (by have:=HLL.out;simp;omega))
   have H9:=HY.out.2.1 w9 F9
   clear hown9 hgrow hat hlt9 F9
   refine hK.out _ _ (H9) (fun hHeld=>?_)
   clear hK K
   try simp only[Act.put,oB,oC,oD,oE,oF,oG]
   refine zAa (rs:=[6]) (by kernel_rfl) (by simp) ?_
   refine AllL.cons rfl (fun K hK=>?_) ?_
   rotate_left
   ·exact AllL.nil
   go_simp
   refine HC.mono ?_
   rintro e w3 ⟨z,rfl,F3,hg⟩
   obtain⟨hE,hCC⟩:=hg
   have hRn:=zAe hE
   have H3:=HY.out.2.1 w3 F3
   clear hE F3
   go_wp2_with fail
   refine hK.out _ _ (H3) (fun hHeld=>?_)
   clear hK K
   try simp only[Act.put,oB,oC,oD,oE,oF,oG]
   refine zAa (rs:=[7]) (by kernel_rfl) (by simp) ?_
   refine AllL.last rfl (by kernel_rfl) (fun K hK=>?_) ?_
   rotate_left
   ·exact AllL.nil
   go_simp
   refine hCC.mono ?_
   rintro e w4 ⟨s,rfl,hr⟩
   have HRS:=oH hr
   clear hr hCC HY H3 HC
   go_wp2_with fail
   refine hK.out _ _ ?_
   clear hK K
   try simp only[Act.put,oB,oC,oD,oE,oF,oG]
   refine zAa (rs:=[8]) (by kernel_rfl) (by simp) ?_
   refine AllL.last rfl (by kernel_rfl) (fun K hK=>?_) ?_
   rotate_left
   ·exact AllL.nil
   go_simp
   refine hK.out _ _ ?_
   clear hK K
   try simp only[Act.put,oB,oC,oD,oE,oF,oG]
   refine zAl (by kernel_rfl) ?_ _
   go_wp2_with fail
   go_ret
   exact⟨s,rfl,HRS.out⟩
 | some u =>
  obtain⟨qx,qy,f1⟩:=zAc tl.2.1.1 tl.2.1.2
  have hns:=zJq u.p
  obtain⟨wa,hwa⟩:∃wa,w.drew.alloc (.cells #[.pointer (some ⟨u.p,0,none⟩)] 26)=wa:=⟨_,rfl⟩
  have Fa:Fr [] w wa:=by rw [← hwa];exact(Fr.drew w).on (Fr.alloc _ _)
  have HU:IsT w (C≤·) u:=ho u rfl
  have HN30:Calls Tryz.prog 31 #[.int .u8 30,.complex .f64 qx qy,.string ⟨#[]⟩,.int .i64 0,.slice (some ⟨w.heap.size,0,none⟩) 1 1] wa fun e w'=>∃z:Tr,e=.returned (.pointer (some ⟨z.p,0,none⟩))∧Fr [] w w'∧IsT w' (C≤·) z∧z.dt=.node (nd 30 tl [] 0) [u.dt]:=by
   have ha:=zIy w.drew u
   rw [hwa] at ha
   refine(zBj wa (nd 30 tl [] 0) _ [some u] C ha (by simp) (fun z hz=>by
    have hz:z=u:=by simpa using hz
    subst hz
    exact zAk HU Fa (by simp)) (Nat.le_trans hC.2 Fa.size) (by simp [nd]) _ f1 ⟨#[]⟩ rfl 30 rfl 0 rfl _ rfl).mono ?_
   rintro e w' ⟨z,rfl,F2,h3,h4⟩
   exact⟨z,rfl,Fa.on F2,h3,h4⟩
  have HS1:∀w':World,Fr [] w w'→(w'.cell? ⟨bl,0,none⟩=some v∧w'.cell? ⟨bk,0,none⟩=some (.complex .f64 qx qy)):=fun w' F=>⟨(hbl.keep F (by simp)).c,by rw [← f1];exact(hbk.keep F (by simp)).c⟩
  have cl0:=(HS1 w (Fr.refl _ w)).1
  have ck0:=(HS1 w (Fr.refl _ w)).2
  obtain⟨n,hnl⟩:∃n,us.length=n:=⟨_,rfl⟩
  have HKL:=oH hnl
  have HRW:Hid (∀w':World,Fr [] w w'→w'.ownsRow 0 26 1 v n (us.map fun t=>ptrV t.p)):=oH (fun w' F=>by rw [← hnl];exact zAf hrow F (by simp))
  have hk:n≤16384:=by omega
  have HH:=oH (oA hX (oA hF (oA hR (oA hb (oA hbl (oA hbd (oA hba (oA hbx (oA hus (oA hfar (oA hbll (oA hC (oA hx (oA hG (oA e1 HU)))))))))))))))
  clear hX hF hR hb hbl hbk hbd hba hbx hrow hus hle hnil hfar hbll hC hx ho hG e1 f1 hb5 hnl HU
  simp only [Option.map,encP,ptrV,pt]
  go_enter Tryz.func83,Tryz.ntmps83
  go_wp2_with fail
  refine zAp 7 (S:=fun w'=>w'.cell? ⟨bl,0,none⟩=some v∧w'.cell? ⟨bk,0,none⟩=some (.complex .f64 qx qy)) (by kernel_rfl) ?_ (fun hHeld=>?_)
  ·exact HS1 _ (Fr.drew w)
  refine zAh (k:=12) (i:=0) (v:=?_) rfl (by kernel_rfl) (by kernel_rfl) (by kernel_rfl) (by kernel_rfl) (fun _ _ _ h=>h) (Or.inl ⟨by rfl,?_⟩) (by assumption) ?_
  rotate_left
  ·intro w hSw;(try dsimp only at hSw);(try obtain⟨h1,h2⟩:=hSw);go_simp;try with_reducible rfl
  simp only[Act.put,oB,oC,oD,oE,oF,oG]
  refine zAh (k:=12) (i:=1) (v:=?_) rfl (by kernel_rfl) (by kernel_rfl) (by kernel_rfl) (by kernel_rfl) (fun _ _ _ h=>h) (Or.inl ⟨by rfl,?_⟩) (by assumption) ?_
  rotate_left
  ·intro w hSw;(try dsimp only at hSw);(try obtain⟨h1,h2⟩:=hSw);go_simp;try with_reducible rfl
  simp only[Act.put,oB,oC,oD,oE,oF,oG]
  refine zAh (k:=12) (i:=2) (v:=?_) rfl (by kernel_rfl) (by kernel_rfl) (by kernel_rfl) (by kernel_rfl) (fun _ _ _ h=>h) (Or.inl ⟨by rfl,?_⟩) (by assumption) ?_
  rotate_left
  ·intro w hSw;(try dsimp only at hSw);(try obtain⟨h1,h2⟩:=hSw);go_simp;try with_reducible rfl
  simp only[Act.put,oB,oC,oD,oE,oF,oG]
  refine zAa (rs:=[3]) (by kernel_rfl) (by simp) ?_
  refine AllL.cons rfl (fun K hK=>?_) ?_
  rotate_left
  ·exact AllL.nil
  go_simp
  try rw [hwa]
  refine hK.out _ _ (HS1 _ Fa) (fun hHeld=>?_)
  clear hK K
  try simp only[Act.put,oB,oC,oD,oE,oF,oG]
  refine zAa (rs:=[4]) (by kernel_rfl) (by simp) ?_
  refine AllL.cons rfl (fun K hK=>?_) ?_
  rotate_left
  ·exact AllL.nil
  go_simp
  refine HN30.mono ?_
  rintro e w2 ⟨z,rfl,F2,hz,hzd⟩
  have H2:=HS1 w2 F2
  have HZ:=oH (oA F2 (oA hz hzd))
  clear hz hzd HN30
  go_wp2_with fail
  refine hK.out _ _ (H2) (fun hHeld=>?_)
  clear hK K
  try simp only[Act.put,oB,oC,oD,oE,oF,oG]
  refine zAa (rs:=[5]) (by kernel_rfl) (by simp) ?_
  refine AllL.cons rfl (fun K hK=>?_) ?_
  rotate_left
  ·exact AllL.nil
  go_simp
  obtain⟨wb,hwb⟩:∃wb,w2.alloc (.cells #[.pointer (some ⟨z.p,0,none⟩)] 26)=wb:=⟨_,rfl⟩
  try rw [hwb]
  have Fb:Fr [] w wb:=by rw [← hwb];exact F2.on (Fr.alloc _ _)
  have Fc:Fr [] w2 wb:=by rw [← hwb];exact Fr.alloc _ _
  have sb:wb.heap.size=w2.heap.size+1:=by rw [← hwb];simp
  have HNb:∀j u,[Value.pointer (some ⟨z.p,0,none⟩)][j]?=some u→wb.cell? ((⟨w2.heap.size,0,none⟩:Addr).add j)=some u:=fun j u hj=>by rw [← hwb];exact new1 w2 (ptrV z.p) 26 j u hj
  have HO1:=one1 z.p
  have hrb:=HRW.out wb Fb
  have hgb:∃o,wb=w2.alloc o:=⟨_,hwb.symm⟩
  clear hwb
  refine hK.out _ _ (HS1 _ Fb) (fun hHeld=>?_)
  clear hK K
  try simp only[Act.put,oB,oC,oD,oE,oF,oG]
  refine zAa (rs:=[6]) (by kernel_rfl) (by simp) ?_
  refine AllL.cons rfl (fun K hK=>?_) ?_
  rotate_left
  ·exact AllL.nil
  refine step_append_lies _ (by rfl) _ _ 38 (by rfl) 0 26 i1 (.pointer none) 1 8 Tryz.underlying38 hi hz0 hz1 hz2 (by rfl) (by decide) v n _ (by rfl) hrb ⟨w2.heap.size,0,none⟩ 1 1 [.pointer (some ⟨z.p,0,none⟩)] (by rfl) (by rfl) HNb HO1 (by decide) (by unfold maxLen;omega) (by omega) (Nat.zero_le _) wb.heap.size rfl ?_
  intro g9 cap9 w9 hown9 hgrow hat hlt9
  have F9:Fr (obL v) w w9:=(Fb.up0).on (Fr.of_grown hgrow)
  have F29:Fr (obL v) w2 w9:=Fc.up0.on (Fr.of_grown hgrow)
  have hbl9:Var w9 bl 38 v:=HH.out.2.2.2.2.1.keep F9 (fun hm=>(HH.out.2.2.2.2.2.2.2.2.2.1 bl hm).2.2.1 rfl)
  have c9:=hbl9.c
  have f9:=hbl9.f
  have k9:w9.cell? ⟨bk,0,none⟩=some (.complex .f64 qx qy):=(World.cell?_of_block (F9.block bk (World.block_lt_of_cell? w _ ck0) (fun hm=>(HH.out.2.2.2.2.2.2.2.2.2.1 bk hm).2.2.2.1 rfl))).trans ck0
  have hg9:g9≠bl:=by
   rcases hat with h4 | h4
   ·exact(HH.out.2.2.2.2.2.2.2.2.2.1 g9 ((zBc v g9).2 h4)).2.2.1
   ·have:=HH.out.2.2.2.2.1.lt;have:=Fb.size;omega
  have H9:=oH (oA F9 (oA hbl9 (oA hown9 (oA hg9 F29))))
  clear F29 Fc F9 hbl9 hown9 hgrow hat hlt9 hg9 hgb hrb HNb HO1 Fb sb
  refine hK.out _ _ (⟨c9,k9⟩) (fun hHeld=>?_)
  clear hK K
  try simp only[Act.put,oB,oC,oD,oE,oF,oG]
  refine zAa (rs:=[7]) (by kernel_rfl) (by simp) ?_
  refine AllL.last rfl (by kernel_rfl) (fun K hK=>?_) ?_
  rotate_left
  ·exact AllL.nil
  go_simp
  refine hK.out _ _ ?_
  clear hK K
  try simp only[Act.put,oB,oC,oD,oE,oF,oG]
  refine zAl (by kernel_rfl) ?_ _
  go_wp2_with fail
  obtain⟨w5,hw5⟩:∃w5,w9.setCell ⟨bl,0,none⟩ (.slice (some ⟨g9,0,none⟩) (n+1) cap9)=w5:=⟨_,rfl⟩
  try rw [hw5]
  obtain⟨L,hLe⟩:∃L,us++[z]=L:=⟨_,rfl⟩
  obtain⟨hX,hF,hR,hb,hbl,hbd,hba,hbx,hus,hfar,hbll,hC,hx,hG,e1,HU⟩:=HH.out
  obtain⟨F9,hbl9,hown9,hg9,F29⟩:=H9.out
  obtain⟨F2z,hz,hzd⟩:=HZ.out
  have hnl:=HKL.out
  have FS:=Fr.set w9 bl 0 (.slice (some ⟨g9,0,none⟩) (n+1) cap9)
  have F5:Fr (bl::obL v) w w5:=by rw [← hw5];exact(F9.mono (fun j hj=>List.mem_cons_of_mem _ hj)).trans FS (fun j hj=>.inl (by
   obtain rfl:j=bl:=by simpa using hj
   exact List.mem_cons_self))
  have hb5:b≤w5.heap.size:=by have:=hF.size;have:=F5.size;omega
  have hfb:∀q ∈ bl::obL v,w0.heap.size≤q∧q < C∧q≠bd∧q≠ba∧q≠bx:=fun q hq=>by
   rcases List.mem_cons.1 hq with rfl | hq
   ·exact⟨hbll.1,hbll.2.1,hbll.2.2.2⟩
   ·have:=hfar q hq
    exact⟨this.1,this.2.1,this.2.2.2.2⟩
  have hX5:SX c w5 i:=hX.stay F5 (fun q hq=>by have:=(hfb q hq).1;omega)
  have hF5:Fr [c.R] w0 w5:=hF.trans F5 (fun q hq=>.inr (hfb q hq).1)
  have hx5:IsT w5 (b≤·) x:=hx.keep (fun q hq _=>hq.1) (fun q hq hl=>F5.block q hl (fun hm=>by
   rcases List.mem_cons.1 hm with rfl | hm
   ·exact hq.2.1 rfl
   ·exact hq.2.2 hm))
  have hz9:IsT w9 (C≤·) z:=hz.keep (fun _ h _=>h) (fun q hq hl=>F29.block q hl (fun hm=>by
   have h1:=(hfar q hm).2.1
   have hq:C≤q:=hq
   omega))
  have hL5:∀u ∈ L,IsT w5 (b≤·) u:=fun y hy=>by
   rw [← hLe] at hy
   rcases List.mem_append.1 hy with hy | hy
   ·exact(hus y hy).keep (fun q hq _=>hq.1) (fun q hq hl=>F5.block q hl (fun hm=>by
     rcases List.mem_cons.1 hm with rfl | hm
     ·exact hq.2.1 rfl
     ·exact hq.2.2 hm))
   ·obtain rfl:y=z:=by simpa using hy
    rw [← hw5]
    exact hz9.keep (fun q hq _=>Nat.le_trans hC.1 hq) (fun q hq hl=>FS.block q hl (by simp;have hq:C≤q:=hq;omega))
  have hLle:L.length≤16385:=by rw [← hLe];simp;omega
  have HNW:=zUo c w0 w5 b i px py t e1 ⟨df,d1,d2⟩ Post x L hX5 hF5 hb5 hx5 hL5 hLle (fun z' w' F X hz' hzd'=>hG z' w' F X hz' (by rw [hzd',← hLe];simp [hzd]))
  have hbl5:Var w5 bl 38 (.slice (some ⟨g9,0,none⟩) (n+1) cap9):=by rw [← hw5];exact hbl9.set _
  have hrow5:w5.ownsRow 0 26 1 (.slice (some ⟨g9,0,none⟩) (n+1) cap9) L.length (L.map fun t=>ptrV t.p):=by
   have e1:L.length=n+1:=by rw [← hLe];simp [hnl]
   have e2:L.map (fun t=>ptrV t.p)=(us.map fun t=>ptrV t.p)++[ptrV z.p]:=by rw [← hLe];simp
   rw [e1,e2,← hw5]
   exact zAf hown9 FS (fun q hq hm=>by
    have e3:q=g9:=by simpa [obL,Value.ownBlock] using hq
    have e4:q=bl:=by simpa using hm
    omega)
  have hL0:L≠[]:=by rw [← hLe];simp
  have hnL:L.length=n+1:=by rw [← hLe];simp [hnl]
  have HV:∀w':World,Fr [] w5 w'→(w'.cell? ⟨bd,0,none⟩=some (.func (.func df) d1 d2)∧w'.cell? ⟨ba,0,none⟩=some (.complex .f64 px py)∧w'.cell? ⟨bx,0,none⟩=some (.pointer (some ⟨x.p,0,none⟩))∧w'.cell? ⟨bl,0,none⟩=some (.slice (some ⟨g9,0,none⟩) (n+1) cap9)):=fun w' F=>⟨((hbd.keep F5 (fun hm=>(hfb _ hm).2.2.1 rfl)).keep F (by simp)).c,by rw [← e1];exact((hba.keep F5 (fun hm=>(hfb _ hm).2.2.2.1 rfl)).keep F (by simp)).c,((hbx.keep F5 (fun hm=>(hfb _ hm).2.2.2.2 rfl)).keep F (by simp)).c,(hbl5.keep F (by simp)).c⟩
  clear F29 hX hF hR hb hbl hbd hba hbx hus hfar hbll hC hx hG HU F9 hbl9 hown9 hg9 F2z hz hzd FS F5 hfb hX5 hF5 hx5 hz9 hL5 hbl5 H9 HZ HH HS1 HRW c9 f9 k9 cl0 ck0 H2 hLe hw5 e1 hb5
  obtain⟨w6,hw6⟩:∃w6,w5.drew.alloc (.cells #[.pointer (some ⟨x.p,0,none⟩)] 26)=w6:=⟨_,rfl⟩
  have F6:Fr [] w5 w6:=by rw [← hw6];exact(Fr.drew w5).on (Fr.alloc _ _)
  have s6:w6.heap.size=w5.heap.size+1:=by rw [← hw6];simp
  have hown6:=zIn w5.drew x.p
  rw [hw6] at hown6
  obtain⟨gl,cl,hge,hsrc⟩:=zRe hrow5 hL0
  injection hge with hg1 hg2 hg3
  injection hg1 with hg1
  injection hg1 with hg1
  subst hg1 hg3
  obtain⟨nl,hnl⟩:∃nl,L.length=nl:=⟨_,rfl⟩
  have HLL:=oH hnl
  have hpos:0 < nl:=by rw [← hnl];exact List.length_pos_iff.2 hL0
  have hlm:(L.map fun t=>ptrV t.p).length=nl * 1:=by simp [hnl]
  have hle:nl≤16385:=by rw [← hnl];exact hLle
  have hsrc6:∀j u,(L.map fun t=>ptrV t.p)[j]?=some u→w6.cell? ((⟨g9,0,none⟩:Addr).add j)=some u:=fun j u hj=>F6.cellE (hsrc j u hj)
  rw [show n+1=nl by omega] at HV
  clear hg2 hnL
  have HY:=oH (oA F6 (oA HV (oA HNW (oA hown6 (oA hlm (oA hsrc6 s6))))))
  clear F6 HV HNW hown6 hlm hsrc hsrc6 s6 hrow5 hL0 hLle
  try simp only [hnl]
  clear hnl
  refine zAp 7 (S:=fun w'=>w'.cell? ⟨bd,0,none⟩=some (.func (.func df) d1 d2)∧w'.cell? ⟨ba,0,none⟩=some (.complex .f64 px py)∧w'.cell? ⟨bx,0,none⟩=some (.pointer (some ⟨x.p,0,none⟩))∧w'.cell? ⟨bl,0,none⟩=some (.slice (some ⟨g9,0,none⟩) nl cap9)) (by kernel_rfl) ?_ (fun hHeld=>?_)
  ·exact HY.out.2.1 _ (Fr.drew w5)
  refine zAh (k:=12) (i:=0) (v:=?_) rfl (by kernel_rfl) (by kernel_rfl) (by kernel_rfl) (by kernel_rfl) (fun _ _ _ h=>h) (Or.inl ⟨by rfl,?_⟩) (by assumption) ?_
  rotate_left
  ·intro w hSw;(try dsimp only at hSw);(try obtain⟨h1,h2,h3,h4⟩:=hSw);go_simp;try with_reducible rfl
  simp only[Act.put,oB,oC,oD,oE,oF,oG]
  refine zAh (k:=12) (i:=1) (v:=?_) rfl (by kernel_rfl) (by kernel_rfl) (by kernel_rfl) (by kernel_rfl) (fun _ _ _ h=>h) (Or.inl ⟨by rfl,?_⟩) (by assumption) ?_
  rotate_left
  ·intro w hSw;(try dsimp only at hSw);(try obtain⟨h1,h2,h3,h4⟩:=hSw);go_simp;try with_reducible rfl
  simp only[Act.put,oB,oC,oD,oE,oF,oG]
  refine zAh (k:=12) (i:=2) (v:=?_) rfl (by kernel_rfl) (by kernel_rfl) (by kernel_rfl) (by kernel_rfl) (fun _ _ _ h=>h) (Or.inl ⟨by rfl,?_⟩) (by assumption) ?_
  rotate_left
  ·intro w hSw;(try dsimp only at hSw);(try obtain⟨h1,h2,h3,h4⟩:=hSw);go_simp;try with_reducible rfl
  simp only[Act.put,oB,oC,oD,oE,oF,oG]
  refine zAh (k:=12) (i:=4) (v:=?_) rfl (by kernel_rfl) (by kernel_rfl) (by kernel_rfl) (by kernel_rfl) (fun _ _ _ h=>h) (Or.inl ⟨by rfl,?_⟩) (by assumption) ?_
  rotate_left
  ·intro w hSw;(try dsimp only at hSw);(try obtain⟨h1,h2,h3,h4⟩:=hSw);go_simp;try with_reducible rfl
  simp only[Act.put,oB,oC,oD,oE,oF,oG]
  refine zAa (rs:=[3]) (by kernel_rfl) (by simp) ?_
  refine AllL.cons rfl (fun K hK=>?_) ?_
  rotate_left
  ·exact AllL.nil
  go_simp
  try rw [hw6]
  refine hK.out _ _ (HY.out.2.1 _ HY.out.1) (fun hHeld=>?_)
  clear hK K
  try simp only[Act.put,oB,oC,oD,oE,oF,oG]
  refine zAa (rs:=[5]) (by kernel_rfl) (by simp) ?_
  refine AllL.cons rfl (fun K hK=>?_) ?_
  rotate_left
  ·exact AllL.nil
  refine step_append_lies _ (by rfl) _ _ 38 (by rfl) 0 26 i1 (.pointer none) 1 8 Tryz.underlying38 hi hz0 hz1 hz2 (by rfl) (by decide) (.slice (some ⟨w5.heap.size,0,none⟩) 1 1) 1 _ (by rfl) HY.out.2.2.2.1 ⟨g9,0,none⟩ nl cap9 (L.map fun t=>ptrV t.p) (by rfl) HY.out.2.2.2.2.1 HY.out.2.2.2.2.2.1 (ones L) hpos (by unfold maxLen;omega) (by omega) (by simp) (w5.heap.size+1) HY.out.2.2.2.2.2.2 ?_
  intro g9 cap9 w9 hown9 hgrow hat hlt9
  have F9:Fr [] w5 w9:=HY.out.1.trans (Fr.of_grown hgrow) (fun q hq=>.inr (by simp [obL,Value.ownBlock] at hq;omega))
  have HC:=HY.out.2.2.1 _ w9 F9 (zEi (us:=x::L) (by simpa [ptrV] using hown9) (by have:=HLL.out;simp;omega))
  have H9:=HY.out.2.1 w9 F9
  clear hown9 hgrow hat hlt9 F9
  refine hK.out _ _ (H9) (fun hHeld=>?_)
  clear hK K
  try simp only[Act.put,oB,oC,oD,oE,oF,oG]
  refine zAa (rs:=[6]) (by kernel_rfl) (by simp) ?_
  refine AllL.cons rfl (fun K hK=>?_) ?_
  rotate_left
  ·exact AllL.nil
  go_simp
  refine HC.mono ?_
  rintro e w3 ⟨z,rfl,F3,hg⟩
  obtain⟨hE,hCC⟩:=hg
  have hRn:=zAe hE
  have H3:=HY.out.2.1 w3 F3
  clear hE F3
  go_wp2_with fail
  refine hK.out _ _ (H3) (fun hHeld=>?_)
  clear hK K
  try simp only[Act.put,oB,oC,oD,oE,oF,oG]
  refine zAa (rs:=[7]) (by kernel_rfl) (by simp) ?_
  refine AllL.last rfl (by kernel_rfl) (fun K hK=>?_) ?_
  rotate_left
  ·exact AllL.nil
  go_simp
  refine hCC.mono ?_
  rintro e w4 ⟨s,rfl,hr⟩
  have HRS:=oH hr
  clear hr hCC HY H3 HC
  go_wp2_with fail
  refine hK.out _ _ ?_
  clear hK K
  try simp only[Act.put,oB,oC,oD,oE,oF,oG]
  refine zAa (rs:=[8]) (by kernel_rfl) (by simp) ?_
  refine AllL.last rfl (by kernel_rfl) (fun K hK=>?_) ?_
  rotate_left
  ·exact AllL.nil
  go_simp
  refine hK.out _ _ ?_
  clear hK K
  try simp only[Act.put,oB,oC,oD,oE,oF,oG]
  refine zAl (by kernel_rfl) ?_ _
  go_wp2_with fail
  go_ret
  exact⟨s,rfl,HRS.out⟩
end Go.Proofs.YtepfknfadpkigaaGreat
namespace Go.Proofs.YtepfknfadpkigaaGreat
open Go.RowKit
set_option maxHeartbeats 4000000
set_option maxRecDepth 100000
theorem ca1 (c:Sc) (B:Nat→Re) (hB:CB c B) (hBm:EndB c B) (w0 w:World) (b b1 k br bd ba bx:Nat) (t:TK) (done:FV) (v:Value) (us:List Tr) (x:Tr) (Post:World→Prop)
  (hX:SX c w k) (hF:Fr [c.R] w0 w) (hR:c.mb < b) (hb:b≤w0.heap.size) (hbr:Var w br 44 (pt c.R)) (hbd:Var w bd 76 done.val) (hba:Var w ba 37 (posV t.2.1.1 t.2.1.2)) (hbx:Var w bx 26 (ptrV x.p))
  (hl:LsS w b1 v us) (hoff:∀t ∈ us,IsT w (fun q=>b1≤q∧q ∉ obL v) t) (hb1:w0.heap.size≤b1∧c.mb < br∧c.mb < bd∧c.mb < ba∧c.mb < bx∧br < b1∧bd < b1∧ba < b1∧bx < b1∧b1≤w.heap.size) (hx:IsT w (fun q=>b≤q∧q < b1) x)
  (hT:ThS c b w0 (((othM c.ts B k).bnd fun o m=>.ok (x.dt::(us.map Tr.dt++o.map fun b=>DT.node (nd 30 (tk c.ts k) [] 0) [b])) m).re fun l=>.node (nd 63 t [] 0) l) done Post) :
  Calls Tryz.prog 82 #[v,pt br,pt bd,pt ba,pt bx] w (GQ Post):=by
 obtain⟨px,py,e1⟩:=zAc (tk c.ts k).2.1.1 (tk c.ts k).2.1.2
 obtain⟨ex,ey,e2⟩:=zAc (tk c.ts k).2.2.1 (tk c.ts k).2.2.2
 have hfd:=zBb
 have hsc:=fun w a x y m=>zAg (P:=Tryz.prog) w a .f64 x y m
 obtain⟨qv,nv,cv,rfl⟩:∃q n cap,v=.slice q n cap:=by rcases hl.row.2 with⟨h1,_⟩ | ⟨g,cap,cur,e,_⟩;(· exact⟨none,0,0,h1⟩);(· exact⟨_,_,_,e⟩)
 obtain⟨w1,hw1⟩:∃w1,w.alloc (.cells #[.slice qv nv cv] 38)=w1:=⟨_,rfl⟩
 have F1:Fr [] w w1:=by rw [← hw1];exact Fr.alloc _ _
 have v1:Var w1 w.heap.size 38 (.slice qv nv cv):=by rw [← hw1];exact heap_alloc_new _ _
 have s1:w1.heap.size=w.heap.size+1:=by rw [← hw1];simp
 have cr:=(hbr.keep F1 (by simp)).c
 have HTK:=zCj c w1 k (hX.keep F1) px py ex ey e1 e2
 have HH:=oH (oA hB (oA hBm (oA hX (oA hF (oA hR (oA hb (oA hbr (oA hbd (oA hba (oA hbx (oA hl (oA hoff (oA hb1 (oA hx (oA hT (oA e1 (oA F1 (oA v1 s1))))))))))))))))))
 clear hB hBm hX hF hR hb hbr hbd hba hbx hl hoff hb1 hx hT e1 e2 F1 v1 s1
 generalize ((tk c.ts k).1.k:Int)=t0 at *
 generalize (⟨(tk c.ts k).1.x.toArray⟩:ByteArray)=t3 at *
 generalize (tk c.ts k).1.n=t4 at *
 simp only [pt] at cr ⊢
 go_enter Tryz.func82,Tryz.ntmps82
 go_wp2_with fail
 refine HTK.mono ?_
 rintro e w2 ⟨rfl,F2⟩
 clear HTK
 go_upto_region 2 with fail
 obtain⟨P,hP⟩:∃P,w2.heap.size=P:=⟨_,rfl⟩
 obtain⟨w3,hw3⟩:∃w3,w2.alloc (.cells #[.complex .f64 px py] 37)=w3:=⟨_,rfl⟩
 have F3:Fr [] w2 w3:=by rw [← hw3];exact Fr.alloc _ _
 have v3:Var w3 P 37 (.complex .f64 px py):=by rw [← hw3,← hP];exact heap_alloc_new _ _
 have s3:w3.heap.size=P+1:=by rw [← hw3,← hP];simp
 try rw [hw3]
 try rw [hP]
 have HO:Calls Tryz.prog 79 #[.pointer (some ⟨c.R,0,none⟩),FV.val ⟨83,#[],#[pt w.heap.size,pt P,pt bd,pt ba,pt bx]⟩] w3 (GQ Post):=by
  obtain⟨hB,hBm,hX,hF,hR,hb,hbr,hbd,hba,hbx,hl,hoff,hb1,hx,hT,e1,F1,v1,s1⟩:=HH.out
  have hRm:=c.hRm
  have F13:Fr [] w1 w3:=F2.on F3
  have F03:Fr [] w w3:=F1.on F13
  have hs2:=F2.size
  have hP1:w.heap.size+1≤P:=by omega
  have hs0:=hF.size
  refine zRa c B hB w3 k ⟨83,#[],#[pt w.heap.size,pt P,pt bd,pt ba,pt bx]⟩ Post w3.heap.size (hX.keep F03) (by omega) (Nat.le_refl _) ⟨fun d j er u2 w4 F4 X4 hu2 hd2=>⟨zUn,?_⟩,fun j er w4 F4 X4=>⟨zUn,?_⟩,fun j er w4 F4 X4=>?_,fun er=>?_⟩
  ·rw [er] at hT
   have hT:ThS c b w0 (.ok (.node (nd 63 t [] 0) (x.dt::(us.map Tr.dt++[DT.node (nd 30 (tk c.ts k) [] 0) [d]]))) j) done Post:=hT
   refine ca11 c w0 w4 b w3.heap.size j w.heap.size P bd ba bx t (tk c.ts k) done (.slice qv nv cv) us x (some u2) Post X4 ((hF.on0 F03).on F4) hR hb ((v1.keep F13 (by simp)).keep F4 (by simp;omega)) (by rw [e1];exact v3.keep F4 (by simp;omega)) ((hbd.keep F03 (by simp)).keep F4 (by simp;omega)) ((hba.keep F03 (by simp)).keep F4 (by simp;omega)) ((hbx.keep F03 (by simp)).keep F4 (by simp;omega))
    (zAf (zAf hl.row F03 (by simp)) F4 (fun q hq hm=>?_)) (fun u hu=>?_) hl.le hl.nil (fun q hq=>?_) ⟨by omega,by omega,by omega,by omega,by omega,by omega⟩ ⟨by omega,F4.size⟩ ?_ (fun u hu=>by injection hu with hu;subst hu;exact hu2) (fun z w' F X hz hzd=>hT.ok _ _ rfl z w' F X hz (by rw [hzd];simp [hd2]))
   ·have h1:=hl.far q hq
    have h2:q=c.R:=by simpa using hm
    omega
   ·exact(hoff u hu).keep (fun q hq hlq=>⟨by have:=hq.1;omega,by omega,hq.2⟩) (fun q hq hlq=>(F4.block q (Nat.lt_of_lt_of_le hlq F03.size) (by simp;have:=hq.1;omega)).trans (F03.block q hlq (by simp)))
   ·have h1:=hl.far q hq
    have h2:=(hl.row.lt q ((zBc _ q).1 hq)).2
    exact⟨by omega,by omega,by omega,by omega,by omega,by omega,by omega⟩
   ·exact hx.keep (fun q hq hlq=>⟨hq.1,by have:=hq.2;omega,fun hm=>by have:=hl.far q hm;have:=hq.2;omega⟩) (fun q hq hlq=>(F4.block q (Nat.lt_of_lt_of_le hlq F03.size) (by simp;have:=hq.1;omega)).trans (F03.block q hlq (by simp)))
  ·rw [er] at hT
   have hT:ThS c b w0 (.ok (.node (nd 63 t [] 0) (x.dt::(us.map Tr.dt++[]))) j) done Post:=hT
   refine ca11 c w0 w4 b w3.heap.size j w.heap.size P bd ba bx t (tk c.ts k) done (.slice qv nv cv) us x none Post X4 ((hF.on0 F03).on F4) hR hb ((v1.keep F13 (by simp)).keep F4 (by simp;omega)) (by rw [e1];exact v3.keep F4 (by simp;omega)) ((hbd.keep F03 (by simp)).keep F4 (by simp;omega)) ((hba.keep F03 (by simp)).keep F4 (by simp;omega)) ((hbx.keep F03 (by simp)).keep F4 (by simp;omega))
    (zAf (zAf hl.row F03 (by simp)) F4 (fun q hq hm=>?_)) (fun u hu=>?_) hl.le hl.nil (fun q hq=>?_) ⟨by omega,by omega,by omega,by omega,by omega,by omega⟩ ⟨by omega,F4.size⟩ ?_ (fun u hu=>by cases hu) (fun z w' F X hz hzd=>hT.ok _ _ rfl z w' F X hz (by rw [hzd];simp))
   ·have h1:=hl.far q hq
    have h2:q=c.R:=by simpa using hm
    omega
   ·exact(hoff u hu).keep (fun q hq hlq=>⟨by have:=hq.1;omega,by omega,hq.2⟩) (fun q hq hlq=>(F4.block q (Nat.lt_of_lt_of_le hlq F03.size) (by simp;have:=hq.1;omega)).trans (F03.block q hlq (by simp)))
   ·have h1:=hl.far q hq
    have h2:=(hl.row.lt q ((zBc _ q).1 hq)).2
    exact⟨by omega,by omega,by omega,by omega,by omega,by omega,by omega⟩
   ·exact hx.keep (fun q hq hlq=>⟨hq.1,by have:=hq.2;omega,fun hm=>by have:=hl.far q hm;have:=hq.2;omega⟩) (fun q hq hlq=>(F4.block q (Nat.lt_of_lt_of_le hlq F03.size) (by simp;have:=hq.1;omega)).trans (F03.block q hlq (by simp)))
  ·rw [er] at hT
   have hT:ThS c b w0 (.bad j) done Post:=hT
   exact hT.bad _ rfl w4 ((hF.on0 F03).on F4) X4
  ·rw [er] at hT
   have hT:ThS c b w0 .out done Post:=hT
   exact hT.no rfl
 have cr3:=(HH.out.2.2.2.2.2.2.1.keep (HH.out.2.2.2.2.2.2.2.2.2.2.2.2.2.2.2.2.1.on (F2.on F3)) (by simp)).c
 clear F2 F3 v3 s3 hw3 hP cr HH
 simp only [FV.val,pt] at HO cr3
 go_wp2_with fail
 refine HO.mono ?_
 rintro e w' ⟨s,rfl,hr⟩
 go_wp2_with fail
 go_ret
 exact⟨s,rfl,hr⟩
theorem zYr (c:Sc) (B:Nat→Re) (hB:CB c B) (hBm:EndB c B) (hAm:∀i d j,armM c.ts B i=some (.ok d j)→i < j) (w:World) (i:Nat) (done:FV) (Post:World→Prop) (b:Nat) (hX:SX c w i) (hlt:i < c.ts.length) (hR:c.mb < b) (hb:b≤w.heap.size) (hT:ThS c b w (casM c.ts B i) done Post) :
  Calls Tryz.prog 46 #[.pointer (some ⟨c.R,0,none⟩),done.val] w (GQ Post):=by
 obtain⟨px,py,e1⟩:=zAc (tk c.ts i).2.1.1 (tk c.ts i).2.1.2
 obtain⟨ex,ey,e2⟩:=zAc (tk c.ts i).2.2.1 (tk c.ts i).2.2.2
 have hfd:=zBb
 have hen:=zKp
 have hsc:=fun w a x y m=>zAg (P:=Tryz.prog) w a .f64 x y m
 obtain⟨W,hW⟩:∃W,w.heap.size=W:=⟨_,rfl⟩
 obtain⟨w0,hw0⟩:∃w0,w.alloc (.cells #[.pointer (some ⟨c.R,0,none⟩)] 44)=w0:=⟨_,rfl⟩
 have F0:Fr [] w w0:=by rw [← hw0];exact Fr.alloc _ _
 have v0:Var w0 W 44 (pt c.R):=by rw [← hw0,← hW];exact heap_alloc_new _ _
 have s0:w0.heap.size=W+1:=by rw [← hw0,← hW];simp
 obtain⟨w1,hw1⟩:∃w1,w0.alloc (.cells #[done.val] 76)=w1:=⟨_,rfl⟩
 have F1:Fr [] w0 w1:=by rw [← hw1];exact Fr.alloc _ _
 have v1:Var w1 (W+1) 76 done.val:=by rw [← hw1,← s0];exact heap_alloc_new _ _
 have s1:w1.heap.size=W+2:=by rw [← hw1];simp [s0]
 have v01:=v0.keep F1 (by simp)
 have cr:=v01.c
 have HTK:=zCi c w1 i (hX.keep (F0.on F1)) hlt px py ex ey e1 e2
 have hRm:=c.hRm
 have hmW:c.mb < W:=by rw [← hW];omega
 have hT:ThS c b w ((wrdM c.ts [79,70] (E0 c.ts (i+1))).bnd fun x j=>((partM c.ts [124] (armM c.ts B) (c.ts.length+1) [] j).bnd fun l k=>(othM c.ts B k).bnd fun o m=>.ok (x::(l++o.map fun b=>DT.node (nd 30 (tk c.ts k) [] 0) [b])) m).re fun l=>.node (nd 63 (tk c.ts i) [] 0) l) done Post:=hT
 have HH:=oH (oA hB (oA hBm (oA hAm (oA hT (oA (F0.on F1) (oA v01 (oA v1 (oA hmW (oA hR (oA hb (oA s1 (oA hW e1))))))))))))
 clear hB hBm hAm hX hlt hR hb hT F0 F1 v0 v1 v01 s1 e1 e2 hmW hRm
 generalize ((tk c.ts i).1.k:Int)=t0 at *
 generalize (⟨(tk c.ts i).1.x.toArray⟩:ByteArray)=t3 at *
 generalize (tk c.ts i).1.n=t4 at *
 obtain⟨df,d1,d2c,rfl⟩:∃df d1 d2,done=⟨df,d1,d2⟩:=⟨_,_,_,rfl⟩
 simp only [FV.val,pt] at hw1 cr ⊢
 go_enter Tryz.func46,Tryz.ntmps46
 go_wp2_with fail
 refine HTK.mono ?_
 rintro e w2 ⟨rfl,F2,X2⟩
 clear HTK
 go_upto_region 2 with fail
 obtain⟨P,hP⟩:∃P,w2.heap.size=P:=⟨_,rfl⟩
 obtain⟨w3,hw3⟩:∃w3,w2.alloc (.cells #[.complex .f64 px py] 37)=w3:=⟨_,rfl⟩
 have F3:Fr [] w2 w3:=by rw [← hw3];exact Fr.alloc _ _
 have v3:Var w3 P 37 (.complex .f64 px py):=by rw [← hw3,← hP];exact heap_alloc_new _ _
 try rw [hw3]
 try rw [hP]
 have cr3:=(HH.out.2.2.2.2.2.1.keep (F2.on0 F3) (by have:=HH.out.2.2.2.2.2.2.2.1;have:=c.hRm;simp;omega)).c
 have HA:=sAheadE c w3 (i+1) [79,70] (X2.keep F3)
 have H3:=oH (oA (F2.on0 F3) (oA v3 (show W+2≤P by rw [← hP,← HH.out.2.2.2.2.2.2.2.2.2.2.1];exact F2.size)))
 clear F2 X2 F3 v3 hw3 hP cr
 simp only [pt] at cr3
 go_wp2_with fail
 refine HA.mono ?_
 rintro e w4 ⟨o,rfl,F4,⟨d,j,u,hr,rfl,X4,hu,hd⟩ | ⟨j,hr,rfl,X4⟩⟩
 ·clear HA cr3
  simp only [encP,ptrV]
  go_upto_region 3 with fail
  obtain⟨Q,hQ⟩:∃Q,w4.heap.size=Q:=⟨_,rfl⟩
  obtain⟨w5,hw5⟩:∃w5,w4.alloc (.cells #[.pointer (some ⟨u.p,0,none⟩)] 26)=w5:=⟨_,rfl⟩
  have F5:Fr [] w4 w5:=by rw [← hw5];exact Fr.alloc _ _
  have v5:Var w5 Q 26 (.pointer (some ⟨u.p,0,none⟩)):=by rw [← hw5,← hQ];exact heap_alloc_new _ _
  have s5:w5.heap.size=Q+1:=by rw [← hw5,← hQ];simp
  try rw [hw5]
  try rw [hQ]
  have c5:=v5.c
  have hcr:w5.cell? ⟨W,0,none⟩=some (.pointer (some ⟨c.R,0,none⟩)):=by
   have hmW:=HH.out.2.2.2.2.2.2.2.1
   have hRm:=c.hRm
   exact((HH.out.2.2.2.2.2.1.keep (H3.out.1.on F4) (by simp;omega)).keep F5 (by simp)).c
  have HC:Calls Tryz.prog 28 #[.pointer (some ⟨c.R,0,none⟩),.string ⟨([124]:List UInt8).toArray⟩,FV.val ⟨81,#[pt c.R],#[]⟩,FV.val ⟨82,#[],#[pt W,pt (W+1),pt P,pt Q]⟩] w5 (GQ Post):=by
   obtain⟨hB,hBm,hAm,hT,F01,v01,v1,hmW,hR,hb,s1,hW,e1⟩:=HH.out
   obtain⟨F13,v3,hWP⟩:=H3.out
   have hRm:=c.hRm
   have F15:Fr [c.R] w1 w5:=(F13.on F4).on0 F5
   have F35:Fr [c.R] w3 w5:=F4.on0 F5
   have hPQ:P < Q:=by rw [← hQ];have:=v3.lt;have:=F4.size;omega
   rw [hr] at hT
   have hT:ThS c b w (((partM c.ts [124] (armM c.ts B) (c.ts.length+1) [] j).bnd fun l k=>(othM c.ts B k).bnd fun o m=>.ok (d::(l++o.map fun b=>DT.node (nd 30 (tk c.ts k) [] 0) [b])) m).re fun l=>.node (nd 63 (tk c.ts i) [] 0) l) ⟨df,d1,d2c⟩ Post:=hT
   have hs3:=F13.size
   have hs4:=F4.size
   have hs5:=F5.size
   have hx5:IsT w5 (fun q=>b≤q∧q < w5.heap.size) u:=hu.keep (fun q hq hl=>⟨by have hq:w3.heap.size≤q:=hq;omega,by omega⟩) (fun q hq hl=>F5.block q hl (by simp))
   refine zLu c (armM c.ts B) 81 _ Post w5.heap.size j (c.ts.length+1) [124] w5 (X4.keep F5) (by omega) (Nat.le_refl _) (zTd c B hB) hAm ⟨fun ds k er us v w6 F6 X6 hl hoff hds=>⟨qDj,?_⟩,fun k er w6 F6 X6=>?_,fun er=>?_⟩
   ·rw [er] at hT
    have hT:ThS c b w (((othM c.ts B k).bnd fun o m=>.ok (d::(ds++o.map fun b=>DT.node (nd 30 (tk c.ts k) [] 0) [b])) m).re fun l=>.node (nd 63 (tk c.ts i) [] 0) l) ⟨df,d1,d2c⟩ Post:=hT
    rw [← hds,← hd] at hT
    have hs6:=F6.size
    exact ca1 c B hB hBm w w6 b w5.heap.size k W (W+1) P Q (tk c.ts i) ⟨df,d1,d2c⟩ v us u Post X6 ((F01.up0.on F15).on F6) hR hb ((v01.keep F15 (by simp;omega)).keep F6 (by simp;omega)) ((v1.keep F15 (by simp;omega)).keep F6 (by simp;omega)) (by rw [e1];exact(v3.keep F35 (by simp;omega)).keep F6 (by simp;omega)) (v5.keep F6 (by simp;omega)) hl hoff ⟨by omega,by omega,by omega,by omega,by omega,by omega,by omega,by omega,by omega,hs6⟩ (hx5.keep (fun _ h _=>h) (fun q hq hl=>F6.block q hl (by simp;have:=hq.1;omega))) hT
   ·rw [er] at hT
    have hT:ThS c b w (.bad k) ⟨df,d1,d2c⟩ Post:=hT
    exact hT.bad _ rfl w6 ((F01.up0.on F15).on F6) X6
   ·rw [er] at hT
    have hT:ThS c b w .out ⟨df,d1,d2c⟩ Post:=hT
    exact hT.no rfl
  clear F4 X4 hu hd hr F5 v5 hw5 hQ s5 HH H3
  simp only [FV.val,pt] at HC
  go_wp2_with fail
  refine HC.mono ?_
  rintro e w' ⟨s,rfl,hr⟩
  go_wp2_with fail
  go_ret
  exact⟨s,rfl,hr⟩
 ·clear HA cr3
  have HP:Hid (∀w',Fr [] w4 w'→Post w'):=oH (fun w' F=>by
   have hT:=HH.out.2.2.2.1
   rw [hr] at hT
   have hT:ThS c b w (.bad j) ⟨df,d1,d2c⟩ Post:=hT
   exact hT.bad _ rfl w' (((HH.out.2.2.2.2.1.up0.on H3.out.1).on F4).on0 F) (X4.keep F))
  clear hr F4 X4
  simp only [encP]
  go_wp2_with fail
  go_ret
  exact zCd (HP.out _ (Fr.alloc _ _))
end Go.Proofs.YtepfknfadpkigaaGreat
end
