/- Several texts in one. -/
import Derived.Test.YtepfknfadpkigaaGreatPkAA
import Derived.Test.YtepfknfadpkigaaGreatPkBH
set_option linter.unusedVariables false
set_option linter.unusedSimpArgs false
section
namespace Go.Proofs.YtepfknfadpkigaaGreat
open Go.RowKit
set_option maxHeartbeats 4000000
set_option maxRecDepth 100000
theorem zXf (ts:List TK) (i:Nat):cntM ts i=byM ts (kid (E0 ts) (needM ts [84,79] (kid (E0 ts) (needS ts [58,61] (.ok [] i))))):=by
 show (behS ts [58,61] i).bndL _=_
 unfold behS needS
 show _=byM ts (kid (E0 ts) (needM ts [84,79] (kid (E0 ts) (if isS (tk ts i) [58,61]=true then .ok [] (i+1) else .bad i))))
 cases isS (tk ts i) [58,61]
 ·rfl
 ·show (E0 ts (i+1)).bndL _=byM ts (kid (E0 ts) (needM ts [84,79] (kid (E0 ts) (.ok [] (i+1)))))
  unfold kid
  show _=byM ts ((needM ts [84,79] ((E0 ts (i+1)).bndL fun x k=>.ok ([]++[x]) k)).bnd fun l j=>(E0 ts j).bndL fun x k=>.ok (l++[x]) k)
  cases E0 ts (i+1) with
  | out=>rfl
  | bad k=>rfl
  | ok a j =>
   show (behW ts [84,79] j).bndL _=byM ts ((if isW (tk ts j) [84,79]=true then ReL.ok ([]++[a]) (j+1) else .bad j).bnd fun l j=>(E0 ts j).bndL fun x k=>.ok (l++[x]) k)
   unfold behW
   cases isW (tk ts j) [84,79]
   ·rfl
   ·show (E0 ts (j+1)).bndL _=byM ts ((E0 ts (j+1)).bndL fun x k=>.ok (([]++[a])++[x]) k)
    cases E0 ts (j+1) with
    | out=>rfl
    | bad k=>rfl
    | ok b k =>
     show (if isW (tk ts k) [66,89]=true then _ else _)=(if isW (tk ts k) [66,89]=true then _ else _)
     cases hq:isW (tk ts k) [66,89]
     ·rfl
     ·rfl
theorem zQm (ts:List TK) (B:Nat→Re) (i:Nat) (hk:(tk ts (i+1)).1.k=1):forM ts B i=(needM ts [69,78,68] (kid B (needM ts [68,79] (byM ts (kid (E0 ts) (needM ts [84,79] (kid (E0 ts) (needS ts [58,61] (.ok [] (i+1+1)))))))))).re fun l=>.node (nd 68 (tk ts i) (tk ts (i+1)).1.x 0) l:=by
 unfold forM
 rw [if_pos hk,zXf]
 generalize byM ts (kid (E0 ts) (needM ts [84,79] (kid (E0 ts) (needS ts [58,61] (.ok [] (i+2))))))=r
 unfold needM kid
 congr 1
 cases r with
 | out=>rfl
 | bad k=>rfl
 | ok l j =>
  show (if isW (tk ts j) [68,79]=true then (wrdM ts [69,78,68] (B (j+1))).bndL _ else .bad j)=(((if isW (tk ts j) [68,79]=true then ReL.ok l (j+1) else .bad j).bnd fun l j=>(B j).bndL fun x k=>.ok (l++[x]) k)).bnd fun l j=>if isW (tk ts j) [69,78,68]=true then .ok l (j+1) else .bad j
  cases isW (tk ts j) [68,79]
  ·rfl
  ·show (wrdM ts [69,78,68] (B (j+1))).bndL _=((B (j+1)).bndL fun x k=>.ok (l++[x]) k).bnd _
   unfold wrdM
   cases B (j+1) with
   | out=>rfl
   | bad k=>rfl
   | ok b k =>
    show ((if isW (tk ts k) [69,78,68]=true then Re.ok b (k+1) else .bad k).bndL _)=(if isW (tk ts k) [69,78,68]=true then ReL.ok (l++[b]) (k+1) else .bad k)
    cases isW (tk ts k) [69,78,68] <;> rfl
theorem zXg (c:Rc) (hS:Scd c.ts) (B:Nat→Re) (hB:CF c 18 B) (hBm:∀i d j,i≤c.ts.length→B i=.ok d j→i≤j∧j≤c.ts.length) (w:World) (i:Nat) (h:RF c w i false) (hq:isW (tk c.ts i) [82,69,84,85,82,78]=true) (RES:Re) (hRES:RES≠.out) (hmod:RES=retM c.ts i) :
  Calls Tryz.prog 35 #[.pointer (some ⟨c.R,0,none⟩)] w (Tl c w.heap.size w RES):=by
 obtain⟨px,py,e1⟩:=zAc (tk c.ts i).2.1.1 (tk c.ts i).2.1.2
 obtain⟨ex,ey,e2⟩:=zAc (tk c.ts i).2.2.1 (tk c.ts i).2.2.2
 have hfd:=zBb
 have HN:=zAo c w i false h px py ex ey e1 e2
 have HX:=oH (oA h (oA hq (oA e1 (oA hRES hmod))))
 have HCON:Hid (∀wh,RF c wh (i+1) false→Calls Tryz.prog 69 #[.pointer (some ⟨c.R,0,none⟩),.complex .f64 px py] wh (Tl c wh.heap.size wh RES)):=oH (fun wh X=>by
  refine zSu c hS wh (i+1) (tk c.ts i) px py e1 X RES ?_ hRES
  rw [hmod]
  rfl
 )
 have HR0:=oH h.lt
 clear h hq e1 e2 hB hRES hmod hS hBm
 generalize ((tk c.ts i).1.k:Int)=t0 at *
 generalize (⟨(tk c.ts i).1.x.toArray⟩:ByteArray)=t3 at *
 generalize (tk c.ts i).1.n=t4 at *
 go_enter Tryz.func35,Tryz.ntmps35
 go_wp2_with fail
 refine HN.mono ?_
 rintro e w0 ⟨rfl,F0⟩
 have FF:=oH F0
 clear F0 HN
 have HK:=zAb c w0 i false [73,70] (HX.out.1.keep FF.out) (by rw [zBd HX.out.2.1 (by decide)];rfl)
 simp only [pt] at HK
 go_wp2_with fail
 refine HK.mono ?_
 rintro e u0 ⟨rfl,F1⟩
 have FG:=oH (FF.out.on F1)
 clear F1 HK FF
 have FF:=FG
 clear FG
 have HK:=zAb c u0 i false [67,65,83,69] (HX.out.1.keep FF.out) (by rw [zBd HX.out.2.1 (by decide)];rfl)
 simp only [pt] at HK
 go_wp2_with fail
 refine HK.mono ?_
 rintro e u1 ⟨rfl,F1⟩
 have FG:=oH (FF.out.on F1)
 clear F1 HK FF
 have FF:=FG
 clear FG
 have HK:=zAb c u1 i false [87,72,73,76,69] (HX.out.1.keep FF.out) (by rw [zBd HX.out.2.1 (by decide)];rfl)
 simp only [pt] at HK
 go_wp2_with fail
 refine HK.mono ?_
 rintro e u2 ⟨rfl,F1⟩
 have FG:=oH (FF.out.on F1)
 clear F1 HK FF
 have FF:=FG
 clear FG
 have HK:=zAb c u2 i false [82,69,80,69,65,84] (HX.out.1.keep FF.out) (by rw [zBd HX.out.2.1 (by decide)];rfl)
 simp only [pt] at HK
 go_wp2_with fail
 refine HK.mono ?_
 rintro e u3 ⟨rfl,F1⟩
 have FG:=oH (FF.out.on F1)
 clear F1 HK FF
 have FF:=FG
 clear FG
 have HK:=zAb c u3 i false [76,79,79,80] (HX.out.1.keep FF.out) (by rw [zBd HX.out.2.1 (by decide)];rfl)
 simp only [pt] at HK
 go_wp2_with fail
 refine HK.mono ?_
 rintro e u4 ⟨rfl,F1⟩
 have FG:=oH (FF.out.on F1)
 clear F1 HK FF
 have FF:=FG
 clear FG
 have HK:=zAb c u4 i false [69,88,73,84] (HX.out.1.keep FF.out) (by rw [zBd HX.out.2.1 (by decide)];rfl)
 simp only [pt] at HK
 go_wp2_with fail
 refine HK.mono ?_
 rintro e u5 ⟨rfl,F1⟩
 have FG:=oH (FF.out.on F1)
 clear F1 HK FF
 have FF:=FG
 clear FG
 have HK:=zAb c u5 i false [70,79,82] (HX.out.1.keep FF.out) (by rw [zBd HX.out.2.1 (by decide)];rfl)
 simp only [pt] at HK
 go_wp2_with fail
 refine HK.mono ?_
 rintro e u6 ⟨rfl,F1⟩
 have FG:=oH (FF.out.on F1)
 clear F1 HK FF
 have FF:=FG
 clear FG
 have HK:=zAb c u6 i false [87,73,84,72] (HX.out.1.keep FF.out) (by rw [zBd HX.out.2.1 (by decide)];rfl)
 simp only [pt] at HK
 go_wp2_with fail
 refine HK.mono ?_
 rintro e u7 ⟨rfl,F1⟩
 have FG:=oH (FF.out.on F1)
 clear F1 HK FF
 have FF:=FG
 clear FG
 have HK:=zAz c u7 i [82,69,84,85,82,78] (HX.out.1.keep FF.out) HX.out.2.1
 simp only [pt] at HK
 go_wp2_with fail
 refine HK.mono ?_
 rintro e wh ⟨rfl,F1,X1⟩
 have HH:=oH (oA (FF.out.up0 (N:=[c.R]) |>.on F1) X1)
 clear F1 X1 HK FF
 have HC:=HCON.out wh HH.out.2
 go_wp2_with fail
 refine HC.mono ?_
 rintro e wz ht
 obtain⟨o,h1,h2,h3⟩:=ht.low (C':=w.heap.size) HH.out.1.size
 obtain⟨a,ha⟩:=zAx o
 rw [ha] at h1
 subst h1
 have HT:=oH (oA h2 (oA h3 ha))
 clear ht h2 h3 ha HC
 go_wp2_with fail
 go_ret
 exact⟨o,by rw [HT.out.2.2];rfl,HH.out.1.on HT.out.1,HT.out.2.1⟩
theorem qBd (c:Rc) (hS:Scd c.ts) (B:Nat→Re) (hB:CF c 18 B) (hBm:∀i d j,i≤c.ts.length→B i=.ok d j→i≤j∧j≤c.ts.length) (w:World) (i:Nat) (h:RF c w i false) (hq:isW (tk c.ts i) [73,70]=true) (RES:Re) (hRES:RES≠.out) (hmod:RES=(ifsM c.ts B (c.ts.length+1) [] i).re fun l=>.node (nd 62 (tk c.ts i) [] 0) l) :
  Calls Tryz.prog 35 #[.pointer (some ⟨c.R,0,none⟩)] w (Tl c w.heap.size w RES):=by
 obtain⟨px,py,e1⟩:=zAc (tk c.ts i).2.1.1 (tk c.ts i).2.1.2
 obtain⟨ex,ey,e2⟩:=zAc (tk c.ts i).2.2.1 (tk c.ts i).2.2.2
 have hfd:=zBb
 have HN:=zAo c w i false h px py ex ey e1 e2
 have HX:=oH (oA h (oA hq (oA e1 (oA hRES hmod))))
 have HCON:Hid (∀wh,RF c wh (i+1) false→Calls Tryz.prog 63 #[.pointer (some ⟨c.R,0,none⟩),.complex .f64 px py] wh (Tl c wh.heap.size wh RES)):=oH (fun wh X=>by
  rw [hmod]
  exact zXd c hS B hB hBm wh i c.ts.length (tk c.ts i) px py e1 X _ rfl (zEm (by rw [← hmod];exact hRES)) (zCr hq)
 )
 have HR0:=oH h.lt
 clear h hq e1 e2 hB hRES hmod hS hBm
 generalize ((tk c.ts i).1.k:Int)=t0 at *
 generalize (⟨(tk c.ts i).1.x.toArray⟩:ByteArray)=t3 at *
 generalize (tk c.ts i).1.n=t4 at *
 go_enter Tryz.func35,Tryz.ntmps35
 go_wp2_with fail
 refine HN.mono ?_
 rintro e w0 ⟨rfl,F0⟩
 have FF:=oH F0
 clear F0 HN
 have HK:=zAz c w0 i [73,70] (HX.out.1.keep FF.out) HX.out.2.1
 simp only [pt] at HK
 go_wp2_with fail
 refine HK.mono ?_
 rintro e wh ⟨rfl,F1,X1⟩
 have HH:=oH (oA (FF.out.up0 (N:=[c.R]) |>.on F1) X1)
 clear F1 X1 HK FF
 have HC:=HCON.out wh HH.out.2
 go_wp2_with fail
 refine HC.mono ?_
 rintro e wz ht
 obtain⟨o,h1,h2,h3⟩:=ht.low (C':=w.heap.size) HH.out.1.size
 obtain⟨a,ha⟩:=zAx o
 rw [ha] at h1
 subst h1
 have HT:=oH (oA h2 (oA h3 ha))
 clear ht h2 h3 ha HC
 go_wp2_with fail
 go_ret
 exact⟨o,by rw [HT.out.2.2];rfl,HH.out.1.on HT.out.1,HT.out.2.1⟩
theorem zXh (c:Rc) (hS:Scd c.ts) (B:Nat→Re) (hB:CF c 18 B) (hBm:∀i d j,i≤c.ts.length→B i=.ok d j→i≤j∧j≤c.ts.length) (w:World) (i:Nat) (h:RF c w i false) (hq:isW (tk c.ts i) [70,79,82]=true) (RES:Re) (hRES:RES≠.out) (hmod:RES=forM c.ts B i) :
  Calls Tryz.prog 35 #[.pointer (some ⟨c.R,0,none⟩)] w (Tl c w.heap.size w RES):=by
 obtain⟨px,py,e1⟩:=zAc (tk c.ts i).2.1.1 (tk c.ts i).2.1.2
 obtain⟨ex,ey,e2⟩:=zAc (tk c.ts i).2.2.1 (tk c.ts i).2.2.2
 have hfd:=zBb
 have HN:=zAo c w i false h px py ex ey e1 e2
 have HX:=oH (oA h (oA hq (oA e1 (oA hRES hmod))))
 have HCON:Hid (∀wh,RF c wh (i+1) false→Calls Tryz.prog 67 #[.pointer (some ⟨c.R,0,none⟩),.complex .f64 px py] wh (Tl c wh.heap.size wh RES)):=oH (fun wh X=>by
  by_cases hk:(tk c.ts (i+1)).1.k=1
  ·rw [hmod,zQm c.ts B i hk]
   exact qBc c hS B hB wh (i+1) (tk c.ts i) px py e1 X hk _ rfl (zEm (by rw [← zQm c.ts B i hk,← hmod];exact hRES))
  ·have hb:RES=.bad (i+1):=by rw [hmod];unfold forM;rw [if_neg hk]
   rw [hb]
   exact qBb c wh (i+1) (tk c.ts i) px py e1 X hk
 )
 have HR0:=oH h.lt
 clear h hq e1 e2 hB hRES hmod hS hBm
 generalize ((tk c.ts i).1.k:Int)=t0 at *
 generalize (⟨(tk c.ts i).1.x.toArray⟩:ByteArray)=t3 at *
 generalize (tk c.ts i).1.n=t4 at *
 go_enter Tryz.func35,Tryz.ntmps35
 go_wp2_with fail
 refine HN.mono ?_
 rintro e w0 ⟨rfl,F0⟩
 have FF:=oH F0
 clear F0 HN
 have HK:=zAb c w0 i false [73,70] (HX.out.1.keep FF.out) (by rw [zBd HX.out.2.1 (by decide)];rfl)
 simp only [pt] at HK
 go_wp2_with fail
 refine HK.mono ?_
 rintro e u0 ⟨rfl,F1⟩
 have FG:=oH (FF.out.on F1)
 clear F1 HK FF
 have FF:=FG
 clear FG
 have HK:=zAb c u0 i false [67,65,83,69] (HX.out.1.keep FF.out) (by rw [zBd HX.out.2.1 (by decide)];rfl)
 simp only [pt] at HK
 go_wp2_with fail
 refine HK.mono ?_
 rintro e u1 ⟨rfl,F1⟩
 have FG:=oH (FF.out.on F1)
 clear F1 HK FF
 have FF:=FG
 clear FG
 have HK:=zAb c u1 i false [87,72,73,76,69] (HX.out.1.keep FF.out) (by rw [zBd HX.out.2.1 (by decide)];rfl)
 simp only [pt] at HK
 go_wp2_with fail
 refine HK.mono ?_
 rintro e u2 ⟨rfl,F1⟩
 have FG:=oH (FF.out.on F1)
 clear F1 HK FF
 have FF:=FG
 clear FG
 have HK:=zAb c u2 i false [82,69,80,69,65,84] (HX.out.1.keep FF.out) (by rw [zBd HX.out.2.1 (by decide)];rfl)
 simp only [pt] at HK
 go_wp2_with fail
 refine HK.mono ?_
 rintro e u3 ⟨rfl,F1⟩
 have FG:=oH (FF.out.on F1)
 clear F1 HK FF
 have FF:=FG
 clear FG
 have HK:=zAb c u3 i false [76,79,79,80] (HX.out.1.keep FF.out) (by rw [zBd HX.out.2.1 (by decide)];rfl)
 simp only [pt] at HK
 go_wp2_with fail
 refine HK.mono ?_
 rintro e u4 ⟨rfl,F1⟩
 have FG:=oH (FF.out.on F1)
 clear F1 HK FF
 have FF:=FG
 clear FG
 have HK:=zAb c u4 i false [69,88,73,84] (HX.out.1.keep FF.out) (by rw [zBd HX.out.2.1 (by decide)];rfl)
 simp only [pt] at HK
 go_wp2_with fail
 refine HK.mono ?_
 rintro e u5 ⟨rfl,F1⟩
 have FG:=oH (FF.out.on F1)
 clear F1 HK FF
 have FF:=FG
 clear FG
 have HK:=zAz c u5 i [70,79,82] (HX.out.1.keep FF.out) HX.out.2.1
 simp only [pt] at HK
 go_wp2_with fail
 refine HK.mono ?_
 rintro e wh ⟨rfl,F1,X1⟩
 have HH:=oH (oA (FF.out.up0 (N:=[c.R]) |>.on F1) X1)
 clear F1 X1 HK FF
 have HC:=HCON.out wh HH.out.2
 go_wp2_with fail
 refine HC.mono ?_
 rintro e wz ht
 obtain⟨o,h1,h2,h3⟩:=ht.low (C':=w.heap.size) HH.out.1.size
 obtain⟨a,ha⟩:=zAx o
 rw [ha] at h1
 subst h1
 have HT:=oH (oA h2 (oA h3 ha))
 clear ht h2 h3 ha HC
 go_wp2_with fail
 go_ret
 exact⟨o,by rw [HT.out.2.2];rfl,HH.out.1.on HT.out.1,HT.out.2.1⟩
end Go.Proofs.YtepfknfadpkigaaGreat
end
section
namespace Go.Proofs.YtepfknfadpkigaaGreat
open Go.RowKit
set_option maxHeartbeats 4000000
set_option maxRecDepth 100000
theorem qBe {C p:Nat} {d:ND} {w5 w6:World} {v:Value} {ts:List Tr} (h:KJ C p d w5 v ts) (t:Tr) (ht:IsT w5 (fun q=>C≤q∧q≠p∧q ∉ obL v) t) (c:Obj) (g cap:Nat) (hC:C≤w5.heap.size)
  (hown:w6.ownsRow 0 26 1 (.slice (some ⟨g,0,none⟩) (ts.length+1) cap) (ts.length+1) ((ts.map Tr.p).map ptrV++[ptrV t.p])) (hgrow:(w5.alloc c).grownBy w6 v.ownBlock) (hat:v.ownBlock=some g∨g=w5.heap.size+1) :
  KJ C p d (w6.setCell ⟨p,4,none⟩ (.slice (some ⟨g,0,none⟩) (ts.length+1) cap)) (.slice (some ⟨g,0,none⟩) (ts.length+1) cap) (ts++[t]):=by
 have F12:Fr (obL v) w5 w6:=((Fr.alloc w5 c).up0).on (Fr.of_grown hgrow)
 have F3:=Fr.set w6 p 4 (.slice (some ⟨g,0,none⟩) (ts.length+1) cap)
 have hpv:=zBe h.r h.n
 have n3:w6.heap[p]?=some (nodeO d v):=(F12.block p (zAd h.n) hpv).trans h.n
 have hvold:∀j ∈ obL v,C≤j∧j < w5.heap.size:=fun j hj=>h.r.base j hj
 have hgw:C≤g∧(g ∈ obL v∨w5.heap.size≤g):=by
  rcases hat with h1 | h1
  ·have:=(zBc v g).2 h1
   exact⟨(hvold g this).1,.inl this⟩
  ·exact⟨by omega,.inr (by omega)⟩
 have hR3:Row w6 (C≤·) (.slice (some ⟨g,0,none⟩) (ts.length+1) cap) ((ts++[t]).map Tr.p):=by
  refine⟨?_,fun k hk=>?_⟩
  ·have e1:((ts++[t]).map Tr.p).length=ts.length+1:=by simp
   have e2:((ts++[t]).map Tr.p).map ptrV=(ts.map Tr.p).map ptrV++[ptrV t.p]:=by simp
   rw [e1,e2]
   exact hown
  ·obtain rfl:g=k:=by simpa [Value.ownBlock] using hk
   exact hgw.1
 have hpg:p ∉ obL (.slice (some ⟨g,0,none⟩) (ts.length+1) cap):=zBe hR3 n3
 have hob:∀j,j ∈ obL (.slice (some ⟨g,0,none⟩) (ts.length+1) cap)→j=g:=fun j hj=>by simpa [obL,Value.ownBlock] using hj
 have F123:Fr (p::obL v) w5 (w6.setCell ⟨p,4,none⟩ (.slice (some ⟨g,0,none⟩) (ts.length+1) cap)):=(F12.mono (fun j hj=>List.mem_cons_of_mem _ hj)).trans F3 (fun j hj=>.inl (by
  obtain rfl:j=p:=by simpa using hj
  exact List.mem_cons_self))
 refine⟨by simp [World.setCell,Array.getElem?_modify,n3,nodeO],hR3.frame F3 (fun j hj hm=>?_),?_,h.hp⟩
 ·obtain rfl:j=p:=by simpa using hm
  exact hpg hj
 ·refine IsTL.of fun u hu=>?_
  have q1:∀j,(C≤j∧j≠p∧j ∉ obL v)→j < w5.heap.size→(C≤j∧j≠p∧j ∉ obL (.slice (some ⟨g,0,none⟩) (ts.length+1) cap)):=fun j hj hl=>⟨hj.1,hj.2.1,fun hm=>by
   have e:=hob j hm
   subst e
   rcases hgw.2 with h1 | h1
   ·exact hj.2.2 h1
   ·omega⟩
  have q2:∀j,(C≤j∧j≠p∧j ∉ obL v)→j < w5.heap.size→(w6.setCell ⟨p,4,none⟩ (.slice (some ⟨g,0,none⟩) (ts.length+1) cap)).heap[j]?=w5.heap[j]?:=fun j hj hl=>F123.block j hl (fun hm=>by
   rcases List.mem_cons.1 hm with e | hm
   ·exact hj.2.1 e
   ·exact hj.2.2 hm)
  rcases List.mem_append.1 hu with hu | hu
  ·exact(h.k.at u hu).keep q1 q2
  ·obtain rfl:u=t:=by simpa using hu
   exact ht.keep q1 q2
theorem zIm {c:Rc} {w0 w:World} {j:Nat} (d:ND) (F:Fr [c.R] w0 w) (h:RF c w j false):SN c w0 d w.heap.size (.ok [] j) 0 (w.alloc (nodeO d (.slice none 0 0))) (.slice none 0 0) 0 []:=by
 have FA:=Fr.alloc w (nodeO d (.slice none 0 0))
 exact⟨F.on0 FA,F.size,heap_alloc_new _ _,World.ownsRow_nil _ _ _ _,Nat.le_refl _,by simp [obL,Value.ownBlock],.inl ⟨[],j,[],rfl,h.keep FA,⟨heap_alloc_new _ _,⟨World.ownsRow_nil _ _ _ _,fun g hg=>by cases hg⟩,IsTL.of (by simp),F.size⟩,rfl,rfl,rfl⟩⟩
theorem zXi {c:Rc} {w0 w:World} {j:Nat} (d:ND) (F:Fr [c.R] w0 w) (h:RF c w j true):SN c w0 d w.heap.size (.bad j) 0 (w.alloc (nodeO d (.slice none 0 0))) (.slice none 0 0) 0 []:=by
 have FA:=Fr.alloc w (nodeO d (.slice none 0 0))
 exact⟨F.on0 FA,F.size,heap_alloc_new _ _,World.ownsRow_nil _ _ _ _,Nat.le_refl _,by simp [obL,Value.ownBlock],.inr ⟨j,rfl,h.keep FA⟩⟩
end Go.Proofs.YtepfknfadpkigaaGreat
end
