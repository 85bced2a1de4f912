/- Several texts in one. -/
import Derived.Test.YtepfknfadpkigaaGreatPkAA
import Derived.Test.YtepfknfadpkigaaGreatPkAX
set_option linter.unusedVariables false
set_option linter.unusedSimpArgs false
section
namespace Go.Proofs.YtepfknfadpkigaaGreat
open Go.RowKit
set_option maxHeartbeats 2000000
set_option maxRecDepth 100000
structure KJ (C:Nat) (p:Nat) (d:ND) (w:World) (v:Value) (ts:List Tr):Prop where
 n:w.heap[p]?=some (nodeO d v)
 r:Row w (C≤·) v (ts.map Tr.p)
 k:IsTL w (fun j=>C≤j∧j≠p∧j ∉ obL v) ts
 hp:C≤p
theorem KJ.tree {C p:Nat} {d:ND} {w:World} {v:Value} {ts:List Tr} (h:KJ C p d w v ts):IsT w (C≤·) (.node p d ts) :=
 ⟨h.hp,⟨v,h.n,h.r⟩,h.k.keep (fun j hj _=>hj.1) (fun _ _ _=>rfl)⟩
theorem KJ.fr {C p:Nat} {d:ND} {w w':World} {v:Value} {ts:List Tr} {N:List Nat} (h:KJ C p d w v ts) (F:Fr N w w') (hN:∀j ∈ N,j < C):KJ C p d w' v ts :=
 have hb:∀j,C≤j→j < w.heap.size→w'.heap[j]?=w.heap[j]?:=fun j hj hl=>F.block j hl (fun hm=>by have:=hN j hm;omega)
 ⟨(hb p h.hp (zAd h.n)).trans h.n,h.r.keep (fun _ h _=>h) (fun j hj hl=>hb j hj hl),h.k.keep (fun _ h _=>h) (fun j hj hl=>hb j hj.1 hl),h.hp⟩
theorem KJ.on {C p:Nat} {d:ND} {w4 w5 w6:World} {v:Value} {ts:List Tr} {N:List Nat} (h:KJ C p d w4 v ts) (F:Fr N w4 w5) (hN:∀j ∈ N,j < C) (hC:C≤w4.heap.size)
  (t:Tr) (ht:IsT w5 (w4.heap.size≤·) t) (c:Obj) (g cap:Nat)
  (hown:w6.ownsRow 0 26 1 (.slice (some ⟨g,0,none⟩) (ts.length+1) cap) (ts.length+1) ((ts.map Tr.p).map ptrV++[ptrV t.p])) (hgrow:(w5.alloc c).grownBy w6 v.ownBlock) (hat:v.ownBlock=some g∨g=w5.heap.size+1) :
  KJ C p d (w6.setCell ⟨p,4,none⟩ (.slice (some ⟨g,0,none⟩) (ts.length+1) cap)) (.slice (some ⟨g,0,none⟩) (ts.length+1) cap) (ts++[t]):=by
 have h5:=h.fr F hN
 have F1:=Fr.alloc w5 c
 have F2:=Fr.of_grown hgrow
 have F12:Fr (obL v) w5 w6:=(F1.mono (by simp)).trans F2 (fun j hj=>.inl hj)
 have F3:=Fr.set w6 p 4 (.slice (some ⟨g,0,none⟩) (ts.length+1) cap)
 have hpv:=zBe h5.r h5.n
 have n3:w6.heap[p]?=some (nodeO d v):=(F12.block p (zAd h5.n) hpv).trans h5.n
 have hvold:∀j ∈ obL v,C≤j∧j < w4.heap.size:=fun j hj=>h.r.base j hj
 have hs45:=F.size
 have hgw:C≤g∧(g ∈ obL v∨w5.heap.size≤g):=by
  rcases hat with h1 | h1
  ·have:=(zBc v g).2 h1
   exact⟨(hvold g this).1,.inl this⟩
  ·exact⟨by omega,.inr (by omega)⟩
 have hR3:Row w6 (C≤·) (.slice (some ⟨g,0,none⟩) (ts.length+1) cap) ((ts++[t]).map Tr.p):=by
  refine⟨?_,fun k hk=>?_⟩
  ·have e1:((ts++[t]).map Tr.p).length=ts.length+1:=by simp
   have e2:((ts++[t]).map Tr.p).map ptrV=(ts.map Tr.p).map ptrV++[ptrV t.p]:=by simp
   rw [e1,e2]
   exact hown
  ·obtain rfl:g=k:=by simpa [Value.ownBlock] using hk
   exact hgw.1
 have hpg:p ∉ obL (.slice (some ⟨g,0,none⟩) (ts.length+1) cap):=zBe hR3 n3
 have hob:∀j,j ∈ obL (.slice (some ⟨g,0,none⟩) (ts.length+1) cap)→j=g:=fun j hj=>by simpa [obL,Value.ownBlock] using hj
 have F123:Fr (p::obL v) w5 (w6.setCell ⟨p,4,none⟩ (.slice (some ⟨g,0,none⟩) (ts.length+1) cap)):=(F12.mono (fun j hj=>List.mem_cons_of_mem _ hj)).trans F3 (fun j hj=>.inl (by
  obtain rfl:j=p:=by simpa using hj
  exact List.mem_cons_self))
 have hpn4:p < w4.heap.size:=zAd h.n
 refine⟨by simp [World.setCell,Array.getElem?_modify,n3,nodeO],hR3.frame F3 (fun j hj hm=>?_),?_,h.hp⟩
 ·obtain rfl:j=p:=by simpa using hm
  exact hpg hj
 ·refine IsTL.of fun u hu=>?_
  rcases List.mem_append.1 hu with hu | hu
  ·have q1:∀j,(C≤j∧j≠p∧j ∉ obL v)→j < w5.heap.size→(C≤j∧j≠p∧j ∉ obL (.slice (some ⟨g,0,none⟩) (ts.length+1) cap)):=fun j hj hl=>⟨hj.1,hj.2.1,fun hm=>by
    have e:=hob j hm
    subst e
    rcases hgw.2 with h1 | h1
    ·exact hj.2.2 h1
    ·omega⟩
   have q2:∀j,(C≤j∧j≠p∧j ∉ obL v)→j < w5.heap.size→(w6.setCell ⟨p,4,none⟩ (.slice (some ⟨g,0,none⟩) (ts.length+1) cap)).heap[j]?=w5.heap[j]?:=fun j hj hl=>F123.block j hl (fun hm=>by
    rcases List.mem_cons.1 hm with e | hm
    ·exact hj.2.1 e
    ·exact hj.2.2 hm)
   exact(h5.k.at u hu).keep q1 q2
  ·obtain rfl:u=t:=by simpa using hu
   have q1:∀j,w4.heap.size≤j→j < w5.heap.size→(C≤j∧j≠p∧j ∉ obL (.slice (some ⟨g,0,none⟩) (ts.length+1) cap)):=fun j hj hl=>⟨by omega,by omega,fun hm=>by
    have e:=hob j hm
    subst e
    rcases hgw.2 with h1 | h1
    ·have:=(hvold j h1).2;omega
    ·omega⟩
   have q2:∀j,w4.heap.size≤j→j < w5.heap.size→(w6.setCell ⟨p,4,none⟩ (.slice (some ⟨g,0,none⟩) (ts.length+1) cap)).heap[j]?=w5.heap[j]?:=fun j hj hl=>F123.block j hl (fun hm=>by
    rcases List.mem_cons.1 hm with e | hm
    ·omega
    ·have:=(hvold j hm).2;omega)
   exact ht.keep q1 q2
theorem zHe {p:Nat} {w5 w6:World} {v:Value} {c:Obj} (hgrow:(w5.alloc c).grownBy w6 v.ownBlock) (u:Value):Fr (p::obL v) w5 (w6.setCell ⟨p,4,none⟩ u) :=
 ((((Fr.alloc w5 c).mono (by simp)).trans (Fr.of_grown hgrow) (fun j hj=>.inl hj):Fr (obL v) w5 w6).mono (fun j hj=>List.mem_cons_of_mem _ hj)).trans (Fr.set w6 p 4 u) (fun j hj=>.inl (by
  obtain rfl:j=p:=by simpa using hj
  exact List.mem_cons_self))
def Tl (c:Rc) (C:Nat) (w:World) (res:Re) (e:Ending) (w':World):Prop :=
 ∃o:Option Nat,e=.returned (encP o)∧Fr [c.R] w w' ∧
  ((∃d j u,res=.ok d j∧o=some u.p∧RF c w' j false∧IsT w' (C≤·) u∧u.dt=d)∨∃j,res=.bad j∧RF c w' j true)
theorem Tl.low {c:Rc} {C C':Nat} {w:World} {res:Re} {e:Ending} {w':World} (h:Tl c C w res e w') (hC:C'≤C):Tl c C' w res e w':=by
 obtain⟨o,h1,h2,⟨d,j,u,a,b,x,y,z⟩ | h3⟩:=h
 ·exact⟨o,h1,h2,.inl ⟨d,j,u,a,b,x,y.keep (fun j hj _=>Nat.le_trans hC hj) (fun _ _ _=>rfl),z⟩⟩
 ·exact⟨o,h1,h2,.inr h3⟩
def NoV (w:World) (d:ND) (os:List Nat) (e:Ending) (w':World):Prop :=
 ∃p v,e=.returned (ptrV p)∧Fr [] w w'∧w.heap.size≤p∧w'.heap[p]?=some (nodeO d v)∧Row w' (w.heap.size≤·) v os
theorem NoV.kj {w:World} {d:ND} {ts:List Tr} {e:Ending} {w':World} (h:NoV w d (ts.map Tr.p) e w') {C:Nat} (hC:C≤w.heap.size) (hT:∀t ∈ ts,IsT w (C≤·) t) :
  ∃p v,e=.returned (ptrV p)∧Fr [] w w'∧w.heap.size≤p∧KJ C p d w' v ts:=by
 obtain⟨p,v,rfl,F,hp,hn,hr⟩:=h
 refine⟨p,v,rfl,F,hp,hn,hr.keep (fun j hj _=>Nat.le_trans hC hj) (fun _ _ _=>rfl),IsTL.of fun t ht=>(hT t ht).keep (fun j hj hl=>⟨hj,by omega,fun hm=>?_⟩) (fun j _ hl=>F.block j hl (by simp)),Nat.le_trans hC hp⟩
 have:=(hr.base j hm).1
 omega
theorem zQa (w:World) (d:ND) (hd:d.n=0) :
  Calls Tryz.prog 101 #[.int .u8 d.k,posV d.l d.c,.string ⟨d.x.toArray⟩,encP none,encP none] w (NoV w d []):=by
 obtain⟨i0,hi,hz0,hz1,hz2⟩:=info_parts infoP
 obtain⟨px,py,hpx⟩:=zAc d.l d.c
 have HND:Hid (∀v,nodeO d v=.cells #[.int .u8 d.k,.complex .f64 px py,.string ⟨d.x.toArray⟩,.int .i64 0,v] 40 (0,0)):=oH (fun v=>by unfold nodeO;rw [hpx,hd])
 rw [hpx]
 generalize (d.k:Int)=dk at *
 generalize (⟨d.x.toArray⟩:ByteArray)=dx at *
 clear hpx hd
 simp only [encP]
 go_enter Tryz.func101,Tryz.ntmps101
 go_wp2_with fail
 go_ret
 refine⟨w.heap.size,.slice none 0 0,rfl,Fr.alloc _ _,Nat.le_refl _,?_,⟨World.ownsRow_nil _ _ _ _,fun g hg=>(by cases hg)⟩⟩
 rw [HND.out]
 exact heap_alloc_new _ _
theorem zIb {w0 w3 w6:World} {d:ND} {p g cap:Nat} {v:Value} {os:List Nat} {q:Nat} {c:Obj} (hF:Fr [] w0 w3) (hp:w0.heap.size≤p) (hn:w3.heap[p]?=some (nodeO d v)) (hr:Row w3 (w0.heap.size≤·) v os)
  (hown:w6.ownsRow 0 26 1 (.slice (some ⟨g,0,none⟩) (os.length+1) cap) (os.length+1) (os.map ptrV++[ptrV q])) (hgrow:(w3.alloc c).grownBy w6 v.ownBlock) (hat:v.ownBlock=some g∨g=w3.heap.size+1) :
  Fr [] w0 (w6.setCell ⟨p,4,none⟩ (.slice (some ⟨g,0,none⟩) (os.length+1) cap))∧(w6.setCell ⟨p,4,none⟩ (.slice (some ⟨g,0,none⟩) (os.length+1) cap)).heap[p]?=some (nodeO d (.slice (some ⟨g,0,none⟩) (os.length+1) cap))∧Row (w6.setCell ⟨p,4,none⟩ (.slice (some ⟨g,0,none⟩) (os.length+1) cap)) (w0.heap.size≤·) (.slice (some ⟨g,0,none⟩) (os.length+1) cap) (os++[q])∧NodeAt w6 p d v:=by
 have F12:Fr (obL v) w3 w6:=((Fr.alloc w3 c).mono (by simp)).trans (Fr.of_grown hgrow) (fun j hj=>.inl hj)
 have F3:=Fr.set w6 p 4 (.slice (some ⟨g,0,none⟩) (os.length+1) cap)
 have hpv:=zBe hr hn
 have n3:w6.heap[p]?=some (nodeO d v):=(F12.block p (zAd hn) hpv).trans hn
 have hs:=hF.size
 have hR3:Row w6 (w0.heap.size≤·) (.slice (some ⟨g,0,none⟩) (os.length+1) cap) (os++[q]):=by
  refine⟨?_,fun k hk=>?_⟩
  ·have e1:(os++[q]).length=os.length+1:=by simp
   have e2:(os++[q]).map ptrV=os.map ptrV++[ptrV q]:=by simp
   rw [e1,e2]
   exact hown
  ·obtain rfl:g=k:=by simpa [Value.ownBlock] using hk
   rcases hat with h1 | h1
   ·exact hr.2 g h1
   ·show w0.heap.size≤g
    omega
 have hpg:p ∉ obL (.slice (some ⟨g,0,none⟩) (os.length+1) cap):=zBe hR3 n3
 refine⟨hF.trans (zHe hgrow _) (fun j hj=>.inr ?_),by simp [World.setCell,Array.getElem?_modify,n3,nodeO],hR3.frame F3 (fun j hj hm=>?_),⟨n3⟩⟩
 ·rcases List.mem_cons.1 hj with rfl | hj
  ·exact hp
  ·exact(hr.base j hj).1
 ·obtain rfl:j=p:=by simpa using hm
  exact hpg hj
theorem zWk (w:World) (d:ND) (hd:d.n=0) (a:Nat) :
  Calls Tryz.prog 101 #[.int .u8 d.k,posV d.l d.c,.string ⟨d.x.toArray⟩,encP (some a),encP none] w (NoV w d [a]):=by
 obtain⟨i0,hi,hz0,hz1,hz2⟩:=info_parts infoP
 obtain⟨px,py,hpx⟩:=zAc d.l d.c
 have HND:Hid (∀v,nodeO d v=.cells #[.int .u8 d.k,.complex .f64 px py,.string ⟨d.x.toArray⟩,.int .i64 0,v] 40 (0,0)):=oH (fun v=>by unfold nodeO;rw [hpx,hd])
 rw [hpx]
 generalize (d.k:Int)=dk at *
 generalize (⟨d.x.toArray⟩:ByteArray)=dx at *
 clear hpx hd
 obtain⟨w1,hw1⟩:∃w1,w.alloc (.cells #[.int .u8 dk,.complex .f64 px py,.string dx,.int .i64 0,.slice none 0 0] 40)=w1:=⟨_,rfl⟩
 have F1:Fr [] w w1:=by rw [← hw1];exact Fr.alloc _ _
 have n1:w1.heap[w.heap.size]?=some (nodeO d (.slice none 0 0)):=by rw [← hw1,HND.out];exact heap_alloc_new _ _
 have r1:Row w1 (w.heap.size≤·) (.slice none 0 0) []:=⟨World.ownsRow_nil _ _ _ _,fun g hg=>(by cases hg)⟩
 have c4:=(NodeAt.mk n1).c4
 have f4:=(NodeAt.mk n1).f 4
 have hsr:=r1.1.alloc (.cells #[ptrV a] 26)
 have H1:=oH (oA F1 (oA n1 r1))
 simp only [encP,ptrV] at hsr ⊢
 clear F1 n1 r1
 go_enter Tryz.func101,Tryz.ntmps101
 go_upto_region 2 with fail
 try rw [hw1]
 clear hw1
 go_wp2_with (at_builtin;refine wpList_append_lies _ rfl _ _ 38 rfl 0 26 i0 _ 1 8 Tryz.underlying38 hi hz0 hz1 hz2 rfl (by decide) (.slice none 0 0) 0 [] rfl hsr ⟨w1.heap.size,0,none⟩ 1 1 [.pointer (some ⟨a,0,none⟩)] rfl rfl (new1 w1 (.pointer (some ⟨a,0,none⟩)) 26) (one1 a) (by decide) (by unfold maxLen;omega) (by omega) (by simp <;> omega) (w1.heap.size+1) (by simp) ?_)
 intro g cap w6 hown hgrow hat hlt6
 obtain⟨q1,q2,q3,q4⟩:=zIb (os:=[]) (q:=a) H1.out.1 (Nat.le_refl _) H1.out.2.1 H1.out.2.2 (by simpa [ptrV] using hown) hgrow hat
 have c5:=q4.c4
 have f5:=q4.f 4
 have HQ:=oH (oA q1 (oA q2 q3))
 clear q1 q2 q3 q4 hown hgrow hat hsr
 go_wp2_with fail
 go_ret
 exact⟨w.heap.size,_,rfl,HQ.out.1,Nat.le_refl _,HQ.out.2.1,HQ.out.2.2⟩
theorem zWl (w:World) (d:ND) (hd:d.n=0) (a:Nat) :
  Calls Tryz.prog 101 #[.int .u8 d.k,posV d.l d.c,.string ⟨d.x.toArray⟩,encP none,encP (some a)] w (NoV w d [a]):=by
 obtain⟨i0,hi,hz0,hz1,hz2⟩:=info_parts infoP
 obtain⟨px,py,hpx⟩:=zAc d.l d.c
 have HND:Hid (∀v,nodeO d v=.cells #[.int .u8 d.k,.complex .f64 px py,.string ⟨d.x.toArray⟩,.int .i64 0,v] 40 (0,0)):=oH (fun v=>by unfold nodeO;rw [hpx,hd])
 rw [hpx]
 generalize (d.k:Int)=dk at *
 generalize (⟨d.x.toArray⟩:ByteArray)=dx at *
 clear hpx hd
 obtain⟨w1,hw1⟩:∃w1,w.alloc (.cells #[.int .u8 dk,.complex .f64 px py,.string dx,.int .i64 0,.slice none 0 0] 40)=w1:=⟨_,rfl⟩
 have F1:Fr [] w w1:=by rw [← hw1];exact Fr.alloc _ _
 have n1:w1.heap[w.heap.size]?=some (nodeO d (.slice none 0 0)):=by rw [← hw1,HND.out];exact heap_alloc_new _ _
 have r1:Row w1 (w.heap.size≤·) (.slice none 0 0) []:=⟨World.ownsRow_nil _ _ _ _,fun g hg=>(by cases hg)⟩
 have c4:=(NodeAt.mk n1).c4
 have f4:=(NodeAt.mk n1).f 4
 have hsr:=r1.1.alloc (.cells #[ptrV a] 26)
 have H1:=oH (oA F1 (oA n1 r1))
 simp only [encP,ptrV] at hsr ⊢
 clear F1 n1 r1
 go_enter Tryz.func101,Tryz.ntmps101
 go_upto_region 2 with fail
 try rw [hw1]
 clear hw1
 go_wp2_with (at_builtin;refine wpList_append_lies _ rfl _ _ 38 rfl 0 26 i0 _ 1 8 Tryz.underlying38 hi hz0 hz1 hz2 rfl (by decide) (.slice none 0 0) 0 [] rfl hsr ⟨w1.heap.size,0,none⟩ 1 1 [.pointer (some ⟨a,0,none⟩)] rfl rfl (new1 w1 (.pointer (some ⟨a,0,none⟩)) 26) (one1 a) (by decide) (by unfold maxLen;omega) (by omega) (by simp <;> omega) (w1.heap.size+1) (by simp) ?_)
 intro g cap w6 hown hgrow hat hlt6
 obtain⟨q1,q2,q3,q4⟩:=zIb (os:=[]) (q:=a) H1.out.1 (Nat.le_refl _) H1.out.2.1 H1.out.2.2 (by simpa [ptrV] using hown) hgrow hat
 have c5:=q4.c4
 have f5:=q4.f 4
 have HQ:=oH (oA q1 (oA q2 q3))
 clear q1 q2 q3 q4 hown hgrow hat hsr
 go_wp2_with fail
 go_ret
 exact⟨w.heap.size,_,rfl,HQ.out.1,Nat.le_refl _,HQ.out.2.1,HQ.out.2.2⟩
theorem zWm (w:World) (d:ND) (hd:d.n=0) (a b:Nat) :
  Calls Tryz.prog 101 #[.int .u8 d.k,posV d.l d.c,.string ⟨d.x.toArray⟩,encP (some a),encP (some b)] w (NoV w d [a,b]):=by
 obtain⟨i0,hi,hz0,hz1,hz2⟩:=info_parts infoP
 obtain⟨px,py,hpx⟩:=zAc d.l d.c
 have HND:Hid (∀v,nodeO d v=.cells #[.int .u8 d.k,.complex .f64 px py,.string ⟨d.x.toArray⟩,.int .i64 0,v] 40 (0,0)):=oH (fun v=>by unfold nodeO;rw [hpx,hd])
 rw [hpx]
 generalize (d.k:Int)=dk at *
 generalize (⟨d.x.toArray⟩:ByteArray)=dx at *
 clear hpx hd
 obtain⟨w1,hw1⟩:∃w1,w.alloc (.cells #[.int .u8 dk,.complex .f64 px py,.string dx,.int .i64 0,.slice none 0 0] 40)=w1:=⟨_,rfl⟩
 have F1:Fr [] w w1:=by rw [← hw1];exact Fr.alloc _ _
 have n1:w1.heap[w.heap.size]?=some (nodeO d (.slice none 0 0)):=by rw [← hw1,HND.out];exact heap_alloc_new _ _
 have r1:Row w1 (w.heap.size≤·) (.slice none 0 0) []:=⟨World.ownsRow_nil _ _ _ _,fun g hg=>(by cases hg)⟩
 have c4:=(NodeAt.mk n1).c4
 have f4:=(NodeAt.mk n1).f 4
 have hsr:=r1.1.alloc (.cells #[ptrV a] 26)
 have H1:=oH (oA F1 (oA n1 r1))
 simp only [encP,ptrV] at hsr ⊢
 clear F1 n1 r1
 go_enter Tryz.func101,Tryz.ntmps101
 go_upto_region 2 with fail
 try rw [hw1]
 clear hw1
 go_wp2_with (at_builtin;refine wpList_append_lies _ rfl _ _ 38 rfl 0 26 i0 _ 1 8 Tryz.underlying38 hi hz0 hz1 hz2 rfl (by decide) (.slice none 0 0) 0 [] rfl hsr ⟨w1.heap.size,0,none⟩ 1 1 [.pointer (some ⟨a,0,none⟩)] rfl rfl (new1 w1 (.pointer (some ⟨a,0,none⟩)) 26) (one1 a) (by decide) (by unfold maxLen;omega) (by omega) (by simp <;> omega) (w1.heap.size+1) (by simp) ?_)
 intro g cap w6 hown hgrow hat hlt6
 obtain⟨q1,q2,q3,q4⟩:=zIb (os:=[]) (q:=a) H1.out.1 (Nat.le_refl _) H1.out.2.1 H1.out.2.2 (by simpa [ptrV] using hown) hgrow hat
 have c5:=q4.c4
 have f5:=q4.f 4
 have HQ:=oH (oA q1 (oA q2 q3))
 clear q1 q2 q3 q4 hown hgrow hat hsr c4 f4
 go_upto_region 4 with fail
 simp only [List.length_nil,Nat.zero_add] at HQ
 obtain⟨w7,hw7⟩:∃w7,w6.setCell ⟨w.heap.size,4,none⟩ (.slice (some ⟨g,0,none⟩) 1 cap)=w7:=⟨_,rfl⟩
 rw [hw7] at HQ
 try rw [hw7]
 have c4:=(NodeAt.mk HQ.out.2.1).c4
 have f4:=(NodeAt.mk HQ.out.2.1).f 4
 have hsr:=HQ.out.2.2.1.alloc (.cells #[ptrV b] 26)
 simp only [List.nil_append,List.length_cons,List.length_nil,List.map_cons,List.map_nil,ptrV] at hsr
 have s7:=HQ.out.1.size
 clear c5 f5 hw7
 go_wp2_with (at_builtin;refine wpList_append_lies _ rfl _ _ 38 rfl 0 26 i0 _ 1 8 Tryz.underlying38 hi hz0 hz1 hz2 rfl (by decide) (.slice (some ⟨g,0,none⟩) 1 cap) 1 [.pointer (some ⟨a,0,none⟩)] rfl hsr ⟨w7.heap.size,0,none⟩ 1 1 [.pointer (some ⟨b,0,none⟩)] rfl rfl (new1 w7 (.pointer (some ⟨b,0,none⟩)) 26) (one1 b) (by decide) (by unfold maxLen;omega) (by omega) (by simp <;> omega) (w7.heap.size+1) (by simp) ?_)
 intro g2 cap2 w8 hown hgrow hat hlt8
 obtain⟨q1,q2,q3,q4⟩:=zIb (os:=[a]) (q:=b) HQ.out.1 (Nat.le_refl _) HQ.out.2.1 HQ.out.2.2 (by simpa [ptrV] using hown) hgrow hat
 have c5:=q4.c4
 have f5:=q4.f 4
 have HQ2:=oH (oA q1 (oA q2 q3))
 clear q1 q2 q3 q4 hown hgrow hat hsr c4 f4
 go_wp2_with fail
 go_ret
 exact⟨w.heap.size,_,rfl,HQ2.out.1,Nat.le_refl _,HQ2.out.2.1,HQ2.out.2.2⟩
theorem zQb (w:World) (d:ND) (hd:d.n=0) (a b:Option Nat) :
  Calls Tryz.prog 101 #[.int .u8 d.k,posV d.l d.c,.string ⟨d.x.toArray⟩,encP a,encP b] w (NoV w d (a.toList++b.toList)):=by
 cases a with
 | none=>cases b with
  | none=>exact zQa w d hd
  | some b=>exact zWl w d hd b
 | some a=>cases b with
  | none=>exact zWk w d hd a
  | some b=>exact zWm w d hd a b
def nameD (t:TK):ND:=nd 1 t t.1.x 0
theorem zIc (c:Rc) (w:World) (i:Nat) (h:RF c w i false) (hk:(tk c.ts i).1.k=1) :
  Calls Tryz.prog 102 #[pt c.R] w fun e w'=>∃p v,e=.returned (ptrV p)∧Fr [c.R] w w'∧RF c w' (i+1) false∧w.heap.size≤p∧KJ w.heap.size p (nameD (tk c.ts i)) w' v []:=by
 have hsc:=fun w a x y m=>zAg (P:=Tryz.prog) w a .f64 x y m
 have hle:=h.le
 have hw1:wrap64 ((i:Int)+1)=(i:Int)+1:=w64 _ (by omega) (by omega)
 have HH:=zDj c w i false h
 have HNO:=fun w=>zQa w (nameD (tk c.ts i)) rfl
 obtain⟨x1,y1,e1⟩:=zAc (tk c.ts i).2.1.1 (tk c.ts i).2.1.2
 obtain⟨x2,y2,e2⟩:=zAc (tk c.ts i).2.2.1 (tk c.ts i).2.2.2
 unfold tkV at HH
 rw [e1,e2] at HH
 have hkd:(nameD (tk c.ts i)).k=1:=rfl
 have hpd:posV (nameD (tk c.ts i)).l (nameD (tk c.ts i)).c=.complex .f64 x1 y1:=e1
 have hxd:(nameD (tk c.ts i)).x=(tk c.ts i).1.x:=rfl
 rw [hkd,hpd,hxd] at HNO
 rw [hk] at HH
 have HT:=oH (oA h (zKa hk))
 clear h e1 e2 hkd hpd hxd hk
 generalize (⟨(tk c.ts i).1.x.toArray⟩:ByteArray)=t3 at *
 generalize (tk c.ts i).1.n=t4 at *
 have HNH:=oH HNO
 clear HNO
 simp only [pt,encP] at HH HNH ⊢
 go_enter Tryz.func102,Tryz.ntmps102
 go_wp2_with fail
 refine HH.mono ?_
 rintro e w2 ⟨rfl,F2⟩
 clear HH
 go_upto_region 2 with fail
 obtain⟨w3,hw3⟩:∃w3,w2.alloc (.cells #[.int .u8 1,.complex .f64 x1 y1,.complex .f64 x2 y2,.string t3,.int .i64 t4] 71)=w3:=⟨_,rfl⟩
 have F3:Fr [] w2 w3:=by rw [← hw3];exact Fr.alloc _ _
 have T3:Fv w3 w2.heap.size (.int .u8 1) (.complex .f64 x1 y1) (.complex .f64 x2 y2) (.string t3) (.int .i64 t4):=by rw [← hw3];exact Fv.new _ _ _ _ _ _ _ _ rfl
 try rw [hw3]
 have X3:=(HT.out.1.keep F2).keep F3
 have c1:=X3.c1
 have f1:=X3.f 1
 have c2:=X3.c2
 have t0:=T3.c0
 have hne:w2.heap.size≠c.R:=by have:=HT.out.1.lt;have:=F2.size;omega
 have F4:=Fr.set w3 c.R 1 (.int .i64 ((i:Int)+1))
 have X4:=X3.next HT.out.2
 have T4:=T3.fr F4 (by simp;exact hne)
 have HX:=oH (oA (F2.trans F3 (by simp)) (oA F4 (oA X4 T4)))
 clear hw3 F2 F3 T3 X3 F4 X4 T4
 go_upto_region 6 with fail
 obtain⟨w4,hw4⟩:∃w4,w3.setCell ⟨c.R,1,none⟩ (.int .i64 ((i:Int)+1))=w4:=⟨_,rfl⟩
 rw [hw4] at HX
 try rw [hw4]
 have T4:=HX.out.2.2.2
 have d1:=T4.c1
 have d3:=T4.c3
 clear hw4 T4 c1 f1 c2 t0
 go_wp2_with fail
 refine(HNH.out _).mono ?_
 rintro e w5 hN
 obtain⟨p,v,rfl,F5,hp,hkj⟩:=NoV.kj (ts:=[]) hN (Nat.le_refl _) (by simp)
 have H5:=oH (oA F5 (oA hp hkj))
 clear hN F5 hp hkj
 go_wp2_with fail
 go_ret
 obtain⟨F3,F4,X4,_⟩:=HX.out
 obtain⟨F5,hp,hkj⟩:=H5.out
 have s4:=(F3.mono (by simp):Fr [c.R] w w3).size
 have s5:=F4.size
 refine⟨p,v,rfl,((F3.mono (by simp)).trans F4 (fun j hj=>.inl hj)).trans F5 (by simp),X4.keep F5,by omega,hkj.n,hkj.r.keep (fun j hj _=>by omega) (fun _ _ _=>rfl),trivial,by omega⟩
theorem zId (c:Rc) (w:World) (i:Nat) (b:Bool) (h:RF c w i b) (hk:b=true∨(tk c.ts i).1.k≠1) :
  Calls Tryz.prog 102 #[pt c.R] w fun e w'=>e=.returned (encP none)∧Fr [c.R] w w'∧RF c w' i true:=by
 have hsc:=fun w a x y m=>zAg (P:=Tryz.prog) w a .f64 x y m
 have HH:=zDj c w i b h
 obtain⟨x1,y1,e1⟩:=zAc (tk c.ts i).2.1.1 (tk c.ts i).2.1.2
 obtain⟨x2,y2,e2⟩:=zAc (tk c.ts i).2.2.1 (tk c.ts i).2.2.2
 unfold tkV at HH
 rw [e1,e2] at HH
 have hk2:b=true∨(b=false∧(((tk c.ts i).1.k:Int) != 1)=true):=by
  cases b with
  | true=>exact .inl rfl
  | false=>exact .inr ⟨rfl,by rw [bne,beq_eq_false_iff_ne.2 (by rcases hk with h | h;(· cases h);(· omega))];rfl⟩
 have HT:=oH h
 clear h e1 e2 hk
 generalize ((tk c.ts i).1.k:Int)=t0 at *
 generalize (⟨(tk c.ts i).1.x.toArray⟩:ByteArray)=t3 at *
 generalize (tk c.ts i).1.n=t4 at *
 simp only [pt,encP] at HH ⊢
 rcases hk2 with rfl | ⟨rfl,hk2⟩
 all_goals
  go_enter Tryz.func102,Tryz.ntmps102
  go_wp2_with fail
  refine HH.mono ?_
  rintro e w2 ⟨rfl,F2⟩
  clear HH
  go_upto_region 2 with fail
  obtain⟨w3,hw3⟩:∃w3,w2.alloc (.cells #[.int .u8 t0,.complex .f64 x1 y1,.complex .f64 x2 y2,.string t3,.int .i64 t4] 71)=w3:=⟨_,rfl⟩
  have F3:Fr [] w2 w3:=by rw [← hw3];exact Fr.alloc _ _
  have T3:Fv w3 w2.heap.size (.int .u8 t0) (.complex .f64 x1 y1) (.complex .f64 x2 y2) (.string t3) (.int .i64 t4):=by rw [← hw3];exact Fv.new _ _ _ _ _ _ _ _ rfl
  try rw [hw3]
  have X3:=(HT.out.keep F2).keep F3
  have c2:=X3.c2
  have f2:=X3.f 2
  have d0:=T3.c0
  have HX:=oH (oA (F2.trans F3 (by simp)) X3)
  clear hw3 F2 F3 T3 X3
  go_wp2_with fail
  go_ret
  exact⟨rfl,(HX.out.1.mono (by simp)).trans (Fr.set w3 c.R 2 _) (fun j hj=>.inl hj),HX.out.2.spoil⟩
def StrL (w:World) (v:Value) (l:List (List UInt8)):Prop:=∃q cap,v=.slice q l.length cap∧∀i x,l[i]?=some x→∃g,q=some ⟨g,0,none⟩∧g < w.heap.size∧w.cell? ⟨g,i,none⟩=some (.string ⟨x.toArray⟩)
theorem zSl {l:List (List UInt8)} {x:List UInt8} {k:Nat} (hk:k < l.length) (h:l[k]?=some x):l.contains x=true:=by
 rw [List.contains_iff_mem]
 exact List.mem_of_getElem? h
theorem zWn (c:Rc) (w:World) (i:Nat) (b:Bool) (v:Value) (l:List (List UInt8)) (h:RF c w i b) (hl:StrL w v l) (hll:l.length≤100) :
  Calls Tryz.prog 100 #[pt c.R,v] w fun e w'=>e=.returned (.bool (!b&&isB l (tk c.ts i)))∧Fr [] w w':=by
 have hsc:=fun w a x y m=>zAg (P:=Tryz.prog) w a .f64 x y m
 have HH:=zDj c w i b h
 obtain⟨x1,y1,e1⟩:=zAc (tk c.ts i).2.1.1 (tk c.ts i).2.1.2
 obtain⟨x2,y2,e2⟩:=zAc (tk c.ts i).2.2.1 (tk c.ts i).2.2.2
 unfold tkV at HH
 rw [e1,e2] at HH
 have HI:Hid (isB l (tk c.ts i)=(((tk c.ts i).1.k == 5||(tk c.ts i).1.k == 6)&&l.contains (tk c.ts i).1.x)):=oH rfl
 have hk5:(((tk c.ts i).1.k:Int) != 5)=!((tk c.ts i).1.k == 5):=by
  by_cases hh:(tk c.ts i).1.k=5
  ·rw [hh];rfl
  ·rw [beq_eq_false_iff_ne.2 hh,bne,beq_eq_false_iff_ne.2 (by omega)]
 have hk6:(((tk c.ts i).1.k:Int) != 6)=!((tk c.ts i).1.k == 6):=by
  by_cases hh:(tk c.ts i).1.k=6
  ·rw [hh];rfl
  ·rw [beq_eq_false_iff_ne.2 hh,bne,beq_eq_false_iff_ne.2 (by omega)]
 rw [HI.out]
 obtain⟨k5,hk5'⟩:∃kb,((tk c.ts i).1.k == 5)=kb:=⟨_,rfl⟩
 obtain⟨k6,hk6'⟩:∃kb,((tk c.ts i).1.k == 6)=kb:=⟨_,rfl⟩
 rw [hk5'] at hk5 ⊢
 rw [hk6'] at hk6 ⊢
 obtain⟨X,hX⟩:∃X,(tk c.ts i).1.x=X:=⟨_,rfl⟩
 rw [hX] at HH ⊢
 obtain⟨q,cap,rfl,hst⟩:=hl
 have HST:=oH hst
 have HT:=oH h
 clear e1 e2 HI h hk5' hk6' hX hst
 generalize ((tk c.ts i).1.k:Int)=t0 at *
 generalize (tk c.ts i).1.n=t4 at *
 obtain⟨t3,ht3⟩:∃t3:ByteArray,(⟨X.toArray⟩:ByteArray)=t3:=⟨_,rfl⟩
 rw [ht3] at HH
 simp only [pt] at HH ⊢
 obtain⟨n,hn⟩:∃n,l.length=n:=⟨_,rfl⟩
 rw [hn] at hll
 have HN:=oH hn
 rw [hn]
 clear hn
 by_cases hrun:b=false∧(k5||k6)=true
 ·obtain⟨rfl,hkk⟩:=hrun
  rw [hkk]
  have hcase:(k5=true)∨(k5=false∧k6=true):=by cases k5 <;> cases k6 <;> simp_all
  have hc2:(t0 != 5)=false∨((t0 != 5)=true∧(t0 != 6)=false):=by
   rcases hcase with h | ⟨h,h'⟩
   ·exact .inl (by rw [hk5,h];rfl)
   ·exact .inr ⟨by rw [hk5,h];rfl,by rw [hk6,h'];rfl⟩
  simp only [Bool.not_false,Bool.true_and]
  clear hk5 hk6 hcase hkk
  rcases hc2 with g5 | ⟨g5,g6⟩
  all_goals
   go_enter Tryz.func100,Tryz.ntmps100
   go_wp2_with fail
   refine HH.mono ?_
   rintro e w2 ⟨rfl,F2⟩
   clear HH
   go_upto_region 2 with fail
   obtain⟨w3,hw3⟩:∃w3,w2.alloc (.cells #[.int .u8 t0,.complex .f64 x1 y1,.complex .f64 x2 y2,.string t3,.int .i64 t4] 71)=w3:=⟨_,rfl⟩
   have F3:Fr [] w2 w3:=by rw [← hw3];exact Fr.alloc _ _
   have T3:Fv w3 w2.heap.size (.int .u8 t0) (.complex .f64 x1 y1) (.complex .f64 x2 y2) (.string t3) (.int .i64 t4):=by rw [← hw3];exact Fv.new _ _ _ _ _ _ _ _ rfl
   try rw [hw3]
   have F13:=F2.trans F3 (by simp)
   have X3:=HT.out.keep F13
   have c2:=X3.c2
   have d0:=T3.c0
   have HX:=oH (oA F13 T3)
   have s3:=F13.size
   have HST3:Hid (∀(i:Nat) (x:List UInt8),l[i]?=some x→∃g,q=some ⟨g,0,none⟩∧w3.cell? ⟨g,i,none⟩=some (.string ⟨x.toArray⟩)):=oH (fun i x hx=>by
    obtain⟨g,e,hg,hc⟩:=HST.out i x hx
    exact⟨g,e,F13.cellE hc⟩)
   clear hw3 F2 F3 F13 T3 X3
   go_wp2_with fail
   go_loopw [6] (fun iv wr=>∃k:Nat,k≤n∧iv=.int .i64 k∧(∀(j:Nat) (x:List UInt8),j < k→l[j]?=some x→x≠X)∧Fr [] w3 wr) (fun iv _=>n - (intOf iv).toNat)
   case atStart=>exact⟨0,Nat.zero_le _,rfl,fun j x hj=>absurd hj (Nat.not_lt_zero _),Fr.refl _ _⟩
   case round =>
    obtain⟨k,hk,rfl,hno,Fr3⟩:=hrel
    have HNO:=oH hno
    have HF3:=oH Fr3
    clear hno
    by_cases hlt:k < n
    ·obtain⟨x,hx⟩:∃x,l[k]?=some x:=⟨_,List.getElem?_eq_getElem (by have:=HN.out;omega)⟩
     obtain⟨g,rfl,cg⟩:=HST3.out k x hx
     have cg:=Fr3.cellE cg
     have d3:=Fr3.cellE HX.out.2.c3
     have hq:=zCg x X
     rw [ht3] at hq
     have hk0:(0:Int)≤(k:Int):=by omega
     have hk1:(k:Int) < (n:Int):=by omega
     have HXE:=oH hx
     clear hx Fr3
     by_cases hxx:x=X
     ·rw [show (x == X)=true from by simp [hxx]] at hq
      have HE:=oH hxx
      clear hxx
      generalize (⟨x.toArray⟩:ByteArray)=sx at *
      go_wp2_with fail
      go_quiet (fail)
      go_wp2_with fail
      go_ret
      refine⟨?_,((HX.out.1.trans HF3.out (by simp)).trans (Fr.drewN _ _) (by simp))⟩
      rw [show l.contains X=true from zSl (k:=k) (by have:=HN.out;omega) (by rw [HXE.out,HE.out])]
      rfl
     ·rw [show (x == X)=false from by simp [hxx]] at hq
      have HE:=oH hxx
      clear hxx
      generalize (⟨x.toArray⟩:ByteArray)=sx at *
      go_wp2_with fail
      go_quiet (fail)
      go_wp2_with fail
      go_roundw
      case rel =>
       refine⟨k+1,by omega,by simp,fun j y hj hy=>?_,HF3.out.trans (Fr.drewN _ _) (by simp)⟩
       rcases Nat.lt_or_ge j k with h1 | h1
       ·exact HNO.out j y h1 hy
       ·obtain rfl:j=k:=by omega
        rw [HXE.out] at hy
        cases hy
        exact HE.out
      case measure=>simp [intOf];omega
    ·obtain rfl:k=n:=by omega
     clear Fr3
     go_wp2_with fail
     go_ret
     refine⟨?_,HX.out.1.trans HF3.out (by simp)⟩
     rw [show l.contains X=false from by
      rw [Bool.eq_false_iff,Ne,List.contains_iff_mem]
      intro hm
      obtain⟨j,hj⟩:=List.getElem?_of_mem hm
      have:=(List.getElem?_eq_some_iff.1 hj).1
      exact HNO.out j X (by have:=HN.out;omega) hj rfl]
     rfl
 ·have hfin:(!b&&((k5||k6)&&l.contains X))=false:=by
   cases b <;> cases k5 <;> cases k6 <;> simp_all
  rw [hfin]
  have hc2:b=true∨(b=false∧(t0 != 5)=true∧(t0 != 6)=true):=by
   cases b <;> cases k5 <;> cases k6 <;> simp_all
  clear hfin hk5 hk6 hrun
  rcases hc2 with rfl | ⟨rfl,g5,g6⟩
  all_goals
   go_enter Tryz.func100,Tryz.ntmps100
   go_wp2_with fail
   refine HH.mono ?_
   rintro e w2 ⟨rfl,F2⟩
   clear HH
   go_upto_region 2 with fail
   obtain⟨w3,hw3⟩:∃w3,w2.alloc (.cells #[.int .u8 t0,.complex .f64 x1 y1,.complex .f64 x2 y2,.string t3,.int .i64 t4] 71)=w3:=⟨_,rfl⟩
   have F3:Fr [] w2 w3:=by rw [← hw3];exact Fr.alloc _ _
   have T3:Fv w3 w2.heap.size (.int .u8 t0) (.complex .f64 x1 y1) (.complex .f64 x2 y2) (.string t3) (.int .i64 t4):=by rw [← hw3];exact Fv.new _ _ _ _ _ _ _ _ rfl
   try rw [hw3]
   have F13:=F2.trans F3 (by simp)
   have X3:=HT.out.keep F13
   have c2:=X3.c2
   have d0:=T3.c0
   have HX:=oH F13
   clear hw3 F2 F3 F13 T3 X3
   go_wp2_with fail
   go_ret
   exact⟨rfl,HX.out⟩
end Go.Proofs.YtepfknfadpkigaaGreat
namespace Go.Proofs.YtepfknfadpkigaaGreat
open Go.RowKit
set_option maxHeartbeats 2000000
set_option maxRecDepth 100000
theorem zAo (c:Rc) (w:World) (i:Nat) (b:Bool) (h:RF c w i b) (px py ex ey:Nat) (h1:posV (tk c.ts i).2.1.1 (tk c.ts i).2.1.2=.complex .f64 px py) (h2:posV (tk c.ts i).2.2.1 (tk c.ts i).2.2.2=.complex .f64 ex ey) :
  Calls Tryz.prog 33 #[.pointer (some ⟨c.R,0,none⟩)] w fun e w'=>e=.returned (.agg #[.int .u8 (tk c.ts i).1.k,.complex .f64 px py,.complex .f64 ex ey,.string ⟨(tk c.ts i).1.x.toArray⟩,.int .i64 (tk c.ts i).1.n])∧Fr [] w w':=by
 have H:=zDj c w i b h
 rw [zCx h1 h2] at H
 exact H
theorem zBk (w:World) (k:Nat) (kk:Int) (hk:(k:Int)=kk) (t:TK) (x:List UInt8) (px py:Nat) (hp:posV t.2.1.1 t.2.1.2=.complex .f64 px py) (s:ByteArray) (hs:(⟨x.toArray⟩:ByteArray)=s) (ao bo:Option Nat) (a b:Value) (ha:encP ao=a) (hb:encP bo=b) :
  Calls Tryz.prog 101 #[.int .u8 kk,.complex .f64 px py,.string s,a,b] w (NoV w (nd k t x 0) (ao.toList++bo.toList)):=by
 have H:=zQb w (nd k t x 0) rfl ao bo
 subst hk hs ha hb
 rw [← hp]
 exact H
def rfM (R:Nat) (w:World):Nat:=match w.cell? ⟨R,2,none⟩ with
 | some (.bool true)=>0
 | _=>match w.cell? ⟨R,1,none⟩ with
  | some (.int _ n)=>1+(16384 - n.toNat)
  | _=>0
theorem zCv {c:Rc} {w:World} {i:Nat} (h:RF c w i false):rfM c.R w=1+(16384 - i):=by
 unfold rfM
 rw [h.c2,h.c1]
 simp
theorem zIe {c:Rc} {w:World} {i:Nat} (h:RF c w i true):rfM c.R w=0:=by
 unfold rfM
 rw [h.c2]
def CG (c:Rc) (f:FuncId) (M:Nat→Re):Prop:=∀w i,RF c w i false→M i≠.out→Calls Tryz.prog f #[.pointer (some ⟨c.R,0,none⟩)] w (Tl c w.heap.size w (M i))
theorem Tl.mk_ok {c:Rc} {C:Nat} {w:World} {res:Re} {w':World} {u:Tr} {d:DT} {j:Nat} (hr:res=.ok d j) (F:Fr [c.R] w w') (hX:RF c w' j false) (hT:IsT w' (C≤·) u) (hd:u.dt=d):Tl c C w res (.returned (.pointer (some ⟨u.p,0,none⟩))) w' :=
 ⟨some u.p,rfl,F,.inl ⟨d,j,u,hr,rfl,hX,hT,hd⟩⟩
theorem Tl.mk_bad {c:Rc} {C:Nat} {w:World} {res:Re} {w':World} {j:Nat} {o:Option Nat} {v:Value} (hv:encP o=v) (hr:res=.bad j) (F:Fr [c.R] w w') (hX:RF c w' j true):Tl c C w res (.returned v) w' :=
 ⟨o,by rw [hv],F,.inr ⟨j,hr,hX⟩⟩
theorem RF.up {c:Rc} {w w':World} {i:Nat} {b:Bool} (h:RF c w i b) (F:Fr [] w w'):RF c w' i b:=h.keep F
theorem KJ.name {C p:Nat} {d:ND} {w:World} {v:Value} {ts:List Tr} (h:KJ C p d w v ts):w.cell? ⟨p,2,none⟩=some (.string ⟨d.x.toArray⟩):=(NodeAt.mk h.n).c2
theorem zJk (c:Rc) (E:Nat→Re) (hE:CG c 65 E):CG c 108 (elemM c.ts E):=by
 intro w i h hne
 have hfd:=zBb
 obtain⟨px,py,e1⟩:=zAc (tk c.ts i).2.1.1 (tk c.ts i).2.1.2
 obtain⟨ex,ey,e2⟩:=zAc (tk c.ts i).2.2.1 (tk c.ts i).2.2.2
 have HN:=zAo c w i false h px py ex ey e1 e2
 have hEi:E i≠.out:=fun e=>hne (by unfold elemM;rw [e])
 have hX0:=h.lt
 have H:=oH (oA h (oA hne (oA hEi (oA e1 hX0))))
 have HE:=oH hE
 clear h hne hEi e1 e2 hE hX0
 generalize ((tk c.ts i).1.k:Int)=t0 at *
 generalize (⟨(tk c.ts i).1.x.toArray⟩:ByteArray)=t3 at *
 generalize (tk c.ts i).1.n=t4 at *
 go_enter Tryz.func108,Tryz.ntmps108
 go_wp2_with fail
 refine HN.mono ?_
 rintro e w1 ⟨rfl,F1⟩
 have HC:=HE.out w1 i (H.out.1.up F1) H.out.2.2.1
 have H1:=oH F1
 clear F1 HN
 go_wp2_with fail
 refine HC.mono ?_
 rintro e w2 ⟨o,rfl,F2,⟨d,j,u,hr,rfl,X2,hT,hd⟩ | ⟨j,hr,X2⟩⟩
 ·have hel:elemM c.ts E i=elTl c.ts E (tk c.ts i) d j:=by unfold elemM;rw [hr]
  have H2:=oH (oA F2 (oA hel (oA X2 (oA hT hd))))
  clear HC F2 hr hT hd hel
  cases hp:isS (tk c.ts j) [46,46]
  ·have HS:=zAu c w2 j false [46,46] X2 (by rw [hp];rfl)
   have HP:=oH hp
   clear X2 hp
   simp only [pt,encP,ptrV] at HS ⊢
   go_wp2_with fail
   refine HS.mono ?_
   rintro e w3 ⟨rfl,F3⟩
   have H3:=oH F3
   clear F3 HS
   go_wp2_with fail
   go_ret
   obtain⟨F2,hel,X2,hT,hd⟩:=H2.out
   refine Tl.mk_ok (j:=j) ?_ (((H1.out.up0).on F2).on0 H3.out) (X2.up H3.out) (zAt (zAk hT H3.out (by simp)) H1.out.size) hd
   rw [hel]
   unfold elTl
   rw [HP.out]
   rfl
  ·have HS:=zBo c w2 j [46,46] X2 hp
   have HP:=oH hp
   clear X2 hp
   simp only [pt,encP,ptrV] at HS ⊢
   go_wp2_with fail
   refine HS.mono ?_
   rintro e w3 ⟨rfl,F3,X3⟩
   have hun:elemM c.ts E i=(match E (j+1) with | .ok hi k=>.ok (.node (nd 9 (tk c.ts i) [] 0) [d,hi]) k | .bad k=>.bad k | .out=>.out):=by
    rw [H2.out.2.1];unfold elTl;rw [if_pos HP.out];cases E (j+1) <;> rfl
   have hE2:E (j+1)≠.out:=fun e=>H.out.2.1 (by rw [hun,e])
   have HC:=HE.out w3 (j+1) X3 hE2
   have H3:=oH (oA F3 (oA X3 hun))
   clear F3 X3 HS hun hE2
   go_wp2_with fail
   refine HC.mono ?_
   rintro e w4 ⟨o,rfl,F4,hres⟩
   have HNO:=zBk w4 9 9 rfl (tk c.ts i) [] px py H.out.2.2.2.1 ⟨#[]⟩ rfl (some u.p) o _ _ rfl rfl
   have H4:=oH (oA F4 hres)
   obtain⟨ov,hov⟩:∃ov,encP o=ov:=⟨_,rfl⟩
   rw [hov] at HNO ⊢
   have HOV:=oH hov
   clear F4 hres HC hov
   simp only [encP,ptrV] at HNO
   go_wp2_with fail
   refine HNO.mono ?_
   rintro e w5 h5
   obtain⟨F2,hel,X2,hT,hd⟩:=H2.out
   obtain⟨F3,X3,hun⟩:=H3.out
   obtain⟨F4,hres⟩:=H4.out
   have hX0:=H.out.2.2.2.2
   have hs1:=H1.out.size
   have hs2:=F2.size
   have hs3:=F3.size
   have hs4:=F4.size
   have F04:Fr [c.R] w w4:=(((H1.out.up0).on F2).on F3).on F4
   rcases hres with⟨d2,k,u2,hr2,rfl,X4,hT2,hd2⟩ | ⟨k,hr2,X4⟩
   ·have hTa:IsT w4 (w.heap.size≤·) u:=zAk (zAk (zAt hT H1.out.size) F3 (by simp;exact hX0)) F4 (by simp;exact hX0)
    obtain⟨p6,v6,rfl,F6,hp6,hK6⟩:=NoV.kj (ts:=[u,u2]) h5 (C:=w.heap.size) (by omega) (by
     intro t ht
     rcases List.mem_cons.1 ht with rfl | ht
     ·exact hTa
     ·obtain rfl:t=u2:=by simpa using ht
      exact zAt hT2 (by omega))
    have HR:=oH (oA (F04.on0 F6) (oA (X4.up F6) hK6.tree))
    have HU:Hid (elemM c.ts E i=.ok (.node (nd 9 (tk c.ts i) [] 0) [u.dt,u2.dt]) k):=oH (by rw [hun,hr2,hd,hd2])
    clear F2 hel X2 hT hd F3 X3 hun F4 hX0 hs1 hs2 hs3 hs4 F04 hr2 X4 hT2 hd2 hTa F6 hp6 hK6 h5 HNO
    simp only [ptrV]
    go_wp2_with fail
    go_ret
    exact Tl.mk_ok (u:=.node p6 (nd 9 (tk c.ts i) [] 0) [u,u2]) HU.out HR.out.1 HR.out.2.1 HR.out.2.2 rfl
   ·obtain⟨p6,v6,rfl,F6,hp6,_⟩:=h5
    have HR:=oH (oA (F04.on0 F6) (X4.up F6))
    have HU:Hid (elemM c.ts E i=.bad k):=oH (by rw [hun,hr2])
    clear F2 hel X2 hT hd F3 X3 hun F4 hX0 hs1 hs2 hs3 hs4 F04 hr2 X4 F6 hp6 HNO
    simp only [ptrV]
    go_wp2_with fail
    go_ret
    exact Tl.mk_bad (o:=some p6) rfl HU.out HR.out.1 HR.out.2
 ·have hel:elemM c.ts E i=.bad j:=by unfold elemM;rw [hr]
  have HS:=zAu c w2 j true [46,46] X2 rfl
  have H2:=oH (oA F2 (oA hel X2))
  obtain⟨ov,hov⟩:∃ov,encP o=ov:=⟨_,rfl⟩
  rw [hov]
  have HOV:=oH hov
  clear HC F2 hr hel X2 hov
  simp only [pt] at HS
  go_wp2_with fail
  refine HS.mono ?_
  rintro e w3 ⟨rfl,F3⟩
  have H3:=oH F3
  clear F3 HS
  go_wp2_with fail
  go_ret
  obtain⟨F2,hel,X2⟩:=H2.out
  exact Tl.mk_bad HOV.out hel (((H1.out.up0).on F2).on0 H3.out) (X2.up H3.out)
def quaD:DT→Bool
 | .node d ks=>if d.k=2 then (match ks with | t::_=>quaD t | []=>false) else d.k == 1
def dotsD:DT→Bool
 | .node d ks=>if d.k=2 then (match ks with | t::_=>dotsD t | []=>false) else true
theorem zHf:∀(n:Nat) (u:Tr) (C:Nat) (w:World),u.cnt≤n→IsT w (C≤·) u→dotsD u.dt=true →
  Calls Tryz.prog 129 #[ptrV u.p] w fun e w'=>e=.returned (.bool (quaD u.dt))∧w'=w
 | 0,u,_,_,hn,_,_=>by have:=zJt u;omega
 | n+1,.node p d ks,C,w,hn,hT,hd=>by
  obtain⟨hp,⟨v,hv,hr⟩,hks⟩:=hT
  have c0:=(NodeAt.mk hv).c0
  have c4:=(NodeAt.mk hv).c4
  have hdt:(Tr.node p d ks).dt=.node d (dtL ks):=rfl
  rw [hdt] at hd ⊢
  by_cases hk:d.k=2
  ·rw [dotsD.eq_def] at hd
   simp only [hk,if_true] at hd
   cases ks with
   | nil=>simp [dtL] at hd
   | cons t r =>
    obtain⟨g,cap,rfl,cg⟩:=hr.cell 0 t.p rfl
    have hcn:t.cnt≤n:=by simp only [Tr.cnt,cntL] at hn;omega
    have HI:=oH (zHf n t C w hcn hks.1 hd)
    have HP:Hid (quaD (.node d (dtL (t::r)))=quaD t.dt):=oH (by rw [quaD.eq_def];simp only [hk,if_true];rfl)
    rw [HP.out]
    clear HP hdt
    obtain⟨L,hL⟩:∃L,((t::r).map Tr.p).length=L:=⟨_,rfl⟩
    have hL1:(0:Int) < (L:Int):=by simp at hL;omega
    have hL2:0 < L:=by simp at hL;omega
    rw [hL] at c4
    rw [hk] at c0
    simp only [ptrV,Tr.p] at HI cg ⊢
    clear hv hr hks hd hcn hk hn hL
    go_enter Tryz.func129,Tryz.ntmps129
    go_wp2_with fail
    refine HI.out.mono ?_
    rintro e w1 ⟨rfl,rfl⟩
    go_wp2_with fail
    go_ret
    exact⟨rfl,rfl⟩
  ·have hq:((d.k:Int) == 2)=false:=beq_eq_false_iff_ne.2 (by omega)
   have HP:Hid (quaD (.node d (dtL ks))=((d.k:Int) == 1)):=oH (by
    rw [quaD.eq_def]
    simp only [hk,if_false]
    by_cases h1:d.k=1
    ·rw [h1];rfl
    ·rw [beq_eq_false_iff_ne.2 h1,beq_eq_false_iff_ne.2 (by omega)])
   rw [HP.out]
   clear HP hdt hv hr hks hd hk hn
   simp only [ptrV,Tr.p]
   generalize (d.k:Int)=dk at *
   go_enter Tryz.func129,Tryz.ntmps129
   go_wp2_with fail
   go_ret
   exact⟨rfl,rfl⟩
end Go.Proofs.YtepfknfadpkigaaGreat
namespace Go.Proofs.YtepfknfadpkigaaGreat
open Go.RowKit
set_option maxHeartbeats 4000000
set_option maxRecDepth 100000
section
variable (ts:List TK)
def idxT (E:Nat→Re) (m:Nat) (x:DT) (j:Nat):Re :=
 if isS (tk ts j) [44] then selM ts E m true x j else if isS (tk ts j) [93] then selM ts E m false x (j+1) else .bad j
theorem zGk (E:Nat→Re) (m:Nat) (x:DT) (i:Nat):selM ts E (m+1) true x i=(match E (i+1) with | .ok e j=>idxT ts E m (.node (nd 3 (tk ts i) [] 0) [x,e]) j | .bad j=>.bad j | .out=>.out):=by
 show (match E (i+1) with | .ok e j=>_ | .bad j=>_ | .out=>_)=_
 cases E (i+1) <;> rfl
theorem zIf (E:Nat→Re) (m:Nat) (x:DT) (i:Nat) (h:isS (tk ts i) [46]=true):selM ts E (m+1) false x i=(match dotM ts x i with | some y=>selM ts E m false y (i+2) | none=>.bad (i+1)):=by
 show (if isS (tk ts i) [46]=true then _ else _)=_
 rw [if_pos h]
 cases dotM ts x i <;> rfl
theorem zUd (E:Nat→Re) (m:Nat) (x:DT) (i:Nat) (h:isS (tk ts i) [46]=false) (h2:isS (tk ts i) [94]=true):selM ts E (m+1) false x i=selM ts E m false (.node (nd 4 (tk ts i) [] 0) [x]) (i+1):=by
 show (if isS (tk ts i) [46]=true then _ else _)=_
 rw [if_neg (by rw [h];simp),if_pos h2]
theorem zUe (E:Nat→Re) (m:Nat) (x:DT) (i:Nat) (h:isS (tk ts i) [46]=false) (h2:isS (tk ts i) [94]=false) (h3:isS (tk ts i) [91]=true):selM ts E (m+1) false x i=selM ts E m true x i:=by
 show (if isS (tk ts i) [46]=true then _ else _)=_
 rw [if_neg (by rw [h];simp),if_neg (by rw [h2];simp),if_pos h3]
theorem zKm (E:Nat→Re) (m:Nat) (x:DT) (i:Nat) (h:isS (tk ts i) [46]=false) (h2:isS (tk ts i) [94]=false) (h3:isS (tk ts i) [91]=false):selM ts E (m+1) false x i=.ok x i:=by
 show (if isS (tk ts i) [46]=true then _ else _)=_
 rw [if_neg (by rw [h];simp),if_neg (by rw [h2];simp),if_neg (by rw [h3];simp)]
theorem zLw (E:Nat→Re):∀(m:Nat) (x:DT) (i:Nat),dotsM ts m x i≠.out→∀F,∃m',selM ts E m' false x i=(match dotsM ts m x i with | .ok y j=>selM ts E F false y j | .bad j=>.bad j | .out=>.out)
 | 0,x,i,h,F=>absurd rfl h
 | m+1,x,i,h,F=>by
  cases hp:isS (tk ts i) [46] with
  | false =>
   have e:dotsM ts (m+1) x i=.ok x i:=by unfold dotsM;rw [hp];rfl
   rw [e]
   exact⟨F,rfl⟩
  | true =>
   have e:dotsM ts (m+1) x i=(match dotM ts x i with | some y=>dotsM ts m y (i+2) | none=>.bad (i+1)):=by
    show (if isS (tk ts i) [46]=true then _ else _)=_
    rw [if_pos hp]
    cases dotM ts x i <;> rfl
   cases hd:dotM ts x i with
   | none =>
    rw [hd] at e
    refine⟨1,?_⟩
    rw [e,zIf ts E 0 x i hp,hd]
   | some y =>
    rw [hd] at e
    rw [e] at h ⊢
    obtain⟨m',hm⟩:=zLw E m y (i+2) h F
    refine⟨m'+1,?_⟩
    rw [zIf ts E m' x i hp,hd]
    exact hm
theorem zWo (E:Nat→Re) (i:Nat) (hk:(tk ts i).1.k=1):∃m,selM ts E m false (.node (nd 1 (tk ts i) (tk ts i).1.x 0) []) (i+1)=desM ts E i:=by
 have hq:qualM ts i=dotsM ts (ts.length+1) (.node (nd 1 (tk ts i) (tk ts i).1.x 0) []) (i+1):=by unfold qualM;rw [if_pos hk]
 have hne:dotsM ts (ts.length+1) (.node (nd 1 (tk ts i) (tk ts i).1.x 0) []) (i+1)≠.out:=by rw [← hq];exact zFf i
 obtain⟨m,hm⟩:=zLw ts E _ _ _ hne (2 * ts.length+2)
 refine⟨m,?_⟩
 rw [hm]
 unfold desM
 rw [hq]
 cases dotsM ts (ts.length+1) (.node (nd 1 (tk ts i) (tk ts i).1.x 0) []) (i+1) <;> rfl
theorem zIg (E:Nat→Re) (i:Nat) (hk:(tk ts i).1.k≠1):desM ts E i=.bad i:=by
 unfold desM qualM
 rw [if_neg hk]
end
def DL (c:Rc) (E:Nat→Re) (w0:World) (RES:Re) (x:Value) (wr:World):Prop:=Fr [c.R] w0 wr ∧
 ((∃m u j,selM c.ts E m false u.dt j=RES∧x=ptrV u.p∧RF c wr j false∧IsT wr (w0.heap.size≤·) u)∨∃j,RES=.bad j∧RF c wr j true)
def IL (c:Rc) (E:Nat→Re) (w0:World) (RES:Re) (x:Value) (wr:World):Prop:=Fr [c.R] w0 wr ∧
 ((∃m u j,idxT c.ts E m u.dt j=RES∧x=ptrV u.p∧RF c wr j false∧IsT wr (w0.heap.size≤·) u)∨∃j o,RES=.bad j∧x=encP o∧RF c wr j true)
theorem zLx {c:Rc} {E:Nat→Re} {w0 w1 w2 w3:World} {RES:Re} {m i:Nat} {u:Tr} {o:Option Nat} {e:Ending}
  (hX0:c.R < w0.heap.size) (F1:Fr [c.R] w0 w1) (hT:IsT w1 (w0.heap.size≤·) u) (hun:RES=selM c.ts E (m+1) true u.dt i)
  (F2:Fr [c.R] w1 w2) (hres:(∃d j v,E (i+1)=.ok d j∧o=some v.p∧RF c w2 j false∧IsT w2 (w1.heap.size≤·) v∧v.dt=d)∨∃j,E (i+1)=.bad j∧RF c w2 j true)
  (hN:NoV w2 (nd 3 (tk c.ts i) [] 0) ((some u.p).toList++o.toList) e w3):∃p,e=.returned (ptrV p)∧IL c E w0 RES (ptrV p) w3∧Fr [c.R] w0 w3:=by
 have hs1:=F1.size
 have hs2:=F2.size
 rcases hres with⟨d,j,v,hE,rfl,X,hv,hd⟩ | ⟨j,hE,X⟩
 ·have hT2:IsT w2 (w0.heap.size≤·) u:=zAk hT F2 (by simp;exact hX0)
  obtain⟨p,vv,rfl,F3,hp,hK⟩:=NoV.kj (ts:=[u,v]) hN (C:=w0.heap.size) (by omega) (by
   intro t ht
   rcases List.mem_cons.1 ht with rfl | ht
   ·exact hT2
   ·obtain rfl:t=v:=by simpa using ht
    exact zAt hv hs1)
  refine⟨p,rfl,⟨(F1.on F2).on0 F3,.inl ⟨m,.node p (nd 3 (tk c.ts i) [] 0) [u,v],j,?_,rfl,X.up F3,hK.tree⟩⟩,(F1.on F2).on0 F3⟩
  rw [hun,zGk,hE,← hd]
  rfl
 ·obtain⟨p,vv,rfl,F3,hp,_⟩:=hN
  refine⟨p,rfl,⟨(F1.on F2).on0 F3,.inr ⟨j,some p,?_,rfl,X.up F3⟩⟩,(F1.on F2).on0 F3⟩
  rw [hun,zGk,hE]
theorem zDh {c:Rc} {w w':World} {i j:Nat} {b:Bool} (h:RF c w i false) (h':RF c w' j b) (hj:b=false→i < j):rfM c.R w' < rfM c.R w:=by
 rw [zCv h]
 cases b with
 | true=>rw [zIe h'];omega
 | false =>
  rw [zCv h']
  have:=h'.le
  have:=hj rfl
  omega
theorem zLy {c:Rc} {E:Nat→Re} (hM:Mono E) {w w2 w3 w1:World} {i:Nat} {o:Option Nat} (h:RF c w i false) (F3:Fr [] w2 w3)
  (hres:(∃d j v,E (i+1)=.ok d j∧o=some v.p∧RF c w2 j false∧IsT w2 (w1.heap.size≤·) v∧v.dt=d)∨∃j,E (i+1)=.bad j∧RF c w2 j true):rfM c.R w3 < rfM c.R w:=by
 rcases hres with⟨d,j,v,hE,_,X,_⟩ | ⟨j,hE,X⟩
 ·exact zDh h (X.up F3) (fun _=>by have:=hM _ _ _ hE;omega)
 ·exact zDh h (X.up F3) (fun h=>by cases h)
theorem zBx (c:Rc) (E:Nat→Re) (hM:Mono E) (hE:CG c 65 E):CG c 68 (desM c.ts E):=by
 intro w i h hne
 have hfd:=zBb
 obtain⟨RES,hRES⟩:∃RES,desM c.ts E i=RES:=⟨_,rfl⟩
 rw [hRES] at hne ⊢
 have HT:=oH h
 have HE:=oH hE
 have HNE:=oH hne
 have start:∃N:Ending→World→Prop,Calls Tryz.prog 102 #[pt c.R] w N∧∀e w',N e w'→∃x,e=.returned x∧DL c E w RES x w':=by
  by_cases hk:(tk c.ts i).1.k=1
  ·refine⟨_,zIc c w i h hk,?_⟩
   rintro e w' ⟨p,v,rfl,F,X,hp,hK⟩
   obtain⟨m,hm⟩:=zWo c.ts E i hk
   exact⟨_,rfl,F,.inl ⟨m,.node p (nameD (tk c.ts i)) [],i+1,hm.trans hRES,rfl,X,hK.tree⟩⟩
  ·refine⟨_,zId c w i false h (.inr hk),?_⟩
   rintro e w' ⟨rfl,F,X⟩
   exact⟨_,rfl,F,.inr ⟨i,by rw [← hRES];exact zIg c.ts E i hk,X⟩⟩
 obtain⟨N,hN,hN2⟩:=start
 have HN2:=oH hN2
 clear h hne hRES hN2 hE
 simp only [pt] at hN
 go_enter Tryz.func68,Tryz.ntmps68
 go_wp2_with fail
 refine hN.mono ?_
 rintro e w1 h1
 obtain⟨x0,rfl,q1⟩:=HN2.out e w1 h1
 have HQ:=oH q1
 clear h1 q1 hN HN2
 go_wp2_with fail
 go_loopw [3] (fun x wr=>DL c E w RES x wr) (fun _ wr=>rfM c.R wr)
 case atStart=>exact HQ.out
 case round =>
  clear HQ
  obtain⟨F,⟨m,u,j,hd,rfl,X,hT⟩ | ⟨j,hr,X⟩⟩:=hrel
  ·obtain⟨m,rfl⟩:∃m',m=m'+1:=by
    cases m with
    | zero=>exact absurd (show RES=.out from hd.symm) HNE.out
    | succ m=>exact⟨m,rfl⟩
   obtain⟨px,py,e1⟩:=zAc (tk c.ts j).2.1.1 (tk c.ts j).2.1.2
   obtain⟨ex,ey,e2⟩:=zAc (tk c.ts j).2.2.1 (tk c.ts j).2.2.2
   have c2:=X.c2
   have HN:=zAo c wr j false X px py ex ey e1 e2
   have H:=oH (oA F (oA hd (oA X (oA hT (oA e1 e2)))))
   have hX0:=oH HT.out.lt
   have HDot:=oH (fun w F2=>zBo c w j [46] (X.up (w':=w) F2))
   have HDotN:=oH (fun w F2=>zAu c w j false [46] (X.up (w':=w) F2))
   have HUp:=oH (fun w F2=>zBo c w j [94] (X.up (w':=w) F2))
   have HUpN:=oH (fun w F2=>zAu c w j false [94] (X.up (w':=w) F2))
   have HBr:=oH (fun w F2=>zBo c w j [91] (X.up (w':=w) F2))
   have HBrN:=oH (fun w F2=>zAu c w j false [91] (X.up (w':=w) F2))
   clear F hd X hT e1 e2
   generalize ((tk c.ts j).1.k:Int)=t0 at *
   generalize (⟨(tk c.ts j).1.x.toArray⟩:ByteArray)=t3 at *
   generalize (tk c.ts j).1.n=t4 at *
   simp only [pt,ptrV] at HDot HDotN HUp HUpN HBr HBrN ⊢
   go_wp2_with fail
   refine HN.mono ?_
   rintro e w2 ⟨rfl,F2⟩
   have H2:=oH F2
   clear F2 HN c2
   cases hp:isS (tk c.ts j) [46]
   ·have HP:=oH hp
    have HS:=HDotN.out w2 H2.out (by rw [hp];rfl)
    clear hp HDot HDotN
    go_wp2_with fail
    refine HS.mono ?_
    rintro e w3 ⟨rfl,F3⟩
    have H3:=oH (H2.out.on F3)
    clear F3 HS H2
    cases hp:isS (tk c.ts j) [94]
    ·have HP2:=oH hp
     have HS:=HUpN.out w3 H3.out (by rw [hp];rfl)
     clear hp HUp HUpN
     go_wp2_with fail
     refine HS.mono ?_
     rintro e w4 ⟨rfl,F4⟩
     have H4:=oH (H3.out.on F4)
     clear F4 HS H3
     cases hp:isS (tk c.ts j) [91]
     ·have HP3:=oH hp
      have HS:=HBrN.out w4 H4.out (by rw [hp];rfl)
      clear hp HBr HBrN
      go_wp2_with fail
      refine HS.mono ?_
      rintro e w5 ⟨rfl,F5⟩
      have H5:=oH (H4.out.on F5)
      clear F5 HS H4
      go_wp2_with fail
      go_ret
      obtain⟨F,hd,X,hT,e1,e2⟩:=H.out
      exact Tl.mk_ok (by rw [← hd];exact zKm c.ts E m u.dt j HP.out HP2.out HP3.out) (F.on0 H5.out) (X.up H5.out) (zAk hT H5.out (by simp)) rfl
     ·have HP3:=oH hp
      have HS:=HBr.out w4 H4.out hp
      have hun:RES=selM c.ts E m true u.dt j:=by rw [← H.out.2.1];exact zUe c.ts E m u.dt j HP.out HP2.out hp
      obtain⟨m3,rfl⟩:∃m',m=m'+1:=by
       cases m with
       | zero=>exact absurd hun HNE.out
       | succ m=>exact⟨m,rfl⟩
      have hE2:E (j+1)≠.out:=fun e=>HNE.out (by rw [hun,zGk,e])
      have HUN:=oH (oA hun hE2)
      clear hp HBr HBrN hun hE2
      go_wp2_with fail
      refine HS.mono ?_
      rintro e w5 ⟨rfl,F5,X5⟩
      have F05:=(H4.out.up0 (N:=[c.R])).on F5
      have HC:=HE.out w5 (j+1) X5 HUN.out.2
      have H5:=oH F05
      clear F5 X5 F05 HS
      go_wp2_with fail
      refine HC.mono ?_
      rintro e w6 ⟨o,rfl,F6,hres⟩
      have HNO:=zBk w6 3 3 rfl (tk c.ts j) [] px py H.out.2.2.2.2.1 ⟨#[]⟩ rfl (some u.p) o _ _ rfl rfl
      have H6:=oH (oA F6 hres)
      obtain⟨ov,hov⟩:∃ov,encP o=ov:=⟨_,rfl⟩
      rw [hov] at HNO ⊢
      clear F6 hres HC hov
      simp only [encP,ptrV] at HNO
      go_wp2_with fail
      refine HNO.mono ?_
      rintro e w7 h7
      obtain⟨M0,hM0⟩:∃M0,rfM c.R wr=M0:=⟨_,rfl⟩
      have HM0:=oH hM0
      have HIM:Hid (rfM c.R w7 < M0):=oH (by
       rw [← hM0]
       obtain⟨p,v,_,F7,_⟩:=h7
       exact zLy hM H.out.2.2.1 F7 H6.out.2)
      obtain⟨p,rfl,hil,_⟩:=zLx (E:=E) (RES:=RES) (m:=m3) (i:=j) hX0.out (H.out.1.on H5.out) (zAk H.out.2.2.2.1 H5.out (by simp;exact hX0.out)) HUN.out.1 H6.out.1 H6.out.2 h7
      have HIL:=oH hil
      clear h7 hil HNO hM0
      simp only [ptrV] at HIL ⊢
      go_wp2_with fail
      go_loopw [3] (fun x wq=>IL c E w RES x wq∧rfM c.R wq < M0) (fun _ wq=>rfM c.R wq)
      case atStart=>exact⟨HIL.out,HIM.out⟩
      case round =>
       clear HIL HIM
       obtain⟨⟨F,⟨m2,u2,j2,hd,rfl,X,hT⟩ | ⟨j2,o2,hr,rfl,X⟩⟩,hme⟩:=hrel
       ·cases hp:isS (tk c.ts j2) [44]
        ·have HS:=zAs c _ j2 false [44] X
         rw [hp] at HS
         cases hq:isS (tk c.ts j2) [93]
         ·have HQ:=fun w F2=>zBq c w j2 false [93] (X.up F2) (by rw [hq];rfl)
          have hfin:RES=.bad j2:=by rw [← hd];unfold idxT;rw [hp,hq];rfl
          have H:=oH (oA F (oA hfin (oA X hme)))
          have HQH:=oH HQ
          clear F X hT hfin hd hp hq HQ hme
          simp only [pt,ptrV] at HS HQH ⊢
          go_wp2_with fail
          refine HS.mono ?_
          rintro e w2 ⟨rfl,F2⟩
          have HN:=HQH.out w2 F2
          have H2:=oH F2
          clear F2 HS HQH
          go_wp2_with fail
          refine HN.mono ?_
          rintro e w3 ⟨rfl,F3,X3⟩
          have HR:Hid (DL c E w RES (.pointer (some ⟨u2.p,0,none⟩)) w3):=oH ⟨(H.out.1.on0 H2.out).on F3,.inr ⟨j2,H.out.2.1,X3⟩⟩
          have HME:Hid (rfM c.R w3 < M0):=oH (by rw [zIe X3];have:=H.out.2.2.2;omega)
          clear F3 X3 HN
          go_wp2_with fail
          go_roundw
          case rel=>exact HR.out
          case measure=>have h:=HME.out;have h0:=HM0.out;omega
         ·have HQ:=fun w F2=>zCe c w j2 [93] (X.up F2) hq
          have hfin:RES=selM c.ts E m2 false u2.dt (j2+1):=by rw [← hd];unfold idxT;rw [hp,hq];rfl
          have H:=oH (oA F (oA hfin (oA X (oA hT hme))))
          have HQH:=oH HQ
          clear F X hT hfin hd hp hq HQ hme
          simp only [pt,ptrV] at HS HQH ⊢
          go_wp2_with fail
          refine HS.mono ?_
          rintro e w2 ⟨rfl,F2⟩
          have HN:=HQH.out w2 F2
          have H2:=oH F2
          clear F2 HS HQH
          go_wp2_with fail
          refine HN.mono ?_
          rintro e w3 ⟨rfl,F3,X3⟩
          have hX0:=HT.out.lt
          have HR:Hid (DL c E w RES (.pointer (some ⟨u2.p,0,none⟩)) w3):=oH ⟨(H.out.1.on0 H2.out).on F3,.inl ⟨m2,u2,j2+1,H.out.2.1.symm,rfl,X3,zAk (zAk H.out.2.2.2.1 H2.out (by simp)) F3 (by simp;exact hX0)⟩⟩
          have HME:Hid (rfM c.R w3 < M0):=oH (by
           have h1:=zCv X3
           have h2:=zCv H.out.2.2.1
           have h3:=H.out.2.2.2.2
           have:=X3.le
           omega)
          clear F3 X3 HN hX0
          go_wp2_with fail
          go_roundw
          case rel=>exact HR.out
          case measure=>have h:=HME.out;have h0:=HM0.out;omega
        ·have HS:=zAs c _ j2 false [44] X
         rw [hp] at HS
         have hlt:=zAm hp
         have hun:RES=selM c.ts E m2 true u2.dt j2:=by rw [← hd];unfold idxT;rw [if_pos hp]
         obtain⟨m3,rfl⟩:∃m',m2=m'+1:=by
          cases m2 with
          | zero=>exact absurd hun HNE.out
          | succ m=>exact⟨m,rfl⟩
         have hE2:E (j2+1)≠.out:=fun e=>HNE.out (by rw [hun,zGk,e])
         obtain⟨px,py,e1⟩:=zAc (tk c.ts j2).2.1.1 (tk c.ts j2).2.1.2
         obtain⟨ex,ey,e2⟩:=zAc (tk c.ts j2).2.2.1 (tk c.ts j2).2.2.2
         have hle:=X.le
         have hw1:wrap64 ((j2:Int)+1)=(j2:Int)+1:=w64 _ (by omega) (by omega)
         have H:=oH (oA F (oA hun (oA X (oA hT (oA hlt (oA e1 (oA e2 (oA hE2 hme))))))))
         clear F X hT hd hp hlt hun e1 e2 hE2 hme
         simp only [pt,ptrV] at HS ⊢
         go_wp2_with fail
         refine HS.mono ?_
         rintro e w2 ⟨rfl,F2⟩
         have HN:=zAo c w2 j2 false (H.out.2.2.1.up F2) px py ex ey H.out.2.2.2.2.2.1 H.out.2.2.2.2.2.2.1
         have H2:=oH F2
         clear F2 HS
         generalize ((tk c.ts j2).1.k:Int)=t0 at *
         generalize (⟨(tk c.ts j2).1.x.toArray⟩:ByteArray)=t3 at *
         generalize (tk c.ts j2).1.n=t4 at *
         go_wp2_with fail
         refine HN.mono ?_
         rintro e w3 ⟨rfl,F3⟩
         have X3:=(H.out.2.2.1.up H2.out).up F3
         have c1:=X3.c1
         have f1:=X3.f 1
         have H3:=oH (oA (H2.out.on F3) (oA X3 (X3.next H.out.2.2.2.2.1)))
         clear X3 F3 HN H2
         go_upto_region 17 with fail
         obtain⟨w4,hw4⟩:∃w4,w3.setCell ⟨c.R,1,none⟩ (.int .i64 ((j2:Int)+1))=w4:=⟨_,rfl⟩
         have F4:=Fr.set w3 c.R 1 (.int .i64 ((j2:Int)+1))
         rw [hw4] at H3 F4
         try rw [hw4]
         have F04:=(H3.out.1.up0 (N:=[c.R])).on F4
         have HC:=HE.out w4 (j2+1) H3.out.2.2 H.out.2.2.2.2.2.2.2.1
         have H4:=oH F04
         clear F4 F04 hw4 c1 f1
         go_wp2_with fail
         refine HC.mono ?_
         rintro e w5 ⟨o,rfl,F5,hres⟩
         have HNO:=zBk w5 3 3 rfl (tk c.ts j2) [] px py H.out.2.2.2.2.2.1 ⟨#[]⟩ rfl (some u2.p) o _ _ rfl rfl
         have H5:=oH (oA F5 hres)
         obtain⟨ov,hov⟩:∃ov,encP o=ov:=⟨_,rfl⟩
         rw [hov] at HNO ⊢
         clear F5 hres HC hov
         simp only [encP,ptrV] at HNO
         go_wp2_with fail
         refine HNO.mono ?_
         rintro e w6 h6
         have hX0:=HT.out.lt
         have HME:Hid (rfM c.R w6 < rfM c.R wr):=oH (by
          obtain⟨p,v,_,F6,_⟩:=h6
          exact zLy hM H.out.2.2.1 F6 H5.out.2)
         obtain⟨p,rfl,hil,_⟩:=zLx (E:=E) (RES:=RES) (m:=m3) (i:=j2) hX0 (H.out.1.on H4.out) (zAk H.out.2.2.2.1 H4.out (by simp;exact hX0)) H.out.2.1 H5.out.1 H5.out.2 h6
         have HR:=oH hil
         clear h6 hil hX0 HNO
         simp only [ptrV] at HR ⊢
         go_wp2_with fail
         go_roundw
         case rel=>exact⟨HR.out,Nat.lt_trans HME.out H.out.2.2.2.2.2.2.2.2⟩
         case measure=>exact HME.out
       ·have HS:=zAs c _ j2 true [44] X
        have HQ:=fun w F2=>zBq c w j2 true [93] (X.up F2) rfl
        obtain⟨ov,hov⟩:∃ov,encP o2=ov:=⟨_,rfl⟩
        rw [hov]
        have H:=oH (oA F (oA hr (oA X hme)))
        have HQH:=oH HQ
        clear F X hr HQ hov hme
        simp only [pt,Bool.not_true,Bool.false_and] at HS HQH ⊢
        go_wp2_with fail
        refine HS.mono ?_
        rintro e w2 ⟨rfl,F2⟩
        have HN:=HQH.out w2 F2
        have H2:=oH F2
        clear F2 HS HQH
        go_wp2_with fail
        refine HN.mono ?_
        rintro e w3 ⟨rfl,F3,X3⟩
        have HR:Hid (DL c E w RES ov w3):=oH ⟨(H.out.1.on0 H2.out).on F3,.inr ⟨j2,H.out.2.1,X3⟩⟩
        have HME:Hid (rfM c.R w3 < M0):=oH (by rw [zIe X3];have:=H.out.2.2.2;omega)
        clear F3 X3 HN
        go_wp2_with fail
        go_roundw
        case rel=>exact HR.out
        case measure=>have h:=HME.out;have h0:=HM0.out;omega
    ·have HP2:=oH hp
     have HS:=HUp.out w3 H3.out hp
     clear hp HUp HUpN
     go_wp2_with fail
     refine HS.mono ?_
     rintro e w4 ⟨rfl,F4,X4⟩
     have HNO:=zBk w4 4 4 rfl (tk c.ts j) [] px py H.out.2.2.2.2.1 ⟨#[]⟩ rfl (some u.p) none _ _ rfl rfl
     have H4:=oH (oA ((H3.out.up0 (N:=[c.R])).on F4) X4)
     clear F4 X4 HS H3
     simp only [encP,ptrV] at HNO
     go_wp2_with fail
     refine HNO.mono ?_
     rintro e w5 h5
     have hs1:=H.out.1.size
     have hs2:=H4.out.1.size
     obtain⟨p,v,rfl,F5,hp,hK⟩:=NoV.kj (ts:=[u]) h5 (C:=w.heap.size) (by omega) (by simpa using zAk H.out.2.2.2.1 H4.out.1 (by simp;exact hX0.out))
     have HR:Hid (DL c E w RES (.pointer (some ⟨p,0,none⟩)) w5):=oH ⟨(H.out.1.on H4.out.1).on0 F5,.inl ⟨m,.node p (nd 4 (tk c.ts j) [] 0) [u],j+1,by rw [← H.out.2.1,zUd c.ts E m u.dt j HP.out HP2.out];rfl,rfl,H4.out.2.up F5,hK.tree⟩⟩
     have HME:Hid (rfM c.R w5 < rfM c.R wr):=oH (zDh H.out.2.2.1 (H4.out.2.up F5) (fun _=>by omega))
     clear h5 F5 hp hK hs1 hs2 HNO
     simp only [ptrV]
     go_wp2_with fail
     go_roundw
     case rel=>exact HR.out
     case measure=>exact HME.out
   ·have HP:=oH hp
    have HS:=HDot.out w2 H2.out hp
    clear hp HDot HDotN
    go_wp2_with fail
    refine HS.mono ?_
    rintro e w3 ⟨rfl,F3,X3⟩
    have HUN:Hid (RES=(match dotM c.ts u.dt j with | some y=>selM c.ts E m false y (j+2) | none=>.bad (j+1))):=oH (by rw [← H.out.2.1,zIf c.ts E m u.dt j HP.out])
    have H3:=oH (oA ((H2.out.up0 (N:=[c.R])).on F3) X3)
    clear F3 X3 HS H2
    by_cases hk:(tk c.ts (j+1)).1.k=1
    ·have HM:=zIc c w3 (j+1) H3.out.2 hk
     have hkH:=oH hk
     clear hk
     simp only [pt,ptrV] at HM
     go_wp2_with fail
     refine HM.mono ?_
     rintro e w5 ⟨p,v,rfl,F5,X5,hp,hK⟩
     have c2:=X5.c2
     have cn:=hK.name
     have hnx:(nameD (tk c.ts (j+1))).x=(tk c.ts (j+1)).1.x:=rfl
     rw [hnx] at cn
     have HNO:=fun s hs=>zBk w5 2 2 rfl (tk c.ts j) (tk c.ts (j+1)).1.x px py H.out.2.2.2.2.1 s hs (some u.p) none _ _ rfl rfl
     have HNH:=oH (HNO _ rfl)
     have H5:=oH (oA F5 X5)
     clear F5 X5 hK hp HM HNO hnx
     simp only [encP,ptrV] at HNH ⊢
     generalize (⟨(tk c.ts (j+1)).1.x.toArray⟩:ByteArray)=s3 at *
     go_wp2_with fail
     refine HNH.out.mono ?_
     rintro e w6 h6
     have hs1:=H.out.1.size
     have hs2:=H3.out.1.size
     have hs3:=H5.out.1.size
     obtain⟨p6,v6,rfl,F6,hp6,hK6⟩:=NoV.kj (ts:=[u]) h6 (C:=w.heap.size) (by omega) (by simpa using zAk (zAk H.out.2.2.2.1 H3.out.1 (by simp;exact hX0.out)) H5.out.1 (by simp;exact hX0.out))
     have HR:Hid (DL c E w RES (.pointer (some ⟨p6,0,none⟩)) w6):=oH ⟨((H.out.1.on H3.out.1).on H5.out.1).on0 F6,.inl ⟨m,.node p6 (nd 2 (tk c.ts j) (tk c.ts (j+1)).1.x 0) [u],j+2,by
      rw [HUN.out]
      unfold dotM
      rw [if_pos hkH.out]
      rfl,rfl,H5.out.2.up F6,hK6.tree⟩⟩
     have HME:Hid (rfM c.R w6 < rfM c.R wr):=oH (zDh H.out.2.2.1 (H5.out.2.up F6) (fun _=>by omega))
     clear h6 F6 hp6 hK6 hs1 hs2 hs3
     simp only [ptrV]
     go_wp2_with fail
     go_roundw
     case rel=>exact HR.out
     case measure=>exact HME.out
    ·have HM:=zId c w3 (j+1) false H3.out.2 (.inr hk)
     have hkH:=oH hk
     clear hk
     simp only [pt,encP] at HM
     go_wp2_with fail
     refine HM.mono ?_
     rintro e w5 ⟨rfl,F5,X5⟩
     have c2:=X5.c2
     have H5:=oH (oA F5 X5)
     clear F5 X5 HM
     go_wp2_with fail
     go_ret
     refine Tl.mk_bad (o:=none) rfl ?_ ((H.out.1.on H3.out.1).on H5.out.1) H5.out.2
     rw [HUN.out]
     unfold dotM
     rw [if_neg hkH.out]
  ·have c2:=X.c2
   have H:=oH (oA F (oA hr X))
   clear F X hr
   go_wp2_with fail
   go_ret
   exact Tl.mk_bad (o:=none) rfl H.out.2.1 H.out.1 H.out.2.2
end Go.Proofs.YtepfknfadpkigaaGreat
end
