/- Several texts in one. -/
import Derived.Test.YtepfknfadpkigaaGreatPkAA
import Derived.Test.YtepfknfadpkigaaGreatPkAK
import Derived.Deep.LoopGhost
set_option linter.unusedVariables false
set_option linter.unusedSimpArgs false
section
namespace Go.Proofs.YtepfknfadpkigaaGreat
open Go.RowKit Go.Shelf
attribute [local go_sem] Oper.semAt_some
set_option maxHeartbeats 2000000
set_option maxRecDepth 100000
theorem Fc.low {B B':Nat} {N:List Nat} {w w':World} (h:Fc B N w w') (hB:B'≤B):Fc B' N w w':=⟨h.os,h.tape,h.output,h.size,fun k hk=>h.old k (by omega),h.block⟩
theorem nw_P {w w':World} {p:Nat} {d:ND} {os:List (Option Tr)} {v:Value} {out:List Tr} (h:NS w p d os w' v out) {P:Nat→Prop} (hT:∀t,some t ∈ os→IsT w P t):IsT w' (fun j=>P j∨w.heap.size≤j) (.node p d out):=by
 refine⟨.inr h.p,⟨v,h.n,h.r.keep (fun j hj _=>.inr hj) (fun _ _ _=>rfl)⟩,IsTL.of fun t ht=>?_⟩
 rcases h.l t ht with h1 | ⟨g,rfl,h2,h3⟩
 ·exact(hT t h1).keep (fun j hj _=>.inl hj) (fun j _ hl=>h.b.block j hl)
 ·exact⟨.inr (Nat.le_trans h.p (Nat.le_of_lt h2)),⟨_,h3,⟨World.ownsRow_nil _ _ _ _,fun g hg=>(by cases hg)⟩⟩,trivial⟩
theorem zZo (w:World) (t:TK) (u:Tr) (av:Value) (P:Nat→Prop) (hA:ArgL w av [some u]) (hT:IsT w P u) (hx:t.1.x.length≤65536) (pv:Value) (hp:posV t.2.1.1 t.2.1.2=pv) (s:ByteArray) (hs:(⟨t.1.x.toArray⟩:ByteArray)=s) :
  Calls Tryz.prog 31 #[.int .u8 12,pv,.string s,.int .i64 0,av] w fun e w'=>∃u',e=.returned (ptrV u'.p)∧Fr [] w w'∧IsT w' (fun j=>P j∨w.heap.size≤j) u'∧u'.dt=.node (nd 12 t t.1.x 0) [u.dt]:=by
 subst hp;subst hs
 refine(zNu w (nd 12 t t.1.x 0) av [some u] (by simp only [nd];omega) hA (by simp)).mono ?_
 rintro e w' ⟨p,v,out,rfl,ns⟩
 refine⟨.node p (nd 12 t t.1.x 0) out,rfl,Fr.of_below ns.b,nw_P ns (fun t' ht=>by
  obtain rfl:t'=u:=by simpa using ht
  exact hT),?_⟩
 have hl:=ns.f.len
 have h2:=zOd ns (b:=0) (fun t' ht=>by
  obtain rfl:t'=u:=by simpa using ht
  exact hT.keep (fun _ _ _=>Nat.zero_le _) (fun _ _ _=>rfl)) (Nat.zero_le _)
 exact h2.2
def wrapL (l:List TK) (x:DT):DT:=l.foldr (fun t y=>.node (nd 12 t t.1.x 0) [y]) x
theorem zJf (v:Value) (w:World) (hv:∃q n cap,v=.slice q n cap) :
  Calls Tryz.prog 137 #[v] w fun e w'=>e=.returned (.func (.func 149) #[] #[pt w.heap.size])∧w'=w.alloc (.cells #[v] 24):=by
 obtain⟨q,n,cap,rfl⟩:=hv
 go_enter Tryz.func137,Tryz.ntmps137
 go_wp2_with fail
 go_ret
 exact⟨rfl,rfl⟩
structure AI (b bx:Nat) (W0:World) (l:List TK) (x:DT) (k:Nat) (W:World):Prop where
 ex:∃u:Tr,Var W bx 26 (ptrV u.p)∧IsT W (fun q=>b≤q∧q≠bx) u∧u.dt=wrapL (l.drop (l.length - k)) x
 f:Fc bx [bx] W0 W
 kn:Kn W0 W
theorem zVs {B:Nat} {w w':World} {P:Nat→Prop} {t:Tr} (h:IsT w P t) (hF:Fc B [] w w'):IsT w' P t:=by
 have h0:IsT w (0≤·) t:=h.keep (fun _ _ _=>Nat.zero_le _) (fun _ _ _=>rfl)
 exact zGe hF (by simp) (h0.fc hF (by simp)) h h0
theorem AI.bears (b bx:Nat) (W0:World) (hbx:bx≤W0.heap.size) (l:List TK) (x:DT) (k:Nat):BearsB W0.heap.size (AI b bx W0 l x k):=fun X Y h hF=>by
 obtain⟨⟨u,h1,h2,h3⟩,f,kn⟩:=h
 exact⟨⟨u,h1.fc hF (by simp),zVs h2 hF,h3⟩,f.on (hF.low hbx).up,fun j o ho hs=>(hF.old j (zAd ho)).trans (kn j o ho hs)⟩
theorem qCw (c:Cx) (bl bd j b:Nat) (done:FV) (Post:World→Prop) (l:List TK) (v:Value) (x:Tr) (w:World) (hX:RX c w j) (hbl:Var w bl 24 v) (hrow:RowAt w w.heap.size v l) (hll:l.length≤16384) (htx:∀t ∈ l,t.1.x.length≤65536)
  (hbd:Var w bd 124 done.val) (hx:IsT w (b≤·) x) (hb:b≤w.heap.size) (hG:∀u w',Fc c.B [] w w'→IsT w' (b≤·) u→u.dt=wrapL l x.dt→Goes c.B done (ptrV u.p) w' Post) :
  Calls Tryz.prog 136 #[ptrV x.p,pt bl,pt bd] w (GP c.B Post w):=by
 refine(callsIn_wide (n:=9)).1 ?_
 refine callsIn_of_wp_marks Tryz.func136 rfl trivial ?_ rfl
 simp only [Tryz.ntmps136,List.size_toArray,List.length_cons,List.length_nil,Nat.reduceAdd,Nat.reduceSub,Array.replicate_succ,Array.replicate_zero,List.push_toArray,List.append_toArray,List.nil_append,List.cons_append]
 obtain⟨w0,hw0⟩:∃w0,w.alloc (.cells #[.pointer (some ⟨x.p,0,none⟩)] 26)=w0:=⟨_,rfl⟩
 have F0:Fr [] w w0:=by rw [← hw0];exact Fr.alloc _ _
 have hx0:Var w0 w.heap.size 26 (ptrV x.p):=by rw [← hw0];exact heap_alloc_new _ _
 have hs0:w0.heap.size=w.heap.size+1:=by rw [← hw0];simp
 have hl0:=hbl.keep F0 (by simp)
 have cl:=hl0.c
 have hvf:∃q n cap,v=.slice q n cap:=by
  obtain⟨q,cap,h1,_⟩:=hrow
  exact⟨_,_,_,h1⟩
 have HBk:=zJf v w0 hvf
 simp only [ptrV,pt] at HBk ⊢
 refine(wpIn_wide (n:=9)).2 ?_
 go_wp2_with fail
 refine HBk.mono ?_
 rintro e w1 ⟨rfl,rfl⟩
 go_wp2_with fail
 obtain⟨W0,hW0⟩:∃W0,w0.alloc (.cells #[v] 24)=W0:=⟨_,rfl⟩
 have FW:Fr [] w0 W0:=by rw [← hW0];exact Fr.alloc _ _
 have hvW:Var W0 (w.heap.size+1) 24 v:=by rw [← hW0,← hs0];exact heap_alloc_new _ _
 have hsW:W0.heap.size=w.heap.size+2:=by rw [← hW0];simp [hs0]
 rw [hW0]
 have FF:=F0.trans FW (by simp)
 have XW:=hX.keep FF
 have hxW:=hx0.keep FW (by simp)
 have hdW:=hbd.keep FF (by simp)
 have hrW:RowAt W0 w.heap.size v l:=hrow.fc (Fc.of_fr FF (by simp) (Nat.le_refl _))
 have hxT:IsT W0 (fun q=>b≤q∧q≠w.heap.size) x:=hx.keep (fun q hq hl=>⟨hq,by omega⟩) (fun q hq hl=>FF.block q hl (by simp))
 have IT:∀W,W0.grownBy W none→IterB w.heap.size (9 - 1) 149 l.length (bkF l) #[pt (w.heap.size+1)] W:=fun W hg =>
  zVr w.heap.size 8 (w.heap.size+1) (by omega) l hll v W (by omega) (hvW.keep (Fr.of_grown hg) (by simp)) (hrW.fc (zHv hg (by omega)))
 have H0:AI b w.heap.size W0 l x.dt 0 W0:=⟨⟨x,hxW,hxT,by simp [wrapL]⟩,Fc.refl _ _ _,Kn.refl _⟩
 have HD:=oH (oA hX (oA FF (oA hdW hG)))
 have hbW:b≤w.heap.size:=hb
 clear hX hbl hrow hbd hx hG F0 hx0 hl0 cl HBk FW XW hdW hrW hxT hxW hvW hw0 hW0 FF
 refine(wpIn_wide (n:=9)).1 ?_
 refine zVq w.heap.size (by omega) 9 149 #[pt (w.heap.size+1)] l.length (bkF l) rfl (enters_of Tryz.func149 (by kernel_rfl) rfl) IT rfl
  (AI b w.heap.size W0 l x.dt) (fun k=>AI.bears b w.heap.size W0 (by omega) l x.dt k) H0
  (fun k a' Y=>∃(T:Nat) (i:Value) (px py ex ey:Nat),posV (tk l (l.length - 1 - k)).2.1.1 (tk l (l.length - 1 - k)).2.1.2=.complex .f64 px py∧W0.heap.size≤T∧TkAt Y T (tk l (l.length - 1 - k)) (.complex .f64 px py) (.complex .f64 ex ey) ∧
   a'={ tmps:=#[.pointer (some ⟨x.p,0,none⟩),.pointer (some ⟨bl,0,none⟩),.pointer (some ⟨bd,0,none⟩),.pointer (some ⟨w.heap.size,0,none⟩),.nilFunc,undef,.pointer (some ⟨T,0,none⟩),v,.func (.func 149) #[] #[.pointer (some ⟨w.heap.size+1,0,none⟩)],i,tkV (tk l (l.length - 1 - k)),undef,undef,undef,undef,undef,undef,undef,undef,undef,undef],defers:=[] })
  (fun k a' X Y h hF=>?bears) ?assign ?body ?done
 case bears =>
  obtain⟨T,i,px,py,ex,ey,h1,h2,h3,h4⟩:=h
  exact⟨T,i,px,py,ex,ey,h1,h2,hF.block T _ h3 rfl (by simp),h4⟩
 case assign =>
  intro ly k X K hk hXs hK
  obtain⟨px,py,ex,ey,hpx,hex⟩:=tkE (tk l (l.length - 1 - k))
  have htk:=zCx hpx hex
  have hsc:=fun w a x y m=>zAg (P:=Tryz.prog) w a .f64 x y m
  have HKK:=oH hK
  have HT:=oH (oA hpx htk)
  clear hK hpx hex
  simp only [bkF]
  rw [htk]
  gi_wp2
  refine HKK.out _ _ (World.grownBy_alloc X _ none) ⟨X.heap.size,.int .i64 ((l.length - 1 - k:Nat):Int),px,py,ex,ey,HT.out.1,hXs,heap_alloc_new _ _,?_⟩
  rw [HT.out.2]
 case body =>
  rintro ly k a' X hk ⟨⟨u,hV,hT,hd⟩,hF,hkn⟩ ⟨T,iv,px,py,ex,ey,hpx,hTT,htk,rfl⟩
  have hkl:l.length - 1 - k < l.length:=by omega
  obtain⟨t,ht⟩:∃t,tk l (l.length - 1 - k)=t:=⟨_,rfl⟩
  have htm:t ∈ l:=by rw [← ht];exact List.mem_of_getElem? (zFw hkl)
  have hdr:l.drop (l.length - (k+1))=t::l.drop (l.length - k):=by
   have e1:l.length - (k+1)=l.length - 1 - k:=by omega
   have e2:l.length - k=l.length - 1 - k+1:=by omega
   rw [e1,e2,List.drop_eq_getElem_cons hkl]
   congr 1
   have:=zFw hkl
   rw [List.getElem?_eq_getElem hkl,ht] at this
   exact Option.some.inj this
  rw [ht] at hpx htk ⊢
  have c1:X.cell? ⟨T,1,none⟩=some (.complex .f64 px py):=by rw [Lib.cell_of_heap htk];rfl
  obtain⟨t3,h3⟩:∃t3:ByteArray,(⟨t.1.x.toArray⟩:ByteArray)=t3:=⟨_,rfl⟩
  have c3:X.cell? ⟨T,3,none⟩=some (.string t3):=by rw [Lib.cell_of_heap htk,← h3];rfl
  have cx:=hV.c
  have F1:=Fr.alloc X (.cells #[.pointer (some ⟨u.p,0,none⟩)] 26)
  have hT1:IsT (X.alloc (.cells #[.pointer (some ⟨u.p,0,none⟩)] 26)) (fun q=>b≤q∧q≠w.heap.size) u:=hT.keep (fun _ h _=>h) (fun q _ hl=>F1.block q hl (by simp))
  have HN:=zZo (X.alloc (.cells #[.pointer (some ⟨u.p,0,none⟩)] 26)) t u _ (fun q=>b≤q∧q≠w.heap.size) (zIy X u) hT1 (htx t htm) _ hpx t3 h3
  have HH:=oH (oA hV (oA hF (oA hkn (oA F1 (oA hd hdr)))))
  have hVl:=hV.lt
  have htkV:∃tv,tkV t=tv:=⟨_,rfl⟩
  obtain⟨tv,htv⟩:=htkV
  rw [htv]
  clear hV hF hkn F1 hT1 hT hd hdr htk hpx ht htm h3 htv H0 IT
  simp only [ptrV] at cx
  gi_wp2_with (refine⟨trivial,?_⟩;gi_at_call 31;refine(CallsIn.inRound ly (callsIn_wide.2 HN)).mono ?_;rintro e Y ⟨u',rfl,F2,hT',hd'⟩;have hVY:=(HH.out.1.keep HH.out.2.2.2.1 (by simp)).keep F2 (by simp);have cy:=hVY.c;have fy:=hVY.f;simp only [ptrV])
  obtain⟨hV,hF,hkn,F1,hd,hdr⟩:=HH.out
  have F12:=F1.trans F2 (by simp)
  have F3:=Fr.set Y w.heap.size 0 (.pointer (some ⟨u'.p,0,none⟩))
  have F13:Fr [w.heap.size] X (Y.setCell ⟨w.heap.size,0,none⟩ (.pointer (some ⟨u'.p,0,none⟩))):=(F12.mono (by simp)).trans F3 (fun j hj=>.inl hj)
  have hKn:Kn X (Y.setCell ⟨w.heap.size,0,none⟩ (.pointer (some ⟨u'.p,0,none⟩))):=Kn.of_fr F13 (fun j hj o ho=>by
   obtain rfl:j=w.heap.size:=by simpa using hj
   rw [show X.heap[w.heap.size]?=_ from hV] at ho
   cases ho;rfl)
  have hFc:Fc w.heap.size [w.heap.size] X (Y.setCell ⟨w.heap.size,0,none⟩ (.pointer (some ⟨u'.p,0,none⟩))):=Fc.of_fr F13 (by simp) (Nat.le_of_lt hVl)
  have hs1:=F1.size
  refine⟨hKn,⟨⟨u',hVY.set _,hT'.keep (fun q hq hl=>?_) (fun q hq hl=>F3.block q hl ?_),?_⟩,hF.on hFc,hkn.trans hKn⟩,hFc⟩
  ·rcases hq with h | h
   ·exact h
   ·exact⟨by omega,by omega⟩
  ·simp
   rintro rfl
   rcases hq with h | h
   ·exact h.2 rfl
   ·omega
  ·rw [hd',hd,hdr];rfl
 case done =>
  rintro D W hD ⟨⟨u,hV,hT,hd⟩,hF,hkn⟩ hK
  obtain⟨hX,FF,hdW,hG⟩:=HD.out
  have hcB:=hX.hB
  have FcW:Fc c.B [] w W:=(hX.fc FF).trans (hF.low (by omega)) (fun q hq=>.inr (by simp at hq;omega))
  obtain⟨hEn,hC⟩:=hG u W FcW (hT.keep (fun q hq hl=>hq.1) (fun _ _ _=>rfl)) (by rw [hd];simp)
  have hRn:=zAe hEn
  have cx:=hV.c
  have cd:=zBz hdW hkn
  have HK:=oH (oA ((Kn.fr0 FF).trans hkn) (oA hK hX))
  clear hEn hV hT hd hF hkn hX FF hdW hG FcW H0 IT hK
  simp only [ptrV] at cx hC
  go_wp2_with fail
  refine hC.mono ?_
  rintro e w4 ⟨s,rfl,hk2,hr⟩
  go_wp2_with fail
  have hK4:=hk2 D _ HK.out.2.1 rfl
  refine⟨by simp,.inl ⟨_,_,rfl,run_takeDeferred hK4,?_⟩⟩
  refine⟨_,results_tmp rfl _ _ _,?_⟩
  have hcB2:=HK.out.2.2.hB
  refine zAv (fun q o ho hs=>?_) (fun w2 h2=>hr w2 ((zGf _ (by omega) hK4 rfl).on h2))
  rw [zSc (by have:=zAd ho;omega)]
  exact hk2 q o (HK.out.1 q o ho hs) hs
end Go.Proofs.YtepfknfadpkigaaGreat
namespace Go.Proofs.YtepfknfadpkigaaGreat
open Go.RowKit Go.Shelf
set_option maxHeartbeats 2000000
set_option maxRecDepth 100000
def tkL (ts:List TK) (i k:Nat):List TK:=(List.range k).map fun m=>tk ts (i+m)
theorem zEr (ts:List TK) (i k:Nat):(tkL ts i k).length=k:=by simp [tkL]
theorem zLm (ts:List TK) (i k:Nat):tkL ts i (k+1)=tkL ts i k++[tk ts (i+k)]:=by simp [tkL,List.range_succ]
theorem zPe (l:List TK) (t:TK) (x:DT):wrapL (l++[t]) x=wrapL l (.node (nd 12 t t.1.x 0) [x]):=by simp [wrapL]
theorem zPf (ts:List TK) (i:Nat):∀(k:Nat) (x:DT),wrapL (tkL ts i k) x=wrapM ts i k x
 | 0,x=>rfl
 | k+1,x=>by rw [zLm,zPe,zPf ts i k];rfl
theorem zPg {w:World} {B:Nat} {v:Value} {l:List TK} (h:OwnT w B v l):RowAt w w.heap.size v l:=by
 have hl:=h.lt
 obtain⟨h1,h2⟩:=h
 rcases h2 with⟨rfl,h2⟩ | ⟨g,cap,cur,rfl,e2,e3,e4,e5,e6,e7⟩
 ·refine⟨none,0,by rw [h2],fun i x hx=>?_⟩
  rw [List.eq_nil_of_length_eq_zero h2] at hx
  simp at hx
 ·refine⟨_,cap,rfl,fun i x hx=>?_⟩
  obtain⟨hg1,hg2⟩:=hl g rfl
  have hc:∀k,k < 5→w.cell? ⟨g,i * 5+k,none⟩=(tkCells x)[k]?:=fun k hk=>by
   have hi:i < l.length:=(List.getElem?_eq_some_iff.1 hx).1
   have hrow:w.ownsRow B 71 5 (.slice (some ⟨g,0,none⟩) l.length cap) l.length (l.flatMap tkCells):=⟨h1,.inr ⟨g,cap,cur,rfl,e2,e3,e4,e5,e6,e7⟩⟩
   rw [hrow.cellAt (i * 5+k) (by omega)]
   clear hrow h1 hl e2 e3 e4 e5 e6 e7 hg1 hg2
   induction l generalizing i with
   | nil=>simp at hx
   | cons y r ih =>
    cases i with
    | zero =>
     obtain rfl:y=x:=by simpa using hx
     rw [List.flatMap_cons,List.getElem?_append_left (by show 0 * 5+k < 5;omega)]
     simp
    | succ i =>
     rw [List.flatMap_cons,List.getElem?_append_right (by show 5≤(i+1) * 5+k;omega)]
     have e:(i+1) * 5+k - (tkCells y).length=i * 5+k:=by show (i+1) * 5+k - 5=_;omega
     rw [e]
     exact ih i (by simpa using hx) (by simp at hi;omega)
  exact⟨g,rfl,hg2,hg2,hc 0 (by omega),hc 1 (by omega),hc 2 (by omega),hc 3 (by omega),hc 4 (by omega)⟩
theorem zKi {w:World} {B e size:Nat} {T:TypeId} {v v2:Value} {n:Nat} {xs:List Value} {b:Nat} (h:w.ownsRow B e size v n xs) (hb:Var w b T v2) (hT:T≠e):v.ownBlock≠some b:=by
 rcases h.2 with⟨rfl,_⟩ | ⟨g,cap,cur,rfl,_,hg,_⟩
 ·simp [Value.ownBlock]
 ·intro e
  simp only [Value.ownBlock,Option.some.injEq] at e
  subst e
  have:=hg.symm.trans (show w.heap[g]?=_ from hb)
  simp at this
  exact hT this.2.symm
structure AL (c:Cx) (tb:List (List UInt8 × Nat)) (w:World) (bd bl:Nat) (done:FV) (i M gk:Nat) (wr:World) (k:Nat) (v:Value):Prop where
 n:gk+k=M
 kl:k=0∨i+k≤c.ts.length
 x:RX c wr (i+k)
 f:Fc c.B [c.R] w wr
 kn:Kn w wr
 d:Var wr bd 124 done.val
 l:Var wr bl 24 v
 o:OwnT wr w.heap.size v (tkL c.ts i k)
 ops:opsM c.ts tb M i=k+opsM c.ts tb gk (i+k)
theorem AL.next {c:Cx} {tb:List (List UInt8 × Nat)} {w:World} {bd bl:Nat} {done:FV} {i M gk:Nat} {wr:World} {k:Nat} {v:Value} (hA:AL c tb w bd bl done i M (gk+1) wr k v) (hX:RX c w i) (hbl:w.heap.size≤bl) (hbd:w.heap.size≤bd) (w2:World) (F2:Fr [c.R] wr w2) (X2:RX c w2 (i+k+1)) (hO:isO tb (tk c.ts (i+k))=true) (hlt:i+k < c.ts.length) (o1 o2:Obj) (g cap:Nat) (w5:World)
  (hown:w5.ownsRow w.heap.size 71 5 (.slice (some ⟨g,0,none⟩) (k+1) cap) (k+1) ((tkL c.ts i k).flatMap tkCells++tkCells (tk c.ts (i+k)))) (hgrow:((w2.alloc o1).alloc o2).grownBy w5 v.ownBlock) :
  Var w5 bl 24 v∧AL c tb w bd bl done i M gk (w5.setCell ⟨bl,0,none⟩ (.slice (some ⟨g,0,none⟩) (k+1) cap)) (k+1) (.slice (some ⟨g,0,none⟩) (k+1) cap):=by
 have hRw:=hX.lt
 have hRl:c.R≠bl:=by omega
 have hRd:c.R≠bd:=by omega
 have hge:∀q ∈ obL v,w.heap.size≤q:=fun q hq=>(hA.o.lt q ((zBc v q).1 hq)).1
 have o2':OwnT w2 w.heap.size v (tkL c.ts i k):=zAf hA.o F2 (fun q hq=>by have:=hge q hq;simp;omega)
 have l2:=hA.l.keep F2 (by simp;exact fun e=>hRl e.symm)
 have d2:=hA.d.keep F2 (by simp;exact fun e=>hRd e.symm)
 have hlv:bl ∉ obL v:=fun hm=>zKi o2' l2 (by decide) ((zBc v bl).1 hm)
 have hdv:bd ∉ obL v:=fun hm=>zKi o2' d2 (by decide) ((zBc v bd).1 hm)
 have hdl:bd≠bl:=zOx d2 l2 (by decide)
 have F24:Fr [] w2 ((w2.alloc o1).alloc o2):=(Fr.alloc _ _).trans (Fr.alloc _ _) (by simp)
 have F25:Fr (obL v) w2 w5:=(F24.mono (by simp)).trans (Fr.of_grown hgrow) (fun j hj=>.inl hj)
 have l5:=l2.keep F25 hlv
 have F56:=Fr.set w5 bl 0 (.slice (some ⟨g,0,none⟩) (k+1) cap)
 have F26:Fr (bl::obL v) w2 (w5.setCell ⟨bl,0,none⟩ (.slice (some ⟨g,0,none⟩) (k+1) cap)):=(F25.mono (fun j hj=>List.mem_cons_of_mem _ hj)).trans F56 (fun j hj=>.inl (by simp at hj;simp [hj]))
 have hN:∀q ∈ bl::obL v,w.heap.size≤q:=fun q hq=>by
  rcases List.mem_cons.1 hq with rfl | hq
  ·exact hbl
  ·exact hge q hq
 have hB:=hX.hB
 have G:Fc c.B [c.R] w (w5.setCell ⟨bl,0,none⟩ (.slice (some ⟨g,0,none⟩) (k+1) cap)):=(hA.f.on (hA.x.fcR F2)).trans (Fc.of_fr F26 (fun q hq=>Nat.le_trans hB (hN q hq)) X2.hB) (fun q hq=>.inr (hN q hq))
 have hRN:c.R ∉ bl::obL v:=fun hm=>by have:=hN _ hm;omega
 have hgl:bl≠g:=fun e=>zKi hown l5 (by decide) (by rw [e];rfl)
 refine⟨l5,by have:=hA.n;omega,.inr (by omega),?_,G,?_,?_,l5.set _,?_,?_⟩
 ·exact hX.via G ((F26.block _ X2.lt hRN).trans X2.rd) X2.le
 ·refine hA.kn.trans ((hA.x.knR F2).trans (Kn.of_fr F26 (fun q hq o' ho=>?_)))
  rcases List.mem_cons.1 hq with rfl | hq
  ·rw [show w2.heap[q]?=_ from l2] at ho;cases ho;rfl
  ·rcases o2'.2 with⟨h1,h2⟩ | ⟨g2,cap2,cur,h1,h2,h3,_⟩
   ·rw [h1] at hq;simp [obL,Value.ownBlock] at hq
   ·rw [h1] at hq
    obtain rfl:q=g2:=by simpa [obL,Value.ownBlock] using hq
    rw [h3] at ho;cases ho;rfl
 ·exact d2.keep F26 (by simp;exact⟨hdl,hdv⟩)
 ·have e:=zAf (M:=[bl]) hown F56 (fun q hq=>by
   obtain rfl:q=g:=by simpa [obL,Value.ownBlock] using hq
   simp;exact fun e=>hgl e.symm)
  rw [zLm]
  exact OwnT.next (by rw [zEr];exact e)
 ·rw [hA.ops]
  simp only [opsM,hO,if_true]
  have e:i+(k+1)=i+k+1:=by omega
  rw [e];omega
def fv85 (bl bd:Nat):FV:=⟨136,#[],#[pt bl,pt bd]⟩
theorem qCx:Enters 134:=⟨_,_,Tryz.func134,by kernel_rfl,rfl⟩
theorem qCy:Enters 136:=⟨_,_,Tryz.func136,by kernel_rfl,rfl⟩
theorem zZp (c:Cx) (tb:List (List UInt8 × Nat)) (again:Bool) (next done:FV) (Gn:Nat→Re) (Post:World→Prop) (w:World) (bd bl i b M gk:Nat) (wr:World) (k:Nat) (v:Value) (hn:Lev c next Gn) (hX:RX c w i) (hR:c.R < b) (hb:b≤w.heap.size) (hT:Then c b w (aheadM c.ts tb again Gn i) done Post)
  (hM:M=if again then c.ts.length+1 else 1) (hA:AL c tb w bd bl done i M gk wr k v) (hbl:w.heap.size≤bl) (h0:opsM c.ts tb gk (i+k)=0) (w':World) (F:Fr [] wr w'):Goes c.B next (fv85 bl bd).val w' Post:=by
 have hk:opsM c.ts tb M i=k:=by rw [hA.ops,h0];rfl
 have X':=hA.x.keep F
 have F':Fc c.B [c.R] w w':=hA.f.on (hA.x.fc F).up
 have em:aheadM c.ts tb again Gn i=match Gn (i+k) with
  | .ok x j=>.ok (wrapM c.ts i k x) j
  | .bad j=>.bad j
  | .out=>.out:=by
  unfold aheadM
  rw [← hM,hk]
  cases Gn (i+k) <;> rfl
 have hlen:k≤c.ts.length:=by rcases hA.kl with h | h <;> omega
 refine hn w' (i+k) _ Post b X' hR (by have:=F'.size;omega) ⟨fun d j e u w2 F2 X2 hu hd=>⟨qCy,?_⟩,fun j e w2 F2 X2=>hT.bad j (by rw [em,e]) w2 (F'.on F2) X2,fun e=>hT.no (by rw [em,e])⟩
 show Calls Tryz.prog 136 #[ptrV u.p,pt bl,pt bd] w2 (GP c.B Post w2)
 have F02:=F'.on F2
 have l2:Var w2 bl 24 v:=(hA.l.keep F (by simp)).stay X' F2
 have d2:Var w2 bd 124 done.val:=(hA.d.keep F (by simp)).stay X' F2
 have o2:OwnT w2 w.heap.size v (tkL c.ts i k):=zJa (zAf (M:=[]) hA.o F (by simp)) F2 (fun q hq=>by
  have:=(hA.o.lt q ((zBc v q).1 hq)).1
  have:=hX.lt
  simp;omega)
 refine qCw c bl bd j b done Post (tkL c.ts i k) v u w2 X2 l2 (zPg o2) (by rw [zEr];have:=hX.tl;omega) (fun t ht=>?_) d2 hu (by have:=F02.size;omega) (fun u2 w3 F3 hu2 hd2=>?_)
 ·obtain⟨m,_,rfl⟩:=List.mem_map.1 ht
  exact hX.txt _
 ·refine hT.ok (wrapM c.ts i k d) j (by rw [em,e]) u2 w3 (F02.on F3.up) (X2.keepC F3) hu2 ?_
  rw [hd2,hd,zPf]
theorem zJg (c:Cx) (br bo bn ba mb:Nat) (tb:List (List UInt8 × Nat)) (again:Bool) (next:FV) (Gn:Nat→Re) (hz:tb.lookup []=none) (hS:∀w,c.S w→BB c w br bo bn ba mb tb next again) (hn:Lev c next Gn) :
  Lev c ⟨134,#[],#[pt ba,pt br,pt bo,pt bn]⟩ (aheadM c.ts tb again Gn):=by
 intro w i done Post b hX hR hb hT
 refine⟨qCx,?_⟩
 show Calls Tryz.prog 134 #[done.val,pt ba,pt br,pt bo,pt bn] w (GP c.B Post w)
 obtain⟨M,hM⟩:∃M,M=if again then c.ts.length+1 else 1:=⟨_,rfl⟩
 have hsc:=fun w a x y m=>zAg (P:=Tryz.prog) w a .f64 x y m
 obtain⟨i1,hi,hz0,hz1,hz2⟩:=zFt
 have HA0:Hid (AL c tb w w.heap.size (w.heap.size+1) done i M M ((w.alloc (.cells #[done.val] 124)).alloc (.cells #[.slice none 0 0] 24)) 0 (.slice none 0 0)):=oH (by
  have F1:=Fr.alloc w (.cells #[done.val] 124)
  have F2:=Fr.alloc (w.alloc (.cells #[done.val] 124)) (.cells #[.slice none 0 0] 24)
  have F:=F1.trans F2 (by simp)
  have hd:Var (w.alloc (.cells #[done.val] 124)) w.heap.size 124 done.val:=heap_alloc_new _ _
  have hl:Var ((w.alloc (.cells #[done.val] 124)).alloc (.cells #[.slice none 0 0] 24)) (w.heap.size+1) 24 (.slice none 0 0):=by
   have:=heap_alloc_new (w.alloc (.cells #[done.val] 124)) (.cells #[.slice none 0 0] 24)
   rwa [World.size_alloc] at this
  exact⟨by omega,.inl rfl,hX.keep F,(hX.fc F).up,Kn.fr0 F,hd.keep F2 (by simp),hl,World.ownsRow_nil _ _ _ _,by simp⟩)
 have HH:=oH (oA hX (oA hT (oA hS hn)))
 have HM:=oH hM
 clear hX hT hS hn hM
 obtain⟨df,d1,d2⟩:=done
 simp only [pt]
 go_enter Tryz.func134,Tryz.ntmps134
 go_wp2_with fail
 go_loopg [] M (fun gk wr=>∃(k:Nat) (v:Value),AL c tb w w.heap.size (w.heap.size+1) ⟨df,d1,d2⟩ i M gk wr k v)
 case atStart=>exact⟨0,_,HA0.out⟩
 case round =>
  obtain⟨k,v,hA⟩:=hrel
  clear HA0
  obtain⟨q,cap,rfl⟩:∃q cap,v=.slice q k cap:=by
   rcases hA.o.2 with⟨h1,h2⟩ | ⟨g,cap,cur,h1,_⟩
   ·rw [zEr] at h2
    exact⟨none,0,by rw [h1,h2]⟩
   ·rw [zEr] at h1
    exact⟨_,cap,h1⟩
  obtain⟨hX,hT,hS,hn⟩:=HH.out
  have hB:=hS wr hA.x.st
  have ca:=hB.a.c
  have cr:=hB.r.c
  have co:=hB.o.c
  have cl:=hA.l.c
  have hon:=fun h0=>zZp c tb again next ⟨df,d1,d2⟩ Gn Post w w.heap.size (w.heap.size+1) i b M gk wr k _ hn hX hR hb hT HM.out hA (by omega) h0
  cases again with
  | false =>
   by_cases hk0:k=0
   ·have hkk:((k:Int) == 0)=true:=by rw [hk0];rfl
    cases ho:isO tb (tk c.ts (i+k)) with
    | false =>
     have HO:=zJz c wr (i+k) mb tb hA.x hB.m ho
     have hzt:tkV zTK=.agg #[.int .u8 0,.complex .f64 0 0,.complex .f64 0 0,.string ⟨#[]⟩,.int .i64 0]:=rfl
     rw [hzt] at HO
     have hG:=hon (by cases gk with | zero=>rfl | succ g=>simp [opsM,ho])
     have HG:=oH (oA hG (oA hB.n hA.kn))
     clear hX hT hS hn hA hB ho hzt HH hG hon
     go_wp2_with fail
     refine HO.mono ?_
     rintro e w1 ⟨rfl,F1⟩
     have HF1:=oH F1
     clear HO F1 cl cr co ca
     go_upto_region 6 with fail
     obtain⟨w2,hw2⟩:∃w2,w1.alloc (.cells #[.int .u8 0,.complex .f64 0 0,.complex .f64 0 0,.string ⟨#[]⟩,.int .i64 0] 71)=w2:=⟨_,rfl⟩
     have F2:Fr [] wr w2:=by rw [← hw2];exact HF1.out.trans (Fr.alloc _ _) (by simp)
     rw [hw2]
     have cn:=(HG.out.2.1.keep F2 (by simp)).c
     have HK:=oH (HG.out.2.2.trans (Kn.fr0 F2))
     obtain⟨hE,hC⟩:=HG.out.1 w2 F2
     have hRn:=zAe hE
     clear hE F2 hw2
     simp only [fv85,pt] at hC
     go_wp2_with fail
     refine hC.mono ?_
     rintro e w' ⟨s,rfl,hk2,hr⟩
     go_wp2_with fail
     go_ret
     exact zAv (HK.out.trans hk2) hr
    | true =>
     obtain⟨g0,rfl⟩:∃g0,gk=g0+1:=⟨gk - 1,by have:=hA.n;have:=HM.out;simp at this;omega⟩
     clear hon hk0
     have HO:=zOg c wr (i+k) mb tb hA.x hB.m hz ho
     have hlt:=zCb hz ho
     obtain⟨px,py,ex,ey,hpx,hex⟩:=tkE (tk c.ts (i+k))
     have htk:=zCx hpx hex
     obtain⟨t3,h3⟩:∃t3:ByteArray,(⟨(tk c.ts (i+k)).1.x.toArray⟩:ByteArray)=t3:=⟨_,rfl⟩
     obtain⟨k0,hk0⟩:∃k0:Nat,(tk c.ts (i+k)).1.k=k0:=⟨_,rfl⟩
     obtain⟨n0,hn0⟩:∃n0:Int,(tk c.ts (i+k)).1.n=n0:=⟨_,rfl⟩
     have hcell:tkCells (tk c.ts (i+k))=[.int .u8 k0,.complex .f64 px py,.complex .f64 ex ey,.string t3,.int .i64 n0]:=by unfold tkCells;rw [hpx,hex,h3,hk0,hn0]
     rw [htk,h3,hk0,hn0] at HO
     have HL:=oH (oA hA (oA hB (oA ho (oA hlt hcell))))
     have HX:=oH hX
     clear hX hT hS hn hA hB ho hlt hpx hex htk hcell hk0 hn0 h3 HH
     go_wp2_with fail
     refine HO.mono ?_
     rintro e w1 ⟨rfl,F1,X1⟩
     have HF1:=oH (oA F1 X1)
     have hs1:=F1.size
     have hsz:w.heap.size+1 < wr.heap.size:=HL.out.1.l.lt
     clear HO F1 X1 cl cr co ca
     go_upto_region 5 with fail
     obtain⟨w2,hw2⟩:∃w2,w1.alloc (.cells #[.int .u8 k0,.complex .f64 px py,.complex .f64 ex ey,.string t3,.int .i64 n0] 71)=w2:=⟨_,rfl⟩
     have F2:Fr [] w1 w2:=by rw [← hw2];exact Fr.alloc _ _
     have T2:w2.heap[w1.heap.size]?=some (.cells #[.int .u8 k0,.complex .f64 px py,.complex .f64 ex ey,.string t3,.int .i64 n0] 71 (0,0)):=by rw [← hw2];exact heap_alloc_new _ _
     have hs2:w2.heap.size=w1.heap.size+1:=by rw [← hw2];simp
     rw [hw2]
     have cl2:=((HL.out.1.l.keep HF1.out.1 (by have:=HX.out.lt;simp;omega)).keep F2 (by simp)).c
     have ow2:w2.ownsRow w.heap.size 71 5 (.slice q k cap) k ((tkL c.ts i k).flatMap tkCells):=by
      have:=zAf (zAf HL.out.1.o HF1.out.1 (fun x hx=>by have:=(HL.out.1.o.lt x ((zBc _ x).1 hx)).1;have:=HX.out.lt;simp;omega)) F2 (by simp)
      rwa [zEr] at this
     have a0:w2.cell? ⟨w1.heap.size,0,none⟩=some (.int .u8 k0):=by rw [Lib.cell_of_heap T2];rfl
     have a1:w2.cell? ⟨w1.heap.size,1,none⟩=some (.complex .f64 px py):=by rw [Lib.cell_of_heap T2];rfl
     have a2:w2.cell? ⟨w1.heap.size,2,none⟩=some (.complex .f64 ex ey):=by rw [Lib.cell_of_heap T2];rfl
     have a3:w2.cell? ⟨w1.heap.size,3,none⟩=some (.string t3):=by rw [Lib.cell_of_heap T2];rfl
     have a4:w2.cell? ⟨w1.heap.size,4,none⟩=some (.int .i64 n0):=by rw [Lib.cell_of_heap T2];rfl
     have hk16:k≤16384:=by have:=HL.out.1.kl;have:=HX.out.tl;omega
     have hsr:=ow2.alloc (.cells #[.int .u8 k0,.complex .f64 px py,.complex .f64 ex ey,.string t3,.int .i64 n0] 71)
     have HN1:=oH (zUw w2 (.int .u8 k0) (.complex .f64 px py) (.complex .f64 ex ey) (.string t3) (.int .i64 n0) 71)
     have hs22:w.heap.size+1 < w2.heap.size:=by omega
     have HW2:=oH (oA hw2 hs2)
     clear hw2 F2 T2 ow2 hs2
     go_wp2_with (at_builtin;refine wpList_append_lies _ rfl _ _ 24 rfl w.heap.size 71 i1 (.agg #[.int .u8 0,.complex .f64 0 0,.complex .f64 0 0,.string ⟨#[]⟩,.int .i64 0]) 5 64 Tryz.underlying24 hi hz0 hz1 hz2 rfl (by decide) (.slice q k cap) k _ rfl hsr ⟨w2.heap.size,0,none⟩ 1 1 [.int .u8 k0,.complex .f64 px py,.complex .f64 ex ey,.string t3,.int .i64 n0] rfl rfl HN1.out (one5 _ _ _ _ _ rfl rfl rfl rfl rfl) (by decide) (by unfold maxLen;omega) (by omega) (by simp <;> omega) (w2.heap.size+1) (by simp) ?_;intro g cap5 w5 hown hgrow hat hlt3;have hst:=HL.out.1.next HX.out (by omega) (by omega) w1 HF1.out.1 HF1.out.2 HL.out.2.2.1 HL.out.2.2.2.1 (.cells #[.int .u8 k0,.complex .f64 px py,.complex .f64 ex ey,.string t3,.int .i64 n0] 71) (.cells #[.int .u8 k0,.complex .f64 px py,.complex .f64 ex ey,.string t3,.int .i64 n0] 71) g cap5 w5 (by rw [HL.out.2.2.2.2];exact hown) (by rw [HW2.out.1];exact hgrow);have c5:=hst.1.c;have f5:=hst.1.f;have HS:=oH hst.2;clear hst hown hgrow hat)
     go_roundg g0
     case measure=>omega
     case rel=>exact⟨k+1,_,HS.out⟩
   ·have hG:=hon (by have:=hA.n;have:=HM.out;simp at this;have:gk=0:=by omega
                     subst this;rfl)
    have HG:=oH (oA hG (oA hB.n hA.kn))
    have cn:=hB.n.c
    obtain⟨hE,hC⟩:=HG.out.1 wr (Fr.refl _ _)
    have hRn:=zAe hE
    have hkk:((k:Int) == 0)=false:=beq_eq_false_iff_ne.2 (by omega)
    clear hX hT hS hn hA hB HH hG hon hE
    simp only [fv85,pt] at hC
    go_wp2_with fail
    refine hC.mono ?_
    rintro e w' ⟨s,rfl,hk2,hr⟩
    go_wp2_with fail
    go_ret
    exact zAv (HG.out.2.2.trans hk2) hr
  | true =>
   cases ho:isO tb (tk c.ts (i+k)) with
   | false =>
    have HO:=zJz c wr (i+k) mb tb hA.x hB.m ho
    have hzt:tkV zTK=.agg #[.int .u8 0,.complex .f64 0 0,.complex .f64 0 0,.string ⟨#[]⟩,.int .i64 0]:=rfl
    rw [hzt] at HO
    have hG:=hon (by cases gk with | zero=>rfl | succ g=>simp [opsM,ho])
    have HG:=oH (oA hG (oA hB.n hA.kn))
    clear hX hT hS hn hA hB ho hzt HH hG hon
    go_wp2_with fail
    refine HO.mono ?_
    rintro e w1 ⟨rfl,F1⟩
    have HF1:=oH F1
    clear HO F1 cl cr co ca
    go_upto_region 6 with fail
    obtain⟨w2,hw2⟩:∃w2,w1.alloc (.cells #[.int .u8 0,.complex .f64 0 0,.complex .f64 0 0,.string ⟨#[]⟩,.int .i64 0] 71)=w2:=⟨_,rfl⟩
    have F2:Fr [] wr w2:=by rw [← hw2];exact HF1.out.trans (Fr.alloc _ _) (by simp)
    rw [hw2]
    have cn:=(HG.out.2.1.keep F2 (by simp)).c
    have HK:=oH (HG.out.2.2.trans (Kn.fr0 F2))
    obtain⟨hE,hC⟩:=HG.out.1 w2 F2
    have hRn:=zAe hE
    clear hE F2 hw2
    simp only [fv85,pt] at hC
    go_wp2_with fail
    refine hC.mono ?_
    rintro e w' ⟨s,rfl,hk2,hr⟩
    go_wp2_with fail
    go_ret
    exact zAv (HK.out.trans hk2) hr
   | true =>
    obtain⟨g0,rfl⟩:∃g0,gk=g0+1:=⟨gk - 1,by have:=hA.n;have:=hA.kl;have:=HM.out;simp at this;omega⟩
    clear hon
    have HO:=zOg c wr (i+k) mb tb hA.x hB.m hz ho
    have hlt:=zCb hz ho
    obtain⟨px,py,ex,ey,hpx,hex⟩:=tkE (tk c.ts (i+k))
    have htk:=zCx hpx hex
    obtain⟨t3,h3⟩:∃t3:ByteArray,(⟨(tk c.ts (i+k)).1.x.toArray⟩:ByteArray)=t3:=⟨_,rfl⟩
    obtain⟨k0,hk0⟩:∃k0:Nat,(tk c.ts (i+k)).1.k=k0:=⟨_,rfl⟩
    obtain⟨n0,hn0⟩:∃n0:Int,(tk c.ts (i+k)).1.n=n0:=⟨_,rfl⟩
    have hcell:tkCells (tk c.ts (i+k))=[.int .u8 k0,.complex .f64 px py,.complex .f64 ex ey,.string t3,.int .i64 n0]:=by unfold tkCells;rw [hpx,hex,h3,hk0,hn0]
    rw [htk,h3,hk0,hn0] at HO
    have HL:=oH (oA hA (oA hB (oA ho (oA hlt hcell))))
    have HX:=oH hX
    clear hX hT hS hn hA hB ho hlt hpx hex htk hcell hk0 hn0 h3 HH
    go_wp2_with fail
    refine HO.mono ?_
    rintro e w1 ⟨rfl,F1,X1⟩
    have HF1:=oH (oA F1 X1)
    have hs1:=F1.size
    have hsz:w.heap.size+1 < wr.heap.size:=HL.out.1.l.lt
    clear HO F1 X1 cl cr co ca
    go_upto_region 5 with fail
    obtain⟨w2,hw2⟩:∃w2,w1.alloc (.cells #[.int .u8 k0,.complex .f64 px py,.complex .f64 ex ey,.string t3,.int .i64 n0] 71)=w2:=⟨_,rfl⟩
    have F2:Fr [] w1 w2:=by rw [← hw2];exact Fr.alloc _ _
    have T2:w2.heap[w1.heap.size]?=some (.cells #[.int .u8 k0,.complex .f64 px py,.complex .f64 ex ey,.string t3,.int .i64 n0] 71 (0,0)):=by rw [← hw2];exact heap_alloc_new _ _
    have hs2:w2.heap.size=w1.heap.size+1:=by rw [← hw2];simp
    rw [hw2]
    have cl2:=((HL.out.1.l.keep HF1.out.1 (by have:=HX.out.lt;simp;omega)).keep F2 (by simp)).c
    have ow2:w2.ownsRow w.heap.size 71 5 (.slice q k cap) k ((tkL c.ts i k).flatMap tkCells):=by
     have:=zAf (zAf HL.out.1.o HF1.out.1 (fun x hx=>by have:=(HL.out.1.o.lt x ((zBc _ x).1 hx)).1;have:=HX.out.lt;simp;omega)) F2 (by simp)
     rwa [zEr] at this
    have a0:w2.cell? ⟨w1.heap.size,0,none⟩=some (.int .u8 k0):=by rw [Lib.cell_of_heap T2];rfl
    have a1:w2.cell? ⟨w1.heap.size,1,none⟩=some (.complex .f64 px py):=by rw [Lib.cell_of_heap T2];rfl
    have a2:w2.cell? ⟨w1.heap.size,2,none⟩=some (.complex .f64 ex ey):=by rw [Lib.cell_of_heap T2];rfl
    have a3:w2.cell? ⟨w1.heap.size,3,none⟩=some (.string t3):=by rw [Lib.cell_of_heap T2];rfl
    have a4:w2.cell? ⟨w1.heap.size,4,none⟩=some (.int .i64 n0):=by rw [Lib.cell_of_heap T2];rfl
    have hk16:k≤16384:=by have:=HL.out.1.kl;have:=HX.out.tl;omega
    have hsr:=ow2.alloc (.cells #[.int .u8 k0,.complex .f64 px py,.complex .f64 ex ey,.string t3,.int .i64 n0] 71)
    have HN1:=oH (zUw w2 (.int .u8 k0) (.complex .f64 px py) (.complex .f64 ex ey) (.string t3) (.int .i64 n0) 71)
    have hs22:w.heap.size+1 < w2.heap.size:=by omega
    have HW2:=oH (oA hw2 hs2)
    clear hw2 F2 T2 ow2 hs2
    go_wp2_with (at_builtin;refine wpList_append_lies _ rfl _ _ 24 rfl w.heap.size 71 i1 (.agg #[.int .u8 0,.complex .f64 0 0,.complex .f64 0 0,.string ⟨#[]⟩,.int .i64 0]) 5 64 Tryz.underlying24 hi hz0 hz1 hz2 rfl (by decide) (.slice q k cap) k _ rfl hsr ⟨w2.heap.size,0,none⟩ 1 1 [.int .u8 k0,.complex .f64 px py,.complex .f64 ex ey,.string t3,.int .i64 n0] rfl rfl HN1.out (one5 _ _ _ _ _ rfl rfl rfl rfl rfl) (by decide) (by unfold maxLen;omega) (by omega) (by simp <;> omega) (w2.heap.size+1) (by simp) ?_;intro g cap5 w5 hown hgrow hat hlt3;have hst:=HL.out.1.next HX.out (by omega) (by omega) w1 HF1.out.1 HF1.out.2 HL.out.2.2.1 HL.out.2.2.2.1 (.cells #[.int .u8 k0,.complex .f64 px py,.complex .f64 ex ey,.string t3,.int .i64 n0] 71) (.cells #[.int .u8 k0,.complex .f64 px py,.complex .f64 ex ey,.string t3,.int .i64 n0] 71) g cap5 w5 (by rw [HL.out.2.2.2.2];exact hown) (by rw [HW2.out.1];exact hgrow);have c5:=hst.1.c;have f5:=hst.1.f;have HS:=oH hst.2;clear hst hown hgrow hat)
    go_roundg g0
    case measure=>omega
    case rel=>exact⟨k+1,_,HS.out⟩
end Go.Proofs.YtepfknfadpkigaaGreat
end
