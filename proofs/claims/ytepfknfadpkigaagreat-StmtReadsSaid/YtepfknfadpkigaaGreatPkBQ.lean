/- Several texts in one. -/
import Derived.Test.YtepfknfadpkigaaGreatPkAA
import Derived.Test.YtepfknfadpkigaaGreatPkBP
set_option linter.unusedVariables false
set_option linter.unusedSimpArgs false
section
namespace Go.Proofs.YtepfknfadpkigaaGreat
open Go.RowKit
set_option maxHeartbeats 2000000
set_option maxRecDepth 100000
theorem zYd (c:Sc) (w:World) (i:Nat) (done:FV) (Post:World→Prop) (b:Nat) (hX:SX c w i) (hlt:i < c.ts.length) (hR:c.mb < b) (hb:b≤w.heap.size) (hT:ThS c b w (retM c.ts i) done Post) :
  Calls Tryz.prog 53 #[.pointer (some ⟨c.R,0,none⟩),done.val] w (GQ Post):=by
 obtain⟨px,py,e1⟩:=zAc (tk c.ts i).2.1.1 (tk c.ts i).2.1.2
 obtain⟨ex,ey,e2⟩:=zAc (tk c.ts i).2.2.1 (tk c.ts i).2.2.2
 have hfd:=zBb
 have hsc:=fun w a x y m=>zAg (P:=Tryz.prog) w a .f64 x y m
 have HTK:=zCi c w i hX hlt px py ex ey e1 e2
 have hun:retM c.ts i=if aloB (tk c.ts (i+1))=true then .ok (.node (nd 70 (tk c.ts i) [] 0) []) (i+1) else (E0 c.ts (i+1)).bnd fun x k=>.ok (.node (nd 70 (tk c.ts i) [] 0) [x]) k:=rfl
 rw [hun] at hT
 have hRm:=c.hRm
 have HH:=oH (oA hT (oA hb (oA e1 (show c.R < b by omega))))
 clear hX hlt hR hb hT e1 e2 hun hRm
 generalize ((tk c.ts i).1.k:Int)=t0 at *
 generalize (⟨(tk c.ts i).1.x.toArray⟩:ByteArray)=t3 at *
 generalize (tk c.ts i).1.n=t4 at *
 have hdv:∃df d1 d2,done=⟨df,d1,d2⟩:=⟨_,_,_,rfl⟩
 obtain⟨df,d1,d2,rfl⟩:=hdv
 simp only [FV.val]
 go_enter Tryz.func53,Tryz.ntmps53
 go_wp2_with fail
 refine HTK.mono ?_
 rintro e w1 ⟨rfl,F1,X1⟩
 clear HTK
 have HA:=sAlone c w1 (i+1) X1
 have H1:=oH (oA F1 X1)
 clear F1 X1
 cases ha:aloB (tk c.ts (i+1))
 ·rw [ha] at HA
  have HAB:=oH ha
  clear ha
  go_wp2_with fail
  refine HA.mono ?_
  rintro e w2 ⟨rfl,F2⟩
  have HT:=sTellE c w2 (i+1) (H1.out.2.keep F2)
  have H2:=oH (H1.out.1.on0 F2)
  clear F2 HA
  go_wp2_with fail
  refine HT.mono ?_
  rintro e w3 ⟨o,rfl,F3,⟨d,j,u,hr,rfl,X3,hu,hd⟩ | ⟨j,hr,rfl,X3⟩⟩
  ·have hs2:=H2.out.size
   have hu2:IsT w3 (b≤·) u:=zAt hu (Nat.le_trans HH.out.2.1 hs2)
   have FA:=Fr.alloc w3 (.cells #[.pointer (some ⟨u.p,0,none⟩)] 26)
   have HN:=zBj (w3.alloc (.cells #[.pointer (some ⟨u.p,0,none⟩)] 26)) (nd 70 (tk c.ts i) [] 0) _ [some u] b (zIy w3 u) (by simp) (fun z hz=>by
    have hz:z=u:=by simpa using hz
    subst hz
    exact zAk hu2 FA (by simp)) (Nat.le_trans HH.out.2.1 (Nat.le_trans hs2 (Nat.le_trans F3.size FA.size))) (by simp [nd]) _ HH.out.2.2.1 ⟨#[]⟩ rfl 70 rfl 0 rfl _ rfl
   have H3:=oH (oA ((H2.out.on F3).on0 FA) (oA (X3.keep FA) (oA hr hd)))
   clear HT F3 X3 hu hd hr hu2 FA hs2
   simp only [encP,ptrV]
   go_wp2_with fail
   refine HN.mono ?_
   rintro e w4 ⟨z,rfl,F4,hz,hzd⟩
   have hg:GoQ ⟨df,d1,d2⟩ (ptrV z.p) w4 Post:=by
    have hT:=HH.out.1
    rw [if_neg (by rw [HAB.out];simp),H3.out.2.2.1] at hT
    have hT:ThS c b w (.ok (.node (nd 70 (tk c.ts i) [] 0) [d]) j) ⟨df,d1,d2⟩ Post:=hT
    exact hT.ok _ _ rfl z w4 (H3.out.1.on0 F4) (H3.out.2.1.keep F4) hz (by rw [hzd,← H3.out.2.2.2];rfl)
   obtain⟨hE,hC⟩:=hg
   have hR2:=zAe hE
   clear hE HN F4 hz hzd
   simp only [FV.val,ptrV] at hC ⊢
   go_wp2_with fail
   refine hC.mono ?_
   rintro e w' ⟨s,rfl,hr⟩
   go_wp2_with fail
   go_ret
   exact⟨s,rfl,hr⟩
  ·have HP:Hid (Post w3):=oH (by
    have hT:=HH.out.1
    rw [if_neg (by rw [HAB.out];simp),hr] at hT
    have hT:ThS c b w (.bad j) ⟨df,d1,d2⟩ Post:=hT
    exact hT.bad _ rfl w3 (H2.out.on F3) X3)
   clear HT F3 X3 hr
   simp only [encP]
   go_wp2_with fail
   go_ret
   exact zCd HP.out
 ·rw [ha] at HA
  have HAB:=oH ha
  clear ha
  go_wp2_with fail
  refine HA.mono ?_
  rintro e w2 ⟨rfl,F2⟩
  have HN:=zBj w2 (nd 70 (tk c.ts i) [] 0) _ [] b (zIx w2) (by simp) (by simp) (Nat.le_trans HH.out.2.1 (Nat.le_trans H1.out.1.size F2.size)) (by simp [nd]) _ HH.out.2.2.1 ⟨#[]⟩ rfl 70 rfl 0 rfl _ rfl
  have H2:=oH (oA (H1.out.1.on0 F2) (H1.out.2.keep F2))
  clear F2 HA
  go_wp2_with fail
  refine HN.mono ?_
  rintro e w3 ⟨u,rfl,F3,hu,hd⟩
  have hg:GoQ ⟨df,d1,d2⟩ (ptrV u.p) w3 Post:=by
   have hT:=HH.out.1
   rw [if_pos HAB.out] at hT
   exact hT.ok _ _ rfl u w3 (H2.out.1.on0 F3) (H2.out.2.keep F3) hu (by rw [hd];rfl)
  obtain⟨hE,hC⟩:=hg
  have hR2:=zAe hE
  clear hE HN F3 hu hd
  simp only [FV.val,ptrV] at hC ⊢
  go_wp2_with fail
  refine hC.mono ?_
  rintro e w' ⟨s,rfl,hr⟩
  go_wp2_with fail
  go_ret
  exact⟨s,rfl,hr⟩
theorem sBehS (c:Sc) (w:World) (i:Nat) (e:List UInt8) (h:SX c w i) :
  Calls Tryz.prog 94 #[.pointer (some ⟨c.R,0,none⟩),.int .u8 5,.string ⟨e.toArray⟩] w (TeS c w.heap.size w (behS c.ts e i)):=by
 have hun:behS c.ts e i=if isS (tk c.ts i) e=true then E0 c.ts (i+1) else .bad i:=rfl
 cases hq:isS (tk c.ts i) e
 ·have HK:=zBs c w i e h hq
  rw [hq] at hun
  have H:=oH (oA hun h)
  clear hun h hq
  generalize (⟨e.toArray⟩:ByteArray)=eb at *
  go_enter Tryz.func94,Tryz.ntmps94
  go_wp2_with fail
  refine HK.mono ?_
  rintro er w2 ⟨rfl,F2⟩
  have H2:=oH F2
  clear F2 HK
  go_wp2_with fail
  go_ret
  exact⟨none,rfl,H2.out.up0,.inr ⟨i,by rw [H.out.1];rfl,rfl,H.out.2.keep H2.out⟩⟩
 ·have HK:=zBr c w i e h hq
  rw [hq] at hun
  have H:=oH (oA hun h)
  clear hun h hq
  generalize (⟨e.toArray⟩:ByteArray)=eb at *
  go_enter Tryz.func94,Tryz.ntmps94
  go_wp2_with fail
  refine HK.mono ?_
  rintro er w2 ⟨rfl,F2,X2⟩
  have HT:=sTellE c w2 (i+1) X2
  have H2:=oH F2
  clear F2 X2 HK
  go_wp2_with fail
  refine HT.mono ?_
  rintro er w3 ⟨o,rfl,F3,hres⟩
  obtain⟨ov,hov⟩:∃ov,encP o=ov:=⟨_,rfl⟩
  rw [hov]
  have H3:=oH (oA F3 (oA hres hov))
  clear F3 hres hov HT
  go_wp2_with fail
  go_ret
  obtain⟨F3,hres,hov⟩:=H3.out
  refine⟨o,by rw [hov];rfl,H2.out.on F3,?_⟩
  rw [H.out.1]
  rcases hres with⟨d,j,u,a1,a2,a3,a4,a5⟩ | ⟨j,a1,a2,a3⟩
  ·exact .inl ⟨d,j,u,a1,a2,a3,zAt a4 H2.out.size,a5⟩
  ·exact .inr ⟨j,a1,a2,a3⟩
theorem sBehW (c:Sc) (w:World) (i:Nat) (e:List UInt8) (h:SX c w i) :
  Calls Tryz.prog 94 #[.pointer (some ⟨c.R,0,none⟩),.int .u8 6,.string ⟨e.toArray⟩] w (TeS c w.heap.size w (behW c.ts e i)):=by
 have hun:behW c.ts e i=if isW (tk c.ts i) e=true then E0 c.ts (i+1) else .bad i:=rfl
 cases hq:isW (tk c.ts i) e
 ·have HK:=zBt c w i e h hq
  rw [hq] at hun
  have H:=oH (oA hun h)
  clear hun h hq
  generalize (⟨e.toArray⟩:ByteArray)=eb at *
  go_enter Tryz.func94,Tryz.ntmps94
  go_wp2_with fail
  refine HK.mono ?_
  rintro er w2 ⟨rfl,F2⟩
  have H2:=oH F2
  clear F2 HK
  go_wp2_with fail
  go_ret
  exact⟨none,rfl,H2.out.up0,.inr ⟨i,by rw [H.out.1];rfl,rfl,H.out.2.keep H2.out⟩⟩
 ·have HK:=zBw c w i e h hq
  rw [hq] at hun
  have H:=oH (oA hun h)
  clear hun h hq
  generalize (⟨e.toArray⟩:ByteArray)=eb at *
  go_enter Tryz.func94,Tryz.ntmps94
  go_wp2_with fail
  refine HK.mono ?_
  rintro er w2 ⟨rfl,F2,X2⟩
  have HT:=sTellE c w2 (i+1) X2
  have H2:=oH F2
  clear F2 X2 HK
  go_wp2_with fail
  refine HT.mono ?_
  rintro er w3 ⟨o,rfl,F3,hres⟩
  obtain⟨ov,hov⟩:∃ov,encP o=ov:=⟨_,rfl⟩
  rw [hov]
  have H3:=oH (oA F3 (oA hres hov))
  clear F3 hres hov HT
  go_wp2_with fail
  go_ret
  obtain⟨F3,hres,hov⟩:=H3.out
  refine⟨o,by rw [hov];rfl,H2.out.on F3,?_⟩
  rw [H.out.1]
  rcases hres with⟨d,j,u,a1,a2,a3,a4,a5⟩ | ⟨j,a1,a2,a3⟩
  ·exact .inl ⟨d,j,u,a1,a2,a3,zAt a4 H2.out.size,a5⟩
  ·exact .inr ⟨j,a1,a2,a3⟩
end Go.Proofs.YtepfknfadpkigaaGreat
namespace Go.Proofs.YtepfknfadpkigaaGreat
open Go.RowKit
set_option maxHeartbeats 4000000
set_option maxRecDepth 100000
structure AgI (c:Sc) (w0 w:World) (v:Value) (us:List Tr) (j:Nat):Prop where
 f:Fr [c.R] w0 w
 x:SX c w j
 row:w.ownsRow 0 26 1 v us.length (us.map fun t=>ptrV t.p)
 t:∀t ∈ us,IsT w (fun q=>w0.heap.size≤q∧q ∉ obL v) t
 own:∀q ∈ obL v,w0.heap.size≤q
 n:us.length≤j
 nil:us=[]→v=.slice none 0 0
theorem AgI.ls {c:Sc} {w0 w:World} {v:Value} {us:List Tr} {j:Nat} (h:AgI c w0 w v us j):LsS w w0.heap.size v us :=
 ⟨h.row,fun t ht=>(h.t t ht).keep (fun q hq _=>hq.1) (fun _ _ _=>rfl),by have:=h.n;have:=h.x.le;omega,h.nil,h.own⟩
theorem AgI.to {c:Sc} {w0 w w':World} {v:Value} {us:List Tr} {j k:Nat} (h:AgI c w0 w v us j) (hR:c.R < w0.heap.size) (F:Fr [c.R] w w') (X:SX c w' k) (hk:j≤k):AgI c w0 w' v us k :=
 ⟨h.f.on F,X,zAf h.row F (fun q hq hm=>by have:=h.own q hq;simp at hm;omega),fun t ht=>(h.t t ht).keep (fun _ h _=>h) (fun q hq hl=>F.block q hl (by simp;have:=hq.1;omega)),h.own,Nat.le_trans h.n hk,h.nil⟩
theorem AgI.next {c:Sc} {w0 w w3:World} {v:Value} {us:List Tr} {j g cap:Nat} (h:AgI c w0 w v us j) (hR:c.mb < w0.heap.size) (u:Tr) (hu:IsT w (fun q=>w0.heap.size≤q∧q ∉ obL v) u) (hn:us.length+1≤j) (o:Obj)
  (hown:w3.ownsRow 0 26 1 (.slice (some ⟨g,0,none⟩) (us.length+1) cap) (us.length+1) ((us.map fun t=>ptrV t.p)++[ptrV u.p])) (hgrow:(w.alloc o).grownBy w3 v.ownBlock) (hat:v.ownBlock=some g∨g=w.heap.size+1) :
  AgI c w0 w3 (.slice (some ⟨g,0,none⟩) (us.length+1) cap) (us++[u]) j:=by
 have hs:=h.f.size
 have F:Fr (obL v) w w3:=((Fr.alloc w o).mono (by simp)).trans (Fr.of_grown hgrow) (fun j hj=>.inl hj)
 have hg:w0.heap.size≤g∧(g ∈ obL v∨w.heap.size < g):=by
  rcases hat with h4 | h4
  ·have:=(zBc v g).2 h4
   exact⟨h.own g this,.inl this⟩
  ·exact⟨by omega,.inr (by omega)⟩
 have hob:∀j,j ∈ obL (.slice (some ⟨g,0,none⟩) (us.length+1) cap)→j=g:=fun j hj=>by simpa [obL,Value.ownBlock] using hj
 have e1:(us++[u]).length=us.length+1:=by simp
 have e2:(us++[u]).map (fun t=>ptrV t.p)=(us.map fun t=>ptrV t.p)++[ptrV u.p]:=by simp
 refine⟨h.f.trans F (fun q hq=>.inr (h.own q hq)),h.x.stay F (fun q hq=>by have:=h.own q hq;omega),by rw [e1,e2];exact hown,fun t ht=>?_,fun q hq=>by rw [hob q hq];exact hg.1,by simpa using hn,fun e=>by simp at e⟩
 have q2:∀t,IsT w (fun q=>w0.heap.size≤q∧q ∉ obL v) t→IsT w3 (fun q=>w0.heap.size≤q∧q ∉ obL (.slice (some ⟨g,0,none⟩) (us.length+1) cap)) t:=fun t ht=>ht.keep (fun q hq hl=>⟨hq.1,fun hm=>by
   have e:=hob q hm
   subst e
   rcases hg.2 with h4 | h4
   ·exact hq.2 h4
   ·omega⟩) (fun q hq hl=>F.block q hl hq.2)
 rcases List.mem_append.1 ht with ht | ht
 ·exact q2 t (h.t t ht)
 ·obtain rfl:t=u:=by simpa using ht
  exact q2 t hu
def ArS (c:Sc) (w:World) (res:ReL) (e:Ending) (w':World):Prop:=Fr [c.R] w w' ∧
 ((∃ds j us v,res=.ok ds j∧e=.returned (.tuple #[v,.bool true])∧SX c w' j∧LsS w' w.heap.size v us∧us.map Tr.dt=ds)∨∃j q n cap,res=.bad j∧e=.returned (.tuple #[.slice q n cap,.bool false])∧SX c w' j)
theorem zYe (ts:List TK) (I:Nat→Re) (m:Nat) (acc:List DT) (i:Nat):lstM ts I (m+1) acc i=(match I i with | .ok t j=>if isS (tk ts j) [44] then lstM ts I m (acc++[t]) (j+1) else .ok (acc++[t]) j | .bad j=>.bad j | .out=>.out):=by
 show (match I i with | .ok t j=>_ | .bad j=>_ | .out=>_)=_
 cases I i <;> rfl
def clS (ts:List TK):ReL→ReL
 | .ok l j=>if isS (tk ts j) [41] then .ok l (j+1) else .bad j
 | .bad j=>.bad j
 | .out=>.out
theorem zMl (ts:List TK) (I:Nat→Re) (i:Nat):withM ts [41] I i=if isS (tk ts (i+1)) [41] then .ok [] (i+2) else clS ts (lstM ts I (ts.length+1) [] (i+1)):=by
 unfold withM
 split
 ·rfl
 ·cases lstM ts I (ts.length+1) [] (i+1) <;> rfl
theorem zJo (c:Sc) (w:World) (i:Nat) (h:SX c w i) (hn:isS (tk c.ts i) [40]=false∨isS (tk c.ts (i+1)) [41]=true):Calls Tryz.prog 95 #[.pointer (some ⟨c.R,0,none⟩)] w (ArS c w (argM c.ts i)):=by
 cases hp:isS (tk c.ts i) [40]
 ·have hun:argM c.ts i=.ok [] i:=by unfold argM;rw [hp];rfl
  have HC:=zBs c w i [40] h hp
  have H:=oH (oA h hun)
  clear h hn hp hun
  go_enter Tryz.func95,Tryz.ntmps95
  go_wp2_with fail
  refine HC.mono ?_
  rintro e w2 ⟨rfl,F2⟩
  have H2:=oH F2
  clear F2 HC
  go_wp2_with fail
  refine bodyPost_ret (v:=.tuple #[.slice none 0 0,.bool true]) (by simp [results,Tryz.results95,go_sem]) rfl ?_
  exact⟨H2.out.up0,.inl ⟨[],i,[],_,H.out.2,rfl,H.out.1.keep H2.out,⟨World.ownsRow_nil _ _ _ _,by simp,by simp,fun _=>rfl,by simp [obL,Value.ownBlock]⟩,rfl⟩⟩
 ·have hq:isS (tk c.ts (i+1)) [41]=true:=by
   rcases hn with hn | hn
   ·rw [hp] at hn;cases hn
   ·exact hn
  have hun:argM c.ts i=.ok [] (i+2):=by unfold argM;rw [if_pos hp,zMl,if_pos hq]
  have HC:=zBr c w i [40] h hp
  have H:=oH (oA hq hun)
  clear h hn hp hun hq
  go_enter Tryz.func95,Tryz.ntmps95
  go_wp2_with fail
  refine HC.mono ?_
  rintro e w2 ⟨rfl,F2,X2⟩
  have HD:=zBr c w2 (i+1) [41] X2 H.out.1
  have H2:=oH F2
  clear F2 X2 HC
  go_wp2_with fail
  refine HD.mono ?_
  rintro e w3 ⟨rfl,F3,X3⟩
  have H3:=oH (oA F3 X3)
  clear F3 X3 HD
  go_wp2_with fail
  refine bodyPost_ret (v:=.tuple #[.slice none 0 0,.bool true]) (by simp [results,Tryz.results95,go_sem]) rfl ?_
  exact⟨H2.out.on H3.out.1,.inl ⟨[],i+2,[],_,H.out.2,rfl,H3.out.2,⟨World.ownsRow_nil _ _ _ _,by simp,by simp,fun _=>rfl,by simp [obL,Value.ownBlock]⟩,rfl⟩⟩
theorem zQz (c:Sc) (w:World) (i:Nat) (h:SX c w i) (hR:c.mb < w.heap.size) (hp:isS (tk c.ts i) [40]=true) (hq:isS (tk c.ts (i+1)) [41]=false) (hne:argM c.ts i≠.out):Calls Tryz.prog 95 #[.pointer (some ⟨c.R,0,none⟩)] w (ArS c w (argM c.ts i)):=by
 obtain⟨i1,hi,hz0,hz1,hz2⟩:=info_parts infoP
 obtain⟨RESL,hRESL⟩:∃RESL,lstM c.ts (E0 c.ts) (c.ts.length+1) [] (i+1)=RESL:=⟨_,rfl⟩
 have hun:argM c.ts i=clS c.ts RESL:=by unfold argM;rw [if_pos hp,zMl,if_neg (by rw [hq];simp),hRESL]
 rw [hun] at hne ⊢
 have hRm:=c.hRm
 have HC:=zBr c w i [40] h hp
 have HH:=oH (oA hq (oA hRESL (oA (show RESL≠.out from fun e=>hne (by rw [e];rfl)) (oA hR (show c.R < w.heap.size by omega)))))
 clear h hp hq hne hun hRESL hR hRm
 go_enter Tryz.func95,Tryz.ntmps95
 go_wp2_with fail
 refine HC.mono ?_
 rintro e w2 ⟨rfl,F2,X2⟩
 have HD:=zBs c w2 (i+1) [41] X2 HH.out.1
 have H2:=oH (oA F2 X2)
 clear F2 X2 HC
 go_wp2_with fail
 refine HD.mono ?_
 rintro e w3 ⟨rfl,F3⟩
 have HST:Hid (AgI c w w3 (.slice none 0 0) [] (i+1)):=oH ⟨H2.out.1.on0 F3,H2.out.2.keep F3,World.ownsRow_nil _ _ _ _,by simp,by simp [obL,Value.ownBlock],Nat.zero_le _,fun _=>rfl⟩
 clear F3 HD H2
 go_wp2_with fail
 go_loopw [4] (fun v wr=>∃m us j,AgI c w wr v us j∧lstM c.ts (E0 c.ts) m (us.map Tr.dt) j=RESL) (fun _ wr=>sxM c.R wr)
 case atStart=>exact⟨c.ts.length+1,[],i+1,HST.out,HH.out.2.1⟩
 case round =>
  clear HST
  obtain⟨m,us,j,ag,hl⟩:=hrel
  obtain⟨m,rfl⟩:∃m',m=m'+1:=by
   cases m with
   | zero=>exact absurd (show RESL=.out from hl.symm) HH.out.2.2.1
   | succ m=>exact⟨m,rfl⟩
  rw [zYe] at hl
  have HT:=sTellE c wr j ag.x
  have H:=oH (oA ag hl)
  clear ag hl
  go_wp2_with fail
  refine HT.mono ?_
  rintro e w4 ⟨o,rfl,F4,⟨d,k,u,hr,rfl,X4,hu,hd⟩ | ⟨k,hr,rfl,X4⟩⟩
  ·have ag:=H.out.1
   have hjk:j < k:=zAr _ _ _ _ hr
   have ag4:=ag.to HH.out.2.2.2.2 F4 X4 (Nat.le_of_lt hjk)
   have hu4:IsT w4 (fun q=>w.heap.size≤q∧q ∉ obL u4) u:=hu.keep (fun q hq _=>⟨Nat.le_trans ag.f.size hq,fun hm=>by
    have:=(ag.row.lt q ((zBc _ q).1 hm)).2
    omega⟩) (fun _ _ _=>rfl)
   have hsr:=ag4.row.alloc (.cells #[ptrV u.p] 26)
   have hk2:us.length≤16384:=by have:=ag4.n;have:=X4.le;omega
   obtain⟨n,hnl⟩:∃n,us.length=n:=⟨_,rfl⟩
   have HKL:=oH hnl
   rw [hnl] at hsr hk2
   have hn1:us.length+1≤k:=by have:=ag.n;omega
   have hl:=H.out.2
   rw [hr] at hl
   have HL:=oH (oA ag4 (oA hu4 (oA hn1 (oA hl (oA hd (oA X4 ag.x))))))
   have HME:Hid (sxM c.R w4 < sxM c.R wr):=oH (by rw [zGz X4,zGz ag.x];have:=X4.le;omega)
   clear F4 X4 hu hd hr HT ag ag4 hu4 hnl hn1 hl hjk
   simp only [encP,ptrV] at hsr ⊢
   go_wp2_with (at_builtin;refine wpList_append_lies _ rfl _ _ 38 rfl 0 26 i1 _ 1 8 Tryz.underlying38 hi hz0 hz1 hz2 rfl (by decide) u4 n _ rfl hsr ⟨w4.heap.size,0,none⟩ 1 1 [.pointer (some ⟨u.p,0,none⟩)] rfl rfl (new1 w4 (.pointer (some ⟨u.p,0,none⟩)) 26) (one1 u.p) (by decide) (by unfold maxLen;omega) (by omega) (by simp <;> omega) (w4.heap.size+1) (by simp) ?_)
   intro g cap w5 hown hgrow hat hlt5
   have hst:=HL.out.1.next HH.out.2.2.2.1 u HL.out.2.1 HL.out.2.2.1 _ (by rw [HKL.out];simpa [ptrV] using hown) hgrow hat
   rw [HKL.out] at hst
   have HS:=oH hst
   have HC2:=zBr c w5 k [44] hst.x
   have HC3:=zBs c w5 k [44] hst.x
   have hl:=HL.out.2.2.2.1
   clear hst hown hgrow hat hlt5 hsr
   cases hc:isS (tk c.ts k) [44]
   ·have hl:ReL.ok (us.map Tr.dt++[d]) k=RESL:=by
     have h:(if isS (tk c.ts k) [44]=true then lstM c.ts (E0 c.ts) m (us.map Tr.dt++[d]) (k+1) else ReL.ok (us.map Tr.dt++[d]) k)=RESL:=hl
     rw [if_neg (by rw [hc];simp)] at h
     exact h
    have HC:=HC3 hc
    have HLL:=oH hl
    clear HC2 HC3 hc hl
    go_wp2_with fail
    refine HC.mono ?_
    rintro e w6 ⟨rfl,F6⟩
    have ag6:=HS.out.to HH.out.2.2.2.2 F6.up0 (HS.out.x.keep F6) (Nat.le_refl _)
    have H6:=oH ag6
    have HX6:=ag6.x
    clear F6 HC ag6
    cases hz:isS (tk c.ts k) [41]
    ·have HC:=zBs c w6 k [41] HX6 hz
     have HZ:=oH hz
     clear HX6 hz
     go_wp2_with fail
     refine HC.mono ?_
     rintro e w7 ⟨rfl,F7⟩
     have H7:=oH F7
     clear F7 HC
     go_wp2_with fail
     refine bodyPost_ret (v:=.tuple #[.slice (some ⟨g,0,none⟩) (n+1) cap,.bool false]) (by simp [results,Tryz.results95,go_sem]) rfl ?_
     refine⟨H6.out.f.on0 H7.out,.inr ⟨k,_,_,_,?_,rfl,H6.out.x.keep H7.out⟩⟩
     rw [← HLL.out]
     show (if isS (tk c.ts k) [41]=true then _ else _)=_
     rw [if_neg (by rw [HZ.out];simp)]
    ·have HC:=zBr c w6 k [41] HX6 hz
     have HZ:=oH hz
     clear HX6 hz
     go_wp2_with fail
     refine HC.mono ?_
     rintro e w7 ⟨rfl,F7,X7⟩
     have H7:=oH (oA F7 X7)
     clear F7 X7 HC
     go_wp2_with fail
     refine bodyPost_ret (v:=.tuple #[.slice (some ⟨g,0,none⟩) (n+1) cap,.bool true]) (by simp [results,Tryz.results95,go_sem]) rfl ?_
     have ag7:=H6.out.to HH.out.2.2.2.2 H7.out.1 H7.out.2 (Nat.le_succ k)
     refine⟨ag7.f,.inl ⟨us.map Tr.dt++[d],k+1,us++[u],_,?_,rfl,H7.out.2,ag7.ls,by simp [HL.out.2.2.2.2.1]⟩⟩
     rw [← HLL.out]
     show (if isS (tk c.ts k) [41]=true then _ else _)=_
     rw [if_pos HZ.out]
   ·have hl:lstM c.ts (E0 c.ts) m (us.map Tr.dt++[d]) (k+1)=RESL:=by
     have h:(if isS (tk c.ts k) [44]=true then lstM c.ts (E0 c.ts) m (us.map Tr.dt++[d]) (k+1) else ReL.ok (us.map Tr.dt++[d]) k)=RESL:=hl
     rw [if_pos hc] at h
     exact h
    have HC:=HC2 hc
    have HLL:=oH hl
    clear HC2 HC3 hc hl
    go_wp2_with fail
    refine HC.mono ?_
    rintro e w6 ⟨rfl,F6,X6⟩
    have HR:Hid (∃m us j,AgI c w w6 (.slice (some ⟨g,0,none⟩) (n+1) cap) us j∧lstM c.ts (E0 c.ts) m (us.map Tr.dt) j=RESL):=oH ⟨m,us++[u],k+1,HS.out.to HH.out.2.2.2.2 F6 X6 (Nat.le_succ k),by simpa [HL.out.2.2.2.2.1] using HLL.out⟩
    have HME2:Hid (sxM c.R w6 < sxM c.R wr):=oH (by
     have h1:=HME.out
     rw [zGz HL.out.2.2.2.2.2.1] at h1
     rw [zGz X6]
     have:=X6.le
     omega)
    clear F6 X6 HC
    go_wp2_with fail
    go_roundw
    case rel=>exact HR.out
    case measure=>exact HME2.out
  ·have hl:=H.out.2
   rw [hr] at hl
   have HL:=oH (oA (show RESL=.bad k from hl.symm) (oA (H.out.1.f.on F4) X4))
   clear F4 X4 hr HT hl
   simp only [encP]
   go_wp2_with fail
   refine bodyPost_ret (v:=.tuple #[.slice none 0 0,.bool false]) (by simp [results,Tryz.results95,go_sem]) rfl ?_
   exact⟨HL.out.2.1,.inr ⟨k,_,_,_,by rw [HL.out.1];rfl,rfl,HL.out.2.2⟩⟩
end Go.Proofs.YtepfknfadpkigaaGreat
namespace Go.Proofs.YtepfknfadpkigaaGreat
open Go.RowKit
set_option maxHeartbeats 4000000
set_option maxRecDepth 100000
theorem rep1 (c:Sc) (y:Tr) (t:TK) (done:FV) (Post:World→Prop) (w:World) (j br bd bp b:Nat) (hX:SX c w j) (hr:Var w br 44 (pt c.R)) (hd:Var w bd 76 done.val) (hbp:Var w bp 37 (posV t.2.1.1 t.2.1.2))
  (hy:IsT w (b≤·) y) (hb:b≤w.heap.size) (hR:c.R < b) (hRd:c.R≠bd∧c.R≠bp) (hT:ThS c b w ((E0 c.ts j).bnd fun x k=>.ok (.node (nd 65 t [] 0) [y.dt,x]) k) done Post) :
  Calls Tryz.prog 86 #[ptrV y.p,pt br,pt bd,pt bp] w (GQ Post):=by
 obtain⟨px,py,e1⟩:=zAc t.2.1.1 t.2.1.2
 rw [e1] at hbp
 have cr:=hr.c
 have HT:=sTellE c w j hX
 have HH:=oH (oA hT (oA hd (oA hbp (oA hy (oA hb (oA hR (oA hRd e1)))))))
 clear hX hr hd hbp hy hb hR hRd hT e1
 obtain⟨df,d1,d2⟩:=done
 simp only [pt,ptrV,FV.val] at cr HH ⊢
 go_enter Tryz.func86,Tryz.ntmps86
 go_wp2_with fail
 refine HT.mono ?_
 rintro e w3 ⟨o,rfl,F3,⟨d,k,u,hr,rfl,X3,hu,hdu⟩ | ⟨k,hr,rfl,X3⟩⟩
 ·obtain⟨hT,hd,hbp,hy,hb,hR,hRd,e1⟩:=HH.out
  have hd3:=hd.keep F3 (by simp;exact Ne.symm hRd.1)
  have hp3:=hbp.keep F3 (by simp;exact Ne.symm hRd.2)
  have cd:=hd3.c
  have cp:=hp3.c
  have hx3:IsT w3 (b≤·) y:=zAk hy F3 (by simp;omega)
  have hu3:IsT w3 (b≤·) u:=zAt hu hb
  have hb3:b≤w3.heap.size:=Nat.le_trans hb F3.size
  have HN:∀w1:World,Fr [] w3 w1→Calls Tryz.prog 31 #[.int .u8 65,.complex .f64 px py,.string ⟨#[]⟩,.int .i64 0,.slice (some ⟨w1.heap.size,0,none⟩) 2 2] (w1.alloc (.cells #[.pointer (some ⟨y.p,0,none⟩),.pointer (some ⟨u.p,0,none⟩)] 26)) fun e w'=>∃z:Tr,e=.returned (.pointer (some ⟨z.p,0,none⟩))∧Fr [] w3 w'∧IsT w' (b≤·) z∧z.dt=.node (nd 65 t [] 0) [y.dt,u.dt]:=fun w1 F1=>by
   refine(zBj (w1.alloc (.cells #[.pointer (some ⟨y.p,0,none⟩),.pointer (some ⟨u.p,0,none⟩)] 26)) (nd 65 t [] 0) _ [some y,some u] b (zIz w1 y u) (by simp) (fun z hz=>by
    have hz:z=y∨z=u:=by simpa using hz
    rcases hz with rfl | rfl
    ·exact zAk hx3 (F1.on (Fr.alloc w1 _)) (by simp)
    ·exact zAk hu3 (F1.on (Fr.alloc w1 _)) (by simp)) (Nat.le_trans hb3 (F1.on (Fr.alloc w1 _)).size) (by simp [nd]) _ e1 ⟨#[]⟩ rfl 65 rfl 0 rfl _ rfl).mono ?_
   rintro e w' ⟨z,rfl,F2,h3,h4⟩
   exact⟨z,rfl,(F1.on (Fr.alloc w1 _)).on F2,h3,h4⟩
  have HSS:∀w':World,Fr [] w3 w'→(w'.cell? ⟨bd,0,none⟩=some (.func (.func df) d1 d2)∧w'.cell? ⟨bp,0,none⟩=some (.complex .f64 px py)):=fun w' F=>⟨(hd3.keep F (by simp)).c,(hp3.keep F (by simp)).c⟩
  have HG:Hid (∀z w',Fr [] w3 w'→IsT w' (b≤·) z→z.dt=.node (nd 65 t [] 0) [y.dt,u.dt]→GoQ ⟨df,d1,d2⟩ (.pointer (some ⟨z.p,0,none⟩)) w' Post):=oH (fun z w' F hz hzd=>by
   rw [hr] at hT
   have hT:ThS c b w (.ok (.node (nd 65 t [] 0) [y.dt,d]) k) ⟨df,d1,d2⟩ Post:=hT
   exact hT.ok _ _ rfl z w' (F3.on0 F) (X3.keep F) hz (by rw [hzd,hdu]))
  have F0:Fr [] w3 w3.drew:=Fr.drew w3
  have HAL:=HSS _ (Fr.alloc w3 (.cells #[.pointer (some ⟨y.p,0,none⟩),.pointer (some ⟨u.p,0,none⟩)] 26))
  obtain⟨g1,g2⟩:=HAL
  clear hT hd hbp hy hb hR hRd e1 hd3 hp3 hx3 hu3 hb3 hr X3 hu hdu F3 HH HT cr
  simp only [encP,ptrV,FV.val] at cd ⊢
  go_wp2_with fail
  refine zAp 6 (S:=fun w'=>w'.cell? ⟨bd,0,none⟩=some (.func (.func df) d1 d2)∧w'.cell? ⟨bp,0,none⟩=some (.complex .f64 px py)) (by kernel_rfl) ?_ (fun hHeld=>?_)
  ·exact HSS _ (Fr.drew w3)
  refine zAh (k:=12) (i:=0) (v:=?_) rfl (by kernel_rfl) (by kernel_rfl) (by kernel_rfl) (by kernel_rfl) (fun _ _ _ h=>h) (Or.inl ⟨by rfl,?_⟩) (by assumption) ?_
  rotate_left
  ·intro w hSw;(try dsimp only at hSw);(try obtain⟨h1,h2⟩:=hSw);go_simp;try with_reducible rfl
  simp only[Act.put,oB,oC,oD,oE,oF,oG]
  refine zAh (k:=12) (i:=1) (v:=?_) rfl (by kernel_rfl) (by kernel_rfl) (by kernel_rfl) (by kernel_rfl) (fun _ _ _ h=>h) (Or.inl ⟨by rfl,?_⟩) (by assumption) ?_
  rotate_left
  ·intro w hSw;(try dsimp only at hSw);(try obtain⟨h1,h2⟩:=hSw);go_simp;try with_reducible rfl
  simp only[Act.put,oB,oC,oD,oE,oF,oG]
  refine zAh (k:=12) (i:=2) (v:=?_) rfl (by kernel_rfl) (by kernel_rfl) (by kernel_rfl) (by kernel_rfl) (fun _ _ _ h=>h) (Or.inl ⟨by rfl,?_⟩) (by assumption) ?_
  rotate_left
  ·intro w hSw;(try dsimp only at hSw);(try obtain⟨h1,h2⟩:=hSw);go_simp;try with_reducible rfl
  simp only[Act.put,oB,oC,oD,oE,oF,oG]
  refine zAh (k:=12) (i:=3) (v:=?_) rfl (by kernel_rfl) (by kernel_rfl) (by kernel_rfl) (by kernel_rfl) (fun _ _ _ h=>h) (Or.inl ⟨by rfl,?_⟩) (by assumption) ?_
  rotate_left
  ·intro w hSw;(try dsimp only at hSw);(try obtain⟨h1,h2⟩:=hSw);go_simp;try with_reducible rfl
  simp only[Act.put,oB,oC,oD,oE,oF,oG]
  refine zAa (rs:=[4]) (by kernel_rfl) (by simp) ?_
  refine AllL.cons rfl (fun K hK=>?_) ?_
  rotate_left
  ·exact AllL.nil
  go_simp
  refine hK.out _ _ (HSS _ ((Fr.drew w3).on (Fr.alloc _ _))) (fun hHeld=>?_)
  clear hK K
  try simp only[Act.put,oB,oC,oD,oE,oF,oG]
  refine zAa (rs:=[5]) (by kernel_rfl) (by simp) ?_
  refine AllL.cons rfl (fun K hK=>?_) ?_
  rotate_left
  ·exact AllL.nil
  go_simp
  refine(HN _ (Fr.drew w3)).mono ?_
  rintro e w9 ⟨z,rfl,F9,hz,hzd⟩
  have H9:=HSS w9 F9
  obtain⟨hE,hC⟩:=HG.out z w9 F9 hz hzd
  have hR2:=zAe hE
  clear hE hz hzd F9 HN
  go_wp2_with fail
  refine hK.out _ _ (H9) (fun hHeld=>?_)
  clear hK K
  try simp only[Act.put,oB,oC,oD,oE,oF,oG]
  refine zAa (rs:=[6]) (by kernel_rfl) (by simp) ?_
  refine AllL.last rfl (by kernel_rfl) (fun K hK=>?_) ?_
  rotate_left
  ·exact AllL.nil
  go_simp
  refine hC.mono ?_
  rintro e w10 ⟨s,rfl,hr⟩
  have HRS:=oH hr
  clear hr hC HG HSS H9
  go_wp2_with fail
  refine hK.out _ _ ?_
  clear hK K
  try simp only[Act.put,oB,oC,oD,oE,oF,oG]
  refine zAa (rs:=[7]) (by kernel_rfl) (by simp) ?_
  refine AllL.last rfl (by kernel_rfl) (fun K hK=>?_) ?_
  rotate_left
  ·exact AllL.nil
  go_simp
  refine hK.out _ _ ?_
  clear hK K
  try simp only[Act.put,oB,oC,oD,oE,oF,oG]
  refine zAl (by kernel_rfl) ?_ _
  go_wp2_with fail
  go_ret
  exact⟨s,rfl,HRS.out⟩
 ·have HP:Hid (Post w3):=oH (by
   have hT:=HH.out.1
   rw [hr] at hT
   have hT:ThS c b w (.bad k) ⟨df,d1,d2⟩ Post:=hT
   exact hT.bad _ rfl w3 F3 X3)
  clear HT F3 X3 hr HH cr
  simp only [encP]
  go_wp2_with fail
  go_ret
  exact zCd HP.out
theorem zYf:Enters 86:=⟨_,_,Tryz.func86,by kernel_rfl,rfl⟩
theorem zYg (c:Sc) (B:Nat→Re) (hB:CB c B) (w:World) (i:Nat) (done:FV) (Post:World→Prop) (b:Nat) (hX:SX c w i) (hlt:i < c.ts.length) (hR:c.mb < b) (hb:b≤w.heap.size) (hT:ThS c b w (repM c.ts B i) done Post) :
  Calls Tryz.prog 48 #[.pointer (some ⟨c.R,0,none⟩),done.val] w (GQ Post):=by
 obtain⟨px,py,e1⟩:=zAc (tk c.ts i).2.1.1 (tk c.ts i).2.1.2
 obtain⟨ex,ey,e2⟩:=zAc (tk c.ts i).2.2.1 (tk c.ts i).2.2.2
 have hfd:=zBb
 have hsc:=fun w a x y m=>zAg (P:=Tryz.prog) w a .f64 x y m
 obtain⟨W,hW⟩:∃W,w.heap.size=W:=⟨_,rfl⟩
 obtain⟨w0,hw0⟩:∃w0,w.alloc (.cells #[.pointer (some ⟨c.R,0,none⟩)] 44)=w0:=⟨_,rfl⟩
 have F0:Fr [] w w0:=by rw [← hw0];exact Fr.alloc _ _
 have v0:Var w0 W 44 (pt c.R):=by rw [← hw0,← hW];exact heap_alloc_new _ _
 have s0:w0.heap.size=W+1:=by rw [← hw0,← hW];simp
 obtain⟨w1,hw1⟩:∃w1,w0.alloc (.cells #[done.val] 76)=w1:=⟨_,rfl⟩
 have F1:Fr [] w0 w1:=by rw [← hw1];exact Fr.alloc _ _
 have v1:Var w1 (W+1) 76 done.val:=by rw [← hw1,← s0];exact heap_alloc_new _ _
 have s1:w1.heap.size=W+2:=by rw [← hw1];simp [s0]
 have v01:=v0.keep F1 (by simp)
 have cr:=v01.c
 have HTK:=zCi c w1 i (hX.keep (F0.on F1)) hlt px py ex ey e1 e2
 have hRm:=c.hRm
 have hmW:c.mb < W:=by rw [← hW];omega
 have hun:repM c.ts B i=(wrdM c.ts [85,78,84,73,76] (B (i+1))).bnd fun b j=>(E0 c.ts j).bnd fun x k=>.ok (.node (nd 65 (tk c.ts i) [] 0) [b,x]) k:=rfl
 rw [hun] at hT
 have HH:=oH (oA hB (oA hT (oA (F0.on F1) (oA v01 (oA v1 (oA hmW (oA hR (oA hb (oA s1 (oA hW e1))))))))))
 clear hB hX hlt hR hb hT F0 F1 v0 v1 v01 s1 hun e1 e2 hmW hRm
 generalize ((tk c.ts i).1.k:Int)=t0 at *
 generalize (⟨(tk c.ts i).1.x.toArray⟩:ByteArray)=t3 at *
 generalize (tk c.ts i).1.n=t4 at *
 have hdv:∃df d1 d2,done=⟨df,d1,d2⟩:=⟨_,_,_,rfl⟩
 obtain⟨df,d1,d2c,rfl⟩:=hdv
 simp only [FV.val,pt] at hw1 cr ⊢
 go_enter Tryz.func48,Tryz.ntmps48
 go_wp2_with fail
 refine HTK.mono ?_
 rintro e w2 ⟨rfl,F2,X2⟩
 clear HTK
 go_upto_region 2 with fail
 obtain⟨P,hP⟩:∃P,w2.heap.size=P:=⟨_,rfl⟩
 obtain⟨w3,hw3⟩:∃w3,w2.alloc (.cells #[.complex .f64 px py] 37)=w3:=⟨_,rfl⟩
 have F3:Fr [] w2 w3:=by rw [← hw3];exact Fr.alloc _ _
 have v3:Var w3 P 37 (.complex .f64 px py):=by rw [← hw3,← hP];exact heap_alloc_new _ _
 try rw [hw3]
 try rw [hP]
 have hTS:ThS c b w3 (wrdM c.ts [85,78,84,73,76] (B (i+1))) ⟨86,#[],#[pt W,pt (W+1),pt P]⟩ Post:=by
  obtain⟨hB,hT,F01,v01,v1,hmW,hR,hb,s1,hW,e1⟩:=HH.out
  have hRm:=c.hRm
  have hWP:W+2≤P:=by rw [← hP,← s1];exact F2.size
  have F23:Fr [c.R] w1 w3:=F2.on0 F3
  refine⟨fun d2 k er u2 w5 F5 X5 hu2 hd2=>⟨zYf,?_⟩,fun k er w5 F5 X5=>?_,fun er=>?_⟩
  ·rw [er] at hT
   have hT:ThS c b w ((E0 c.ts k).bnd fun x k=>.ok (.node (nd 65 (tk c.ts i) [] 0) [d2,x]) k) ⟨df,d1,d2c⟩ Post:=hT
   rw [← hd2] at hT
   exact rep1 c u2 (tk c.ts i) _ Post w5 k W (W+1) P b X5 ((v01.keep F23 (by simp;omega)).keep F5 (by simp;omega)) ((v1.keep F23 (by simp;omega)).keep F5 (by simp;omega)) (by rw [e1];exact v3.keep F5 (by simp;omega)) hu2 (by have:=F23.size;have:=F5.size;have:=F01.size;omega) (by omega) ⟨by omega,by omega⟩ (hT.on ((F01.up0.on F23).on F5))
  ·rw [er] at hT
   have hT:ThS c b w (.bad k) _ Post:=hT
   exact hT.bad _ rfl w5 ((F01.up0.on F23).on F5) X5
  ·rw [er] at hT
   have hT:ThS c b w .out _ Post:=hT
   exact hT.no rfl
 have HC:=zCl c B HH.out.1 [85,78,84,73,76] w3 (i+1) _ Post b (X2.keep F3) HH.out.2.2.2.2.2.2.1 (by
  have h1:=HH.out.2.2.2.2.2.2.2.1
  have h2:=HH.out.2.2.1.size
  have h3:=F2.size
  have h4:=F3.size
  omega) hTS
 have cr3:=((HH.out.2.2.2.1.keep (F2.on0 F3) (by
  have h1:=HH.out.2.2.2.2.2.1
  have:=c.hRm
  simp;omega))).c
 simp only [pt] at cr3
 clear hTS F2 X2 F3 v3 hw3 hP cr
 simp only [FV.val,pt] at HC
 go_wp2_with fail
 refine HC.mono ?_
 rintro e w' ⟨s,rfl,hr⟩
 go_wp2_with fail
 go_ret
 exact⟨s,rfl,hr⟩
structure ThO (c:Sc) (b:Nat) (w:World) (res:ReL) (done:FV) (Post:World→Prop):Prop where
 one:∀d j,res=.ok [d] j→∀u w',Fr [c.R] w w'→SX c w' j→IsT w' (b≤·) u→u.dt=d→GoQ done (ptrV u.p) w' Post
 none:∀j,res=.ok [] j→∀w',Fr [c.R] w w'→SX c w' j→GoQ done (.pointer none) w' Post
 bad:∀j,res=.bad j→∀w',Fr [c.R] w w'→SX c w' j→Post w'
 no:res≠.out
theorem zRa (c:Sc) (B:Nat→Re) (hB:CB c B) (w:World) (i:Nat) (done:FV) (Post:World→Prop) (b:Nat) (hX:SX c w i) (hR:c.mb < b) (hb:b≤w.heap.size) (hT:ThO c b w (othM c.ts B i) done Post) :
  Calls Tryz.prog 79 #[.pointer (some ⟨c.R,0,none⟩),done.val] w (GQ Post):=by
 have hun:othM c.ts B i=if isW (tk c.ts i) [69,76,83,69]=true then (wrdM c.ts [69,78,68] (B (i+1))).bndL fun x j=>.ok [x] j else if isW (tk c.ts i) [69,78,68]=true then .ok [] (i+1) else .bad i:=rfl
 rw [hun] at hT
 clear hun
 cases hq:isW (tk c.ts i) [69,76,83,69]
 ·rw [if_neg (by rw [hq];simp)] at hT
  have HK:=zBt c w i [69,76,83,69] hX hq
  clear hq
  cases hz:isW (tk c.ts i) [69,78,68]
  ·have HP:Hid (∀w',Fr [] w w'→Post w'):=oH (fun w' F=>by
    rw [if_neg (by rw [hz];simp)] at hT
    exact hT.bad _ rfl w' F.up0 (hX.keep F))
   have HZ:=oH (oA hz hX)
   clear hT hz hX hR hb hB
   obtain⟨df,d1,d2⟩:=done
   simp only [FV.val]
   go_enter Tryz.func79,Tryz.ntmps79
   go_wp2_with fail
   refine HK.mono ?_
   rintro e w2 ⟨rfl,F2⟩
   have HK2:=zBt c w2 i [69,78,68] (HZ.out.2.keep F2) HZ.out.1
   have H2:=oH F2
   clear F2 HK
   go_wp2_with fail
   refine HK2.mono ?_
   rintro e w3 ⟨rfl,F3⟩
   have H3:=oH F3
   clear F3 HK2
   go_wp2_with fail
   go_ret
   exact zCd (HP.out _ (H2.out.on H3.out))
  ·have HP:Hid (∀w',Fr [c.R] w w'→SX c w' (i+1)→GoQ done (.pointer none) w' Post):=oH (fun w' F X=>by
    rw [if_pos hz] at hT
    exact hT.none _ rfl w' F X)
   have HZ:=oH (oA hz hX)
   clear hT hz hX hR hb hB
   obtain⟨df,d1,d2⟩:=done
   simp only [FV.val]
   go_enter Tryz.func79,Tryz.ntmps79
   go_wp2_with fail
   refine HK.mono ?_
   rintro e w2 ⟨rfl,F2⟩
   have HK2:=zBw c w2 i [69,78,68] (HZ.out.2.keep F2) HZ.out.1
   have H2:=oH F2
   clear F2 HK
   go_wp2_with fail
   refine HK2.mono ?_
   rintro e w3 ⟨rfl,F3,X3⟩
   obtain⟨hE,hC⟩:=HP.out w3 (H2.out.up0.on F3) X3
   have hR2:=zAe hE
   clear hE F3 X3 HK2
   simp only [FV.val] at hC ⊢
   go_wp2_with fail
   refine hC.mono ?_
   rintro e w' ⟨s,rfl,hr⟩
   go_wp2_with fail
   go_ret
   exact⟨s,rfl,hr⟩
 ·rw [if_pos hq] at hT
  have HK:=zBw c w i [69,76,83,69] hX hq
  have HP:Hid (∀w',Fr [c.R] w w'→SX c w' (i+1)→Calls Tryz.prog 84 #[.pointer (some ⟨c.R,0,none⟩),.string ⟨(([69,78,68]:List UInt8)).toArray⟩,done.val] w' (GQ Post)):=oH (fun w' F X=>by
   refine zCl c B hB [69,78,68] w' (i+1) done Post b X hR (Nat.le_trans hb F.size) ⟨fun d j er u w5 F5 X5 hu hd=>?_,fun j er w5 F5 X5=>?_,fun er=>?_⟩
   ·rw [er] at hT
    have hT:ThO c b w (.ok [d] j) done Post:=hT
    exact hT.one _ _ rfl u w5 (F.on F5) X5 hu hd
   ·rw [er] at hT
    have hT:ThO c b w (.bad j) done Post:=hT
    exact hT.bad _ rfl w5 (F.on F5) X5
   ·rw [er] at hT
    have hT:ThO c b w .out done Post:=hT
    exact hT.no rfl)
  clear hT hq hX hR hb hB
  obtain⟨df,d1,d2⟩:=done
  simp only [FV.val] at HP ⊢
  go_enter Tryz.func79,Tryz.ntmps79
  go_wp2_with fail
  refine HK.mono ?_
  rintro e w2 ⟨rfl,F2,X2⟩
  have HC:=HP.out w2 F2 X2
  clear F2 X2 HK
  go_wp2_with fail
  refine HC.mono ?_
  rintro e w' ⟨s,rfl,hr⟩
  go_wp2_with fail
  go_ret
  exact⟨s,rfl,hr⟩
end Go.Proofs.YtepfknfadpkigaaGreat
end
