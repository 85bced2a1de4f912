/- Several texts in one. -/
import Derived.Test.YtepfknfadpkigaaGreatPkAA
import Derived.Test.YtepfknfadpkigaaGreatPkBQ
import Derived.Laws.AppendOwnNone
set_option linter.unusedVariables false
set_option linter.unusedSimpArgs false
section
namespace Go.Proofs.YtepfknfadpkigaaGreat
open Go.RowKit
set_option maxHeartbeats 4000000
set_option maxRecDepth 100000
theorem zTa (c:Sc) (w:World) (i:Nat) (h:SX c w i) (hR:c.mb < w.heap.size) (hne:argM c.ts i≠.out):Calls Tryz.prog 95 #[.pointer (some ⟨c.R,0,none⟩)] w (ArS c w (argM c.ts i)):=by
 cases hp:isS (tk c.ts i) [40]
 ·exact zJo c w i h (.inl hp)
 ·cases hq:isS (tk c.ts (i+1)) [41]
  ·exact zQz c w i h hR hp hq hne
  ·exact zJo c w i h (.inr hq)
theorem LsS.src {w:World} {b:Nat} {v:Value} {us:List Tr} (h:LsS w b v us) (hn:us≠[]):∃g cap,v=.slice (some ⟨g,0,none⟩) us.length cap∧b≤g∧∀j x,(us.map fun t=>ptrV t.p)[j]?=some x→w.cell? ((⟨g,0,none⟩:Addr).add j)=some x:=by
 obtain⟨g,cap,e,_,_⟩:=h.row.form (List.length_pos_iff.2 hn)
 refine⟨g,cap,e,h.far g (by rw [e];simp [obL,Value.ownBlock]),fun j x hj=>?_⟩
 have hr:=h.row
 rw [e] at hr
 have hlt:j < us.length:=by have:=(List.getElem?_eq_some_iff.1 hj).1;simpa using this
 have hadd:(⟨g,0,none⟩:Addr).add j=⟨g,j,none⟩:=by simp [Addr.add];omega
 rw [hadd,hr.cellAt j (by omega),hj]
theorem ones (us:List Tr):∀x ∈ us.map (fun t=>ptrV t.p),x.oneCell'=true:=fun x hx=>by
 obtain⟨t,_,rfl⟩:=List.mem_map.1 hx
 rfl
theorem zIn (w:World) (p:Nat):(w.alloc (.cells #[.pointer (some ⟨p,0,none⟩)] 26)).ownsRow 0 26 1 (.slice (some ⟨w.heap.size,0,none⟩) 1 1) 1 [.pointer (some ⟨p,0,none⟩)] :=
 ⟨rfl,.inr ⟨w.heap.size,1,#[.pointer (some ⟨p,0,none⟩)],rfl,Nat.zero_le _,heap_alloc_new _ _,by decide,by decide,rfl,rfl⟩⟩
theorem zYh (c:Sc) (w:World) (i:Nat) (done:FV) (Post:World→Prop) (b:Nat) (hX:SX c w i) (hR:c.mb < b) (hb:b≤w.heap.size) (hT:ThS c b w (namM c.ts i) done Post) :
  Calls Tryz.prog 59 #[.pointer (some ⟨c.R,0,none⟩),done.val] w (GQ Post):=by
 obtain⟨i1,hi,hz0,hz1,hz2⟩:=info_parts infoP
 obtain⟨px,py,e1⟩:=zAc (tk c.ts i).2.1.1 (tk c.ts i).2.1.2
 obtain⟨ex,ey,e2⟩:=zAc (tk c.ts i).2.2.1 (tk c.ts i).2.2.2
 have hfd:=zBb
 have hsc:=fun w a x y m=>zAg (P:=Tryz.prog) w a .f64 x y m
 have HK:=zCj c w i hX px py ex ey e1 e2
 have hun:namM c.ts i=(D0 c.ts i).bnd fun x j=>if isS (tk c.ts j) [58,61]=true then (E0 c.ts (j+1)).bnd fun y k=>.ok (.node (nd 60 (tk c.ts j) [] 0) [x,y]) k else (argM c.ts j).re fun l=>.node (nd 61 (tk c.ts i) [] 0) (x::l):=rfl
 rw [hun] at hT
 have hRm:=c.hRm
 have HH:=oH (oA hT (oA hX (oA hR (oA hb (oA e1 (show c.R < b by omega))))))
 clear hT hX hR hb e1 e2 hun hRm
 generalize ((tk c.ts i).1.k:Int)=t0 at *
 generalize (⟨(tk c.ts i).1.x.toArray⟩:ByteArray)=t3 at *
 generalize (tk c.ts i).1.n=t4 at *
 obtain⟨df,d1,d2⟩:=done
 simp only [FV.val]
 go_enter Tryz.func59,Tryz.ntmps59
 go_wp2_with fail
 refine HK.mono ?_
 rintro e w1 ⟨rfl,F1⟩
 have HTL:=sTellD c w1 i (HH.out.2.1.keep F1)
 have H1:=oH F1
 clear HK F1
 go_wp2_with fail
 refine HTL.mono ?_
 rintro e w2 ⟨o,rfl,F2,⟨d,j,u,hr,rfl,X2,hu,hd⟩ | ⟨j,hr,rfl,X2⟩⟩
 ·obtain⟨qx,qy,f1⟩:=zAc (tk c.ts j).2.1.1 (tk c.ts j).2.1.2
  obtain⟨gx,gy,f2⟩:=zAc (tk c.ts j).2.2.1 (tk c.ts j).2.2.2
  obtain⟨k2,x2,n2,HK2⟩:∃k2:Int,∃x2:ByteArray,∃n2:Int,Calls Tryz.prog 27 #[.pointer (some ⟨c.R,0,none⟩)] w2 fun e w'=>e=.returned (.agg #[.int .u8 k2,.complex .f64 qx qy,.complex .f64 gx gy,.string x2,.int .i64 n2])∧Fr [] w2 w':=⟨_,_,_,zCj c w2 j X2 qx qy gx gy f1 f2⟩
  have HB2:Hid (IsT w2 (b≤·) u):=oH (zAt hu (by have:=HH.out.2.2.2.1;have:=H1.out.size;omega))
  have H2:=oH (oA (H1.out.up0.on F2) (oA X2 (oA hr (oA hd f1))))
  have HX2:=X2
  clear F2 X2 hr hd hu f1 f2 HTL H1
  simp only [encP,ptrV]
  go_wp2_with fail
  refine HK2.mono ?_
  rintro e w3 ⟨rfl,F3⟩
  have HST:=sStandsS c w3 j [58,61] (HX2.keep F3)
  have HX3:=oH (HX2.keep F3)
  have H3:=oH F3
  clear HK2 F3 HX2
  cases hq:isS (tk c.ts j) [58,61]
  ·rw [hq] at HST
   have HQ:=oH hq
   clear hq
   go_wp2_with fail
   refine HST.mono ?_
   rintro e w4 ⟨rfl,F4⟩
   have HT2:Hid (ThS c b w ((argM c.ts j).re fun l=>.node (nd 61 (tk c.ts i) [] 0) (d::l)) ⟨df,d1,d2⟩ Post):=oH (by
    have hT:=HH.out.1
    rw [H2.out.2.2.1] at hT
    have hT:ThS c b w (if isS (tk c.ts j) [58,61]=true then (E0 c.ts (j+1)).bnd fun y k=>.ok (.node (nd 60 (tk c.ts j) [] 0) [d,y]) k else (argM c.ts j).re fun l=>.node (nd 61 (tk c.ts i) [] 0) (d::l)) ⟨df,d1,d2⟩ Post:=hT
    rw [if_neg (by rw [HQ.out];simp)] at hT
    exact hT)
   have F04:Fr [c.R] w w4:=(H2.out.1.on0 H3.out).on0 F4
   have HA:=zTa c w4 j (HX3.out.keep F4) (by have:=HH.out.2.2.1;have:=HH.out.2.2.2.1;have:=F04.size;omega) (fun e=>HT2.out.no (by rw [e];rfl))
   have H4:=oH (oA F04 (zAk (zAk HB2.out H3.out (by simp)) F4 (by simp)))
   clear F4 F04 HST HX3
   go_wp2_with fail
   refine HA.mono ?_
   rintro e w5 ⟨F5,⟨ds,k,us,v,hr,rfl,X5,hl,hds⟩ | ⟨k,q,n,cap,hr,rfl,X5⟩⟩
   ·have hb4:b≤w4.heap.size:=Nat.le_trans HH.out.2.2.2.1 H4.out.1.size
    have hb5:b≤w5.heap.size:=Nat.le_trans hb4 F5.size
    have hu5:IsT w5 (b≤·) u:=zAk H4.out.2 F5 (by have:=HH.out.2.2.2.2.2;simp;omega)
    have hus:∀t ∈ us,IsT w5 (b≤·) t:=fun t ht=>zAt (hl.t t ht) hb4
    have HN:∀(v':Value) (w7:World),Fr [] w5 w7→ArgL w7 v' ((u::us).map some)→Calls Tryz.prog 31 #[.int .u8 61,.complex .f64 px py,.string ⟨#[]⟩,.int .i64 0,v'] w7 fun e w'=>∃z:Tr,e=.returned (.pointer (some ⟨z.p,0,none⟩))∧GoQ ⟨df,d1,d2⟩ (.pointer (some ⟨z.p,0,none⟩)) w' Post:=fun v' w7 F7 ha=>by
     refine(zBj w7 (nd 61 (tk c.ts i) [] 0) v' ((u::us).map some) b ha (by have:=hl.le;simp;omega) (fun z hz=>by
      obtain⟨z2,hz2,e⟩:=List.mem_map.1 hz
      injection e with e
      subst e
      rcases List.mem_cons.1 hz2 with rfl | hz2
      ·exact zAk hu5 F7 (by simp)
      ·exact zAk (hus _ hz2) F7 (by simp)) (Nat.le_trans hb5 F7.size) (by simp [nd]) _ HH.out.2.2.2.2.1 ⟨#[]⟩ rfl 61 rfl 0 rfl _ (zEj (u::us))).mono ?_
     rintro e w' ⟨z,rfl,F8,hz,hzd⟩
     refine⟨z,rfl,?_⟩
     have hT:=HT2.out
     rw [hr] at hT
     have hT:ThS c b w (.ok (.node (nd 61 (tk c.ts i) [] 0) (d::ds)) k) ⟨df,d1,d2⟩ Post:=hT
     exact hT.ok _ _ rfl z w' (((H4.out.1.on F5).on0 F7).on0 F8) ((X5.keep F7).keep F8) hz (by rw [hzd,← hds,List.map_cons,H2.out.2.2.2.1])
    have HN:=oH HN
    have hown:=zIn w5 u.p
    clear hb4 hb5 hu5 hus hr hds X5 F5 HA
    by_cases hn:us=[]
    ·subst hn
     obtain rfl:v=.slice none 0 0:=hl.nil rfl
     clear hl
     have HC:=HN.out (.slice (some ⟨w5.heap.size,0,none⟩) 1 1) (w5.alloc (.cells #[.pointer (some ⟨u.p,0,none⟩)] 26)) (Fr.alloc _ _) (zIy w5 u)
     clear HN
     go_wp2_with (at_builtin;refine wpList_append_own_none rfl _ _ 38 rfl 0 26 i1 1 Tryz.underlying38 hi (.slice (some ⟨w5.heap.size,0,none⟩) 1 1) 1 _ rfl hown rfl ?_)
     go_wp2_with fail
     refine HC.mono ?_
     rintro e w8 ⟨z,rfl,hg⟩
     clear HC
     obtain⟨hE,hC⟩:=hg
     have hR2:=zAe hE
     clear hE
     simp only [FV.val,ptrV] at hC ⊢
     go_wp2_with fail
     refine hC.mono ?_
     rintro e w' ⟨s,rfl,hr⟩
     go_wp2_with fail
     go_ret
     exact⟨s,rfl,hr⟩
    ·obtain⟨g,cap,rfl,hg,hsrc⟩:=LsS.src (hl.keep (Fr.alloc w5 (.cells #[.pointer (some ⟨u.p,0,none⟩)] 26))) hn
     have hle:=hl.le
     have hpos:=List.length_pos_iff.2 hn
     have h1s:=ones us
     have hlm:(us.map fun t=>ptrV t.p).length=us.length * 1:=by simp
     obtain⟨n,hnl⟩:∃n,us.length=n:=⟨_,rfl⟩
     have HNL:=oH hnl
     rw [hnl] at hle hpos hlm
     clear hl hg
     simp only [hnl]
     clear hnl hn
     go_wp2_with (at_builtin;refine wpList_append_lies _ rfl _ _ 38 rfl 0 26 i1 _ 1 8 Tryz.underlying38 hi hz0 hz1 hz2 rfl (by decide) (.slice (some ⟨w5.heap.size,0,none⟩) 1 1) 1 _ rfl hown ⟨g,0,none⟩ n cap (us.map fun t=>ptrV t.p) rfl hlm hsrc h1s hpos (by unfold maxLen;omega) (by omega) (by simp <;> omega) (w5.heap.size+1) (by simp) ?_)
     intro g2 cap2 w7 hown7 hgrow hat hlt
     have F7:Fr [] w5 w7:=(Fr.alloc w5 _).trans (Fr.of_grown hgrow) (fun q hq=>.inr (by simp [obL,Value.ownBlock] at hq;omega))
     have HC:=HN.out (.slice (some ⟨g2,0,none⟩) (1+n) cap2) w7 F7 (zEi (us:=u::us) (by simpa [ptrV] using hown7) (by have:=HNL.out;simp;omega))
     clear F7 hown7 hgrow hat hlt HN hsrc h1s hlm hown
     go_wp2_with fail
     refine HC.mono ?_
     rintro e w8 ⟨z,rfl,hg⟩
     clear HC
     obtain⟨hE,hC⟩:=hg
     have hR2:=zAe hE
     clear hE
     simp only [FV.val,ptrV] at hC ⊢
     go_wp2_with fail
     refine hC.mono ?_
     rintro e w' ⟨s,rfl,hr⟩
     go_wp2_with fail
     go_ret
     exact⟨s,rfl,hr⟩
   ·have HP:Hid (Post w5):=oH (by
     have hT:=HT2.out
     rw [hr] at hT
     have hT:ThS c b w (.bad k) ⟨df,d1,d2⟩ Post:=hT
     exact hT.bad _ rfl w5 (H4.out.1.on F5) X5)
    clear hr X5 F5 HA
    go_wp2_with fail
    go_ret
    exact zCd HP.out
  ·rw [hq] at HST
   have HQ:=oH hq
   clear hq
   go_wp2_with fail
   refine HST.mono ?_
   rintro e w4 ⟨rfl,F4⟩
   have HB:=sBehS c w4 j [58,61] (HX3.out.keep F4)
   have F04:Fr [c.R] w w4:=(H2.out.1.on0 H3.out).on0 F4
   have HT2:Hid (ThS c b w ((behS c.ts [58,61] j).bnd fun y k=>.ok (.node (nd 60 (tk c.ts j) [] 0) [d,y]) k) ⟨df,d1,d2⟩ Post):=oH (by
    have hT:=HH.out.1
    rw [H2.out.2.2.1] at hT
    have hT:ThS c b w (if isS (tk c.ts j) [58,61]=true then (E0 c.ts (j+1)).bnd fun y k=>.ok (.node (nd 60 (tk c.ts j) [] 0) [d,y]) k else (argM c.ts j).re fun l=>.node (nd 61 (tk c.ts i) [] 0) (d::l)) ⟨df,d1,d2⟩ Post:=hT
    rw [if_pos HQ.out] at hT
    have hbe:behS c.ts [58,61] j=E0 c.ts (j+1):=by unfold behS;rw [if_pos HQ.out]
    rw [hbe]
    exact hT)
   have H4:=oH (oA F04 (zAk (zAk HB2.out H3.out (by simp)) F4 (by simp)))
   clear F4 F04 HST HX3
   go_wp2_with fail
   refine HB.mono ?_
   rintro e w5 ⟨o,rfl,F5,⟨d2',k,u2,hr,rfl,X5,hu2,hd2⟩ | ⟨k,hr,rfl,X5⟩⟩
   ·have hb4:b≤w4.heap.size:=Nat.le_trans HH.out.2.2.2.1 H4.out.1.size
    have hb5:b≤w5.heap.size:=Nat.le_trans hb4 F5.size
    have hu5:IsT w5 (b≤·) u:=zAk H4.out.2 F5 (by have:=HH.out.2.2.2.2.2;simp;omega)
    have huu:IsT w5 (b≤·) u2:=zAt hu2 hb4
    have FA:=Fr.alloc w5 (.cells #[.pointer (some ⟨u.p,0,none⟩),.pointer (some ⟨u2.p,0,none⟩)] 26)
    have HC:Calls Tryz.prog 31 #[.int .u8 60,.complex .f64 qx qy,.string ⟨#[]⟩,.int .i64 0,.slice (some ⟨w5.heap.size,0,none⟩) 2 2] (w5.alloc (.cells #[.pointer (some ⟨u.p,0,none⟩),.pointer (some ⟨u2.p,0,none⟩)] 26)) fun e w'=>∃z:Tr,e=.returned (.pointer (some ⟨z.p,0,none⟩))∧GoQ ⟨df,d1,d2⟩ (.pointer (some ⟨z.p,0,none⟩)) w' Post:=by
     refine(zBj _ (nd 60 (tk c.ts j) [] 0) _ [some u,some u2] b (zIz w5 u u2) (by simp) (fun z hz=>by
      have hz:z=u∨z=u2:=by simpa using hz
      rcases hz with rfl | rfl
      ·exact zAk hu5 FA (by simp)
      ·exact zAk huu FA (by simp)) (Nat.le_trans hb5 FA.size) (by simp [nd]) _ H2.out.2.2.2.2 ⟨#[]⟩ rfl 60 rfl 0 rfl _ rfl).mono ?_
     rintro e w' ⟨z,rfl,F8,hz,hzd⟩
     refine⟨z,rfl,?_⟩
     have hT:=HT2.out
     rw [hr] at hT
     have hT:ThS c b w (.ok (.node (nd 60 (tk c.ts j) [] 0) [d,d2']) k) ⟨df,d1,d2⟩ Post:=hT
     exact hT.ok _ _ rfl z w' (((H4.out.1.on F5).on0 FA).on0 F8) ((X5.keep FA).keep F8) hz (by rw [hzd,← hd2,← H2.out.2.2.2.1];rfl)
    clear hb4 hb5 hu5 huu FA hr X5 F5 HB hu2 hd2
    simp only [encP,ptrV]
    go_wp2_with fail
    refine HC.mono ?_
    rintro e w8 ⟨z,rfl,hg⟩
    clear HC
    obtain⟨hE,hC⟩:=hg
    have hR2:=zAe hE
    clear hE
    simp only [FV.val,ptrV] at hC ⊢
    go_wp2_with fail
    refine hC.mono ?_
    rintro e w' ⟨s,rfl,hr⟩
    go_wp2_with fail
    go_ret
    exact⟨s,rfl,hr⟩
   ·have HP:Hid (Post w5):=oH (by
     have hT:=HT2.out
     rw [hr] at hT
     have hT:ThS c b w (.bad k) ⟨df,d1,d2⟩ Post:=hT
     exact hT.bad _ rfl w5 (H4.out.1.on F5) X5)
    clear hr X5 F5 HB
    simp only [encP]
    go_wp2_with fail
    go_ret
    exact zCd HP.out
 ·have HP:Hid (Post w2):=oH (by
   have hT:=HH.out.1
   rw [hr] at hT
   have hT:ThS c b w (.bad j) ⟨df,d1,d2⟩ Post:=hT
   exact hT.bad _ rfl w2 (H1.out.up0.on F2) X2)
  clear hr X2 F2 HTL
  simp only [encP]
  go_wp2_with fail
  go_ret
  exact zCd HP.out
end Go.Proofs.YtepfknfadpkigaaGreat
namespace Go.Proofs.YtepfknfadpkigaaGreat
open Go.RowKit
set_option maxHeartbeats 4000000
set_option maxRecDepth 100000
theorem zTb:Enters 113:=⟨_,_,Tryz.func113,by kernel_rfl,rfl⟩
theorem zYi:Enters 105:=⟨_,_,Tryz.func105,by kernel_rfl,rfl⟩
theorem zTc:Enters 81:=⟨_,_,Tryz.func81,by kernel_rfl,rfl⟩
def aroM (ts:List TK) (B:Nat→Re) (i:Nat):Re:=(L0 ts i).bnd fun x j=>if isS (tk ts j) [58]=true then (B (j+1)).bnd fun b k=>.ok (.node (nd 28 (tk ts i) [] 0) [x,b]) k else .bad j
theorem zYj (c:Sc) (B:Nat→Re) (hB:CB c B) (w:World) (i:Nat) (done:FV) (Post:World→Prop) (b:Nat) (hX:SX c w i) (hR:c.mb < b) (hb:b≤w.heap.size) (hT:ThS c b w (aroM c.ts B i) done Post) :
  Calls Tryz.prog 105 #[.pointer (some ⟨c.R,0,none⟩),done.val] w (GQ Post):=by
 obtain⟨px,py,e1⟩:=zAc (tk c.ts i).2.1.1 (tk c.ts i).2.1.2
 obtain⟨ex,ey,e2⟩:=zAc (tk c.ts i).2.2.1 (tk c.ts i).2.2.2
 have hfd:=zBb
 have hsc:=fun w a x y m=>zAg (P:=Tryz.prog) w a .f64 x y m
 obtain⟨W,hW⟩:∃W,w.heap.size=W:=⟨_,rfl⟩
 obtain⟨w0,hw0⟩:∃w0,w.alloc (.cells #[done.val] 76)=w0:=⟨_,rfl⟩
 have F0:Fr [] w w0:=by rw [← hw0];exact Fr.alloc _ _
 have v0:Var w0 W 76 done.val:=by rw [← hw0,← hW];exact heap_alloc_new _ _
 have HTK:=zCj c w0 i (hX.keep F0) px py ex ey e1 e2
 have hRm:=c.hRm
 have hmW:c.mb < W:=by rw [← hW];omega
 have hun:aroM c.ts B i=(L0 c.ts i).bnd fun x j=>if isS (tk c.ts j) [58]=true then (B (j+1)).bnd fun b k=>.ok (.node (nd 28 (tk c.ts i) [] 0) [x,b]) k else .bad j:=rfl
 rw [hun] at hT
 have HH:=oH (oA hB (oA hT (oA F0 (oA v0 (oA hmW (oA hR (oA hb (oA hW (oA e1 (hX.keep F0))))))))))
 clear hB hX hR hb hT F0 v0 hW hun e1 e2 hmW hRm
 generalize ((tk c.ts i).1.k:Int)=t0 at *
 generalize (⟨(tk c.ts i).1.x.toArray⟩:ByteArray)=t3 at *
 generalize (tk c.ts i).1.n=t4 at *
 have hdv:∃df d1 d2,done.val=.func (.func df) d1 d2:=⟨_,_,_,rfl⟩
 obtain⟨df,d1,d2,hdv⟩:=hdv
 rw [hdv] at hw0 ⊢
 have HDV:=oH hdv
 clear hdv
 go_enter Tryz.func105,Tryz.ntmps105
 go_wp2_with fail
 refine HTK.mono ?_
 rintro e w1 ⟨rfl,F1⟩
 clear HTK
 go_upto_region 2 with fail
 obtain⟨P,hP⟩:∃P,w1.heap.size=P:=⟨_,rfl⟩
 obtain⟨w2,hw2⟩:∃w2,w1.alloc (.cells #[.complex .f64 px py] 37)=w2:=⟨_,rfl⟩
 have F2:Fr [] w1 w2:=by rw [← hw2];exact Fr.alloc _ _
 have v2:Var w2 P 37 (.complex .f64 px py):=by rw [← hw2,← hP];exact heap_alloc_new _ _
 try rw [hw2]
 try rw [hP]
 have HA:=sTellL c w2 i ((HH.out.2.2.2.2.2.2.2.2.2.keep F1).keep F2)
 have hs1:=F1.size
 have HWP:Hid (W < P):=oH (by rw [← hP];have:=HH.out.2.2.2.1.lt;omega)
 have H2:=oH (oA ((F1.up0 (N:=[c.R])).on0 F2) v2)
 clear F1 F2 v2 hP hs1 hw2
 go_wp2_with fail
 refine HA.mono ?_
 rintro e w3 ⟨o,rfl,F3,⟨d,j,u,hr,rfl,X3,hu,hd⟩ | ⟨j,hr,rfl,X3⟩⟩
 ·clear HA
  simp only [encP,ptrV]
  go_upto_region 3 with fail
  obtain⟨Q,hQ⟩:∃Q,w3.heap.size=Q:=⟨_,rfl⟩
  obtain⟨w4,hw4⟩:∃w4,w3.alloc (.cells #[.pointer (some ⟨u.p,0,none⟩)] 26)=w4:=⟨_,rfl⟩
  have F4:Fr [] w3 w4:=by rw [← hw4];exact Fr.alloc _ _
  have v4:Var w4 Q 26 (.pointer (some ⟨u.p,0,none⟩)):=by rw [← hw4,← hQ];exact heap_alloc_new _ _
  try rw [hw4]
  try rw [hQ]
  have c4:=v4.c
  have H4:=oH (oA F3 (oA F4 (oA v4 (oA (X3.keep F4) (oA hu (oA hd (oA hr hQ)))))))
  have X4:=X3.keep F4
  clear F3 F4 v4 X3 hu hd hr hQ hw4
  cases hq:isS (tk c.ts j) [58]
  ·have HK:=zBs c w4 j [58] X4 hq
   have HP:Hid (∀w',Fr [] w4 w'→Post w'):=oH (fun w' F=>by
    obtain⟨hB,hT,F0,v0,hmW,hR,hb,hW,e1,X0⟩:=HH.out
    rw [H4.out.2.2.2.2.2.2.1] at hT
    have hT:ThS c b w (if isS (tk c.ts j) [58]=true then (B (j+1)).bnd fun b k=>.ok (.node (nd 28 (tk c.ts i) [] 0) [d,b]) k else .bad j) done Post:=hT
    rw [if_neg (by rw [hq];simp)] at hT
    exact hT.bad _ rfl w' ((((F0.up0.on H2.out.1).on H4.out.1).on0 H4.out.2.1).on0 F) (H4.out.2.2.2.1.keep F))
   clear X4 hq
   go_wp2_with fail
   refine HK.mono ?_
   rintro e w5 ⟨rfl,F5⟩
   have H5:=oH F5
   clear F5 HK
   go_wp2_with fail
   go_ret
   exact zCd (HP.out _ H5.out)
  ·have HK:=zBr c w4 j [58] X4 hq
   have HQQ:=oH hq
   clear X4 hq
   go_wp2_with fail
   refine HK.mono ?_
   rintro e w5 ⟨rfl,F5,X5⟩
   have hTS:ThS c b w5 (B (j+1)) ⟨113,#[],#[pt W,pt P,pt Q]⟩ Post:=by
    obtain⟨hB,hT,F0,v0,hmW,hR,hb,hW,e1,X0⟩:=HH.out
    obtain⟨F3,F4,v4,X4,hu,hd,hr,hQ⟩:=H4.out
    have hRm:=c.hRm
    have hWP:=HWP.out
    have F04:Fr [c.R] w0 w4:=(H2.out.1.on F3).on0 F4
    have hQs:P < Q:=by rw [← hQ];have:=(H2.out.2.keep F3 (by simp;omega)).lt;exact this
    rw [hr] at hT
    have hT:ThS c b w (if isS (tk c.ts j) [58]=true then (B (j+1)).bnd fun b k=>.ok (.node (nd 28 (tk c.ts i) [] 0) [d,b]) k else .bad j) done Post:=hT
    rw [if_pos HQQ.out] at hT
    refine⟨fun d2 k er u2 w6 F6 X6 hu2 hd2=>⟨zTb,?_⟩,fun k er w6 F6 X6=>?_,fun er=>?_⟩
    ·rw [er] at hT
     have hT:ThS c b w (.ok (.node (nd 28 (tk c.ts i) [] 0) [d,d2]) k) done Post:=hT
     have hPs:P≤w2.heap.size:=Nat.le_of_lt H2.out.2.lt
     have hs2:=H2.out.1.size
     have hwW:=v0.lt
     have F46:=F5.on F6
     refine arm1 u u2 (tk c.ts i) done Post w6 W P Q b ((v0.keep F04 (by simp;omega)).keep F46 (by simp;omega)) (by rw [e1];exact((H2.out.2.keep F3 (by simp;omega)).keep F4 (by simp)).keep F46 (by simp;omega)) (v4.keep F46 (by simp;omega)) (zAk (zAk (zAt hu (by omega)) F4 (by simp)) F46 (by simp;omega)) hu2 (by have:=F04.size;have:=F46.size;omega) (fun uu w7 F7 huu hduu=>?_)
     exact hT.ok _ _ rfl uu w7 (((F0.up0.on F04).on F46).on0 F7) (X6.keep F7) huu (by rw [hduu,hd,hd2])
    ·rw [er] at hT
     have hT:ThS c b w (.bad k) done Post:=hT
     exact hT.bad _ rfl w6 (((F0.up0.on F04).on F5).on F6) X6
    ·rw [er] at hT
     have hT:ThS c b w .out done Post:=hT
     exact hT.no rfl
   have HC:=HH.out.1 w5 (j+1) _ Post b X5 HH.out.2.2.2.2.2.1 (by
    have h1:=HH.out.2.2.2.2.2.2.1
    have h2:=HH.out.2.2.1.size
    have h3:=H2.out.1.size
    have h4:=H4.out.1.size
    have h5:=H4.out.2.1.size
    have h6:=F5.size
    omega) hTS
   clear hTS F5 X5 HK
   rw [← HH.out.2.2.2.2.2.2.2.1] at HC
   simp only [FV.val,pt] at HC
   go_wp2_with fail
   refine HC.mono ?_
   rintro e w' ⟨s,rfl,hr⟩
   go_wp2_with fail
   go_ret
   exact⟨s,rfl,hr⟩
 ·clear HA
  have HP:Hid (∀w',Fr [] w3 w'→Post w'):=oH (fun w' F=>by
   obtain⟨hB,hT,F0,v0,hmW,hR,hb,hW,e1,X0⟩:=HH.out
   rw [hr] at hT
   have hT:ThS c b w (.bad j) done Post:=hT
   exact hT.bad _ rfl w' (((F0.up0.on H2.out.1).on F3).on0 F) (X3.keep F))
  clear hr F3 X3
  simp only [encP]
  go_wp2_with fail
  go_ret
  exact zCd (HP.out _ (Fr.alloc _ _))
theorem zTd (c:Sc) (B:Nat→Re) (hB:CB c B):ItmS c 81 (armM c.ts B):=by
 refine⟨zTc,fun w i hX=>?_⟩
 have H1:=sStandsW c w i [69,76,83,69] hX
 cases hq:isW (tk c.ts i) [69,76,83,69]
 ·rw [hq] at H1
  cases hz:isW (tk c.ts i) [69,78,68]
  ·have ha:armM c.ts B i=some (aroM c.ts B i):=by
    show (if (isW (tk c.ts i) _||isW (tk c.ts i) _)=true then _ else _)=_
    rw [hq,hz];rfl
   rw [ha]
   have HX:=oH (oA hX hz)
   have HB:=oH hB
   clear hX hq hz ha hB
   go_enter Tryz.func81,Tryz.ntmps81
   go_wp2_with fail
   refine H1.mono ?_
   rintro e w1 ⟨rfl,F1⟩
   have H2:=sStandsW c w1 i [69,78,68] (HX.out.1.keep F1)
   rw [HX.out.2] at H2
   have HF:=oH F1
   clear F1 H1
   go_wp2_with fail
   refine H2.mono ?_
   rintro e w2 ⟨rfl,F2⟩
   have HF2:=oH F2
   clear F2 H2
   go_wp2_with fail
   go_ret
   exact⟨HF.out.on HF2.out,⟨105,#[pt c.R],#[]⟩,rfl,fun w3 done Post b X hR hb hT=>⟨zYi,zYj c B HB.out w3 i done Post b X hR hb hT⟩⟩
  ·have ha:armM c.ts B i=none:=by
    show (if (isW (tk c.ts i) _||isW (tk c.ts i) _)=true then _ else _)=_
    rw [hq,hz];rfl
   rw [ha]
   have HX:=oH (oA hX hz)
   clear hX hq hz ha hB
   go_enter Tryz.func81,Tryz.ntmps81
   go_wp2_with fail
   refine H1.mono ?_
   rintro e w1 ⟨rfl,F1⟩
   have H2:=sStandsW c w1 i [69,78,68] (HX.out.1.keep F1)
   rw [HX.out.2] at H2
   have HF:=oH F1
   clear F1 H1
   go_wp2_with fail
   refine H2.mono ?_
   rintro e w2 ⟨rfl,F2⟩
   have HF2:=oH F2
   clear F2 H2
   go_wp2_with fail
   go_ret
   exact⟨HF.out.on HF2.out,rfl⟩
 ·rw [hq] at H1
  have ha:armM c.ts B i=none:=by
   show (if (isW (tk c.ts i) _||isW (tk c.ts i) _)=true then _ else _)=_
   rw [hq];rfl
  rw [ha]
  clear hX hq ha hB
  go_enter Tryz.func81,Tryz.ntmps81
  go_wp2_with fail
  refine H1.mono ?_
  rintro e w1 ⟨rfl,F1⟩
  have HF:=oH F1
  clear F1 H1
  go_wp2_with fail
  go_ret
  exact⟨HF.out,rfl⟩
end Go.Proofs.YtepfknfadpkigaaGreat
namespace Go.Proofs.YtepfknfadpkigaaGreat
open Go.RowKit
set_option maxHeartbeats 4000000
set_option maxRecDepth 100000
def CnS (c:Sc) (w:World) (res:ReL) (e:Ending) (w':World):Prop:=Fr [c.R] w w' ∧
 ((∃j x y,∃o:Option Tr,∃g,res=.ok [x.dt,y.dt,(o.map Tr.dt).getD dt0] j∧e=.returned (.tuple #[.slice (some ⟨g,0,none⟩) 3 3,.bool true])∧SX c w' j∧w'.ownsRow 0 26 1 (.slice (some ⟨g,0,none⟩) 3 3) 3 [ptrV x.p,ptrV y.p,encP (o.map Tr.p)]∧w.heap.size≤g ∧
  IsT w' (fun q=>w.heap.size≤q∧q≠g) x∧IsT w' (fun q=>w.heap.size≤q∧q≠g) y∧∀z,o=some z→IsT w' (fun q=>w.heap.size≤q∧q≠g) z) ∨
  ∃j q n cap,res=.bad j∧e=.returned (.tuple #[.slice q n cap,.bool false])∧SX c w' j)
theorem zGp {C g:Nat} {w w':World} {u:Tr} (h:IsT w (C≤·) u) (F:Fr [] w w') (hg:w.heap.size≤g):IsT w' (fun q=>C≤q∧q≠g) u :=
 h.keep (fun q hq hl=>⟨hq,by omega⟩) (fun q hq hl=>F.block q hl (by simp))
theorem zIo (w:World):(binOp .neq 26 (.pointer none) (.pointer none)).run Tryz.prog w=.ok (.bool false) w:=by kernel_rfl
theorem zJp (w:World) (p q:Nat) (v:Value) (hv:v.oneCell'=true):(w.alloc (.cells #[.pointer (some ⟨p,0,none⟩),.pointer (some ⟨q,0,none⟩),v] 26)).ownsRow 0 26 1 (.slice (some ⟨w.heap.size,0,none⟩) 3 3) 3 [.pointer (some ⟨p,0,none⟩),.pointer (some ⟨q,0,none⟩),v] :=
 ⟨rfl,.inr ⟨w.heap.size,3,#[.pointer (some ⟨p,0,none⟩),.pointer (some ⟨q,0,none⟩),v],rfl,Nat.zero_le _,heap_alloc_new _ _,by decide,by decide,rfl,rfl⟩⟩
theorem zMm (ts:List TK) (i:Nat):cntM ts i=(behS ts [58,61] i).bndL fun a j=>(behW ts [84,79] j).bndL fun b k=>if isW (tk ts k) [66,89]=true then (behW ts [66,89] k).bndL fun c l=>.ok [a,b,c] l else .ok [a,b,dt0] k:=rfl
theorem zYk (c:Sc) (w:World) (i:Nat) (h:SX c w i) (hR:c.R < w.heap.size):Calls Tryz.prog 89 #[.pointer (some ⟨c.R,0,none⟩)] w (CnS c w (cntM c.ts i)):=by
 have HC:=sBehS c w i [58,61] h
 have hnn:=zIo
 have H0:=oH hR
 clear h hR
 go_enter Tryz.func89,Tryz.ntmps89
 go_wp2_with fail
 refine HC.mono ?_
 rintro e w1 ⟨o,rfl,F1,⟨d,j,x,hr,rfl,X1,hx,rfl⟩ | ⟨j,hr,rfl,X1⟩⟩
 ·have HC2:=sBehW c w1 j [84,79] X1
  have H1:=oH (oA F1 (oA hr hx))
  clear F1 hr hx X1 HC
  simp only [encP,ptrV]
  go_wp2_with fail
  refine HC2.mono ?_
  rintro e w2 ⟨o,rfl,F2,⟨d,k,y,hr,rfl,X2,hy,rfl⟩ | ⟨k,hr,rfl,X2⟩⟩
  ·have HS:=sStandsW c w2 k [66,89] X2
   have hx2:IsT w2 (w.heap.size≤·) x:=zAk H1.out.2.2 F2 (by have:=H0.out;simp;omega)
   have hy2:IsT w2 (w.heap.size≤·) y:=zAt hy H1.out.1.size
   have H2:=oH (oA (H1.out.1.on F2) (oA hr (oA X2 (oA hx2 hy2))))
   have XX:=X2
   clear F2 hr hy X2 HC2 hx2 hy2
   simp only [encP,ptrV]
   cases hq:isW (tk c.ts k) [66,89]
   ·rw [hq] at HS
    have HQ:=oH hq
    clear hq XX
    go_wp2_with fail
    refine HS.mono ?_
    rintro e w3 ⟨rfl,F3⟩
    have H3:=oH F3
    clear F3 HS
    go_wp2_with fail
    refine bodyPost_ret (v:=.tuple #[.slice (some ⟨w3.heap.size,0,none⟩) 3 3,.bool true]) (by simp [results,Tryz.results89,go_sem]) rfl ?_
    have FA:=H3.out.on (Fr.alloc w3 (.cells #[.pointer (some ⟨x.p,0,none⟩),.pointer (some ⟨y.p,0,none⟩),.pointer none] 26))
    have hres:cntM c.ts i=.ok [x.dt,y.dt,dt0] k:=by
     rw [zMm,H1.out.2.1]
     show ((behW c.ts [84,79] j).bndL fun b k=>if isW (tk c.ts k) [66,89]=true then (behW c.ts [66,89] k).bndL fun c l=>.ok [x.dt,b,c] l else .ok [x.dt,b,dt0] k)=_
     rw [H2.out.2.1]
     show (if isW (tk c.ts k) [66,89]=true then _ else _)=_
     rw [if_neg (by rw [HQ.out];simp)]
    exact⟨H2.out.1.on0 FA,.inl ⟨k,x,y,none,w3.heap.size,hres,rfl,H2.out.2.2.1.keep FA,zJp w3 x.p y.p _ rfl,Nat.le_trans H2.out.1.size H3.out.size,zGp H2.out.2.2.2.1 FA H3.out.size,zGp H2.out.2.2.2.2 FA H3.out.size,fun z hz=>by cases hz⟩⟩
   ·rw [hq] at HS
    have HQ:=oH hq
    clear hq
    go_wp2_with fail
    refine HS.mono ?_
    rintro e w3 ⟨rfl,F3⟩
    have HC3:=sBehW c w3 k [66,89] (XX.keep F3)
    have H3:=oH F3
    have hun:∀r,behW c.ts [66,89] k=r→cntM c.ts i=r.bndL fun c l=>.ok [x.dt,y.dt,c] l:=fun r hr=>by
     rw [zMm,H1.out.2.1]
     show ((behW c.ts [84,79] j).bndL fun b k=>if isW (tk c.ts k) [66,89]=true then (behW c.ts [66,89] k).bndL fun c l=>.ok [x.dt,b,c] l else .ok [x.dt,b,dt0] k)=_
     rw [H2.out.2.1]
     show (if isW (tk c.ts k) [66,89]=true then _ else _)=_
     rw [if_pos HQ.out,hr]
    have HU:=oH hun
    clear F3 HS XX hun
    go_wp2_with fail
    refine HC3.mono ?_
    rintro e w4 ⟨o,rfl,F4,⟨d,l,z,hr,rfl,X4,hz,rfl⟩ | ⟨l,hr,rfl,X4⟩⟩
    ·have H4:=oH (oA F4 (oA hr (oA X4 hz)))
     clear F4 hr X4 hz HC3
     simp only [encP,ptrV]
     go_wp2_with fail
     refine bodyPost_ret (v:=.tuple #[.slice (some ⟨w4.heap.size,0,none⟩) 3 3,.bool true]) (by simp [results,Tryz.results89,go_sem]) rfl ?_
     have FA:=Fr.alloc w4 (.cells #[.pointer (some ⟨x.p,0,none⟩),.pointer (some ⟨y.p,0,none⟩),.pointer (some ⟨z.p,0,none⟩)] 26)
     have F24:Fr [c.R] w2 w4:=H3.out.up0.on H4.out.1
     have hs4:=F24.size
     have hs2:=H2.out.1.size
     have hr0:=H0.out
     have hx4:IsT w4 (w.heap.size≤·) x:=zAk H2.out.2.2.2.1 F24 (by simp;omega)
     have hy4:IsT w4 (w.heap.size≤·) y:=zAk H2.out.2.2.2.2 F24 (by simp;omega)
     have hz4:IsT w4 (w.heap.size≤·) z:=zAt H4.out.2.2.2 (Nat.le_trans hs2 H3.out.size)
     exact⟨(H2.out.1.on F24).on0 FA,.inl ⟨l,x,y,some z,w4.heap.size,HU.out _ H4.out.2.1,rfl,H4.out.2.2.1.keep FA,zJp w4 x.p y.p _ rfl,Nat.le_trans hs2 hs4,zGp hx4 FA (Nat.le_refl _),zGp hy4 FA (Nat.le_refl _),fun z' hz'=>by injection hz' with hz';subst hz';exact zGp hz4 FA (Nat.le_refl _)⟩⟩
    ·have H4:=oH (oA F4 (oA hr X4))
     clear F4 hr X4 HC3
     simp only [encP]
     go_wp2_with fail
     refine bodyPost_ret (v:=.tuple #[.slice (some ⟨w4.heap.size,0,none⟩) 3 3,.bool false]) (by simp [results,Tryz.results89,go_sem]) rfl ?_
     have FA:=Fr.alloc w4 (.cells #[.pointer (some ⟨x.p,0,none⟩),.pointer (some ⟨y.p,0,none⟩),.pointer none] 26)
     exact⟨(H2.out.1.on (H3.out.up0.on H4.out.1)).on0 FA,.inr ⟨l,_,_,_,HU.out _ H4.out.2.1,rfl,H4.out.2.2.keep FA⟩⟩
  ·have HE:Hid (Fr [c.R] w w2∧cntM c.ts i=.bad k∧SX c w2 k):=oH ⟨H1.out.1.on F2,by
    rw [zMm,H1.out.2.1]
    show ((behW c.ts [84,79] j).bndL fun b k=>if isW (tk c.ts k) [66,89]=true then (behW c.ts [66,89] k).bndL fun c l=>.ok [x.dt,b,c] l else .ok [x.dt,b,dt0] k)=_
    rw [hr];rfl,X2⟩
   clear F2 hr X2 HC2
   simp only [encP]
   go_wp2_with fail
   refine bodyPost_ret (v:=.tuple #[.slice none 0 0,.bool false]) (by simp [results,Tryz.results89,go_sem]) rfl ?_
   exact⟨HE.out.1,.inr ⟨_,_,_,_,HE.out.2.1,rfl,HE.out.2.2⟩⟩
 ·have HE:Hid (Fr [c.R] w w1∧cntM c.ts i=.bad j∧SX c w1 j):=oH ⟨F1,by rw [zMm,hr];rfl,X1⟩
  clear F1 hr X1 HC
  simp only [encP]
  go_wp2_with fail
  refine bodyPost_ret (v:=.tuple #[.slice none 0 0,.bool false]) (by simp [results,Tryz.results89,go_sem]) rfl ?_
  exact⟨HE.out.1,.inr ⟨_,_,_,_,HE.out.2.1,rfl,HE.out.2.2⟩⟩
end Go.Proofs.YtepfknfadpkigaaGreat
end
