/- Several texts in one. -/
import Derived.Test.YtepfknfadpkigaaGreatPkAA
import Derived.Test.YtepfknfadpkigaaGreatPkAA
import Derived.Test.YtepfknfadpkigaaGreatPkAD
import Derived.Test.YtepfknfadpkigaaGreatPkAQ
import Derived.Deep.DeepCutAuto
import Derived.Deep.RegionWith
import Derived.Deep.RegionHeld3
import Derived.Deep.AppendLies
import Derived.Deep.Onto
set_option linter.unusedVariables false
set_option linter.unusedSimpArgs false
section
namespace Go.Proofs.YtepfknfadpkigaaGreat
open Go.RowKit
set_option maxHeartbeats 400000
set_option maxRecDepth 100000
def plV (l c:Int):Value:=.agg #[.int .i64 l,.int .i64 c]
theorem zLo (l c:Int) (w:World) :
  Calls Tryz.prog 38 #[.agg #[.int .i64 l,.int .i64 c]] w fun e w'=>e=.returned (.bool (isP l c))∧Below w.heap.size w w':=by
 have hc:l < 1∨(1≤l∧1073741824 < l)∨(1≤l∧l≤1073741824∧c < 1)∨(1≤l∧l≤1073741824∧1≤c∧1073741824 < c)∨(1≤l∧l≤1073741824∧1≤c∧c≤1073741824):=by omega
 rcases hc with h | ⟨h,g⟩ | ⟨h,g,h1⟩ | ⟨h,g,h1,g1⟩ | ⟨h,g,h1,g1⟩
 all_goals
  go_enter Tryz.func38,Tryz.ntmps38
  go_wp2_with fail
  go_ret
  exact⟨by first | (rw [(zDo l c).2 ⟨h,g,h1,g1⟩];simp) | (rw [(zUq l c).2 (by omega)];first | rfl | simp;omega),zAn _ _⟩
theorem zGh (l c:Int) (w:World) :
  Calls Tryz.prog 22 #[.agg #[.int .i64 l,.int .i64 c]] w fun e w'=>e=.returned (posV l c)∧Below w.heap.size w w':=by
 cases hp:isP l c
 ·have HT:=oH (zDw l c hp)
  go_enter Tryz.func22,Tryz.ntmps22
  go_wp2_with fail
  refine(zLo l c _).mono ?_
  rintro e w1 ⟨rfl,hb1⟩
  rw [hp]
  go_wp2_with fail
  go_ret
  exact⟨by rw [HT.out];rfl,bt (zAn _ _) hb1⟩
 ·have HT:=oH (zNr l c hp)
  go_enter Tryz.func22,Tryz.ntmps22
  go_wp2_with fail
  refine(zLo l c _).mono ?_
  rintro e w1 ⟨rfl,hb1⟩
  rw [hp]
  have hc0:w1.cell? ⟨w.heap.size,0,none⟩=some (.int .i64 l):=(hb1.cell (by simp)).trans (by rw [World.cell?_alloc_at _ _ _ _ rfl];rfl)
  have hc1:w1.cell? ⟨w.heap.size,1,none⟩=some (.int .i64 c):=(hb1.cell (by simp)).trans (by rw [World.cell?_alloc_at _ _ _ _ rfl];rfl)
  go_wp2_with fail
  go_ret
  exact⟨by rw [HT.out];rfl,bt (zAn _ _) hb1⟩
end Go.Proofs.YtepfknfadpkigaaGreat
namespace Go.Proofs.YtepfknfadpkigaaGreat
open Go.RowKit
set_option maxHeartbeats 400000
set_option maxRecDepth 100000
theorem zKk (l c:Int) (s:ByteArray) (hs:s.size≤1048576) (w:World) :
  Calls Tryz.prog 25 #[.agg #[.int .i64 l,.int .i64 c],.string s] w fun e w'=>e=.returned (plV (goB l c s.data.toList).1 (goB l c s.data.toList).2)∧Below w.heap.size w w':=by
 have T0:Hid (Two ((w.alloc (.cells #[.int .i64 l,.int .i64 c] 67)).alloc (.cells #[.int .i64 0,.int .i64 0] 67)) w.heap.size l c) :=
  oH ((Two.new w l c _ _ rfl).alloc _ (by simp))
 have T1:Hid (Two ((w.alloc (.cells #[.int .i64 l,.int .i64 c] 67)).alloc (.cells #[.int .i64 0,.int .i64 0] 67)) (w.heap.size+1) 0 0) :=
  oH (Two.new _ 0 0 _ _ (by simp))
 go_enter Tryz.func25,Tryz.ntmps25
 go_wp2_with fail
 go_loopw [5] (fun i wr=>∃(k:Nat) (l1 c1:Int),k≤s.size∧i=.int .i64 k∧goB l c s.data.toList=goB l1 c1 (s.data.toList.drop k)∧Two wr w.heap.size l1 c1∧Two wr (w.heap.size+1) 0 0∧Below w.heap.size w wr∧w.heap.size+2≤wr.heap.size)
  (fun i _=>s.size - (intOf i).toNat)
 case atStart=>exact⟨0,l,c,Nat.zero_le _,rfl,rfl,T0.out,T1.out,bt (zAn _ _) (zAn _ _),by simp⟩
 case round =>
  obtain⟨k,l1,c1,hk,rfl,hgo,A0,A1,hnx,hsz⟩:=hrel
  have HG:=oH hgo
  clear hgo
  clear T0 T1
  by_cases hlt:k < s.size
  ·have h0:=A0.c0
   have h1:=A0.c1
   go_wp2_with fail
   refine(zLo l1 c1 _).mono ?_
   rintro e w1 ⟨rfl,hb1⟩
   have D0:=A0.below hb1 (by omega)
   have D1:=A1.below hb1 (by omega)
   have hny:=hnx.trans (hb1.mono hnx.size)
   clear A0 A1 h0 h1
   have hsz1:=hb1.size
   cases hp:isP l1 c1
   ·have HT:Hid (goB l c s.data.toList=(0,0)):=oH (by rw [HG.out];exact zCs l1 c1 _ hp)
    have h0:=D1.c0
    have h1:=D1.c1
    have f0:=D1.f0
    have f1:=D1.f1
    go_wp2_with fail
    have r0:=((D1.set0 0).set1 0).c0
    have r1:=((D1.set0 0).set1 0).c1
    refine bodyPost_ret (v:=.agg #[.int .i64 0,.int .i64 0]) (by simp [results,Tryz.results25,go_sem,r0,r1]) rfl ?_
    exact⟨by rw [HT.out];rfl,(hny.setCell (by simp) _).setCell (by simp) _⟩
   ·have h0:=D0.c0
    have h1:=D0.c1
    have f0:=D0.f0
    have f1:=D0.f1
    have HP:=oH hp
    obtain⟨p0,p1,p2,p3⟩:=(zDo l1 c1).1 hp
    have hd:=zCa s k hlt
    obtain⟨b,hb⟩:∃b,s[k]=b:=⟨_,rfl⟩
    rw [hb] at hd
    have hbt:=zRk b
    by_cases h10:b=10
    ·rw [decide_eq_true h10] at hbt
     have HN:Hid (goB l c s.data.toList=goB (l1+1) 1 (s.data.toList.drop (k+1))):=oH (by
      rw [HG.out,hd,zFd l1 c1 b _ hp];unfold stepL stepC;rw [if_pos h10,if_pos h10])
     clear h10 hd
     go_wp2_with fail
     go_roundw
     case rel=>exact⟨k+1,l1+1,1,by omega,by simp,HN.out,(D0.set0 _).set1 _,(D1.other _ _ _ (by omega)).other _ _ _ (by omega),(hny.setCell (by simp) _).setCell (by simp) _,by simp;omega⟩
     case measure=>simp [intOf];omega
    ·rw [decide_eq_false h10] at hbt
     have HN:Hid (goB l c s.data.toList=goB l1 (c1+1) (s.data.toList.drop (k+1))):=oH (by
      rw [HG.out,hd,zFd l1 c1 b _ hp];unfold stepL stepC;rw [if_neg h10,if_neg h10])
     clear h10 hd
     go_wp2_with fail
     go_roundw
     case rel=>exact⟨k+1,l1,c1+1,by omega,by simp,HN.out,D0.set1 _,D1.other _ _ _ (by omega),hny.setCell (by simp) _,by simp;omega⟩
     case measure=>simp [intOf];omega
  ·have hks:k=s.size:=by omega
   subst hks
   have hdr:s.data.toList.drop s.size=[]:=List.drop_eq_nil_of_le (by rw [Array.length_toList];exact Nat.le_refl _)
   rw [hdr] at HG
   clear hdr
   have h0:=A0.c0
   have h1:=A0.c1
   go_wp2_with fail
   refine(zLo l1 c1 _).mono ?_
   rintro e w1 ⟨rfl,hb1⟩
   have D0:=A0.below hb1 (by omega)
   have D1:=A1.below hb1 (by omega)
   have hny:=hnx.trans (hb1.mono hnx.size)
   clear A0 A1 h0 h1
   have i0:=D0.c0
   have i1:=D0.c1
   have h0:=D1.c0
   have h1:=D1.c1
   have f0:=D1.f0
   have f1:=D1.f1
   cases hp:isP l1 c1
   ·have HT:Hid (goB l c s.data.toList=(0,0)):=oH (by rw [HG.out];exact zCs l1 c1 _ hp)
    go_wp2_with fail
    have r0:=((D1.set0 0).set1 0).c0
    have r1:=((D1.set0 0).set1 0).c1
    refine bodyPost_ret (v:=.agg #[.int .i64 0,.int .i64 0]) (by simp [results,Tryz.results25,go_sem,r0,r1]) rfl ?_
    exact⟨by rw [HT.out];rfl,(hny.setCell (by simp) _).setCell (by simp) _⟩
   ·have HT:Hid (goB l c s.data.toList=(l1,c1)):=oH (by rw [HG.out];exact zNq l1 c1 hp)
    go_wp2_with fail
    have r0:=((D1.set0 l1).set1 c1).c0
    have r1:=((D1.set0 l1).set1 c1).c1
    refine bodyPost_ret (v:=.agg #[.int .i64 l1,.int .i64 c1]) (by simp [results,Tryz.results25,go_sem,r0,r1]) rfl ?_
    exact⟨by rw [HT.out];rfl,(hny.setCell (by simp) _).setCell (by simp) _⟩
end Go.Proofs.YtepfknfadpkigaaGreat
namespace Go.Proofs.YtepfknfadpkigaaGreat
open Go.RowKit
set_option maxHeartbeats 400000
set_option maxRecDepth 100000
theorem zEs (l c l2 c2:Int) (s:ByteArray) (hs:s.size≤1048576) (hg:goB l c s.data.toList=(l2,c2)) (w:World) :
  Calls Tryz.prog 25 #[.agg #[.int .i64 l,.int .i64 c],.string s] w fun e w'=>e=.returned (.agg #[.int .i64 l2,.int .i64 c2])∧Below w.heap.size w w':=by
 have:=zKk l c s hs w
 rw [hg] at this
 exact this
end Go.Proofs.YtepfknfadpkigaaGreat
namespace Go.Proofs.YtepfknfadpkigaaGreat
open Go.RowKit
set_option maxHeartbeats 1000000
set_option maxRecDepth 100000
structure ScanR (S:List UInt8) (w wr:World) (sr:ByteArray) (v:Value) (off:Nat) (done:List (T0 × Nat × Nat)):Prop where
 le:off≤S.length
 rest:sr.data.toList=S.drop off
 own:OwnT wr (w.heap.size+1) v (done.map (plOf S))
 at':scanAt S off done
 two:Two wr w.heap.size (goB 1 1 (S.take off)).1 (goB 1 1 (S.take off)).2
 bel:Below w.heap.size w wr
 lt:w.heap.size < wr.heap.size
 cnt:done.length≤off
structure FE (w:World) (B:Nat) (v:Value) (l:List TK) (px py:Int) (W:World):Prop where
 own:W.ownsRow B 71 5 v l.length (l.flatMap tkCells)
 bel:Below w.heap.size w W
 two:Two W w.heap.size px py
 lt:w.heap.size < W.heap.size
theorem FE.step {w:World} {B:Nat} {v:Value} {l:List TK} {px py:Int} {W W':World} (h:FE w B v l px py W) (hb:Below W.heap.size W W'):FE w B v l px py W' :=
 ⟨OwnT.below h.own hb,h.bel.trans (hb.mono h.bel.size),h.two.below hb h.lt,Nat.lt_of_lt_of_le h.lt hb.size⟩
theorem zSf (s:ByteArray) (hs:s.size≤16384) (w:World) :
  Calls Tryz.prog 14 #[.string s] w fun e w'=>ScanPost s.data.toList w e w':=by
 have hsc:=fun w a x y m=>zAg (P:=Tryz.prog) w a .f64 x y m
 obtain⟨S,hS⟩:∃S,s.data.toList=S:=⟨_,rfl⟩
 have hSl:S.length≤16384:=by rw [← hS,zAq];exact hs
 have H0:Hid (ScanR S w (w.alloc (.cells #[.int .i64 1,.int .i64 1] 67)) s (.slice none 0 0) 0 []):=oH
  ⟨by omega,by rw [hS];rfl,World.ownsRow_nil _ _ _ _,zIw S,Two.new _ 1 1 _ _ rfl,zAn _ _,by simp,by simp⟩
 rw [hS]
 go_enter Tryz.func14,Tryz.ntmps14
 go_wp2_with fail
 go_loopw [0,6] (fun sv v wr=>∃(sr:ByteArray) (off:Nat) (done:List (T0 × Nat × Nat)),sv=.string sr∧ScanR S w wr sr v off done)
  (fun sv _ _=>lenOf sv)
 case atStart=>exact⟨s,0,[],rfl,H0.out⟩
 case round =>
  obtain⟨sr,off,done,rfl,hR⟩:=hrel
  obtain⟨hle,hrest,own,hat,A,bel,hlt,hcnt⟩:=hR
  clear H0
  have hsz:sr.size≤16384:=by
   rw [← zAq,hrest,List.length_drop];omega
  obtain⟨px,py,hpp⟩:∃px py,goB 1 1 (S.take off)=(px,py):=⟨_,_,rfl⟩
  rw [hpp] at A
  have hem:=zGu sr
  by_cases hz:sr.size=0
  ·skip
   rw [decide_eq_true hz] at hem
   have hdn:S.drop off=[]:=by rw [← hrest];exact List.length_eq_zero_iff.1 (by rw [zAq];exact hz)
   have hend:=oH (zMt S off done hat hdn)
   obtain⟨x1,y1,e1⟩:=zDz px py
   have HP:=fun w=>zGh px py w
   simp only [e1] at HP
   have HTK:Hid (tkCells (endT S off)=[.int .u8 0,.complex .f64 x1 y1,.complex .f64 x1 y1,.string ⟨#[]⟩,.int .i64 0]):=oH (by unfold tkCells endT;simp only;rw [hpp];show [_,posV px py,posV px py,_,_]=_;rw [e1];rfl)
   have F0:FE w (w.heap.size+1) _ (done.map (plOf S)) px py wr.drew:=⟨own.below (Below.refl _ _).drew,bel.drew,A.drew,hlt⟩
   clear own bel A hdn hat e1 hpp hrest
   obtain⟨i0,hi,hz0,hz1,hz2⟩:=zFt
   have hlen:(done.map (plOf S)).length=done.length:=List.length_map ..
   have d0:=F0.two.c0
   have d1:=F0.two.c1
   go_wp2_with fail
   go_region_held3 (fun w'=>w'.cell? ⟨w.heap.size,0,none⟩=some (.int .i64 px)∧w'.cell? ⟨w.heap.size,1,none⟩=some (.int .i64 py)) (first
    | exact⟨hgrown.c0,hgrown.c1⟩
    | exact⟨F2.two.c0,F2.two.c1⟩
    | exact⟨((zAn _ _).cell F2.lt).trans F2.two.c0,((zAn _ _).cell F2.lt).trans F2.two.c1⟩
    | exact⟨F1.two.c0,F1.two.c1⟩
    | exact⟨F0.two.c0,F0.two.c1⟩) (first
    | (go_at_call 22;refine(HP _).mono ?_;rintro e' w1 ⟨rfl,B1⟩;have F1:=F0.step B1)
    | (go_at_call 22;refine(HP _).mono ?_;rintro e' w2 ⟨rfl,B2⟩;have F2:=F1.step B2)
    | ((refine step_append_lies _ (by rfl) _ _ _ (by rfl) (w.heap.size+1) 71 i0 (.agg #[.int .u8 0,.complex .f64 0 0,.complex .f64 0 0,.string ⟨#[]⟩,.int .i64 0]) 5 64 Tryz.underlying24 hi hz0 hz1 hz2 (by rfl) (by decide) _ _ _ (by rfl) (World.ownsRow.alloc F2.own _) ⟨w2.heap.size,0,none⟩ 1 1 [.int .u8 0,.complex .f64 x1 y1,.complex .f64 x1 y1,.string ⟨#[]⟩,.int .i64 0] (by rfl) (by rfl) (zUw _ _ _ _ _ _ _) (one5 _ _ _ _ _ (by rfl) (by rfl) (by rfl) (by rfl) (by rfl)) (by omega) (by rw [hlen];unfold maxLen;omega) (by rw [hlen];omega) (by simp;have:=F2.lt;omega) (w2.heap.size+1) (by simp) ?_;intro g cap w9 hown9 hgrow hwhere hlt9;have hgrown:=(F2.two.below (zAn _ _) F2.lt).grown hgrow (by simp;have:=F2.lt;omega) (fun e=>by have:=(World.ownsRow.lt F2.own _ e.symm).1;omega))))
   all_goals
    go_wp2_with fail
    go_ret3
    have own9:=OwnT.next (l:=done.map (plOf S)) (x:=endT S off) (by rw [HTK.out];exact hown9)
    rw [List.length_map] at own9
    have bel9:=(F2.bel.alloc F2.bel.size _).grown hgrow (by simp;have:=F2.bel.size;omega) (fun k hk=>by have:=(World.ownsRow.lt F2.own k hk).1;omega)
    exact⟨_,_,by rw [hend.out];rfl,bel9,.inl ⟨by rw [hend.out],rfl,by rw [hend.out];exact OwnT.mono (B:=w.heap.size+1) (B':=w.heap.size) own9 (Nat.le_succ _)⟩⟩
  ·rw [decide_eq_false hz] at hem
   have h0:0 < sr.size:=by omega
   obtain⟨r,hr⟩:=zCm sr h0
   obtain⟨c,hc⟩:∃c,sr[0]=c:=⟨_,rfl⟩
   rw [hc] at hr
   have hne:S.drop off≠[]:=by rw [← hrest,hr];simp
   have hhd:(S.drop off).headD 0=c:=by rw [← hrest,hr];rfl
   cases hbl:isBl c
   ·obtain⟨t1,t2,t3,t4⟩:=zUv c hbl
    have hbl':isBl ((S.drop off).headD 0)=false:=by rw [hhd];exact hbl
    have he1:2≤sr.size→(sr.extract 0 2).toList=(S.drop off).take 2:=fun h2=>by rw [ByteArray.toList_eq,zBf sr 2 h2,hrest]
    by_cases hcm:(S.drop off).take 2=[40,42]
    ·have hz2:2≤sr.size:=by
      have:=congrArg List.length hcm
      rw [List.length_take,← hrest,zAq] at this
      simp at this;omega
     have q1:(2:Int)≤(sr.size:Int):=by omega
     have q2:((sr.extract 0 2).toList == [40,42])=true:=by rw [he1 hz2,hcm];rfl
     have HC:=fun w=>zKj sr (by omega) (by rw [hrest];exact hcm) w
     rw [hrest] at HC
     clear hr hhd hbl he1
     cases hcc:cmt 0 (S.drop off) with
     | none =>
      rw [hcc] at HC
      have hst:stp (S.drop off)=(none,0,43):=by unfold stp;rw [if_neg (by rw [hbl'];decide),if_pos hcm,hcc]
      have herr:=zGv S off 0 done 43 (by decide) hat hne hst
      have HERR:Hid (∀w',Below w.heap.size w w'→ScanPost S w (.returned (.tuple #[.slice none 0 0,posV px py,.int .i64 43])) w'):=oH (fun w' hb=>zEa S w w' off 43 (by decide) herr px py hpp hb)
      clear hcc hst herr hcm hbl' hne hpp
      go_wp2_with fail
      refine(HC _).mono ?_
      rintro e w1 ⟨rfl,rfl⟩
      clear HC
      have c0:=A.c0
      have c1:=A.c1
      obtain⟨x1,y1,e1⟩:=zDz px py
      have HP:=fun w=>zGh px py w
      simp only [e1] at HP
      have HE1:=oH e1
      clear e1 hrest own hat
      go_wp2_with fail
      refine(HP _).mono ?_
      rintro e w2 ⟨rfl,B2⟩
      clear HP
      go_wp2_with fail
      go_ret3
      exact(by rw [← HE1.out];exact HERR.out _ (bel.trans (B2.mono bel.size)))
     | some m =>
      rw [hcc] at HC
      have hst:=zUu (S.drop off) m hbl' hcm hcc
      have hmb:=zIs _ _ _ hcc
      have hmm:m≤sr.size:=by
       have:=hmb.2
       rw [← hrest,zAq] at this;exact this
      have hm1:=hmb.1
      have tz:(((m:Nat):Int) == 0)=false:=by rw [beq_eq_false_iff_ne];omega
      have HST:=oH hst
      clear hcc hst hcm hbl' hmb
      go_wp2_with fail
      refine(HC _).mono ?_
      rintro e wc ⟨rfl,rfl⟩
      clear HC
      rw [show (some m).getD 0=m from rfl]
      have hmle:m≤sr.size:=hmm
      obtain⟨n1,n2,n3,n4,n5⟩:=zFv S sr off (m) hrest hmle hle
      have hgo:=zJx S off (m)
      rw [← n3] at hgo
      obtain⟨qx,qy,hq⟩:∃qx qy,goB px py (sr.extract 0 (m)).data.toList=(qx,qy):=⟨_,_,rfl⟩
      rw [hpp,hq] at hgo
      have hcall:=oH (zEs px py qx qy (sr.extract 0 (m)) (by omega) hq)
      have HGO:=oH hgo
      have HN2:=oH n2
      have HAT:=oH (zFu S off m done hat hne HST.out)
      have hx1:(0:Int)≤((m:Nat):Int):=by omega
      have hx2:((m:Nat):Int)≤(sr.size:Int):=by omega
      clear hgo hq n2 n3 hrest hpp hat
      have c0:=A.c0
      have c1:=A.c1
      have f0:=A.f0
      have f1:=A.f1
      go_wp2_with fail
      go_region_with (go_at_call 25;refine(hcall.out _).mono ?_;rintro e w1 ⟨rfl,hb1⟩;have D1:=A.drew.below hb1 (by simp;omega);have c0:=D1.c0;have c1:=D1.c1;have f0:=D1.f0;have f1:=D1.f1)
      all_goals
       have hb2:Below wc.heap.size wc w1:=(Below.refl _ _).drew.trans hb1
       go_wp2_with fail
       go_roundw
       case rel=>exact⟨sr.extract (m) sr.size,off+(m),done,by simp,⟨n1,HN2.out,((own.below hb2).set _ (by simp) _).set _ (by simp) _,HAT.out,by rw [HGO.out];exact(D1.set0 _).set1 _,((bel.trans (hb2.mono bel.size)).setCell (by simp) _).setCell (by simp) _,by simp;have:=hb2.size;omega,by first | omega | (simp;omega)⟩⟩
       case measure=>simp [lenOf];omega
    ·have hst:stp (S.drop off)=oneL (S.drop off):=by unfold stp;rw [if_neg (by rw [hbl'];decide),if_neg hcm]
     have HN:=fun w=>zVw sr (by omega) h0 w
     rw [hrest] at HN
     clear hr hhd hbl hbl'
     go_upto_region 16 with fail
     go_cut [64] (fun b wx=>b=.bool false∧wx=wr)
     case first =>
      by_cases hz2:2≤sr.size
      ·have q1:(2:Int)≤(sr.size:Int):=by omega
       have q2:((sr.extract 0 2).toList == [40,42])=false:=by rw [he1 hz2];exact beq_eq_false_iff_ne.2 hcm
       clear he1 hcm HN hst
       go_wp2_with fail
       go_meet
       exact⟨rfl,rfl⟩
      ·have q1:decide ((2:Int)≤(sr.size:Int))=false:=decide_eq_false (by omega)
       clear he1 hcm HN hst
       go_wp2_with fail
       go_meet
       exact⟨rfl,rfl⟩
     case rest =>
      obtain⟨rfl,rfl⟩:=hcut
      clear he1 hcm
      rcases hone:oneL (S.drop off) with⟨o,m,e⟩
      rw [hone] at HN hst
      cases o with
      | none =>
       have he:=zIu _ _ _ hone
       have herr:=zGv S off m done e he hat hne hst
       have HERR:Hid (∀w',Below w.heap.size w w'→ScanPost S w (.returned (.tuple #[.slice none 0 0,posV px py,.int .i64 e])) w'):=oH (fun w' hb=>zEa S w w' off e he herr px py hpp hb)
       have HNn:∀w,Calls Tryz.prog 24 #[.string sr] w fun e' w'=>e'=.returned (.tuple #[.agg #[.int .u8 0,.complex .f64 0 0,.complex .f64 0 0,.string ⟨#[]⟩,.int .i64 0],.int .i64 m,.int .i64 e])∧Below w.heap.size w w':=HN
       have te:(e == 0)=false:=beq_eq_false_iff_ne.2 he
       have ten:(e != 0)=true:=by rw [bne,te];rfl
       clear HN hst hone herr hne hpp he
       go_wp2_with fail
       refine(HNn _).mono ?_
       rintro e' w2 ⟨rfl,B1⟩
       have A1:=A.below B1 hlt
       have hlt1:=Nat.lt_of_lt_of_le hlt B1.size
       have bel1:=bel.trans (B1.mono bel.size)
       have B2:=zAn w2 (.cells #[.int .u8 0,.complex .f64 0 0,.complex .f64 0 0,.string ⟨#[]⟩,.int .i64 0] 71)
       have A2:=A1.below B2 hlt1
       have bel2:=bel1.trans (B2.mono bel1.size)
       clear HNn A A1 bel bel1 B1 B2 own
       go_upto_region 8 with fail
       generalize w2.alloc (.cells #[.int .u8 0,.complex .f64 0 0,.complex .f64 0 0,.string ⟨#[]⟩,.int .i64 0] 71)=w3 at A2 bel2 ⊢
       have A:=A2
       have bel:=bel2
       clear A2 bel2
       have c0:=A.c0
       have c1:=A.c1
       obtain⟨x1,y1,e1⟩:=zDz px py
       have HP:=fun w=>zGh px py w
       simp only [e1] at HP
       have HE1:=oH e1
       clear e1 hrest hat
       go_wp2_with fail
       refine(HP _).mono ?_
       rintro e w4 ⟨rfl,B2⟩
       clear HP
       go_wp2_with fail
       go_ret3
       exact(by rw [← HE1.out];exact HERR.out _ (bel.trans (B2.mono bel.size)))
      | some t =>
       obtain⟨tok1,tm1,tm2,_⟩:=zGt _ hne t m e hst
       have he0:e=0:=(zGt _ hne t m e hst).2.2.2.2
       subst he0
       obtain⟨tk,tx,tn⟩:=t
       have hmm:m≤sr.size:=by rw [← zAq,hrest];exact tm2
       have HNs:∀w,Calls Tryz.prog 24 #[.string sr] w fun e' w'=>e'=.returned (.tuple #[.agg #[.int .u8 tk,.complex .f64 0 0,.complex .f64 0 0,.string ⟨tx.toArray⟩,.int .i64 tn],.int .i64 m,.int .i64 0])∧Below w.heap.size w w':=HN
       have hatn:=zMs S off m done ⟨tk,tx,tn⟩ 0 hat hne hst
       clear HN hone tok1 tm2
       have hmle:m≤sr.size:=hmm
       obtain⟨n1,n2,n3,n4,n5⟩:=zFv S sr off (m) hrest hmle hle
       have hgo:=zJx S off (m)
       rw [← n3] at hgo
       obtain⟨qx,qy,hq⟩:∃qx qy,goB px py (sr.extract 0 (m)).data.toList=(qx,qy):=⟨_,_,rfl⟩
       rw [hpp,hq] at hgo
       have hcall:=oH (zEs px py qx qy (sr.extract 0 (m)) (by omega) hq)
       have HGO:=oH hgo
       have HN2:=oH n2
       have HAT:=oH (hatn)
       have HPL:Hid (plOf S (⟨tk,tx,tn⟩,off,off+m)=(⟨tk,tx,tn⟩,(px,py),(qx,qy))):=oH (by unfold plOf;simp only;rw [hpp,hgo])
       have hx1:(0:Int)≤((m:Nat):Int):=by omega
       have hx2:((m:Nat):Int)≤(sr.size:Int):=by omega
       clear hgo hq n2 n3 hrest hpp hat
       obtain⟨x1,y1,e1⟩:=zDz px py
       obtain⟨x2,y2,e2⟩:=zDz qx qy
       have HP:=fun w=>zGh px py w
       have HQ:=fun w=>zGh qx qy w
       simp only [e1] at HP
       simp only [e2] at HQ
       have HTK:Hid (tkCells (⟨tk,tx,tn⟩,(px,py),(qx,qy))=[.int .u8 tk,.complex .f64 x1 y1,.complex .f64 x2 y2,.string ⟨tx.toArray⟩,.int .i64 tn]):=oH (by unfold tkCells;rw [← e1,← e2])
       clear e1 e2 hst hne hatn
       go_wp2_with fail
       refine(HNs _).mono ?_
       rintro e' w2 ⟨rfl,B1⟩
       have A1:=A.below B1 hlt
       have hlt1:=Nat.lt_of_lt_of_le hlt B1.size
       have own1:=own.below B1
       have bel1:=bel.trans (B1.mono bel.size)
       have Bq:=zAn w2 (.cells #[.int .u8 tk,.complex .f64 0 0,.complex .f64 0 0,.string ⟨tx.toArray⟩,.int .i64 tn] 71)
       have A2:=A1.below Bq hlt1
       have T2:=Fv.new w2 (.int .u8 tk) (.complex .f64 0 0) (.complex .f64 0 0) (.string ⟨tx.toArray⟩) (.int .i64 tn) 71 w2.heap.size rfl
       have htb:w2.heap.size < (w2.alloc (.cells #[.int .u8 tk,.complex .f64 0 0,.complex .f64 0 0,.string ⟨tx.toArray⟩,.int .i64 tn] 71)).heap.size:=by simp
       clear HNs A A1 bel B1 own
       go_upto_region 8 with fail
       generalize w2.alloc (.cells #[.int .u8 tk,.complex .f64 0 0,.complex .f64 0 0,.string ⟨tx.toArray⟩,.int .i64 tn] 71)=w3 at A2 T2 Bq htb ⊢
       have c0:=A2.c0
       have c1:=A2.c1
       have tc1:=T2.c1
       have tf1:=T2.f1
       go_wp2_with fail
       refine(HP _).mono ?_
       rintro e' w4 ⟨rfl,B4⟩
       have A4:=A2.below B4 (Nat.lt_trans hlt1 htb)
       have T4:=T2.below B4 htb
       have Bq4:=Bq.trans (B4.mono Bq.size)
       have htb4:=Nat.lt_of_lt_of_le htb B4.size
       clear HP A2 T2 Bq B4 c0 c1 tc1 tf1 htb
       have tc1:=T4.c1
       have tf1:=T4.f1
       have A5:=A4.other w2.heap.size 1 (.complex .f64 x1 y1) (by omega)
       have T5:=T4.set1 (.complex .f64 x1 y1)
       have Bq5:=Bq4.setCell (p:=⟨w2.heap.size,1,none⟩) (Nat.le_refl _) (.complex .f64 x1 y1)
       have htb5:w2.heap.size < (w4.setCell ⟨w2.heap.size,1,none⟩ (.complex .f64 x1 y1)).heap.size:=by rw [zKt];exact htb4
       clear A4 T4 Bq4 htb4
       go_upto_region 12 with fail
       generalize w4.setCell ⟨w2.heap.size,1,none⟩ (.complex .f64 x1 y1)=w5 at A5 T5 Bq5 htb5 ⊢
       clear tc1 tf1
       go_cut [8] (fun tp wx=>∃w7,tp=.pointer (some ⟨w2.heap.size,0,none⟩)∧Below w5.heap.size w5 w7∧wx=w7.setCell ⟨w2.heap.size,2,none⟩ (.complex .f64 x2 y2))
       case first =>
        have c0:=A5.c0
        have c1:=A5.c1
        have tc2:=T5.c2
        have tf2:=T5.f2
        go_region_with (first
         | (go_at_call 25;refine(hcall.out _).mono ?_;rintro e' w6 ⟨rfl,hb6⟩;have T6:=T5.drew.below hb6 (by simp;omega);have tc2:=T6.c2;have tf2:=T6.f2;have A6:=A5.drew.below hb6 (by simp;omega);have c0:=A6.c0;have c1:=A6.c1)
         | (go_at_call 22;refine(HQ _).mono ?_;rintro e' w7 ⟨rfl,hb7⟩;have T7:=T6.below hb7 (by have:=hb6.size;simp at this;omega);have tc2:=T7.c2;have tf2:=T7.f2))
        all_goals
         go_wp2_with fail
         go_meet
         exact⟨w7,rfl,bt ((Below.refl _ _).drew.trans hb6) hb7,rfl⟩
       case rest =>
        obtain⟨w7,rfl,hbw,rfl⟩:=hcut
        have A8:=(A5.below hbw (by omega)).other w2.heap.size 2 (.complex .f64 x2 y2) (by omega)
        have T8:=(T5.below hbw htb5).set2 (.complex .f64 x2 y2)
        have Bq8:=(Bq5.trans (hbw.mono Bq5.size)).setCell (p:=⟨w2.heap.size,2,none⟩) (Nat.le_refl _) (.complex .f64 x2 y2)
        have htb8:w2.heap.size < (w7.setCell ⟨w2.heap.size,2,none⟩ (.complex .f64 x2 y2)).heap.size:=by rw [zKt];exact Nat.lt_of_lt_of_le htb5 hbw.size
        clear A5 T5 Bq5 htb5 hbw HQ
        generalize w7.setCell ⟨w2.heap.size,2,none⟩ (.complex .f64 x2 y2)=w8 at A8 T8 Bq8 htb8 ⊢
        have own8:=own1.below Bq8
        have bel8:=bel1.trans (Bq8.mono bel1.size)
        clear own1 bel1 Bq8
        unfold OwnT at own8
        rw [List.length_map] at own8
        have tc0:=T8.c0
        have tc1:=T8.c1
        have tc2:=T8.c2
        have tc3:=T8.c3
        have tc4:=T8.c4
        obtain⟨i0,hi,hz0,hz1,hz2⟩:=zFt
        go_wp2_with (first
         | (at_builtin;refine wpList_append_own _ rfl _ _ 24 rfl (w.heap.size+1) 71 i0 (.agg #[.int .u8 0,.complex .f64 0 0,.complex .f64 0 0,.string ⟨#[]⟩,.int .i64 0]) 5 64 Tryz.underlying24 hi hz0 hz1 hz2 rfl (by decide) _ _ _ rfl (World.ownsRow.alloc own8 _) ⟨w8.heap.size,0,none⟩ 1 1 [.int .u8 tk,.complex .f64 x1 y1,.complex .f64 x2 y2,.string ⟨tx.toArray⟩,.int .i64 tn] rfl rfl ?c1 ?c2 ?c3 ?c4 ?c5 ?_)
         | fail)
        case c1 =>
         intro j u hj
         match j,hj with
         | 0,hj=>simp at hj;subst hj;simp [Addr.add]
         | 1,hj=>simp at hj;subst hj;simp [Addr.add]
         | 2,hj=>simp at hj;subst hj;simp [Addr.add]
         | 3,hj=>simp at hj;subst hj;simp [Addr.add]
         | 4,hj=>simp at hj;subst hj;simp [Addr.add]
        case c2 =>
         intro u hu
         simp at hu
         rcases hu with rfl | rfl | rfl | rfl | rfl <;> rfl
        case c3=>unfold maxLen;omega
        case c4=>omega
        case c5=>simp;omega
        intro v9 w9 hown9 hgrow _
        have own:=OwnT.next (l:=done.map (plOf S)) (x:=(⟨tk,tx,tn⟩,(px,py),(qx,qy))) (by rw [List.length_map,HTK.out];exact hown9)
        rw [← HPL.out,← List.map_singleton,← List.map_append] at own
        have hsz8:w.heap.size < w8.heap.size:=by omega
        have A:=(A8.alloc (.cells #[.int .u8 tk,.complex .f64 x1 y1,.complex .f64 x2 y2,.string ⟨tx.toArray⟩,.int .i64 tn] 71) hsz8).grown hgrow (by simp;omega) (fun e=>by have:=(World.ownsRow.lt own8 _ e.symm).1;omega)
        have bel:=(bel8.alloc (bel8.size) (.cells #[.int .u8 tk,.complex .f64 x1 y1,.complex .f64 x2 y2,.string ⟨tx.toArray⟩,.int .i64 tn] 71)).grown hgrow (by simp;omega) (fun k hk=>by have:=(World.ownsRow.lt own8 k hk).1;omega)
        have hlt9:w.heap.size < w9.heap.size:=by have:=hgrow.size;simp at this;omega
        clear hown9 hgrow own8 A8 bel8 T8 tc0 tc1 tc2 tc3 tc4 hi hz0 hz1 hz2 hlt HTK HPL
        have c0:=A.c0
        have c1:=A.c1
        have f0:=A.f0
        have f1:=A.f1
        go_wp2_with fail
        go_region_with (go_at_call 25;refine(hcall.out _).mono ?_;rintro e w1 ⟨rfl,hb1⟩;have D1:=A.drew.below hb1 (by simp;omega);have c0:=D1.c0;have c1:=D1.c1;have f0:=D1.f0;have f1:=D1.f1)
        all_goals
         have hb2:Below w9.heap.size w9 w1:=(Below.refl _ _).drew.trans hb1
         go_wp2_with fail
         go_roundw
         case rel=>exact⟨sr.extract (m) sr.size,off+(m),(done++[(⟨tk,tx,tn⟩,off,off+m)]),by simp,⟨n1,HN2.out,((own.below hb2).set _ (by simp) _).set _ (by simp) _,HAT.out,by rw [HGO.out];exact(D1.set0 _).set1 _,((bel.trans (hb2.mono bel.size)).setCell (by simp) _).setCell (by simp) _,by simp;have:=hb2.size;omega,by first | omega | (simp;omega)⟩⟩
         case measure=>simp [lenOf];omega
   ·have hst:=zOc (S.drop off) (by rw [hhd];exact hbl)
    have hmm:1≤sr.size:=h0
    have hcs:=zRo c hbl
    clear hr hhd hbl
    rcases hcs with t1 | ⟨t1,t2⟩ | ⟨t1,t2,t3⟩ | ⟨t1,t2,t3,t4⟩
    all_goals
     have hmle:1≤sr.size:=hmm
     obtain⟨n1,n2,n3,n4,n5⟩:=zFv S sr off (1) hrest hmle hle
     have hgo:=zJx S off (1)
     rw [← n3] at hgo
     obtain⟨qx,qy,hq⟩:∃qx qy,goB px py (sr.extract 0 (1)).data.toList=(qx,qy):=⟨_,_,rfl⟩
     rw [hpp,hq] at hgo
     have hcall:=oH (zEs px py qx qy (sr.extract 0 (1)) (by omega) hq)
     have HGO:=oH hgo
     have HN2:=oH n2
     have HAT:=oH (zFu S off 1 done hat hne hst)
     have hx1:(0:Int)≤((1:Nat):Int):=by omega
     have hx2:((1:Nat):Int)≤(sr.size:Int):=by omega
     clear hgo hq n2 n3 hrest hpp hat
     have c0:=A.c0
     have c1:=A.c1
     have f0:=A.f0
     have f1:=A.f1
     go_wp2_with fail
     go_region_with (go_at_call 25;refine(hcall.out _).mono ?_;rintro e w1 ⟨rfl,hb1⟩;have D1:=A.drew.below hb1 (by simp;omega);have c0:=D1.c0;have c1:=D1.c1;have f0:=D1.f0;have f1:=D1.f1)
     all_goals
      have hb2:Below wr.heap.size wr w1:=(Below.refl _ _).drew.trans hb1
      go_wp2_with fail
      go_roundw
      case rel=>exact⟨sr.extract (1) sr.size,off+(1),done,by simp,⟨n1,HN2.out,((own.below hb2).set _ (by simp) _).set _ (by simp) _,HAT.out,by rw [HGO.out];exact(D1.set0 _).set1 _,((bel.trans (hb2.mono bel.size)).setCell (by simp) _).setCell (by simp) _,by simp;have:=hb2.size;omega,by first | omega | (simp;omega)⟩⟩
      case measure=>simp [lenOf];omega
end Go.Proofs.YtepfknfadpkigaaGreat
end
