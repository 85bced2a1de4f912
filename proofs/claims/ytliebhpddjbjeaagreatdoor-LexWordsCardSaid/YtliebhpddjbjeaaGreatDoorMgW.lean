/- Several texts in one: PlA PlB PlK LyO LyR FmA LzM LzO LzP FmB LzX LzZ. -/
import Derived.Test.YtliebhpddjbjeaaGreatDoorPlZ
import Derived.Test.YtliebhpddjbjeaaGreatDoorPlM
import Derived.Test.YtliebhpddjbjeaaGreatDoorLyV
import Derived.Test.YtliebhpddjbjeaaGreatDoorLyJ
import Derived.Deep.DeepCutAuto
import Derived.Deep.RegionWith
import Derived.Deep.RegionHeld3
import Derived.Deep.AppendLies
import Derived.Deep.Onto
import Derived.Test.YtliebhpddjbjeaaGreatDoorLyQ
import Derived.LoopN
import Derived.Outline
import Derived.Laws.BytesArg
import Derived.Lib.SmallJoins
import Derived.Lib.LaidTab
import Derived.Lib.AppendIntMem
import Derived.Lib.AtoiErrMem
import Derived.Test.YtliebhpddjbjeaaGreatDoorPpEv
import Derived.Laws.AppendOwn
import Derived.Test.YtliebhpddjbjeaaGreatDoorLzL
import Derived.Test.YtliebhpddjbjeaaGreatDoorPlD
import Derived.Test.YtliebhpddjbjeaaGreatDoorPpC
import Derived.Test.YtliebhpddjbjeaaGreatDoorLyU
import Derived.Test.YtliebhpddjbjeaaGreatDoorLyB
import Derived.Test.YtliebhpddjbjeaaGreatDoorLyC
/- PlA -/
namespace Go.Proofs.YtliebhpddjbjeaaGreatDoor
open Go.RowKit
set_option maxHeartbeats 400000
set_option maxRecDepth 100000
set_option linter.unusedVariables false

/-- A place as the document's answer has it. -/
def plV (l c : Int) : Value := .agg #[.int .i64 l, .int .i64 c]
theorem Is_any (l c : Int) (w : World) :
    Calls Tryz.prog 70 #[.agg #[.int .i64 l, .int .i64 c]] w fun e w' => e = .returned (.bool (isP l c)) ∧ Below w.heap.size w w' := by
  have hc : l < 1 ∨ (1 ≤ l ∧ 1073741824 < l) ∨ (1 ≤ l ∧ l ≤ 1073741824 ∧ c < 1) ∨ (1 ≤ l ∧ l ≤ 1073741824 ∧ 1 ≤ c ∧ 1073741824 < c) ∨ (1 ≤ l ∧ l ≤ 1073741824 ∧ 1 ≤ c ∧ c ≤ 1073741824) := by omega
  rcases hc with h | ⟨h, g⟩ | ⟨h, g, h1⟩ | ⟨h, g, h1, g1⟩ | ⟨h, g, h1, g1⟩
  all_goals
    go_enter Tryz.func70, Tryz.ntmps70
    go_wp2_with fail
    go_ret
    exact ⟨by first | (rw [(isP_iff l c).2 ⟨h, g, h1, g1⟩]; simp) | (rw [(isP_not l c).2 (by omega)]; first | rfl | simp; omega), below_new _ _⟩
theorem Pos_any (l c : Int) (w : World) :
    Calls Tryz.prog 34 #[.agg #[.int .i64 l, .int .i64 c]] w fun e w' => e = .returned (posV l c) ∧ Below w.heap.size w w' := by
  cases hp : isP l c
  · have HT := Lib.hid (posV_none l c hp)
    go_enter Tryz.func34, Tryz.ntmps34
    go_wp2_with fail
    refine (Is_any l c _).mono ?_
    rintro e w1 ⟨rfl, hb1⟩
    rw [hp]
    go_wp2_with fail
    go_ret
    exact ⟨by rw [HT.out]; rfl, bt (below_new _ _) hb1⟩
  · have HT := Lib.hid (posV_ok l c hp)
    go_enter Tryz.func34, Tryz.ntmps34
    go_wp2_with fail
    refine (Is_any l c _).mono ?_
    rintro e w1 ⟨rfl, hb1⟩
    rw [hp]
    have hc0 : w1.cell? ⟨w.heap.size, 0, none⟩ = some (.int .i64 l) := (hb1.cell (by simp)).trans (by rw [World.cell?_alloc_at _ _ _ _ rfl]; rfl)
    have hc1 : w1.cell? ⟨w.heap.size, 1, none⟩ = some (.int .i64 c) := (hb1.cell (by simp)).trans (by rw [World.cell?_alloc_at _ _ _ _ rfl]; rfl)
    go_wp2_with fail
    go_ret
    exact ⟨by rw [HT.out]; rfl, bt (below_new _ _) hb1⟩
end Go.Proofs.YtliebhpddjbjeaaGreatDoor
/- PlB -/
namespace Go.Proofs.YtliebhpddjbjeaaGreatDoor
open Go.RowKit
set_option maxHeartbeats 400000
set_option maxRecDepth 100000
set_option linter.unusedVariables false

theorem rBehind_any (l c : Int) (s : ByteArray) (hs : s.size ≤ 1048576) (w : World) :
    Calls Tryz.prog 37 #[.agg #[.int .i64 l, .int .i64 c], .string s] w fun e w' => e = .returned (plV (goB l c s.data.toList).1 (goB l c s.data.toList).2) ∧ Below w.heap.size w w' := by
  have T0 : Hid (Two ((w.alloc (.cells #[.int .i64 l, .int .i64 c] 54)).alloc (.cells #[.int .i64 0, .int .i64 0] 54)) w.heap.size l c) :=
    Lib.hid ((Two.new w l c _ _ rfl).alloc _ (by simp))
  have T1 : Hid (Two ((w.alloc (.cells #[.int .i64 l, .int .i64 c] 54)).alloc (.cells #[.int .i64 0, .int .i64 0] 54)) (w.heap.size + 1) 0 0) :=
    Lib.hid (Two.new _ 0 0 _ _ (by simp))
  go_enter Tryz.func37, Tryz.ntmps37
  go_wp2_with fail
  go_loopw [5] (fun i wr => ∃ (k : Nat) (l1 c1 : Int), k ≤ s.size ∧ i = .int .i64 k ∧ goB l c s.data.toList = goB l1 c1 (s.data.toList.drop k) ∧ Two wr w.heap.size l1 c1 ∧ Two wr (w.heap.size + 1) 0 0 ∧ Below w.heap.size w wr ∧ w.heap.size + 2 ≤ wr.heap.size)
    (fun i _ => s.size - (intOf i).toNat)
  case atStart => exact ⟨0, l, c, Nat.zero_le _, rfl, rfl, T0.out, T1.out, bt (below_new _ _) (below_new _ _), by simp⟩
  case round =>
    obtain ⟨k, l1, c1, hk, rfl, hgo, A0, A1, hnx, hsz⟩ := hrel
    have HG := Lib.hid hgo
    clear hgo
    clear T0 T1
    by_cases hlt : k < s.size
    · have h0 := A0.c0
      have h1 := A0.c1
      go_wp2_with fail
      refine (Is_any l1 c1 _).mono ?_
      rintro e w1 ⟨rfl, hb1⟩
      have D0 := A0.below hb1 (by omega)
      have D1 := A1.below hb1 (by omega)
      have hny := hnx.trans (hb1.mono hnx.size)
      clear A0 A1 h0 h1
      have hsz1 := hb1.size
      cases hp : isP l1 c1
      · have HT : Hid (goB l c s.data.toList = (0, 0)) := Lib.hid (by rw [HG.out]; exact goB_none l1 c1 _ hp)
        have h0 := D1.c0
        have h1 := D1.c1
        have f0 := D1.f0
        have f1 := D1.f1
        go_wp2_with fail
        have r0 := ((D1.set0 0).set1 0).c0
        have r1 := ((D1.set0 0).set1 0).c1
        refine bodyPost_ret (v := .agg #[.int .i64 0, .int .i64 0]) (by simp [results, Tryz.results37, go_sem, r0, r1]) rfl ?_
        exact ⟨by rw [HT.out]; rfl, (hny.setCell (by simp) _).setCell (by simp) _⟩
      · have h0 := D0.c0
        have h1 := D0.c1
        have f0 := D0.f0
        have f1 := D0.f1
        have HP := Lib.hid hp
        obtain ⟨p0, p1, p2, p3⟩ := (isP_iff l1 c1).1 hp
        have hd := byte_drop s k hlt
        obtain ⟨b, hb⟩ : ∃ b, s[k] = b := ⟨_, rfl⟩
        rw [hb] at hd
        have hbt := byte_ten b
        by_cases h10 : b = 10
        · rw [decide_eq_true h10] at hbt
          have HN : Hid (goB l c s.data.toList = goB (l1 + 1) 1 (s.data.toList.drop (k + 1))) := Lib.hid (by
            rw [HG.out, hd, goB_cons l1 c1 b _ hp]; unfold stepL stepC; rw [if_pos h10, if_pos h10])
          clear h10 hd
          go_wp2_with fail
          go_roundw
          case rel => exact ⟨k + 1, l1 + 1, 1, by omega, by simp, HN.out, (D0.set0 _).set1 _, (D1.other _ _ _ (by omega)).other _ _ _ (by omega), (hny.setCell (by simp) _).setCell (by simp) _, by simp; omega⟩
          case measure => simp [intOf]; omega
        · rw [decide_eq_false h10] at hbt
          have HN : Hid (goB l c s.data.toList = goB l1 (c1 + 1) (s.data.toList.drop (k + 1))) := Lib.hid (by
            rw [HG.out, hd, goB_cons l1 c1 b _ hp]; unfold stepL stepC; rw [if_neg h10, if_neg h10])
          clear h10 hd
          go_wp2_with fail
          go_roundw
          case rel => exact ⟨k + 1, l1, c1 + 1, by omega, by simp, HN.out, D0.set1 _, D1.other _ _ _ (by omega), hny.setCell (by simp) _, by simp; omega⟩
          case measure => simp [intOf]; omega
    · have hks : k = s.size := by omega
      subst hks
      have hdr : s.data.toList.drop s.size = [] := List.drop_eq_nil_of_le (by rw [Array.length_toList]; exact Nat.le_refl _)
      rw [hdr] at HG
      clear hdr
      have h0 := A0.c0
      have h1 := A0.c1
      go_wp2_with fail
      refine (Is_any l1 c1 _).mono ?_
      rintro e w1 ⟨rfl, hb1⟩
      have D0 := A0.below hb1 (by omega)
      have D1 := A1.below hb1 (by omega)
      have hny := hnx.trans (hb1.mono hnx.size)
      clear A0 A1 h0 h1
      have i0 := D0.c0
      have i1 := D0.c1
      have h0 := D1.c0
      have h1 := D1.c1
      have f0 := D1.f0
      have f1 := D1.f1
      cases hp : isP l1 c1
      · have HT : Hid (goB l c s.data.toList = (0, 0)) := Lib.hid (by rw [HG.out]; exact goB_none l1 c1 _ hp)
        go_wp2_with fail
        have r0 := ((D1.set0 0).set1 0).c0
        have r1 := ((D1.set0 0).set1 0).c1
        refine bodyPost_ret (v := .agg #[.int .i64 0, .int .i64 0]) (by simp [results, Tryz.results37, go_sem, r0, r1]) rfl ?_
        exact ⟨by rw [HT.out]; rfl, (hny.setCell (by simp) _).setCell (by simp) _⟩
      · have HT : Hid (goB l c s.data.toList = (l1, c1)) := Lib.hid (by rw [HG.out]; exact goB_nil l1 c1 hp)
        go_wp2_with fail
        have r0 := ((D1.set0 l1).set1 c1).c0
        have r1 := ((D1.set0 l1).set1 c1).c1
        refine bodyPost_ret (v := .agg #[.int .i64 l1, .int .i64 c1]) (by simp [results, Tryz.results37, go_sem, r0, r1]) rfl ?_
        exact ⟨by rw [HT.out]; rfl, (hny.setCell (by simp) _).setCell (by simp) _⟩
end Go.Proofs.YtliebhpddjbjeaaGreatDoor
/- PlK -/
namespace Go.Proofs.YtliebhpddjbjeaaGreatDoor
open Go.RowKit
set_option maxHeartbeats 400000
set_option maxRecDepth 100000
set_option linter.unusedVariables false

theorem rBehind_to (l c l2 c2 : Int) (s : ByteArray) (hs : s.size ≤ 1048576) (hg : goB l c s.data.toList = (l2, c2)) (w : World) :
    Calls Tryz.prog 37 #[.agg #[.int .i64 l, .int .i64 c], .string s] w fun e w' => e = .returned (.agg #[.int .i64 l2, .int .i64 c2]) ∧ Below w.heap.size w w' := by
  have := rBehind_any l c s hs w
  rw [hg] at this
  exact this
end Go.Proofs.YtliebhpddjbjeaaGreatDoor
/- LyO -/
namespace Go.Proofs.YtliebhpddjbjeaaGreatDoor
open Go.RowKit
set_option maxHeartbeats 1000000
set_option maxRecDepth 100000
set_option linter.unusedVariables false

/-- What holds at the head of Scan's loop. -/
structure ScanR (S : List UInt8) (w wr : World) (sr : ByteArray) (v : Value) (off : Nat) (done : List (T0 × Nat × Nat)) : Prop where
  le : off ≤ S.length
  rest : sr.data.toList = S.drop off
  own : OwnT wr (w.heap.size + 1) v (done.map (plOf S))
  at' : scanAt S off done
  two : Two wr w.heap.size (goB 1 1 (S.take off)).1 (goB 1 1 (S.take off)).2
  bel : Below w.heap.size w wr
  lt : w.heap.size < wr.heap.size
  cnt : done.length ≤ off
/-- What holds while Scan's last token is appended. -/
structure FE (w : World) (B : Nat) (v : Value) (l : List TK) (px py : Int) (W : World) : Prop where
  own : W.ownsRow B 51 5 v l.length (l.flatMap tkCells)
  bel : Below w.heap.size w W
  two : Two W w.heap.size px py
  lt : w.heap.size < W.heap.size
theorem FE.step {w : World} {B : Nat} {v : Value} {l : List TK} {px py : Int} {W W' : World} (h : FE w B v l px py W) (hb : Below W.heap.size W W') : FE w B v l px py W' :=
  ⟨OwnT.below h.own hb, h.bel.trans (hb.mono h.bel.size), h.two.below hb h.lt, Nat.lt_of_lt_of_le h.lt hb.size⟩
theorem scan_any (s : ByteArray) (hs : s.size ≤ 16384) (w : World) :
    Calls Tryz.prog 9 #[.string s] w fun e w' => ScanPost s.data.toList w e w' := by
  have hsc := fun w a x y m => store_cx (P := Tryz.prog) w a .f64 x y m
  obtain ⟨S, hS⟩ : ∃ S, s.data.toList = S := ⟨_, rfl⟩
  have hSl : S.length ≤ 16384 := by rw [← hS, bytes_of]; exact hs
  have H0 : Hid (ScanR S w (w.alloc (.cells #[.int .i64 1, .int .i64 1] 54)) s (.slice none 0 0) 0 []) := Lib.hid
    ⟨by omega, by rw [hS]; rfl, World.ownsRow_nil _ _ _ _, scanAt_start S, Two.new _ 1 1 _ _ rfl, below_new _ _, by simp, by simp⟩
  rw [hS]
  go_enter Tryz.func9, Tryz.ntmps9
  go_wp2_with fail
  go_loopw [0, 6] (fun sv v wr => ∃ (sr : ByteArray) (off : Nat) (done : List (T0 × Nat × Nat)), sv = .string sr ∧ ScanR S w wr sr v off done)
    (fun sv _ _ => lenOf sv)
  case atStart => exact ⟨s, 0, [], rfl, H0.out⟩
  case round =>
    obtain ⟨sr, off, done, rfl, hR⟩ := hrel
    obtain ⟨hle, hrest, own, hat, A, bel, hlt, hcnt⟩ := hR
    clear H0
    have hsz : sr.size ≤ 16384 := by
      rw [← bytes_of, hrest, List.length_drop]; omega
    obtain ⟨px, py, hpp⟩ : ∃ px py, goB 1 1 (S.take off) = (px, py) := ⟨_, _, rfl⟩
    rw [hpp] at A
    have hem := empty_test sr
    by_cases hz : sr.size = 0
    · skip
      rw [decide_eq_true hz] at hem
      have hdn : S.drop off = [] := by rw [← hrest]; exact List.length_eq_zero_iff.1 (by rw [bytes_of]; exact hz)
      have hend := Lib.hid (scanAt_end S off done hat hdn)
      obtain ⟨x1, y1, e1⟩ := posV_two px py
      have HP := fun w => Pos_any px py w
      simp only [e1] at HP
      have HTK : Hid (tkCells (endT S off) = [.int .u8 0, .complex .f64 x1 y1, .complex .f64 x1 y1, .string ⟨#[]⟩, .int .i64 0]) := Lib.hid (by unfold tkCells endT; simp only; rw [hpp]; show [_, posV px py, posV px py, _, _] = _; rw [e1]; rfl)
      have F0 : FE w (w.heap.size + 1) _ (done.map (plOf S)) px py wr.drew := ⟨own.below (Below.refl _ _).drew, bel.drew, A.drew, hlt⟩
      clear own bel A hdn hat e1 hpp hrest
      obtain ⟨i0, hi, hz0, hz1, hz2⟩ := tok_parts
      have hlen : (done.map (plOf S)).length = done.length := List.length_map ..
      have d0 := F0.two.c0
      have d1 := F0.two.c1
      go_wp2_with fail
      go_region_held3 (fun w' => w'.cell? ⟨w.heap.size, 0, none⟩ = some (.int .i64 px) ∧ w'.cell? ⟨w.heap.size, 1, none⟩ = some (.int .i64 py)) (first
        | exact ⟨hgrown.c0, hgrown.c1⟩
        | exact ⟨F2.two.c0, F2.two.c1⟩
        | exact ⟨((below_new _ _).cell F2.lt).trans F2.two.c0, ((below_new _ _).cell F2.lt).trans F2.two.c1⟩
        | exact ⟨F1.two.c0, F1.two.c1⟩
        | exact ⟨F0.two.c0, F0.two.c1⟩) (first
        | (go_at_call 34; refine (HP _).mono ?_; rintro e' w1 ⟨rfl, B1⟩; have F1 := F0.step B1)
        | (go_at_call 34; refine (HP _).mono ?_; rintro e' w2 ⟨rfl, B2⟩; have F2 := F1.step B2)
        | ((refine step_append_lies _ (by rfl) _ _ _ (by rfl) (w.heap.size + 1) 51 i0 (.agg #[.int .u8 0, .complex .f64 0 0, .complex .f64 0 0, .string ⟨#[]⟩, .int .i64 0]) 5 64 Tryz.underlying23 hi hz0 hz1 hz2 (by rfl) (by decide) _ _ _ (by rfl) (World.ownsRow.alloc F2.own _) ⟨w2.heap.size, 0, none⟩ 1 1 [.int .u8 0, .complex .f64 x1 y1, .complex .f64 x1 y1, .string ⟨#[]⟩, .int .i64 0] (by rfl) (by rfl) (news5 _ _ _ _ _ _ _) (one5 _ _ _ _ _ (by rfl) (by rfl) (by rfl) (by rfl) (by rfl)) (by omega) (by rw [hlen]; unfold maxLen; omega) (by rw [hlen]; omega) (by simp; have := F2.lt; omega) (w2.heap.size + 1) (by simp) ?_; intro g cap w9 hown9 hgrow hwhere hlt9; have hgrown := (F2.two.below (below_new _ _) F2.lt).grown hgrow (by simp; have := F2.lt; omega) (fun e => by have := (World.ownsRow.lt F2.own _ e.symm).1; omega)))) 
      all_goals
        go_wp2_with fail
        go_ret3
        have own9 := OwnT.next (l := done.map (plOf S)) (x := endT S off) (by rw [HTK.out]; exact hown9)
        rw [List.length_map] at own9
        have bel9 := (F2.bel.alloc F2.bel.size _).grown hgrow (by simp; have := F2.bel.size; omega) (fun k hk => by have := (World.ownsRow.lt F2.own k hk).1; omega)
        exact ⟨_, _, by rw [hend.out]; rfl, bel9, .inl ⟨by rw [hend.out], rfl, by rw [hend.out]; exact OwnT.mono (B := w.heap.size + 1) (B' := w.heap.size) own9 (Nat.le_succ _)⟩⟩
    · rw [decide_eq_false hz] at hem
      have h0 : 0 < sr.size := by omega
      obtain ⟨r, hr⟩ := byte_cons sr h0
      obtain ⟨c, hc⟩ : ∃ c, sr[0] = c := ⟨_, rfl⟩
      rw [hc] at hr
      have hne : S.drop off ≠ [] := by rw [← hrest, hr]; simp
      have hhd : (S.drop off).headD 0 = c := by rw [← hrest, hr]; rfl
      cases hbl : isBl c
      · obtain ⟨t1, t2, t3, t4⟩ := bl_none c hbl
        have hbl' : isBl ((S.drop off).headD 0) = false := by rw [hhd]; exact hbl
        have he1 : 2 ≤ sr.size → (sr.extract 0 2).toList = (S.drop off).take 2 := fun h2 => by rw [ByteArray.toList_eq, extract_take' sr 2 h2, hrest]
        by_cases hcm : (S.drop off).take 2 = [40, 42]
        · have hz2 : 2 ≤ sr.size := by
            have := congrArg List.length hcm
            rw [List.length_take, ← hrest, bytes_of] at this
            simp at this; omega
          have q1 : (2 : Int) ≤ (sr.size : Int) := by omega
          have q2 : ((sr.extract 0 2).toList == [40, 42]) = true := by rw [he1 hz2, hcm]; rfl
          have HC := fun w => comment_any sr (by omega) (by rw [hrest]; exact hcm) w
          rw [hrest] at HC
          clear hr hhd hbl he1
          cases hcc : cmt 0 (S.drop off) with
          | none =>
            rw [hcc] at HC
            have hst : stp (S.drop off) = (none, 0, 43) := by unfold stp; rw [if_neg (by rw [hbl']; decide), if_pos hcm, hcc]
            have herr := scanAt_err S off 0 done 43 (by decide) hat hne hst
            have HERR : Hid (∀ w', Below w.heap.size w w' → ScanPost S w (.returned (.tuple #[.slice none 0 0, posV px py, .int .i64 43])) w') := Lib.hid (fun w' hb => scan_post_err S w w' off 43 (by decide) herr px py hpp hb)
            clear hcc hst herr hcm hbl' hne hpp
            go_wp2_with fail
            refine (HC _).mono ?_
            rintro e w1 ⟨rfl, rfl⟩
            clear HC
            have c0 := A.c0
            have c1 := A.c1
            obtain ⟨x1, y1, e1⟩ := posV_two px py
            have HP := fun w => Pos_any px py w
            simp only [e1] at HP
            have HE1 := Lib.hid e1
            clear e1 hrest own hat
            go_wp2_with fail
            refine (HP _).mono ?_
            rintro e w2 ⟨rfl, B2⟩
            clear HP
            go_wp2_with fail
            go_ret3
            exact (by rw [← HE1.out]; exact HERR.out _ (bel.trans (B2.mono bel.size)))
          | some m =>
            rw [hcc] at HC
            have hst := stp_cmt (S.drop off) m hbl' hcm hcc
            have hmb := cmt_bd _ _ _ hcc
            have hmm : m ≤ sr.size := by
              have := hmb.2
              rw [← hrest, bytes_of] at this; exact this
            have hm1 := hmb.1
            have tz : (((m : Nat) : Int) == 0) = false := by rw [beq_eq_false_iff_ne]; omega
            have HST := Lib.hid hst
            clear hcc hst hcm hbl' hmb
            go_wp2_with fail
            refine (HC _).mono ?_
            rintro e wc ⟨rfl, rfl⟩
            clear HC
            rw [show (some m).getD 0 = m from rfl]
            have hmle : m ≤ sr.size := hmm
            obtain ⟨n1, n2, n3, n4, n5⟩ := rest_next S sr off (m) hrest hmle hle
            have hgo := go_more S off (m)
            rw [← n3] at hgo
            obtain ⟨qx, qy, hq⟩ : ∃ qx qy, goB px py (sr.extract 0 (m)).data.toList = (qx, qy) := ⟨_, _, rfl⟩
            rw [hpp, hq] at hgo
            have hcall := Lib.hid (rBehind_to px py qx qy (sr.extract 0 (m)) (by omega) hq)
            have HGO := Lib.hid hgo
            have HN2 := Lib.hid n2
            have HAT := Lib.hid (scanAt_skip S off m done hat hne HST.out)
            have hx1 : (0 : Int) ≤ ((m : Nat) : Int) := by omega
            have hx2 : ((m : Nat) : Int) ≤ (sr.size : Int) := by omega
            clear hgo hq n2 n3 hrest hpp hat
            have c0 := A.c0
            have c1 := A.c1
            have f0 := A.f0
            have f1 := A.f1
            go_wp2_with fail
            go_region_with (go_at_call 37; refine (hcall.out _).mono ?_; rintro e w1 ⟨rfl, hb1⟩; have D1 := A.drew.below hb1 (by simp; omega); have c0 := D1.c0; have c1 := D1.c1; have f0 := D1.f0; have f1 := D1.f1)
            all_goals
              have hb2 : Below wc.heap.size wc w1 := (Below.refl _ _).drew.trans hb1
              go_wp2_with fail
              go_roundw
              case rel => exact ⟨sr.extract (m) sr.size, off + (m), done, by simp, ⟨n1, HN2.out, ((own.below hb2).set _ (by simp) _).set _ (by simp) _, HAT.out, by rw [HGO.out]; exact (D1.set0 _).set1 _, ((bel.trans (hb2.mono bel.size)).setCell (by simp) _).setCell (by simp) _, by simp; have := hb2.size; omega, by first | omega | (simp; omega)⟩⟩
              case measure => simp [lenOf]; omega
        · have hst : stp (S.drop off) = oneL (S.drop off) := by unfold stp; rw [if_neg (by rw [hbl']; decide), if_neg hcm]
          have HN := fun w => One_any sr (by omega) h0 w
          rw [hrest] at HN
          clear hr hhd hbl hbl'
          go_upto_region 16 with fail
          go_cut [64] (fun b wx => b = .bool false ∧ wx = wr)
          case first =>
            by_cases hz2 : 2 ≤ sr.size
            · have q1 : (2 : Int) ≤ (sr.size : Int) := by omega
              have q2 : ((sr.extract 0 2).toList == [40, 42]) = false := by rw [he1 hz2]; exact beq_eq_false_iff_ne.2 hcm
              clear he1 hcm HN hst
              go_wp2_with fail
              go_meet
              exact ⟨rfl, rfl⟩
            · have q1 : decide ((2 : Int) ≤ (sr.size : Int)) = false := decide_eq_false (by omega)
              clear he1 hcm HN hst
              go_wp2_with fail
              go_meet
              exact ⟨rfl, rfl⟩
          case rest =>
            obtain ⟨rfl, rfl⟩ := hcut
            clear he1 hcm
            rcases hone : oneL (S.drop off) with ⟨o, m, e⟩
            rw [hone] at HN hst
            cases o with
            | none =>
              have he := oneL_none _ _ _ hone
              have herr := scanAt_err S off m done e he hat hne hst
              have HERR : Hid (∀ w', Below w.heap.size w w' → ScanPost S w (.returned (.tuple #[.slice none 0 0, posV px py, .int .i64 e])) w') := Lib.hid (fun w' hb => scan_post_err S w w' off e he herr px py hpp hb)
              have HNn : ∀ w, Calls Tryz.prog 36 #[.string sr] w fun e' w' => e' = .returned (.tuple #[.agg #[.int .u8 0, .complex .f64 0 0, .complex .f64 0 0, .string ⟨#[]⟩, .int .i64 0], .int .i64 m, .int .i64 e]) ∧ Below w.heap.size w w' := HN
              have te : (e == 0) = false := beq_eq_false_iff_ne.2 he
              have ten : (e != 0) = true := by rw [bne, te]; rfl
              clear HN hst hone herr hne hpp he
              go_wp2_with fail
              refine (HNn _).mono ?_
              rintro e' w2 ⟨rfl, B1⟩
              have A1 := A.below B1 hlt
              have hlt1 := Nat.lt_of_lt_of_le hlt B1.size
              have bel1 := bel.trans (B1.mono bel.size)
              have B2 := below_new w2 (.cells #[.int .u8 0, .complex .f64 0 0, .complex .f64 0 0, .string ⟨#[]⟩, .int .i64 0] 51)
              have A2 := A1.below B2 hlt1
              have bel2 := bel1.trans (B2.mono bel1.size)
              clear HNn A A1 bel bel1 B1 B2 own
              go_upto_region 8 with fail
              generalize w2.alloc (.cells #[.int .u8 0, .complex .f64 0 0, .complex .f64 0 0, .string ⟨#[]⟩, .int .i64 0] 51) = w3 at A2 bel2 ⊢
              have A := A2
              have bel := bel2
              clear A2 bel2
              have c0 := A.c0
              have c1 := A.c1
              obtain ⟨x1, y1, e1⟩ := posV_two px py
              have HP := fun w => Pos_any px py w
              simp only [e1] at HP
              have HE1 := Lib.hid e1
              clear e1 hrest hat
              go_wp2_with fail
              refine (HP _).mono ?_
              rintro e w4 ⟨rfl, B2⟩
              clear HP
              go_wp2_with fail
              go_ret3
              exact (by rw [← HE1.out]; exact HERR.out _ (bel.trans (B2.mono bel.size)))
            | some t =>
              obtain ⟨tok1, tm1, tm2, _⟩ := stp_ok _ hne t m e hst
              have he0 : e = 0 := (stp_ok _ hne t m e hst).2.2.2.2
              subst he0
              obtain ⟨tk, tx, tn⟩ := t
              have hmm : m ≤ sr.size := by rw [← bytes_of, hrest]; exact tm2
              have HNs : ∀ w, Calls Tryz.prog 36 #[.string sr] w fun e' w' => e' = .returned (.tuple #[.agg #[.int .u8 tk, .complex .f64 0 0, .complex .f64 0 0, .string ⟨tx.toArray⟩, .int .i64 tn], .int .i64 m, .int .i64 0]) ∧ Below w.heap.size w w' := HN
              have hatn := scanAt_tok S off m done ⟨tk, tx, tn⟩ 0 hat hne hst
              clear HN hone tok1 tm2
              have hmle : m ≤ sr.size := hmm
              obtain ⟨n1, n2, n3, n4, n5⟩ := rest_next S sr off (m) hrest hmle hle
              have hgo := go_more S off (m)
              rw [← n3] at hgo
              obtain ⟨qx, qy, hq⟩ : ∃ qx qy, goB px py (sr.extract 0 (m)).data.toList = (qx, qy) := ⟨_, _, rfl⟩
              rw [hpp, hq] at hgo
              have hcall := Lib.hid (rBehind_to px py qx qy (sr.extract 0 (m)) (by omega) hq)
              have HGO := Lib.hid hgo
              have HN2 := Lib.hid n2
              have HAT := Lib.hid (hatn)
              have HPL : Hid (plOf S (⟨tk, tx, tn⟩, off, off + m) = (⟨tk, tx, tn⟩, (px, py), (qx, qy))) := Lib.hid (by unfold plOf; simp only; rw [hpp, hgo])
              have hx1 : (0 : Int) ≤ ((m : Nat) : Int) := by omega
              have hx2 : ((m : Nat) : Int) ≤ (sr.size : Int) := by omega
              clear hgo hq n2 n3 hrest hpp hat
              obtain ⟨x1, y1, e1⟩ := posV_two px py
              obtain ⟨x2, y2, e2⟩ := posV_two qx qy
              have HP := fun w => Pos_any px py w
              have HQ := fun w => Pos_any qx qy w
              simp only [e1] at HP
              simp only [e2] at HQ
              have HTK : Hid (tkCells (⟨tk, tx, tn⟩, (px, py), (qx, qy)) = [.int .u8 tk, .complex .f64 x1 y1, .complex .f64 x2 y2, .string ⟨tx.toArray⟩, .int .i64 tn]) := Lib.hid (by unfold tkCells; rw [← e1, ← e2])
              clear e1 e2 hst hne hatn
              go_wp2_with fail
              refine (HNs _).mono ?_
              rintro e' w2 ⟨rfl, B1⟩
              have A1 := A.below B1 hlt
              have hlt1 := Nat.lt_of_lt_of_le hlt B1.size
              have own1 := own.below B1
              have bel1 := bel.trans (B1.mono bel.size)
              have Bq := below_new w2 (.cells #[.int .u8 tk, .complex .f64 0 0, .complex .f64 0 0, .string ⟨tx.toArray⟩, .int .i64 tn] 51)
              have A2 := A1.below Bq hlt1
              have T2 := Fv.new w2 (.int .u8 tk) (.complex .f64 0 0) (.complex .f64 0 0) (.string ⟨tx.toArray⟩) (.int .i64 tn) 51 w2.heap.size rfl
              have htb : w2.heap.size < (w2.alloc (.cells #[.int .u8 tk, .complex .f64 0 0, .complex .f64 0 0, .string ⟨tx.toArray⟩, .int .i64 tn] 51)).heap.size := by simp
              clear HNs A A1 bel B1 own
              go_upto_region 8 with fail
              generalize w2.alloc (.cells #[.int .u8 tk, .complex .f64 0 0, .complex .f64 0 0, .string ⟨tx.toArray⟩, .int .i64 tn] 51) = w3 at A2 T2 Bq htb ⊢
              have c0 := A2.c0
              have c1 := A2.c1
              have tc1 := T2.c1
              have tf1 := T2.f1
              go_wp2_with fail
              refine (HP _).mono ?_
              rintro e' w4 ⟨rfl, B4⟩
              have A4 := A2.below B4 (Nat.lt_trans hlt1 htb)
              have T4 := T2.below B4 htb
              have Bq4 := Bq.trans (B4.mono Bq.size)
              have htb4 := Nat.lt_of_lt_of_le htb B4.size
              clear HP A2 T2 Bq B4 c0 c1 tc1 tf1 htb
              have tc1 := T4.c1
              have tf1 := T4.f1
              have A5 := A4.other w2.heap.size 1 (.complex .f64 x1 y1) (by omega)
              have T5 := T4.set1 (.complex .f64 x1 y1)
              have Bq5 := Bq4.setCell (p := ⟨w2.heap.size, 1, none⟩) (Nat.le_refl _) (.complex .f64 x1 y1)
              have htb5 : w2.heap.size < (w4.setCell ⟨w2.heap.size, 1, none⟩ (.complex .f64 x1 y1)).heap.size := by rw [size_set]; exact htb4
              clear A4 T4 Bq4 htb4
              go_upto_region 12 with fail
              generalize w4.setCell ⟨w2.heap.size, 1, none⟩ (.complex .f64 x1 y1) = w5 at A5 T5 Bq5 htb5 ⊢
              clear tc1 tf1
              go_cut [8] (fun tp wx => ∃ w7, tp = .pointer (some ⟨w2.heap.size, 0, none⟩) ∧ Below w5.heap.size w5 w7 ∧ wx = w7.setCell ⟨w2.heap.size, 2, none⟩ (.complex .f64 x2 y2))
              case first =>
                have c0 := A5.c0
                have c1 := A5.c1
                have tc2 := T5.c2
                have tf2 := T5.f2
                go_region_with (first
                  | (go_at_call 37; refine (hcall.out _).mono ?_; rintro e' w6 ⟨rfl, hb6⟩; have T6 := T5.drew.below hb6 (by simp; omega); have tc2 := T6.c2; have tf2 := T6.f2; have A6 := A5.drew.below hb6 (by simp; omega); have c0 := A6.c0; have c1 := A6.c1)
                  | (go_at_call 34; refine (HQ _).mono ?_; rintro e' w7 ⟨rfl, hb7⟩; have T7 := T6.below hb7 (by have := hb6.size; simp at this; omega); have tc2 := T7.c2; have tf2 := T7.f2))
                all_goals
                  go_wp2_with fail
                  go_meet
                  exact ⟨w7, rfl, bt ((Below.refl _ _).drew.trans hb6) hb7, rfl⟩
              case rest =>
                obtain ⟨w7, rfl, hbw, rfl⟩ := hcut
                have A8 := (A5.below hbw (by omega)).other w2.heap.size 2 (.complex .f64 x2 y2) (by omega)
                have T8 := (T5.below hbw htb5).set2 (.complex .f64 x2 y2)
                have Bq8 := (Bq5.trans (hbw.mono Bq5.size)).setCell (p := ⟨w2.heap.size, 2, none⟩) (Nat.le_refl _) (.complex .f64 x2 y2)
                have htb8 : w2.heap.size < (w7.setCell ⟨w2.heap.size, 2, none⟩ (.complex .f64 x2 y2)).heap.size := by rw [size_set]; exact Nat.lt_of_lt_of_le htb5 hbw.size
                clear A5 T5 Bq5 htb5 hbw HQ
                generalize w7.setCell ⟨w2.heap.size, 2, none⟩ (.complex .f64 x2 y2) = w8 at A8 T8 Bq8 htb8 ⊢
                have own8 := own1.below Bq8
                have bel8 := bel1.trans (Bq8.mono bel1.size)
                clear own1 bel1 Bq8
                unfold OwnT at own8
                rw [List.length_map] at own8
                have tc0 := T8.c0
                have tc1 := T8.c1
                have tc2 := T8.c2
                have tc3 := T8.c3
                have tc4 := T8.c4
                obtain ⟨i0, hi, hz0, hz1, hz2⟩ := tok_parts
                go_wp2_with (first
                  | (at_builtin; refine wpList_append_own _ rfl _ _ 23 rfl (w.heap.size + 1) 51 i0 (.agg #[.int .u8 0, .complex .f64 0 0, .complex .f64 0 0, .string ⟨#[]⟩, .int .i64 0]) 5 64 Tryz.underlying23 hi hz0 hz1 hz2 rfl (by decide) _ _ _ rfl (World.ownsRow.alloc own8 _) ⟨w8.heap.size, 0, none⟩ 1 1 [.int .u8 tk, .complex .f64 x1 y1, .complex .f64 x2 y2, .string ⟨tx.toArray⟩, .int .i64 tn] rfl rfl ?c1 ?c2 ?c3 ?c4 ?c5 ?_)
                  | fail)
                case c1 =>
                  intro j u hj
                  match j, hj with
                  | 0, hj => simp at hj; subst hj; simp [Addr.add]
                  | 1, hj => simp at hj; subst hj; simp [Addr.add]
                  | 2, hj => simp at hj; subst hj; simp [Addr.add]
                  | 3, hj => simp at hj; subst hj; simp [Addr.add]
                  | 4, hj => simp at hj; subst hj; simp [Addr.add]
                case c2 =>
                  intro u hu
                  simp at hu
                  rcases hu with rfl | rfl | rfl | rfl | rfl <;> rfl
                case c3 => unfold maxLen; omega
                case c4 => omega
                case c5 => simp; omega
                intro v9 w9 hown9 hgrow _
                have own := OwnT.next (l := done.map (plOf S)) (x := (⟨tk, tx, tn⟩, (px, py), (qx, qy))) (by rw [List.length_map, HTK.out]; exact hown9)
                rw [← HPL.out, ← List.map_singleton, ← List.map_append] at own
                have hsz8 : w.heap.size < w8.heap.size := by omega
                have A := (A8.alloc (.cells #[.int .u8 tk, .complex .f64 x1 y1, .complex .f64 x2 y2, .string ⟨tx.toArray⟩, .int .i64 tn] 51) hsz8).grown hgrow (by simp; omega) (fun e => by have := (World.ownsRow.lt own8 _ e.symm).1; omega)
                have bel := (bel8.alloc (bel8.size) (.cells #[.int .u8 tk, .complex .f64 x1 y1, .complex .f64 x2 y2, .string ⟨tx.toArray⟩, .int .i64 tn] 51)).grown hgrow (by simp; omega) (fun k hk => by have := (World.ownsRow.lt own8 k hk).1; omega)
                have hlt9 : w.heap.size < w9.heap.size := by have := hgrow.size; simp at this; omega
                clear hown9 hgrow own8 A8 bel8 T8 tc0 tc1 tc2 tc3 tc4 hi hz0 hz1 hz2 hlt HTK HPL
                have c0 := A.c0
                have c1 := A.c1
                have f0 := A.f0
                have f1 := A.f1
                go_wp2_with fail
                go_region_with (go_at_call 37; refine (hcall.out _).mono ?_; rintro e w1 ⟨rfl, hb1⟩; have D1 := A.drew.below hb1 (by simp; omega); have c0 := D1.c0; have c1 := D1.c1; have f0 := D1.f0; have f1 := D1.f1)
                all_goals
                  have hb2 : Below w9.heap.size w9 w1 := (Below.refl _ _).drew.trans hb1
                  go_wp2_with fail
                  go_roundw
                  case rel => exact ⟨sr.extract (m) sr.size, off + (m), (done ++ [(⟨tk, tx, tn⟩, off, off + m)]), by simp, ⟨n1, HN2.out, ((own.below hb2).set _ (by simp) _).set _ (by simp) _, HAT.out, by rw [HGO.out]; exact (D1.set0 _).set1 _, ((bel.trans (hb2.mono bel.size)).setCell (by simp) _).setCell (by simp) _, by simp; have := hb2.size; omega, by first | omega | (simp; omega)⟩⟩
                  case measure => simp [lenOf]; omega
      · have hst := stp_blank (S.drop off) (by rw [hhd]; exact hbl)
        have hmm : 1 ≤ sr.size := h0
        have hcs := bl_cases c hbl
        clear hr hhd hbl
        rcases hcs with t1 | ⟨t1, t2⟩ | ⟨t1, t2, t3⟩ | ⟨t1, t2, t3, t4⟩
        all_goals
          have hmle : 1 ≤ sr.size := hmm
          obtain ⟨n1, n2, n3, n4, n5⟩ := rest_next S sr off (1) hrest hmle hle
          have hgo := go_more S off (1)
          rw [← n3] at hgo
          obtain ⟨qx, qy, hq⟩ : ∃ qx qy, goB px py (sr.extract 0 (1)).data.toList = (qx, qy) := ⟨_, _, rfl⟩
          rw [hpp, hq] at hgo
          have hcall := Lib.hid (rBehind_to px py qx qy (sr.extract 0 (1)) (by omega) hq)
          have HGO := Lib.hid hgo
          have HN2 := Lib.hid n2
          have HAT := Lib.hid (scanAt_skip S off 1 done hat hne hst)
          have hx1 : (0 : Int) ≤ ((1 : Nat) : Int) := by omega
          have hx2 : ((1 : Nat) : Int) ≤ (sr.size : Int) := by omega
          clear hgo hq n2 n3 hrest hpp hat
          have c0 := A.c0
          have c1 := A.c1
          have f0 := A.f0
          have f1 := A.f1
          go_wp2_with fail
          go_region_with (go_at_call 37; refine (hcall.out _).mono ?_; rintro e w1 ⟨rfl, hb1⟩; have D1 := A.drew.below hb1 (by simp; omega); have c0 := D1.c0; have c1 := D1.c1; have f0 := D1.f0; have f1 := D1.f1)
          all_goals
            have hb2 : Below wr.heap.size wr w1 := (Below.refl _ _).drew.trans hb1
            go_wp2_with fail
            go_roundw
            case rel => exact ⟨sr.extract (1) sr.size, off + (1), done, by simp, ⟨n1, HN2.out, ((own.below hb2).set _ (by simp) _).set _ (by simp) _, HAT.out, by rw [HGO.out]; exact (D1.set0 _).set1 _, ((bel.trans (hb2.mono bel.size)).setCell (by simp) _).setCell (by simp) _, by simp; have := hb2.size; omega, by first | omega | (simp; omega)⟩⟩
            case measure => simp [lenOf]; omega
end Go.Proofs.YtliebhpddjbjeaaGreatDoor
/- LyR -/
namespace Go.Proofs.YtliebhpddjbjeaaGreatDoor
open Go.RowKit
set_option maxHeartbeats 1000000
set_option maxRecDepth 100000
set_option linter.unusedVariables false

theorem cat3 (a b : List UInt8) : (⟨a.toArray⟩ : ByteArray) ++ ⟨#[32]⟩ ++ ⟨b.toArray⟩ = ⟨(a ++ 32 :: b).toArray⟩ := by
  apply ByteArray.ext; simp
theorem Join_any (l : List TK) (hl : l.length ≤ 16385) (hok : allOk l) (v : Value) (w : World) (B : Nat) (h : OwnT w B v l) :
    Calls Tryz.prog 15 #[v] w fun e w' => e = .returned (.string ⟨((l.map (·.1)).foldl jn []).toArray⟩) ∧ Below w.heap.size w w' := by
  have HOK := Lib.hid hok
  clear hok
  obtain ⟨p, cap, hv⟩ : ∃ p cap, v = .slice p l.length cap := by
    rcases h.2 with ⟨h1, h2⟩ | ⟨g, cap, cur, h1, _⟩
    · exact ⟨none, 0, by rw [h1, h2]⟩
    · exact ⟨_, _, h1⟩
  go_enter Tryz.func15, Tryz.ntmps15
  subst hv
  go_wp2_with fail
  go_loopw [3, 4] (fun s i wr => ∃ (k : Nat) (acc : List UInt8), k ≤ l.length ∧ i = .int .i64 k ∧ s = .string ⟨acc.toArray⟩ ∧ acc = ((l.take k).map (·.1)).foldl jn [] ∧ acc.length ≤ k * 65543 ∧ Below w.heap.size w wr)
    (fun _ i _ => l.length - (intOf i).toNat)
  case atStart => exact ⟨0, [], by omega, rfl, rfl, rfl, by simp, Below.refl _ _⟩
  case round =>
    obtain ⟨k, acc, hk, rfl, rfl, hacc, hal, hb⟩ := hrel
    have HA := Lib.hid hacc
    have HAL := Lib.hid hal
    clear hacc hal
    by_cases hlt : k < l.length
    · have hx : l[k]? = some l[k] := List.getElem?_eq_getElem hlt
      obtain ⟨x, hxe⟩ : ∃ x, l[k] = x := ⟨_, rfl⟩
      rw [hxe] at hx
      obtain ⟨g, cap', hvv, _, _, c0, c1, c2, c3, c4⟩ := (h.below hb).at k x hx
      obtain rfl : p = some ⟨g, 0, none⟩ := by injection hvv
      have hxo := HOK.out x (List.mem_of_getElem? hx)
      have HK : Hid (((l.take (k + 1)).map (·.1)).foldl jn [] = jn acc x.1) := Lib.hid (by
        rw [List.take_add_one, hx, HA.out]
        simp)
      obtain ⟨t, ⟨px, py⟩, ⟨qx, qy⟩⟩ := x
      obtain ⟨x1, y1, e1⟩ := posV_two px py
      obtain ⟨x2, y2, e2⟩ := posV_two qx qy
      simp only [e1, e2] at c0 c1 c2 c3 c4
      have hT := fun w => Text_any t hxo.1 x1 y1 x2 y2 w
      have hjl := jn_len acc t hxo.1
      have htl := txt_len t hxo.1
      have HTL := Lib.hid htl
      clear e1 e2 hx hxe hvv
      by_cases hz : t.k = 0
      · have HJ : Hid (jn acc t = acc) := Lib.hid (by unfold jn; rw [if_pos hz])
        have tz : ((t.k : Int) == 0) = true := by rw [hz]; rfl
        clear hT hxo hz
        go_wp2_with fail
        go_roundw
        case rel => exact ⟨k + 1, acc, by omega, by simp, rfl, by rw [HK.out, HJ.out], by rw [Nat.add_mul, Nat.one_mul]; exact Nat.le_trans HAL.out (Nat.le_add_right _ _), hb⟩
        case measure => simp [intOf]; omega
      · have tz : ((t.k : Int) == 0) = false := by rw [beq_eq_false_iff_ne]; omega
        by_cases ha : acc = []
        · have HJ : Hid (jn acc t = txtT t) := Lib.hid (by unfold jn; rw [if_neg hz, if_pos ha])
          subst ha
          clear hz
          go_wp2_with fail
          refine (hT _).mono ?_
          rintro e w2 ⟨rfl, B2⟩
          clear hT
          go_wp2_with fail
          go_roundw
          case rel => exact ⟨k + 1, txtT t, by omega, by simp, congrArg Value.string (by apply ByteArray.ext; simp), by rw [HK.out, HJ.out], by rw [Nat.add_mul, Nat.one_mul]; exact Nat.le_trans HTL.out (Nat.le_trans (Nat.le_succ _) (Nat.le_add_left _ _)), hb.trans (B2.mono hb.size)⟩
          case measure => simp [intOf]; omega
        · have HJ : Hid (jn acc t = acc ++ 32 :: txtT t) := Lib.hid (by unfold jn; rw [if_neg hz, if_neg ha])
          have he : acc.isEmpty = false := by
            cases acc with
            | nil => exact absurd rfl ha
            | cons a r => rfl
          have hk16 : acc.length ≤ 1073922055 := Nat.le_trans HAL.out (Nat.le_trans (Nat.mul_le_mul_right 65543 (Nat.le_trans hk hl)) (Nat.le_of_ble_eq_true rfl))
          have HJL : Hid ((acc ++ 32 :: txtT t).length ≤ (k + 1) * 65543) := Lib.hid (by rw [← HJ.out, Nat.add_mul, Nat.one_mul]; exact Nat.le_trans hjl (Nat.add_le_add_right HAL.out _))
          clear hz ha hjl
          go_wp2_with fail
          refine (hT _).mono ?_
          rintro e w2 ⟨rfl, B2⟩
          clear hT
          go_wp2_with fail
          go_roundw
          case rel => exact ⟨k + 1, acc ++ 32 :: txtT t, by omega, by simp, by rw [cat3], by rw [HK.out, HJ.out], HJL.out, hb.trans (B2.mono hb.size)⟩
          case measure => simp [intOf]; omega
    · have hke : k = l.length := by omega
      have HR : Hid ((l.map (·.1)).foldl jn [] = acc) := Lib.hid (by rw [HA.out, hke, List.take_length])
      have hnl : ¬ (k : Int) < (l.length : Int) := by omega
      clear hke
      go_wp2_with fail
      go_ret
      exact ⟨ret_str (by rw [HR.out]), hb⟩
end Go.Proofs.YtliebhpddjbjeaaGreatDoor
/- FmA -/
namespace Go.Proofs.YtliebhpddjbjeaaGreatDoor
open Go.RowKit
set_option maxHeartbeats 2000000
set_option maxRecDepth 100000
set_option linter.unusedVariables false

theorem tz8 (w : World) (h : w.cell? ⟨6, 7, none⟩ = some (.int .u8 3)) :
    Calls Tryz.prog 158 #[.int .u64 8] w fun e w' => e = .returned (.int .i64 3) ∧ w' = w := by
  have f0 : IntKind.u64.wrap (-8) = 18446744073709551608 := by kernel_rfl
  have f1 : bits .and .u64 8 (IntKind.u64.wrap (-8)) = 8 := by kernel_rfl
  have f3 : bits .and .u64 8 18446744073709551608 = 8 := by kernel_rfl
  have f2 : IntKind.u64.wrap (8 * 285870213051353865) = 2286961704410830920 := by kernel_rfl
  go_enter Tryz.func158, Tryz.ntmps158
  go_wp2_with fail
  go_ret
  exact ⟨rfl, rfl⟩
theorem pow8 (w : World) :
    Calls Tryz.prog 138 #[.int .i64 8] w fun e w' => e = .returned (.bool true) ∧ w' = w := by
  go_enter Tryz.func138, Tryz.ntmps138
  go_wp2_with fail
  go_ret
  exact ⟨rfl, rfl⟩
theorem tz8' (w : World) (h : w.cell? ⟨6, 7, none⟩ = some (.int .u8 3)) :
    Calls Tryz.prog 139 #[.int .u64 8] w fun e w' => e = .returned (.int .i64 3) ∧ w' = w := by
  have HT := tz8 w h
  go_enter Tryz.func139, Tryz.ntmps139
  go_wp2_with fail
  refine HT.mono ?_
  rintro e w1 ⟨rfl, rfl⟩
  go_wp2_with fail
  go_ret
  exact ⟨rfl, rfl⟩

theorem dg_of (ds : ByteArray) (c : Nat) (h8 : c < 8) (hs : c < ds.size) (hd : ds.data.toList.take 8 = [48, 49, 50, 51, 52, 53, 54, 55]) : UInt8.ofNat ((ds[c].toNat : Int)).toNat = UInt8.ofNat (48 + c) := by
  have h1 : ds[c] = (ds.data.toList.take 8)[c]'(by rw [hd]; exact h8) := by rw [List.getElem_take]; rfl
  rw [h1]
  simp only [hd]
  match c, h8 with
  | 0, _ => rfl
  | 1, _ => rfl
  | 2, _ => rfl
  | 3, _ => rfl
  | 4, _ => rfl
  | 5, _ => rfl
  | 6, _ => rfl
  | 7, _ => rfl
theorem dg_of' (ds : ByteArray) (c : Nat) (h8 : c < 8) (hs : c < ds.size) (hd : ds.data.toList.take 8 = [48, 49, 50, 51, 52, 53, 54, 55]) : ds[c] = UInt8.ofNat (48 + c) := by
  have := dg_of ds c h8 hs hd
  simpa using this
theorem ret_str1 (a b : UInt8) (h : a = b) : Ending.returned (.tuple #[.slice none 0 0, .string ⟨#[a]⟩]) = .returned (.tuple #[.slice none 0 0, .string ⟨#[b]⟩]) := by rw [h]
theorem ret_str2 (a b c d : UInt8) (h : a = b) (h' : c = d) : Ending.returned (.tuple #[.slice none 0 0, .string ⟨#[a, c]⟩]) = .returned (.tuple #[.slice none 0 0, .string ⟨#[b, d]⟩]) := by rw [h, h']
theorem ret_str3 (a b c d e f : UInt8) (h : a = b) (h' : c = d) (h'' : e = f) : Ending.returned (.tuple #[.slice none 0 0, .string ⟨#[a, c, e]⟩]) = .returned (.tuple #[.slice none 0 0, .string ⟨#[b, d, f]⟩]) := by rw [h, h', h'']
theorem and7_all : (List.range 512).all (fun c : Nat => bits .and .u64 (c : Int) 7 == ((c % 8 : Nat) : Int)) = true := by kernel_rfl
theorem and7 (c : Nat) (h : c < 512) : bits .and .u64 (c : Int) 7 = ((c % 8 : Nat) : Int) := by
  have := List.all_eq_true.1 and7_all c (List.mem_range.2 h)
  exact of_decide_eq_true (by simpa using this)
theorem cv8 (n : Nat) (zs : List Int) (hn : zs.length = n) (h3 : n ≤ 3) (h1 : 1 ≤ n) (C : Array Value) (hC : ∀ i, i < n → C[65 - n + i]? = some (.int .u8 (zs.getD i 0))) (W : World) :
    (convert 45 9 (.slice (some ⟨W.heap.size, 65 - n, none⟩) n n)).run Tryz.prog (W.alloc (.cells C 162)) = .ok (.string ⟨(zs.map fun z => UInt8.ofNat z.toNat).toArray⟩) (W.alloc (.cells C 162)) := by
  have h := run_convert_bytes_arg (P := Tryz.prog) (W.alloc (.cells C 162)) 45 5 Tryz.underlying45 Tryz.underlying5 W.heap.size (65 - n) n n zs hn (fun i hi => by
    rw [World.cell?_alloc_new]; exact hC i hi) 9 Tryz.underlying9
  exact h
theorem z89_size : (Tryz.zeroCells162).size = 65 := by kernel_rfl
theorem cvA (d : Int) (W : World) : (convert 45 9 (.slice (some ⟨W.heap.size, 64, none⟩) 1 1)).run Tryz.prog (W.alloc (.cells (Tryz.zeroCells162.setIfInBounds 64 (.int .u8 d)) 162)) = .ok (.string ⟨#[UInt8.ofNat d.toNat]⟩) (W.alloc (.cells (Tryz.zeroCells162.setIfInBounds 64 (.int .u8 d)) 162)) :=
  cv8 1 [d] rfl (by omega) (by omega) _ (fun i hi => by
    obtain rfl : i = 0 := by omega
    rw [Array.getElem?_setIfInBounds_self_of_lt (by rw [z89_size]; omega)]; rfl) W
theorem cvB (d e : Int) (W : World) : (convert 45 9 (.slice (some ⟨W.heap.size, 63, none⟩) 2 2)).run Tryz.prog (W.alloc (.cells ((Tryz.zeroCells162.setIfInBounds 64 (.int .u8 e)).setIfInBounds 63 (.int .u8 d)) 162)) = .ok (.string ⟨#[UInt8.ofNat d.toNat, UInt8.ofNat e.toNat]⟩) (W.alloc (.cells ((Tryz.zeroCells162.setIfInBounds 64 (.int .u8 e)).setIfInBounds 63 (.int .u8 d)) 162)) :=
  cv8 2 [d, e] rfl (by omega) (by omega) _ (fun i hi => by
    match i, hi with
    | 0, _ => simp
    | 1, _ => simp) W
theorem cvC (d e f : Int) (W : World) : (convert 45 9 (.slice (some ⟨W.heap.size, 62, none⟩) 3 3)).run Tryz.prog (W.alloc (.cells (((Tryz.zeroCells162.setIfInBounds 64 (.int .u8 f)).setIfInBounds 63 (.int .u8 e)).setIfInBounds 62 (.int .u8 d)) 162)) = .ok (.string ⟨#[UInt8.ofNat d.toNat, UInt8.ofNat e.toNat, UInt8.ofNat f.toNat]⟩) (W.alloc (.cells (((Tryz.zeroCells162.setIfInBounds 64 (.int .u8 f)).setIfInBounds 63 (.int .u8 e)).setIfInBounds 62 (.int .u8 d)) 162)) :=
  cv8 3 [d, e, f] rfl (by omega) (by omega) _ (fun i hi => by
    match i, hi with
    | 0, _ => simp
    | 1, _ => simp
    | 2, _ => simp) W
theorem fb1 (c : Nat) (h8 : c < 8) (w : World) (h : w.cell? ⟨6, 7, none⟩ = some (.int .u8 3)) :
    Calls Tryz.prog 120 #[.slice none 0 0, .int .u64 (c : Int), .int .i64 8, .bool false, .bool false] w fun e w' => e = .returned (.tuple #[.slice none 0 0, .string ⟨#[UInt8.ofNat (48 + c)]⟩]) ∧ Below w.heap.size w w' := by
  have HT := fun w h => tz8' w h
  have HC := fun d => cvA d w
  have HH : ∀ o, (w.alloc o).cell? ⟨6, 7, none⟩ = some (.int .u8 3) := fun o => ((Below.refl w.heap.size w).alloc (Nat.le_refl _) o).cell (Lib.lt_of_cell h) |>.trans h
  go_enter Tryz.func120, Tryz.ntmps120
  go_wp2_with fail
  refine (pow8 _).mono ?_
  rintro e w1 ⟨rfl, rfl⟩
  go_wp2_with fail
  refine (HT _ (HH _)).mono ?_
  rintro e w1 ⟨rfl, rfl⟩
  clear HH HT
  go_wp2_with fail
  refine wp_loop_rounds 1 ?_
  rw [rounds_succ]
  go_wp2_with fail
  go_ret2
  refine ⟨?_, (Below.refl w.heap.size w).alloc (Nat.le_refl _) _⟩
  exact ret_str1 _ _ (dg_of' _ c h8 _ rfl)
theorem fb2 (u a b : Nat) (ha : a < 8) (ha1 : 1 ≤ a) (hb : b < 8) (hA : bits .and .u64 (u : Int) 7 = (b : Int)) (hD : (u : Int) / 8 = (a : Int)) (hu : 8 ≤ u) (hu2 : u < 64) (w : World) (h : w.cell? ⟨6, 7, none⟩ = some (.int .u8 3)) :
    Calls Tryz.prog 120 #[.slice none 0 0, .int .u64 (u : Int), .int .i64 8, .bool false, .bool false] w fun e w' => e = .returned (.tuple #[.slice none 0 0, .string ⟨#[UInt8.ofNat (48 + a), UInt8.ofNat (48 + b)]⟩]) ∧ Below w.heap.size w w' := by
  have HT := fun w h => tz8' w h
  have HC := fun d e => cvB d e w
  have HH : ∀ o, (w.alloc o).cell? ⟨6, 7, none⟩ = some (.int .u8 3) := fun o => ((Below.refl w.heap.size w).alloc (Nat.le_refl _) o).cell (Lib.lt_of_cell h) |>.trans h
  go_enter Tryz.func120, Tryz.ntmps120
  go_wp2_with fail
  refine (pow8 _).mono ?_
  rintro e w1 ⟨rfl, rfl⟩
  go_wp2_with fail
  refine (HT _ (HH _)).mono ?_
  rintro e w1 ⟨rfl, rfl⟩
  clear HH HT
  go_wp2_with fail
  refine wp_loop_rounds 3 ?_
  rw [rounds_succ]
  go_wp2_with fail
  rw [rounds_succ]
  go_wp2_with fail
  go_ret2
  refine ⟨?_, (Below.refl w.heap.size w).alloc (Nat.le_refl _) _⟩
  exact ret_str2 _ _ _ _ (dg_of' _ a ha _ rfl) (dg_of' _ b hb _ rfl)
theorem fb3 (u v a b c : Nat) (ha : a < 8) (ha1 : 1 ≤ a) (hb : b < 8) (hc : c < 8) (hA : bits .and .u64 (u : Int) 7 = (c : Int)) (hA2 : bits .and .u64 (v : Int) 7 = (b : Int)) (hD : (u : Int) / 8 = (v : Int)) (hD2 : (v : Int) / 8 = (a : Int)) (hu : 64 ≤ u) (hu2 : u < 512) (hv : 8 ≤ v) (hv2 : v < 64) (w : World) (h : w.cell? ⟨6, 7, none⟩ = some (.int .u8 3)) :
    Calls Tryz.prog 120 #[.slice none 0 0, .int .u64 (u : Int), .int .i64 8, .bool false, .bool false] w fun e w' => e = .returned (.tuple #[.slice none 0 0, .string ⟨#[UInt8.ofNat (48 + a), UInt8.ofNat (48 + b), UInt8.ofNat (48 + c)]⟩]) ∧ Below w.heap.size w w' := by
  have HT := fun w h => tz8' w h
  have HC := fun d e f => cvC d e f w
  have HH : ∀ o, (w.alloc o).cell? ⟨6, 7, none⟩ = some (.int .u8 3) := fun o => ((Below.refl w.heap.size w).alloc (Nat.le_refl _) o).cell (Lib.lt_of_cell h) |>.trans h
  go_enter Tryz.func120, Tryz.ntmps120
  go_wp2_with fail
  refine (pow8 _).mono ?_
  rintro e w1 ⟨rfl, rfl⟩
  go_wp2_with fail
  refine (HT _ (HH _)).mono ?_
  rintro e w1 ⟨rfl, rfl⟩
  clear HH HT
  go_wp2_with fail
  refine wp_loop_rounds 4 ?_
  rw [rounds_succ]
  go_wp2_with fail
  rw [rounds_succ]
  go_wp2_with fail
  rw [rounds_succ]
  go_wp2_with fail
  go_ret2
  refine ⟨?_, (Below.refl w.heap.size w).alloc (Nat.le_refl _) _⟩
  exact ret_str3 _ _ _ _ _ _ (dg_of' _ a ha _ rfl) (dg_of' _ b hb _ rfl) (dg_of' _ c hc _ rfl)
end Go.Proofs.YtliebhpddjbjeaaGreatDoor
/- LzM -/
namespace Go.Proofs.YtliebhpddjbjeaaGreatDoor
open Go.RowKit
set_option maxHeartbeats 2000000
set_option maxRecDepth 100000
set_option linter.unusedVariables false

theorem bld_used (b : Nat) (w : World) (h0 : w.cell? ⟨b, 0, none⟩ = some (.pointer (some ⟨b, 0, none⟩))) :
    Calls Tryz.prog 75 #[.pointer (some ⟨b, 0, none⟩)] w fun e w' => e = .returned (.tuple #[]) ∧ w' = w := by
  obtain ⟨j, hj, _⟩ := Option.map_eq_some_iff.1 Tryz.Builder_Extra_169.sizeBuilder
  go_enter Tryz.func75, Tryz.ntmps75
  go_wp2_with fail
  rw [Lib.run_neq_ptr_same w _ Tryz.underlying63 hj]
  go_wp2_with fail
  go_end0
  exact ⟨rfl, rfl⟩
theorem bld_fresh (b : Nat) (w : World) (h0 : w.cell? ⟨b, 0, none⟩ = some (.pointer none)) (hsh : w.shape? b = some (65, 2)) (hfz : w.frozen? ⟨b, 0, none⟩ = false) :
    Calls Tryz.prog 75 #[.pointer (some ⟨b, 0, none⟩)] w fun e w' => e = .returned (.tuple #[]) ∧ w' = w.setCell ⟨b, 0, none⟩ (.pointer (some ⟨b, 0, none⟩)) := by
  obtain ⟨j, hj, hjs⟩ := Option.map_eq_some_iff.1 Tryz.Builder_Extra_169.sizeBuilder
  go_enter Tryz.func75, Tryz.ntmps75
  go_wp2_with fail
  rw [Lib.run_to_unsafe w ⟨b, 0, none⟩ Tryz.underlying63 Tryz.underlying127 hj (by rw [hjs]; decide) hsh (Nat.zero_lt_succ 1)]
  simp only [Result.andThen]
  rw [Oper.upon_value]
  go_wp2_with fail
  rw [run_callFunc_extern Tryz.func95 (by kernel_rfl) (by kernel_rfl) (by kernel_rfl) (e := Extern.AbiNoEscape.same) (by kernel_rfl)]
  rw [Lib.run_noEscape]
  simp only [Result.andThen]
  rw [Oper.upon_value]
  go_wp2_with fail
  rw [Lib.run_from_unsafe w ⟨b, 0, none⟩ Tryz.underlying127 Tryz.underlying63 hj hsh Tryz.Builder_Extra_169.liesBuilder]
  simp only [Result.andThen]
  rw [Oper.upon_value]
  go_wp2_with fail
  go_end0
  exact ⟨rfl, rfl⟩
/-- Blocks that are no rows of bytes, and not the builder's, lie as they lay. -/
def Spares (b : Nat) (w w' : World) : Prop := ∀ (j : Nat) (o : Obj), w.heap[j]? = some o → j ≠ b → (∀ cs fr, o ≠ .cells cs 5 fr) → w'.heap[j]? = some o
theorem bld_check (B b : Nat) (bs : List Value) (w : World) (h : Lib.IsBuilder 65 5 B b bs w) :
    Calls Tryz.prog 75 #[.pointer (some ⟨b, 0, none⟩)] w fun e w' => e = .returned (.tuple #[]) ∧ (Lib.BuilderAt 65 5 B b (.pointer (some ⟨b, 0, none⟩)) bs w' ∧ Below B w w' ∧ Spares b w w') := by
  rcases h with h | h
  · refine (bld_fresh b w h.cell0 h.shape h.frozen0).mono ?_
    rintro e w' ⟨rfl, rfl⟩
    exact ⟨rfl, h.used _, (Below.refl B w).setCell (p := ⟨b, 0, none⟩) h.1 _, fun j o ho hj _ => (Below.heap_setCell w ⟨b, 0, none⟩ _ j hj).trans ho⟩
  · refine (bld_used b w h.cell0).mono ?_
    rintro e w' ⟨rfl, rfl⟩
    exact ⟨rfl, h, Below.refl B _, fun j o ho _ _ => ho⟩
/-- The block in which a builder lies, ahead of a store of its buffer. -/
theorem bld_cells {B b : Nat} {v : Value} {W w : World} {row : Option Nat} (hbk : W.heap[b]? = some (.cells #[.pointer (some ⟨b, 0, none⟩), v] 65 (0, 0))) (hg : W.grownBy w row) (hne : some b ≠ row) :
    w.heap[b]? = some (.cells #[.pointer (some ⟨b, 0, none⟩), v] 65 (0, 0)) := (hg.block b (Array.getElem?_eq_some_iff.1 hbk).1 hne).trans hbk
theorem bld_byte (B b : Nat) (bs : List Value) (c : Int) (w : World) (h : Lib.IsBuilder 65 5 B b bs w) (hlen : bs.length + 1 ≤ 140737488355328) (hBw : B ≤ w.heap.size) :
    Calls Tryz.prog 44 #[.pointer (some ⟨b, 0, none⟩), .int .u8 c] w fun e w' => e = .returned .nilIface ∧ (Lib.BuilderAt 65 5 B b (.pointer (some ⟨b, 0, none⟩)) (bs ++ [.int .u8 c]) w' ∧ Below B w w' ∧ Spares b w w') := by
  obtain ⟨i0, hi, hz0, hz1, hz2⟩ := info_parts Tryz.Builder_Extra_169.infoByte
  have HC := bld_check B b bs w h
  go_enter Tryz.func44, Tryz.ntmps44
  go_wp2_with fail
  refine HC.mono ?_
  rintro e w1 ⟨rfl, h1, hb1, hsp⟩
  obtain ⟨hB, v, hbk, hown, hne⟩ := h1
  have c0 : w1.cell? ⟨b, 0, none⟩ = some (.pointer (some ⟨b, 0, none⟩)) := by rw [Lib.cell_of_heap hbk]; rfl
  have c1 : w1.cell? ⟨b, 1, none⟩ = some v := by rw [Lib.cell_of_heap hbk]; rfl
  have hs1 := hb1.size
  go_wp2_with (at_builtin; refine wpList_append_own _ rfl _ _ 45 rfl B 5 i0 (.int .u8 0) 1 1 Tryz.underlying45 hi hz0 hz1 hz2 rfl (by decide) _ _ _ rfl (hown.alloc _) ⟨w1.heap.size, 0, none⟩ 1 1 [.int .u8 c] rfl rfl ?c1 ?c2 ?c3 ?c4 ?c5 ?_)
  case c1 =>
    intro j u hj
    match j, hj with
    | 0, hj => simp at hj; subst hj; simp [Addr.add]
  case c2 => intro u hu; simp at hu; subst hu; rfl
  case c3 => unfold maxLen; omega
  case c4 => omega
  case c5 => simp; omega
  intro v' w2 hown' hgrow _
  have hlt : b < w1.heap.size := (Array.getElem?_eq_some_iff.1 hbk).1
  have hb2 := bld_cells (B := B) ((Lib.alloc_old w1 (.cells #[.int .u8 c] 5) b hlt).trans hbk) hgrow (fun e => hne e.symm)
  have d0 : w2.cell? ⟨b, 0, none⟩ = some (.pointer (some ⟨b, 0, none⟩)) := by rw [Lib.cell_of_heap hb2]; rfl
  have d1 : w2.cell? ⟨b, 1, none⟩ = some v := by rw [Lib.cell_of_heap hb2]; rfl
  have f1 : w2.frozen? ⟨b, 1, none⟩ = false := Lib.frozen_of_heap hb2 1
  obtain ⟨g, cap, rfl, _, _⟩ := World.ownsRow.form hown' (by omega)
  go_wp2_with fail
  go_ret
  refine ⟨rfl, ?_, ?_, fun j o ho hj hno => ?_⟩
  · exact Lib.BuilderAt.put (T := 65) (e := 5) hB hb2 (bs' := bs ++ [.int .u8 c]) (by simpa using hown') Tryz.Builder_Extra_169.neB5
  · exact ((hb1.alloc (by omega) _).grown hgrow (by simp; omega) (fun k hk => (hown.lt k hk).1)).setCell (p := ⟨b, 1, none⟩) hB _
  · have h1 := hsp j o ho hj hno
    have hj1 : j < w1.heap.size := (Array.getElem?_eq_some_iff.1 h1).1
    refine (Below.heap_setCell w2 ⟨b, 1, none⟩ _ j hj).trans ((hgrow.block j (by simp; omega) (fun e => ?_)).trans ((Lib.alloc_old w1 _ j hj1).trans h1))
    rcases hown.2 with ⟨hv, _⟩ | ⟨g, cap, cur, hv, _, hg, _⟩
    · rw [hv] at e; cases e
    · rw [hv] at e
      have hjg : j = g := by simpa [Value.ownBlock] using e
      subst hjg
      rw [h1] at hg
      exact hno _ _ (Option.some.inj hg)
theorem bld_str (B b : Nat) (bs : List Value) (s : ByteArray) (w : World) (h : Lib.IsBuilder 65 5 B b bs w) (hlen : bs.length + s.size ≤ 140737488355328) (hBw : B ≤ w.heap.size) :
    Calls Tryz.prog 45 #[.pointer (some ⟨b, 0, none⟩), .string s] w fun e w' => e = .returned (.tuple #[.int .i64 s.size, .nilIface]) ∧ (Lib.BuilderAt 65 5 B b (.pointer (some ⟨b, 0, none⟩)) (bs ++ Lib.strCells s) w' ∧ Below B w w') := by
  obtain ⟨i0, hi, hz0, hz1, hz2⟩ := info_parts Tryz.Builder_Extra_169.infoByte
  have HC := bld_check B b bs w h
  go_enter Tryz.func45, Tryz.ntmps45
  go_wp2_with fail
  refine HC.mono ?_
  rintro e w1 ⟨rfl, h1, hb1, hsp⟩
  obtain ⟨hB, v, hbk, hown, hne⟩ := h1
  have c0 : w1.cell? ⟨b, 0, none⟩ = some (.pointer (some ⟨b, 0, none⟩)) := by rw [Lib.cell_of_heap hbk]; rfl
  have c1 : w1.cell? ⟨b, 1, none⟩ = some v := by rw [Lib.cell_of_heap hbk]; rfl
  have hs1 := hb1.size
  go_wp2_with (at_builtin; refine Lib.wpList_append_own_string _ rfl _ _ 45 9 rfl B 5 i0 Tryz.underlying45 Tryz.underlying9 hi hz0 hz1 hz2 _ _ _ rfl hown s rfl ?c3 ?c4 ?c5 ?_)
  case c3 => unfold maxLen; omega
  case c4 => omega
  case c5 => omega
  intro v' w2 hown' hgrow _
  have hb2 := bld_cells (B := B) hbk hgrow (fun e => hne e.symm)
  have d0 : w2.cell? ⟨b, 0, none⟩ = some (.pointer (some ⟨b, 0, none⟩)) := by rw [Lib.cell_of_heap hb2]; rfl
  have d1 : w2.cell? ⟨b, 1, none⟩ = some v := by rw [Lib.cell_of_heap hb2]; rfl
  have f1 : w2.frozen? ⟨b, 1, none⟩ = false := Lib.frozen_of_heap hb2 1
  obtain ⟨ao, n', cap, rfl⟩ : ∃ ao n' cap, v' = .slice ao n' cap := by
    rcases hown'.2 with ⟨hv, _⟩ | ⟨g, cap, cur, hv, _⟩
    · exact ⟨_, _, _, hv⟩
    · exact ⟨_, _, _, hv⟩
  go_wp2_with fail
  go_ret2
  refine ⟨rfl, ?_, ?_⟩
  · exact Lib.BuilderAt.put (T := 65) (e := 5) hB hb2 (bs' := bs ++ Lib.strCells s) (by simpa [Lib.strCells_length] using hown') Tryz.Builder_Extra_169.neB5
  · exact (hb1.grown hgrow (by omega) (fun k hk => (hown.lt k hk).1)).setCell (p := ⟨b, 1, none⟩) hB _
end Go.Proofs.YtliebhpddjbjeaaGreatDoor
/- LzO -/
namespace Go.Proofs.YtliebhpddjbjeaaGreatDoor
open Go.RowKit
set_option maxHeartbeats 2000000
set_option maxRecDepth 100000
set_option linter.unusedVariables false

/-- Tokens as Join takes them: such as may be, and a character's number has at most three digits to the base 8. -/
def chOk (t : T0) : Prop := txtOk t ∧ (t.k = 3 → t.n ≤ 511) ∧ (t.k = 0 ∨ t.k = 1 ∨ t.k = 2 ∨ t.k = 3 ∨ t.k = 4 ∨ t.k = 5 ∨ t.k = 6)
theorem itoa_nat (n : Int) (h : 0 ≤ n) : Lib.itoa n = Lib.decDigits n.toNat := by
  unfold Lib.itoa
  rw [if_neg (by omega)]
theorem ind_mem (c : UInt8) (x : List UInt8) : decide (0 ≤ Lib.indexByte x c) = x.contains c := by
  rw [ib_mem]
  cases h : x.contains c
  · exact decide_eq_false (fun e => by rw [List.contains_iff_mem.2 e] at h; cases h)
  · exact decide_eq_true (List.contains_iff_mem.1 h)
theorem zw_plain1 (tx : List UInt8) (tn : Int) (hx : tx.length ≤ 65536) (h0 : 0 ≤ tn) (h1 : tn ≤ 65535) (px py qx qy : Nat) (w : World) (hE : Env w) :
    Calls Tryz.prog 46 #[.agg #[.int .u8 1, .complex .f64 px py, .complex .f64 qx qy, .string ⟨tx.toArray⟩, .int .i64 tn]] w fun e w' => e = .returned (.string ⟨(txtT ⟨1, tx, tn⟩).toArray⟩) ∧ Below w.heap.size w w' := by
  have hsc := fun w a x y m => store_cx (P := Tryz.prog) w a .f64 x y m
  have HT : Hid (txtT ⟨1, tx, tn⟩ = tx) := Lib.hid (by rfl)
  have D0 := below_new w (.cells #[.int .u8 1, .complex .f64 px py, .complex .f64 qx qy, .string ⟨tx.toArray⟩, .int .i64 tn] 51)
  go_enter Tryz.func46, Tryz.ntmps46
  go_wp2_with fail
  go_ret
  exact ⟨by rw [HT.out]; first | done | rfl, D0⟩
theorem zw_plain5 (tx : List UInt8) (tn : Int) (hx : tx.length ≤ 65536) (h0 : 0 ≤ tn) (h1 : tn ≤ 65535) (px py qx qy : Nat) (w : World) (hE : Env w) :
    Calls Tryz.prog 46 #[.agg #[.int .u8 5, .complex .f64 px py, .complex .f64 qx qy, .string ⟨tx.toArray⟩, .int .i64 tn]] w fun e w' => e = .returned (.string ⟨(txtT ⟨5, tx, tn⟩).toArray⟩) ∧ Below w.heap.size w w' := by
  have hsc := fun w a x y m => store_cx (P := Tryz.prog) w a .f64 x y m
  have HT : Hid (txtT ⟨5, tx, tn⟩ = tx) := Lib.hid (by rfl)
  have D0 := below_new w (.cells #[.int .u8 5, .complex .f64 px py, .complex .f64 qx qy, .string ⟨tx.toArray⟩, .int .i64 tn] 51)
  go_enter Tryz.func46, Tryz.ntmps46
  go_wp2_with fail
  go_ret
  exact ⟨by rw [HT.out]; first | done | rfl, D0⟩
theorem zw_plain6 (tx : List UInt8) (tn : Int) (hx : tx.length ≤ 65536) (h0 : 0 ≤ tn) (h1 : tn ≤ 65535) (px py qx qy : Nat) (w : World) (hE : Env w) :
    Calls Tryz.prog 46 #[.agg #[.int .u8 6, .complex .f64 px py, .complex .f64 qx qy, .string ⟨tx.toArray⟩, .int .i64 tn]] w fun e w' => e = .returned (.string ⟨(txtT ⟨6, tx, tn⟩).toArray⟩) ∧ Below w.heap.size w w' := by
  have hsc := fun w a x y m => store_cx (P := Tryz.prog) w a .f64 x y m
  have HT : Hid (txtT ⟨6, tx, tn⟩ = tx) := Lib.hid (by rfl)
  have D0 := below_new w (.cells #[.int .u8 6, .complex .f64 px py, .complex .f64 qx qy, .string ⟨tx.toArray⟩, .int .i64 tn] 51)
  go_enter Tryz.func46, Tryz.ntmps46
  go_wp2_with fail
  go_ret
  exact ⟨by rw [HT.out]; first | done | rfl, D0⟩
theorem zw_num (tx : List UInt8) (tn : Int) (hx : tx.length ≤ 65536) (h0 : 0 ≤ tn) (h1 : tn ≤ 65535) (px py qx qy : Nat) (w : World) (hE : Env w) :
    Calls Tryz.prog 46 #[.agg #[.int .u8 2, .complex .f64 px py, .complex .f64 qx qy, .string ⟨tx.toArray⟩, .int .i64 tn]] w fun e w' => e = .returned (.string ⟨(txtT ⟨2, tx, tn⟩).toArray⟩) ∧ Below w.heap.size w w' := by
  have hsc := fun w a x y m => store_cx (P := Tryz.prog) w a .f64 x y m
  have HT : Hid (txtT ⟨2, tx, tn⟩ = Lib.itoa tn) := Lib.hid (by show Lib.decDigits tn.toNat = _; rw [itoa_nat tn h0])
  have D0 := below_new w (.cells #[.int .u8 2, .complex .f64 px py, .complex .f64 qx qy, .string ⟨tx.toArray⟩, .int .i64 tn] 51)
  have HF := fun w' hb => Tryz.strconv_FormatInt_10 tn (by omega) (by omega) w' (hE.below hb).tab
  clear hE
  go_enter Tryz.func46, Tryz.ntmps46
  go_wp2_with fail
  refine (HF _ D0).mono ?_
  rintro e w' ⟨rfl, k, os, rfl⟩
  have B1 := Lib.below_grow _ (w.alloc (.cells #[.int .u8 2, .complex .f64 px py, .complex .f64 qx qy, .string ⟨tx.toArray⟩, .int .i64 tn] 51)) (Nat.le_refl _) k os
  go_wp2_with fail
  go_ret
  exact ⟨by rw [HT.out]; first | done | rfl, bt D0 B1⟩
theorem zw_strt (tx : List UInt8) (tn : Int) (hx : tx.length ≤ 65536) (h0 : 0 ≤ tn) (h1 : tn ≤ 65535) (px py qx qy : Nat) (w : World) (hE : Env w)(hq : tx.contains 34 = true) :
    Calls Tryz.prog 46 #[.agg #[.int .u8 4, .complex .f64 px py, .complex .f64 qx qy, .string ⟨tx.toArray⟩, .int .i64 tn]] w fun e w' => e = .returned (.string ⟨(txtT ⟨4, tx, tn⟩).toArray⟩) ∧ Below w.heap.size w w' := by
  have hsc := fun w a x y m => store_cx (P := Tryz.prog) w a .f64 x y m
  have HT : Hid (txtT ⟨4, tx, tn⟩ = 39 :: (tx ++ [39])) := Lib.hid (by show (if tx.contains 34 then _ else _) = _; rw [hq]; rfl)
  have D0 := below_new w (.cells #[.int .u8 4, .complex .f64 px py, .complex .f64 qx qy, .string ⟨tx.toArray⟩, .int .i64 tn] 51)
  have HC := fun w => Tryz.strings_Contains_one ⟨tx.toArray⟩ 34 w
  rw [show (⟨tx.toArray⟩ : ByteArray).data.toList = tx by simp, ind_mem, hq] at HC
  have hsz : (⟨tx.toArray⟩ : ByteArray).size ≤ 65536 := by rw [size_of_lit]; exact hx
  have HX : Hid ((⟨#[39]⟩ : ByteArray) ++ ⟨tx.toArray⟩ ++ ⟨#[39]⟩ = ⟨(39 :: (tx ++ [39])).toArray⟩) := Lib.hid (by rw [bcat, bcat_end]; first | done | rfl)
  generalize (⟨tx.toArray⟩ : ByteArray) = t at HC HX hsz D0 ⊢
  clear hE
  go_enter Tryz.func46, Tryz.ntmps46
  go_wp2_with fail
  refine (HC _).mono ?_
  rintro e w1 ⟨rfl, rfl⟩
  go_wp2_with fail
  go_ret
  exact ⟨by rw [HT.out, ← HX.out]; first | done | rfl, D0⟩
theorem zw_strf (tx : List UInt8) (tn : Int) (hx : tx.length ≤ 65536) (h0 : 0 ≤ tn) (h1 : tn ≤ 65535) (px py qx qy : Nat) (w : World) (hE : Env w)(hq : tx.contains 34 = false) :
    Calls Tryz.prog 46 #[.agg #[.int .u8 4, .complex .f64 px py, .complex .f64 qx qy, .string ⟨tx.toArray⟩, .int .i64 tn]] w fun e w' => e = .returned (.string ⟨(txtT ⟨4, tx, tn⟩).toArray⟩) ∧ Below w.heap.size w w' := by
  have hsc := fun w a x y m => store_cx (P := Tryz.prog) w a .f64 x y m
  have HT : Hid (txtT ⟨4, tx, tn⟩ = 34 :: (tx ++ [34])) := Lib.hid (by show (if tx.contains 34 then _ else _) = _; rw [hq]; rfl)
  have D0 := below_new w (.cells #[.int .u8 4, .complex .f64 px py, .complex .f64 qx qy, .string ⟨tx.toArray⟩, .int .i64 tn] 51)
  have HC := fun w => Tryz.strings_Contains_one ⟨tx.toArray⟩ 34 w
  rw [show (⟨tx.toArray⟩ : ByteArray).data.toList = tx by simp, ind_mem, hq] at HC
  have hsz : (⟨tx.toArray⟩ : ByteArray).size ≤ 65536 := by rw [size_of_lit]; exact hx
  have HX : Hid ((⟨#[34]⟩ : ByteArray) ++ ⟨tx.toArray⟩ ++ ⟨#[34]⟩ = ⟨(34 :: (tx ++ [34])).toArray⟩) := Lib.hid (by rw [bcat, bcat_end]; first | done | rfl)
  generalize (⟨tx.toArray⟩ : ByteArray) = t at HC HX hsz D0 ⊢
  clear hE
  go_enter Tryz.func46, Tryz.ntmps46
  go_wp2_with fail
  refine (HC _).mono ?_
  rintro e w1 ⟨rfl, rfl⟩
  go_wp2_with fail
  go_ret
  exact ⟨by rw [HT.out, ← HX.out]; first | done | rfl, D0⟩
theorem own_below {w w' : World} {B e size : Nat} {v : Value} {n : Nat} {xs : List Value} (h : w.ownsRow B e size v n xs) (hb : Below w.heap.size w w') : w'.ownsRow B e size v n xs := by
  obtain ⟨h1, h2⟩ := h
  refine ⟨h1, ?_⟩
  rcases h2 with h2 | ⟨g, cap, cur, e1, e2, e3, e4, e5, e6, e7⟩
  · exact .inl h2
  · exact .inr ⟨g, cap, cur, e1, e2, (hb.block g (lt_of_heap e3)).trans e3, e4, e5, e6, e7⟩
theorem bld_below {B b : Nat} {bs : List Value} {w w' : World} (h : Lib.IsBuilder 65 5 B b bs w) (hb : Below w.heap.size w w') : Lib.IsBuilder 65 5 B b bs w' := by
  rcases h with ⟨h1, v, h2, h3, h4⟩ | ⟨h1, v, h2, h3, h4⟩
  · exact .inl ⟨h1, v, (hb.block b (lt_of_heap h2)).trans h2, own_below h3 hb, h4⟩
  · exact .inr ⟨h1, v, (hb.block b (lt_of_heap h2)).trans h2, own_below h3 hb, h4⟩
/-- Tokens as a source, from the i-th on. -/
def joinD : Nat → List T0 → List UInt8
  | _, [] => []
  | i, t :: r => (if t.k = 0 then [] else (if i = 0 then [] else [32]) ++ txtT t) ++ joinD (i + 1) r
theorem joinD_more : ∀ (l : List T0) (i : Nat), (∀ t ∈ l, tokOk t) → joinD (i + 1) l = if l = [] then [] else 32 :: joinT l
  | [], i, _ => rfl
  | t :: r, i, h => by
    obtain ⟨h1, h2⟩ := tok_txt t (h t (by simp))
    unfold joinD
    rw [if_neg h1, if_neg (by omega), joinD_more r (i + 1) (fun x hx => h x (List.mem_cons_of_mem t hx)), if_neg (List.cons_ne_nil t r), show joinT (t :: r) = if r = [] then txtT t else txtT t ++ 32 :: joinT r from rfl]
    by_cases hr : r = []
    · rw [if_pos hr, if_pos hr]; simp
    · rw [if_neg hr, if_neg hr]; simp
theorem joinD_app : ∀ (l : List T0) (i : Nat) (t : T0), t.k = 0 → joinD i (l ++ [t]) = joinD i l
  | [], i, t, h => by show joinD i [t] = []; unfold joinD; rw [if_pos h]; rfl
  | a :: r, i, t, h => by
    show joinD i (a :: (r ++ [t])) = joinD i (a :: r)
    unfold joinD
    rw [joinD_app r (i + 1) t h]
/-- What Join writes of a source's tokens. -/
theorem joinD_end (l : List T0) (t : T0) (ht : t.k = 0) (h : ∀ t ∈ l, tokOk t) : joinD 0 (l ++ [t]) = joinT l := by
  rw [joinD_app l 0 t ht]
  cases l with
  | nil => rfl
  | cons a r =>
    obtain ⟨h1, h2⟩ := tok_txt a (h a (by simp))
    unfold joinD
    rw [if_neg h1, if_pos rfl, joinD_more r 0 (fun x hx => h x (List.mem_cons_of_mem a hx)), show joinT (a :: r) = if r = [] then txtT a else txtT a ++ 32 :: joinT r from rfl]
    by_cases hr : r = []
    · rw [if_pos hr, if_pos hr]; simp
    · rw [if_neg hr, if_neg hr]; simp
/-- A token is written so. -/
def Writes (w : World) (t : T0) : Prop := (txtT t).length ≤ 65542 ∧ ∀ (w' : World) (px py qx qy : Nat), Below w.heap.size w w' →
  Calls Tryz.prog 46 #[.agg #[.int .u8 t.k, .complex .f64 px py, .complex .f64 qx qy, .string ⟨t.x.toArray⟩, .int .i64 t.n]] w' fun e w'' => e = .returned (.string ⟨(txtT t).toArray⟩) ∧ Below w'.heap.size w' w''
theorem zJoin_any (l : List TK) (hl : l.length ≤ 16385) (v : Value) (B0 : Nat) (w : World) (hown : OwnT w B0 v l) (hok : ∀ x ∈ l, x.1.k ≠ 0 → Writes w x.1) :
    Calls Tryz.prog 14 #[v] w fun e w' => e = .returned (.string ⟨(joinD 0 (l.map (·.1))).toArray⟩) ∧ Below w.heap.size w w' := by
  have hsc := fun w a x y m => store_cx (P := Tryz.prog) w a .f64 x y m
  obtain ⟨p, cap, hvv⟩ := own_form2 hown
  subst hvv
  have HOW := Lib.hid hown
  have HOK := Lib.hid hok
  clear hown hok
  have hb0 : Lib.IsBuilder 65 5 w.heap.size w.heap.size (Lib.byteCells []) (w.alloc (.cells #[.pointer none, .slice none 0 0] 65)) := Lib.fresh_isBuilder _ _ w
  have D0 := below_new w (.cells #[.pointer none, .slice none 0 0] 65)
  have HB := Lib.hid hb0
  clear hb0
  go_enter Tryz.func14, Tryz.ntmps14
  go_wp2_with fail
  go_loopw [8] (fun i wr => ∃ (k : Nat) (acc : List UInt8), i = .int .i64 k ∧ k ≤ l.length ∧ joinD 0 (l.map (·.1)) = acc ++ joinD k ((l.map (·.1)).drop k) ∧ Lib.IsBuilder 65 5 w.heap.size w.heap.size (Lib.byteCells acc) wr ∧ Below w.heap.size w wr ∧ acc.length ≤ k * 65543)
    (fun i _ => l.length - (intOf i).toNat)
  case atStart => exact ⟨0, [], rfl, by omega, by simp, HB.out, D0, by simp⟩
  case round =>
    clear D0 HB
    obtain ⟨k, acc, rfl, hk, hj, hb, hbel, hal⟩ := hrel
    have hsz := hbel.size
    by_cases hlt : k < l.length
    · have hx : l[k]? = some l[k] := List.getElem?_eq_getElem hlt
      obtain ⟨x, hxe⟩ : ∃ x, l[k] = x := ⟨_, rfl⟩
      rw [hxe] at hx
      obtain ⟨g, cap', hvv, hg1, hg2, c0, c1, c2, c3, c4⟩ := (HOW.out.below hbel).at k x hx
      obtain rfl : p = some ⟨g, 0, none⟩ := by injection hvv
      have hdrop : (l.map (·.1)).drop k = x.1 :: (l.map (·.1)).drop (k + 1) := by
        have h1 : (l.map (·.1))[k]? = some x.1 := by rw [List.getElem?_map, hx]; rfl
        have h2 : k < (l.map (·.1)).length := by rw [List.length_map]; exact hlt
        rw [List.drop_eq_getElem_cons h2]
        rw [List.getElem?_eq_getElem h2] at h1
        rw [Option.some.inj h1]
      rw [hdrop] at hj
      obtain ⟨x1, y1, e1⟩ := posV_two x.2.1.1 x.2.1.2
      obtain ⟨x2, y2, e2⟩ := posV_two x.2.2.1 x.2.2.2
      rw [e1] at c1
      rw [e2] at c2
      have hwr := HOK.out x (List.mem_of_getElem? hx)
      obtain ⟨t, ht⟩ : ∃ t, x.1 = t := ⟨_, rfl⟩
      rw [ht] at hj hwr c0 c3 c4
      have D1 := below_new wr (.cells #[.int .u8 t.k, .complex .f64 x1 y1, .complex .f64 x2 y2, .string ⟨t.x.toArray⟩, .int .i64 t.n] 51)
      have F1 := Fv.new wr (.int .u8 t.k) (.complex .f64 x1 y1) (.complex .f64 x2 y2) (.string ⟨t.x.toArray⟩) (.int .i64 t.n) 51 wr.heap.size rfl
      have hb1 := bld_below hb D1
      have hbo := hb
      have hbel1 := hbel.trans (D1.mono hsz)
      have hs1 : wr.heap.size < (wr.alloc (.cells #[.int .u8 t.k, .complex .f64 x1 y1, .complex .f64 x2 y2, .string ⟨t.x.toArray⟩, .int .i64 t.n] 51)).heap.size := by simp
      clear hvv hdrop e1 e2 hx hxe ht hb hbel
      by_cases h0 : t.k = 0
      · have hq : ((t.k : Int) == 0) = true := by rw [h0]; rfl
        have HJ : Hid (joinD 0 (l.map (·.1)) = acc ++ joinD (k + 1) ((l.map (·.1)).drop (k + 1))) := Lib.hid (by
          rw [hj]
          conv => lhs; rw [joinD]
          rw [if_pos h0]; rfl)
        have hcast : ((t.k : Nat) : Int) = 0 := by omega
        rw [hcast] at hb1 hbel1
        have HB1 := Lib.hid hb1
        have HL1 := Lib.hid hbel1
        clear hj hb1 hbel1 D1 F1 hwr hbo
        go_wp2_with fail
        go_roundw
        case rel => exact ⟨k + 1, acc, by simp, by omega, HJ.out, HB1.out, HL1.out, Nat.le_trans hal (Nat.mul_le_mul_right _ (Nat.le_succ k))⟩
        case measure => simp [intOf]; omega
      · have hq : ((t.k : Int) == 0) = false := beq_eq_false_iff_ne.2 (by omega)
        obtain ⟨htl, hW⟩ := hwr h0
        have hacc : acc.length ≤ 1073921555 := by
          have : k * 65543 ≤ 16385 * 65543 := Nat.mul_le_mul_right _ (by omega)
          omega
        have ed : (⟨(txtT t).toArray⟩ : ByteArray).size = (txtT t).length := size_of_lit _
        have estr : Lib.strCells ⟨(txtT t).toArray⟩ = Lib.byteCells (txtT t) := rfl
        have HF1 := Lib.hid F1
        have hkk : acc.length + 1 + (txtT t).length ≤ (k + 1) * 65543 := by rw [Nat.add_mul]; omega
        by_cases hk0 : k = 0
        · subst hk0
          have HJ : Hid (joinD 0 (l.map (·.1)) = (acc ++ txtT t) ++ joinD (0 + 1) ((l.map (·.1)).drop (0 + 1))) := Lib.hid (by
            rw [hj]
            conv => lhs; rw [joinD]
            rw [if_neg h0, if_pos rfl]; simp)
          clear hj F1 D1 hbo
          go_upto_region 8 with fail
          generalize wr.alloc (.cells #[.int .u8 t.k, .complex .f64 x1 y1, .complex .f64 x2 y2, .string ⟨t.x.toArray⟩, .int .i64 t.n] 51) = w1 at HF1 hb1 hbel1 hs1 ⊢
          have g0 := HF1.out.c0
          have g1 := HF1.out.c1
          have g2 := HF1.out.c2
          have g3 := HF1.out.c3
          have g4 := HF1.out.c4
          have HWr := hW w1 x1 y1 x2 y2 hbel1
          clear hW
          go_wp2_with fail
          refine HWr.mono ?_
          rintro e w2 ⟨rfl, B2⟩
          clear HWr
          have hb2 := bld_below hb1 B2
          have hbel2 := hbel1.trans (B2.mono hbel1.size)
          have HS := bld_str w.heap.size w.heap.size (Lib.byteCells acc) ⟨(txtT t).toArray⟩ w2 hb2 (by rw [Lib.byteCells_length, ed]; omega) hbel2.size
          go_wp2_with fail
          refine HS.mono ?_
          rintro e w3 ⟨rfl, hb3, B3⟩
          clear HS g0 g1 g2 g3 g4 c0 c1 c2 c3 c4
          go_wp2_with fail
          go_roundw
          case rel => exact ⟨0 + 1, acc ++ txtT t, by simp, by omega, HJ.out, .inr (by rw [estr] at hb3; simpa [Lib.byteCells] using hb3), hbel2.trans B3, by rw [List.length_append]; omega⟩
          case measure => simp [intOf]; omega
        · have hki : (0 : Int) < (k : Int) := by omega
          have HJ : Hid (joinD 0 (l.map (·.1)) = (acc ++ 32 :: txtT t) ++ joinD (k + 1) ((l.map (·.1)).drop (k + 1))) := Lib.hid (by
            rw [hj]
            conv => lhs; rw [joinD]
            rw [if_neg h0, if_neg hk0]; simp)
          clear hj F1 D1
          have HO1 := World.alloc_heap_new wr (.cells #[.int .u8 t.k, .complex .f64 x1 y1, .complex .f64 x2 y2, .string ⟨t.x.toArray⟩, .int .i64 t.n] 51)
          have hbne : wr.heap.size ≠ w.heap.size := by rcases hbo with h | h <;> (have := h.lt; omega)
          clear hbo
          go_upto_region 7 with fail
          generalize wr.alloc (.cells #[.int .u8 t.k, .complex .f64 x1 y1, .complex .f64 x2 y2, .string ⟨t.x.toArray⟩, .int .i64 t.n] 51) = w1 at HF1 hb1 hbel1 hs1 HO1 ⊢
          have HY := bld_byte w.heap.size w.heap.size (Lib.byteCells acc) 32 w1 hb1 (by rw [Lib.byteCells_length]; omega) hbel1.size
          go_wp2_with fail
          refine HY.mono ?_
          rintro e w1' ⟨rfl, hb1', B1', hsp⟩
          clear HY
          have hO2 := hsp _ _ HO1 hbne (fun cs fr h => by cases h)
          have F2 := HF1.out.same (hO2.trans HO1.symm)
          have g0 := F2.c0
          have g1 := F2.c1
          have g2 := F2.c2
          have g3 := F2.c3
          have g4 := F2.c4
          have hbel1' := hbel1.trans B1'
          have HWr := hW w1' x1 y1 x2 y2 hbel1'
          clear hW HO1 hO2
          go_wp2_with fail
          refine HWr.mono ?_
          rintro e w2 ⟨rfl, B2⟩
          clear HWr
          have hb2 := bld_below (.inr hb1') B2
          have hbel2 := hbel1'.trans (B2.mono hbel1'.size)
          have HS := bld_str w.heap.size w.heap.size (Lib.byteCells acc ++ [.int .u8 32]) ⟨(txtT t).toArray⟩ w2 hb2 (by rw [List.length_append, Lib.byteCells_length, ed]; simp; omega) hbel2.size
          go_wp2_with fail
          refine HS.mono ?_
          rintro e w3 ⟨rfl, hb3, B3⟩
          clear HS g0 g1 g2 g3 g4 c0 c1 c2 c3 c4
          go_wp2_with fail
          go_roundw
          case rel => exact ⟨k + 1, acc ++ 32 :: txtT t, by simp, by omega, HJ.out, .inr (by rw [estr] at hb3; simpa [Lib.byteCells] using hb3), hbel2.trans B3, by rw [List.length_append, List.length_cons]; omega⟩
          case measure => simp [intOf]; omega
    · have hke : k = l.length := by omega
      have hdn : (l.map (·.1)).drop k = [] := List.drop_of_length_le (by rw [List.length_map]; omega)
      have HT : Hid (joinD 0 (l.map (·.1)) = acc) := Lib.hid (by rw [hj, hdn]; simp [joinD])
      have HS := Tryz.Builder_String_any w.heap.size w.heap.size acc wr hb hsz
      have hnl : ¬ (k : Int) < (l.length : Int) := by omega
      go_wp2_with fail
      refine HS.mono ?_
      rintro e w3 ⟨rfl, B3⟩
      go_wp2_with fail
      go_ret
      exact ⟨by rw [HT.out]; first | done | rfl, hbel.trans B3⟩
end Go.Proofs.YtliebhpddjbjeaaGreatDoor
/- LzP -/
namespace Go.Proofs.YtliebhpddjbjeaaGreatDoor
open Go.RowKit
set_option maxHeartbeats 2000000
set_option maxRecDepth 100000
set_option linter.unusedVariables false

theorem tw_whole (p : UInt8 → Bool) : ∀ l : List UInt8, decide ((l.takeWhile p).length = l.length) = l.all p
  | [] => rfl
  | c :: r => by
    cases hc : p c
    · rw [List.takeWhile_cons, if_neg (by rw [hc]; decide), List.all_cons, hc]; rfl
    · rw [List.takeWhile_cons, if_pos hc, List.all_cons, hc, ← tw_whole p r]
      simp
theorem zName_any (s : ByteArray) (hs : s.size ≤ 1048576) (w : World) :
    Calls Tryz.prog 12 #[.string s] w fun e w' => e = .returned (.bool (nameB s.data.toList)) ∧ w' = w := by
  have hem := empty_test s
  have HD : Hid (nameB s.data.toList = (!s.data.toList.isEmpty && decide (s.data.toList.length ≤ 32) && (s.data.toList.take 1).all isLt && !wordB s.data.toList && s.data.toList.all isAn)) := Lib.hid rfl
  by_cases h0 : s.size = 0
  · rw [decide_eq_true h0] at hem
    have HT : Hid (nameB s.data.toList = false) := Lib.hid (by
      have : s.data.toList = [] := List.length_eq_zero_iff.1 (by rw [bytes_of]; exact h0)
      rw [this]; rfl)
    go_enter Tryz.func12, Tryz.ntmps12
    go_wp2_with fail
    go_ret
    exact ⟨by rw [HT.out]; first | done | rfl, rfl⟩
  · rw [decide_eq_false h0] at hem
    have h0' : 0 < s.size := by omega
    by_cases h32 : 32 < s.size
    · have HT : Hid (nameB s.data.toList = false) := Lib.hid (by
        rw [HD.out, bytes_of, decide_eq_false (by omega : ¬ s.size ≤ 32)]; simp)
      have hq : decide ((s.size : Int) ≤ 32) = false := decide_eq_false (by omega)
      clear HD
      go_enter Tryz.func12, Tryz.ntmps12
      go_wp2_with fail
      go_ret
      exact ⟨by rw [HT.out]; first | done | rfl, rfl⟩
    · obtain ⟨r, hr⟩ := byte_cons s h0'
      have hq : decide ((s.size : Int) ≤ 32) = true := decide_eq_true (by omega)
      have hq2 : (s.size : Int) ≤ 32 := by omega
      have hx0 : (0 : Int) < (s.size : Int) := by omega
      have HL := fun w => zletter_any s[0] w
      have HC := fun w => count_name s hs w
      have HW := fun w => zWord_any s w
      have hall := tw_whole isAn s.data.toList
      rw [bytes_of] at hall
      have hpre : (s.data.toList.takeWhile isAn).length ≤ s.size := by rw [← bytes_of]; exact (List.takeWhile_prefix _).length_le
      obtain ⟨c, hc⟩ : ∃ c, s[0] = c := ⟨_, rfl⟩
      rw [hc] at HL hr
      have HD2 : Hid (nameB s.data.toList = (isLt c && !wordB s.data.toList && s.data.toList.all isAn)) := Lib.hid (by
        have h2 : s.data.toList.length ≤ 32 := by rw [bytes_of]; omega
        rw [HD.out, decide_eq_true h2]
        rw [hr]
        simp)
      clear HD hr
      cases hl : isLt c
      · rw [hl] at HL HD2
        clear HC HW hall
        go_enter Tryz.func12, Tryz.ntmps12
        go_wp2_with fail
        refine (HL _).mono ?_
        rintro e w1 ⟨rfl, rfl⟩
        go_wp2_with fail
        go_ret
        exact ⟨by rw [HD2.out]; simp, rfl⟩
      · rw [hl] at HL HD2
        cases ha : s.data.toList.all isAn
        · rw [ha] at hall HD2
          have hne : (((s.data.toList.takeWhile isAn).length : Int) == (s.size : Int)) = false := by
            rw [beq_eq_false_iff_ne]; have := of_decide_eq_false hall; omega
          generalize (s.data.toList.takeWhile isAn).length = m at HC hne
          clear HW hall ha
          go_enter Tryz.func12, Tryz.ntmps12
          go_wp2_with fail
          refine (HL _).mono ?_
          rintro e w1 ⟨rfl, rfl⟩
          go_wp2_with fail
          refine (HC _).mono ?_
          rintro e w1 ⟨rfl, rfl⟩
          go_wp2_with fail
          go_ret
          exact ⟨by rw [HD2.out]; simp, rfl⟩
        · rw [ha] at hall HD2
          have hee := of_decide_eq_true hall
          rw [hee] at HC
          clear hall ha
          cases hz : wordB s.data.toList
          all_goals
            rw [hz] at HW HD2
            go_enter Tryz.func12, Tryz.ntmps12
            go_wp2_with fail
            refine (HL _).mono ?_
            rintro e w1 ⟨rfl, rfl⟩
            clear HL
            go_wp2_with fail
            refine (HC _).mono ?_
            rintro e w1 ⟨rfl, rfl⟩
            clear HC
            go_wp2_with fail
            refine (HW _).mono ?_
            rintro e w1 ⟨rfl, rfl⟩
            go_wp2_with fail
            go_ret
            exact ⟨by rw [HD2.out]; first | done | rfl, rfl⟩
def srcA : List UInt8 := [97, 58, 61, 48, 70, 70, 72, 32, 40, 42, 32, 98, 32, 42, 41]
theorem scanA : scanS 0 srcA = ([(⟨1, [97], 0⟩, 0, 1), (⟨5, [58, 61], 0⟩, 1, 3), (⟨2, [], 255⟩, 3, 7)], 15, 0) := by kernel_rfl
theorem scanB : scanS 0 [49, 46, 46, 50] = ([(⟨2, [], 1⟩, 0, 1), (⟨5, [46, 46], 0⟩, 1, 3), (⟨2, [], 2⟩, 3, 4)], 4, 0) := by kernel_rfl
theorem scanC : scanS 0 [32, 57, 66] = ([], 1, 41) := by kernel_rfl
theorem posB : goB 1 1 (([32, 57, 66] : List UInt8).take 1) = (1, 2) := by kernel_rfl
theorem joinA (a b c d : TK) (h : a.1 = ⟨1, [97], 0⟩) (h1 : b.1 = ⟨5, [58, 61], 0⟩) (h2 : c.1 = ⟨2, [], 255⟩) (h3 : d.1.k = 0) : joinD 0 ([a, b, c, d].map (·.1)) = [97, 32, 58, 61, 32, 50, 53, 53] := by
  have e : Lib.decDigits 255 = [50, 53, 53] := by kernel_rfl
  simp [joinD, h, h1, h2, h3, txtT, e]
theorem scan_is_ok (s : ByteArray) (hs : s.size ≤ 16384) (S : List UInt8) (L : List (T0 × Nat × Nat)) (off : Nat) (hS : s.data.toList = S) (h : scanS 0 S = (L, off, 0)) (w : World) (hE : Env w) :
    Calls Tryz.prog 32 #[.string s] w fun e w' => ∃ v, e = .returned (.tuple #[v, .complex .f64 0 0, .int .i64 0]) ∧ Below w.heap.size w w' ∧ OwnT w' w.heap.size v (L.map (plOf S) ++ [endT S off]) := by
  refine (zScan_any s hs w hE).mono ?_
  rintro e w1 ⟨v, at1, rfl, B1, hP⟩
  rw [hS, h] at hP
  rw [hS, h]
  rcases hP with ⟨_, rfl, O1⟩ | ⟨h, _⟩
  · exact ⟨v, rfl, B1, O1⟩
  · exact absurd rfl h
theorem scan_is_err (s : ByteArray) (hs : s.size ≤ 16384) (S : List UInt8) (L : List (T0 × Nat × Nat)) (off : Nat) (x : Int) (hx : x ≠ 0) (hS : s.data.toList = S) (h : scanS 0 S = (L, off, x)) (w : World) (hE : Env w) :
    Calls Tryz.prog 32 #[.string s] w fun e w' => e = .returned (.tuple #[.slice none 0 0, posV (goB 1 1 (S.take off)).1 (goB 1 1 (S.take off)).2, .int .i64 x]) ∧ Below w.heap.size w w' := by
  refine (zScan_any s hs w hE).mono ?_
  rintro e w1 ⟨v, at1, rfl, B1, hP⟩
  rw [hS, h] at hP
  rw [hS, h]
  rcases hP with ⟨h, _⟩ | ⟨_, rfl, rfl⟩
  · exact absurd h hx
  · exact ⟨rfl, B1⟩
/-- The document's examples hold. -/
theorem zworks_any (w : World) (hE : Env w) :
    Calls Tryz.prog 8 #[] w fun e w' => e = .returned (.bool true) ∧ Below w.heap.size w w' := by
  have S1 := fun w' hb => scan_is_ok ⟨#[97, 58, 61, 48, 70, 70, 72, 32, 40, 42, 32, 98, 32, 42, 41]⟩ (by decide) srcA _ _ rfl scanA w' (hE.below hb)
  have S2 := fun w' hb => scan_is_ok ⟨#[49, 46, 46, 50]⟩ (by decide) _ _ _ rfl scanB w' (hE.below hb)
  have S3 := fun w' hb => scan_is_err ⟨#[32, 57, 66]⟩ (by decide) _ _ _ 41 (by decide) rfl scanC w' (hE.below hb)
  rw [posB] at S3
  have HO := fun w => Of_any 1 2 (by omega) (by omega) (by omega) (by omega) w
  have HW1 := fun w => zWord_any ⟨#[69, 78, 68]⟩ w
  have HW2 := fun w => zWord_any ⟨#[101, 110, 100]⟩ w
  have HN := fun w => zName_any ⟨#[101, 110, 100]⟩ (by decide) w
  rw [show wordB (⟨#[69, 78, 68]⟩ : ByteArray).data.toList = true by kernel_rfl] at HW1
  rw [show wordB (⟨#[101, 110, 100]⟩ : ByteArray).data.toList = false by kernel_rfl] at HW2
  rw [show nameB (⟨#[101, 110, 100]⟩ : ByteArray).data.toList = true by kernel_rfl] at HN
  have HQ := fun t w => eql_pos (P := Tryz.prog) 1 2 1 2 t w
  rw [show pEq 1 2 1 2 = true by decide] at HQ
  obtain ⟨x, y, exy⟩ := posV_two 1 2
  rw [exy] at HO HQ
  have HW := fun w' (hb : Below w.heap.size w w') => hE.below hb
  clear hE
  go_enter Tryz.func8, Tryz.ntmps8
  go_wp2_with fail
  refine (S1 _ (Below.refl _ _)).mono ?_
  rintro e w1 ⟨v, rfl, B1, O1⟩
  clear S1
  go_wp2_with fail
  refine (S2 _ B1).mono ?_
  rintro e w2 ⟨v2, rfl, B2, O2⟩
  clear S2
  go_wp2_with fail
  refine (S3 _ (bt B1 B2)).mono ?_
  rintro e w3 ⟨rfl, B3⟩
  clear S3
  rw [exy]
  have O1' := (O1.below B2).below B3
  have O2' := O2.below B3
  have hb3 := bt (bt B1 B2) B3
  obtain ⟨g, cap, rfl, _, _, _, _, _, a3, _⟩ := O1'.at 0 _ rfl
  obtain ⟨g', cap', e1, _, _, _, _, _, b3, _⟩ := O1'.at 1 _ rfl
  obtain ⟨rfl, rfl⟩ : g = g' ∧ cap = cap' := by injection e1 with e1 _ e2; injection e1 with e1; injection e1 with e1; exact ⟨e1, e2⟩
  obtain ⟨g', cap', e1, _, _, _, _, _, _, c4⟩ := O1'.at 2 _ rfl
  obtain ⟨rfl, rfl⟩ : g = g' ∧ cap = cap' := by injection e1 with e1 _ e2; injection e1 with e1; injection e1 with e1; exact ⟨e1, e2⟩
  obtain ⟨g', cap', e1, _, _, d0, _, _, _, _⟩ := O1'.at 3 _ rfl
  obtain ⟨rfl, rfl⟩ : g = g' ∧ cap = cap' := by injection e1 with e1 _ e2; injection e1 with e1; injection e1 with e1; exact ⟨e1, e2⟩
  obtain ⟨h, kap, rfl, _, _, _, _, _, m3, _⟩ := O2'.at 1 _ rfl
  have HJ := zJoin_any _ (by decide) _ _ w3 O1' (fun x hx hk => by
    have E3 := HW w3 hb3
    simp only [List.map_cons, List.map_nil, List.cons_append, List.nil_append, List.mem_cons, List.not_mem_nil, or_false] at hx
    rcases hx with rfl | rfl | rfl | rfl
    · exact ⟨by decide, fun w' px py qx qy hb => zw_plain1 [97] 0 (by decide) (by omega) (by omega) px py qx qy w' (E3.below hb)⟩
    · exact ⟨by decide, fun w' px py qx qy hb => zw_plain5 [58, 61] 0 (by decide) (by omega) (by omega) px py qx qy w' (E3.below hb)⟩
    · exact ⟨by rw [show txtT (plOf srcA (⟨2, [], 255⟩, 3, 7)).1 = [50, 53, 53] by kernel_rfl]; decide, fun w' px py qx qy hb => zw_num [] 255 (by decide) (by omega) (by omega) px py qx qy w' (E3.below hb)⟩
    · exact absurd rfl hk)
  have hjj := joinA (plOf srcA (⟨1, [97], 0⟩, 0, 1)) (plOf srcA (⟨5, [58, 61], 0⟩, 1, 3)) (plOf srcA (⟨2, [], 255⟩, 3, 7)) (endT srcA 15) rfl rfl rfl rfl
  have a3' : w3.cell? ⟨g, 3, none⟩ = some (.string ⟨#[97]⟩) := a3
  have b3' : w3.cell? ⟨g, 8, none⟩ = some (.string ⟨#[58, 61]⟩) := b3
  have c4' : w3.cell? ⟨g, 14, none⟩ = some (.int .i64 255) := c4
  have d0' : w3.cell? ⟨g, 15, none⟩ = some (.int .u8 0) := d0
  have m3' : w3.cell? ⟨h, 8, none⟩ = some (.string ⟨#[46, 46]⟩) := m3
  have HJ2 : Calls Tryz.prog 14 #[.slice (some ⟨g, 0, none⟩) 4 cap] w3 fun e w' => e = .returned (.string ⟨#[97, 32, 58, 61, 32, 50, 53, 53]⟩) ∧ Below w3.heap.size w3 w' := by
    refine HJ.mono ?_
    rintro e w4 ⟨rfl, B4⟩
    refine ⟨?_, B4⟩
    show Ending.returned (Value.string ⟨(joinD 0 ([plOf srcA (⟨1, [97], 0⟩, 0, 1), plOf srcA (⟨5, [58, 61], 0⟩, 1, 3), plOf srcA (⟨2, [], 255⟩, 3, 7), endT srcA 15].map (·.1))).toArray⟩) = _
    rw [hjj]
  clear HJ hjj O1 O2 O1' O2' a3 b3 c4 d0 m3 HW e1 exy
  go_wp2_with fail
  refine (HO _).mono ?_
  rintro e w4 ⟨rfl, rfl⟩
  clear HO
  go_wp2_with fail
  refine (HW1 _).mono ?_
  rintro e w4 ⟨rfl, rfl⟩
  clear HW1
  go_wp2_with fail
  refine (HW2 _).mono ?_
  rintro e w4 ⟨rfl, rfl⟩
  clear HW2
  go_wp2_with fail
  refine (HN _).mono ?_
  rintro e w4 ⟨rfl, rfl⟩
  clear HN
  go_wp2_with fail
  refine HJ2.mono ?_
  rintro e w5 ⟨rfl, B4⟩
  clear HJ2
  go_wp2_with fail
  go_ret
  exact ⟨rfl, bt hb3 B4⟩
end Go.Proofs.YtliebhpddjbjeaaGreatDoor
/- FmB -/
namespace Go.Proofs.YtliebhpddjbjeaaGreatDoor
open Go.RowKit
set_option maxHeartbeats 2000000
set_option maxRecDepth 100000
set_option linter.unusedVariables false

theorem octD1 (u : Nat) (h : u < 8) : octD u = [UInt8.ofNat (48 + u)] := by
  rw [octD]; simp [h]
theorem octD2 (u : Nat) (h : 8 ≤ u) : octD u = octD (u / 8) ++ [UInt8.ofNat (48 + u % 8)] := by
  rw [octD]; simp [Nat.not_lt.2 h]
theorem fbits (u : Nat) (h : u ≤ 511) (w : World) (hE : Env w) :
    Calls Tryz.prog 120 #[.slice none 0 0, .int .u64 (u : Int), .int .i64 8, .bool false, .bool false] w fun e w' => e = .returned (.tuple #[.slice none 0 0, .string ⟨(octD u).toArray⟩]) ∧ Below w.heap.size w w' := by
  by_cases h8 : u < 8
  · rw [octD1 u h8]; exact fb1 u h8 w hE.tz
  · by_cases h64 : u < 64
    · have := fb2 u (u / 8) (u % 8) (by omega) (by omega) (by omega) (and7 u (by omega)) (by omega) (by omega) h64 w hE.tz
      rw [octD2 u (by omega), octD1 (u / 8) (by omega)]
      exact this
    · have := fb3 u (u / 8) (u / 8 / 8) (u / 8 % 8) (u % 8) (by omega) (by omega) (by omega) (by omega) (and7 u (by omega)) (and7 (u / 8) (by omega)) (by omega) (by omega) (by omega) (by omega) (by omega) (by omega) w hE.tz
      rw [octD2 u (by omega), octD2 (u / 8) (by omega), octD1 (u / 8 / 8) (by omega)]
      exact this
theorem ifmt8 (u : Nat) (h : u ≤ 511) (w : World) (hE : Env w) :
    Calls Tryz.prog 96 #[.int .i64 (u : Int), .int .i64 8] w fun e w' => e = .returned (.string ⟨(octD u).toArray⟩) ∧ Below w.heap.size w w' := by
  have HF := fun w h' => fbits u h w h'
  go_enter Tryz.func96, Tryz.ntmps96
  go_wp2_with fail
  refine (HF _ hE).mono ?_
  rintro e w1 ⟨rfl, B1⟩
  go_wp2_with fail
  go_ret
  exact ⟨rfl, B1⟩
theorem fmt8 (u : Nat) (h : u ≤ 511) (w : World) (hE : Env w) :
    Calls Tryz.prog 76 #[.int .i64 (u : Int), .int .i64 8] w fun e w' => e = .returned (.string ⟨(octD u).toArray⟩) ∧ Below w.heap.size w w' := by
  have HF := fun w h' => ifmt8 u h w h'
  go_enter Tryz.func76, Tryz.ntmps76
  go_wp2_with fail
  refine (HF _ hE).mono ?_
  rintro e w1 ⟨rfl, B1⟩
  go_wp2_with fail
  go_ret
  exact ⟨rfl, B1⟩
theorem zw_char (tx : List UInt8) (tn : Int) (hx : tx.length ≤ 65536) (h0 : 0 ≤ tn) (h1 : tn ≤ 65535) (px py qx qy : Nat) (w : World) (hE : Env w)(h2 : tn ≤ 511) :
    Calls Tryz.prog 46 #[.agg #[.int .u8 3, .complex .f64 px py, .complex .f64 qx qy, .string ⟨tx.toArray⟩, .int .i64 tn]] w fun e w' => e = .returned (.string ⟨(txtT ⟨3, tx, tn⟩).toArray⟩) ∧ Below w.heap.size w w' := by
  have hsc := fun w a x y m => store_cx (P := Tryz.prog) w a .f64 x y m
  have HT : Hid (txtT ⟨3, tx, tn⟩ = octD tn.toNat ++ [67]) := Lib.hid (by rfl)
  have D0 := below_new w (.cells #[.int .u8 3, .complex .f64 px py, .complex .f64 qx qy, .string ⟨tx.toArray⟩, .int .i64 tn] 51)
  have HF := fun w' hb => fmt8 tn.toNat (by omega) w' (hE.below hb)
  rw [Int.toNat_of_nonneg h0] at HF
  have HX := Lib.hid (bcat_end (octD tn.toNat) 67)
  have hsz : (⟨(octD tn.toNat).toArray⟩ : ByteArray).size ≤ 6 := by rw [size_of_lit]; exact oct_short8 5 tn.toNat (by omega)
  generalize (⟨(octD tn.toNat).toArray⟩ : ByteArray) = t at HF HX hsz
  clear hE
  go_enter Tryz.func46, Tryz.ntmps46
  go_wp2_with fail
  refine (HF _ D0).mono ?_
  rintro e w1 ⟨rfl, B1⟩
  go_wp2_with fail
  go_ret
  exact ⟨by rw [HT.out, ← HX.out]; first | done | rfl, bt D0 B1⟩

end Go.Proofs.YtliebhpddjbjeaaGreatDoor
/- LzX -/
namespace Go.Proofs.YtliebhpddjbjeaaGreatDoor
open Go.RowKit
set_option maxHeartbeats 2000000
set_option maxRecDepth 100000
set_option linter.unusedVariables false

theorem writes_any (t : T0) (ht : tokOk t) (hl : (txtT t).length ≤ 65536) (w : World) (hE : Env w) : Writes w t := by
  have hf := tok_fits t ht hl
  have htl := txt_len t hf
  refine ⟨htl, fun w' px py qx qy hb => ?_⟩
  have E1 := hE.below hb
  obtain ⟨h0, h1, hx⟩ := hf
  obtain ⟨k, x, n⟩ := t
  rcases ht with ⟨hk, _, _⟩ | ⟨hk, _, _⟩ | ⟨hk, _, _, _⟩ | ⟨hk, _, _, h255⟩ | ⟨hk, _, _, _⟩ | ⟨hk, _, _⟩ <;> (simp only at hk; subst hk)
  · exact zw_plain1 x n hx h0 h1 px py qx qy w' E1
  · exact zw_plain6 x n hx h0 h1 px py qx qy w' E1
  · exact zw_num x n hx h0 h1 px py qx qy w' E1
  · exact zw_char x n hx h0 h1 px py qx qy w' E1 (by simp only at h255; omega)
  · cases hq : x.contains 34
    · exact zw_strf x n hx h0 h1 px py qx qy w' E1 hq
    · exact zw_strt x n hx h0 h1 px py qx qy w' E1 hq
  · exact zw_plain5 x n hx h0 h1 px py qx qy w' E1
/-- A source's tokens, each at its place, with the end. -/
theorem all_map (S : List UInt8) (L : List (T0 × Nat × Nat)) (off : Nat) : (L.map (plOf S) ++ [endT S off]).map (·.1) = L.map (·.1) ++ [⟨0, [], 0⟩] := by
  rw [List.map_append, List.map_map]; rfl
/-- What Join writes of a source's tokens. -/
theorem zjoin_scan (S : List UInt8) (hS : S.length ≤ 16384) (L : List (T0 × Nat × Nat)) (off : Nat) (hL : ∀ x ∈ L, tokOk x.1) (hf : ∀ x ∈ L, (txtT x.1).length ≤ 3 * S.length) (hc : L.length ≤ S.length) (v : Value) (B0 : Nat) (w : World) (hE : Env w) (hown : OwnT w B0 v (L.map (plOf S) ++ [endT S off])) :
    Calls Tryz.prog 14 #[v] w fun e w' => e = .returned (.string ⟨(joinT (L.map (·.1))).toArray⟩) ∧ Below w.heap.size w w' := by
  have := zJoin_any _ (by simp; omega) v B0 w hown (fun x hx hk => by
    rcases List.mem_append.1 hx with hx | hx
    · obtain ⟨y, hy, rfl⟩ := List.mem_map.1 hx
      exact writes_any _ (hL y hy) (by have := hf y hy; show (txtT y.1).length ≤ _; omega) w hE
    · obtain rfl := List.mem_singleton.1 hx
      exact absurd rfl hk)
  rw [all_map, joinD_end _ ⟨0, [], 0⟩ rfl (fun t ht => by obtain ⟨y, hy, rfl⟩ := List.mem_map.1 ht; exact hL y hy)] at this
  exact this
end Go.Proofs.YtliebhpddjbjeaaGreatDoor
/- LzZ -/
namespace Go.Proofs.YtliebhpddjbjeaaGreatDoor
open Go.RowKit
set_option maxHeartbeats 2000000
set_option maxRecDepth 100000
set_option linter.unusedVariables false

theorem words_big (s t : ByteArray) (h : 1024 < s.size ∨ 4096 < t.size) (w : World) (hE : Env w) :
    Calls Tryz.prog 3 #[.string s, .string t] w fun e w' => e = .returned (.bool true) ∧ Below w.heap.size w w' := by
  have HW := zworks_any w hE
  clear hE
  by_cases hq : (1024 : Int) < (s.size : Int)
  · go_enter Tryz.func3, Tryz.ntmps3
    go_wp2_with fail
    refine HW.mono ?_
    rintro e w1 ⟨rfl, B1⟩
    go_wp2_with fail
    go_ret
    exact ⟨rfl, B1⟩
  · have hq2 : (4096 : Int) < (t.size : Int) := by omega
    clear h
    go_enter Tryz.func3, Tryz.ntmps3
    go_wp2_with fail
    refine HW.mono ?_
    rintro e w1 ⟨rfl, B1⟩
    go_wp2_with fail
    go_ret
    exact ⟨rfl, B1⟩
theorem words_core (s t j : ByteArray) (h1 : s.size ≤ 1024) (h2 : t.size ≤ 4096) (A : List TK) (x y : Nat) (z : Int) (w : World) (hE : Env w)
    (H1 : Calls Tryz.prog 9 #[.string t] w fun e w' => ∃ v, e = .returned (.tuple #[v, .complex .f64 x y, .int .i64 z]) ∧ Below w.heap.size w w' ∧ (z = 0 → OwnT w' w.heap.size v A))
    (hA : z ≠ 0 → A = [])
    (H2 : ∀ w' v B0, Below w.heap.size w w' → OwnT w' B0 v A → Calls Tryz.prog 14 #[v] w' fun e w'' => e = .returned (.string j) ∧ Below w'.heap.size w' w'')
    (H3 : ∀ w' v B0, Below w.heap.size w w' → OwnT w' B0 v A → Calls Tryz.prog 15 #[v] w' fun e w'' => e = .returned (.string j) ∧ Below w'.heap.size w' w'') :
    Calls Tryz.prog 3 #[.string s, .string t] w fun e w' => e = .returned (.bool true) ∧ Below w.heap.size w w' := by
  have hq1 : ¬ (1024 : Int) < (s.size : Int) := by omega
  have hq2 : ¬ (4096 : Int) < (t.size : Int) := by omega
  have HW := fun w' hb => zworks_any w' (hE.below hb)
  have hs : (j.toList == j.toList) = true := beq_self_eq_true _
  have hwd : (wordB s.data.toList == wordB s.data.toList) = true := beq_self_eq_true _
  have hnm : (nameB s.data.toList == nameB s.data.toList) = true := beq_self_eq_true _
  have Z1 := fun w => zWord_any s w
  have Z2 := fun w => Word_any s w
  have Z3 := fun w => zName_any s (by omega) w
  have Z4 := fun w => Name_any s (by omega) w
  generalize wordB s.data.toList = wb at Z1 Z2 hwd
  generalize nameB s.data.toList = nb at Z3 Z4 hnm
  clear hE
  have fin : ∀ w1 v, Below w.heap.size w w1 → OwnT w1 w.heap.size v A → True := fun _ _ _ _ => trivial
  by_cases hz : z = 0
  · have hz1 : (z != 0) = false := by rw [hz]; rfl
    have HZ := Lib.hid hz
    clear hz hA
    go_enter Tryz.func3, Tryz.ntmps3
    go_wp2_with fail
    refine H1.mono ?_
    rintro e w1 ⟨v1, rfl, B1, O1⟩
    have O1 := O1 HZ.out
    clear H1
    go_wp2_with fail
    refine (Z1 _).mono ?_
    rintro e w2 ⟨rfl, rfl⟩
    go_wp2_with fail
    refine (Z2 _).mono ?_
    rintro e w3 ⟨rfl, B3⟩
    have b3 := bt B1 B3
    go_wp2_with fail
    refine (Z3 _).mono ?_
    rintro e w4 ⟨rfl, rfl⟩
    go_wp2_with fail
    refine (Z4 _).mono ?_
    rintro e w5 ⟨rfl, B5⟩
    have b5 := bt b3 B5
    have O5 := (O1.below B3).below B5
    have HJ := H2 _ v1 _ b5 O5
    clear H2
    go_wp2_with fail
    refine HJ.mono ?_
    rintro e w6 ⟨rfl, B6⟩
    have b6 := bt b5 B6
    have HK := H3 _ v1 _ b6 (O5.below B6)
    clear HJ H3
    go_wp2_with fail
    refine HK.mono ?_
    rintro e w7 ⟨rfl, B7⟩
    have b7 := bt b6 B7
    have HW7 := HW _ b7
    clear HK HW
    go_wp2_with fail
    refine HW7.mono ?_
    rintro e w8 ⟨rfl, B8⟩
    go_wp2_with fail
    go_ret
    exact ⟨rfl, bt b7 B8⟩
  · have hz1 : (z != 0) = true := bne_iff_ne.2 hz
    have hA := Lib.hid (hA hz)
    clear hz
    go_enter Tryz.func3, Tryz.ntmps3
    go_wp2_with fail
    refine H1.mono ?_
    rintro e w1 ⟨v1, rfl, B1, _⟩
    have O0 : ∀ W, OwnT W 0 (.slice none 0 0) A := fun W => by rw [hA.out]; exact World.ownsRow_nil _ _ _ _
    clear H1
    go_wp2_with fail
    refine (Z1 _).mono ?_
    rintro e w2 ⟨rfl, rfl⟩
    go_wp2_with fail
    refine (Z2 _).mono ?_
    rintro e w3 ⟨rfl, B3⟩
    have b3 := bt B1 B3
    go_wp2_with fail
    refine (Z3 _).mono ?_
    rintro e w4 ⟨rfl, rfl⟩
    go_wp2_with fail
    refine (Z4 _).mono ?_
    rintro e w5 ⟨rfl, B5⟩
    have b5 := bt b3 B5
    have HJ := H2 _ _ _ b5 (O0 _)
    clear H2
    go_wp2_with fail
    refine HJ.mono ?_
    rintro e w6 ⟨rfl, B6⟩
    have b6 := bt b5 B6
    have HK := H3 _ _ _ b6 (O0 _)
    clear HJ H3
    go_wp2_with fail
    refine HK.mono ?_
    rintro e w7 ⟨rfl, B7⟩
    have b7 := bt b6 B7
    have HW7 := HW _ b7
    clear HK HW
    go_wp2_with fail
    refine HW7.mono ?_
    rintro e w8 ⟨rfl, B8⟩
    go_wp2_with fail
    go_ret
    exact ⟨rfl, bt b7 B8⟩
theorem words_any (s t : ByteArray) (w : World) (hE : Env w) :
    Calls Tryz.prog 3 #[.string s, .string t] w fun e w' => e = .returned (.bool true) ∧ Below w.heap.size w w' := by
  by_cases h1 : 1024 < s.size
  · exact words_big s t (.inl h1) w hE
  by_cases h2 : 4096 < t.size
  · exact words_big s t (.inr h2) w hE
  obtain ⟨S, hS⟩ : ∃ S, t.data.toList = S := ⟨_, rfl⟩
  have hlen : S.length = t.size := by rw [← hS, Array.length_toList]; rfl
  obtain ⟨k1, _, _, _, _, _, _, _⟩ := scan_ok _ S 0 (Nat.le_refl _)
  have hfit := scan_fits _ S 0 (Nat.le_refl _)
  have hcnt := scan_cnt _ S 0 (Nat.le_refl _)
  have H1 := scan_any t (by omega) w
  rw [hS] at H1
  unfold ScanPost at H1
  rcases hq : scanS 0 S with ⟨L, off, z⟩
  rw [hq] at k1 hfit hcnt H1
  simp only at k1 hfit hcnt H1
  have hJ : ((L.map (plOf S) ++ [endT S off]).map (·.1)).foldl jn [] = joinT (L.map (·.1)) := by
    rw [all_map, jn_end _ _ rfl (fun t ht => by obtain ⟨y, hy, rfl⟩ := List.mem_map.1 ht; exact k1 y hy)]
  have hok : allOk (L.map (plOf S) ++ [endT S off]) := by
    intro x hx
    rcases List.mem_append.1 hx with hx | hx
    · obtain ⟨y, hy, rfl⟩ := List.mem_map.1 hx
      exact ⟨tok_fits _ (k1 y hy) (by have := hfit y hy; show (txtT y.1).length ≤ _; omega), fun _ => (tok_txt _ (k1 y hy)).2⟩
    · obtain rfl := List.mem_singleton.1 hx
      exact ⟨⟨Int.le_refl _, by show (0 : Int) ≤ 65535; omega, Nat.zero_le _⟩, fun h => absurd rfl h⟩
  by_cases hz : z = 0
  · refine words_core s t ⟨(joinT (L.map (·.1))).toArray⟩ (by omega) (by omega) (L.map (plOf S) ++ [endT S off]) 0 0 z w hE (H1.mono ?_) (fun h => absurd hz h) (fun w' v B0 hb ho => zjoin_scan S (by omega) L off k1 hfit hcnt v B0 w' (hE.below hb) ho) (fun w' v B0 hb ho => ?_)
    · rintro e w1 ⟨v, at1, rfl, B1, h | h⟩
      · exact ⟨v, by rw [h.2.1], B1, fun _ => h.2.2⟩
      · exact absurd hz h.1
    · have := Join_any (L.map (plOf S) ++ [endT S off]) (by simp; omega) hok v w' B0 ho
      rw [hJ] at this; exact this
  · obtain ⟨x, y, hxy⟩ := posV_two (goB 1 1 (S.take off)).1 (goB 1 1 (S.take off)).2
    refine words_core s t ⟨([] : List UInt8).toArray⟩ (by omega) (by omega) [] x y z w hE (H1.mono ?_) (fun _ => rfl) (fun w' v B0 hb ho => ?_) (fun w' v B0 hb ho => ?_)
    · rintro e w1 ⟨v, at1, rfl, B1, h | h⟩
      · exact absurd h.1 hz
      · exact ⟨v, by rw [h.2.2, hxy], B1, fun h0 => absurd h0 hz⟩
    · exact zJoin_any [] (by simp) v B0 w' ho (fun x hx => by cases hx)
    · exact Join_any [] (by simp) (fun x hx => by cases hx) v w' B0 ho
end Go.Proofs.YtliebhpddjbjeaaGreatDoor
