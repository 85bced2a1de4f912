/- The document's example, walked. -/
import Derived.Test.YtbfclibjnanlgaaGreatDoorTrW
namespace Go.Proofs.YtbfclibjnanlgaaGreatDoor
open Go.RowKit
set_option maxHeartbeats 4000000
set_option maxRecDepth 100000
set_option linter.unusedVariables false
set_option linter.unusedSimpArgs false

def tX (p : Nat) : Tr := .node p ⟨1, 1, 1, [97, 98], 0⟩ []
def tY (q p g : Nat) : Tr := .node q ⟨2, 0, 0, [], -3⟩ [tX p, .node g d0 []]
theorem it0 : Lib.itoa 0 = [48] := by unfold Lib.itoa; rw [if_neg (by decide)]; exact dd1 0 (by decide)
theorem it1 : Lib.itoa 1 = [49] := by unfold Lib.itoa; rw [if_neg (by decide)]; exact dd1 1 (by decide)
theorem it2 : Lib.itoa 2 = [50] := by unfold Lib.itoa; rw [if_neg (by decide)]; exact dd1 2 (by decide)
theorem itm3 : Lib.itoa (-3) = [45, 51] := by unfold Lib.itoa; rw [if_pos (by decide)]; rw [show (-3 : Int).natAbs = 3 from rfl, dd1 3 (by decide)]; rfl
theorem tx11 : txtOf 1 1 = [49, 58, 49] := by
  unfold txtOf txt
  rw [show isP 1 1 = true from by decide, if_pos rfl, show (1 : Int).toNat = 1 from rfl, dd1 1 (by decide)]; rfl
theorem tx00 : txtOf 0 0 = [] := by
  unfold txtOf
  rw [show isP 0 0 = false from by decide]; rfl
theorem text_x (p : Nat) : textT (tX p) = [40, 49, 32, 49, 58, 49, 32, 50, 58, 97, 98, 32, 48, 41] := by
  simp [tX, textT, textTL, headT, atT, tx11, it0, it1, it2]
theorem text_y (q p g : Nat) : textT (tY q p g) = [40, 50, 32, 45, 32, 48, 58, 32, 45, 51, 32, 40, 49, 32, 49, 58, 49, 32, 50, 58, 97, 98, 32, 48, 41, 32, 40, 48, 32, 45, 32, 48, 58, 32, 48, 41, 41] := by
  unfold tY
  rw [textT, textTL, text_x]
  simp [textT, textTL, headT, atT, tx00, it0, itm3, it2, d0]
theorem ok_x (p : Nat) : OkT (tX p) := ⟨⟨by decide, by decide, by decide⟩, trivial⟩
theorem ok_y (q p g : Nat) : OkT (tY q p g) := ⟨⟨by decide, by decide, by decide⟩, ok_x p, ⟨⟨by decide, by decide, by decide⟩, trivial⟩, trivial⟩
theorem read_y (q p g : Nat) : readM [40, 50, 32, 45, 32, 48, 58, 32, 45, 51, 32, 40, 49, 32, 49, 58, 49, 32, 50, 58, 97, 98, 32, 48, 41, 32, 40, 48, 32, 45, 32, 48, 58, 32, 48, 41, 41] = .ok (tY q p g).dt.nrm [] (tY q p g).cnt := by
  have h := read_text (tY q p g) (ok_y q p g) (by rw [text_y]; decide) (by simp [tY, tX, Tr.deep, deepL]) (by simp [tY, tX, Tr.cnt, cntL])
  rw [text_y] at h
  exact h
mutual
/-- Where a tree lies, there are blocks. -/
theorem IsT.sized {w : World} {P : Nat → Prop} : ∀ {t : Tr}, IsT w P t → IsT w (· < w.heap.size) t
  | .node p d ks, h => by
    obtain ⟨_, ⟨v, h2, h3⟩, h4⟩ := h
    exact ⟨lt_heap h2, ⟨v, h2, h3.1, fun g hg => (h3.1.lt g hg).2⟩, IsTL.sized h4⟩
theorem IsTL.sized {w : World} {P : Nat → Prop} : ∀ {l : List Tr}, IsTL w P l → IsTL w (· < w.heap.size) l
  | [], _ => trivial
  | t :: r, h => ⟨IsT.sized h.1, IsTL.sized h.2⟩
end
/-- What the second New of the example leaves. -/
theorem two_kids {w1 w2 : World} {q p : Nat} {v : Value} {out : List Tr} {P : Nat → Prop} (h : NS w1 q ⟨2, 0, 0, [], -3⟩ [some (tX p), none] w2 v out) (hT : IsT w1 P (tX p)) :
    ∃ g, IsT w2 (· < w2.heap.size) (tY q p g) ∧ (tY q p g).nodes.Nodup := by
  have hl := h.f.len
  obtain ⟨t0, g1, g2⟩ := h.f.get 0 _ rfl
  obtain ⟨t1, g3, g4⟩ := h.f.get 1 _ rfl
  have e0 : t0 = tX p := by
    rcases g2 with g2 | ⟨g2, _⟩
    · injection g2 with g2; exact g2.symm
    · cases g2
  obtain ⟨g, e1⟩ : ∃ g, t1 = .node g d0 [] := by
    rcases g4 with g4 | ⟨_, g, _, _, g4⟩
    · cases g4
    · exact ⟨g, g4⟩
  have ho : out = [tX p, .node g d0 []] := by
    match out, hl, g1, g3 with
    | [a, b], _, h1, h2 =>
      simp at h1 h2
      rw [h1, h2, e0, e1]
  have ht := h.tree (P := P) (fun t ht => by
    simp at ht
    subst ht
    exact hT)
  have hpl := (IsT.lt hT p (by simp [tX, Tr.nodes])).1
  have hnd := h.f.nodup (by simp [somes, nodesL, tX, Tr.nodes]) (fun j hj => by
    simp [somes, nodesL, tX, Tr.nodes] at hj
    have := h.p
    omega)
  subst ho
  refine ⟨g, ?_, ?_⟩
  · exact IsT.sized ht
  · show (q :: nodesL [tX p, .node g d0 []]).Nodup
    refine List.nodup_cons.2 ⟨fun hm => ?_, hnd.1⟩
    have hq := h.p
    rcases hnd.2 q hm with h1 | ⟨h1, _⟩
    · simp [somes, nodesL, tX, Tr.nodes] at h1; omega
    · omega
theorem works_any (w : World) (hE : Env w) :
    Calls Tryz.prog 5 #[] w fun e w' => e = .returned (.bool true) ∧ Below w.heap.size w w' := by
  have HO := Of_any 1 1 (by decide) (by decide) (by decide) (by decide) w
  have HX := New_any w ⟨1, 1, 1, [97, 98], 0⟩ (.slice none 0 0) [] (by decide) (argL_nil w) (by decide)
  obtain ⟨px, py, hp⟩ := posV_cx 1 1
  simp only at HX
  rw [hp] at HO HX
  clear hp
  have HE := Lib.hid hE
  clear hE
  go_enter Tryz.func5, Tryz.ntmps5
  go_wp2_with fail
  refine HO.mono ?_
  rintro e wz ⟨rfl, rfl⟩
  clear HO
  go_wp2_with fail
  refine HX.mono ?_
  rintro e w1 ⟨p, v, out, rfl, ns⟩
  have hx1 : IsT w1 (wz.heap.size ≤ ·) (tX p) := ns_leaf ns
  have B1 := ns.b
  have hB1 := below_new w1 (.cells #[.pointer (some ⟨p, 0, none⟩), .pointer none] 25)
  have hx2 := hx1.below hB1
  have HY := New_any (w1.alloc (.cells #[.pointer (some ⟨p, 0, none⟩), .pointer none] 25)) ⟨2, 0, 0, [], -3⟩ (.slice (some ⟨w1.heap.size, 0, none⟩) 2 2) [some (tX p), none] (by decide) ⟨_, 2, rfl, fun i o hi => ⟨w1.heap.size, rfl, by simp, by
    match i, hi with
    | 0, hi => simp at hi; subst hi; simp [tX, Tr.p, encP, ptrV]
    | 1, hi => simp at hi; subst hi; simp [encP]⟩⟩ (by simp)
  have HT2 := Lib.hid (And.intro hx2 (B1.trans (hB1.mono B1.size)))
  clear HX ns hx1 B1 hB1 hx2
  simp only [ptrV] at HY ⊢
  rw [posV0] at HY
  go_wp2_with fail
  refine HY.mono ?_
  rintro e w2 ⟨q, v2, out2, rfl, ns⟩
  obtain ⟨g, hy2, hyn⟩ := two_kids ns HT2.out.1
  have hx3 := (HT2.out.1.sized).below ns.b
  have HB2 := Lib.hid (HT2.out.2.trans (ns.b.mono HT2.out.2.size))
  have HXY := Lib.hid (And.intro hx3 (And.intro hy2 hyn))
  have HR := tRead_any w2 (HE.out.below HB2.out) [40, 50, 32, 45, 32, 48, 58, 32, 45, 51, 32, 40, 49, 32, 49, 58, 49, 32, 50, 58, 97, 98, 32, 48, 41, 32, 40, 48, 32, 45, 32, 48, 58, 32, 48, 41, 41] (by decide)
  rw [read_y q p g] at HR
  clear HY ns hy2 hyn hx3
  simp only [ptrV]
  go_wp2_with fail
  refine HR.mono ?_
  rintro e w3 ⟨tr, rfl, B3, hz, hdt, hzn⟩
  have hB3 := HB2.out.trans (B3.mono HB2.out.size)
  have HT := tText_any w3 (HE.out.below hB3) (tX p) (HXY.out.1.below B3) (by simp [tX, Tr.nodes, nodesL]) (by simp [tX, Tr.cnt, cntL]) (ok_x p) (by rw [text_x]; decide)
  rw [text_x] at HT
  have HZ := Lib.hid (And.intro hz (And.intro hdt (And.intro hzn (And.intro B3 hB3))))
  clear HR B3 hz hdt hzn hB3
  simp only [ptrV, show (tX p).p = p from rfl] at HT ⊢
  go_wp2_with fail
  refine HT.mono ?_
  rintro e w4 ⟨rfl, B4⟩
  have B24 := HZ.out.2.2.2.1.trans (B4.mono HZ.out.2.2.2.1.size)
  have hB4 := HZ.out.2.2.2.2.trans (B4.mono HZ.out.2.2.2.2.size)
  have hy4 := HXY.out.2.1.below B24
  have hz4 := HZ.out.1.below B4
  have hs := same_nrm (tY q p g) tr HZ.out.2.1
  have hcn : (tY q p g).cnt = 3 := by simp [tY, tX, Tr.cnt, cntL]
  have hdn : (tY q p g).deep = 2 := by simp [tY, tX, Tr.deep, deepL]
  have HS := Same_tree w4 (tY q p g) tr hy4 hz4 HXY.out.2.2 (fun j hj hm => by
    have h1 := (IsT.lt HXY.out.2.1 j hj).1
    have h2 := (IsT.lt HZ.out.1 j hm).2
    omega) (by omega)
  rw [hs] at HS
  have H4 := Lib.hid (And.intro hB4 hy4)
  have HCD := Lib.hid (And.intro hcn hdn)
  clear HT B4 B24 hB4 hy4 hz4 hs hcn hdn
  simp only [ptrV, show (tY q p g).p = q from rfl] at HS ⊢
  go_wp2_with fail
  refine HS.mono ?_
  rintro e w5 ⟨rfl, B5⟩
  have HC := Count_any w5 (tY q p g) (H4.out.2.below B5) HXY.out.2.2 (by rw [HCD.out.1]; decide)
  rw [HCD.out.1] at HC
  have H5 := Lib.hid (And.intro (H4.out.1.trans (B5.mono H4.out.1.size)) (H4.out.2.below B5))
  clear HS B5
  simp only [ptrV, show (tY q p g).p = q from rfl] at HC ⊢
  go_wp2_with fail
  refine HC.mono ?_
  rintro e w6 ⟨rfl, B6⟩
  have HD := Deep_any w6 (tY q p g) (H5.out.2.below B6) HXY.out.2.2 (by rw [HCD.out.1]; decide)
  rw [HCD.out.2] at HD
  have H6 := Lib.hid (And.intro (H5.out.1.trans (B6.mono H5.out.1.size)) (H5.out.2.below B6))
  clear HC B6
  simp only [ptrV, show (tY q p g).p = q from rfl] at HD ⊢
  go_wp2_with fail
  refine HD.mono ?_
  rintro e w7 ⟨rfl, B7⟩
  have h7 := H6.out.1.trans (B7.mono H6.out.1.size)
  have HT := tText_any w7 (HE.out.below h7) (tY q p g) (H6.out.2.below B7) HXY.out.2.2 (by rw [HCD.out.1]; decide) (ok_y q p g) (by rw [text_y]; decide)
  rw [text_y] at HT
  have H7 := Lib.hid h7
  clear HD B7 h7
  simp only [ptrV, show (tY q p g).p = q from rfl] at HT ⊢
  go_wp2_with fail
  refine HT.mono ?_
  rintro e w8 ⟨rfl, B8⟩
  have H8 := Lib.hid (H7.out.trans (B8.mono H7.out.size))
  clear HT B8
  go_wp2_with fail
  go_ret
  exact ⟨rfl, H8.out⟩
end Go.Proofs.YtbfclibjnanlgaaGreatDoor
