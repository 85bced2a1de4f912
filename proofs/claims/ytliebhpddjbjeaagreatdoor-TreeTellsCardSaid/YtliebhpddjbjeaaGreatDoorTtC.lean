/- Several texts in one. -/
import Derived.Test.YtliebhpddjbjeaaGreatDoorRuB
import Derived.Test.YtliebhpddjbjeaaGreatDoorBkA
import Derived.Test.YtliebhpddjbjeaaGreatDoorTrO
/- TreeTells, walked. -/
namespace Go.Proofs.YtliebhpddjbjeaaGreatDoor
open Go.RowKit
set_option maxHeartbeats 4000000
set_option maxRecDepth 100000
set_option linter.unusedVariables false
set_option linter.unusedSimpArgs false

/-- What is known of a tree that was grown, or of none. -/
def OkO (w : World) (o : Option Tr) : Prop := ∀ t, o = some t → IsT w (fun _ => True) t ∧ t.nodes.Nodup ∧ t.cnt ≤ 200 ∧ OkT t ∧ (textT t).length ≤ 838200
theorem OkO.below {w w' : World} {o : Option Tr} (h : OkO w o) (hb : Below w.heap.size w w') : OkO w' o := fun t ht => ⟨(h t ht).1.below hb, (h t ht).2⟩
def sameO : Option Tr → Option Tr → Bool
  | some a, some b => sameT a b
  | none, none => true
  | _, _ => false
theorem isT_node {w : World} {P : Nat → Prop} {t : Tr} (h : IsT w P t) : ∃ v, w.heap[t.p]? = some (nodeO t.d v) := by
  obtain ⟨q, cap, h1, _⟩ := ist_node h
  exact ⟨_, h1⟩
theorem h_same (w : World) (a b : Option Tr) (ha : OkO w a) (hb : OkO w b) (hd : ∀ t u, a = some t → b = some u → ∀ p ∈ t.nodes, p ∉ u.nodes) :
    ∀ w', Below w.heap.size w w' → Calls Tryz.prog 19 #[encP (a.map Tr.p), encP (b.map Tr.p)] w' fun e w'' => e = .returned (.bool (sameO a b)) ∧ Below w'.heap.size w' w'' := fun w' hB => by
  have ha := ha.below hB
  have hb := hb.below hB
  rcases a with _ | t <;> rcases b with _ | u <;> simp only [Option.map_none, Option.map_some, encP, ptrV, sameO]
  · exact Same_nn w'
  · obtain ⟨v, hv⟩ := isT_node (hb u rfl).1
    exact Same_ns w' u.p u.d v (lt_heap hv) hv
  · obtain ⟨v, hv⟩ := isT_node (ha t rfl).1
    exact Same_sn w' t.p t.d v (lt_heap hv) hv
  · obtain ⟨a1, a2, a3, _⟩ := ha t rfl
    have h := Same_tree w' t u a1 (hb u rfl).1 a2 (hd t u rfl rfl) (by omega)
    simp only [ptrV] at h
    exact h
theorem h_rsame (w : World) (a b : Option Tr) (ha : OkO w a) (hb : OkO w b) :
    ∀ w', Below w.heap.size w w' → Calls Tryz.prog 20 #[encP (a.map Tr.p), encP (b.map Tr.p)] w' fun e w'' => e = .returned (.bool (sameO a b)) ∧ Below w'.heap.size w' w'' := fun w' hB => by
  have ha := ha.below hB
  have hb := hb.below hB
  rcases a with _ | t <;> rcases b with _ | u <;> simp only [Option.map_none, Option.map_some, encP, ptrV, sameO]
  · exact rSame_nn w'
  · exact rSame_ns w' u.p
  · exact rSame_sn w' t.p
  · have h := rSame_any t.cnt t u w' (Nat.le_refl _) (ha t rfl).1 (hb u rfl).1
    simp only [ptrV] at h
    exact h
theorem h_copy (w : World) (a : Option Tr) (ha : OkO w a) :
    ∀ w', Below w.heap.size w w' → Calls Tryz.prog 21 #[encP (a.map Tr.p)] w' fun e w'' => ∃ c : Option Tr, e = .returned (encP (c.map Tr.p)) ∧ Below w'.heap.size w' w'' ∧
      ∀ w3, Below w''.heap.size w'' w3 → Calls Tryz.prog 19 #[encP (a.map Tr.p), encP (c.map Tr.p)] w3 fun e w4 => e = .returned (.bool true) ∧ Below w3.heap.size w3 w4 := fun w' hB => by
  have ha := ha.below hB
  rcases a with _ | t
  · have h := rCopy_nil w'
    simp only [Option.map_none, encP]
    refine h.mono ?_
    rintro e w1 ⟨rfl, B1⟩
    exact ⟨none, rfl, B1, fun w3 _ => Same_nn w3⟩
  · obtain ⟨a1, a2, a3, _⟩ := ha t rfl
    have h := rCopy_any t.cnt t w' (Nat.le_refl _) (by omega) a1
    simp only [Option.map_some, encP]
    refine h.mono ?_
    rintro e w1 ⟨u, rfl, B1, h1, h2, h3⟩
    refine ⟨some u, rfl, B1, fun w3 B3 => ?_⟩
    have hs := Same_tree w3 t u ((a1.below B1).below B3) (h1.below B3) a2 (fun p hp hq => by
      have x1 := (IsT.lt a1 p hp).1
      have x2 := (IsT.lt h1 p hq).2
      omega) (by omega)
    rw [sim_same t u (sim_dt t u h3)] at hs
    exact hs
theorem h_count (w : World) (a : Option Tr) (ha : OkO w a) : ∃ n : Int, (∀ w', Below w.heap.size w w' → Calls Tryz.prog 22 #[encP (a.map Tr.p)] w' fun e w'' => e = .returned (.int .i64 n) ∧ Below w'.heap.size w' w'') ∧
    ∀ w', Below w.heap.size w w' → Calls Tryz.prog 23 #[encP (a.map Tr.p)] w' fun e w'' => e = .returned (.int .i64 n) ∧ Below w'.heap.size w' w'' := by
  rcases a with _ | t
  · exact ⟨0, fun w' _ => Count_nil w', fun w' _ => rCount_nil w'⟩
  · obtain ⟨a1, a2, a3, _⟩ := ha t rfl
    exact ⟨t.cnt, fun w' hB => Count_any w' t (a1.below hB) a2 (by omega), fun w' hB => rCount_any t.cnt t w' (Nat.le_refl _) (by omega) (a1.below hB)⟩
theorem h_deep (w : World) (a : Option Tr) (ha : OkO w a) : ∃ n : Int, (∀ w', Below w.heap.size w w' → Calls Tryz.prog 24 #[encP (a.map Tr.p)] w' fun e w'' => e = .returned (.int .i64 n) ∧ Below w'.heap.size w' w'') ∧
    ∀ w', Below w.heap.size w w' → Calls Tryz.prog 25 #[encP (a.map Tr.p)] w' fun e w'' => e = .returned (.int .i64 n) ∧ Below w'.heap.size w' w'' := by
  rcases a with _ | t
  · exact ⟨0, fun w' _ => Deep_nil w', fun w' _ => rDeep_nil w'⟩
  · obtain ⟨a1, a2, a3, _⟩ := ha t rfl
    exact ⟨t.deep, fun w' hB => Deep_any w' t (a1.below hB) a2 (by omega), fun w' hB => rDeep_any t.cnt t w' (Nat.le_refl _) (by omega) (a1.below hB)⟩
theorem h_text (w : World) (hE : Env w) (a : Option Tr) (ha : OkO w a) : ∃ s : ByteArray, (∀ w', Below w.heap.size w w' → Calls Tryz.prog 26 #[encP (a.map Tr.p)] w' fun e w'' => e = .returned (.string s) ∧ Below w'.heap.size w' w'') ∧
    ∀ w', Below w.heap.size w w' → Calls Tryz.prog 27 #[encP (a.map Tr.p)] w' fun e w'' => e = .returned (.string s) ∧ Below w'.heap.size w' w'' := by
  rcases a with _ | t
  · exact ⟨⟨#[]⟩, fun w' _ => tText_nil w', fun w' _ => rText_nil w'⟩
  · obtain ⟨a1, a2, a3, a4, a5⟩ := ha t rfl
    exact ⟨⟨(textT t).toArray⟩, fun w' hB => tText_any w' (hE.below hB) t (a1.below hB) a2 (by omega) a4 (by omega), fun w' hB => rText_any t.cnt t w' (Nat.le_refl _) (a1.below hB) a4 (by omega)⟩
theorem encP_ptr (o : Option Nat) : ∃ x, encP o = .pointer x := by cases o <;> exact ⟨_, rfl⟩
end Go.Proofs.YtliebhpddjbjeaaGreatDoor
/- TreeTells, walked. -/
namespace Go.Proofs.YtliebhpddjbjeaaGreatDoor
open Go.RowKit
set_option maxHeartbeats 4000000
set_option maxRecDepth 100000
set_option linter.unusedVariables false
set_option linter.unusedSimpArgs false

theorem grown_ok {ps : List PC} {w w' : World} {o : Option Tr} {n deep : Nat} (hok : ∀ p ∈ ps, OkC p) (hL : ps.length ≤ 200) (hs : sumX ps ≤ 4096) (hn : n ≤ ps.length)
    (h : ∀ t, o = some t → IsT w' (w.heap.size ≤ ·) t ∧ t.nodes.Nodup ∧ t.cnt = n ∧ t.deep ≤ deep ∧ AllD (FromP ps) t) : OkO w' o := fun t ht => by
  obtain ⟨h1, h2, h3, h4, h5⟩ := h t ht
  have h6 : AllD OkN t := h5.mono (fun d hd => fromP_ok hok hs hd)
  have h7 := text_bound t h6
  have h8 : t.cnt * 4191 ≤ 200 * 4191 := Nat.mul_le_mul_right _ (by omega)
  exact ⟨h1.keep (fun _ _ _ => trivial) (fun _ _ _ => rfl), h2, by omega, allD_okT t h6, by omega⟩
theorem tells_any (ps qs : List PC) (v u : Value) (w : World) (hp : PcL w v ps) (hok : ∀ p ∈ ps, OkC p) (hq : PcL w u qs) (hok2 : ∀ p ∈ qs, OkC p) (hE : Env w) :
    Calls Tryz.prog 4 #[v, u] w fun e w' => e = .returned (.bool true) ∧ Below w.heap.size w w' := by
  have HH := heavy_any ps v w hp hok
  have HE := Lib.hid hE
  have HP := Lib.hid (And.intro hp (And.intro hok (And.intro hq hok2)))
  clear hp hok hq hok2 hE
  go_enter Tryz.func4, Tryz.ntmps4
  go_wp2_with fail
  refine HH.mono ?_
  rintro e w1 ⟨b, rfl, B1, hsm⟩
  have HB1 := Lib.hid B1
  clear HH B1
  cases b with
  | true =>
    clear hsm
    have HW := works_any w1 (HE.out.below HB1.out)
    go_wp2_with fail
    refine HW.mono ?_
    rintro e w2 ⟨rfl, B2⟩
    have HB2 := Lib.hid (HB1.out.trans (B2.mono HB1.out.size))
    clear B2 HW
    go_wp2_with fail
    go_ret
    exact ⟨rfl, HB2.out⟩
  | false =>
  have HS1 := Lib.hid (hsm rfl)
  clear hsm
  have HH2 := heavy_any qs u w1 (HP.out.2.2.1.below HB1.out) HP.out.2.2.2
  go_wp2_with fail
  refine HH2.mono ?_
  rintro e w2 ⟨b2, rfl, B2, hsm⟩
  have HB2 := Lib.hid (HB1.out.trans (B2.mono HB1.out.size))
  clear HH2 B2
  cases b2 with
  | true =>
    clear hsm
    have HW := works_any w2 (HE.out.below HB2.out)
    go_wp2_with fail
    refine HW.mono ?_
    rintro e w3 ⟨rfl, B3⟩
    have HB3 := Lib.hid (HB2.out.trans (B3.mono HB2.out.size))
    clear B3 HW
    go_wp2_with fail
    go_ret
    exact ⟨rfl, HB3.out⟩
  | false =>
  have HS2 := Lib.hid (hsm rfl)
  clear hsm
  have HG := Grow_any 20 ps v w2 (HP.out.1.below HB2.out) HP.out.2.1 (by have := HS1.out.1; omega) (by decide)
  rw [show ((20 : Nat) : Int) = 20 from rfl] at HG
  go_wp2_with fail
  refine HG.mono ?_
  rintro e w3 ⟨oa, n3, rfl, B3, hn3, ht3⟩
  have HB3 := Lib.hid (HB2.out.trans (B3.mono HB2.out.size))
  have HOA := Lib.hid (grown_ok HP.out.2.1 HS1.out.1 HS1.out.2 hn3 ht3)
  clear HG B3 ht3 hn3
  have HG2 := Grow_any 20 qs u w3 (HP.out.2.2.1.below HB3.out) HP.out.2.2.2 (by have := HS2.out.1; omega) (by decide)
  rw [show ((20 : Nat) : Int) = 20 from rfl] at HG2
  obtain ⟨xa, hxa⟩ := encP_ptr (oa.map Tr.p)
  rw [hxa]
  have HXA := Lib.hid hxa
  clear hxa
  go_wp2_with fail
  refine HG2.mono ?_
  rintro e w4 ⟨ob, n4, rfl, B4, hn4, ht4⟩
  obtain ⟨xb, hxb⟩ := encP_ptr (ob.map Tr.p)
  rw [hxb]
  have HB4 := Lib.hid (HB3.out.trans (B4.mono HB3.out.size))
  have hA := HOA.out.below B4
  have hB := grown_ok HP.out.2.2.2 HS2.out.1 HS2.out.2 hn4 ht4
  have hd : ∀ t u, oa = some t → ob = some u → ∀ p ∈ t.nodes, p ∉ u.nodes := fun t u h1 h2 p hp hq => by
    have x1 := (IsT.lt (HOA.out t h1).1 p hp).1
    have x2 := (IsT.lt (ht4 u h2).1 p hq).2
    omega
  have H1 := h_same w4 oa ob hA hB hd
  have H2 := h_rsame w4 oa ob hA hB
  have H3 := h_copy w4 oa hA
  obtain ⟨nc, H5, H6⟩ := h_count w4 oa hA
  obtain ⟨nd, H7, H8⟩ := h_deep w4 oa hA
  obtain ⟨sb, H9, H10⟩ := h_text w4 (HE.out.below HB4.out) oa hA
  rw [HXA.out] at H1 H2 H3 H5 H6 H7 H8 H9 H10
  rw [hxb] at H1 H2
  obtain ⟨r, hr⟩ : ∃ r, sameO oa ob = r := ⟨_, rfl⟩
  rw [hr] at H1 H2
  have K1 := Lib.hid H1
  have K2 := Lib.hid H2
  have K3 := Lib.hid H3
  have K5 := Lib.hid H5
  have K6 := Lib.hid H6
  have K7 := Lib.hid H7
  have K8 := Lib.hid H8
  have K9 := Lib.hid H9
  have K10 := Lib.hid H10
  have hs1 : (sb.toList == sb.toList) = true := by simp
  clear HG2 B4 ht4 hn4 hxb hA hB hd H1 H2 H3 H5 H6 H7 H8 H9 H10 hr
  cases r <;>
  (go_wp2_with fail
   refine (K1.out w4 (Below.refl _ _)).mono ?_
   rintro e w5 ⟨rfl, B⟩
   have C5 := Lib.hid B
   clear B
   go_wp2_with fail
   refine (K2.out w5 C5.out).mono ?_
   rintro e w6 ⟨rfl, B⟩
   have C6 := Lib.hid (C5.out.trans (B.mono C5.out.size))
   clear B
   go_wp2_with fail
   refine (K3.out w6 C6.out).mono ?_
   rintro e w7 ⟨c, rfl, B, H4⟩
   have C7 := Lib.hid (C6.out.trans (B.mono C6.out.size))
   obtain ⟨xc, hxc⟩ := encP_ptr (c.map Tr.p)
   rw [hxc] at H4 ⊢
   have K4 := Lib.hid H4
   clear B H4 hxc
   go_wp2_with fail
   refine (K4.out w7 (Below.refl _ _)).mono ?_
   rintro e w8 ⟨rfl, B⟩
   have C8 := Lib.hid (C7.out.trans (B.mono C7.out.size))
   clear B
   go_wp2_with fail
   refine (K5.out w8 C8.out).mono ?_
   rintro e w9 ⟨rfl, B⟩
   have C9 := Lib.hid (C8.out.trans (B.mono C8.out.size))
   clear B
   go_wp2_with fail
   refine (K6.out w9 C9.out).mono ?_
   rintro e w10 ⟨rfl, B⟩
   have C10 := Lib.hid (C9.out.trans (B.mono C9.out.size))
   clear B
   go_wp2_with fail
   refine (K7.out w10 C10.out).mono ?_
   rintro e w11 ⟨rfl, B⟩
   have C11 := Lib.hid (C10.out.trans (B.mono C10.out.size))
   clear B
   go_wp2_with fail
   refine (K8.out w11 C11.out).mono ?_
   rintro e w12 ⟨rfl, B⟩
   have C12 := Lib.hid (C11.out.trans (B.mono C11.out.size))
   clear B
   go_wp2_with fail
   refine (K9.out w12 C12.out).mono ?_
   rintro e w13 ⟨rfl, B⟩
   have C13 := Lib.hid (C12.out.trans (B.mono C12.out.size))
   clear B
   go_wp2_with fail
   refine (K10.out w13 C13.out).mono ?_
   rintro e w14 ⟨rfl, B⟩
   have C14 := Lib.hid (HB4.out.trans ((C13.out.trans (B.mono C13.out.size)).mono HB4.out.size))
   clear B
   have HW := works_any w14 (HE.out.below C14.out)
   go_wp2_with fail
   refine HW.mono ?_
   rintro e w15 ⟨rfl, B⟩
   have C15 := Lib.hid (C14.out.trans (B.mono C14.out.size))
   clear B HW
   go_wp2_with fail
   go_ret
   exact ⟨rfl, C15.out⟩)
end Go.Proofs.YtliebhpddjbjeaaGreatDoor
