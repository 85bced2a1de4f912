/- Several texts in one. -/
import Derived.Test.YtldecbaaajmmcaaExX
import Derived.Test.YtldecbaaajmmcaaMpA
/- Law 6: bounds of a row, one of the four by its number, and what is heavy. -/
namespace Go.Proofs.Ytldecbaaajmmcaa
open Go.RowKit
set_option maxHeartbeats 2000000
set_option maxRecDepth 100000
set_option linter.unusedVariables false
set_option linter.unusedSimpArgs false

theorem rscan_cnt : ∀ (m : Nat) (s : List UInt8) (off : Nat), s.length ≤ m → (scanS off s).1.length ≤ s.length ∧ ∀ x ∈ (scanS off s).1, x.1.x.length ≤ 3 * s.length
  | _, [], off, _ => by rw [scanS_nil]; exact ⟨Nat.le_refl _, fun x hx => by simp at hx⟩
  | 0, c :: r, off, h => by simp at h
  | m + 1, c :: r, off, h => by
    have hne : (c :: r) ≠ [] := by simp
    have hcl : (c :: r).length = r.length + 1 := rfl
    rcases hq : stp (c :: r) with ⟨o, n, e⟩
    cases o with
    | some t =>
      obtain ⟨k0, k1, k2, k3, k4⟩ := stp_ok _ hne t n e hq
      have hl : ((c :: r).drop n).length = (c :: r).length - n := List.length_drop
      rw [scanS_tok off _ hne t n e hq]
      obtain ⟨g1, g2⟩ := rscan_cnt m ((c :: r).drop n) (off + n) (by omega)
      refine ⟨by simp only [List.length_cons] at g1 ⊢; omega, fun x hx => ?_⟩
      rcases List.mem_cons.1 hx with rfl | hx
      · have hx : t.x.length ≤ (txtT t).length := by
          rcases k0 with h | h | h | h | h | h
          · unfold txtT; rw [if_neg (by omega), if_neg (by omega), if_neg (by omega)]; exact Nat.le_refl _
          · unfold txtT; rw [if_neg (by omega), if_neg (by omega), if_neg (by omega)]; exact Nat.le_refl _
          · rw [h.2.1]; exact Nat.zero_le _
          · rw [h.2.1]; exact Nat.zero_le _
          · unfold txtT; rw [if_neg (by omega), if_neg (by omega), if_pos h.1]; split <;> simp <;> omega
          · unfold txtT; rw [if_neg (by omega), if_neg (by omega), if_neg (by omega)]; exact Nat.le_refl _
        simp only; omega
      · have := g2 x hx; omega
    | none =>
      by_cases he : e = 0
      · subst he
        obtain ⟨k1, k2⟩ := stp_skip _ hne n hq
        have hl : ((c :: r).drop n).length = (c :: r).length - n := List.length_drop
        rw [scanS_skip off _ hne n hq]
        obtain ⟨g1, g2⟩ := rscan_cnt m ((c :: r).drop n) (off + n) (by omega)
        exact ⟨by omega, fun x hx => by have := g2 x hx; omega⟩
      · rw [scanS_err off _ hne n e he hq]
        exact ⟨by simp, fun x hx => by simp at hx⟩
theorem row_len (S : List UInt8) : (rowT S).length ≤ S.length := by
  unfold rowT
  split
  · rw [List.length_map]; exact (rscan_cnt _ S 0 (Nat.le_refl _)).1
  · simp
theorem row_txt (S : List UInt8) (h : S.length ≤ 16384) : ∀ x ∈ rowT S, x.1.x.length ≤ 65536 := fun x hx => by
  unfold rowT at hx
  split at hx
  · obtain ⟨y, hy, rfl⟩ := List.mem_map.1 hx
    have := (rscan_cnt _ S 0 (Nat.le_refl _)).2 y hy
    show y.1.x.length ≤ 65536
    omega
  · simp at hx
theorem RowAt.up {w : World} {B B' : Nat} {v : Value} {ts : List TK} (h : RowAt w B v ts) (hB : B ≤ B') : RowAt w B' v ts := by
  obtain ⟨q, cap, h1, h2⟩ := h
  refine ⟨q, cap, h1, fun i x hx => ?_⟩
  obtain ⟨g, e, hg, r⟩ := h2 i x hx
  exact ⟨g, e, by omega, r⟩
theorem RowC.bel {w w' : World} {v : Value} {ts : List TK} (h : RowC w w.heap.size v ts) (hb : Below w.heap.size w w') : RowC w' w'.heap.size v ts := ⟨(h.1.bel hb).up hb.size, h.2⟩
theorem RowC.cut {w : World} {B : Nat} {v : Value} {ts : List TK} (h : RowC w B v ts) (n : Nat) (hn : n ≤ ts.length) : ∃ q cap, v = .slice q ts.length cap ∧ ts.length ≤ cap ∧ cap ≤ 9223372036854775807 ∧ RowAt w B (.slice q n cap) (ts.take n) := by
  obtain ⟨h1, q, cap, rfl, h2, h3⟩ := h
  have e : ts = ts.take n ++ ts.drop n := (List.take_append_drop n ts).symm
  obtain ⟨q', cap', e1, h4⟩ := RowAt.pre (l := ts.take n) (r := ts.drop n) (by rw [← e]; exact h1)
  rw [← e] at e1
  injection e1 with e2 e3 e4
  subst e2 e4
  rw [List.length_take, Nat.min_eq_left hn] at h4
  exact ⟨q, cap, rfl, h2, h3, h4⟩
theorem rheavy_any (s : ByteArray) (w : World) :
    Calls Try.prog 4 #[.string s] w fun e w' => e = .returned (.bool (decide ((2048 : Int) < (s.size : Int)))) ∧ w' = w := by
  go_enter Try.func4, Try.ntmps4
  go_wp2_with fail
  go_ret
  exact ⟨rfl, rfl⟩
theorem does_any (ts : List TK) (rv : Value) (i k : Nat) (w : World) (hrow : RowAt w w.heap.size rv ts) (hk : k < 4) (hi : i ≤ ts.length) (htl : ts.length ≤ 16384) (htx : ∀ x ∈ ts, x.1.x.length ≤ 65536) :
    Calls Try.prog 7 #[rv, .int .i64 i, .int .i64 k] w (Says w.heap.size w (doM k ts i)) := by
  have hi2 : i ≤ 16384 := by omega
  rcases (by omega : k = 0 ∨ k = 1 ∨ k = 2 ∨ k = 3) with rfl | rfl | rfl | rfl
  · have HC := Expr_any ts rv i w hrow hi2 htl htx
    clear hrow hi hi2 htl htx
    rw [show doM 0 ts i = exprM ts (ts.length + 2) i from rfl]
    go_enter Try.func7, Try.ntmps7
    go_wp2_with fail
    refine HC.mono ?_
    rintro e w1 ⟨hb, ⟨d, j, u, h1, rfl, h3, h4⟩ | ⟨j, h1, rfl⟩⟩
    · have H := Lib.hid (And.intro hb (And.intro h1 (And.intro h3 h4)))
      clear hb h1 h3 h4 HC
      go_wp2_with fail
      go_ret3
      exact ⟨H.out.1, .inl ⟨d, j, u, H.out.2.1, rfl, H.out.2.2⟩⟩
    · have H := Lib.hid (And.intro hb h1)
      clear hb h1 HC
      go_wp2_with fail
      go_ret3
      exact ⟨H.out.1, .inr ⟨j, H.out.2, rfl⟩⟩
  · have HC := Designator_any ts rv i w hrow hi2 htl htx
    clear hrow hi hi2 htl htx
    rw [show doM 1 ts i = desM ts (exprM ts (ts.length + 2)) i from rfl]
    go_enter Try.func7, Try.ntmps7
    go_wp2_with fail
    refine HC.mono ?_
    rintro e w1 ⟨hb, ⟨d, j, u, h1, rfl, h3, h4⟩ | ⟨j, h1, rfl⟩⟩
    · have H := Lib.hid (And.intro hb (And.intro h1 (And.intro h3 h4)))
      clear hb h1 h3 h4 HC
      go_wp2_with fail
      go_ret3
      exact ⟨H.out.1, .inl ⟨d, j, u, H.out.2.1, rfl, H.out.2.2⟩⟩
    · have H := Lib.hid (And.intro hb h1)
      clear hb h1 HC
      go_wp2_with fail
      go_ret3
      exact ⟨H.out.1, .inr ⟨j, H.out.2, rfl⟩⟩
  · have HC := Qualident_any ts rv i w hrow hi2 htl htx
    clear hrow hi hi2 htl htx
    rw [show doM 2 ts i = qualM ts i from rfl]
    go_enter Try.func7, Try.ntmps7
    go_wp2_with fail
    refine HC.mono ?_
    rintro e w1 ⟨hb, ⟨d, j, u, h1, rfl, h3, h4⟩ | ⟨j, h1, rfl⟩⟩
    · have H := Lib.hid (And.intro hb (And.intro h1 (And.intro h3 h4)))
      clear hb h1 h3 h4 HC
      go_wp2_with fail
      go_ret3
      exact ⟨H.out.1, .inl ⟨d, j, u, H.out.2.1, rfl, H.out.2.2⟩⟩
    · have H := Lib.hid (And.intro hb h1)
      clear hb h1 HC
      go_wp2_with fail
      go_ret3
      exact ⟨H.out.1, .inr ⟨j, H.out.2, rfl⟩⟩
  · have HC := Labels_any ts rv i w hrow hi2 htl htx hi
    clear hrow hi hi2 htl htx
    rw [show doM 3 ts i = labM ts (exprM ts (ts.length + 2)) i from rfl]
    go_enter Try.func7, Try.ntmps7
    go_wp2_with fail
    refine HC.mono ?_
    rintro e w1 ⟨hb, ⟨d, j, u, h1, rfl, h3, h4⟩ | ⟨j, h1, rfl⟩⟩
    · have H := Lib.hid (And.intro hb (And.intro h1 (And.intro h3 h4)))
      clear hb h1 h3 h4 HC
      go_wp2_with fail
      go_ret3
      exact ⟨H.out.1, .inl ⟨d, j, u, H.out.2.1, rfl, H.out.2.2⟩⟩
    · have H := Lib.hid (And.intro hb h1)
      clear hb h1 HC
      go_wp2_with fail
      go_ret3
      exact ⟨H.out.1, .inr ⟨j, H.out.2, rfl⟩⟩
end Go.Proofs.Ytldecbaaajmmcaa
/- Law 6: the document's examples. -/
namespace Go.Proofs.Ytldecbaaajmmcaa
open Go.RowKit
set_option maxHeartbeats 2000000
set_option maxRecDepth 100000
set_option linter.unusedVariables false
set_option linter.unusedSimpArgs false

/-- A tree's first node, and the next place. -/
def rootOf : Re → Option (Nat × List UInt8 × Nat)
  | .ok (.node d _) j => some (d.k, d.x, j)
  | _ => none
theorem Says.root {B : Nat} {W0 : World} {res : Re} {e : Ending} {w' : World} (h : Says B W0 res e w') {k : Nat} {x : List UInt8} {j : Nat} (hr : rootOf res = some (k, x, j)) :
    ∃ p d v, e = .returned (.tuple #[ptrV p, .int .i64 j, .int .i64 0]) ∧ Below B W0 w' ∧ w'.heap[p]? = some (nodeO d v) ∧ d.k = k ∧ d.x = x := by
  obtain ⟨hb, ⟨d, i, u, rfl, rfl, hu, hd⟩ | ⟨i, rfl, rfl⟩⟩ := h
  · cases u with
    | node p nd ks =>
      subst hd
      obtain ⟨_, ⟨v, hv, _⟩, _⟩ := hu
      simp only [rootOf, Tr.dt, Option.some.injEq, Prod.mk.injEq] at hr
      obtain ⟨rfl, rfl, rfl⟩ := hr
      exact ⟨p, nd, v, rfl, hb, hv, rfl, rfl⟩
  · simp [rootOf] at hr
theorem Says.err {B : Nat} {W0 : World} {res : Re} {e : Ending} {w' : World} (h : Says B W0 res e w') {j : Nat} (hr : res = .bad j) :
    e = .returned (.tuple #[.pointer none, .int .i64 j, .int .i64 60]) ∧ Below B W0 w' := by
  subst hr
  obtain ⟨hb, ⟨d, i, u, h1, _⟩ | ⟨i, h1, rfl⟩⟩ := h
  · cases h1
  · cases h1
    exact ⟨rfl, hb⟩
def srcE : ByteArray := ⟨#[97, 32, 45, 32, 98, 32, 42, 32, 99]⟩
def srcF : ByteArray := ⟨#[112, 94, 46, 120, 91, 105, 44, 32, 50, 93, 32, 58, 61, 32, 49]⟩
def srcG : ByteArray := ⟨#[40, 97]⟩
theorem exE : rootOf (exprM (rowT srcE.data.toList) ((rowT srcE.data.toList).length + 2) 0) = some (11, [45], 5) := by kernel_rfl
theorem exF : rootOf (desM (rowT srcF.data.toList) (exprM (rowT srcF.data.toList) ((rowT srcF.data.toList).length + 2)) 0) = some (3, [], 9) := by kernel_rfl
theorem exG : exprM (rowT srcG.data.toList) ((rowT srcG.data.toList).length + 2) 0 = .bad 2 := by kernel_rfl
theorem row_at (s : ByteArray) (hs : s.size ≤ 16384) : (rowT s.data.toList).length ≤ 16384 ∧ ∀ x ∈ rowT s.data.toList, x.1.x.length ≤ 65536 := by
  have hlen : s.data.toList.length = s.size := by rw [Array.length_toList]; rfl
  exact ⟨Nat.le_trans (row_len _) (by omega), row_txt _ (by omega)⟩
theorem rworks_any (w : World) :
    Calls Try.prog 5 #[] w fun e w' => e = .returned (.bool true) ∧ Below w.heap.size w w' := by
  have R1 := fun w => Row_any srcE (by decide) w
  have R2 := fun w => Row_any srcF (by decide) w
  have R3 := fun w => Row_any srcG (by decide) w
  have E1 := fun v w h => Expr_any (rowT srcE.data.toList) v 0 w h (by omega) (row_at srcE (by decide)).1 (row_at srcE (by decide)).2
  have E2 := fun v w h => Designator_any (rowT srcF.data.toList) v 0 w h (by omega) (row_at srcF (by decide)).1 (row_at srcF (by decide)).2
  have E3 := fun v w h => Expr_any (rowT srcG.data.toList) v 0 w h (by omega) (row_at srcG (by decide)).1 (row_at srcG (by decide)).2
  have G1 := Lib.hid exE
  have G2 := Lib.hid exF
  have G3 := Lib.hid exG
  have RH1 := Lib.hid R1
  have RH2 := Lib.hid R2
  have RH3 := Lib.hid R3
  have EH1 := Lib.hid E1
  have EH2 := Lib.hid E2
  have EH3 := Lib.hid E3
  clear R1 R2 R3 E1 E2 E3
  go_enter Try.func5, Try.ntmps5
  go_wp2_with fail
  refine (RH1.out _).mono ?_
  rintro e w1 ⟨v1, rfl, B1, r1, _⟩
  have C1 := Lib.hid (EH1.out v1 w1 r1)
  clear r1
  go_wp2_with fail
  refine C1.out.mono ?_
  rintro e w2 h2
  obtain ⟨p1, d1, a1, rfl, B2, n1, k1, x1⟩ := h2.root G1.out
  have B12 := Lib.hid (bt B1 B2)
  clear B1 B2 C1 h2
  obtain ⟨q1, hq1⟩ : ∃ q, ptrV p1 = q := ⟨_, rfl⟩
  rw [hq1]
  go_wp2_with fail
  refine (RH2.out _).mono ?_
  rintro e w3 ⟨v3, rfl, B3, r3, _⟩
  have C3 := Lib.hid (EH2.out v3 w3 r3)
  clear r3
  go_wp2_with fail
  refine C3.out.mono ?_
  rintro e w4 h4
  obtain ⟨p2, d2, a2, rfl, B4, n2, k2, x2⟩ := h4.root G2.out
  have B34 := bt B3 B4
  have n1' := (B34.block p1 (lt_heap n1)).trans n1
  have B14 := Lib.hid (bt B12.out B34)
  clear B3 B4 C3 h4 B12 n1 B34
  obtain ⟨q2, hq2⟩ : ∃ q, ptrV p2 = q := ⟨_, rfl⟩
  rw [hq2]
  go_wp2_with fail
  refine (RH3.out _).mono ?_
  rintro e w5 ⟨v5, rfl, B5, r5, _⟩
  have C5 := Lib.hid (EH3.out v5 w5 r5)
  clear r5
  go_wp2_with fail
  refine C5.out.mono ?_
  rintro e w6 h6
  obtain ⟨rfl, B6⟩ := h6.err G3.out
  have B56 := bt B5 B6
  have n1 := (B56.block p1 (lt_heap n1')).trans n1'
  have n2' := (B56.block p2 (lt_heap n2)).trans n2
  have B16 := Lib.hid (bt B14.out B56)
  have c1 : w6.cell? ⟨p1, 0, none⟩ = some (.int .u8 11) := by rw [Lib.cell_of_heap n1]; show some (Value.int .u8 (d1.k : Int)) = _; rw [k1]; rfl
  have c2 : w6.cell? ⟨p1, 2, none⟩ = some (.string ⟨#[45]⟩) := by rw [Lib.cell_of_heap n1]; show some (Value.string ⟨d1.x.toArray⟩) = _; rw [x1]
  have c3 : w6.cell? ⟨p2, 0, none⟩ = some (.int .u8 3) := by rw [Lib.cell_of_heap n2']; show some (Value.int .u8 (d2.k : Int)) = _; rw [k2]; rfl
  clear B5 B6 C5 h6 B14 n1 B56 n1' n2 n2'
  subst hq1 hq2
  simp only [ptrV]
  go_wp2_with fail
  go_ret
  exact ⟨rfl, B16.out⟩
end Go.Proofs.Ytldecbaaajmmcaa
/- Law 6: rows that are cut. -/
namespace Go.Proofs.Ytldecbaaajmmcaa
open Go.RowKit
set_option maxHeartbeats 4000000
set_option maxRecDepth 100000
set_option linter.unusedVariables false
set_option linter.unusedSimpArgs false

theorem fin_of {k : Nat} {ts : List TK} : (∃ d n, doM k ts 0 = .ok d n ∧ n ≤ ts.length) ∨ ∃ n, doM k ts 0 = .bad n ∧ n ≤ ts.length := by
  have hb := bd_do k ts 0 (Nat.zero_le _)
  cases hr : doM k ts 0 with
  | ok d n => exact .inl ⟨d, n, rfl, (hb.1 _ _ hr).2⟩
  | bad n => exact .inr ⟨n, rfl, (hb.2 _ hr).2⟩
  | out => exact absurd hr (fin_do k ts 0 (Nat.zero_le _))
/-- What one of the four says: a place, and whether it is an error. -/
theorem Says.flat {B : Nat} {W0 : World} {res : Re} {e : Ending} {w' : World} (h : Says B W0 res e w') :
    ∃ pv, ∃ ev : Int, e = .returned (.tuple #[pv, .int .i64 res.pl, .int .i64 ev]) ∧ Below B W0 w' ∧ ((∃ d j, res = .ok d j ∧ ev = 0) ∨ ∃ j, res = .bad j ∧ ev = 60) := by
  obtain ⟨hb, ⟨d, j, u, h1, rfl, _⟩ | ⟨j, h1, rfl⟩⟩ := h
  · subst h1
    exact ⟨_, 0, rfl, hb, .inl ⟨d, j, rfl, rfl⟩⟩
  · subst h1
    exact ⟨_, 60, rfl, hb, .inr ⟨j, rfl, rfl⟩⟩
end Go.Proofs.Ytldecbaaajmmcaa
