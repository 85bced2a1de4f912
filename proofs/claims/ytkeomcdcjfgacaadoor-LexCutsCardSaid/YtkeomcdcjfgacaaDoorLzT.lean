/- The statement on how tokens stand in their source, walked whole. -/
import Derived.Test.YtkeomcdcjfgacaaDoorLzP
import Derived.Test.YtkeomcdcjfgacaaDoorPpE
namespace Go.Proofs.YtkeomcdcjfgacaaDoor
open Go.RowKit
set_option maxHeartbeats 4000000
set_option maxRecDepth 100000
set_option linter.unusedVariables false

/-- The tokens with where they stand, and the end. -/
def rowL (S : List UInt8) : List (T0 × Nat × Nat) := (scanS 0 S).1 ++ [(⟨0, [], 0⟩, (scanS 0 S).2.1, (scanS 0 S).2.1)]
theorem all_row (S : List UInt8) : allT S = (rowL S).map (plOf S) := by unfold allT rowL; rw [List.map_append]; rfl
/-- Where the token ahead of number k ends. -/
def pe (a : Nat) (R : List (T0 × Nat × Nat)) (k : Nat) : Nat := if k = 0 then a else ((R[k - 1]?).map fun x => x.2.2).getD 0
theorem pe_next (R : List (T0 × Nat × Nat)) (a k : Nat) (t : T0) (x y : Nat) (h : R[k]? = some (t, x, y)) : pe a R (k + 1) = y := by
  unfold pe; rw [if_neg (by omega), Nat.add_sub_cancel, h]; rfl
theorem pe_cons (a : Nat) (t : T0) (x y : Nat) (r : List (T0 × Nat × Nat)) (k : Nat) : pe a ((t, x, y) :: r) (k + 1) = pe y r k := by
  unfold pe; rw [if_neg (by omega), Nat.add_sub_cancel]
  cases k with
  | zero => rfl
  | succ k => rw [if_neg (by omega), Nat.add_sub_cancel, List.getElem?_cons_succ]
theorem chain_le : ∀ (l : List (T0 × Nat × Nat)) (a b : Nat), chainO a l b → a ≤ b
  | [], a, b, h => h
  | (t, x, y) :: r, a, b, h => by
    obtain ⟨h1, h2, h3⟩ := h
    have := chain_le r y b h3
    omega
theorem tok_ne0 (t : T0) (h : tokOk t) : t.k ≠ 0 := by
  rcases h with h | h | h | h | h | h <;> (have := h.1; omega)
theorem row_in : ∀ (l : List (T0 × Nat × Nat)) (a b : Nat), (∀ x ∈ l, tokOk x.1) → chainO a l b → ∀ (k : Nat) (t : T0) (x y : Nat), (l ++ [(⟨0, [], 0⟩, b, b)])[k]? = some (t, x, y) →
    pe a (l ++ [(⟨0, [], 0⟩, b, b)]) k ≤ x ∧ y ≤ b ∧ ((x = y ∧ t.k = 0) ∨ (x < y ∧ t.k ≠ 0))
  | [], a, b, _, hc, k, t, x, y, h => by
    have hc : a ≤ b := hc
    cases k with
    | zero =>
      have e : ((⟨0, [], 0⟩, b, b) : T0 × Nat × Nat) = (t, x, y) := Option.some.inj h
      injection e with e1 e2
      injection e2 with e2 e3
      subst e1; subst e2; subst e3
      exact ⟨hc, Nat.le_refl _, .inl ⟨rfl, rfl⟩⟩
    | succ k => simp at h
  | (t0, x0, y0) :: r, a, b, hok, hc, k, t, x, y, h => by
    obtain ⟨c1, c2, c3⟩ := hc
    cases k with
    | zero =>
      have e : (t0, x0, y0) = (t, x, y) := Option.some.inj h
      injection e with e1 e2
      injection e2 with e2 e3
      subst e1; subst e2; subst e3
      exact ⟨c1, chain_le _ _ _ c3, .inr ⟨c2, tok_ne0 _ (hok _ List.mem_cons_self)⟩⟩
    | succ k =>
      rw [List.cons_append, pe_cons]
      exact row_in r y0 b (fun x hx => hok x (List.mem_cons_of_mem _ hx)) c3 k t x y (by rw [List.cons_append, List.getElem?_cons_succ] at h; exact h)
theorem In_at (s : ByteArray) (hs : s.size ≤ 1048576) (k : Nat) (hk : k ≤ s.size) (l c : Int) (hg : goB 1 1 (s.data.toList.take k) = (l, c)) (w : World) :
    Calls Tryd.prog 12 #[.string s, posV l c] w fun e w' => e = .returned (.tuple #[.int .i64 k, .bool true]) ∧ w' = w := by
  refine (In_any l c s hs w).mono ?_
  rintro e w1 ⟨r, rfl, hr, rfl⟩
  have hlen : s.data.toList.length = s.size := by rw [Array.length_toList]; rfl
  have hp := (go_first s.data.toList (by omega) k).1
  have hb := InIs_back s.data.toList (by omega) k (by omega)
  rw [hg] at hp hb
  have e := InIs_one _ _ _ _ _ (hr.1 hp) hb
  subst e
  refine ⟨?_, rfl⟩
  unfold inI inB; simp
theorem bef_no (S : List UInt8) (hS : S.length ≤ 1048576) (k j : Nat) (hk : k ≤ j) (hj : j ≤ S.length) (l c m d : Int) (h1 : goB 1 1 (S.take j) = (l, c)) (h2 : goB 1 1 (S.take k) = (m, d)) : pBef l c m d = false := by
  have h : ¬ (l < m ∨ l = m ∧ c < d) := by
    rcases Nat.eq_or_lt_of_le hk with h | h
    · subst h
      rw [h1] at h2
      injection h2 with e1 e2
      omega
    · have := go_rise S hS k j h hj
      rw [h1, h2] at this
      unfold plt at this
      simp only at this
      omega
  unfold pBef
  rw [show (decide (l < m) || decide (l = m) && decide (c < d)) = false from Bool.eq_false_iff.2 (fun e => h (by simpa using e)), Bool.and_false]
theorem eql_self {P : Program} (l c : Int) (t : TypeId) (w : World) : (binOp .eql t (posV l c) (posV l c)).run P w = .ok (.bool true) w := by
  have := eql_pos (P := P) l c l c t w
  rw [this]
  unfold pEq
  cases isP l c <;> simp
theorem cuts_big (s more : ByteArray) (h : 1024 < s.size ∨ 1024 < more.size) (w : World) (hE : Env w) :
    Calls Tryd.prog 5 #[.string s, .string more] w fun e w' => e = .returned (.bool true) ∧ Below w.heap.size w w' := by
  have HW := zworks_any w hE
  clear hE
  by_cases h1 : 1024 < s.size
  · have hq : (1024 : Int) < (s.size : Int) := by omega
    go_enter Tryd.func5, Tryd.ntmps5
    go_wp2_with fail
    refine HW.mono ?_
    rintro e w1 ⟨rfl, B1⟩
    go_wp2_with fail
    go_ret
    exact ⟨rfl, B1⟩
  · have hq : ¬ (1024 : Int) < (s.size : Int) := by omega
    have hq2 : (1024 : Int) < (more.size : Int) := by omega
    go_enter Tryd.func5, Tryd.ntmps5
    go_wp2_with fail
    refine HW.mono ?_
    rintro e w1 ⟨rfl, B1⟩
    go_wp2_with fail
    go_ret
    exact ⟨rfl, B1⟩
/-- An error that may change with what stands behind it. -/
theorem cuts_free (s more : ByteArray) (h1 : s.size ≤ 1024) (h2 : more.size ≤ 1024) (x y : Nat) (z : Int) (n : Nat) (hn : n < s.size) (h0 : z ≠ 0) (g0 : z ≠ 40) (g1 : z ≠ 41) (g2 : z ≠ 42) (w : World) (hE : Env w)
    (H1 : Calls Tryd.prog 8 #[.string s] w fun e w' => e = .returned (.tuple #[.slice none 0 0, .complex .f64 x y, .int .i64 z]) ∧ Below w.heap.size w w')
    (HI : ∀ w, Calls Tryd.prog 12 #[.string s, .complex .f64 x y] w fun e w' => e = .returned (.tuple #[.int .i64 n, .bool true]) ∧ w' = w)
    (H2 : ∀ w', Below w.heap.size w w' → Calls Tryd.prog 8 #[.string (s ++ ⟨#[10]⟩ ++ more)] w' fun e w'' => (∃ v a f, e = .returned (.tuple #[v, a, .int .i64 f])) ∧ Below w'.heap.size w' w'') :
    Calls Tryd.prog 5 #[.string s, .string more] w fun e w' => e = .returned (.bool true) ∧ Below w.heap.size w w' := by
  have HW := fun w' hb => zworks_any w' (hE.below hb)
  clear hE
  have hq : ¬ (1024 : Int) < (s.size : Int) := by omega
  have hq2 : ¬ (1024 : Int) < (more.size : Int) := by omega
  have hq3 : ¬ (s.size : Int) ≤ (n : Int) := by omega
  have t0 : (z != 0) = true := by rw [bne, beq_eq_false_iff_ne.2 h0]; rfl
  have t1 : (z != 40) = true := by rw [bne, beq_eq_false_iff_ne.2 g0]; rfl
  have t2 : (z != 41) = true := by rw [bne, beq_eq_false_iff_ne.2 g1]; rfl
  have t3 : (z != 42) = true := by rw [bne, beq_eq_false_iff_ne.2 g2]; rfl
  by_cases h5 : z = 5
  · have t5 : (z == 5) = true := beq_iff_eq.2 h5
    clear h0 g0 g1 g2 h5
    go_enter Tryd.func5, Tryd.ntmps5
    go_wp2_with fail
    refine H1.mono ?_
    rintro e w1 ⟨rfl, B1⟩
    have H2 := H2 w1 B1
    clear H1
    go_wp2_with fail
    refine (HI _).mono ?_
    rintro e w2 ⟨rfl, rfl⟩
    go_wp2_with fail
    refine H2.mono ?_
    rintro e w3 ⟨⟨v, a, f, rfl⟩, B3⟩
    have b3 := bt B1 B3
    have HW := HW w3 b3
    go_wp2_with fail
    refine HW.mono ?_
    rintro e w4 ⟨rfl, B4⟩
    go_wp2_with fail
    go_ret
    exact ⟨rfl, bt b3 B4⟩
  · have t5 : (z == 5) = false := beq_eq_false_iff_ne.2 h5
    clear h0 g0 g1 g2 h5
    go_enter Tryd.func5, Tryd.ntmps5
    go_wp2_with fail
    refine H1.mono ?_
    rintro e w1 ⟨rfl, B1⟩
    have H2 := H2 w1 B1
    clear H1
    go_wp2_with fail
    refine (HI _).mono ?_
    rintro e w2 ⟨rfl, rfl⟩
    go_wp2_with fail
    refine H2.mono ?_
    rintro e w3 ⟨⟨v, a, f, rfl⟩, B3⟩
    have b3 := bt B1 B3
    have HW := HW w3 b3
    go_wp2_with fail
    refine HW.mono ?_
    rintro e w4 ⟨rfl, B4⟩
    go_wp2_with fail
    go_ret
    exact ⟨rfl, bt b3 B4⟩
/-- An error that stays. -/
theorem cuts_stay (s more : ByteArray) (h1 : s.size ≤ 1024) (h2 : more.size ≤ 1024) (x y : Nat) (z : Int) (n : Nat) (hn : n < s.size) (hz : z = 40 ∨ z = 41 ∨ z = 42) (w : World) (hE : Env w)
    (HQ : ∀ (t : TypeId) (w : World), (binOp .eql t (.complex .f64 x y) (.complex .f64 x y)).run Tryd.prog w = .ok (.bool true) w)
    (H1 : Calls Tryd.prog 8 #[.string s] w fun e w' => e = .returned (.tuple #[.slice none 0 0, .complex .f64 x y, .int .i64 z]) ∧ Below w.heap.size w w')
    (HI : ∀ w, Calls Tryd.prog 12 #[.string s, .complex .f64 x y] w fun e w' => e = .returned (.tuple #[.int .i64 n, .bool true]) ∧ w' = w)
    (H2 : ∀ w', Below w.heap.size w w' → Calls Tryd.prog 8 #[.string (s ++ ⟨#[10]⟩ ++ more)] w' fun e w'' => e = .returned (.tuple #[.slice none 0 0, .complex .f64 x y, .int .i64 z]) ∧ Below w'.heap.size w' w'') :
    Calls Tryd.prog 5 #[.string s, .string more] w fun e w' => e = .returned (.bool true) ∧ Below w.heap.size w w' := by
  have HW := fun w' hb => zworks_any w' (hE.below hb)
  clear hE
  have hq : ¬ (1024 : Int) < (s.size : Int) := by omega
  have hq2 : ¬ (1024 : Int) < (more.size : Int) := by omega
  have hq3 : ¬ (s.size : Int) ≤ (n : Int) := by omega
  rcases hz with rfl | rfl | rfl
  all_goals
    go_enter Tryd.func5, Tryd.ntmps5
    go_wp2_with fail
    refine H1.mono ?_
    rintro e w1 ⟨rfl, B1⟩
    have H2 := H2 w1 B1
    clear H1
    go_wp2_with fail
    refine (HI _).mono ?_
    rintro e w2 ⟨rfl, rfl⟩
    go_wp2_with fail
    refine H2.mono ?_
    rintro e w3 ⟨rfl, B3⟩
    have b3 := bt B1 B3
    have HW := HW w3 b3
    go_wp2_with fail
    refine HW.mono ?_
    rintro e w4 ⟨rfl, B4⟩
    go_wp2_with fail
    go_ret
    exact ⟨rfl, bt b3 B4⟩
end Go.Proofs.YtkeomcdcjfgacaaDoor
