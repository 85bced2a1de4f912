/- Package lex, walked: numbers. -/
import Derived.Test.YtliebhpddjbjeaaGreatDoorLzG
namespace Go.Proofs.YtliebhpddjbjeaaGreatDoor
open Go.RowKit
set_option maxHeartbeats 2000000
set_option maxRecDepth 100000
set_option linter.unusedVariables false

/-- What strconv.ParseUint answers of digits. -/
def PubPost (r : Option Int) (w : World) (e : Ending) (w' : World) : Prop :=
  ((∃ n, r = some n ∧ e = .returned (.tuple #[.int .u64 n, .nilIface])) ∨ (r = none ∧ ∃ (x : Int) (N : Nat), e = .returned (.tuple #[.int .u64 x, .iface 171 (.pointer (some ⟨N, 0, none⟩))]))) ∧ Below w.heap.size w w'
theorem pub_of (t : ByteArray) (hs : t.size ≤ 1048576) (base bits : Int) (r : Option Int) (w : World) (hE : Env w) (HI : ∀ w, Calls Tryz.prog 147 #[.string t, .int .i64 base, .int .i64 bits] w (PuPost r w)) :
    Calls Tryz.prog 132 #[.string t, .int .i64 base, .int .i64 bits] w (PubPost r w) := by
  have HE := Lib.hid hE
  clear hE
  go_enter Tryz.func132, Tryz.ntmps132
  go_wp2_with fail
  refine (HI _).mono ?_
  rintro e w1 ⟨⟨n, hn, rfl⟩ | ⟨hr, x, k, hk, rfl⟩, B1⟩
  · have HT := Lib.hid hn
    clear hn HI
    go_wp2_with fail
    go_ret2
    exact ⟨.inl ⟨n, HT.out, rfl⟩, B1⟩
  · have HT := Lib.hid hr
    clear hr HI
    rcases hk with rfl | rfl
    · obtain ⟨ev, he, hk⟩ := (HE.out.below B1).rg
      have HQ := Tryz.strconv_toError_range ⟨#[80, 97, 114, 115, 101, 85, 105, 110, 116]⟩ t base bits ev w1 (by omega) he hk
      clear he hk
      go_wp2_with fail
      refine HQ.mono ?_
      rintro e w2 ⟨N, rfl, _, _, B2⟩
      go_wp2_with fail
      go_ret2
      exact ⟨.inr ⟨HT.out, x, N, rfl⟩, bt B1 B2⟩
    · obtain ⟨ev, he, hk⟩ := (HE.out.below B1).sy
      have HQ := Tryz.strconv_toError_syntax ⟨#[80, 97, 114, 115, 101, 85, 105, 110, 116]⟩ t base bits ev w1 (by omega) he hk
      clear he hk
      go_wp2_with fail
      refine HQ.mono ?_
      rintro e w2 ⟨N, rfl, _, _, B2⟩
      go_wp2_with fail
      go_ret2
      exact ⟨.inr ⟨HT.out, x, N, rfl⟩, bt B1 B2⟩
theorem val_last (base most : Int) (c : UInt8) (h : base ≤ digV c) : ∀ (l : List UInt8) (n : Int), valL base most n (l ++ [c]) = none
  | [], n => val_syn _ _ _ _ _ h
  | a :: l, n => by
    show valL base most n (a :: (l ++ [c])) = none
    unfold valL
    split
    · rfl
    · exact val_last base most c h l _
theorem vals_last (base most : Int) (c : UInt8) (h : base ≤ digV c) (l : List UInt8) : valS base most (l ++ [c]) = none := by
  unfold valS
  rw [if_neg (by simp)]
  exact val_last base most c h l 0
theorem oneL_num (c : UInt8) (r : List UInt8) (h : isDg c = true) : oneL (c :: r) = match num (numS (c :: r)) with
    | some t => (some t, (numS (c :: r)).length, 0)
    | none => (none, 0, 41) := by
  have hl : isLt c = false := by
    unfold isDg at h
    simp at h
    unfold isLt
    simp; omega
  unfold oneL
  rw [if_neg (show ¬ isLt ((c :: r).headD 0) = true by show ¬ isLt c = true; rw [hl]; decide), if_pos (show isDg ((c :: r).headD 0) = true from h)]
  cases num (numS (c :: r)) <;> rfl
theorem isDg_hx (c : UInt8) (h : isDg c = true) : isHx c = true := by unfold isHx; rw [h]; rfl
theorem valS_bounds (base most : Int) (hb : 0 ≤ base) (s : List UInt8) (hx : ∀ b ∈ s, isHx b = true) (n : Int) (h : valS base most s = some n) : 0 ≤ n ∧ n ≤ most := by
  have key : ∀ (l : List UInt8) (a : Int), (∀ b ∈ l, isHx b = true) → 0 ≤ a → valL base most a l = some n → 0 ≤ n ∧ n ≤ most := by
    intro l
    induction l with
    | nil =>
      intro a _ ha h
      unfold valL at h
      split at h
      · rw [← Option.some.inj h]; omega
      · cases h
    | cons c l ih =>
      intro a hx ha h
      unfold valL at h
      split at h
      · cases h
      · have hc := hx_cases c (hx c (by simp))
        have hd : 0 ≤ digV c := by rcases hc with ⟨h1, h2, h3⟩ | ⟨h1, h2, h3⟩ <;> omega
        have := Int.mul_nonneg ha hb
        exact ih _ (fun b hb => hx b (by simp [hb])) (by omega) h
  unfold valS at h
  split at h
  · cases h
  · exact key s 0 hx (by omega) h
theorem zn_H_ok (s : ByteArray) (hs : s.size ≤ 1048576) (d : Nat) (hd : d < s.size) (v : Int) (v0 : 0 ≤ v) (v1 : v ≤ 65535) (w : World) (HC : ∀ w, Calls Tryz.prog 40 #[.string s, .func (.func 131) #[] #[]] w fun e w' => e = .returned (.int .i64 (d : Int)) ∧ w' = w)
    (HP : ∀ w, Calls Tryz.prog 108 #[.string (s.extract d s.size), .string ⟨#[72]⟩] w fun e w' => e = .returned (.bool true) ∧ w' = w)
    (q72 : ((s[d].toNat : Int) == 72) = true) 
    (HU : ∀ w', Below w.heap.size w w' → Calls Tryz.prog 132 #[.string (s.extract 0 d), .int .i64 16, .int .i64 16] w' fun e w'' => (e = .returned (.tuple #[.int .u64 v, .nilIface])) ∧ Below w'.heap.size w' w'') :
    Calls Tryz.prog 112 #[.string s] w fun e w' => e = .returned (.tuple #[.agg #[.int .u8 2, .complex .f64 0 0, .complex .f64 0 0, .string ⟨#[]⟩, .int .i64 v], .int .i64 ((d : Int) + 1), .int .i64 0]) ∧ Below w.heap.size w w' := by
  have hsc := fun w a x y m => store_cx (P := Tryz.prog) w a .f64 x y m
  have D0 := below_tok w
  have A0 := Fv.new w (.int .u8 0) (.complex .f64 0 0) (.complex .f64 0 0) (.string ⟨#[]⟩) (.int .i64 0) 51 w.heap.size rfl
  have hlt0 : w.heap.size < (w.alloc (.cells #[.int .u8 0, .complex .f64 0 0, .complex .f64 0 0, .string ⟨#[]⟩, .int .i64 0] 51)).heap.size := by simp
  obtain ⟨c, hc⟩ : ∃ c, s[d] = c := ⟨_, rfl⟩
  rw [hc] at q72
  have hx0 : (0 : Int) ≤ (d : Int) := by omega
  have hx1 : (d : Int) < (s.size : Int) := by omega
  have hx2 : (d : Int) + 1 ≤ (s.size : Int) := by omega
  have hx3 : ((d : Int) + 1).toNat = d + 1 := by omega
  have hx4 : (0 : Int) ≤ (d : Int) + 1 := by omega
  have hx5 : (d : Int) ≤ (s.size : Int) := by omega
  have hw1 : IntKind.i64.wrap ((d : Int) + 1 - 1) = (d : Int) := by rw [Int.add_sub_cancel]; exact wrap_i64 _ (by omega) (by omega)
  have hw2 : IntKind.i64.wrap (d : Int) = (d : Int) := wrap_i64 _ (by omega) (by omega)
  have hw3 : IntKind.i64.wrap ((d : Int) + 1) = (d : Int) + 1 := wrap_i64 _ (by omega) (by omega)
  go_enter Tryz.func112, Tryz.ntmps112
  go_wp2_with fail
  refine (HC _).mono ?_
  rintro e w1 ⟨rfl, rfl⟩
  clear HC
  go_wp2_with fail
  refine (HP _).mono ?_
  rintro e w1 ⟨rfl, rfl⟩
  clear HP
  generalize w.alloc (.cells #[.int .u8 0, .complex .f64 0 0, .complex .f64 0 0, .string ⟨#[]⟩, .int .i64 0] 51) = w0 at D0 A0 hlt0 ⊢
  go_wp2_with fail
  go_region_held3 (fun _ => True) (first | trivial) (first | fail)
  all_goals
    go_wp2_with fail
    refine (HU _ (by first | exact D0.drew | exact D0)).mono ?_
    rintro e w1 ⟨rfl, B1⟩
    clear HU
    have B0 : Below w0.heap.size w0 w1 := (Below.refl _ _).drew.trans B1
    have A1 := A0.below B0 hlt0
    have D1 := bt D0 B0
    have g0 := A1.c0
    have g1 := A1.c1
    have g2 := A1.c2
    have g3 := A1.c3
    have g4 := A1.c4
    have e0 := A1.f0
    have e1 := A1.f1
    have e2 := A1.f2
    have e3 := A1.f3
    have e4 := A1.f4
    go_wp2_with fail
    have R := (((((A1.set0 (.int .u8 2)).set1 (.complex .f64 0 0)).set2 (.complex .f64 0 0)).set3 (.string ⟨#[]⟩)).set4 (.int .i64 v))
    have r0 := R.c0
    have r1 := R.c1
    have r2 := R.c2
    have r3 := R.c3
    have r4 := R.c4
    refine bodyPost_ret (v := .tuple #[.agg #[.int .u8 2, .complex .f64 0 0, .complex .f64 0 0, .string ⟨#[]⟩, .int .i64 v], .int .i64 ((d : Int) + 1), .int .i64 0]) (by simp [results, Tryz.results112, go_sem, r0, r1, r2, r3, r4]) rfl ?_
    exact ⟨rfl, below_set5 D1 (Nat.le_refl _) _ _ _ _ _⟩
theorem zn_H_no (s : ByteArray) (hs : s.size ≤ 1048576) (d : Nat) (hd : d < s.size) (w : World) (HC : ∀ w, Calls Tryz.prog 40 #[.string s, .func (.func 131) #[] #[]] w fun e w' => e = .returned (.int .i64 (d : Int)) ∧ w' = w)
    (HP : ∀ w, Calls Tryz.prog 108 #[.string (s.extract d s.size), .string ⟨#[72]⟩] w fun e w' => e = .returned (.bool true) ∧ w' = w)
    (q72 : ((s[d].toNat : Int) == 72) = true) 
    (HU : ∀ w', Below w.heap.size w w' → Calls Tryz.prog 132 #[.string (s.extract 0 d), .int .i64 16, .int .i64 16] w' fun e w'' => (∃ (x : Int) (N : Nat), e = .returned (.tuple #[.int .u64 x, .iface 171 (.pointer (some ⟨N, 0, none⟩))])) ∧ Below w'.heap.size w' w'') :
    Calls Tryz.prog 112 #[.string s] w fun e w' => e = .returned (oneV (none, 0, 41)) ∧ Below w.heap.size w w' := by
  have hsc := fun w a x y m => store_cx (P := Tryz.prog) w a .f64 x y m
  have D0 := below_tok w
  have A0 := Fv.new w (.int .u8 0) (.complex .f64 0 0) (.complex .f64 0 0) (.string ⟨#[]⟩) (.int .i64 0) 51 w.heap.size rfl
  have hlt0 : w.heap.size < (w.alloc (.cells #[.int .u8 0, .complex .f64 0 0, .complex .f64 0 0, .string ⟨#[]⟩, .int .i64 0] 51)).heap.size := by simp
  obtain ⟨c, hc⟩ : ∃ c, s[d] = c := ⟨_, rfl⟩
  rw [hc] at q72
  have hx0 : (0 : Int) ≤ (d : Int) := by omega
  have hx1 : (d : Int) < (s.size : Int) := by omega
  have hx2 : (d : Int) + 1 ≤ (s.size : Int) := by omega
  have hx3 : ((d : Int) + 1).toNat = d + 1 := by omega
  have hx4 : (0 : Int) ≤ (d : Int) + 1 := by omega
  have hx5 : (d : Int) ≤ (s.size : Int) := by omega
  have hw1 : IntKind.i64.wrap ((d : Int) + 1 - 1) = (d : Int) := by rw [Int.add_sub_cancel]; exact wrap_i64 _ (by omega) (by omega)
  have hw2 : IntKind.i64.wrap (d : Int) = (d : Int) := wrap_i64 _ (by omega) (by omega)
  have hw3 : IntKind.i64.wrap ((d : Int) + 1) = (d : Int) + 1 := wrap_i64 _ (by omega) (by omega)
  go_enter Tryz.func112, Tryz.ntmps112
  go_wp2_with fail
  refine (HC _).mono ?_
  rintro e w1 ⟨rfl, rfl⟩
  clear HC
  go_wp2_with fail
  refine (HP _).mono ?_
  rintro e w1 ⟨rfl, rfl⟩
  clear HP
  generalize w.alloc (.cells #[.int .u8 0, .complex .f64 0 0, .complex .f64 0 0, .string ⟨#[]⟩, .int .i64 0] 51) = w0 at D0 A0 hlt0 ⊢
  go_wp2_with fail
  go_region_held3 (fun _ => True) (first | trivial) (first | fail)
  all_goals
    go_wp2_with fail
    refine (HU _ (by first | exact D0.drew | exact D0)).mono ?_
    rintro e w1 ⟨⟨x, N, rfl⟩, B1⟩
    clear HU
    have B0 : Below w0.heap.size w0 w1 := (Below.refl _ _).drew.trans B1
    have A1 := A0.below B0 hlt0
    have D1 := bt D0 B0
    have g0 := A1.c0
    have g1 := A1.c1
    have g2 := A1.c2
    have g3 := A1.c3
    have g4 := A1.c4
    have e0 := A1.f0
    have e1 := A1.f1
    have e2 := A1.f2
    have e3 := A1.f3
    have e4 := A1.f4
    go_wp2_with fail
    have R := (((((A1.set0 (.int .u8 0)).set1 (.complex .f64 0 0)).set2 (.complex .f64 0 0)).set3 (.string ⟨#[]⟩)).set4 (.int .i64 0))
    have r0 := R.c0
    have r1 := R.c1
    have r2 := R.c2
    have r3 := R.c3
    have r4 := R.c4
    refine bodyPost_ret (v := .tuple #[.agg #[.int .u8 0, .complex .f64 0 0, .complex .f64 0 0, .string ⟨#[]⟩, .int .i64 0], .int .i64 0, .int .i64 41]) (by simp [results, Tryz.results112, go_sem, r0, r1, r2, r3, r4]) rfl ?_
    exact ⟨rfl, below_set5 D1 (Nat.le_refl _) _ _ _ _ _⟩
theorem zn_B_ok (s : ByteArray) (hs : s.size ≤ 1048576) (d : Nat) (hd : d < s.size) (v : Int) (v0 : 0 ≤ v) (v1 : v ≤ 65535) (w : World) (HC : ∀ w, Calls Tryz.prog 40 #[.string s, .func (.func 131) #[] #[]] w fun e w' => e = .returned (.int .i64 ((d : Int) + 1)) ∧ w' = w)
    (HP : ∀ w, Calls Tryz.prog 108 #[.string (s.extract (d + 1) s.size), .string ⟨#[72]⟩] w fun e w' => e = .returned (.bool false) ∧ w' = w)
    (q72 : ((s[d].toNat : Int) == 72) = false) (q66 : ((s[d].toNat : Int) == 66) = true) 
    (HU : ∀ w', Below w.heap.size w w' → Calls Tryz.prog 132 #[.string (s.extract 0 d), .int .i64 8, .int .i64 16] w' fun e w'' => (e = .returned (.tuple #[.int .u64 v, .nilIface])) ∧ Below w'.heap.size w' w'') :
    Calls Tryz.prog 112 #[.string s] w fun e w' => e = .returned (.tuple #[.agg #[.int .u8 2, .complex .f64 0 0, .complex .f64 0 0, .string ⟨#[]⟩, .int .i64 v], .int .i64 ((d : Int) + 1), .int .i64 0]) ∧ Below w.heap.size w w' := by
  have hsc := fun w a x y m => store_cx (P := Tryz.prog) w a .f64 x y m
  have D0 := below_tok w
  have A0 := Fv.new w (.int .u8 0) (.complex .f64 0 0) (.complex .f64 0 0) (.string ⟨#[]⟩) (.int .i64 0) 51 w.heap.size rfl
  have hlt0 : w.heap.size < (w.alloc (.cells #[.int .u8 0, .complex .f64 0 0, .complex .f64 0 0, .string ⟨#[]⟩, .int .i64 0] 51)).heap.size := by simp
  obtain ⟨c, hc⟩ : ∃ c, s[d] = c := ⟨_, rfl⟩
  rw [hc] at q72 q66
  have hx0 : (0 : Int) ≤ (d : Int) := by omega
  have hx1 : (d : Int) < (s.size : Int) := by omega
  have hx2 : (d : Int) + 1 ≤ (s.size : Int) := by omega
  have hx3 : ((d : Int) + 1).toNat = d + 1 := by omega
  have hx4 : (0 : Int) ≤ (d : Int) + 1 := by omega
  have hx5 : (d : Int) ≤ (s.size : Int) := by omega
  have hw1 : IntKind.i64.wrap ((d : Int) + 1 - 1) = (d : Int) := by rw [Int.add_sub_cancel]; exact wrap_i64 _ (by omega) (by omega)
  have hw2 : IntKind.i64.wrap (d : Int) = (d : Int) := wrap_i64 _ (by omega) (by omega)
  have hw3 : IntKind.i64.wrap ((d : Int) + 1) = (d : Int) + 1 := wrap_i64 _ (by omega) (by omega)
  go_enter Tryz.func112, Tryz.ntmps112
  go_wp2_with fail
  refine (HC _).mono ?_
  rintro e w1 ⟨rfl, rfl⟩
  clear HC
  go_wp2_with fail
  refine (HP _).mono ?_
  rintro e w1 ⟨rfl, rfl⟩
  clear HP
  generalize w.alloc (.cells #[.int .u8 0, .complex .f64 0 0, .complex .f64 0 0, .string ⟨#[]⟩, .int .i64 0] 51) = w0 at D0 A0 hlt0 ⊢
  go_wp2_with fail
  go_region_held3 (fun _ => True) (first | trivial) (first | fail)
  all_goals
    go_wp2_with fail
    refine (HU _ (by first | exact D0.drew | exact D0)).mono ?_
    rintro e w1 ⟨rfl, B1⟩
    clear HU
    have B0 : Below w0.heap.size w0 w1 := (Below.refl _ _).drew.trans B1
    have A1 := A0.below B0 hlt0
    have D1 := bt D0 B0
    have g0 := A1.c0
    have g1 := A1.c1
    have g2 := A1.c2
    have g3 := A1.c3
    have g4 := A1.c4
    have e0 := A1.f0
    have e1 := A1.f1
    have e2 := A1.f2
    have e3 := A1.f3
    have e4 := A1.f4
    go_wp2_with fail
    have R := (((((A1.set0 (.int .u8 2)).set1 (.complex .f64 0 0)).set2 (.complex .f64 0 0)).set3 (.string ⟨#[]⟩)).set4 (.int .i64 v))
    have r0 := R.c0
    have r1 := R.c1
    have r2 := R.c2
    have r3 := R.c3
    have r4 := R.c4
    refine bodyPost_ret (v := .tuple #[.agg #[.int .u8 2, .complex .f64 0 0, .complex .f64 0 0, .string ⟨#[]⟩, .int .i64 v], .int .i64 ((d : Int) + 1), .int .i64 0]) (by simp [results, Tryz.results112, go_sem, r0, r1, r2, r3, r4]) rfl ?_
    exact ⟨rfl, below_set5 D1 (Nat.le_refl _) _ _ _ _ _⟩
theorem zn_B_no (s : ByteArray) (hs : s.size ≤ 1048576) (d : Nat) (hd : d < s.size) (w : World) (HC : ∀ w, Calls Tryz.prog 40 #[.string s, .func (.func 131) #[] #[]] w fun e w' => e = .returned (.int .i64 ((d : Int) + 1)) ∧ w' = w)
    (HP : ∀ w, Calls Tryz.prog 108 #[.string (s.extract (d + 1) s.size), .string ⟨#[72]⟩] w fun e w' => e = .returned (.bool false) ∧ w' = w)
    (q72 : ((s[d].toNat : Int) == 72) = false) (q66 : ((s[d].toNat : Int) == 66) = true) 
    (HU : ∀ w', Below w.heap.size w w' → Calls Tryz.prog 132 #[.string (s.extract 0 d), .int .i64 8, .int .i64 16] w' fun e w'' => (∃ (x : Int) (N : Nat), e = .returned (.tuple #[.int .u64 x, .iface 171 (.pointer (some ⟨N, 0, none⟩))])) ∧ Below w'.heap.size w' w'') :
    Calls Tryz.prog 112 #[.string s] w fun e w' => e = .returned (oneV (none, 0, 41)) ∧ Below w.heap.size w w' := by
  have hsc := fun w a x y m => store_cx (P := Tryz.prog) w a .f64 x y m
  have D0 := below_tok w
  have A0 := Fv.new w (.int .u8 0) (.complex .f64 0 0) (.complex .f64 0 0) (.string ⟨#[]⟩) (.int .i64 0) 51 w.heap.size rfl
  have hlt0 : w.heap.size < (w.alloc (.cells #[.int .u8 0, .complex .f64 0 0, .complex .f64 0 0, .string ⟨#[]⟩, .int .i64 0] 51)).heap.size := by simp
  obtain ⟨c, hc⟩ : ∃ c, s[d] = c := ⟨_, rfl⟩
  rw [hc] at q72 q66
  have hx0 : (0 : Int) ≤ (d : Int) := by omega
  have hx1 : (d : Int) < (s.size : Int) := by omega
  have hx2 : (d : Int) + 1 ≤ (s.size : Int) := by omega
  have hx3 : ((d : Int) + 1).toNat = d + 1 := by omega
  have hx4 : (0 : Int) ≤ (d : Int) + 1 := by omega
  have hx5 : (d : Int) ≤ (s.size : Int) := by omega
  have hw1 : IntKind.i64.wrap ((d : Int) + 1 - 1) = (d : Int) := by rw [Int.add_sub_cancel]; exact wrap_i64 _ (by omega) (by omega)
  have hw2 : IntKind.i64.wrap (d : Int) = (d : Int) := wrap_i64 _ (by omega) (by omega)
  have hw3 : IntKind.i64.wrap ((d : Int) + 1) = (d : Int) + 1 := wrap_i64 _ (by omega) (by omega)
  go_enter Tryz.func112, Tryz.ntmps112
  go_wp2_with fail
  refine (HC _).mono ?_
  rintro e w1 ⟨rfl, rfl⟩
  clear HC
  go_wp2_with fail
  refine (HP _).mono ?_
  rintro e w1 ⟨rfl, rfl⟩
  clear HP
  generalize w.alloc (.cells #[.int .u8 0, .complex .f64 0 0, .complex .f64 0 0, .string ⟨#[]⟩, .int .i64 0] 51) = w0 at D0 A0 hlt0 ⊢
  go_wp2_with fail
  go_region_held3 (fun _ => True) (first | trivial) (first | fail)
  all_goals
    go_wp2_with fail
    refine (HU _ (by first | exact D0.drew | exact D0)).mono ?_
    rintro e w1 ⟨⟨x, N, rfl⟩, B1⟩
    clear HU
    have B0 : Below w0.heap.size w0 w1 := (Below.refl _ _).drew.trans B1
    have A1 := A0.below B0 hlt0
    have D1 := bt D0 B0
    have g0 := A1.c0
    have g1 := A1.c1
    have g2 := A1.c2
    have g3 := A1.c3
    have g4 := A1.c4
    have e0 := A1.f0
    have e1 := A1.f1
    have e2 := A1.f2
    have e3 := A1.f3
    have e4 := A1.f4
    go_wp2_with fail
    have R := (((((A1.set0 (.int .u8 0)).set1 (.complex .f64 0 0)).set2 (.complex .f64 0 0)).set3 (.string ⟨#[]⟩)).set4 (.int .i64 0))
    have r0 := R.c0
    have r1 := R.c1
    have r2 := R.c2
    have r3 := R.c3
    have r4 := R.c4
    refine bodyPost_ret (v := .tuple #[.agg #[.int .u8 0, .complex .f64 0 0, .complex .f64 0 0, .string ⟨#[]⟩, .int .i64 0], .int .i64 0, .int .i64 41]) (by simp [results, Tryz.results112, go_sem, r0, r1, r2, r3, r4]) rfl ?_
    exact ⟨rfl, below_set5 D1 (Nat.le_refl _) _ _ _ _ _⟩
theorem zn_C_ok (s : ByteArray) (hs : s.size ≤ 1048576) (d : Nat) (hd : d < s.size) (v : Int) (v0 : 0 ≤ v) (v1 : v ≤ 65535) (w : World) (HC : ∀ w, Calls Tryz.prog 40 #[.string s, .func (.func 131) #[] #[]] w fun e w' => e = .returned (.int .i64 ((d : Int) + 1)) ∧ w' = w)
    (HP : ∀ w, Calls Tryz.prog 108 #[.string (s.extract (d + 1) s.size), .string ⟨#[72]⟩] w fun e w' => e = .returned (.bool false) ∧ w' = w)
    (q72 : ((s[d].toNat : Int) == 72) = false) (q66 : ((s[d].toNat : Int) == 66) = false) (q67 : ((s[d].toNat : Int) == 67) = true) 
    (HU : ∀ w', Below w.heap.size w w' → Calls Tryz.prog 132 #[.string (s.extract 0 d), .int .i64 8, .int .i64 8] w' fun e w'' => (e = .returned (.tuple #[.int .u64 v, .nilIface])) ∧ Below w'.heap.size w' w'') :
    Calls Tryz.prog 112 #[.string s] w fun e w' => e = .returned (.tuple #[.agg #[.int .u8 3, .complex .f64 0 0, .complex .f64 0 0, .string ⟨#[]⟩, .int .i64 v], .int .i64 ((d : Int) + 1), .int .i64 0]) ∧ Below w.heap.size w w' := by
  have hsc := fun w a x y m => store_cx (P := Tryz.prog) w a .f64 x y m
  have D0 := below_tok w
  have A0 := Fv.new w (.int .u8 0) (.complex .f64 0 0) (.complex .f64 0 0) (.string ⟨#[]⟩) (.int .i64 0) 51 w.heap.size rfl
  have hlt0 : w.heap.size < (w.alloc (.cells #[.int .u8 0, .complex .f64 0 0, .complex .f64 0 0, .string ⟨#[]⟩, .int .i64 0] 51)).heap.size := by simp
  obtain ⟨c, hc⟩ : ∃ c, s[d] = c := ⟨_, rfl⟩
  rw [hc] at q72 q66 q67
  have hx0 : (0 : Int) ≤ (d : Int) := by omega
  have hx1 : (d : Int) < (s.size : Int) := by omega
  have hx2 : (d : Int) + 1 ≤ (s.size : Int) := by omega
  have hx3 : ((d : Int) + 1).toNat = d + 1 := by omega
  have hx4 : (0 : Int) ≤ (d : Int) + 1 := by omega
  have hx5 : (d : Int) ≤ (s.size : Int) := by omega
  have hw1 : IntKind.i64.wrap ((d : Int) + 1 - 1) = (d : Int) := by rw [Int.add_sub_cancel]; exact wrap_i64 _ (by omega) (by omega)
  have hw2 : IntKind.i64.wrap (d : Int) = (d : Int) := wrap_i64 _ (by omega) (by omega)
  have hw3 : IntKind.i64.wrap ((d : Int) + 1) = (d : Int) + 1 := wrap_i64 _ (by omega) (by omega)
  go_enter Tryz.func112, Tryz.ntmps112
  go_wp2_with fail
  refine (HC _).mono ?_
  rintro e w1 ⟨rfl, rfl⟩
  clear HC
  go_wp2_with fail
  refine (HP _).mono ?_
  rintro e w1 ⟨rfl, rfl⟩
  clear HP
  generalize w.alloc (.cells #[.int .u8 0, .complex .f64 0 0, .complex .f64 0 0, .string ⟨#[]⟩, .int .i64 0] 51) = w0 at D0 A0 hlt0 ⊢
  go_wp2_with fail
  go_region_held3 (fun _ => True) (first | trivial) (first | fail)
  all_goals
    go_wp2_with fail
    refine (HU _ (by first | exact D0.drew | exact D0)).mono ?_
    rintro e w1 ⟨rfl, B1⟩
    clear HU
    have B0 : Below w0.heap.size w0 w1 := (Below.refl _ _).drew.trans B1
    have A1 := A0.below B0 hlt0
    have D1 := bt D0 B0
    have g0 := A1.c0
    have g1 := A1.c1
    have g2 := A1.c2
    have g3 := A1.c3
    have g4 := A1.c4
    have e0 := A1.f0
    have e1 := A1.f1
    have e2 := A1.f2
    have e3 := A1.f3
    have e4 := A1.f4
    go_wp2_with fail
    have R := (((((A1.set0 (.int .u8 3)).set1 (.complex .f64 0 0)).set2 (.complex .f64 0 0)).set3 (.string ⟨#[]⟩)).set4 (.int .i64 v))
    have r0 := R.c0
    have r1 := R.c1
    have r2 := R.c2
    have r3 := R.c3
    have r4 := R.c4
    refine bodyPost_ret (v := .tuple #[.agg #[.int .u8 3, .complex .f64 0 0, .complex .f64 0 0, .string ⟨#[]⟩, .int .i64 v], .int .i64 ((d : Int) + 1), .int .i64 0]) (by simp [results, Tryz.results112, go_sem, r0, r1, r2, r3, r4]) rfl ?_
    exact ⟨rfl, below_set5 D1 (Nat.le_refl _) _ _ _ _ _⟩
theorem zn_C_no (s : ByteArray) (hs : s.size ≤ 1048576) (d : Nat) (hd : d < s.size) (w : World) (HC : ∀ w, Calls Tryz.prog 40 #[.string s, .func (.func 131) #[] #[]] w fun e w' => e = .returned (.int .i64 ((d : Int) + 1)) ∧ w' = w)
    (HP : ∀ w, Calls Tryz.prog 108 #[.string (s.extract (d + 1) s.size), .string ⟨#[72]⟩] w fun e w' => e = .returned (.bool false) ∧ w' = w)
    (q72 : ((s[d].toNat : Int) == 72) = false) (q66 : ((s[d].toNat : Int) == 66) = false) (q67 : ((s[d].toNat : Int) == 67) = true) 
    (HU : ∀ w', Below w.heap.size w w' → Calls Tryz.prog 132 #[.string (s.extract 0 d), .int .i64 8, .int .i64 8] w' fun e w'' => (∃ (x : Int) (N : Nat), e = .returned (.tuple #[.int .u64 x, .iface 171 (.pointer (some ⟨N, 0, none⟩))])) ∧ Below w'.heap.size w' w'') :
    Calls Tryz.prog 112 #[.string s] w fun e w' => e = .returned (oneV (none, 0, 41)) ∧ Below w.heap.size w w' := by
  have hsc := fun w a x y m => store_cx (P := Tryz.prog) w a .f64 x y m
  have D0 := below_tok w
  have A0 := Fv.new w (.int .u8 0) (.complex .f64 0 0) (.complex .f64 0 0) (.string ⟨#[]⟩) (.int .i64 0) 51 w.heap.size rfl
  have hlt0 : w.heap.size < (w.alloc (.cells #[.int .u8 0, .complex .f64 0 0, .complex .f64 0 0, .string ⟨#[]⟩, .int .i64 0] 51)).heap.size := by simp
  obtain ⟨c, hc⟩ : ∃ c, s[d] = c := ⟨_, rfl⟩
  rw [hc] at q72 q66 q67
  have hx0 : (0 : Int) ≤ (d : Int) := by omega
  have hx1 : (d : Int) < (s.size : Int) := by omega
  have hx2 : (d : Int) + 1 ≤ (s.size : Int) := by omega
  have hx3 : ((d : Int) + 1).toNat = d + 1 := by omega
  have hx4 : (0 : Int) ≤ (d : Int) + 1 := by omega
  have hx5 : (d : Int) ≤ (s.size : Int) := by omega
  have hw1 : IntKind.i64.wrap ((d : Int) + 1 - 1) = (d : Int) := by rw [Int.add_sub_cancel]; exact wrap_i64 _ (by omega) (by omega)
  have hw2 : IntKind.i64.wrap (d : Int) = (d : Int) := wrap_i64 _ (by omega) (by omega)
  have hw3 : IntKind.i64.wrap ((d : Int) + 1) = (d : Int) + 1 := wrap_i64 _ (by omega) (by omega)
  go_enter Tryz.func112, Tryz.ntmps112
  go_wp2_with fail
  refine (HC _).mono ?_
  rintro e w1 ⟨rfl, rfl⟩
  clear HC
  go_wp2_with fail
  refine (HP _).mono ?_
  rintro e w1 ⟨rfl, rfl⟩
  clear HP
  generalize w.alloc (.cells #[.int .u8 0, .complex .f64 0 0, .complex .f64 0 0, .string ⟨#[]⟩, .int .i64 0] 51) = w0 at D0 A0 hlt0 ⊢
  go_wp2_with fail
  go_region_held3 (fun _ => True) (first | trivial) (first | fail)
  all_goals
    go_wp2_with fail
    refine (HU _ (by first | exact D0.drew | exact D0)).mono ?_
    rintro e w1 ⟨⟨x, N, rfl⟩, B1⟩
    clear HU
    have B0 : Below w0.heap.size w0 w1 := (Below.refl _ _).drew.trans B1
    have A1 := A0.below B0 hlt0
    have D1 := bt D0 B0
    have g0 := A1.c0
    have g1 := A1.c1
    have g2 := A1.c2
    have g3 := A1.c3
    have g4 := A1.c4
    have e0 := A1.f0
    have e1 := A1.f1
    have e2 := A1.f2
    have e3 := A1.f3
    have e4 := A1.f4
    go_wp2_with fail
    have R := (((((A1.set0 (.int .u8 0)).set1 (.complex .f64 0 0)).set2 (.complex .f64 0 0)).set3 (.string ⟨#[]⟩)).set4 (.int .i64 0))
    have r0 := R.c0
    have r1 := R.c1
    have r2 := R.c2
    have r3 := R.c3
    have r4 := R.c4
    refine bodyPost_ret (v := .tuple #[.agg #[.int .u8 0, .complex .f64 0 0, .complex .f64 0 0, .string ⟨#[]⟩, .int .i64 0], .int .i64 0, .int .i64 41]) (by simp [results, Tryz.results112, go_sem, r0, r1, r2, r3, r4]) rfl ?_
    exact ⟨rfl, below_set5 D1 (Nat.le_refl _) _ _ _ _ _⟩
theorem zn_D_ok (s : ByteArray) (hs : s.size ≤ 1048576) (d : Nat) (hd : d < s.size) (v : Int) (v0 : 0 ≤ v) (v1 : v ≤ 65535) (w : World) (HC : ∀ w, Calls Tryz.prog 40 #[.string s, .func (.func 131) #[] #[]] w fun e w' => e = .returned (.int .i64 ((d : Int) + 1)) ∧ w' = w)
    (HP : ∀ w, Calls Tryz.prog 108 #[.string (s.extract (d + 1) s.size), .string ⟨#[72]⟩] w fun e w' => e = .returned (.bool false) ∧ w' = w)
    (q72 : ((s[d].toNat : Int) == 72) = false) (q66 : ((s[d].toNat : Int) == 66) = false) (q67 : ((s[d].toNat : Int) == 67) = false) 
    (HU : ∀ w', Below w.heap.size w w' → Calls Tryz.prog 132 #[.string (s.extract 0 (d + 1)), .int .i64 10, .int .i64 16] w' fun e w'' => (e = .returned (.tuple #[.int .u64 v, .nilIface])) ∧ Below w'.heap.size w' w'') :
    Calls Tryz.prog 112 #[.string s] w fun e w' => e = .returned (.tuple #[.agg #[.int .u8 2, .complex .f64 0 0, .complex .f64 0 0, .string ⟨#[]⟩, .int .i64 v], .int .i64 ((d : Int) + 1), .int .i64 0]) ∧ Below w.heap.size w w' := by
  have hsc := fun w a x y m => store_cx (P := Tryz.prog) w a .f64 x y m
  have D0 := below_tok w
  have A0 := Fv.new w (.int .u8 0) (.complex .f64 0 0) (.complex .f64 0 0) (.string ⟨#[]⟩) (.int .i64 0) 51 w.heap.size rfl
  have hlt0 : w.heap.size < (w.alloc (.cells #[.int .u8 0, .complex .f64 0 0, .complex .f64 0 0, .string ⟨#[]⟩, .int .i64 0] 51)).heap.size := by simp
  obtain ⟨c, hc⟩ : ∃ c, s[d] = c := ⟨_, rfl⟩
  rw [hc] at q72 q66 q67
  have hx0 : (0 : Int) ≤ (d : Int) := by omega
  have hx1 : (d : Int) < (s.size : Int) := by omega
  have hx2 : (d : Int) + 1 ≤ (s.size : Int) := by omega
  have hx3 : ((d : Int) + 1).toNat = d + 1 := by omega
  have hx4 : (0 : Int) ≤ (d : Int) + 1 := by omega
  have hx5 : (d : Int) ≤ (s.size : Int) := by omega
  have hw1 : IntKind.i64.wrap ((d : Int) + 1 - 1) = (d : Int) := by rw [Int.add_sub_cancel]; exact wrap_i64 _ (by omega) (by omega)
  have hw2 : IntKind.i64.wrap (d : Int) = (d : Int) := wrap_i64 _ (by omega) (by omega)
  have hw3 : IntKind.i64.wrap ((d : Int) + 1) = (d : Int) + 1 := wrap_i64 _ (by omega) (by omega)
  go_enter Tryz.func112, Tryz.ntmps112
  go_wp2_with fail
  refine (HC _).mono ?_
  rintro e w1 ⟨rfl, rfl⟩
  clear HC
  go_wp2_with fail
  refine (HP _).mono ?_
  rintro e w1 ⟨rfl, rfl⟩
  clear HP
  generalize w.alloc (.cells #[.int .u8 0, .complex .f64 0 0, .complex .f64 0 0, .string ⟨#[]⟩, .int .i64 0] 51) = w0 at D0 A0 hlt0 ⊢
  go_wp2_with fail
  go_region_held3 (fun _ => True) (first | trivial) (first | fail)
  all_goals
    go_wp2_with fail
    refine (HU _ (by first | exact D0.drew | exact D0)).mono ?_
    rintro e w1 ⟨rfl, B1⟩
    clear HU
    have B0 : Below w0.heap.size w0 w1 := (Below.refl _ _).drew.trans B1
    have A1 := A0.below B0 hlt0
    have D1 := bt D0 B0
    have g0 := A1.c0
    have g1 := A1.c1
    have g2 := A1.c2
    have g3 := A1.c3
    have g4 := A1.c4
    have e0 := A1.f0
    have e1 := A1.f1
    have e2 := A1.f2
    have e3 := A1.f3
    have e4 := A1.f4
    go_wp2_with fail
    have R := (((((A1.set0 (.int .u8 2)).set1 (.complex .f64 0 0)).set2 (.complex .f64 0 0)).set3 (.string ⟨#[]⟩)).set4 (.int .i64 v))
    have r0 := R.c0
    have r1 := R.c1
    have r2 := R.c2
    have r3 := R.c3
    have r4 := R.c4
    refine bodyPost_ret (v := .tuple #[.agg #[.int .u8 2, .complex .f64 0 0, .complex .f64 0 0, .string ⟨#[]⟩, .int .i64 v], .int .i64 ((d : Int) + 1), .int .i64 0]) (by simp [results, Tryz.results112, go_sem, r0, r1, r2, r3, r4]) rfl ?_
    exact ⟨rfl, below_set5 D1 (Nat.le_refl _) _ _ _ _ _⟩
theorem zn_D_no (s : ByteArray) (hs : s.size ≤ 1048576) (d : Nat) (hd : d < s.size) (w : World) (HC : ∀ w, Calls Tryz.prog 40 #[.string s, .func (.func 131) #[] #[]] w fun e w' => e = .returned (.int .i64 ((d : Int) + 1)) ∧ w' = w)
    (HP : ∀ w, Calls Tryz.prog 108 #[.string (s.extract (d + 1) s.size), .string ⟨#[72]⟩] w fun e w' => e = .returned (.bool false) ∧ w' = w)
    (q72 : ((s[d].toNat : Int) == 72) = false) (q66 : ((s[d].toNat : Int) == 66) = false) (q67 : ((s[d].toNat : Int) == 67) = false) 
    (HU : ∀ w', Below w.heap.size w w' → Calls Tryz.prog 132 #[.string (s.extract 0 (d + 1)), .int .i64 10, .int .i64 16] w' fun e w'' => (∃ (x : Int) (N : Nat), e = .returned (.tuple #[.int .u64 x, .iface 171 (.pointer (some ⟨N, 0, none⟩))])) ∧ Below w'.heap.size w' w'') :
    Calls Tryz.prog 112 #[.string s] w fun e w' => e = .returned (oneV (none, 0, 41)) ∧ Below w.heap.size w w' := by
  have hsc := fun w a x y m => store_cx (P := Tryz.prog) w a .f64 x y m
  have D0 := below_tok w
  have A0 := Fv.new w (.int .u8 0) (.complex .f64 0 0) (.complex .f64 0 0) (.string ⟨#[]⟩) (.int .i64 0) 51 w.heap.size rfl
  have hlt0 : w.heap.size < (w.alloc (.cells #[.int .u8 0, .complex .f64 0 0, .complex .f64 0 0, .string ⟨#[]⟩, .int .i64 0] 51)).heap.size := by simp
  obtain ⟨c, hc⟩ : ∃ c, s[d] = c := ⟨_, rfl⟩
  rw [hc] at q72 q66 q67
  have hx0 : (0 : Int) ≤ (d : Int) := by omega
  have hx1 : (d : Int) < (s.size : Int) := by omega
  have hx2 : (d : Int) + 1 ≤ (s.size : Int) := by omega
  have hx3 : ((d : Int) + 1).toNat = d + 1 := by omega
  have hx4 : (0 : Int) ≤ (d : Int) + 1 := by omega
  have hx5 : (d : Int) ≤ (s.size : Int) := by omega
  have hw1 : IntKind.i64.wrap ((d : Int) + 1 - 1) = (d : Int) := by rw [Int.add_sub_cancel]; exact wrap_i64 _ (by omega) (by omega)
  have hw2 : IntKind.i64.wrap (d : Int) = (d : Int) := wrap_i64 _ (by omega) (by omega)
  have hw3 : IntKind.i64.wrap ((d : Int) + 1) = (d : Int) + 1 := wrap_i64 _ (by omega) (by omega)
  go_enter Tryz.func112, Tryz.ntmps112
  go_wp2_with fail
  refine (HC _).mono ?_
  rintro e w1 ⟨rfl, rfl⟩
  clear HC
  go_wp2_with fail
  refine (HP _).mono ?_
  rintro e w1 ⟨rfl, rfl⟩
  clear HP
  generalize w.alloc (.cells #[.int .u8 0, .complex .f64 0 0, .complex .f64 0 0, .string ⟨#[]⟩, .int .i64 0] 51) = w0 at D0 A0 hlt0 ⊢
  go_wp2_with fail
  go_region_held3 (fun _ => True) (first | trivial) (first | fail)
  all_goals
    go_wp2_with fail
    refine (HU _ (by first | exact D0.drew | exact D0)).mono ?_
    rintro e w1 ⟨⟨x, N, rfl⟩, B1⟩
    clear HU
    have B0 : Below w0.heap.size w0 w1 := (Below.refl _ _).drew.trans B1
    have A1 := A0.below B0 hlt0
    have D1 := bt D0 B0
    have g0 := A1.c0
    have g1 := A1.c1
    have g2 := A1.c2
    have g3 := A1.c3
    have g4 := A1.c4
    have e0 := A1.f0
    have e1 := A1.f1
    have e2 := A1.f2
    have e3 := A1.f3
    have e4 := A1.f4
    go_wp2_with fail
    have R := (((((A1.set0 (.int .u8 0)).set1 (.complex .f64 0 0)).set2 (.complex .f64 0 0)).set3 (.string ⟨#[]⟩)).set4 (.int .i64 0))
    have r0 := R.c0
    have r1 := R.c1
    have r2 := R.c2
    have r3 := R.c3
    have r4 := R.c4
    refine bodyPost_ret (v := .tuple #[.agg #[.int .u8 0, .complex .f64 0 0, .complex .f64 0 0, .string ⟨#[]⟩, .int .i64 0], .int .i64 0, .int .i64 41]) (by simp [results, Tryz.results112, go_sem, r0, r1, r2, r3, r4]) rfl ?_
    exact ⟨rfl, below_set5 D1 (Nat.le_refl _) _ _ _ _ _⟩
end Go.Proofs.YtliebhpddjbjeaaGreatDoor
