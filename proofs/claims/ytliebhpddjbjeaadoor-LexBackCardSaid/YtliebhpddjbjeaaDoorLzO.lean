/- Package lex, walked: Join. -/
import Derived.Test.YtliebhpddjbjeaaDoorLzM
import Derived.Test.YtliebhpddjbjeaaDoorLzL
import Derived.Test.YtliebhpddjbjeaaDoorPlD
namespace Go.Proofs.YtliebhpddjbjeaaDoor
open Go.RowKit
set_option maxHeartbeats 2000000
set_option maxRecDepth 100000
set_option linter.unusedVariables false

/-- Tokens as Join takes them: such as may be, and a character's number has at most three digits to the base 8. -/
def chOk (t : T0) : Prop := txtOk t ∧ (t.k = 3 → t.n ≤ 511) ∧ (t.k = 0 ∨ t.k = 1 ∨ t.k = 2 ∨ t.k = 3 ∨ t.k = 4 ∨ t.k = 5 ∨ t.k = 6)
theorem itoa_nat (n : Int) (h : 0 ≤ n) : Lib.itoa n = Lib.decDigits n.toNat := by
  unfold Lib.itoa
  rw [if_neg (by omega)]
theorem ind_mem (c : UInt8) (x : List UInt8) : decide (0 ≤ Lib.indexByte x c) = x.contains c := by
  rw [ib_mem]
  cases h : x.contains c
  · exact decide_eq_false (fun e => by rw [List.contains_iff_mem.2 e] at h; cases h)
  · exact decide_eq_true (List.contains_iff_mem.1 h)
theorem zw_plain1 (tx : List UInt8) (tn : Int) (hx : tx.length ≤ 65536) (h0 : 0 ≤ tn) (h1 : tn ≤ 65535) (px py qx qy : Nat) (w : World) (hE : Env w) :
    Calls Tryd.prog 15 #[.agg #[.int .u8 1, .complex .f64 px py, .complex .f64 qx qy, .string ⟨tx.toArray⟩, .int .i64 tn]] w fun e w' => e = .returned (.string ⟨(txtT ⟨1, tx, tn⟩).toArray⟩) ∧ Below w.heap.size w w' := by
  have hsc := fun w a x y m => store_cx (P := Tryd.prog) w a .f64 x y m
  have HT : Hid (txtT ⟨1, tx, tn⟩ = tx) := Lib.hid (by rfl)
  have D0 := below_new w (.cells #[.int .u8 1, .complex .f64 px py, .complex .f64 qx qy, .string ⟨tx.toArray⟩, .int .i64 tn] 32)
  go_enter Tryd.func15, Tryd.ntmps15
  go_wp2_with fail
  go_ret
  exact ⟨by rw [HT.out]; first | done | rfl, D0⟩
theorem zw_plain5 (tx : List UInt8) (tn : Int) (hx : tx.length ≤ 65536) (h0 : 0 ≤ tn) (h1 : tn ≤ 65535) (px py qx qy : Nat) (w : World) (hE : Env w) :
    Calls Tryd.prog 15 #[.agg #[.int .u8 5, .complex .f64 px py, .complex .f64 qx qy, .string ⟨tx.toArray⟩, .int .i64 tn]] w fun e w' => e = .returned (.string ⟨(txtT ⟨5, tx, tn⟩).toArray⟩) ∧ Below w.heap.size w w' := by
  have hsc := fun w a x y m => store_cx (P := Tryd.prog) w a .f64 x y m
  have HT : Hid (txtT ⟨5, tx, tn⟩ = tx) := Lib.hid (by rfl)
  have D0 := below_new w (.cells #[.int .u8 5, .complex .f64 px py, .complex .f64 qx qy, .string ⟨tx.toArray⟩, .int .i64 tn] 32)
  go_enter Tryd.func15, Tryd.ntmps15
  go_wp2_with fail
  go_ret
  exact ⟨by rw [HT.out]; first | done | rfl, D0⟩
theorem zw_plain6 (tx : List UInt8) (tn : Int) (hx : tx.length ≤ 65536) (h0 : 0 ≤ tn) (h1 : tn ≤ 65535) (px py qx qy : Nat) (w : World) (hE : Env w) :
    Calls Tryd.prog 15 #[.agg #[.int .u8 6, .complex .f64 px py, .complex .f64 qx qy, .string ⟨tx.toArray⟩, .int .i64 tn]] w fun e w' => e = .returned (.string ⟨(txtT ⟨6, tx, tn⟩).toArray⟩) ∧ Below w.heap.size w w' := by
  have hsc := fun w a x y m => store_cx (P := Tryd.prog) w a .f64 x y m
  have HT : Hid (txtT ⟨6, tx, tn⟩ = tx) := Lib.hid (by rfl)
  have D0 := below_new w (.cells #[.int .u8 6, .complex .f64 px py, .complex .f64 qx qy, .string ⟨tx.toArray⟩, .int .i64 tn] 32)
  go_enter Tryd.func15, Tryd.ntmps15
  go_wp2_with fail
  go_ret
  exact ⟨by rw [HT.out]; first | done | rfl, D0⟩
theorem zw_num (tx : List UInt8) (tn : Int) (hx : tx.length ≤ 65536) (h0 : 0 ≤ tn) (h1 : tn ≤ 65535) (px py qx qy : Nat) (w : World) (hE : Env w) :
    Calls Tryd.prog 15 #[.agg #[.int .u8 2, .complex .f64 px py, .complex .f64 qx qy, .string ⟨tx.toArray⟩, .int .i64 tn]] w fun e w' => e = .returned (.string ⟨(txtT ⟨2, tx, tn⟩).toArray⟩) ∧ Below w.heap.size w w' := by
  have hsc := fun w a x y m => store_cx (P := Tryd.prog) w a .f64 x y m
  have HT : Hid (txtT ⟨2, tx, tn⟩ = Lib.itoa tn) := Lib.hid (by show Lib.decDigits tn.toNat = _; rw [itoa_nat tn h0])
  have D0 := below_new w (.cells #[.int .u8 2, .complex .f64 px py, .complex .f64 qx qy, .string ⟨tx.toArray⟩, .int .i64 tn] 32)
  have HF := fun w' hb => Tryd.strconv_FormatInt_10 tn (by omega) (by omega) w' (hE.below hb).tab
  clear hE
  go_enter Tryd.func15, Tryd.ntmps15
  go_wp2_with fail
  refine (HF _ D0).mono ?_
  rintro e w' ⟨rfl, k, os, rfl⟩
  have B1 := Lib.below_grow _ (w.alloc (.cells #[.int .u8 2, .complex .f64 px py, .complex .f64 qx qy, .string ⟨tx.toArray⟩, .int .i64 tn] 32)) (Nat.le_refl _) k os
  go_wp2_with fail
  go_ret
  exact ⟨by rw [HT.out]; first | done | rfl, bt D0 B1⟩
theorem zw_strt (tx : List UInt8) (tn : Int) (hx : tx.length ≤ 65536) (h0 : 0 ≤ tn) (h1 : tn ≤ 65535) (px py qx qy : Nat) (w : World) (hE : Env w)(hq : tx.contains 34 = true) :
    Calls Tryd.prog 15 #[.agg #[.int .u8 4, .complex .f64 px py, .complex .f64 qx qy, .string ⟨tx.toArray⟩, .int .i64 tn]] w fun e w' => e = .returned (.string ⟨(txtT ⟨4, tx, tn⟩).toArray⟩) ∧ Below w.heap.size w w' := by
  have hsc := fun w a x y m => store_cx (P := Tryd.prog) w a .f64 x y m
  have HT : Hid (txtT ⟨4, tx, tn⟩ = 39 :: (tx ++ [39])) := Lib.hid (by show (if tx.contains 34 then _ else _) = _; rw [hq]; rfl)
  have D0 := below_new w (.cells #[.int .u8 4, .complex .f64 px py, .complex .f64 qx qy, .string ⟨tx.toArray⟩, .int .i64 tn] 32)
  have HC := fun w => Tryd.strings_Contains_one ⟨tx.toArray⟩ 34 w
  rw [show (⟨tx.toArray⟩ : ByteArray).data.toList = tx by simp, ind_mem, hq] at HC
  have hsz : (⟨tx.toArray⟩ : ByteArray).size ≤ 65536 := by rw [size_of_lit]; exact hx
  have HX : Hid ((⟨#[39]⟩ : ByteArray) ++ ⟨tx.toArray⟩ ++ ⟨#[39]⟩ = ⟨(39 :: (tx ++ [39])).toArray⟩) := Lib.hid (by rw [bcat, bcat_end]; first | done | rfl)
  generalize (⟨tx.toArray⟩ : ByteArray) = t at HC HX hsz D0 ⊢
  clear hE
  go_enter Tryd.func15, Tryd.ntmps15
  go_wp2_with fail
  refine (HC _).mono ?_
  rintro e w1 ⟨rfl, rfl⟩
  go_wp2_with fail
  go_ret
  exact ⟨by rw [HT.out, ← HX.out]; first | done | rfl, D0⟩
theorem zw_strf (tx : List UInt8) (tn : Int) (hx : tx.length ≤ 65536) (h0 : 0 ≤ tn) (h1 : tn ≤ 65535) (px py qx qy : Nat) (w : World) (hE : Env w)(hq : tx.contains 34 = false) :
    Calls Tryd.prog 15 #[.agg #[.int .u8 4, .complex .f64 px py, .complex .f64 qx qy, .string ⟨tx.toArray⟩, .int .i64 tn]] w fun e w' => e = .returned (.string ⟨(txtT ⟨4, tx, tn⟩).toArray⟩) ∧ Below w.heap.size w w' := by
  have hsc := fun w a x y m => store_cx (P := Tryd.prog) w a .f64 x y m
  have HT : Hid (txtT ⟨4, tx, tn⟩ = 34 :: (tx ++ [34])) := Lib.hid (by show (if tx.contains 34 then _ else _) = _; rw [hq]; rfl)
  have D0 := below_new w (.cells #[.int .u8 4, .complex .f64 px py, .complex .f64 qx qy, .string ⟨tx.toArray⟩, .int .i64 tn] 32)
  have HC := fun w => Tryd.strings_Contains_one ⟨tx.toArray⟩ 34 w
  rw [show (⟨tx.toArray⟩ : ByteArray).data.toList = tx by simp, ind_mem, hq] at HC
  have hsz : (⟨tx.toArray⟩ : ByteArray).size ≤ 65536 := by rw [size_of_lit]; exact hx
  have HX : Hid ((⟨#[34]⟩ : ByteArray) ++ ⟨tx.toArray⟩ ++ ⟨#[34]⟩ = ⟨(34 :: (tx ++ [34])).toArray⟩) := Lib.hid (by rw [bcat, bcat_end]; first | done | rfl)
  generalize (⟨tx.toArray⟩ : ByteArray) = t at HC HX hsz D0 ⊢
  clear hE
  go_enter Tryd.func15, Tryd.ntmps15
  go_wp2_with fail
  refine (HC _).mono ?_
  rintro e w1 ⟨rfl, rfl⟩
  go_wp2_with fail
  go_ret
  exact ⟨by rw [HT.out, ← HX.out]; first | done | rfl, D0⟩
theorem own_below {w w' : World} {B e size : Nat} {v : Value} {n : Nat} {xs : List Value} (h : w.ownsRow B e size v n xs) (hb : Below w.heap.size w w') : w'.ownsRow B e size v n xs := by
  obtain ⟨h1, h2⟩ := h
  refine ⟨h1, ?_⟩
  rcases h2 with h2 | ⟨g, cap, cur, e1, e2, e3, e4, e5, e6, e7⟩
  · exact .inl h2
  · exact .inr ⟨g, cap, cur, e1, e2, (hb.block g (lt_of_heap e3)).trans e3, e4, e5, e6, e7⟩
theorem bld_below {B b : Nat} {bs : List Value} {w w' : World} (h : Lib.IsBuilder 41 5 B b bs w) (hb : Below w.heap.size w w') : Lib.IsBuilder 41 5 B b bs w' := by
  rcases h with ⟨h1, v, h2, h3, h4⟩ | ⟨h1, v, h2, h3, h4⟩
  · exact .inl ⟨h1, v, (hb.block b (lt_of_heap h2)).trans h2, own_below h3 hb, h4⟩
  · exact .inr ⟨h1, v, (hb.block b (lt_of_heap h2)).trans h2, own_below h3 hb, h4⟩
/-- Tokens as a source, from the i-th on. -/
def joinD : Nat → List T0 → List UInt8
  | _, [] => []
  | i, t :: r => (if t.k = 0 then [] else (if i = 0 then [] else [32]) ++ txtT t) ++ joinD (i + 1) r
theorem joinD_more : ∀ (l : List T0) (i : Nat), (∀ t ∈ l, tokOk t) → joinD (i + 1) l = if l = [] then [] else 32 :: joinT l
  | [], i, _ => rfl
  | t :: r, i, h => by
    obtain ⟨h1, h2⟩ := tok_txt t (h t (by simp))
    unfold joinD
    rw [if_neg h1, if_neg (by omega), joinD_more r (i + 1) (fun x hx => h x (List.mem_cons_of_mem t hx)), if_neg (List.cons_ne_nil t r), show joinT (t :: r) = if r = [] then txtT t else txtT t ++ 32 :: joinT r from rfl]
    by_cases hr : r = []
    · rw [if_pos hr, if_pos hr]; simp
    · rw [if_neg hr, if_neg hr]; simp
theorem joinD_app : ∀ (l : List T0) (i : Nat) (t : T0), t.k = 0 → joinD i (l ++ [t]) = joinD i l
  | [], i, t, h => by show joinD i [t] = []; unfold joinD; rw [if_pos h]; rfl
  | a :: r, i, t, h => by
    show joinD i (a :: (r ++ [t])) = joinD i (a :: r)
    unfold joinD
    rw [joinD_app r (i + 1) t h]
/-- What Join writes of a source's tokens. -/
theorem joinD_end (l : List T0) (t : T0) (ht : t.k = 0) (h : ∀ t ∈ l, tokOk t) : joinD 0 (l ++ [t]) = joinT l := by
  rw [joinD_app l 0 t ht]
  cases l with
  | nil => rfl
  | cons a r =>
    obtain ⟨h1, h2⟩ := tok_txt a (h a (by simp))
    unfold joinD
    rw [if_neg h1, if_pos rfl, joinD_more r 0 (fun x hx => h x (List.mem_cons_of_mem a hx)), show joinT (a :: r) = if r = [] then txtT a else txtT a ++ 32 :: joinT r from rfl]
    by_cases hr : r = []
    · rw [if_pos hr, if_pos hr]; simp
    · rw [if_neg hr, if_neg hr]; simp
/-- A token is written so. -/
def Writes (w : World) (t : T0) : Prop := (txtT t).length ≤ 65542 ∧ ∀ (w' : World) (px py qx qy : Nat), Below w.heap.size w w' →
  Calls Tryd.prog 15 #[.agg #[.int .u8 t.k, .complex .f64 px py, .complex .f64 qx qy, .string ⟨t.x.toArray⟩, .int .i64 t.n]] w' fun e w'' => e = .returned (.string ⟨(txtT t).toArray⟩) ∧ Below w'.heap.size w' w''
theorem zJoin_any (l : List TK) (hl : l.length ≤ 16385) (v : Value) (B0 : Nat) (w : World) (hown : OwnT w B0 v l) (hok : ∀ x ∈ l, x.1.k ≠ 0 → Writes w x.1) :
    Calls Tryd.prog 6 #[v] w fun e w' => e = .returned (.string ⟨(joinD 0 (l.map (·.1))).toArray⟩) ∧ Below w.heap.size w w' := by
  have hsc := fun w a x y m => store_cx (P := Tryd.prog) w a .f64 x y m
  obtain ⟨p, cap, hvv⟩ := own_form2 hown
  subst hvv
  have HOW := Lib.hid hown
  have HOK := Lib.hid hok
  clear hown hok
  have hb0 : Lib.IsBuilder 41 5 w.heap.size w.heap.size (Lib.byteCells []) (w.alloc (.cells #[.pointer none, .slice none 0 0] 41)) := Lib.fresh_isBuilder _ _ w
  have D0 := below_new w (.cells #[.pointer none, .slice none 0 0] 41)
  have HB := Lib.hid hb0
  clear hb0
  go_enter Tryd.func6, Tryd.ntmps6
  go_wp2_with fail
  go_loopw [8] (fun i wr => ∃ (k : Nat) (acc : List UInt8), i = .int .i64 k ∧ k ≤ l.length ∧ joinD 0 (l.map (·.1)) = acc ++ joinD k ((l.map (·.1)).drop k) ∧ Lib.IsBuilder 41 5 w.heap.size w.heap.size (Lib.byteCells acc) wr ∧ Below w.heap.size w wr ∧ acc.length ≤ k * 65543)
    (fun i _ => l.length - (intOf i).toNat)
  case atStart => exact ⟨0, [], rfl, by omega, by simp, HB.out, D0, by simp⟩
  case round =>
    clear D0 HB
    obtain ⟨k, acc, rfl, hk, hj, hb, hbel, hal⟩ := hrel
    have hsz := hbel.size
    by_cases hlt : k < l.length
    · have hx : l[k]? = some l[k] := List.getElem?_eq_getElem hlt
      obtain ⟨x, hxe⟩ : ∃ x, l[k] = x := ⟨_, rfl⟩
      rw [hxe] at hx
      obtain ⟨g, cap', hvv, hg1, hg2, c0, c1, c2, c3, c4⟩ := (HOW.out.below hbel).at k x hx
      obtain rfl : p = some ⟨g, 0, none⟩ := by injection hvv
      have hdrop : (l.map (·.1)).drop k = x.1 :: (l.map (·.1)).drop (k + 1) := by
        have h1 : (l.map (·.1))[k]? = some x.1 := by rw [List.getElem?_map, hx]; rfl
        have h2 : k < (l.map (·.1)).length := by rw [List.length_map]; exact hlt
        rw [List.drop_eq_getElem_cons h2]
        rw [List.getElem?_eq_getElem h2] at h1
        rw [Option.some.inj h1]
      rw [hdrop] at hj
      obtain ⟨x1, y1, e1⟩ := posV_two x.2.1.1 x.2.1.2
      obtain ⟨x2, y2, e2⟩ := posV_two x.2.2.1 x.2.2.2
      rw [e1] at c1
      rw [e2] at c2
      have hwr := HOK.out x (List.mem_of_getElem? hx)
      obtain ⟨t, ht⟩ : ∃ t, x.1 = t := ⟨_, rfl⟩
      rw [ht] at hj hwr c0 c3 c4
      have D1 := below_new wr (.cells #[.int .u8 t.k, .complex .f64 x1 y1, .complex .f64 x2 y2, .string ⟨t.x.toArray⟩, .int .i64 t.n] 32)
      have F1 := Fv.new wr (.int .u8 t.k) (.complex .f64 x1 y1) (.complex .f64 x2 y2) (.string ⟨t.x.toArray⟩) (.int .i64 t.n) 32 wr.heap.size rfl
      have hb1 := bld_below hb D1
      have hbo := hb
      have hbel1 := hbel.trans (D1.mono hsz)
      have hs1 : wr.heap.size < (wr.alloc (.cells #[.int .u8 t.k, .complex .f64 x1 y1, .complex .f64 x2 y2, .string ⟨t.x.toArray⟩, .int .i64 t.n] 32)).heap.size := by simp
      clear hvv hdrop e1 e2 hx hxe ht hb hbel
      by_cases h0 : t.k = 0
      · have hq : ((t.k : Int) == 0) = true := by rw [h0]; rfl
        have HJ : Hid (joinD 0 (l.map (·.1)) = acc ++ joinD (k + 1) ((l.map (·.1)).drop (k + 1))) := Lib.hid (by
          rw [hj]
          conv => lhs; rw [joinD]
          rw [if_pos h0]; rfl)
        have hcast : ((t.k : Nat) : Int) = 0 := by omega
        rw [hcast] at hb1 hbel1
        have HB1 := Lib.hid hb1
        have HL1 := Lib.hid hbel1
        clear hj hb1 hbel1 D1 F1 hwr hbo
        go_wp2_with fail
        go_roundw
        case rel => exact ⟨k + 1, acc, by simp, by omega, HJ.out, HB1.out, HL1.out, Nat.le_trans hal (Nat.mul_le_mul_right _ (Nat.le_succ k))⟩
        case measure => simp [intOf]; omega
      · have hq : ((t.k : Int) == 0) = false := beq_eq_false_iff_ne.2 (by omega)
        obtain ⟨htl, hW⟩ := hwr h0
        have hacc : acc.length ≤ 1073921555 := by
          have : k * 65543 ≤ 16385 * 65543 := Nat.mul_le_mul_right _ (by omega)
          omega
        have ed : (⟨(txtT t).toArray⟩ : ByteArray).size = (txtT t).length := size_of_lit _
        have estr : Lib.strCells ⟨(txtT t).toArray⟩ = Lib.byteCells (txtT t) := rfl
        have HF1 := Lib.hid F1
        have hkk : acc.length + 1 + (txtT t).length ≤ (k + 1) * 65543 := by rw [Nat.add_mul]; omega
        by_cases hk0 : k = 0
        · subst hk0
          have HJ : Hid (joinD 0 (l.map (·.1)) = (acc ++ txtT t) ++ joinD (0 + 1) ((l.map (·.1)).drop (0 + 1))) := Lib.hid (by
            rw [hj]
            conv => lhs; rw [joinD]
            rw [if_neg h0, if_pos rfl]; simp)
          clear hj F1 D1 hbo
          go_upto_region 8 with fail
          generalize wr.alloc (.cells #[.int .u8 t.k, .complex .f64 x1 y1, .complex .f64 x2 y2, .string ⟨t.x.toArray⟩, .int .i64 t.n] 32) = w1 at HF1 hb1 hbel1 hs1 ⊢
          have g0 := HF1.out.c0
          have g1 := HF1.out.c1
          have g2 := HF1.out.c2
          have g3 := HF1.out.c3
          have g4 := HF1.out.c4
          have HWr := hW w1 x1 y1 x2 y2 hbel1
          clear hW
          go_wp2_with fail
          refine HWr.mono ?_
          rintro e w2 ⟨rfl, B2⟩
          clear HWr
          have hb2 := bld_below hb1 B2
          have hbel2 := hbel1.trans (B2.mono hbel1.size)
          have HS := bld_str w.heap.size w.heap.size (Lib.byteCells acc) ⟨(txtT t).toArray⟩ w2 hb2 (by rw [Lib.byteCells_length, ed]; omega) hbel2.size
          go_wp2_with fail
          refine HS.mono ?_
          rintro e w3 ⟨rfl, hb3, B3⟩
          clear HS g0 g1 g2 g3 g4 c0 c1 c2 c3 c4
          go_wp2_with fail
          go_roundw
          case rel => exact ⟨0 + 1, acc ++ txtT t, by simp, by omega, HJ.out, .inr (by rw [estr] at hb3; simpa [Lib.byteCells] using hb3), hbel2.trans B3, by rw [List.length_append]; omega⟩
          case measure => simp [intOf]; omega
        · have hki : (0 : Int) < (k : Int) := by omega
          have HJ : Hid (joinD 0 (l.map (·.1)) = (acc ++ 32 :: txtT t) ++ joinD (k + 1) ((l.map (·.1)).drop (k + 1))) := Lib.hid (by
            rw [hj]
            conv => lhs; rw [joinD]
            rw [if_neg h0, if_neg hk0]; simp)
          clear hj F1 D1
          have HO1 := World.alloc_heap_new wr (.cells #[.int .u8 t.k, .complex .f64 x1 y1, .complex .f64 x2 y2, .string ⟨t.x.toArray⟩, .int .i64 t.n] 32)
          have hbne : wr.heap.size ≠ w.heap.size := by rcases hbo with h | h <;> (have := h.lt; omega)
          clear hbo
          go_upto_region 7 with fail
          generalize wr.alloc (.cells #[.int .u8 t.k, .complex .f64 x1 y1, .complex .f64 x2 y2, .string ⟨t.x.toArray⟩, .int .i64 t.n] 32) = w1 at HF1 hb1 hbel1 hs1 HO1 ⊢
          have HY := bld_byte w.heap.size w.heap.size (Lib.byteCells acc) 32 w1 hb1 (by rw [Lib.byteCells_length]; omega) hbel1.size
          go_wp2_with fail
          refine HY.mono ?_
          rintro e w1' ⟨rfl, hb1', B1', hsp⟩
          clear HY
          have hO2 := hsp _ _ HO1 hbne (fun cs fr h => by cases h)
          have F2 := HF1.out.same (hO2.trans HO1.symm)
          have g0 := F2.c0
          have g1 := F2.c1
          have g2 := F2.c2
          have g3 := F2.c3
          have g4 := F2.c4
          have hbel1' := hbel1.trans B1'
          have HWr := hW w1' x1 y1 x2 y2 hbel1'
          clear hW HO1 hO2
          go_wp2_with fail
          refine HWr.mono ?_
          rintro e w2 ⟨rfl, B2⟩
          clear HWr
          have hb2 := bld_below (.inr hb1') B2
          have hbel2 := hbel1'.trans (B2.mono hbel1'.size)
          have HS := bld_str w.heap.size w.heap.size (Lib.byteCells acc ++ [.int .u8 32]) ⟨(txtT t).toArray⟩ w2 hb2 (by rw [List.length_append, Lib.byteCells_length, ed]; simp; omega) hbel2.size
          go_wp2_with fail
          refine HS.mono ?_
          rintro e w3 ⟨rfl, hb3, B3⟩
          clear HS g0 g1 g2 g3 g4 c0 c1 c2 c3 c4
          go_wp2_with fail
          go_roundw
          case rel => exact ⟨k + 1, acc ++ 32 :: txtT t, by simp, by omega, HJ.out, .inr (by rw [estr] at hb3; simpa [Lib.byteCells] using hb3), hbel2.trans B3, by rw [List.length_append, List.length_cons]; omega⟩
          case measure => simp [intOf]; omega
    · have hke : k = l.length := by omega
      have hdn : (l.map (·.1)).drop k = [] := List.drop_of_length_le (by rw [List.length_map]; omega)
      have HT : Hid (joinD 0 (l.map (·.1)) = acc) := Lib.hid (by rw [hj, hdn]; simp [joinD])
      have HS := Tryd.Builder_String_any w.heap.size w.heap.size acc wr hb hsz
      have hnl : ¬ (k : Int) < (l.length : Int) := by omega
      go_wp2_with fail
      refine HS.mono ?_
      rintro e w3 ⟨rfl, B3⟩
      go_wp2_with fail
      go_ret
      exact ⟨by rw [HT.out]; first | done | rfl, hbel.trans B3⟩
end Go.Proofs.YtliebhpddjbjeaaDoor
