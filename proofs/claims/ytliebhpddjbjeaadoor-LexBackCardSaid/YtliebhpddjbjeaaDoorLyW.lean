/- The document's answers of layer 4, walked: Alike. -/
import Derived.Test.YtliebhpddjbjeaaDoorLyV
import Derived.Deep.DeepCutAuto
import Derived.Deep.RegionHeld3
namespace Go.Proofs.YtliebhpddjbjeaaDoor
open Go.RowKit
set_option maxHeartbeats 1000000
set_option maxRecDepth 100000
set_option linter.unusedVariables false

/-- Are two tokens alike? -/
def tokEq (a b : T0) : Bool := decide (a.k = b.k) && decide (a.x = b.x) && decide (a.n = b.n)
def alikeL (a b : List TK) : Bool := decide (a.length = b.length) && (List.range a.length).all fun i => match a[i]?, b[i]? with
  | some (x : TK), some (y : TK) => tokEq x.1 y.1
  | _, _ => true
theorem own_form {w : World} {B : Nat} {v : Value} {l : List TK} (h : OwnT w B v l) : ∃ p cap, v = .slice p l.length cap := by
  rcases h.2 with ⟨h1, h2⟩ | ⟨g, cap, cur, h1, _⟩
  · exact ⟨none, 0, by rw [h1, h2]⟩
  · exact ⟨_, _, h1⟩
theorem alike_all (a b : List TK) (hl : a.length = b.length) (h : ∀ (i : Nat) (x y : TK), a[i]? = some x → b[i]? = some y → tokEq x.1 y.1 = true) : alikeL a b = true := by
  unfold alikeL
  rw [decide_eq_true hl, Bool.true_and]
  refine List.all_eq_true.2 fun i _ => ?_
  cases hx : a[i]? with
  | none => rfl
  | some x => cases hy : b[i]? with
    | none => rfl
    | some y => exact h i x y hx hy
theorem alike_not (a b : List TK) (i : Nat) (x y : TK) (hx : a[i]? = some x) (hy : b[i]? = some y) (h : tokEq x.1 y.1 = false) : alikeL a b = false := by
  cases hq : alikeL a b
  · rfl
  · unfold alikeL at hq
    simp only [Bool.and_eq_true, List.all_eq_true] at hq
    have hi : i < a.length := by
      rcases Nat.lt_or_ge i a.length with q | q
      · exact q
      · rw [List.getElem?_eq_none q] at hx; cases hx
    have := hq.2 i (List.mem_range.2 hi)
    rw [hx, hy] at this
    simp only at this
    rw [h] at this; cases this
theorem text_eq (x y : List UInt8) : ((⟨x.toArray⟩ : ByteArray).toList == (⟨y.toArray⟩ : ByteArray).toList) = decide (x = y) := by
  rw [ByteArray.toList_mk, ByteArray.toList_mk]
  by_cases h : x = y
  · rw [decide_eq_true h, beq_iff_eq.2 h]
  · rw [decide_eq_false h, beq_eq_false_iff_ne.2 h]
theorem Alike_any (a b : List TK) (ha : a.length ≤ 1048576) (va vb : Value) (w : World) (B1 B2 : Nat) (h1 : OwnT w B1 va a) (h2 : OwnT w B2 vb b) :
    Calls Tryd.prog 7 #[va, vb] w fun e w' => e = .returned (.bool (alikeL a b)) ∧ Below w.heap.size w w' := by
  obtain ⟨p, cap, hv⟩ := own_form h1
  obtain ⟨q, cap2, hv2⟩ := own_form h2
  by_cases hl : a.length = b.length
  · go_enter Tryd.func7, Tryd.ntmps7
    subst hv
    subst hv2
    have tl : ((a.length : Int) != (b.length : Int)) = false := by rw [bne, beq_iff_eq.2 (by rw [hl])]; rfl
    have HLn := Lib.hid hl
    clear hl
    go_wp2_with fail
    go_loopw [5] (fun i wr => ∃ k : Nat, k ≤ a.length ∧ i = .int .i64 k ∧ (∀ (j : Nat) (x y : TK), j < k → a[j]? = some x → b[j]? = some y → tokEq x.1 y.1 = true) ∧ Below w.heap.size w wr)
      (fun i _ => a.length - (intOf i).toNat)
    case atStart => exact ⟨0, by omega, rfl, fun j x y hj => absurd hj (by omega), Below.refl _ _⟩
    case round =>
      obtain ⟨k, hk, rfl, hno, hb⟩ := hrel
      have HN := Lib.hid hno
      clear hno
      by_cases hlt : k < a.length
      · have hltb : k < b.length := by have := HLn.out; omega
        have hxa : a[k]? = some a[k] := List.getElem?_eq_getElem hlt
        have hyb : b[k]? = some b[k] := List.getElem?_eq_getElem hltb
        obtain ⟨x, hxe⟩ : ∃ x, a[k] = x := ⟨_, rfl⟩
        obtain ⟨y, hye⟩ : ∃ y, b[k] = y := ⟨_, rfl⟩
        rw [hxe] at hxa
        rw [hye] at hyb
        obtain ⟨g, cap', hvv, _, _, c0, c1, c2, c3, c4⟩ := (h1.below hb).at k x hxa
        obtain ⟨g', cap'', hvv', _, _, d0, d1, d2, d3, d4⟩ := (h2.below hb).at k y hyb
        obtain rfl : p = some ⟨g, 0, none⟩ := by injection hvv
        obtain rfl : q = some ⟨g', 0, none⟩ := by injection hvv'
        have HXA := Lib.hid hxa
        have HYB := Lib.hid hyb
        have hte := text_eq x.1.x y.1.x
        clear hxa hyb hxe hye hvv hvv' c1 c2 d1 d2
        by_cases hk1 : x.1.k = y.1.k
        · have tk : ((x.1.k : Int) != (y.1.k : Int)) = false := by rw [bne, beq_iff_eq.2 (by rw [hk1])]; rfl
          by_cases hx1 : x.1.x = y.1.x
          · have tx : (x.1.x != y.1.x) = false := by rw [bne, beq_iff_eq.2 hx1]; rfl
            have tx2 : (x.1.x == y.1.x) = true := beq_iff_eq.2 hx1
            by_cases hn1 : x.1.n = y.1.n
            · have tn : (x.1.n != y.1.n) = false := by rw [bne, beq_iff_eq.2 hn1]; rfl
              have HK : Hid (∀ (j : Nat) (x y : TK), j < k + 1 → a[j]? = some x → b[j]? = some y → tokEq x.1 y.1 = true) := Lib.hid (by
                intro j x' y' hj hx' hy'
                by_cases hjk : j = k
                · subst hjk
                  rw [HXA.out] at hx'
                  rw [HYB.out] at hy'
                  rw [← Option.some.inj hx', ← Option.some.inj hy']
                  unfold tokEq
                  rw [decide_eq_true hk1, decide_eq_true hx1, decide_eq_true hn1]; rfl
                · exact HN.out j x' y' (by omega) hx' hy')
              clear hk1 hx1 hn1 hte
              go_wp2_with fail
              go_cut [53] (fun r wx => r = .bool false ∧ wx = wr.drew)
              case first =>
                go_region_held3 (fun w' => w'.cell? ⟨g, k * 5, none⟩ = some (.int .u8 x.1.k) ∧ w'.cell? ⟨g', k * 5, none⟩ = some (.int .u8 y.1.k) ∧ w'.cell? ⟨g, k * 5 + 3, none⟩ = some (.string ⟨x.1.x.toArray⟩) ∧ w'.cell? ⟨g', k * 5 + 3, none⟩ = some (.string ⟨y.1.x.toArray⟩) ∧ w'.cell? ⟨g, k * 5 + 4, none⟩ = some (.int .i64 x.1.n) ∧ w'.cell? ⟨g', k * 5 + 4, none⟩ = some (.int .i64 y.1.n)) (first | exact ⟨c0, d0, c3, d3, c4, d4⟩ | go_keep) (first | fail)
                all_goals
                  go_wp2_with fail
                  go_meet
                  exact ⟨rfl, rfl⟩
              case rest =>
                obtain ⟨rfl, rfl⟩ := hcut
                go_wp2_with fail
                go_roundw
                case rel => exact ⟨k + 1, by omega, by simp, HK.out, hb.drew⟩
                case measure => simp [intOf]; omega
            · have tn : (x.1.n != y.1.n) = true := by rw [bne, beq_eq_false_iff_ne.2 hn1]; rfl
              have HR : Hid (alikeL a b = false) := Lib.hid (alike_not a b k x y HXA.out HYB.out (by unfold tokEq; rw [decide_eq_false hn1]; simp))
              clear hk1 hx1 hn1 hte
              go_wp2_with fail
              go_cut [53] (fun r wx => r = .bool true ∧ wx = wr.drew)
              case first =>
                go_region_held3 (fun w' => w'.cell? ⟨g, k * 5, none⟩ = some (.int .u8 x.1.k) ∧ w'.cell? ⟨g', k * 5, none⟩ = some (.int .u8 y.1.k) ∧ w'.cell? ⟨g, k * 5 + 3, none⟩ = some (.string ⟨x.1.x.toArray⟩) ∧ w'.cell? ⟨g', k * 5 + 3, none⟩ = some (.string ⟨y.1.x.toArray⟩) ∧ w'.cell? ⟨g, k * 5 + 4, none⟩ = some (.int .i64 x.1.n) ∧ w'.cell? ⟨g', k * 5 + 4, none⟩ = some (.int .i64 y.1.n)) (first | exact ⟨c0, d0, c3, d3, c4, d4⟩ | go_keep) (first | fail)
                all_goals
                  go_wp2_with fail
                  go_meet
                  exact ⟨rfl, rfl⟩
              case rest =>
                obtain ⟨rfl, rfl⟩ := hcut
                go_wp2_with fail
                go_ret
                exact ⟨by rw [HR.out]; rfl, hb.drew⟩
          · have tx : (x.1.x != y.1.x) = true := by rw [bne, beq_eq_false_iff_ne.2 hx1]; rfl
            have tx2 : (x.1.x == y.1.x) = false := beq_eq_false_iff_ne.2 hx1
            have HR : Hid (alikeL a b = false) := Lib.hid (alike_not a b k x y HXA.out HYB.out (by unfold tokEq; rw [decide_eq_false hx1]; simp))
            clear hk1 hx1 hte
            go_wp2_with fail
            go_cut [53] (fun r wx => r = .bool true ∧ wx = wr.drew)
            case first =>
              go_region
              all_goals
                go_wp2_with fail
                go_meet
                exact ⟨rfl, rfl⟩
            case rest =>
              obtain ⟨rfl, rfl⟩ := hcut
              go_wp2_with fail
              go_ret
              exact ⟨by rw [HR.out]; rfl, hb.drew⟩
        · have tk : ((x.1.k : Int) != (y.1.k : Int)) = true := by rw [bne, beq_eq_false_iff_ne.2 (by omega)]; rfl
          have HR : Hid (alikeL a b = false) := Lib.hid (alike_not a b k x y HXA.out HYB.out (by unfold tokEq; rw [decide_eq_false hk1]; simp))
          clear hk1 hte
          go_wp2_with fail
          go_cut [53] (fun r wx => r = .bool true ∧ wx = wr.drew)
          case first =>
            go_region
            all_goals
              go_wp2_with fail
              go_meet
              exact ⟨rfl, rfl⟩
          case rest =>
            obtain ⟨rfl, rfl⟩ := hcut
            go_wp2_with fail
            go_ret
            exact ⟨by rw [HR.out]; rfl, hb.drew⟩
      · have hke : k = a.length := by omega
        have HR : Hid (alikeL a b = true) := Lib.hid (alike_all a b HLn.out (fun i x y hx hy => HN.out i x y (by
          rcases Nat.lt_or_ge i k with q | q
          · exact q
          · rw [List.getElem?_eq_none (by omega)] at hx; cases hx) hx hy))
        have hnl : ¬ (k : Int) < (a.length : Int) := by omega
        clear hke
        go_wp2_with fail
        go_ret
        exact ⟨by rw [HR.out]; rfl, hb⟩
  · have HR : Hid (alikeL a b = false) := Lib.hid (by unfold alikeL; rw [decide_eq_false hl]; rfl)
    have tl : ((a.length : Int) != (b.length : Int)) = true := by rw [bne, beq_eq_false_iff_ne.2 (by omega)]; rfl
    go_enter Tryd.func7, Tryd.ntmps7
    subst hv
    subst hv2
    clear hl
    go_wp2_with fail
    go_ret
    exact ⟨by rw [HR.out]; rfl, Below.refl _ _⟩
end Go.Proofs.YtliebhpddjbjeaaDoor
