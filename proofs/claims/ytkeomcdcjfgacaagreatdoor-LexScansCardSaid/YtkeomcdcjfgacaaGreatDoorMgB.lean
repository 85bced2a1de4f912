/- Several texts in one: LyR LyS LyT LzM LzO LzP LzS. -/
import Derived.Test.YtkeomcdcjfgacaaGreatDoorMgA
import Derived.Test.YtkeomcdcjfgacaaGreatDoorLyQ
import Derived.Test.YtkeomcdcjfgacaaGreatDoorLyW
import Derived.Deep.DeepCutAuto
import Derived.Deep.RegionHeld3
import Derived.Laws.Cover3
import Derived.Test.YtkeomcdcjfgacaaGreatDoorPpEv
import Derived.Laws.AppendOwn
import Derived.Deep.Onto
import Derived.Deep.AppendLies
import Derived.Test.YtkeomcdcjfgacaaGreatDoorLzL
import Derived.Test.YtkeomcdcjfgacaaGreatDoorPlD
import Derived.Test.YtkeomcdcjfgacaaGreatDoorPpC
/- LyR -/
namespace Go.Proofs.YtkeomcdcjfgacaaGreatDoor
open Go.RowKit
set_option maxHeartbeats 1000000
set_option maxRecDepth 100000
set_option linter.unusedVariables false

theorem cat3 (a b : List UInt8) : (⟨a.toArray⟩ : ByteArray) ++ ⟨#[32]⟩ ++ ⟨b.toArray⟩ = ⟨(a ++ 32 :: b).toArray⟩ := by
  apply ByteArray.ext; simp
theorem Join_any (l : List TK) (hl : l.length ≤ 16385) (hok : allOk l) (v : Value) (w : World) (B : Nat) (h : OwnT w B v l) :
    Calls Tryz.prog 14 #[v] w fun e w' => e = .returned (.string ⟨((l.map (·.1)).foldl jn []).toArray⟩) ∧ Below w.heap.size w w' := by
  have HOK := Lib.hid hok
  clear hok
  obtain ⟨p, cap, hv⟩ : ∃ p cap, v = .slice p l.length cap := by
    rcases h.2 with ⟨h1, h2⟩ | ⟨g, cap, cur, h1, _⟩
    · exact ⟨none, 0, by rw [h1, h2]⟩
    · exact ⟨_, _, h1⟩
  go_enter Tryz.func14, Tryz.ntmps14
  subst hv
  go_wp2_with fail
  go_loopw [3, 4] (fun s i wr => ∃ (k : Nat) (acc : List UInt8), k ≤ l.length ∧ i = .int .i64 k ∧ s = .string ⟨acc.toArray⟩ ∧ acc = ((l.take k).map (·.1)).foldl jn [] ∧ acc.length ≤ k * 65543 ∧ Below w.heap.size w wr)
    (fun _ i _ => l.length - (intOf i).toNat)
  case atStart => exact ⟨0, [], by omega, rfl, rfl, rfl, by simp, Below.refl _ _⟩
  case round =>
    obtain ⟨k, acc, hk, rfl, rfl, hacc, hal, hb⟩ := hrel
    have HA := Lib.hid hacc
    have HAL := Lib.hid hal
    clear hacc hal
    by_cases hlt : k < l.length
    · have hx : l[k]? = some l[k] := List.getElem?_eq_getElem hlt
      obtain ⟨x, hxe⟩ : ∃ x, l[k] = x := ⟨_, rfl⟩
      rw [hxe] at hx
      obtain ⟨g, cap', hvv, _, _, c0, c1, c2, c3, c4⟩ := (h.below hb).at k x hx
      obtain rfl : p = some ⟨g, 0, none⟩ := by injection hvv
      have hxo := HOK.out x (List.mem_of_getElem? hx)
      have HK : Hid (((l.take (k + 1)).map (·.1)).foldl jn [] = jn acc x.1) := Lib.hid (by
        rw [List.take_add_one, hx, HA.out]
        simp)
      obtain ⟨t, ⟨px, py⟩, ⟨qx, qy⟩⟩ := x
      obtain ⟨x1, y1, e1⟩ := posV_two px py
      obtain ⟨x2, y2, e2⟩ := posV_two qx qy
      simp only [e1, e2] at c0 c1 c2 c3 c4
      have hT := fun w => Text_any t hxo.1 x1 y1 x2 y2 w
      have hjl := jn_len acc t hxo.1
      have htl := txt_len t hxo.1
      have HTL := Lib.hid htl
      clear e1 e2 hx hxe hvv
      by_cases hz : t.k = 0
      · have HJ : Hid (jn acc t = acc) := Lib.hid (by unfold jn; rw [if_pos hz])
        have tz : ((t.k : Int) == 0) = true := by rw [hz]; rfl
        clear hT hxo hz
        go_wp2_with fail
        go_roundw
        case rel => exact ⟨k + 1, acc, by omega, by simp, rfl, by rw [HK.out, HJ.out], by rw [Nat.add_mul, Nat.one_mul]; exact Nat.le_trans HAL.out (Nat.le_add_right _ _), hb⟩
        case measure => simp [intOf]; omega
      · have tz : ((t.k : Int) == 0) = false := by rw [beq_eq_false_iff_ne]; omega
        by_cases ha : acc = []
        · have HJ : Hid (jn acc t = txtT t) := Lib.hid (by unfold jn; rw [if_neg hz, if_pos ha])
          subst ha
          clear hz
          go_wp2_with fail
          refine (hT _).mono ?_
          rintro e w2 ⟨rfl, B2⟩
          clear hT
          go_wp2_with fail
          go_roundw
          case rel => exact ⟨k + 1, txtT t, by omega, by simp, congrArg Value.string (by apply ByteArray.ext; simp), by rw [HK.out, HJ.out], by rw [Nat.add_mul, Nat.one_mul]; exact Nat.le_trans HTL.out (Nat.le_trans (Nat.le_succ _) (Nat.le_add_left _ _)), hb.trans (B2.mono hb.size)⟩
          case measure => simp [intOf]; omega
        · have HJ : Hid (jn acc t = acc ++ 32 :: txtT t) := Lib.hid (by unfold jn; rw [if_neg hz, if_neg ha])
          have he : acc.isEmpty = false := by
            cases acc with
            | nil => exact absurd rfl ha
            | cons a r => rfl
          have hk16 : acc.length ≤ 1073922055 := Nat.le_trans HAL.out (Nat.le_trans (Nat.mul_le_mul_right 65543 (Nat.le_trans hk hl)) (Nat.le_of_ble_eq_true rfl))
          have HJL : Hid ((acc ++ 32 :: txtT t).length ≤ (k + 1) * 65543) := Lib.hid (by rw [← HJ.out, Nat.add_mul, Nat.one_mul]; exact Nat.le_trans hjl (Nat.add_le_add_right HAL.out _))
          clear hz ha hjl
          go_wp2_with fail
          refine (hT _).mono ?_
          rintro e w2 ⟨rfl, B2⟩
          clear hT
          go_wp2_with fail
          go_roundw
          case rel => exact ⟨k + 1, acc ++ 32 :: txtT t, by omega, by simp, by rw [cat3], by rw [HK.out, HJ.out], HJL.out, hb.trans (B2.mono hb.size)⟩
          case measure => simp [intOf]; omega
    · have hke : k = l.length := by omega
      have HR : Hid ((l.map (·.1)).foldl jn [] = acc) := Lib.hid (by rw [HA.out, hke, List.take_length])
      have hnl : ¬ (k : Int) < (l.length : Int) := by omega
      clear hke
      go_wp2_with fail
      go_ret
      exact ⟨ret_str (by rw [HR.out]), hb⟩
end Go.Proofs.YtkeomcdcjfgacaaGreatDoor
/- LyS -/
namespace Go.Proofs.YtkeomcdcjfgacaaGreatDoor
open Go.RowKit
set_option maxHeartbeats 1000000
set_option maxRecDepth 100000
set_option linter.unusedVariables false

theorem scan_long (s : ByteArray) (hs : 16384 < s.size) (w : World) :
    Calls Tryz.prog 7 #[.string s] w fun e w' => e = .returned (.tuple #[.slice none 0 0, posV 1 1, .int .i64 5]) ∧ Below w.heap.size w w' := by
  have D0 := below_new w (.cells #[.int .i64 1, .int .i64 1] 40)
  have hq : (16384 : Int) < (s.size : Int) := by omega
  have HP := fun w => Pos_any 1 1 w
  go_enter Tryz.func7, Tryz.ntmps7
  go_wp2_with fail
  refine (HP _).mono ?_
  rintro e w1 ⟨rfl, B1⟩
  go_wp2_with fail
  go_ret3
  exact ⟨rfl, bt D0 B1⟩
end Go.Proofs.YtkeomcdcjfgacaaGreatDoor
/- LyT -/
namespace Go.Proofs.YtkeomcdcjfgacaaGreatDoor
open Go.RowKit
set_option maxHeartbeats 1000000
set_option maxRecDepth 100000
set_option linter.unusedVariables false

theorem fpart_fl (ok : Bool) (n : Int) (h : ok = true → 0 ≤ n ∧ n ≤ 1073741824) : ∃ m, m < 2 ^ 53 ∧ fpart ok n = flN m := by
  cases ok
  · exact ⟨0, by omega, rfl⟩
  · have := h rfl
    exact ⟨n.toNat, by omega, rfl⟩
theorem neq_same {P : Program} (l c : Int) (t : TypeId) (w : World) : (binOp .neq t (posV l c) (posV l c)).run P w = .ok (.bool false) w := by
  have hl : isP l c = true → (0 ≤ l ∧ l ≤ 1073741824) ∧ (0 ≤ c ∧ c ≤ 1073741824) := fun h => by
    have := (isP_iff l c).1 h; omega
  obtain ⟨m, m1, e1⟩ := fpart_fl (isP l c) l (fun h => (hl h).1)
  obtain ⟨n, n1, e2⟩ := fpart_fl (isP l c) c (fun h => (hl h).2)
  have q1 : FloatKind.f64.format.order (flN m) (flN m) = some .eq := by
    rw [show FloatKind.f64.format.order (flN m) (flN m) = _ from order_fl m m m1 m1, Nat.compare_eq_eq.2 rfl]
  have q2 : FloatKind.f64.format.order (flN n) (flN n) = some .eq := by
    rw [show FloatKind.f64.format.order (flN n) (flN n) = _ from order_fl n n n1 n1, Nat.compare_eq_eq.2 rfl]
  unfold posV
  rw [e1, e2, run_neq_complex, q1, q2]; rfl
theorem alike_self (a : List TK) : alikeL a a = true := alike_all a a rfl (fun i x y hx hy => by
  rw [hx] at hy
  rw [← Option.some.inj hy]
  unfold tokEq; simp)
theorem Same_self (a : List TK) (ha : a.length ≤ 1048576) (va vb : Value) (w : World) (B1 B2 : Nat) (h1 : OwnT w B1 va a) (h2 : OwnT w B2 vb a) :
    Calls Tryz.prog 8 #[va, vb] w fun e w' => e = .returned (.bool true) ∧ Below w.heap.size w w' := by
  obtain ⟨p, cap, hv⟩ := own_form h1
  obtain ⟨q, cap2, hv2⟩ := own_form h2
  have HAl := fun w h1 h2 => Alike_any a a ha va vb w B1 B2 h1 h2
  rw [alike_self a] at HAl
  subst hv
  subst hv2
  go_enter Tryz.func8, Tryz.ntmps8
  go_wp2_with fail
  refine (HAl _ h1 h2).mono ?_
  rintro e w1 ⟨rfl, D0⟩
  clear HAl
  go_wp2_with fail
  go_loopw [5] (fun i wr => ∃ k : Nat, k ≤ a.length ∧ i = .int .i64 k ∧ Below w.heap.size w wr)
    (fun i _ => a.length - (intOf i).toNat)
  case atStart => exact ⟨0, by omega, rfl, D0⟩
  case round =>
    clear D0
    obtain ⟨k, hk, rfl, hb⟩ := hrel
    by_cases hlt : k < a.length
    · have hxa : a[k]? = some a[k] := List.getElem?_eq_getElem hlt
      obtain ⟨x, hxe⟩ : ∃ x, a[k] = x := ⟨_, rfl⟩
      rw [hxe] at hxa
      obtain ⟨g, cap', hvv, _, _, c0, c1, c2, c3, c4⟩ := (h1.below hb).at k x hxa
      obtain ⟨g', cap'', hvv', _, _, d0, d1, d2, d3, d4⟩ := (h2.below hb).at k x hxa
      obtain rfl : p = some ⟨g, 0, none⟩ := by injection hvv
      obtain rfl : q = some ⟨g', 0, none⟩ := by injection hvv'
      have n1 := fun t w => neq_same (P := Tryz.prog) x.2.1.1 x.2.1.2 t w
      have n2 := fun t w => neq_same (P := Tryz.prog) x.2.2.1 x.2.2.2 t w
      obtain ⟨x1, y1, e1⟩ := posV_two x.2.1.1 x.2.1.2
      obtain ⟨x2, y2, e2⟩ := posV_two x.2.2.1 x.2.2.2
      simp only [e1, e2] at c1 c2 d1 d2 n1 n2
      clear hxa hxe hvv hvv' c0 c3 c4 d0 d3 d4 e1 e2
      go_wp2_with fail
      go_cut [39] (fun r wx => r = .bool false ∧ wx = wr.drew)
      case first =>
        go_region_held3 (fun w' => w'.cell? ⟨g, k * 5 + 1, none⟩ = some (.complex .f64 x1 y1) ∧ w'.cell? ⟨g', k * 5 + 1, none⟩ = some (.complex .f64 x1 y1) ∧ w'.cell? ⟨g, k * 5 + 2, none⟩ = some (.complex .f64 x2 y2) ∧ w'.cell? ⟨g', k * 5 + 2, none⟩ = some (.complex .f64 x2 y2)) (first | exact ⟨c1, d1, c2, d2⟩ | go_keep) (first | fail)
        all_goals
          go_wp2_with fail
          go_meet
          exact ⟨rfl, rfl⟩
      case rest =>
        obtain ⟨rfl, rfl⟩ := hcut
        go_wp2_with fail
        go_roundw
        case rel => exact ⟨k + 1, by omega, by simp, hb.drew⟩
        case measure => simp [intOf]; omega
    · have hnl : ¬ (k : Int) < (a.length : Int) := by omega
      go_wp2_with fail
      go_ret
      exact ⟨rfl, hb⟩
end Go.Proofs.YtkeomcdcjfgacaaGreatDoor
/- LzM -/
namespace Go.Proofs.YtkeomcdcjfgacaaGreatDoor
open Go.RowKit
set_option maxHeartbeats 2000000
set_option maxRecDepth 100000
set_option linter.unusedVariables false

theorem bld_used (b : Nat) (w : World) (h0 : w.cell? ⟨b, 0, none⟩ = some (.pointer (some ⟨b, 0, none⟩))) :
    Calls Tryz.prog 44 #[.pointer (some ⟨b, 0, none⟩)] w fun e w' => e = .returned (.tuple #[]) ∧ w' = w := by
  obtain ⟨j, hj, _⟩ := Option.map_eq_some_iff.1 Tryz.Builder_Extra_169.sizeBuilder
  go_enter Tryz.func44, Tryz.ntmps44
  go_wp2_with fail
  rw [Lib.run_neq_ptr_same w _ Tryz.underlying49 hj]
  go_wp2_with fail
  go_end0
  exact ⟨rfl, rfl⟩
theorem bld_fresh (b : Nat) (w : World) (h0 : w.cell? ⟨b, 0, none⟩ = some (.pointer none)) (hsh : w.shape? b = some (52, 2)) (hfz : w.frozen? ⟨b, 0, none⟩ = false) :
    Calls Tryz.prog 44 #[.pointer (some ⟨b, 0, none⟩)] w fun e w' => e = .returned (.tuple #[]) ∧ w' = w.setCell ⟨b, 0, none⟩ (.pointer (some ⟨b, 0, none⟩)) := by
  obtain ⟨j, hj, hjs⟩ := Option.map_eq_some_iff.1 Tryz.Builder_Extra_169.sizeBuilder
  go_enter Tryz.func44, Tryz.ntmps44
  go_wp2_with fail
  rw [Lib.run_to_unsafe w ⟨b, 0, none⟩ Tryz.underlying49 Tryz.underlying80 hj (by rw [hjs]; decide) hsh (Nat.zero_lt_succ 1)]
  simp only [Result.andThen]
  rw [Oper.upon_value]
  go_wp2_with fail
  rw [run_callFunc_extern Tryz.func60 (by kernel_rfl) (by kernel_rfl) (by kernel_rfl) (e := Extern.AbiNoEscape.same) (by kernel_rfl)]
  rw [Lib.run_noEscape]
  simp only [Result.andThen]
  rw [Oper.upon_value]
  go_wp2_with fail
  rw [Lib.run_from_unsafe w ⟨b, 0, none⟩ Tryz.underlying80 Tryz.underlying49 hj hsh Tryz.Builder_Extra_169.liesBuilder]
  simp only [Result.andThen]
  rw [Oper.upon_value]
  go_wp2_with fail
  go_end0
  exact ⟨rfl, rfl⟩
/-- Blocks that are no rows of bytes, and not the builder's, lie as they lay. -/
def Spares (b : Nat) (w w' : World) : Prop := ∀ (j : Nat) (o : Obj), w.heap[j]? = some o → j ≠ b → (∀ cs fr, o ≠ .cells cs 5 fr) → w'.heap[j]? = some o
theorem bld_check (B b : Nat) (bs : List Value) (w : World) (h : Lib.IsBuilder 52 5 B b bs w) :
    Calls Tryz.prog 44 #[.pointer (some ⟨b, 0, none⟩)] w fun e w' => e = .returned (.tuple #[]) ∧ (Lib.BuilderAt 52 5 B b (.pointer (some ⟨b, 0, none⟩)) bs w' ∧ Below B w w' ∧ Spares b w w') := by
  rcases h with h | h
  · refine (bld_fresh b w h.cell0 h.shape h.frozen0).mono ?_
    rintro e w' ⟨rfl, rfl⟩
    exact ⟨rfl, h.used _, (Below.refl B w).setCell (p := ⟨b, 0, none⟩) h.1 _, fun j o ho hj _ => (Below.heap_setCell w ⟨b, 0, none⟩ _ j hj).trans ho⟩
  · refine (bld_used b w h.cell0).mono ?_
    rintro e w' ⟨rfl, rfl⟩
    exact ⟨rfl, h, Below.refl B _, fun j o ho _ _ => ho⟩
/-- The block in which a builder lies, ahead of a store of its buffer. -/
theorem bld_cells {B b : Nat} {v : Value} {W w : World} {row : Option Nat} (hbk : W.heap[b]? = some (.cells #[.pointer (some ⟨b, 0, none⟩), v] 52 (0, 0))) (hg : W.grownBy w row) (hne : some b ≠ row) :
    w.heap[b]? = some (.cells #[.pointer (some ⟨b, 0, none⟩), v] 52 (0, 0)) := (hg.block b (Array.getElem?_eq_some_iff.1 hbk).1 hne).trans hbk
theorem bld_byte (B b : Nat) (bs : List Value) (c : Int) (w : World) (h : Lib.IsBuilder 52 5 B b bs w) (hlen : bs.length + 1 ≤ 140737488355328) (hBw : B ≤ w.heap.size) :
    Calls Tryz.prog 29 #[.pointer (some ⟨b, 0, none⟩), .int .u8 c] w fun e w' => e = .returned .nilIface ∧ (Lib.BuilderAt 52 5 B b (.pointer (some ⟨b, 0, none⟩)) (bs ++ [.int .u8 c]) w' ∧ Below B w w' ∧ Spares b w w') := by
  obtain ⟨i0, hi, hz0, hz1, hz2⟩ := info_parts Tryz.Builder_Extra_169.infoByte
  have HC := bld_check B b bs w h
  go_enter Tryz.func29, Tryz.ntmps29
  go_wp2_with fail
  refine HC.mono ?_
  rintro e w1 ⟨rfl, h1, hb1, hsp⟩
  obtain ⟨hB, v, hbk, hown, hne⟩ := h1
  have c0 : w1.cell? ⟨b, 0, none⟩ = some (.pointer (some ⟨b, 0, none⟩)) := by rw [Lib.cell_of_heap hbk]; rfl
  have c1 : w1.cell? ⟨b, 1, none⟩ = some v := by rw [Lib.cell_of_heap hbk]; rfl
  have hs1 := hb1.size
  go_wp2_with (at_builtin; refine wpList_append_own _ rfl _ _ 50 rfl B 5 i0 (.int .u8 0) 1 1 Tryz.underlying50 hi hz0 hz1 hz2 rfl (by decide) _ _ _ rfl (hown.alloc _) ⟨w1.heap.size, 0, none⟩ 1 1 [.int .u8 c] rfl rfl ?c1 ?c2 ?c3 ?c4 ?c5 ?_)
  case c1 =>
    intro j u hj
    match j, hj with
    | 0, hj => simp at hj; subst hj; simp [Addr.add]
  case c2 => intro u hu; simp at hu; subst hu; rfl
  case c3 => unfold maxLen; omega
  case c4 => omega
  case c5 => simp; omega
  intro v' w2 hown' hgrow _
  have hlt : b < w1.heap.size := (Array.getElem?_eq_some_iff.1 hbk).1
  have hb2 := bld_cells (B := B) ((Lib.alloc_old w1 (.cells #[.int .u8 c] 5) b hlt).trans hbk) hgrow (fun e => hne e.symm)
  have d0 : w2.cell? ⟨b, 0, none⟩ = some (.pointer (some ⟨b, 0, none⟩)) := by rw [Lib.cell_of_heap hb2]; rfl
  have d1 : w2.cell? ⟨b, 1, none⟩ = some v := by rw [Lib.cell_of_heap hb2]; rfl
  have f1 : w2.frozen? ⟨b, 1, none⟩ = false := Lib.frozen_of_heap hb2 1
  obtain ⟨g, cap, rfl, _, _⟩ := World.ownsRow.form hown' (by omega)
  go_wp2_with fail
  go_ret
  refine ⟨rfl, ?_, ?_, fun j o ho hj hno => ?_⟩
  · exact Lib.BuilderAt.put (T := 52) (e := 5) hB hb2 (bs' := bs ++ [.int .u8 c]) (by simpa using hown') Tryz.Builder_Extra_169.neB5
  · exact ((hb1.alloc (by omega) _).grown hgrow (by simp; omega) (fun k hk => (hown.lt k hk).1)).setCell (p := ⟨b, 1, none⟩) hB _
  · have h1 := hsp j o ho hj hno
    have hj1 : j < w1.heap.size := (Array.getElem?_eq_some_iff.1 h1).1
    refine (Below.heap_setCell w2 ⟨b, 1, none⟩ _ j hj).trans ((hgrow.block j (by simp; omega) (fun e => ?_)).trans ((Lib.alloc_old w1 _ j hj1).trans h1))
    rcases hown.2 with ⟨hv, _⟩ | ⟨g, cap, cur, hv, _, hg, _⟩
    · rw [hv] at e; cases e
    · rw [hv] at e
      have hjg : j = g := by simpa [Value.ownBlock] using e
      subst hjg
      rw [h1] at hg
      exact hno _ _ (Option.some.inj hg)
theorem bld_str (B b : Nat) (bs : List Value) (s : ByteArray) (w : World) (h : Lib.IsBuilder 52 5 B b bs w) (hlen : bs.length + s.size ≤ 140737488355328) (hBw : B ≤ w.heap.size) :
    Calls Tryz.prog 30 #[.pointer (some ⟨b, 0, none⟩), .string s] w fun e w' => e = .returned (.tuple #[.int .i64 s.size, .nilIface]) ∧ (Lib.BuilderAt 52 5 B b (.pointer (some ⟨b, 0, none⟩)) (bs ++ Lib.strCells s) w' ∧ Below B w w') := by
  obtain ⟨i0, hi, hz0, hz1, hz2⟩ := info_parts Tryz.Builder_Extra_169.infoByte
  have HC := bld_check B b bs w h
  go_enter Tryz.func30, Tryz.ntmps30
  go_wp2_with fail
  refine HC.mono ?_
  rintro e w1 ⟨rfl, h1, hb1, hsp⟩
  obtain ⟨hB, v, hbk, hown, hne⟩ := h1
  have c0 : w1.cell? ⟨b, 0, none⟩ = some (.pointer (some ⟨b, 0, none⟩)) := by rw [Lib.cell_of_heap hbk]; rfl
  have c1 : w1.cell? ⟨b, 1, none⟩ = some v := by rw [Lib.cell_of_heap hbk]; rfl
  have hs1 := hb1.size
  go_wp2_with (at_builtin; refine Lib.wpList_append_own_string _ rfl _ _ 50 9 rfl B 5 i0 Tryz.underlying50 Tryz.underlying9 hi hz0 hz1 hz2 _ _ _ rfl hown s rfl ?c3 ?c4 ?c5 ?_)
  case c3 => unfold maxLen; omega
  case c4 => omega
  case c5 => omega
  intro v' w2 hown' hgrow _
  have hb2 := bld_cells (B := B) hbk hgrow (fun e => hne e.symm)
  have d0 : w2.cell? ⟨b, 0, none⟩ = some (.pointer (some ⟨b, 0, none⟩)) := by rw [Lib.cell_of_heap hb2]; rfl
  have d1 : w2.cell? ⟨b, 1, none⟩ = some v := by rw [Lib.cell_of_heap hb2]; rfl
  have f1 : w2.frozen? ⟨b, 1, none⟩ = false := Lib.frozen_of_heap hb2 1
  obtain ⟨ao, n', cap, rfl⟩ : ∃ ao n' cap, v' = .slice ao n' cap := by
    rcases hown'.2 with ⟨hv, _⟩ | ⟨g, cap, cur, hv, _⟩
    · exact ⟨_, _, _, hv⟩
    · exact ⟨_, _, _, hv⟩
  go_wp2_with fail
  go_ret2
  refine ⟨rfl, ?_, ?_⟩
  · exact Lib.BuilderAt.put (T := 52) (e := 5) hB hb2 (bs' := bs ++ Lib.strCells s) (by simpa [Lib.strCells_length] using hown') Tryz.Builder_Extra_169.neB5
  · exact (hb1.grown hgrow (by omega) (fun k hk => (hown.lt k hk).1)).setCell (p := ⟨b, 1, none⟩) hB _
end Go.Proofs.YtkeomcdcjfgacaaGreatDoor
/- LzO -/
namespace Go.Proofs.YtkeomcdcjfgacaaGreatDoor
open Go.RowKit
set_option maxHeartbeats 2000000
set_option maxRecDepth 100000
set_option linter.unusedVariables false

/-- Tokens as Join takes them: such as may be, and a character's number has at most three digits to the base 8. -/
def chOk (t : T0) : Prop := txtOk t ∧ (t.k = 3 → t.n ≤ 511) ∧ (t.k = 0 ∨ t.k = 1 ∨ t.k = 2 ∨ t.k = 3 ∨ t.k = 4 ∨ t.k = 5 ∨ t.k = 6)
theorem itoa_nat (n : Int) (h : 0 ≤ n) : Lib.itoa n = Lib.decDigits n.toNat := by
  unfold Lib.itoa
  rw [if_neg (by omega)]
theorem ind_mem (c : UInt8) (x : List UInt8) : decide (0 ≤ Lib.indexByte x c) = x.contains c := by
  rw [ib_mem]
  cases h : x.contains c
  · exact decide_eq_false (fun e => by rw [List.contains_iff_mem.2 e] at h; cases h)
  · exact decide_eq_true (List.contains_iff_mem.1 h)
theorem zw_plain1 (tx : List UInt8) (tn : Int) (hx : tx.length ≤ 65536) (h0 : 0 ≤ tn) (h1 : tn ≤ 65535) (px py qx qy : Nat) (w : World) (hE : Env w) :
    Calls Tryz.prog 31 #[.agg #[.int .u8 1, .complex .f64 px py, .complex .f64 qx qy, .string ⟨tx.toArray⟩, .int .i64 tn]] w fun e w' => e = .returned (.string ⟨(txtT ⟨1, tx, tn⟩).toArray⟩) ∧ Below w.heap.size w w' := by
  have hsc := fun w a x y m => store_cx (P := Tryz.prog) w a .f64 x y m
  have HT : Hid (txtT ⟨1, tx, tn⟩ = tx) := Lib.hid (by rfl)
  have D0 := below_new w (.cells #[.int .u8 1, .complex .f64 px py, .complex .f64 qx qy, .string ⟨tx.toArray⟩, .int .i64 tn] 33)
  go_enter Tryz.func31, Tryz.ntmps31
  go_wp2_with fail
  go_ret
  exact ⟨by rw [HT.out]; first | done | rfl, D0⟩
theorem zw_plain5 (tx : List UInt8) (tn : Int) (hx : tx.length ≤ 65536) (h0 : 0 ≤ tn) (h1 : tn ≤ 65535) (px py qx qy : Nat) (w : World) (hE : Env w) :
    Calls Tryz.prog 31 #[.agg #[.int .u8 5, .complex .f64 px py, .complex .f64 qx qy, .string ⟨tx.toArray⟩, .int .i64 tn]] w fun e w' => e = .returned (.string ⟨(txtT ⟨5, tx, tn⟩).toArray⟩) ∧ Below w.heap.size w w' := by
  have hsc := fun w a x y m => store_cx (P := Tryz.prog) w a .f64 x y m
  have HT : Hid (txtT ⟨5, tx, tn⟩ = tx) := Lib.hid (by rfl)
  have D0 := below_new w (.cells #[.int .u8 5, .complex .f64 px py, .complex .f64 qx qy, .string ⟨tx.toArray⟩, .int .i64 tn] 33)
  go_enter Tryz.func31, Tryz.ntmps31
  go_wp2_with fail
  go_ret
  exact ⟨by rw [HT.out]; first | done | rfl, D0⟩
theorem zw_plain6 (tx : List UInt8) (tn : Int) (hx : tx.length ≤ 65536) (h0 : 0 ≤ tn) (h1 : tn ≤ 65535) (px py qx qy : Nat) (w : World) (hE : Env w) :
    Calls Tryz.prog 31 #[.agg #[.int .u8 6, .complex .f64 px py, .complex .f64 qx qy, .string ⟨tx.toArray⟩, .int .i64 tn]] w fun e w' => e = .returned (.string ⟨(txtT ⟨6, tx, tn⟩).toArray⟩) ∧ Below w.heap.size w w' := by
  have hsc := fun w a x y m => store_cx (P := Tryz.prog) w a .f64 x y m
  have HT : Hid (txtT ⟨6, tx, tn⟩ = tx) := Lib.hid (by rfl)
  have D0 := below_new w (.cells #[.int .u8 6, .complex .f64 px py, .complex .f64 qx qy, .string ⟨tx.toArray⟩, .int .i64 tn] 33)
  go_enter Tryz.func31, Tryz.ntmps31
  go_wp2_with fail
  go_ret
  exact ⟨by rw [HT.out]; first | done | rfl, D0⟩
theorem zw_num (tx : List UInt8) (tn : Int) (hx : tx.length ≤ 65536) (h0 : 0 ≤ tn) (h1 : tn ≤ 65535) (px py qx qy : Nat) (w : World) (hE : Env w) :
    Calls Tryz.prog 31 #[.agg #[.int .u8 2, .complex .f64 px py, .complex .f64 qx qy, .string ⟨tx.toArray⟩, .int .i64 tn]] w fun e w' => e = .returned (.string ⟨(txtT ⟨2, tx, tn⟩).toArray⟩) ∧ Below w.heap.size w w' := by
  have hsc := fun w a x y m => store_cx (P := Tryz.prog) w a .f64 x y m
  have HT : Hid (txtT ⟨2, tx, tn⟩ = Lib.itoa tn) := Lib.hid (by show Lib.decDigits tn.toNat = _; rw [itoa_nat tn h0])
  have D0 := below_new w (.cells #[.int .u8 2, .complex .f64 px py, .complex .f64 qx qy, .string ⟨tx.toArray⟩, .int .i64 tn] 33)
  have HF := fun w' hb => Tryz.strconv_FormatInt_10 tn (by omega) (by omega) w' (hE.below hb).tab
  clear hE
  go_enter Tryz.func31, Tryz.ntmps31
  go_wp2_with fail
  refine (HF _ D0).mono ?_
  rintro e w' ⟨rfl, k, os, rfl⟩
  have B1 := Lib.below_grow _ (w.alloc (.cells #[.int .u8 2, .complex .f64 px py, .complex .f64 qx qy, .string ⟨tx.toArray⟩, .int .i64 tn] 33)) (Nat.le_refl _) k os
  go_wp2_with fail
  go_ret
  exact ⟨by rw [HT.out]; first | done | rfl, bt D0 B1⟩
theorem zw_strt (tx : List UInt8) (tn : Int) (hx : tx.length ≤ 65536) (h0 : 0 ≤ tn) (h1 : tn ≤ 65535) (px py qx qy : Nat) (w : World) (hE : Env w)(hq : tx.contains 34 = true) :
    Calls Tryz.prog 31 #[.agg #[.int .u8 4, .complex .f64 px py, .complex .f64 qx qy, .string ⟨tx.toArray⟩, .int .i64 tn]] w fun e w' => e = .returned (.string ⟨(txtT ⟨4, tx, tn⟩).toArray⟩) ∧ Below w.heap.size w w' := by
  have hsc := fun w a x y m => store_cx (P := Tryz.prog) w a .f64 x y m
  have HT : Hid (txtT ⟨4, tx, tn⟩ = 39 :: (tx ++ [39])) := Lib.hid (by show (if tx.contains 34 then _ else _) = _; rw [hq]; rfl)
  have D0 := below_new w (.cells #[.int .u8 4, .complex .f64 px py, .complex .f64 qx qy, .string ⟨tx.toArray⟩, .int .i64 tn] 33)
  have HC := fun w => Tryz.strings_Contains_one ⟨tx.toArray⟩ 34 w
  rw [show (⟨tx.toArray⟩ : ByteArray).data.toList = tx by simp, ind_mem, hq] at HC
  have hsz : (⟨tx.toArray⟩ : ByteArray).size ≤ 65536 := by rw [size_of_lit]; exact hx
  have HX : Hid ((⟨#[39]⟩ : ByteArray) ++ ⟨tx.toArray⟩ ++ ⟨#[39]⟩ = ⟨(39 :: (tx ++ [39])).toArray⟩) := Lib.hid (by rw [bcat, bcat_end]; first | done | rfl)
  generalize (⟨tx.toArray⟩ : ByteArray) = t at HC HX hsz D0 ⊢
  clear hE
  go_enter Tryz.func31, Tryz.ntmps31
  go_wp2_with fail
  refine (HC _).mono ?_
  rintro e w1 ⟨rfl, rfl⟩
  go_wp2_with fail
  go_ret
  exact ⟨by rw [HT.out, ← HX.out]; first | done | rfl, D0⟩
theorem zw_strf (tx : List UInt8) (tn : Int) (hx : tx.length ≤ 65536) (h0 : 0 ≤ tn) (h1 : tn ≤ 65535) (px py qx qy : Nat) (w : World) (hE : Env w)(hq : tx.contains 34 = false) :
    Calls Tryz.prog 31 #[.agg #[.int .u8 4, .complex .f64 px py, .complex .f64 qx qy, .string ⟨tx.toArray⟩, .int .i64 tn]] w fun e w' => e = .returned (.string ⟨(txtT ⟨4, tx, tn⟩).toArray⟩) ∧ Below w.heap.size w w' := by
  have hsc := fun w a x y m => store_cx (P := Tryz.prog) w a .f64 x y m
  have HT : Hid (txtT ⟨4, tx, tn⟩ = 34 :: (tx ++ [34])) := Lib.hid (by show (if tx.contains 34 then _ else _) = _; rw [hq]; rfl)
  have D0 := below_new w (.cells #[.int .u8 4, .complex .f64 px py, .complex .f64 qx qy, .string ⟨tx.toArray⟩, .int .i64 tn] 33)
  have HC := fun w => Tryz.strings_Contains_one ⟨tx.toArray⟩ 34 w
  rw [show (⟨tx.toArray⟩ : ByteArray).data.toList = tx by simp, ind_mem, hq] at HC
  have hsz : (⟨tx.toArray⟩ : ByteArray).size ≤ 65536 := by rw [size_of_lit]; exact hx
  have HX : Hid ((⟨#[34]⟩ : ByteArray) ++ ⟨tx.toArray⟩ ++ ⟨#[34]⟩ = ⟨(34 :: (tx ++ [34])).toArray⟩) := Lib.hid (by rw [bcat, bcat_end]; first | done | rfl)
  generalize (⟨tx.toArray⟩ : ByteArray) = t at HC HX hsz D0 ⊢
  clear hE
  go_enter Tryz.func31, Tryz.ntmps31
  go_wp2_with fail
  refine (HC _).mono ?_
  rintro e w1 ⟨rfl, rfl⟩
  go_wp2_with fail
  go_ret
  exact ⟨by rw [HT.out, ← HX.out]; first | done | rfl, D0⟩
theorem own_below {w w' : World} {B e size : Nat} {v : Value} {n : Nat} {xs : List Value} (h : w.ownsRow B e size v n xs) (hb : Below w.heap.size w w') : w'.ownsRow B e size v n xs := by
  obtain ⟨h1, h2⟩ := h
  refine ⟨h1, ?_⟩
  rcases h2 with h2 | ⟨g, cap, cur, e1, e2, e3, e4, e5, e6, e7⟩
  · exact .inl h2
  · exact .inr ⟨g, cap, cur, e1, e2, (hb.block g (lt_of_heap e3)).trans e3, e4, e5, e6, e7⟩
theorem bld_below {B b : Nat} {bs : List Value} {w w' : World} (h : Lib.IsBuilder 52 5 B b bs w) (hb : Below w.heap.size w w') : Lib.IsBuilder 52 5 B b bs w' := by
  rcases h with ⟨h1, v, h2, h3, h4⟩ | ⟨h1, v, h2, h3, h4⟩
  · exact .inl ⟨h1, v, (hb.block b (lt_of_heap h2)).trans h2, own_below h3 hb, h4⟩
  · exact .inr ⟨h1, v, (hb.block b (lt_of_heap h2)).trans h2, own_below h3 hb, h4⟩
/-- Tokens as a source, from the i-th on. -/
def joinD : Nat → List T0 → List UInt8
  | _, [] => []
  | i, t :: r => (if t.k = 0 then [] else (if i = 0 then [] else [32]) ++ txtT t) ++ joinD (i + 1) r
theorem joinD_more : ∀ (l : List T0) (i : Nat), (∀ t ∈ l, tokOk t) → joinD (i + 1) l = if l = [] then [] else 32 :: joinT l
  | [], i, _ => rfl
  | t :: r, i, h => by
    obtain ⟨h1, h2⟩ := tok_txt t (h t (by simp))
    unfold joinD
    rw [if_neg h1, if_neg (by omega), joinD_more r (i + 1) (fun x hx => h x (List.mem_cons_of_mem t hx)), if_neg (List.cons_ne_nil t r), show joinT (t :: r) = if r = [] then txtT t else txtT t ++ 32 :: joinT r from rfl]
    by_cases hr : r = []
    · rw [if_pos hr, if_pos hr]; simp
    · rw [if_neg hr, if_neg hr]; simp
theorem joinD_app : ∀ (l : List T0) (i : Nat) (t : T0), t.k = 0 → joinD i (l ++ [t]) = joinD i l
  | [], i, t, h => by show joinD i [t] = []; unfold joinD; rw [if_pos h]; rfl
  | a :: r, i, t, h => by
    show joinD i (a :: (r ++ [t])) = joinD i (a :: r)
    unfold joinD
    rw [joinD_app r (i + 1) t h]
/-- What Join writes of a source's tokens. -/
theorem joinD_end (l : List T0) (t : T0) (ht : t.k = 0) (h : ∀ t ∈ l, tokOk t) : joinD 0 (l ++ [t]) = joinT l := by
  rw [joinD_app l 0 t ht]
  cases l with
  | nil => rfl
  | cons a r =>
    obtain ⟨h1, h2⟩ := tok_txt a (h a (by simp))
    unfold joinD
    rw [if_neg h1, if_pos rfl, joinD_more r 0 (fun x hx => h x (List.mem_cons_of_mem a hx)), show joinT (a :: r) = if r = [] then txtT a else txtT a ++ 32 :: joinT r from rfl]
    by_cases hr : r = []
    · rw [if_pos hr, if_pos hr]; simp
    · rw [if_neg hr, if_neg hr]; simp
/-- A token is written so. -/
def Writes (w : World) (t : T0) : Prop := (txtT t).length ≤ 65542 ∧ ∀ (w' : World) (px py qx qy : Nat), Below w.heap.size w w' →
  Calls Tryz.prog 31 #[.agg #[.int .u8 t.k, .complex .f64 px py, .complex .f64 qx qy, .string ⟨t.x.toArray⟩, .int .i64 t.n]] w' fun e w'' => e = .returned (.string ⟨(txtT t).toArray⟩) ∧ Below w'.heap.size w' w''
theorem zJoin_any (l : List TK) (hl : l.length ≤ 16385) (v : Value) (B0 : Nat) (w : World) (hown : OwnT w B0 v l) (hok : ∀ x ∈ l, x.1.k ≠ 0 → Writes w x.1) :
    Calls Tryz.prog 13 #[v] w fun e w' => e = .returned (.string ⟨(joinD 0 (l.map (·.1))).toArray⟩) ∧ Below w.heap.size w w' := by
  have hsc := fun w a x y m => store_cx (P := Tryz.prog) w a .f64 x y m
  obtain ⟨p, cap, hvv⟩ := own_form2 hown
  subst hvv
  have HOW := Lib.hid hown
  have HOK := Lib.hid hok
  clear hown hok
  have hb0 : Lib.IsBuilder 52 5 w.heap.size w.heap.size (Lib.byteCells []) (w.alloc (.cells #[.pointer none, .slice none 0 0] 52)) := Lib.fresh_isBuilder _ _ w
  have D0 := below_new w (.cells #[.pointer none, .slice none 0 0] 52)
  have HB := Lib.hid hb0
  clear hb0
  go_enter Tryz.func13, Tryz.ntmps13
  go_wp2_with fail
  go_loopw [8] (fun i wr => ∃ (k : Nat) (acc : List UInt8), i = .int .i64 k ∧ k ≤ l.length ∧ joinD 0 (l.map (·.1)) = acc ++ joinD k ((l.map (·.1)).drop k) ∧ Lib.IsBuilder 52 5 w.heap.size w.heap.size (Lib.byteCells acc) wr ∧ Below w.heap.size w wr ∧ acc.length ≤ k * 65543)
    (fun i _ => l.length - (intOf i).toNat)
  case atStart => exact ⟨0, [], rfl, by omega, by simp, HB.out, D0, by simp⟩
  case round =>
    clear D0 HB
    obtain ⟨k, acc, rfl, hk, hj, hb, hbel, hal⟩ := hrel
    have hsz := hbel.size
    by_cases hlt : k < l.length
    · have hx : l[k]? = some l[k] := List.getElem?_eq_getElem hlt
      obtain ⟨x, hxe⟩ : ∃ x, l[k] = x := ⟨_, rfl⟩
      rw [hxe] at hx
      obtain ⟨g, cap', hvv, hg1, hg2, c0, c1, c2, c3, c4⟩ := (HOW.out.below hbel).at k x hx
      obtain rfl : p = some ⟨g, 0, none⟩ := by injection hvv
      have hdrop : (l.map (·.1)).drop k = x.1 :: (l.map (·.1)).drop (k + 1) := by
        have h1 : (l.map (·.1))[k]? = some x.1 := by rw [List.getElem?_map, hx]; rfl
        have h2 : k < (l.map (·.1)).length := by rw [List.length_map]; exact hlt
        rw [List.drop_eq_getElem_cons h2]
        rw [List.getElem?_eq_getElem h2] at h1
        rw [Option.some.inj h1]
      rw [hdrop] at hj
      obtain ⟨x1, y1, e1⟩ := posV_two x.2.1.1 x.2.1.2
      obtain ⟨x2, y2, e2⟩ := posV_two x.2.2.1 x.2.2.2
      rw [e1] at c1
      rw [e2] at c2
      have hwr := HOK.out x (List.mem_of_getElem? hx)
      obtain ⟨t, ht⟩ : ∃ t, x.1 = t := ⟨_, rfl⟩
      rw [ht] at hj hwr c0 c3 c4
      have D1 := below_new wr (.cells #[.int .u8 t.k, .complex .f64 x1 y1, .complex .f64 x2 y2, .string ⟨t.x.toArray⟩, .int .i64 t.n] 33)
      have F1 := Fv.new wr (.int .u8 t.k) (.complex .f64 x1 y1) (.complex .f64 x2 y2) (.string ⟨t.x.toArray⟩) (.int .i64 t.n) 33 wr.heap.size rfl
      have hb1 := bld_below hb D1
      have hbo := hb
      have hbel1 := hbel.trans (D1.mono hsz)
      have hs1 : wr.heap.size < (wr.alloc (.cells #[.int .u8 t.k, .complex .f64 x1 y1, .complex .f64 x2 y2, .string ⟨t.x.toArray⟩, .int .i64 t.n] 33)).heap.size := by simp
      clear hvv hdrop e1 e2 hx hxe ht hb hbel
      by_cases h0 : t.k = 0
      · have hq : ((t.k : Int) == 0) = true := by rw [h0]; rfl
        have HJ : Hid (joinD 0 (l.map (·.1)) = acc ++ joinD (k + 1) ((l.map (·.1)).drop (k + 1))) := Lib.hid (by
          rw [hj]
          conv => lhs; rw [joinD]
          rw [if_pos h0]; rfl)
        have hcast : ((t.k : Nat) : Int) = 0 := by omega
        rw [hcast] at hb1 hbel1
        have HB1 := Lib.hid hb1
        have HL1 := Lib.hid hbel1
        clear hj hb1 hbel1 D1 F1 hwr hbo
        go_wp2_with fail
        go_roundw
        case rel => exact ⟨k + 1, acc, by simp, by omega, HJ.out, HB1.out, HL1.out, Nat.le_trans hal (Nat.mul_le_mul_right _ (Nat.le_succ k))⟩
        case measure => simp [intOf]; omega
      · have hq : ((t.k : Int) == 0) = false := beq_eq_false_iff_ne.2 (by omega)
        obtain ⟨htl, hW⟩ := hwr h0
        have hacc : acc.length ≤ 1073921555 := by
          have : k * 65543 ≤ 16385 * 65543 := Nat.mul_le_mul_right _ (by omega)
          omega
        have ed : (⟨(txtT t).toArray⟩ : ByteArray).size = (txtT t).length := size_of_lit _
        have estr : Lib.strCells ⟨(txtT t).toArray⟩ = Lib.byteCells (txtT t) := rfl
        have HF1 := Lib.hid F1
        have hkk : acc.length + 1 + (txtT t).length ≤ (k + 1) * 65543 := by rw [Nat.add_mul]; omega
        by_cases hk0 : k = 0
        · subst hk0
          have HJ : Hid (joinD 0 (l.map (·.1)) = (acc ++ txtT t) ++ joinD (0 + 1) ((l.map (·.1)).drop (0 + 1))) := Lib.hid (by
            rw [hj]
            conv => lhs; rw [joinD]
            rw [if_neg h0, if_pos rfl]; simp)
          clear hj F1 D1 hbo
          go_upto_region 8 with fail
          generalize wr.alloc (.cells #[.int .u8 t.k, .complex .f64 x1 y1, .complex .f64 x2 y2, .string ⟨t.x.toArray⟩, .int .i64 t.n] 33) = w1 at HF1 hb1 hbel1 hs1 ⊢
          have g0 := HF1.out.c0
          have g1 := HF1.out.c1
          have g2 := HF1.out.c2
          have g3 := HF1.out.c3
          have g4 := HF1.out.c4
          have HWr := hW w1 x1 y1 x2 y2 hbel1
          clear hW
          go_wp2_with fail
          refine HWr.mono ?_
          rintro e w2 ⟨rfl, B2⟩
          clear HWr
          have hb2 := bld_below hb1 B2
          have hbel2 := hbel1.trans (B2.mono hbel1.size)
          have HS := bld_str w.heap.size w.heap.size (Lib.byteCells acc) ⟨(txtT t).toArray⟩ w2 hb2 (by rw [Lib.byteCells_length, ed]; omega) hbel2.size
          go_wp2_with fail
          refine HS.mono ?_
          rintro e w3 ⟨rfl, hb3, B3⟩
          clear HS g0 g1 g2 g3 g4 c0 c1 c2 c3 c4
          go_wp2_with fail
          go_roundw
          case rel => exact ⟨0 + 1, acc ++ txtT t, by simp, by omega, HJ.out, .inr (by rw [estr] at hb3; simpa [Lib.byteCells] using hb3), hbel2.trans B3, by rw [List.length_append]; omega⟩
          case measure => simp [intOf]; omega
        · have hki : (0 : Int) < (k : Int) := by omega
          have HJ : Hid (joinD 0 (l.map (·.1)) = (acc ++ 32 :: txtT t) ++ joinD (k + 1) ((l.map (·.1)).drop (k + 1))) := Lib.hid (by
            rw [hj]
            conv => lhs; rw [joinD]
            rw [if_neg h0, if_neg hk0]; simp)
          clear hj F1 D1
          have HO1 := World.alloc_heap_new wr (.cells #[.int .u8 t.k, .complex .f64 x1 y1, .complex .f64 x2 y2, .string ⟨t.x.toArray⟩, .int .i64 t.n] 33)
          have hbne : wr.heap.size ≠ w.heap.size := by rcases hbo with h | h <;> (have := h.lt; omega)
          clear hbo
          go_upto_region 7 with fail
          generalize wr.alloc (.cells #[.int .u8 t.k, .complex .f64 x1 y1, .complex .f64 x2 y2, .string ⟨t.x.toArray⟩, .int .i64 t.n] 33) = w1 at HF1 hb1 hbel1 hs1 HO1 ⊢
          have HY := bld_byte w.heap.size w.heap.size (Lib.byteCells acc) 32 w1 hb1 (by rw [Lib.byteCells_length]; omega) hbel1.size
          go_wp2_with fail
          refine HY.mono ?_
          rintro e w1' ⟨rfl, hb1', B1', hsp⟩
          clear HY
          have hO2 := hsp _ _ HO1 hbne (fun cs fr h => by cases h)
          have F2 := HF1.out.same (hO2.trans HO1.symm)
          have g0 := F2.c0
          have g1 := F2.c1
          have g2 := F2.c2
          have g3 := F2.c3
          have g4 := F2.c4
          have hbel1' := hbel1.trans B1'
          have HWr := hW w1' x1 y1 x2 y2 hbel1'
          clear hW HO1 hO2
          go_wp2_with fail
          refine HWr.mono ?_
          rintro e w2 ⟨rfl, B2⟩
          clear HWr
          have hb2 := bld_below (.inr hb1') B2
          have hbel2 := hbel1'.trans (B2.mono hbel1'.size)
          have HS := bld_str w.heap.size w.heap.size (Lib.byteCells acc ++ [.int .u8 32]) ⟨(txtT t).toArray⟩ w2 hb2 (by rw [List.length_append, Lib.byteCells_length, ed]; simp; omega) hbel2.size
          go_wp2_with fail
          refine HS.mono ?_
          rintro e w3 ⟨rfl, hb3, B3⟩
          clear HS g0 g1 g2 g3 g4 c0 c1 c2 c3 c4
          go_wp2_with fail
          go_roundw
          case rel => exact ⟨k + 1, acc ++ 32 :: txtT t, by simp, by omega, HJ.out, .inr (by rw [estr] at hb3; simpa [Lib.byteCells] using hb3), hbel2.trans B3, by rw [List.length_append, List.length_cons]; omega⟩
          case measure => simp [intOf]; omega
    · have hke : k = l.length := by omega
      have hdn : (l.map (·.1)).drop k = [] := List.drop_of_length_le (by rw [List.length_map]; omega)
      have HT : Hid (joinD 0 (l.map (·.1)) = acc) := Lib.hid (by rw [hj, hdn]; simp [joinD])
      have HS := Tryz.Builder_String_any w.heap.size w.heap.size acc wr hb hsz
      have hnl : ¬ (k : Int) < (l.length : Int) := by omega
      go_wp2_with fail
      refine HS.mono ?_
      rintro e w3 ⟨rfl, B3⟩
      go_wp2_with fail
      go_ret
      exact ⟨by rw [HT.out]; first | done | rfl, hbel.trans B3⟩
end Go.Proofs.YtkeomcdcjfgacaaGreatDoor
/- LzP -/
namespace Go.Proofs.YtkeomcdcjfgacaaGreatDoor
open Go.RowKit
set_option maxHeartbeats 2000000
set_option maxRecDepth 100000
set_option linter.unusedVariables false

theorem tw_whole (p : UInt8 → Bool) : ∀ l : List UInt8, decide ((l.takeWhile p).length = l.length) = l.all p
  | [] => rfl
  | c :: r => by
    cases hc : p c
    · rw [List.takeWhile_cons, if_neg (by rw [hc]; decide), List.all_cons, hc]; rfl
    · rw [List.takeWhile_cons, if_pos hc, List.all_cons, hc, ← tw_whole p r]
      simp
theorem zName_any (s : ByteArray) (hs : s.size ≤ 1048576) (w : World) :
    Calls Tryz.prog 11 #[.string s] w fun e w' => e = .returned (.bool (nameB s.data.toList)) ∧ w' = w := by
  have hem := empty_test s
  have HD : Hid (nameB s.data.toList = (!s.data.toList.isEmpty && decide (s.data.toList.length ≤ 32) && (s.data.toList.take 1).all isLt && !wordB s.data.toList && s.data.toList.all isAn)) := Lib.hid rfl
  by_cases h0 : s.size = 0
  · rw [decide_eq_true h0] at hem
    have HT : Hid (nameB s.data.toList = false) := Lib.hid (by
      have : s.data.toList = [] := List.length_eq_zero_iff.1 (by rw [bytes_of]; exact h0)
      rw [this]; rfl)
    go_enter Tryz.func11, Tryz.ntmps11
    go_wp2_with fail
    go_ret
    exact ⟨by rw [HT.out]; first | done | rfl, rfl⟩
  · rw [decide_eq_false h0] at hem
    have h0' : 0 < s.size := by omega
    by_cases h32 : 32 < s.size
    · have HT : Hid (nameB s.data.toList = false) := Lib.hid (by
        rw [HD.out, bytes_of, decide_eq_false (by omega : ¬ s.size ≤ 32)]; simp)
      have hq : decide ((s.size : Int) ≤ 32) = false := decide_eq_false (by omega)
      clear HD
      go_enter Tryz.func11, Tryz.ntmps11
      go_wp2_with fail
      go_ret
      exact ⟨by rw [HT.out]; first | done | rfl, rfl⟩
    · obtain ⟨r, hr⟩ := byte_cons s h0'
      have hq : decide ((s.size : Int) ≤ 32) = true := decide_eq_true (by omega)
      have hq2 : (s.size : Int) ≤ 32 := by omega
      have hx0 : (0 : Int) < (s.size : Int) := by omega
      have HL := fun w => zletter_any s[0] w
      have HC := fun w => count_name s hs w
      have HW := fun w => zWord_any s w
      have hall := tw_whole isAn s.data.toList
      rw [bytes_of] at hall
      have hpre : (s.data.toList.takeWhile isAn).length ≤ s.size := by rw [← bytes_of]; exact (List.takeWhile_prefix _).length_le
      obtain ⟨c, hc⟩ : ∃ c, s[0] = c := ⟨_, rfl⟩
      rw [hc] at HL hr
      have HD2 : Hid (nameB s.data.toList = (isLt c && !wordB s.data.toList && s.data.toList.all isAn)) := Lib.hid (by
        have h2 : s.data.toList.length ≤ 32 := by rw [bytes_of]; omega
        rw [HD.out, decide_eq_true h2]
        rw [hr]
        simp)
      clear HD hr
      cases hl : isLt c
      · rw [hl] at HL HD2
        clear HC HW hall
        go_enter Tryz.func11, Tryz.ntmps11
        go_wp2_with fail
        refine (HL _).mono ?_
        rintro e w1 ⟨rfl, rfl⟩
        go_wp2_with fail
        go_ret
        exact ⟨by rw [HD2.out]; simp, rfl⟩
      · rw [hl] at HL HD2
        cases ha : s.data.toList.all isAn
        · rw [ha] at hall HD2
          have hne : (((s.data.toList.takeWhile isAn).length : Int) == (s.size : Int)) = false := by
            rw [beq_eq_false_iff_ne]; have := of_decide_eq_false hall; omega
          generalize (s.data.toList.takeWhile isAn).length = m at HC hne
          clear HW hall ha
          go_enter Tryz.func11, Tryz.ntmps11
          go_wp2_with fail
          refine (HL _).mono ?_
          rintro e w1 ⟨rfl, rfl⟩
          go_wp2_with fail
          refine (HC _).mono ?_
          rintro e w1 ⟨rfl, rfl⟩
          go_wp2_with fail
          go_ret
          exact ⟨by rw [HD2.out]; simp, rfl⟩
        · rw [ha] at hall HD2
          have hee := of_decide_eq_true hall
          rw [hee] at HC
          clear hall ha
          cases hz : wordB s.data.toList
          all_goals
            rw [hz] at HW HD2
            go_enter Tryz.func11, Tryz.ntmps11
            go_wp2_with fail
            refine (HL _).mono ?_
            rintro e w1 ⟨rfl, rfl⟩
            clear HL
            go_wp2_with fail
            refine (HC _).mono ?_
            rintro e w1 ⟨rfl, rfl⟩
            clear HC
            go_wp2_with fail
            refine (HW _).mono ?_
            rintro e w1 ⟨rfl, rfl⟩
            go_wp2_with fail
            go_ret
            exact ⟨by rw [HD2.out]; first | done | rfl, rfl⟩
def srcA : List UInt8 := [97, 58, 61, 48, 70, 70, 72, 32, 40, 42, 32, 98, 32, 42, 41]
theorem scanA : scanS 0 srcA = ([(⟨1, [97], 0⟩, 0, 1), (⟨5, [58, 61], 0⟩, 1, 3), (⟨2, [], 255⟩, 3, 7)], 15, 0) := by kernel_rfl
theorem scanB : scanS 0 [49, 46, 46, 50] = ([(⟨2, [], 1⟩, 0, 1), (⟨5, [46, 46], 0⟩, 1, 3), (⟨2, [], 2⟩, 3, 4)], 4, 0) := by kernel_rfl
theorem scanC : scanS 0 [32, 57, 66] = ([], 1, 41) := by kernel_rfl
theorem posB : goB 1 1 (([32, 57, 66] : List UInt8).take 1) = (1, 2) := by kernel_rfl
theorem joinA (a b c d : TK) (h : a.1 = ⟨1, [97], 0⟩) (h1 : b.1 = ⟨5, [58, 61], 0⟩) (h2 : c.1 = ⟨2, [], 255⟩) (h3 : d.1.k = 0) : joinD 0 ([a, b, c, d].map (·.1)) = [97, 32, 58, 61, 32, 50, 53, 53] := by
  have e : Lib.decDigits 255 = [50, 53, 53] := by kernel_rfl
  simp [joinD, h, h1, h2, h3, txtT, e]
theorem scan_is_ok (s : ByteArray) (hs : s.size ≤ 16384) (S : List UInt8) (L : List (T0 × Nat × Nat)) (off : Nat) (hS : s.data.toList = S) (h : scanS 0 S = (L, off, 0)) (w : World) (hE : Env w) :
    Calls Tryz.prog 6 #[.string s] w fun e w' => ∃ v, e = .returned (.tuple #[v, .complex .f64 0 0, .int .i64 0]) ∧ Below w.heap.size w w' ∧ OwnT w' w.heap.size v (L.map (plOf S) ++ [endT S off]) := by
  refine (zScan_any s hs w hE).mono ?_
  rintro e w1 ⟨v, at1, rfl, B1, hP⟩
  rw [hS, h] at hP
  rw [hS, h]
  rcases hP with ⟨_, rfl, O1⟩ | ⟨h, _⟩
  · exact ⟨v, rfl, B1, O1⟩
  · exact absurd rfl h
theorem scan_is_err (s : ByteArray) (hs : s.size ≤ 16384) (S : List UInt8) (L : List (T0 × Nat × Nat)) (off : Nat) (x : Int) (hx : x ≠ 0) (hS : s.data.toList = S) (h : scanS 0 S = (L, off, x)) (w : World) (hE : Env w) :
    Calls Tryz.prog 6 #[.string s] w fun e w' => e = .returned (.tuple #[.slice none 0 0, posV (goB 1 1 (S.take off)).1 (goB 1 1 (S.take off)).2, .int .i64 x]) ∧ Below w.heap.size w w' := by
  refine (zScan_any s hs w hE).mono ?_
  rintro e w1 ⟨v, at1, rfl, B1, hP⟩
  rw [hS, h] at hP
  rw [hS, h]
  rcases hP with ⟨h, _⟩ | ⟨_, rfl, rfl⟩
  · exact absurd h hx
  · exact ⟨rfl, B1⟩
/-- The document's examples hold. -/
theorem zworks_any (w : World) (hE : Env w) :
    Calls Tryz.prog 5 #[] w fun e w' => e = .returned (.bool true) ∧ Below w.heap.size w w' := by
  have S1 := fun w' hb => scan_is_ok ⟨#[97, 58, 61, 48, 70, 70, 72, 32, 40, 42, 32, 98, 32, 42, 41]⟩ (by decide) srcA _ _ rfl scanA w' (hE.below hb)
  have S2 := fun w' hb => scan_is_ok ⟨#[49, 46, 46, 50]⟩ (by decide) _ _ _ rfl scanB w' (hE.below hb)
  have S3 := fun w' hb => scan_is_err ⟨#[32, 57, 66]⟩ (by decide) _ _ _ 41 (by decide) rfl scanC w' (hE.below hb)
  rw [posB] at S3
  have HO := fun w => Of_any 1 2 (by omega) (by omega) (by omega) (by omega) w
  have HW1 := fun w => zWord_any ⟨#[69, 78, 68]⟩ w
  have HW2 := fun w => zWord_any ⟨#[101, 110, 100]⟩ w
  have HN := fun w => zName_any ⟨#[101, 110, 100]⟩ (by decide) w
  rw [show wordB (⟨#[69, 78, 68]⟩ : ByteArray).data.toList = true by kernel_rfl] at HW1
  rw [show wordB (⟨#[101, 110, 100]⟩ : ByteArray).data.toList = false by kernel_rfl] at HW2
  rw [show nameB (⟨#[101, 110, 100]⟩ : ByteArray).data.toList = true by kernel_rfl] at HN
  have HQ := fun t w => eql_pos (P := Tryz.prog) 1 2 1 2 t w
  rw [show pEq 1 2 1 2 = true by decide] at HQ
  obtain ⟨x, y, exy⟩ := posV_two 1 2
  rw [exy] at HO HQ
  have HW := fun w' (hb : Below w.heap.size w w') => hE.below hb
  clear hE
  go_enter Tryz.func5, Tryz.ntmps5
  go_wp2_with fail
  refine (S1 _ (Below.refl _ _)).mono ?_
  rintro e w1 ⟨v, rfl, B1, O1⟩
  clear S1
  go_wp2_with fail
  refine (S2 _ B1).mono ?_
  rintro e w2 ⟨v2, rfl, B2, O2⟩
  clear S2
  go_wp2_with fail
  refine (S3 _ (bt B1 B2)).mono ?_
  rintro e w3 ⟨rfl, B3⟩
  clear S3
  rw [exy]
  have O1' := (O1.below B2).below B3
  have O2' := O2.below B3
  have hb3 := bt (bt B1 B2) B3
  obtain ⟨g, cap, rfl, _, _, _, _, _, a3, _⟩ := O1'.at 0 _ rfl
  obtain ⟨g', cap', e1, _, _, _, _, _, b3, _⟩ := O1'.at 1 _ rfl
  obtain ⟨rfl, rfl⟩ : g = g' ∧ cap = cap' := by injection e1 with e1 _ e2; injection e1 with e1; injection e1 with e1; exact ⟨e1, e2⟩
  obtain ⟨g', cap', e1, _, _, _, _, _, _, c4⟩ := O1'.at 2 _ rfl
  obtain ⟨rfl, rfl⟩ : g = g' ∧ cap = cap' := by injection e1 with e1 _ e2; injection e1 with e1; injection e1 with e1; exact ⟨e1, e2⟩
  obtain ⟨g', cap', e1, _, _, d0, _, _, _, _⟩ := O1'.at 3 _ rfl
  obtain ⟨rfl, rfl⟩ : g = g' ∧ cap = cap' := by injection e1 with e1 _ e2; injection e1 with e1; injection e1 with e1; exact ⟨e1, e2⟩
  obtain ⟨h, kap, rfl, _, _, _, _, _, m3, _⟩ := O2'.at 1 _ rfl
  have HJ := zJoin_any _ (by decide) _ _ w3 O1' (fun x hx hk => by
    have E3 := HW w3 hb3
    simp only [List.map_cons, List.map_nil, List.cons_append, List.nil_append, List.mem_cons, List.not_mem_nil, or_false] at hx
    rcases hx with rfl | rfl | rfl | rfl
    · exact ⟨by decide, fun w' px py qx qy hb => zw_plain1 [97] 0 (by decide) (by omega) (by omega) px py qx qy w' (E3.below hb)⟩
    · exact ⟨by decide, fun w' px py qx qy hb => zw_plain5 [58, 61] 0 (by decide) (by omega) (by omega) px py qx qy w' (E3.below hb)⟩
    · exact ⟨by rw [show txtT (plOf srcA (⟨2, [], 255⟩, 3, 7)).1 = [50, 53, 53] by kernel_rfl]; decide, fun w' px py qx qy hb => zw_num [] 255 (by decide) (by omega) (by omega) px py qx qy w' (E3.below hb)⟩
    · exact absurd rfl hk)
  have hjj := joinA (plOf srcA (⟨1, [97], 0⟩, 0, 1)) (plOf srcA (⟨5, [58, 61], 0⟩, 1, 3)) (plOf srcA (⟨2, [], 255⟩, 3, 7)) (endT srcA 15) rfl rfl rfl rfl
  have a3' : w3.cell? ⟨g, 3, none⟩ = some (.string ⟨#[97]⟩) := a3
  have b3' : w3.cell? ⟨g, 8, none⟩ = some (.string ⟨#[58, 61]⟩) := b3
  have c4' : w3.cell? ⟨g, 14, none⟩ = some (.int .i64 255) := c4
  have d0' : w3.cell? ⟨g, 15, none⟩ = some (.int .u8 0) := d0
  have m3' : w3.cell? ⟨h, 8, none⟩ = some (.string ⟨#[46, 46]⟩) := m3
  have HJ2 : Calls Tryz.prog 13 #[.slice (some ⟨g, 0, none⟩) 4 cap] w3 fun e w' => e = .returned (.string ⟨#[97, 32, 58, 61, 32, 50, 53, 53]⟩) ∧ Below w3.heap.size w3 w' := by
    refine HJ.mono ?_
    rintro e w4 ⟨rfl, B4⟩
    refine ⟨?_, B4⟩
    show Ending.returned (Value.string ⟨(joinD 0 ([plOf srcA (⟨1, [97], 0⟩, 0, 1), plOf srcA (⟨5, [58, 61], 0⟩, 1, 3), plOf srcA (⟨2, [], 255⟩, 3, 7), endT srcA 15].map (·.1))).toArray⟩) = _
    rw [hjj]
  clear HJ hjj O1 O2 O1' O2' a3 b3 c4 d0 m3 HW e1 exy
  go_wp2_with fail
  refine (HO _).mono ?_
  rintro e w4 ⟨rfl, rfl⟩
  clear HO
  go_wp2_with fail
  refine (HW1 _).mono ?_
  rintro e w4 ⟨rfl, rfl⟩
  clear HW1
  go_wp2_with fail
  refine (HW2 _).mono ?_
  rintro e w4 ⟨rfl, rfl⟩
  clear HW2
  go_wp2_with fail
  refine (HN _).mono ?_
  rintro e w4 ⟨rfl, rfl⟩
  clear HN
  go_wp2_with fail
  refine HJ2.mono ?_
  rintro e w5 ⟨rfl, B4⟩
  clear HJ2
  go_wp2_with fail
  go_ret
  exact ⟨rfl, bt hb3 B4⟩
end Go.Proofs.YtkeomcdcjfgacaaGreatDoor
/- LzS -/
namespace Go.Proofs.YtkeomcdcjfgacaaGreatDoor
open Go.RowKit
set_option maxHeartbeats 4000000
set_option maxRecDepth 100000
set_option linter.unusedVariables false

/-- Where scanning says that it stopped. -/
def atV (S : List UInt8) : Value := if (scanS 0 S).2.2 = 0 then .complex .f64 0 0 else posV (goB 1 1 (S.take (scanS 0 S).2.1)).1 (goB 1 1 (S.take (scanS 0 S).2.1)).2
def allL (S : List UInt8) : List TK := if (scanS 0 S).2.2 = 0 then (scanS 0 S).1.map (plOf S) ++ [endT S (scanS 0 S).2.1] else []
theorem post_to (S : List UInt8) (w : World) (e : Ending) (w' : World) (h : ScanPost S w e w') : ∃ v, e = .returned (.tuple #[v, atV S, .int .i64 (scanS 0 S).2.2]) ∧ Below w.heap.size w w' ∧ OwnT w' w.heap.size v (allL S) := by
  obtain ⟨v, at', rfl, hb, h⟩ := h
  rcases h with ⟨h0, rfl, ho⟩ | ⟨h0, rfl, rfl⟩
  · refine ⟨v, ?_, hb, ?_⟩
    · unfold atV; rw [if_pos h0]
    · unfold allL; rw [if_pos h0]; exact ho
  · refine ⟨.slice none 0 0, ?_, hb, ?_⟩
    · unfold atV; rw [if_neg h0]
    · unfold allL; rw [if_neg h0]; exact World.ownsRow_nil _ _ _ _
theorem eql_same {P : Program} (l c : Int) (t : TypeId) (w : World) : (binOp .eql t (posV l c) (posV l c)).run P w = .ok (.bool true) w := by
  have := eql_pos (P := P) l c l c t w
  rw [this]
  unfold pEq
  cases isP l c <;> simp
theorem atV_cx (S : List UInt8) : ∃ x y, atV S = .complex .f64 x y ∧ ∀ (P : Program) (t : TypeId) (w : World), (binOp .eql t (.complex .f64 x y) (.complex .f64 x y)).run P w = .ok (.bool true) w := by
  unfold atV
  split
  · refine ⟨0, 0, rfl, fun P t w => ?_⟩
    have := eql_same (P := P) 0 0 t w
    rw [posV_none 0 0 isP_zero] at this
    exact this
  · obtain ⟨x, y, h⟩ := posV_two (goB 1 1 (S.take (scanS 0 S).2.1)).1 (goB 1 1 (S.take (scanS 0 S).2.1)).2
    refine ⟨x, y, h, fun P t w => ?_⟩
    have := eql_same (P := P) (goB 1 1 (S.take (scanS 0 S).2.1)).1 (goB 1 1 (S.take (scanS 0 S).2.1)).2 t w
    rw [h] at this
    exact this
theorem scans_core (s : ByteArray) (hs : s.size ≤ 16394) (L : List TK) (hL : L.length ≤ 1048576) (x y : Nat) (f : Int) (w : World) (hE : Env w) (HQ : ∀ (t : TypeId) (w : World), (binOp .eql t (.complex .f64 x y) (.complex .f64 x y)).run Tryz.prog w = .ok (.bool true) w)
    (H1 : Calls Tryz.prog 6 #[.string s] w fun e w' => ∃ v, e = .returned (.tuple #[v, .complex .f64 x y, .int .i64 f]) ∧ Below w.heap.size w w' ∧ OwnT w' w.heap.size v L)
    (H2 : ∀ w, Calls Tryz.prog 7 #[.string s] w fun e w' => ∃ v, e = .returned (.tuple #[v, .complex .f64 x y, .int .i64 f]) ∧ Below w.heap.size w w' ∧ OwnT w' w.heap.size v L) :
    Calls Tryz.prog 3 #[.string s] w fun e w' => e = .returned (.bool true) ∧ Below w.heap.size w w' := by
  have hq : ¬ (16394 : Int) < (s.size : Int) := by omega
  have HW := fun w' hb => zworks_any w' (hE.below hb)
  clear hE
  go_enter Tryz.func3, Tryz.ntmps3
  go_wp2_with fail
  refine H1.mono ?_
  rintro e w1 ⟨v1, rfl, B1, O1⟩
  clear H1
  go_wp2_with fail
  refine (H2 _).mono ?_
  rintro e w2 ⟨v2, rfl, B2, O2⟩
  clear H2
  have HS := Same_self L hL v1 v2 w2 _ _ (O1.below B2) O2
  have b2 := bt B1 B2
  clear O1 O2
  go_wp2_with fail
  refine HS.mono ?_
  rintro e w3 ⟨rfl, B3⟩
  clear HS
  have b3 := bt b2 B3
  have HW3 := HW w3 b3
  clear HW
  go_wp2_with fail
  refine HW3.mono ?_
  rintro e w4 ⟨rfl, B4⟩
  go_wp2_with fail
  go_ret
  exact ⟨rfl, bt b3 B4⟩
theorem scans_any (s : ByteArray) (w : World) (hE : Env w) :
    Calls Tryz.prog 3 #[.string s] w fun e w' => e = .returned (.bool true) ∧ Below w.heap.size w w' := by
  by_cases h1 : 16394 < s.size
  · have hq : (16394 : Int) < (s.size : Int) := by omega
    have HW := zworks_any w hE
    clear hE
    go_enter Tryz.func3, Tryz.ntmps3
    go_wp2_with fail
    refine HW.mono ?_
    rintro e w1 ⟨rfl, B1⟩
    go_wp2_with fail
    go_ret
    exact ⟨rfl, B1⟩
  · by_cases h2 : 16384 < s.size
    · obtain ⟨x, y, h⟩ := posV_two 1 1
      refine scans_core s (by omega) [] (by simp) x y 5 w hE (fun t w => ?_) ((zScan_long s h2 w).mono ?_) (fun w => (scan_long s h2 w).mono ?_)
      · have := eql_same (P := Tryz.prog) 1 1 t w
        rw [h] at this; exact this
      · rintro e w1 ⟨rfl, B1⟩
        exact ⟨_, by rw [h], B1, World.ownsRow_nil _ _ _ _⟩
      · rintro e w1 ⟨rfl, B1⟩
        exact ⟨_, by rw [h], B1, World.ownsRow_nil _ _ _ _⟩
    · obtain ⟨x, y, h, hq⟩ := atV_cx s.data.toList
      have hcnt := scan_cnt _ s.data.toList 0 (Nat.le_refl _)
      rw [bytes_of] at hcnt
      refine scans_core s (by omega) (allL s.data.toList) ?_ x y (scanS 0 s.data.toList).2.2 w hE (hq _) ((zScan_any s (by omega) w hE).mono ?_) (fun w => (scan_any s (by omega) w).mono ?_)
      · unfold allL
        split
        · simp; omega
        · simp
      · intro e w1 hp
        have := post_to _ _ _ _ hp
        rw [h] at this; exact this
      · intro e w1 hp
        have := post_to _ _ _ _ hp
        rw [h] at this; exact this
end Go.Proofs.YtkeomcdcjfgacaaGreatDoor
