/- TreeBounds, walked. -/
import Derived.Test.YtliebhpddjbjeaaGreatDoorTbP
import Derived.Test.YtliebhpddjbjeaaGreatDoorTrO
import Derived.Laws.IdiomStrings
import Derived.IntWalk
namespace Go.Proofs.YtliebhpddjbjeaaGreatDoor
open Go.RowKit
set_option maxHeartbeats 4000000
set_option maxRecDepth 100000
set_option linter.unusedVariables false
set_option linter.unusedSimpArgs false

theorem cat2 (a b : List UInt8) : (⟨a.toArray⟩ : ByteArray) ++ ⟨b.toArray⟩ = ⟨(a ++ b).toArray⟩ := ByteArray.mk_append_mk a b
def hd1B : List UInt8 := [40, 49, 32, 45, 32, 48, 58, 32, 48]
theorem back_str (w : World) (g cap : Nat) (l : List UInt8) (h : ∀ q u, (byC l)[q]? = some u → w.cell? ⟨g, q, none⟩ = some u) :
    (convert 45 9 (.slice (some ⟨g, 0, none⟩) l.length cap)).run Tryz.prog w = .ok (.string ⟨l.toArray⟩) w :=
  run_convert_bytes_back w 45 9 5 ⟨g, 0, none⟩ cap l Tryz.underlying45 Tryz.underlying5 Tryz.underlying9 (fun j hj => by
    rw [Lib.add_plain, Nat.zero_add]
    exact h j _ (by
      unfold byC
      rw [List.getElem?_map, List.getElem?_eq_getElem hj]; rfl))
/-- A row of bytes of a constant, made a row of bytes. -/
theorem conv_bb (w : World) (b n c : Nat) (cs : Array Value) (h : w.heap[b]? = some (.cells cs 5 (0, 0))) :
    ∃ w3, (convert 45 45 (.slice (some ⟨b, 0, none⟩) n c)).run Tryz.prog w = .ok (.slice (some ⟨b, 0, none⟩) n c) w3 ∧ Below b w w3 ∧ (∀ q, w3.cell? ⟨b, q, none⟩ = w.cell? ⟨b, q, none⟩) ∧ w3.heap.size = w.heap.size := by
  have hsh : w.shape? b = some (5, cs.size) := by simp [World.shape?, h]
  refine ⟨w.freeze ⟨b, cs.size, none⟩ 1, ?_, Lib.below_freeze (B := b) (Below.refl b w) (p := ⟨b, cs.size, none⟩) (Nat.le_refl b) 1, fun q => ?_, by simp [World.freeze]⟩
  · simp [convert, run_underlying Tryz.underlying45, run_underlying Tryz.underlying5, markStringish, hsh, Result.andThen]
  · simp [World.cell?, World.freeze, Array.getElem?_modify, h]
/-- Appending a string's bytes where there is no room. -/
theorem run_str_new {P : Program} (w : World) (t u ty e : TypeId) (i : TypeInfo) (ht : P.underlying t = some (.slice e)) (hu : P.underlying u = some .string) (hi : P.info? e = some i) (hz : i.zero = some (.int .u8 0))
    (hsize : i.size = 1) (hby : i.bytes = 1) (g n cap : Nat) (xs : List Value) (hxl : xs.length = n) (holds : ∀ q v, xs[q]? = some v → w.cell? ⟨g, q, none⟩ = some v) (s : ByteArray)
    (hroom : cap < n + s.size) (hcap : cap ≤ 140737488355328) (h63 : n + s.size ≤ maxLen) (hbytes : n + s.size ≤ 140737488355328) :
    ∃ v' w', (Builtin.append_ #[t, u] ty #[.slice (some ⟨g, 0, none⟩) n cap, .string s]).run P w = .ok v' w' ∧ w'.ownsRow w.heap.size e 1 v' (n + s.size) (xs ++ Lib.strCells s) ∧ w.grownBy w' none := by
  have hr := Lib.run_append_grow_string (P := P) w t u ty e i (.int .u8 0) ht hu hi hz ⟨g, 0, none⟩ n cap xs (by rw [hsize, hxl]; omega) (fun q v hq => by rw [Lib.add_plain, Nat.zero_add]; exact holds q v hq) s hroom (by unfold maxLen at h63; omega) (by rw [hby]; exact growslice_fits (by omega) (by omega))
  have hge := grownCap_ge w (n + s.size) cap e
  have hcm : grownCap w (n + s.size) cap e ≤ maxLen := grownCap_le_maxLen w (n + s.size) cap e h63
  have hlen : (xs ++ Lib.strCells s).length = (n + s.size) * 1 := by rw [List.length_append, hxl, Lib.strCells_length, Nat.mul_one]
  refine ⟨_, _, hr, ⟨hlen, .inr ⟨w.heap.size, _, _, rfl, Nat.le_refl _, heap_alloc_new w.drew _, hge, hcm, ?_, ?_⟩⟩, ⟨rfl, rfl, rfl, by simp, fun k hk _ => Lib.alloc_old w.drew _ k hk⟩⟩
  · have hz1 : (Value.int IntKind.u8 0).cells.size = 1 := rfl
    simp only [Array.size_append, List.size_toArray, size_zeroCells, hz1, hxl, Lib.strCells_length]
    omega
  · simp only [Array.toList_append, List.append_assoc]
    rw [← List.append_assoc, ← hlen]
    exact List.take_left
theorem wpList_str_new {P : Program} (w : World) {ops : Array Oper} {rest : List Oper} {o : Oper} {a : Act} {Q : Exit → Act → World → Prop} (hgd : o.guard = none) (sl x : Operand) (t u : TypeId)
    (ho : o.op = .call { callee := .builtin .append, args := #[sl, x], argTypes := #[t, u] })
    (e : TypeId) (i : TypeInfo) (ht : P.underlying t = some (.slice e)) (hu : P.underlying u = some .string) (hi : P.info? e = some i) (hz : i.zero = some (.int .u8 0))
    (hsize : i.size = 1) (hby : i.bytes = 1) (g n cap : Nat) (xs : List Value) (hs : a.eval sl = .slice (some ⟨g, 0, none⟩) n cap) (hxl : xs.length = n) (holds : ∀ q v, xs[q]? = some v → w.cell? ⟨g, q, none⟩ = some v) (s : ByteArray) (hx : a.eval x = .string s)
    (hroom : cap < n + s.size) (hcap : cap ≤ 140737488355328) (h63 : n + s.size ≤ maxLen) (hbytes : n + s.size ≤ 140737488355328)
    (h : ∀ v' w', w'.ownsRow w.heap.size e 1 v' (n + s.size) (xs ++ Lib.strCells s) → w.grownBy w' none → wpList P ops Q rest (a.put o.dst v') w') : wpList P ops Q (o :: rest) a w := by
  refine wpList_plain hgd fun K hK => ?_
  obtain ⟨v', w', hr, h2, h3⟩ := run_str_new (P := P) w t u o.type e i ht hu hi hz hsize hby g n cap xs hxl holds s hroom hcap h63 hbytes
  unfold Oper.wp execOp
  simp only [ho, resolve, invoke, builtin, Sem.run_bind, Sem.run_pure, Result.andThen_ok, List.map_toArray, List.map_cons, List.map_nil, hs, hx, hr]
  exact hK _ _ (h v' w' h2 h3)
theorem own_cells {w : World} {B e g n cap : Nat} {xs : List Value} (h : w.ownsRow B e 1 (.slice (some ⟨g, 0, none⟩) n cap) n xs) : ∀ q u, xs[q]? = some u → w.cell? ⟨g, q, none⟩ = some u := fun q u hq => by
  have := h.cells (g := g) rfl q u hq
  rw [Lib.add_plain, Nat.zero_add] at this
  exact this
theorem tb_any (d wd : Nat) (hd : d ≤ 255) (hwd : wd ≤ 65535) (w : World) (hE : Env w) :
    Calls Tryz.prog 7 #[.int .u8 d, .int .u16 wd] w fun e w' => e = .returned (.bool true) ∧ Below w.heap.size w w' := by
  obtain ⟨i0, hi, hz0, hz1, hz2⟩ := info_parts Tryz.Builder_Extra_169.infoByte
  have w1 : IntKind.i64.wrap (d : Int) = (d : Int) := wrap_i64 _ (by omega) (by omega)
  have w2 : IntKind.i64.wrap (wd : Int) = (wd : Int) := wrap_i64 _ (by omega) (by omega)
  obtain ⟨n, hn⟩ : ∃ n, wd % 8212 = n := ⟨_, rfl⟩
  have hnl : n < 8212 := by omega
  have hr : (wd : Int).tmod 8212 = (n : Int) := by rw [Int.tmod_eq_emod_of_nonneg (by omega)]; omega
  have w3 : IntKind.i64.wrap (n : Int) = (n : Int) := wrap_i64 _ (by omega) (by omega)
  have HR := tRead_any w hE (repB dwB d ++ lf1 ++ repB [41] d) (by rw [← text_ch, ch_len]; omega)
  rw [show (⟨(repB dwB d ++ lf1 ++ repB [41] d).toArray⟩ : ByteArray) = ⟨(repB dwB d).toArray⟩ ++ ⟨#[40, 49, 32, 45, 32, 48, 58, 32, 48, 41]⟩ ++ ⟨(repB [41] d).toArray⟩ from by rw [← cat2, ← cat2]; rfl] at HR
  have HE := Lib.hid hE
  have HRD := Lib.hid HR
  have l1 : (repB dwB d).length = d * 10 := by rw [repB_len]; rfl
  have l2 : (repB [41] d).length = d := by rw [repB_len]; simp
  clear hE HR hn
  go_enter Tryz.func7, Tryz.ntmps7
  go_wp2_with fail
  go_loop [7, 8, 9] (fun a c i => ∃ k : Nat, k ≤ d ∧ i = .int .i64 k ∧ a = .string ⟨(repB dwB k).toArray⟩ ∧ c = .string ⟨(repB [41] k).toArray⟩) (fun _ _ i => d - (intOf i).toNat)
  case atStart => exact ⟨0, Nat.zero_le _, rfl, rfl, rfl⟩
  case round =>
    obtain ⟨k, hk, rfl, rfl, rfl⟩ := hrel
    by_cases hkd : k < d
    · have k1 : (repB dwB k).length = k * 10 := by rw [repB_len]; rfl
      have k2 : (repB [41] k).length = k := by rw [repB_len]; simp
      have e1 : (⟨(repB dwB (k + 1)).toArray⟩ : ByteArray) = ⟨(repB dwB k).toArray⟩ ++ ⟨#[40, 49, 32, 45, 32, 48, 58, 32, 48, 32]⟩ := by rw [repB_snoc, ← cat2]; rfl
      have e2 : (⟨(repB [41] (k + 1)).toArray⟩ : ByteArray) = ⟨(repB [41] k).toArray⟩ ++ ⟨#[41]⟩ := by rw [repB_snoc, ← cat2]
      have HEQ := Lib.hid (And.intro e1 e2)
      clear e1 e2
      go_wp2_with fail
      go_round
      case rel => exact ⟨k + 1, by omega, by simp, by rw [HEQ.out.1], by rw [HEQ.out.2]⟩
      case measure => simp [intOf]; omega
    · obtain rfl : k = d := by omega
      have HR := HRD.out
      clear HRD hkd
      go_wp2_with fail
      refine HR.mono ?_
      rintro e wa hp
      clear HR
      by_cases hdd : 100 ≤ k
      · rw [read_deep k hdd hd] at hp
        obtain ⟨rfl, Ba, _⟩ := hp
        have HA := Lib.hid Ba
        clear Ba
        have hg : (100 : Int) < (k : Int) + 1 := by omega
        go_wp2_with fail
        obtain ⟨wy, hcv, hBy, hcy, hsy⟩ := conv_bb (wa.alloc (.cells #[.int .u8 40, .int .u8 49, .int .u8 32, .int .u8 45, .int .u8 32, .int .u8 48, .int .u8 58, .int .u8 32, .int .u8 48] 5)) wa.heap.size 9 9 _ (heap_alloc_new wa _)
        have HBa := Lib.hid (HA.out.trans (((below_new wa (.cells #[.int .u8 40, .int .u8 49, .int .u8 32, .int .u8 45, .int .u8 32, .int .u8 48, .int .u8 58, .int .u8 32, .int .u8 48] 5)).trans hBy).mono HA.out.size))
        have HCY : Hid (∀ q u, (byC (hd1B ++ repB (32 :: lf2) 0))[q]? = some u → wy.cell? ⟨wa.heap.size, q, none⟩ = some u) := Lib.hid (fun q u hq => by
          rw [hcy]
          rw [Lib.cell_of_heap (heap_alloc_new wa (.cells #[.int .u8 40, .int .u8 49, .int .u8 32, .int .u8 45, .int .u8 32, .int .u8 48, .int .u8 58, .int .u8 32, .int .u8 48] 5))]
          have e : byC (hd1B ++ repB (32 :: lf2) 0) = [.int .u8 40, .int .u8 49, .int .u8 32, .int .u8 45, .int .u8 32, .int .u8 48, .int .u8 58, .int .u8 32, .int .u8 48] := by simp [byC, hd1B, repB]
          rw [e] at hq
          simpa using hq)
        have hsy2 : wa.heap.size ≤ wy.heap.size := by rw [hsy]; simp
        clear hBy hcy hsy
        rw [hcv]
        simp only [Result.andThen]
        rw [Oper.upon_value]
        clear hcv
        go_wp2_with fail
        go_loopw [12, 13] (fun v i wr => ∃ (j g cap : Nat), j ≤ n ∧ i = .int .i64 j ∧ v = .slice (some ⟨g, 0, none⟩) (9 + 11 * j) cap ∧ (∀ q u, (byC (hd1B ++ repB (32 :: lf2) j))[q]? = some u → wr.cell? ⟨g, q, none⟩ = some u) ∧ (j = 0 ∧ cap = 9 ∨ wr.ownsRow wa.heap.size 5 1 (.slice (some ⟨g, 0, none⟩) (9 + 11 * j) cap) (9 + 11 * j) (byC (hd1B ++ repB (32 :: lf2) j))) ∧ Below w.heap.size w wr ∧ wa.heap.size ≤ wr.heap.size) (fun _ i _ => n - (intOf i).toNat)
        case atStart => exact ⟨0, _, _, Nat.zero_le _, rfl, rfl, HCY.out, .inl ⟨rfl, rfl⟩, HBa.out, hsy2⟩
        case round =>
          obtain ⟨j, g, cap, hj, rfl, rfl, hcs, hdis, hB, hsz⟩ := hrel
          by_cases hjn : j < n
          · have hbase : w.heap.size ≤ wa.heap.size := HA.out.size
            have HB := Lib.hid hB
            have hsz5 : (⟨(32 :: lf2).toArray⟩ : ByteArray).size = 11 := rfl
            have hbl : (byC (hd1B ++ repB (32 :: lf2) j)).length = 9 + 11 * j := by simp only [byC, List.length_map, List.length_append, repB_len]; simp [hd1B, lf2]; omega
            have e5 : 9 + 11 * j + 11 = 9 + 11 * (j + 1) := by omega
            have HE5 := Lib.hid (And.intro hsz5 (And.intro e5 hbl))
            clear hB hsz5 e5 hbl
            rcases hdis with ⟨h0, hc9⟩ | hown
            · subst h0
              subst hc9
              go_wp2_with (at_builtin; refine wpList_str_new _ rfl _ _ 45 9 rfl 5 i0 Tryz.underlying45 Tryz.underlying9 hi hz0 hz1 hz2 g 9 9 (byC (hd1B ++ repB (32 :: lf2) 0)) rfl HE5.out.2.2 hcs ⟨(32 :: lf2).toArray⟩ rfl (by rw [HE5.out.1]; omega) (by omega) (by rw [HE5.out.1]; unfold maxLen; omega) (by rw [HE5.out.1]; omega) ?_)
              intro v' w5 hownA hgrow
              have hown' : w5.ownsRow wr.heap.size 5 1 v' (9 + 11 * (0 + 1)) (byC (hd1B ++ repB (32 :: lf2) (0 + 1))) := by
                rw [repB_snoc, ← List.append_assoc, byC_app, ← byC_str (32 :: lf2)]
                exact hownA
              clear hownA
              obtain ⟨g5, cap5, hv5, hb5, _⟩ := hown'.form (by omega)
              have hB5 : Below w.heap.size w w5 := HB.out.trans ((Fr.of_grown hgrow).below _ (fun q hq => by simp at hq) HB.out.size)
              have hs5 := hgrow.size
              subst hv5
              have hbs : wa.heap.size ≤ g5 := by omega
              have hown2 : w5.ownsRow wa.heap.size 5 1 (.slice (some ⟨g5, 0, none⟩) (9 + 11 * (0 + 1)) cap5) (9 + 11 * (0 + 1)) (byC (hd1B ++ repB (32 :: lf2) (0 + 1))) := by
                refine ⟨hown'.1, ?_⟩
                rcases hown'.2 with ⟨h1, _⟩ | ⟨gg, cc, cur, h1, h2, h3⟩
                · cases h1
                · exact .inr ⟨gg, cc, cur, h1, by omega, h3⟩
              have HX := Lib.hid (And.intro (own_cells hown2) (And.intro hown2 (And.intro hB5 (Nat.le_trans hsz hs5))))
              clear hown' hown2 hgrow hB5 hsz hcs
              go_wp2_with fail
              go_roundw
              case rel => exact ⟨0 + 1, _, _, by omega, by simp, rfl, HX.out.1, .inr HX.out.2.1, HX.out.2.2⟩
              case measure => simp [intOf]; omega
            · go_wp2_with (at_builtin; refine wpList_str_at _ rfl _ _ 45 9 rfl wa.heap.size 5 i0 Tryz.underlying45 Tryz.underlying9 hi hz0 hz1 hz2 _ (9 + 11 * j) (byC (hd1B ++ repB (32 :: lf2) j)) rfl hown ⟨(32 :: lf2).toArray⟩ rfl (by rw [HE5.out.1]; unfold maxLen; omega) (by rw [HE5.out.1]; omega) hsz ?_)
              intro v' w5 hownA hgrow hat
              have hown' : w5.ownsRow wa.heap.size 5 1 v' (9 + 11 * (j + 1)) (byC (hd1B ++ repB (32 :: lf2) (j + 1))) := by
                rw [repB_snoc, ← List.append_assoc, byC_app, ← byC_str (32 :: lf2), ← HE5.out.2.1]
                exact hownA
              clear hownA
              obtain ⟨g5, cap5, hv5, hb5, _⟩ := hown'.form (by omega)
              have hB5 : Below w.heap.size w w5 := HB.out.trans ((Fr.of_grown hgrow).below _ (fun q hq => by
                have := (hown.lt q (by simpa using hq)).1
                omega) HB.out.size)
              have hs5 := hgrow.size
              subst hv5
              have HX := Lib.hid (And.intro (own_cells hown') (And.intro hown' (And.intro hB5 (Nat.le_trans hsz hs5))))
              clear hown hown' hgrow hat hB5 hsz hcs
              go_wp2_with fail
              go_roundw
              case rel => exact ⟨j + 1, _, _, by omega, by simp, rfl, HX.out.1, .inr HX.out.2.1, HX.out.2.2⟩
              case measure => simp [intOf]; omega
          · obtain rfl : j = n := by omega
            have hll : (hd1B ++ repB (32 :: lf2) j).length = 9 + 11 * j := by rw [List.length_append, repB_len]; simp [hd1B, lf2]; omega
            have hconv := back_str wr g cap (hd1B ++ repB (32 :: lf2) j) hcs
            rw [hll] at hconv
            have HR := tRead_any wr (HE.out.below hB) (hd1B ++ (repB (32 :: lf2) j ++ [41])) (by simp only [List.length_append, repB_len]; simp [hd1B, lf2]; omega)
            have eqs : (⟨(hd1B ++ (repB (32 :: lf2) j ++ [41])).toArray⟩ : ByteArray) = ⟨(hd1B ++ repB (32 :: lf2) j).toArray⟩ ++ ⟨#[41]⟩ := by
              rw [← List.append_assoc]
              exact (cat2 _ [41]).symm
            rw [eqs] at HR
            clear eqs
            have HB := Lib.hid hB
            have hln : ((⟨(hd1B ++ repB (32 :: lf2) j).toArray⟩ : ByteArray)).size = 9 + 11 * j := by rw [size_lit, hll]
            clear hdis hcs hB hll
            generalize (⟨(hd1B ++ repB (32 :: lf2) j).toArray⟩ : ByteArray) = sb at *
            go_wp2_with fail
            refine HR.mono ?_
            rintro e wc hp
            clear HR hconv
            by_cases hw8 : 8192 < j + 1
            · rw [show hd1B = headT d1 from head_d1.symm, read_wide_err j hw8] at hp
              obtain ⟨rfl, Bc, _⟩ := hp
              have hBc := HB.out.trans (Bc.mono HB.out.size)
              have HW := works_any wc (HE.out.below hBc)
              have HC := Lib.hid hBc
              have hg8 : (8192 : Int) < (j : Int) + 1 := by omega
              clear Bc hBc
              go_wp2_with fail
              refine HW.mono ?_
              rintro e we ⟨rfl, Be⟩
              have HF := Lib.hid (HC.out.trans (Be.mono HC.out.size))
              clear HW Be
              go_wp2_with fail
              go_ret
              exact ⟨rfl, HF.out⟩
            · rw [show hd1B = headT d1 from head_d1.symm, read_wide_ok j (by omega)] at hp
              obtain ⟨tq, rfl, Bc, hT, hdt, hnd⟩ := hp
              have hBc := HB.out.trans (Bc.mono HB.out.size)
              have hct : (tq.cnt : Int) = (j : Int) + 1 := by rw [cnt_dt _ _ hdt, wd_cnt]; omega
              have HCT := Count_any wc tq hT hnd (by rw [cnt_dt _ _ hdt, wd_cnt]; omega)
              rw [hct] at HCT
              have HC := Lib.hid hBc
              have hg8 : ¬ ((8192 : Int) < (j : Int) + 1) := by omega
              clear Bc hBc hT hdt hnd hct
              simp only [ptrV] at HCT ⊢
              go_wp2_with fail
              refine HCT.mono ?_
              rintro e wd2 ⟨rfl, Bd⟩
              have hBd := HC.out.trans (Bd.mono HC.out.size)
              have HW := works_any wd2 (HE.out.below hBd)
              have HD2 := Lib.hid hBd
              clear HCT Bd hBd
              go_wp2_with fail
              refine HW.mono ?_
              rintro e we ⟨rfl, Be⟩
              have HF := Lib.hid (HD2.out.trans (Be.mono HD2.out.size))
              clear HW Be
              go_wp2_with fail
              go_ret
              exact ⟨rfl, HF.out⟩
      · rw [read_ch k (by omega)] at hp
        obtain ⟨tr, rfl, Ba, hT, hdt, hnd⟩ := hp
        have hg : ¬ ((100 : Int) < (k : Int) + 1) := by omega
        have hdp : (tr.deep : Int) = (k : Int) + 1 := by rw [deep_dt _ _ hdt, ch_deep]; omega
        have HD := Deep_any wa tr hT hnd (by rw [cnt_dt _ _ hdt, ch_cnt]; omega)
        rw [hdp] at HD
        have HA0 := Lib.hid Ba
        clear Ba hT hdt hnd hdp
        simp only [ptrV] at HD ⊢
        go_wp2_with fail
        refine HD.mono ?_
        rintro e wb ⟨rfl, Bb⟩
        have HA := Lib.hid (HA0.out.trans (Bb.mono HA0.out.size))
        clear HD Bb
        go_wp2_with fail
        obtain ⟨wy, hcv, hBy, hcy, hsy⟩ := conv_bb (wb.alloc (.cells #[.int .u8 40, .int .u8 49, .int .u8 32, .int .u8 45, .int .u8 32, .int .u8 48, .int .u8 58, .int .u8 32, .int .u8 48] 5)) wb.heap.size 9 9 _ (heap_alloc_new wb _)
        have HBa := Lib.hid (HA.out.trans (((below_new wb (.cells #[.int .u8 40, .int .u8 49, .int .u8 32, .int .u8 45, .int .u8 32, .int .u8 48, .int .u8 58, .int .u8 32, .int .u8 48] 5)).trans hBy).mono HA.out.size))
        have HCY : Hid (∀ q u, (byC (hd1B ++ repB (32 :: lf2) 0))[q]? = some u → wy.cell? ⟨wb.heap.size, q, none⟩ = some u) := Lib.hid (fun q u hq => by
          rw [hcy]
          rw [Lib.cell_of_heap (heap_alloc_new wb (.cells #[.int .u8 40, .int .u8 49, .int .u8 32, .int .u8 45, .int .u8 32, .int .u8 48, .int .u8 58, .int .u8 32, .int .u8 48] 5))]
          have e : byC (hd1B ++ repB (32 :: lf2) 0) = [.int .u8 40, .int .u8 49, .int .u8 32, .int .u8 45, .int .u8 32, .int .u8 48, .int .u8 58, .int .u8 32, .int .u8 48] := by simp [byC, hd1B, repB]
          rw [e] at hq
          simpa using hq)
        have hsy2 : wb.heap.size ≤ wy.heap.size := by rw [hsy]; simp
        clear hBy hcy hsy
        rw [hcv]
        simp only [Result.andThen]
        rw [Oper.upon_value]
        clear hcv
        go_wp2_with fail
        go_loopw [12, 13] (fun v i wr => ∃ (j g cap : Nat), j ≤ n ∧ i = .int .i64 j ∧ v = .slice (some ⟨g, 0, none⟩) (9 + 11 * j) cap ∧ (∀ q u, (byC (hd1B ++ repB (32 :: lf2) j))[q]? = some u → wr.cell? ⟨g, q, none⟩ = some u) ∧ (j = 0 ∧ cap = 9 ∨ wr.ownsRow wb.heap.size 5 1 (.slice (some ⟨g, 0, none⟩) (9 + 11 * j) cap) (9 + 11 * j) (byC (hd1B ++ repB (32 :: lf2) j))) ∧ Below w.heap.size w wr ∧ wb.heap.size ≤ wr.heap.size) (fun _ i _ => n - (intOf i).toNat)
        case atStart => exact ⟨0, _, _, Nat.zero_le _, rfl, rfl, HCY.out, .inl ⟨rfl, rfl⟩, HBa.out, hsy2⟩
        case round =>
          obtain ⟨j, g, cap, hj, rfl, rfl, hcs, hdis, hB, hsz⟩ := hrel
          by_cases hjn : j < n
          · have hbase : w.heap.size ≤ wb.heap.size := HA.out.size
            have HB := Lib.hid hB
            have hsz5 : (⟨(32 :: lf2).toArray⟩ : ByteArray).size = 11 := rfl
            have hbl : (byC (hd1B ++ repB (32 :: lf2) j)).length = 9 + 11 * j := by simp only [byC, List.length_map, List.length_append, repB_len]; simp [hd1B, lf2]; omega
            have e5 : 9 + 11 * j + 11 = 9 + 11 * (j + 1) := by omega
            have HE5 := Lib.hid (And.intro hsz5 (And.intro e5 hbl))
            clear hB hsz5 e5 hbl
            rcases hdis with ⟨h0, hc9⟩ | hown
            · subst h0
              subst hc9
              go_wp2_with (at_builtin; refine wpList_str_new _ rfl _ _ 45 9 rfl 5 i0 Tryz.underlying45 Tryz.underlying9 hi hz0 hz1 hz2 g 9 9 (byC (hd1B ++ repB (32 :: lf2) 0)) rfl HE5.out.2.2 hcs ⟨(32 :: lf2).toArray⟩ rfl (by rw [HE5.out.1]; omega) (by omega) (by rw [HE5.out.1]; unfold maxLen; omega) (by rw [HE5.out.1]; omega) ?_)
              intro v' w5 hownA hgrow
              have hown' : w5.ownsRow wr.heap.size 5 1 v' (9 + 11 * (0 + 1)) (byC (hd1B ++ repB (32 :: lf2) (0 + 1))) := by
                rw [repB_snoc, ← List.append_assoc, byC_app, ← byC_str (32 :: lf2)]
                exact hownA
              clear hownA
              obtain ⟨g5, cap5, hv5, hb5, _⟩ := hown'.form (by omega)
              have hB5 : Below w.heap.size w w5 := HB.out.trans ((Fr.of_grown hgrow).below _ (fun q hq => by simp at hq) HB.out.size)
              have hs5 := hgrow.size
              subst hv5
              have hbs : wb.heap.size ≤ g5 := by omega
              have hown2 : w5.ownsRow wb.heap.size 5 1 (.slice (some ⟨g5, 0, none⟩) (9 + 11 * (0 + 1)) cap5) (9 + 11 * (0 + 1)) (byC (hd1B ++ repB (32 :: lf2) (0 + 1))) := by
                refine ⟨hown'.1, ?_⟩
                rcases hown'.2 with ⟨h1, _⟩ | ⟨gg, cc, cur, h1, h2, h3⟩
                · cases h1
                · exact .inr ⟨gg, cc, cur, h1, by omega, h3⟩
              have HX := Lib.hid (And.intro (own_cells hown2) (And.intro hown2 (And.intro hB5 (Nat.le_trans hsz hs5))))
              clear hown' hown2 hgrow hB5 hsz hcs
              go_wp2_with fail
              go_roundw
              case rel => exact ⟨0 + 1, _, _, by omega, by simp, rfl, HX.out.1, .inr HX.out.2.1, HX.out.2.2⟩
              case measure => simp [intOf]; omega
            · go_wp2_with (at_builtin; refine wpList_str_at _ rfl _ _ 45 9 rfl wb.heap.size 5 i0 Tryz.underlying45 Tryz.underlying9 hi hz0 hz1 hz2 _ (9 + 11 * j) (byC (hd1B ++ repB (32 :: lf2) j)) rfl hown ⟨(32 :: lf2).toArray⟩ rfl (by rw [HE5.out.1]; unfold maxLen; omega) (by rw [HE5.out.1]; omega) hsz ?_)
              intro v' w5 hownA hgrow hat
              have hown' : w5.ownsRow wb.heap.size 5 1 v' (9 + 11 * (j + 1)) (byC (hd1B ++ repB (32 :: lf2) (j + 1))) := by
                rw [repB_snoc, ← List.append_assoc, byC_app, ← byC_str (32 :: lf2), ← HE5.out.2.1]
                exact hownA
              clear hownA
              obtain ⟨g5, cap5, hv5, hb5, _⟩ := hown'.form (by omega)
              have hB5 : Below w.heap.size w w5 := HB.out.trans ((Fr.of_grown hgrow).below _ (fun q hq => by
                have := (hown.lt q (by simpa using hq)).1
                omega) HB.out.size)
              have hs5 := hgrow.size
              subst hv5
              have HX := Lib.hid (And.intro (own_cells hown') (And.intro hown' (And.intro hB5 (Nat.le_trans hsz hs5))))
              clear hown hown' hgrow hat hB5 hsz hcs
              go_wp2_with fail
              go_roundw
              case rel => exact ⟨j + 1, _, _, by omega, by simp, rfl, HX.out.1, .inr HX.out.2.1, HX.out.2.2⟩
              case measure => simp [intOf]; omega
          · obtain rfl : j = n := by omega
            have hll : (hd1B ++ repB (32 :: lf2) j).length = 9 + 11 * j := by rw [List.length_append, repB_len]; simp [hd1B, lf2]; omega
            have hconv := back_str wr g cap (hd1B ++ repB (32 :: lf2) j) hcs
            rw [hll] at hconv
            have HR := tRead_any wr (HE.out.below hB) (hd1B ++ (repB (32 :: lf2) j ++ [41])) (by simp only [List.length_append, repB_len]; simp [hd1B, lf2]; omega)
            have eqs : (⟨(hd1B ++ (repB (32 :: lf2) j ++ [41])).toArray⟩ : ByteArray) = ⟨(hd1B ++ repB (32 :: lf2) j).toArray⟩ ++ ⟨#[41]⟩ := by
              rw [← List.append_assoc]
              exact (cat2 _ [41]).symm
            rw [eqs] at HR
            clear eqs
            have HB := Lib.hid hB
            have hln : ((⟨(hd1B ++ repB (32 :: lf2) j).toArray⟩ : ByteArray)).size = 9 + 11 * j := by rw [size_lit, hll]
            clear hdis hcs hB hll
            generalize (⟨(hd1B ++ repB (32 :: lf2) j).toArray⟩ : ByteArray) = sb at *
            go_wp2_with fail
            refine HR.mono ?_
            rintro e wc hp
            clear HR hconv
            by_cases hw8 : 8192 < j + 1
            · rw [show hd1B = headT d1 from head_d1.symm, read_wide_err j hw8] at hp
              obtain ⟨rfl, Bc, _⟩ := hp
              have hBc := HB.out.trans (Bc.mono HB.out.size)
              have HW := works_any wc (HE.out.below hBc)
              have HC := Lib.hid hBc
              have hg8 : (8192 : Int) < (j : Int) + 1 := by omega
              clear Bc hBc
              go_wp2_with fail
              refine HW.mono ?_
              rintro e we ⟨rfl, Be⟩
              have HF := Lib.hid (HC.out.trans (Be.mono HC.out.size))
              clear HW Be
              go_wp2_with fail
              go_ret
              exact ⟨rfl, HF.out⟩
            · rw [show hd1B = headT d1 from head_d1.symm, read_wide_ok j (by omega)] at hp
              obtain ⟨tq, rfl, Bc, hT, hdt, hnd⟩ := hp
              have hBc := HB.out.trans (Bc.mono HB.out.size)
              have hct : (tq.cnt : Int) = (j : Int) + 1 := by rw [cnt_dt _ _ hdt, wd_cnt]; omega
              have HCT := Count_any wc tq hT hnd (by rw [cnt_dt _ _ hdt, wd_cnt]; omega)
              rw [hct] at HCT
              have HC := Lib.hid hBc
              have hg8 : ¬ ((8192 : Int) < (j : Int) + 1) := by omega
              clear Bc hBc hT hdt hnd hct
              simp only [ptrV] at HCT ⊢
              go_wp2_with fail
              refine HCT.mono ?_
              rintro e wd2 ⟨rfl, Bd⟩
              have hBd := HC.out.trans (Bd.mono HC.out.size)
              have HW := works_any wd2 (HE.out.below hBd)
              have HD2 := Lib.hid hBd
              clear HCT Bd hBd
              go_wp2_with fail
              refine HW.mono ?_
              rintro e we ⟨rfl, Be⟩
              have HF := Lib.hid (HD2.out.trans (Be.mono HD2.out.size))
              clear HW Be
              go_wp2_with fail
              go_ret
              exact ⟨rfl, HF.out⟩
theorem tb_int (a0 a1 : Int) (l0 : 0 ≤ a0) (u0 : a0 ≤ 255) (l1 : 0 ≤ a1) (u1 : a1 ≤ 65535) (w : World) (hE : Env w) :
    Calls Tryz.prog 7 #[.int .u8 a0, .int .u16 a1] w fun e w' => e = .returned (.bool true) ∧ Below w.heap.size w w' := by
  obtain ⟨d, rfl⟩ := Int.eq_ofNat_of_zero_le l0
  obtain ⟨wd, rfl⟩ := Int.eq_ofNat_of_zero_le l1
  exact tb_any d wd (by omega) (by omega) w hE
end Go.Proofs.YtliebhpddjbjeaaGreatDoor
