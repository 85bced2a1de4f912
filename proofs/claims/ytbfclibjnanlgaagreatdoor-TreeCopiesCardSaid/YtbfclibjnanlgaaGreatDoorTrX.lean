/- strings.Builder, walked: which blocks a write changes. -/
import Derived.Test.YtbfclibjnanlgaaGreatDoorTwA
import Derived.Test.YtbfclibjnanlgaaGreatDoorLzM
namespace Go.Proofs.YtbfclibjnanlgaaGreatDoor
open Go.RowKit
set_option maxHeartbeats 2000000
set_option maxRecDepth 100000
set_option linter.unusedVariables false

theorem Fr.grow {M : List Nat} {w w' : World} {row : Option Nat} (h : w.grownBy w' row) (hM : ∀ k, row = some k → k ∈ M ∨ w.heap.size ≤ k) : Fr M w w' :=
  ⟨h.os, h.tape, h.output, h.size, fun k hk hn => h.block k hk (fun e => by rcases hM k e.symm with h | h; exact hn h; omega)⟩
/-- Appending a string's bytes, and where the new row lies. -/
theorem run_str_at {P : Program} (w : World) (base : Nat) (t u ty e : TypeId) (i : TypeInfo) (ht : P.underlying t = some (.slice e)) (hu : P.underlying u = some .string) (hi : P.info? e = some i) (hz : i.zero = some (.int .u8 0))
    (hsize : i.size = 1) (hby : i.bytes = 1) (v : Value) (n : Nat) (xs : List Value) (hown : w.ownsRow base e 1 v n xs) (s : ByteArray)
    (h63 : n + s.size ≤ maxLen) (hbytes : n + s.size ≤ 140737488355328) (hbase : base ≤ w.heap.size) :
    ∃ v' w', (Builtin.append_ #[t, u] ty #[v, .string s]).run P w = .ok v' w' ∧ w'.ownsRow base e 1 v' (n + s.size) (xs ++ Lib.strCells s) ∧ w.grownBy w' v.ownBlock ∧ ∀ k, v'.ownBlock = some k → v.ownBlock = some k ∨ w.heap.size ≤ k := by
  obtain ⟨v', w', hr, h2, h3, _⟩ := Lib.run_append_own_string (P := P) w base t u ty e i ht hu hi hz hsize hby v n xs hown s h63 hbytes hbase
  refine ⟨v', w', hr, h2, h3, fun k hk => ?_⟩
  have hsmall : n + s.size ≤ 9223372036854775807 := by unfold maxLen at h63; omega
  rcases hown.2 with ⟨h4, h5⟩ | ⟨g, cap, cur, h4, hbg, hg, hnc, hcm, hcs, htake⟩
  · subst h4; subst h5
    have hx : xs = [] := List.eq_nil_of_length_eq_zero (by simpa using hown.1)
    subst hx
    obtain ⟨v2, w2, hr2, h22, _, _⟩ := Lib.run_append_own_string (P := P) w w.heap.size t u ty e i ht hu hi hz hsize hby (.slice none 0 0) 0 [] (World.ownsRow_nil _ _ _ _) s h63 hbytes (Nat.le_refl _)
    obtain ⟨rfl, rfl⟩ : v' = v2 ∧ w' = w2 := by
      have := hr.symm.trans hr2
      simpa using this
    exact .inr (h22.lt k hk).1
  · subst h4
    have hcs' : cur.size = cap := by simpa using hcs
    by_cases hroom : n + s.size ≤ cap
    · have hr2 := Lib.run_append_room_string (P := P) w t u ty e i ht hu hi hsize g n cap cur hg s hroom (by omega)
      obtain ⟨rfl, rfl⟩ : v' = _ ∧ w' = _ := by
        have := hr.symm.trans hr2
        simpa using this
      exact .inl hk
    · have holds : ∀ j u, xs[j]? = some u → w.cell? ((⟨g, 0, none⟩ : Addr).add j) = some u := hown.cells (g := g) rfl
      have hr2 := Lib.run_append_grow_string (P := P) w t u ty e i (.int .u8 0) ht hu hi hz ⟨g, 0, none⟩ n cap xs (by rw [hsize]; simpa using hown.1) holds s (by omega) (by omega) (by rw [hby]; exact growslice_fits (by omega) (by omega))
      obtain ⟨rfl, rfl⟩ : v' = _ ∧ w' = _ := by
        have := hr.symm.trans hr2
        simpa using this
      have : w.heap.size = k := by simpa [Value.ownBlock] using hk
      exact .inr (by omega)
theorem wpList_str_at {P : Program} (w : World) {ops : Array Oper} {rest : List Oper} {o : Oper} {a : Act} {Q : Exit → Act → World → Prop} (hgd : o.guard = none) (sl x : Operand) (t u : TypeId)
    (ho : o.op = .call { callee := .builtin .append, args := #[sl, x], argTypes := #[t, u] })
    (base : Nat) (e : TypeId) (i : TypeInfo) (ht : P.underlying t = some (.slice e)) (hu : P.underlying u = some .string) (hi : P.info? e = some i) (hz : i.zero = some (.int .u8 0))
    (hsize : i.size = 1) (hby : i.bytes = 1) (v : Value) (n : Nat) (xs : List Value) (hs : a.eval sl = v) (hown : w.ownsRow base e 1 v n xs) (s : ByteArray) (hx : a.eval x = .string s)
    (h63 : n + s.size ≤ maxLen) (hbytes : n + s.size ≤ 140737488355328) (hbase : base ≤ w.heap.size)
    (h : ∀ v' w', w'.ownsRow base e 1 v' (n + s.size) (xs ++ Lib.strCells s) → w.grownBy w' v.ownBlock → (∀ k, v'.ownBlock = some k → v.ownBlock = some k ∨ w.heap.size ≤ k) → wpList P ops Q rest (a.put o.dst v') w') : wpList P ops Q (o :: rest) a w := by
  refine wpList_plain hgd fun K hK => ?_
  obtain ⟨v', w', hr, h2, h3, h4⟩ := run_str_at (P := P) w base t u o.type e i ht hu hi hz hsize hby v n xs hown s h63 hbytes hbase
  unfold Oper.wp execOp
  simp only [ho, resolve, invoke, builtin, Sem.run_bind, Sem.run_pure, Result.andThen_ok, List.map_toArray, List.map_cons, List.map_nil, hs, hx, hr]
  exact hK _ _ (h v' w' h2 h3 h4)

/-- Bytes as cells. -/
def byC (bs : List UInt8) : List Value := bs.map fun c => .int .u8 c.toNat
theorem byC_app (a b : List UInt8) : byC (a ++ b) = byC a ++ byC b := by simp [byC]
theorem byC_str (s : List UInt8) : Lib.strCells ⟨s.toArray⟩ = byC s := by simp [Lib.strCells, byC]
theorem size_str (s : List UInt8) : (⟨s.toArray⟩ : ByteArray).size = s.length := by simp [ByteArray.size]
/-- In block b lies a builder; its row v holds the bytes bs. -/
structure Bld (base b : Nat) (bs : List UInt8) (w : World) (v : Value) : Prop where
  h : ∃ pv, w.heap[b]? = some (.cells #[pv, v] 60 (0, 0)) ∧ (pv = .pointer none ∨ pv = .pointer (some ⟨b, 0, none⟩))
  own : w.ownsRow base 5 1 v bs.length (byC bs)
  b : base ≤ b
theorem Bld.lt {base b : Nat} {bs : List UInt8} {w : World} {v : Value} (h : Bld base b bs w v) : b < w.heap.size := by
  obtain ⟨pv, h1, _⟩ := h.h
  exact lt_heap h1
theorem Bld.ne {base b : Nat} {bs : List UInt8} {w : World} {v : Value} (h : Bld base b bs w v) : v.ownBlock ≠ some b := by
  obtain ⟨pv, h1, _⟩ := h.h
  exact Lib.ownBlock_ne h.own h1 Tryz.Builder_Extra_169.neB5
theorem Bld.old {base b : Nat} {bs : List UInt8} {w : World} {v : Value} (h : Bld base b bs w v) : ∀ j ∈ obL v, base ≤ j ∧ j < w.heap.size := fun j hj => h.own.lt j ((mem_ob v j).1 hj)
theorem Bld.keep {base b : Nat} {bs : List UInt8} {w w' : World} {v : Value} {N : List Nat} (h : Bld base b bs w v) (hf : Fr N w w') (h1 : b ∉ N) (h2 : ∀ j ∈ obL v, j ∉ N) : Bld base b bs w' v := by
  have hl := h.lt
  obtain ⟨⟨pv, h3, h4⟩, h5, h6⟩ := h
  exact ⟨⟨pv, (hf.block b hl h1).trans h3, h4⟩, own_keep h5 hf h2, h6⟩
theorem Bld.isB {base b : Nat} {bs : List UInt8} {w : World} {v : Value} (h : Bld base b bs w v) : Lib.IsBuilder 60 5 base b (byC bs) w := by
  have hne := h.ne
  obtain ⟨⟨pv, h3, h4⟩, h5, h6⟩ := h
  have hl : (byC bs).length = bs.length := by simp [byC]
  rcases h4 with rfl | rfl
  · exact .inl ⟨h6, v, h3, by rw [hl]; exact h5, hne⟩
  · exact .inr ⟨h6, v, h3, by rw [hl]; exact h5, hne⟩
theorem bldF_check {base b : Nat} {bs : List UInt8} {w : World} {v : Value} (h : Bld base b bs w v) :
    Calls Tryz.prog 47 #[.pointer (some ⟨b, 0, none⟩)] w fun e w' => e = .returned (.tuple #[]) ∧ (w'.heap[b]? = some (.cells #[.pointer (some ⟨b, 0, none⟩), v] 60 (0, 0)) ∧ Fr [b] w w') := by
  obtain ⟨⟨pv, h3, h4⟩, h5, h6⟩ := h
  rcases h4 with rfl | rfl
  · refine (bld_fresh b w (by rw [Lib.cell_of_heap h3]; rfl) (by simp [World.shape?, h3]) (Lib.frozen_of_heap h3 0)).mono ?_
    rintro e w' ⟨rfl, rfl⟩
    exact ⟨rfl, by simp [World.setCell, Array.getElem?_modify, h3], Fr.set w b 0 _⟩
  · refine (bld_used b w (by rw [Lib.cell_of_heap h3]; rfl)).mono ?_
    rintro e w' ⟨rfl, rfl⟩
    exact ⟨rfl, h3, Fr.refl _ _⟩
/-- What a write leaves: the end of both. -/
theorem bldF_end {base b : Nat} {bs cs : List UInt8} {w w1 w2 : World} {v v' : Value} (h : Bld base b bs w v) (F1 : Fr [b] w w1) (hb1 : w1.heap[b]? = some (.cells #[.pointer (some ⟨b, 0, none⟩), v] 60 (0, 0)))
    (F2 : Fr (obL v) w1 w2) (hown : w2.ownsRow base 5 1 v' (bs ++ cs).length (byC (bs ++ cs))) (hat : ∀ j ∈ obL v', j ∈ obL v ∨ w.heap.size ≤ j) :
    Bld base b (bs ++ cs) (w2.setCell ⟨b, 1, none⟩ v') v' ∧ Fr (b :: obL v) w (w2.setCell ⟨b, 1, none⟩ v') ∧ ∀ j ∈ obL v', j ∈ obL v ∨ w.heap.size ≤ j := by
  have hnb : b ∉ obL v := fun hm => h.ne ((mem_ob v b).1 hm)
  have hb2 : w2.heap[b]? = some (.cells #[.pointer (some ⟨b, 0, none⟩), v] 60 (0, 0)) := (F2.block b (lt_heap hb1) hnb).trans hb1
  have hne := Lib.ownBlock_ne hown hb2 Tryz.Builder_Extra_169.neB5
  have F3 := Fr.set w2 b 1 v'
  refine ⟨⟨⟨.pointer (some ⟨b, 0, none⟩), by simp [World.setCell, Array.getElem?_modify, hb2], .inr rfl⟩, own_keep hown F3 (fun j hj hm => ?_), h.b⟩, ?_, hat⟩
  · obtain rfl : j = b := by simpa using hm
    exact hne ((mem_ob v' j).1 hj)
  · refine ((F1.mono (N := b :: obL v) (by simp)).trans F2 (fun j hj => .inl (List.mem_cons_of_mem _ hj))).trans F3 (fun j hj => .inl ?_)
    obtain rfl : j = b := by simpa using hj
    exact List.mem_cons_self
theorem bldF_byte {base b : Nat} {bs : List UInt8} {w : World} {v : Value} (c : UInt8) (h : Bld base b bs w v) (hlen : bs.length + 1 ≤ 140737488355328) (hBw : base ≤ w.heap.size) :
    Calls Tryz.prog 30 #[.pointer (some ⟨b, 0, none⟩), .int .u8 c.toNat] w fun e w' => e = .returned .nilIface ∧ ∃ v', Bld base b (bs ++ [c]) w' v' ∧ Fr (b :: obL v) w w' ∧ ∀ j ∈ obL v', j ∈ obL v ∨ w.heap.size ≤ j := by
  obtain ⟨i0, hi, hz0, hz1, hz2⟩ := info_parts Tryz.Builder_Extra_169.infoByte
  have HC := bldF_check h
  have HB := Lib.hid h
  obtain ⟨k, hk⟩ : ∃ k : Int, (c.toNat : Int) = k := ⟨_, rfl⟩
  have HK := Lib.hid hk
  rw [hk]
  clear h hk
  go_enter Tryz.func30, Tryz.ntmps30
  go_wp2_with fail
  refine HC.mono ?_
  rintro e w1 ⟨rfl, hbk, F1⟩
  have hs1 := F1.size
  have hown1 := own_keep HB.out.own F1 (fun j hj hm => by
    obtain rfl : j = b := by simpa using hm
    exact HB.out.ne ((mem_ob v j).1 hj))
  have hown := hown1.alloc (.cells #[.int .u8 k] 5)
  have c0 : w1.cell? ⟨b, 0, none⟩ = some (.pointer (some ⟨b, 0, none⟩)) := by rw [Lib.cell_of_heap hbk]; rfl
  have c1 : w1.cell? ⟨b, 1, none⟩ = some v := by rw [Lib.cell_of_heap hbk]; rfl
  have HF1 := Lib.hid F1
  have HBK := Lib.hid hbk
  have hll : (byC bs).length = bs.length := by simp [byC]
  clear HC F1 hbk hown1
  have HN1 : Hid (∀ j u, [(.int .u8 k : Value)][j]? = some u → (w1.alloc (.cells #[.int .u8 k] 5)).cell? ((⟨w1.heap.size, 0, none⟩ : Addr).add j) = some u) := Lib.hid (fun j u hj => by
    match j, hj with
    | 0, hj => simp at hj; subst hj; simp [Addr.add])
  have HO1 : Hid (∀ u ∈ [(.int .u8 k : Value)], u.oneCell' = true) := Lib.hid (fun u hu => by simp at hu; subst hu; rfl)
  go_wp2_with (at_builtin; refine wpList_append_lies _ rfl _ _ 58 rfl base 5 i0 (.int .u8 0) 1 1 Tryz.underlying58 hi hz0 hz1 hz2 rfl (by decide) v bs.length (byC bs) rfl hown ⟨w1.heap.size, 0, none⟩ 1 1 [.int .u8 k] rfl rfl HN1.out HO1.out (by decide) (by unfold maxLen; omega) (by omega) (by simp <;> omega) (w1.heap.size + 1) (by simp) ?_)
  intro g cap w2 hown' hgrow hat hlt2
  have hnb : some b ≠ v.ownBlock := fun e => HB.out.ne e.symm
  have hb2 : w2.heap[b]? = some (.cells #[.pointer (some ⟨b, 0, none⟩), v] 60 (0, 0)) := (hgrow.block b (by have := lt_heap HBK.out; simp; omega) hnb).trans ((Lib.alloc_old w1 _ b (lt_heap HBK.out)).trans HBK.out)
  have d0 : w2.cell? ⟨b, 0, none⟩ = some (.pointer (some ⟨b, 0, none⟩)) := by rw [Lib.cell_of_heap hb2]; rfl
  have d1 : w2.cell? ⟨b, 1, none⟩ = some v := by rw [Lib.cell_of_heap hb2]; rfl
  have f1 : w2.frozen? ⟨b, 1, none⟩ = false := Lib.frozen_of_heap hb2 1
  have HG := Lib.hid (And.intro hown' (And.intro hgrow hat))
  clear hown' hgrow hat hown hb2 hnb
  go_wp2_with fail
  go_ret
  obtain ⟨g1, g2, g3⟩ := HG.out
  refine ⟨rfl, .slice (some ⟨g, 0, none⟩) (bs.length + 1) cap, bldF_end HB.out HF1.out HBK.out ?_ ?_ ?_⟩
  · exact (Fr.alloc w1 _).mono (by simp) |>.trans (Fr.of_grown g2) (fun j hj => .inl hj)
  · rw [List.length_append, byC_app, show byC [c] = [.int .u8 k] from by simp [byC, HK.out]]
    exact g1
  · intro j hj
    obtain rfl : j = g := by simpa [obL, Value.ownBlock] using hj
    rcases g3 with h | h
    · exact .inl ((mem_ob v j).2 h)
    · exact .inr (by omega)
theorem bldF_str {base b : Nat} {bs : List UInt8} {w : World} {v : Value} (s : List UInt8) (h : Bld base b bs w v) (hlen : bs.length + s.length ≤ 140737488355328) (hBw : base ≤ w.heap.size) :
    Calls Tryz.prog 31 #[.pointer (some ⟨b, 0, none⟩), .string ⟨s.toArray⟩] w fun e w' => e = .returned (.tuple #[.int .i64 s.length, .nilIface]) ∧ ∃ v', Bld base b (bs ++ s) w' v' ∧ Fr (b :: obL v) w w' ∧ ∀ j ∈ obL v', j ∈ obL v ∨ w.heap.size ≤ j := by
  obtain ⟨i0, hi, hz0, hz1, hz2⟩ := info_parts Tryz.Builder_Extra_169.infoByte
  have HC := bldF_check h
  have HB := Lib.hid h
  obtain ⟨sb, hsb⟩ : ∃ sb : ByteArray, (⟨s.toArray⟩ : ByteArray) = sb := ⟨_, rfl⟩
  have hsz : sb.size = s.length := by rw [← hsb]; exact size_str s
  have HSB := Lib.hid hsb
  rw [hsb]
  generalize hsl : (s.length : Int) = sl
  have hsl2 : (sb.size : Int) = sl := by rw [hsz]; exact hsl
  have HSZ := Lib.hid hsz
  have hlen2 : bs.length + sb.size ≤ 140737488355328 := by omega
  clear h hsb hsl hsz hlen
  go_enter Tryz.func31, Tryz.ntmps31
  go_wp2_with fail
  refine HC.mono ?_
  rintro e w1 ⟨rfl, hbk, F1⟩
  have hs1 := F1.size
  have hown := own_keep HB.out.own F1 (fun j hj hm => by
    obtain rfl : j = b := by simpa using hm
    exact HB.out.ne ((mem_ob v j).1 hj))
  have c0 : w1.cell? ⟨b, 0, none⟩ = some (.pointer (some ⟨b, 0, none⟩)) := by rw [Lib.cell_of_heap hbk]; rfl
  have c1 : w1.cell? ⟨b, 1, none⟩ = some v := by rw [Lib.cell_of_heap hbk]; rfl
  have HF1 := Lib.hid F1
  have HBK := Lib.hid hbk
  clear HC F1 hbk
  go_wp2_with (at_builtin; refine wpList_str_at _ rfl _ _ 58 9 rfl base 5 i0 Tryz.underlying58 Tryz.underlying9 hi hz0 hz1 hz2 v bs.length (byC bs) rfl hown sb rfl (by unfold maxLen; omega) (by omega) (by omega) ?_)
  intro v' w2 hown' hgrow hat
  have hnb : some b ≠ v.ownBlock := fun e => HB.out.ne e.symm
  have hb2 : w2.heap[b]? = some (.cells #[.pointer (some ⟨b, 0, none⟩), v] 60 (0, 0)) := (hgrow.block b (lt_heap HBK.out) hnb).trans HBK.out
  have d0 : w2.cell? ⟨b, 0, none⟩ = some (.pointer (some ⟨b, 0, none⟩)) := by rw [Lib.cell_of_heap hb2]; rfl
  have d1 : w2.cell? ⟨b, 1, none⟩ = some v := by rw [Lib.cell_of_heap hb2]; rfl
  have f1 : w2.frozen? ⟨b, 1, none⟩ = false := Lib.frozen_of_heap hb2 1
  obtain ⟨ao, n', cap, hv'⟩ : ∃ ao n' cap, v' = .slice ao n' cap := by
    rcases hown'.2 with ⟨hv, _⟩ | ⟨g, cap, cur, hv, _⟩
    · exact ⟨_, _, _, hv⟩
    · exact ⟨_, _, _, hv⟩
  have HG := Lib.hid (And.intro hown' (And.intro hgrow hat))
  subst hv'
  clear hown' hgrow hat hown hb2 hnb
  go_wp2_with fail
  go_ret2
  obtain ⟨g1, g2, g3⟩ := HG.out
  refine ⟨rfl, .slice ao n' cap, bldF_end HB.out HF1.out HBK.out (Fr.of_grown g2) ?_ ?_⟩
  · rw [List.length_append, byC_app, ← HSZ.out, ← byC_str s, HSB.out]
    exact g1
  · intro j hj
    rcases g3 j ((mem_ob _ j).1 hj) with h | h
    · exact .inl ((mem_ob v j).2 h)
    · exact .inr (by omega)
end Go.Proofs.YtbfclibjnanlgaaGreatDoor
