/- The document's table of layer 11: what it answers. -/
import Derived.Test.YtepfknfadpkigaaTyM
namespace Go.Proofs.Ytepfknfadpkigaa
open Go.RowKit
set_option maxHeartbeats 1000000
set_option maxRecDepth 100000
set_option linter.unusedVariables false
set_option linter.unusedSimpArgs false

/-- The document's table. -/
structure DTab (w : World) (t g cap : Nat) (L : List TyV) : Prop where
  c : w.heap[t]? = some (.cells #[.slice (some ⟨g, 0, none⟩) L.length cap] 31)
  own : w.ownsRow 0 43 12 (.slice (some ⟨g, 0, none⟩) L.length cap) L.length (rowT L)
  n : 10 ≤ L.length ∧ L.length ≤ 1024
  ne : t ≠ g
  t : t < w.heap.size ∧ g < w.heap.size
theorem DTab.row {w : World} {t g cap : Nat} {L : List TyV} (h : DTab w t g cap L) : RowTy w g L := by
  intro i x hx j v hv
  have hi : i < L.length := (List.getElem?_eq_some_iff.1 hx).1
  have hj : j < 12 := (Array.getElem?_eq_some_iff.1 hv).1
  rw [h.own.cellAt (i * 12 + j) (by omega)]
  exact rowT_at L i x hx j v hv
theorem DTab.c0 {w : World} {t g cap : Nat} {L : List TyV} (h : DTab w t g cap L) : w.cell? ⟨t, 0, none⟩ = some (.slice (some ⟨g, 0, none⟩) L.length cap) := by
  have := h.c
  simp [World.cell?, this]
theorem DTab.same {w w' : World} {t g cap : Nat} {L : List TyV} (h : DTab w t g cap L) (h1 : w'.heap[t]? = w.heap[t]?) (h2 : w'.heap[g]? = w.heap[g]?) (hs : w.heap.size ≤ w'.heap.size) : DTab w' t g cap L :=
  ⟨h1.trans h.c, own_same h.own h2, h.n, h.ne, by have := h.t; omega⟩
theorem DTab.on {w w' : World} {t g cap : Nat} {L : List TyV} (h : DTab w t g cap L) (k : Bl w w') : DTab w' t g cap L := h.same (k.block t h.t.1) (k.block g h.t.2) k.size
theorem dget_out {w : World} {t g cap : Nat} {L : List TyV} (h : DTab w t g cap L) (i : Int) (hi : i < 0 ∨ L.length ≤ i) : Calls Try.prog 14 #[.pointer (some ⟨t, 0, none⟩), .int .i64 i] w fun e w' => e = .returned TyV.z.val ∧ Bl w w' := by
  have hc := h.c0
  rcases Int.lt_or_le i 0 with h1 | h1
  · have d1 : decide (i < 0) = true := decide_eq_true h1
    clear hi h
    go_enter Try.func14, Try.ntmps14
    go_wp2_with fail
    refine bodyPost_ret (v := TyV.z.val) (by simp [results, Try.results14, go_sem, TyV.z, TyV.val, Sl.no]) rfl ⟨rfl, ?_⟩
    repeat (first | exact Below.refl _ _ | assumption | refine Below.alloc ?_ (by simp <;> omega) _ | refine Below.setCell ?_ (by simp <;> omega) _)
  · have d1 : decide (i < 0) = false := decide_eq_false (by omega)
    have h2 : (L.length : Int) ≤ i := by omega
    obtain ⟨n, hn⟩ : ∃ n, L.length = n := ⟨_, rfl⟩
    rw [hn] at hc h2
    have d2 : decide (i ≥ (n : Int)) = true := decide_eq_true (by omega)
    have hcA : ∀ o, (w.alloc o).cell? ⟨t, 0, none⟩ = some (.slice (some ⟨g, 0, none⟩) n cap) := fun o => ((bl_new w o).cell (p := ⟨t, 0, none⟩) h.t.1).trans hc
    clear hi h1 h2 h hn
    go_enter Try.func14, Try.ntmps14
    go_wp2_with fail
    refine bodyPost_ret (v := TyV.z.val) (by simp [results, Try.results14, go_sem, TyV.z, TyV.val, Sl.no]) rfl ⟨rfl, ?_⟩
    repeat (first | exact Below.refl _ _ | assumption | refine Below.alloc ?_ (by simp <;> omega) _ | refine Below.setCell ?_ (by simp <;> omega) _)
theorem dget_in {w : World} {t g cap : Nat} {L : List TyV} (h : DTab w t g cap L) (k : Nat) (x : TyV) (hk : L[k]? = some x) : Calls Try.prog 14 #[.pointer (some ⟨t, 0, none⟩), .int .i64 k] w fun e w' => e = .returned x.val ∧ Bl w w' := by
  have hlt : k < L.length := (List.getElem?_eq_some_iff.1 hk).1
  have T2 := h.on (bl_new w (.cells #[.int .u8 0, .string ⟨#[]⟩, .string ⟨#[]⟩, .int .i64 0, .int .i64 0, .int .i64 0, .int .i64 0, .slice none 0 0, .slice none 0 0, .slice none 0 0, .slice none 0 0, .int .i64 0] 43))
  have HC2 := T2.c0
  have HC1 := h.c0
  obtain ⟨n, hn⟩ : ∃ n, L.length = n := ⟨_, rfl⟩
  rw [hn] at hlt HC2 HC1
  have d1 : decide ((k : Int) < 0) = false := decide_eq_false (by omega)
  have d2 : decide ((k : Int) ≥ (n : Int)) = false := decide_eq_false (by omega)
  have HR := Lib.hid (T2.row.get hk)
  have KB := Bx.new w 43 #[.int .u8 0, .string ⟨#[]⟩, .string ⟨#[]⟩, .int .i64 0, .int .i64 0, .int .i64 0, .int .i64 0, .slice none 0 0, .slice none 0 0, .slice none 0 0, .slice none 0 0, .int .i64 0]
  clear h hk hn T2
  go_enter Try.func14, Try.ntmps14
  go_wp2_with (first | (refine wpList_load_mid rfl 43 _ rfl g (k * 12) rfl x.arr.toList _ HR.out Try.underlying43 rfl infoTy ?_) | (refine wpList_store_row rfl 43 _ _ rfl w.heap.size x.arr rfl rfl 43 _ KB infoTy rfl x.one ?_))
  refine bodyPost_ret (v := x.val) ?_ rfl ?_
  · exact results_cell_row Try.results14 _ _ _ 43 x.arr (0, 0) _ rfl (KB.set _) Try.underlying43 rfl infoTy
  · exact ⟨rfl, bl_row (bl_new w _) (Nat.le_refl _) _⟩
theorem dget_any {w : World} {t g cap : Nat} {L : List TyV} (h : DTab w t g cap L) (i : Int) : Calls Try.prog 14 #[.pointer (some ⟨t, 0, none⟩), .int .i64 i] w fun e w' => e = .returned (atP L i).val ∧ Bl w w' := by
  by_cases hi : i < 0 ∨ L.length ≤ i
  · rw [atP_out hi]; exact dget_out h i hi
  · obtain ⟨k, rfl⟩ : ∃ k : Nat, i = k := ⟨i.toNat, by omega⟩
    have hk : k < L.length := by omega
    rw [atP_nat (List.getElem?_eq_getElem hk)]
    exact dget_in h k _ (List.getElem?_eq_getElem hk)
theorem dbase_any {w : World} {t g cap : Nat} {L : List TyV} (h : DTab w t g cap L) (i : Int) : Calls Try.prog 16 #[.pointer (some ⟨t, 0, none⟩), .int .i64 i] w fun e w' => e = .returned (.int .i64 (baseP L i)) ∧ Bl w w' := by
  have HA := dget_any h i
  unfold baseP
  generalize atP L i = x at *
  unfold TyV.val at HA
  clear h
  by_cases h9 : x.k = 9
  · have hb : (x.k == 9) = true := beq_iff_eq.2 h9
    rw [if_pos h9]
    clear h9
    go_enter Try.func16, Try.ntmps16
    go_wp2_with fail
    refine HA.mono ?_
    rintro e w1 ⟨rfl, k1⟩
    have KK := Lib.hid k1
    clear k1
    go_wp2_with fail
    go_ret
    exact ⟨rfl, KK.out.on (bl_new _ _)⟩
  · have hb : (x.k == 9) = false := beq_eq_false_iff_ne.2 h9
    rw [if_neg h9]
    clear h9
    go_enter Try.func16, Try.ntmps16
    go_wp2_with fail
    refine HA.mono ?_
    rintro e w1 ⟨rfl, k1⟩
    have KK := Lib.hid k1
    clear k1
    go_wp2_with fail
    go_ret
    exact ⟨rfl, KK.out.on (bl_new _ _)⟩
theorem dkind_any {w : World} {t g cap : Nat} {L : List TyV} (h : DTab w t g cap L) (i : Int) : Calls Try.prog 31 #[.pointer (some ⟨t, 0, none⟩), .int .i64 i] w fun e w' => e = .returned (.int .u8 (kindP L (baseP L i))) ∧ Bl w w' := by
  have HB := dbase_any h i
  have HK := fun w1 (k : Bl w w1) => dget_any (h.on k) (baseP L i)
  have hfd := fieldTy0
  unfold kindP
  generalize baseP L i = b at *
  generalize atP L b = x at *
  unfold TyV.val at HK
  clear h
  go_enter Try.func31, Try.ntmps31
  go_wp2_with fail
  refine (HB).mono ?_
  rintro e w1 ⟨rfl, k1⟩
  go_wp2_with fail
  refine (HK _ k1).mono ?_
  rintro e w2 ⟨rfl, k2⟩
  have k2 := k1.on k2
  clear k1
  have KK := Lib.hid k2
  clear k2
  go_wp2_with fail
  go_ret
  exact ⟨rfl, KK.out⟩
theorem dnum_any {w : World} {t g cap : Nat} {L : List TyV} (h : DTab w t g cap L) (i : Int) : Calls Try.prog 19 #[.pointer (some ⟨t, 0, none⟩), .int .i64 i] w fun e w' => e = .returned (.bool (numP L i)) ∧ Bl w w' := by
  have HK := dkind_any h i
  unfold numP
  generalize kindP L (baseP L i) = x at *
  clear h
  cases h1 : (x == 1) <;> cases h2 : (x == 2) <;> cases h5 : (x == 5)
  all_goals
    go_enter Try.func19, Try.ntmps19
    go_wp2_with fail
    refine (HK).mono ?_
    rintro e w1 ⟨rfl, k1⟩
    have KK := Lib.hid k1
    clear k1
    go_wp2_with fail
    go_ret
    exact ⟨rfl, KK.out⟩
def ordD (L : List TyV) (i : Int) : Bool := numP L i || kindP L (baseP L i) == 3 || kindP L (baseP L i) == 4 || kindP L (baseP L i) == 8
theorem dord_any {w : World} {t g cap : Nat} {L : List TyV} (h : DTab w t g cap L) (i : Int) : Calls Try.prog 10 #[.pointer (some ⟨t, 0, none⟩), .int .i64 i] w fun e w' => e = .returned (.bool (ordD L i)) ∧ Bl w w' := by
  have HK := dkind_any h i
  have HN := fun w1 (k : Bl w w1) => dnum_any (h.on k) i
  unfold ordD
  generalize numP L i = n at *
  generalize kindP L (baseP L i) = x at *
  clear h
  cases n <;> cases h1 : (x == 3) <;> cases h2 : (x == 4) <;> cases h5 : (x == 8)
  all_goals
    go_enter Try.func10, Try.ntmps10
    go_wp2_with fail
    refine (HK).mono ?_
    rintro e w1 ⟨rfl, k1⟩
    go_wp2_with fail
    refine (HN _ k1).mono ?_
    rintro e w2 ⟨rfl, k2⟩
    have k2 := k1.on k2
    clear k1
    have KK := Lib.hid k2
    clear k2
    go_wp2_with fail
    go_ret
    exact ⟨rfl, KK.out⟩
def rangeD (L : List TyV) (i : Int) : Int × Int := (rngP (atP L i).k).getD ((atP L i).lo, (atP L i).hi)
theorem drange_any {w : World} {t g cap : Nat} {L : List TyV} (h : DTab w t g cap L) (i : Int) : Calls Try.prog 11 #[.pointer (some ⟨t, 0, none⟩), .int .i64 i] w fun e w' => e = .returned (.tuple #[.int .i64 (rangeD L i).1, .int .i64 (rangeD L i).2]) ∧ Bl w w' := by
  have HA := dget_any h i
  unfold rangeD rngP
  generalize atP L i = x at *
  unfold TyV.val at HA
  clear h
  by_cases h1 : x.k = 1
  · rw [if_pos h1]
    have e1 : (x.k == 1) = true := beq_iff_eq.2 h1
    clear h1
    simp only [Option.getD_some]
    go_enter Try.func11, Try.ntmps11
    go_wp2_with fail
    refine HA.mono ?_
    rintro e w1 ⟨rfl, k1⟩
    have KK := Lib.hid k1
    clear k1
    go_wp2_with fail
    go_ret2
    exact ⟨rfl, KK.out.on (bl_new _ _)⟩
  rw [if_neg h1]
  have e1 : (x.k == 1) = false := beq_eq_false_iff_ne.2 h1
  clear h1
  by_cases h2 : x.k = 2
  · rw [if_pos h2]
    have e2 : (x.k == 2) = true := beq_iff_eq.2 h2
    clear h2
    simp only [Option.getD_some]
    go_enter Try.func11, Try.ntmps11
    go_wp2_with fail
    refine HA.mono ?_
    rintro e w1 ⟨rfl, k1⟩
    have KK := Lib.hid k1
    clear k1
    go_wp2_with fail
    go_ret2
    exact ⟨rfl, KK.out.on (bl_new _ _)⟩
  rw [if_neg h2]
  have e2 : (x.k == 2) = false := beq_eq_false_iff_ne.2 h2
  clear h2
  by_cases h3 : x.k = 3
  · rw [if_pos h3]
    have e3 : (x.k == 3) = true := beq_iff_eq.2 h3
    clear h3
    simp only [Option.getD_some]
    go_enter Try.func11, Try.ntmps11
    go_wp2_with fail
    refine HA.mono ?_
    rintro e w1 ⟨rfl, k1⟩
    have KK := Lib.hid k1
    clear k1
    go_wp2_with fail
    go_ret2
    exact ⟨rfl, KK.out.on (bl_new _ _)⟩
  rw [if_neg h3]
  have e3 : (x.k == 3) = false := beq_eq_false_iff_ne.2 h3
  clear h3
  by_cases h4 : x.k = 4
  · rw [if_pos h4]
    have e4 : (x.k == 4) = true := beq_iff_eq.2 h4
    clear h4
    simp only [Option.getD_some]
    go_enter Try.func11, Try.ntmps11
    go_wp2_with fail
    refine HA.mono ?_
    rintro e w1 ⟨rfl, k1⟩
    have KK := Lib.hid k1
    clear k1
    go_wp2_with fail
    go_ret2
    exact ⟨rfl, KK.out.on (bl_new _ _)⟩
  rw [if_neg h4]
  have e4 : (x.k == 4) = false := beq_eq_false_iff_ne.2 h4
  clear h4
  by_cases h5 : x.k = 5
  · rw [if_pos h5]
    have e5 : (x.k == 5) = true := beq_iff_eq.2 h5
    clear h5
    simp only [Option.getD_some]
    go_enter Try.func11, Try.ntmps11
    go_wp2_with fail
    refine HA.mono ?_
    rintro e w1 ⟨rfl, k1⟩
    have KK := Lib.hid k1
    clear k1
    go_wp2_with fail
    go_ret2
    exact ⟨rfl, KK.out.on (bl_new _ _)⟩
  rw [if_neg h5]
  have e5 : (x.k == 5) = false := beq_eq_false_iff_ne.2 h5
  clear h5
  simp only [Option.getD_none]
  go_enter Try.func11, Try.ntmps11
  go_wp2_with fail
  refine HA.mono ?_
  rintro e w1 ⟨rfl, k1⟩
  have KK := Lib.hid k1
  clear k1
  go_wp2_with fail
  try go_quiet (fail)
  try go_wp2_with fail
  go_ret2
  first | exact ⟨rfl, KK.out.on (bl_new _ _)⟩ | exact ⟨rfl, (KK.out.on (bl_new _ _)).on ⟨rfl, rfl, rfl, Nat.le_refl _, fun _ _ => rfl⟩⟩
theorem ord_is (L : List TyV) (i : Int) : ordD L i = (rangeP L i).2.2 := by
  unfold ordD numP rangeP rangeV kindP
  generalize atP L i = x
  generalize (atP L (baseP L i)).k = k
  have hr : (rngP k).isSome = (k == 1 || k == 2 || k == 5 || k == 3 || k == 4) := by
    unfold rngP
    by_cases h1 : k = 1
    · subst h1; rfl
    rw [if_neg h1]
    by_cases h2 : k = 2
    · subst h2; rfl
    rw [if_neg h2]
    by_cases h3 : k = 3
    · subst h3; rfl
    rw [if_neg h3]
    by_cases h4 : k = 4
    · subst h4; rfl
    rw [if_neg h4]
    by_cases h5 : k = 5
    · subst h5; rfl
    rw [if_neg h5]
    simp [h1, h2, h3, h4, h5]
  rw [hr]
  generalize (k == 1 || k == 2 || k == 5) = a
  cases a <;> cases (k == 3) <;> cases (k == 4) <;> cases (k == 8) <;> simp <;> split <;> rfl
theorem range_is (L : List TyV) (i : Int) (h : ordD L i = true) : (rangeP L i).1 = (rangeD L i).1 ∧ (rangeP L i).2.1 = (rangeD L i).2 := by
  rw [ord_is] at h
  unfold rangeP rangeD rangeV at *
  by_cases h9 : (atP L i).k = 9
  · have hn : rngP (atP L i).k = none := by rw [h9]; rfl
    split at h
    · rename_i hc
      rw [if_pos hc, hn, h9]; exact ⟨rfl, rfl⟩
    · cases h
  · have hb : baseP L i = i := by unfold baseP; rw [if_neg h9]
    simp only [hb] at h ⊢
    generalize atP L i = x at *
    clear hb
    have e9 : (x.k == 9) = false := beq_eq_false_iff_ne.2 h9
    split at h
    · rename_i hc
      rw [if_pos hc]
      cases h8 : (x.k == 8)
      · rw [h8, Bool.or_false] at hc
        rw [e9]
        obtain ⟨p, hp⟩ := Option.isSome_iff_exists.1 hc
        rw [hp]; exact ⟨rfl, rfl⟩
      · have : x.k = 8 := beq_iff_eq.1 h8
        rw [show rngP x.k = none from by rw [this]; rfl, e9]; exact ⟨rfl, rfl⟩
    · cases h
end Go.Proofs.Ytepfknfadpkigaa
