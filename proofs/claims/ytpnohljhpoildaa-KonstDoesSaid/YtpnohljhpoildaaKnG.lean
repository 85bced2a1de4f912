/- Package konst: which tables there are for two values. -/
import Derived.Test.YtpnohljhpoildaaKnF
namespace Go.Proofs.Ytpnohljhpoildaa
open Go.RowKit
set_option maxHeartbeats 1000000
set_option maxRecDepth 100000
set_option linter.unusedVariables false
set_option linter.unusedSimpArgs false

open Go.Maps Go.WideMaps
theorem one1 (b : Nat) : ∀ u ∈ [mv b], u.oneCell' = true := fun u hu => by simp at hu; subst hu; rfl
theorem one2 (b c : Nat) : ∀ u ∈ [mv b, mv c], u.oneCell' = true := fun u hu => by
  simp at hu
  rcases hu with rfl | rfl <;> rfl
/-- What rows answers. -/
def RowsA (x y : TV) (w : World) (e : Ending) (w' : World) : Prop := ∃ v bs, e = .returned v ∧ Bl w w' ∧ w'.ownsRow w.heap.size 70 1 v bs.length (bs.map mv) ∧ Maps w' bs (rowsP x y)
theorem rows_t0 (x y : TV) (ho : ordP x y = true) (h1 : bothP x y 1 = true) (w : World) : Calls Try.prog 23 #[x.val, y.val] w (RowsA x y w) := by
  obtain ⟨i0, hi, hz0, hz1, hz2⟩ := info_parts infoM
  have HO := ord_any x y
  rw [ho] at HO
  have HB1 := both_any x y 1
  rw [h1] at HB1
  have HE : Hid (rowsP x y = [.tq, .tw]) := Lib.hid (by unfold rowsP; rw [ho, h1]; rfl)
  clear ho h1
  obtain ⟨s, t, x, n⟩ := x
  obtain ⟨s2, t2, x2, n2⟩ := y
  unfold TV.val at *
  have X := (Box.new w s t x n).on ((Below.refl _ _).alloc (Nat.le_refl _) (.cells #[.int .i64 s2, .int .i64 t2, .string x2, .int .i64 n2] 66))
  have Y := Box.new (w.alloc (.cells #[.int .i64 s, .int .i64 t, .string x, .int .i64 n] 66)) s2 t2 x2 n2
  simp only [World.size_alloc] at Y
  have HR : Hid (RowM w ((w.alloc (.cells #[.int .i64 s, .int .i64 t, .string x, .int .i64 n] 66)).alloc (.cells #[.int .i64 s2, .int .i64 t2, .string x2, .int .i64 n2] 66)) (.slice none 0 0) 0 [] []) := Lib.hid ⟨World.ownsRow_nil _ _ _ _, ((Below.refl _ _).alloc (Nat.le_refl _) _).alloc (by simp) _, .nil, rfl⟩
  go_enter Try.func23, Try.ntmps23
  go_wp2_with fail
  refine (HO _).mono ?_
  rintro e w1 ⟨rfl, k1⟩
  have X := X.on k1
  have Y := Y.on k1
  have xx0 := X.c0
  have xx1 := X.c1
  have xx2 := X.c2
  have xx3 := X.c3
  have yy0 := Y.c0
  have yy1 := Y.c1
  have yy2 := Y.c2
  have yy3 := Y.c3
  have HR := Lib.hid (HR.out.on k1)
  go_wp2_with fail
  refine (questions_any _).mono ?_
  rintro e pw0 ⟨pb0, rfl, pk0, pm0⟩
  have HR := Lib.hid (HR.out.on pk0)
  have X := X.on pk0
  have Y := Y.on pk0
  have xx0 := X.c0
  have xx1 := X.c1
  have xx2 := X.c2
  have xx3 := X.c3
  have yy0 := Y.c0
  have yy1 := Y.c1
  have yy2 := Y.c2
  have yy3 := Y.c3
  have hsr := row_on HR.out.own ((Below.refl _ _).alloc (Nat.le_refl _) (.cells #[.map (some pb0)] 70) : Bl pw0 _)
  have hbs := HR.out.f.size
  go_wp2_with (at_builtin; refine wpList_append_lies _ rfl _ _ 68 rfl w.heap.size 70 i0 _ 1 8 Try.underlying68 hi hz0 hz1 hz2 rfl (by decide) (.slice none 0 0) 0 _ rfl hsr ⟨pw0.heap.size, 0, none⟩ 1 1 [mv pb0] rfl rfl (new1 _ (mv pb0) _) (one1 pb0) (by decide) (by unfold maxLen; omega) (by omega) (by simp <;> omega) (pw0.heap.size + 1) (by simp) ?_)
  intro pg pcap pw hown hgrow hat hlt
  have X := X.ke (grow_ke HR.out.own hgrow)
  have Y := Y.ke (grow_ke HR.out.own hgrow)
  have xx0 := X.c0
  have xx1 := X.c1
  have xx2 := X.c2
  have xx3 := X.c3
  have yy0 := Y.c0
  have yy1 := Y.c1
  have yy2 := Y.c2
  have yy3 := Y.c3
  have HR : Hid (RowM w pw (.slice (some ⟨pg, 0, none⟩) 1 pcap) 1 ([] ++ [.tq]) ([] ++ [pb0])) := Lib.hid (HR.out.grow (.cons pm0 (.nil) : Maps pw0 [pb0] [.tq]) (Below.refl _ _) hgrow hown)
  go_wp2_with fail
  refine (HB1 _).mono ?_
  rintro e u1 ⟨rfl, j1⟩
  have X := X.on j1
  have Y := Y.on j1
  have xx0 := X.c0
  have xx1 := X.c1
  have xx2 := X.c2
  have xx3 := X.c3
  have yy0 := Y.c0
  have yy1 := Y.c1
  have yy2 := Y.c2
  have yy3 := Y.c3
  have HR := Lib.hid (HR.out.on j1)
  go_wp2_with fail
  refine (wholes_any _).mono ?_
  rintro e qw0 ⟨qb0, rfl, qk0, qm0⟩
  have HR := Lib.hid (HR.out.on qk0)
  have X := X.on qk0
  have Y := Y.on qk0
  have xx0 := X.c0
  have xx1 := X.c1
  have xx2 := X.c2
  have xx3 := X.c3
  have yy0 := Y.c0
  have yy1 := Y.c1
  have yy2 := Y.c2
  have yy3 := Y.c3
  have hsr := row_on HR.out.own ((Below.refl _ _).alloc (Nat.le_refl _) (.cells #[.map (some qb0)] 70) : Bl qw0 _)
  have hbs := HR.out.f.size
  go_wp2_with (at_builtin; refine wpList_append_lies _ rfl _ _ 68 rfl w.heap.size 70 i0 _ 1 8 Try.underlying68 hi hz0 hz1 hz2 rfl (by decide) (.slice (some ⟨pg, 0, none⟩) 1 pcap) 1 _ rfl hsr ⟨qw0.heap.size, 0, none⟩ 1 1 [mv qb0] rfl rfl (new1 _ (mv qb0) _) (one1 qb0) (by decide) (by unfold maxLen; omega) (by omega) (by simp <;> omega) (qw0.heap.size + 1) (by simp) ?_)
  intro qg qcap qw hown hgrow hat hlt
  have X := X.ke (grow_ke HR.out.own hgrow)
  have Y := Y.ke (grow_ke HR.out.own hgrow)
  have xx0 := X.c0
  have xx1 := X.c1
  have xx2 := X.c2
  have xx3 := X.c3
  have yy0 := Y.c0
  have yy1 := Y.c1
  have yy2 := Y.c2
  have yy3 := Y.c3
  have HR : Hid (RowM w qw (.slice (some ⟨qg, 0, none⟩) 2 qcap) 2 (([] ++ [.tq]) ++ [.tw]) (([] ++ [pb0]) ++ [qb0])) := Lib.hid (HR.out.grow (.cons qm0 (.nil) : Maps qw0 [qb0] [.tw]) (Below.refl _ _) hgrow hown)
  go_wp2_with fail
  go_ret
  refine ⟨_, _, rfl, HR.out.f, ?_, by rw [HE.out]; exact HR.out.m⟩
  have hn := HR.out.m.len
  have h1 := HR.out.own
  have h2 := HR.out.n
  rw [hn, ← h2]
  exact h1
theorem rows_t1 (x y : TV) (ho : ordP x y = true) (h1 : bothP x y 1 = false) (h3 : bothP x y 3 = true) (w : World) : Calls Try.prog 23 #[x.val, y.val] w (RowsA x y w) := by
  obtain ⟨i0, hi, hz0, hz1, hz2⟩ := info_parts infoM
  have HO := ord_any x y
  rw [ho] at HO
  have HB1 := both_any x y 1
  rw [h1] at HB1
  have HB3 := both_any x y 3
  rw [h3] at HB3
  have HE : Hid (rowsP x y = [.tq, .tt]) := Lib.hid (by unfold rowsP; rw [ho, h1, h3]; rfl)
  clear ho h1 h3
  obtain ⟨s, t, x, n⟩ := x
  obtain ⟨s2, t2, x2, n2⟩ := y
  unfold TV.val at *
  have X := (Box.new w s t x n).on ((Below.refl _ _).alloc (Nat.le_refl _) (.cells #[.int .i64 s2, .int .i64 t2, .string x2, .int .i64 n2] 66))
  have Y := Box.new (w.alloc (.cells #[.int .i64 s, .int .i64 t, .string x, .int .i64 n] 66)) s2 t2 x2 n2
  simp only [World.size_alloc] at Y
  have HR : Hid (RowM w ((w.alloc (.cells #[.int .i64 s, .int .i64 t, .string x, .int .i64 n] 66)).alloc (.cells #[.int .i64 s2, .int .i64 t2, .string x2, .int .i64 n2] 66)) (.slice none 0 0) 0 [] []) := Lib.hid ⟨World.ownsRow_nil _ _ _ _, ((Below.refl _ _).alloc (Nat.le_refl _) _).alloc (by simp) _, .nil, rfl⟩
  go_enter Try.func23, Try.ntmps23
  go_wp2_with fail
  refine (HO _).mono ?_
  rintro e w1 ⟨rfl, k1⟩
  have X := X.on k1
  have Y := Y.on k1
  have xx0 := X.c0
  have xx1 := X.c1
  have xx2 := X.c2
  have xx3 := X.c3
  have yy0 := Y.c0
  have yy1 := Y.c1
  have yy2 := Y.c2
  have yy3 := Y.c3
  have HR := Lib.hid (HR.out.on k1)
  go_wp2_with fail
  refine (questions_any _).mono ?_
  rintro e pw0 ⟨pb0, rfl, pk0, pm0⟩
  have HR := Lib.hid (HR.out.on pk0)
  have X := X.on pk0
  have Y := Y.on pk0
  have xx0 := X.c0
  have xx1 := X.c1
  have xx2 := X.c2
  have xx3 := X.c3
  have yy0 := Y.c0
  have yy1 := Y.c1
  have yy2 := Y.c2
  have yy3 := Y.c3
  have hsr := row_on HR.out.own ((Below.refl _ _).alloc (Nat.le_refl _) (.cells #[.map (some pb0)] 70) : Bl pw0 _)
  have hbs := HR.out.f.size
  go_wp2_with (at_builtin; refine wpList_append_lies _ rfl _ _ 68 rfl w.heap.size 70 i0 _ 1 8 Try.underlying68 hi hz0 hz1 hz2 rfl (by decide) (.slice none 0 0) 0 _ rfl hsr ⟨pw0.heap.size, 0, none⟩ 1 1 [mv pb0] rfl rfl (new1 _ (mv pb0) _) (one1 pb0) (by decide) (by unfold maxLen; omega) (by omega) (by simp <;> omega) (pw0.heap.size + 1) (by simp) ?_)
  intro pg pcap pw hown hgrow hat hlt
  have X := X.ke (grow_ke HR.out.own hgrow)
  have Y := Y.ke (grow_ke HR.out.own hgrow)
  have xx0 := X.c0
  have xx1 := X.c1
  have xx2 := X.c2
  have xx3 := X.c3
  have yy0 := Y.c0
  have yy1 := Y.c1
  have yy2 := Y.c2
  have yy3 := Y.c3
  have HR : Hid (RowM w pw (.slice (some ⟨pg, 0, none⟩) 1 pcap) 1 ([] ++ [.tq]) ([] ++ [pb0])) := Lib.hid (HR.out.grow (.cons pm0 (.nil) : Maps pw0 [pb0] [.tq]) (Below.refl _ _) hgrow hown)
  go_wp2_with fail
  refine (HB1 _).mono ?_
  rintro e u1 ⟨rfl, j1⟩
  have X := X.on j1
  have Y := Y.on j1
  have xx0 := X.c0
  have xx1 := X.c1
  have xx2 := X.c2
  have xx3 := X.c3
  have yy0 := Y.c0
  have yy1 := Y.c1
  have yy2 := Y.c2
  have yy3 := Y.c3
  have HR := Lib.hid (HR.out.on j1)
  go_wp2_with fail
  refine (HB3 _).mono ?_
  rintro e u3 ⟨rfl, j3⟩
  have X := X.on j3
  have Y := Y.on j3
  have xx0 := X.c0
  have xx1 := X.c1
  have xx2 := X.c2
  have xx3 := X.c3
  have yy0 := Y.c0
  have yy1 := Y.c1
  have yy2 := Y.c2
  have yy3 := Y.c3
  have HR := Lib.hid (HR.out.on j3)
  go_wp2_with fail
  refine (truths_any _).mono ?_
  rintro e qw0 ⟨qb0, rfl, qk0, qm0⟩
  have HR := Lib.hid (HR.out.on qk0)
  have X := X.on qk0
  have Y := Y.on qk0
  have xx0 := X.c0
  have xx1 := X.c1
  have xx2 := X.c2
  have xx3 := X.c3
  have yy0 := Y.c0
  have yy1 := Y.c1
  have yy2 := Y.c2
  have yy3 := Y.c3
  have hsr := row_on HR.out.own ((Below.refl _ _).alloc (Nat.le_refl _) (.cells #[.map (some qb0)] 70) : Bl qw0 _)
  have hbs := HR.out.f.size
  go_wp2_with (at_builtin; refine wpList_append_lies _ rfl _ _ 68 rfl w.heap.size 70 i0 _ 1 8 Try.underlying68 hi hz0 hz1 hz2 rfl (by decide) (.slice (some ⟨pg, 0, none⟩) 1 pcap) 1 _ rfl hsr ⟨qw0.heap.size, 0, none⟩ 1 1 [mv qb0] rfl rfl (new1 _ (mv qb0) _) (one1 qb0) (by decide) (by unfold maxLen; omega) (by omega) (by simp <;> omega) (qw0.heap.size + 1) (by simp) ?_)
  intro qg qcap qw hown hgrow hat hlt
  have X := X.ke (grow_ke HR.out.own hgrow)
  have Y := Y.ke (grow_ke HR.out.own hgrow)
  have xx0 := X.c0
  have xx1 := X.c1
  have xx2 := X.c2
  have xx3 := X.c3
  have yy0 := Y.c0
  have yy1 := Y.c1
  have yy2 := Y.c2
  have yy3 := Y.c3
  have HR : Hid (RowM w qw (.slice (some ⟨qg, 0, none⟩) 2 qcap) 2 (([] ++ [.tq]) ++ [.tt]) (([] ++ [pb0]) ++ [qb0])) := Lib.hid (HR.out.grow (.cons qm0 (.nil) : Maps qw0 [qb0] [.tt]) (Below.refl _ _) hgrow hown)
  go_wp2_with fail
  go_ret
  refine ⟨_, _, rfl, HR.out.f, ?_, by rw [HE.out]; exact HR.out.m⟩
  have hn := HR.out.m.len
  have h1 := HR.out.own
  have h2 := HR.out.n
  rw [hn, ← h2]
  exact h1
theorem rows_t2 (x y : TV) (ho : ordP x y = true) (h1 : bothP x y 1 = false) (h3 : bothP x y 3 = false) (h4 : bothP x y 4 = true) (w : World) : Calls Try.prog 23 #[x.val, y.val] w (RowsA x y w) := by
  obtain ⟨i0, hi, hz0, hz1, hz2⟩ := info_parts infoM
  have HO := ord_any x y
  rw [ho] at HO
  have HB1 := both_any x y 1
  rw [h1] at HB1
  have HB3 := both_any x y 3
  rw [h3] at HB3
  have HB4 := both_any x y 4
  rw [h4] at HB4
  have HE : Hid (rowsP x y = [.tq, .ts, .te]) := Lib.hid (by unfold rowsP; rw [ho, h1, h3, h4]; rfl)
  clear ho h1 h3 h4
  obtain ⟨s, t, x, n⟩ := x
  obtain ⟨s2, t2, x2, n2⟩ := y
  unfold TV.val at *
  have X := (Box.new w s t x n).on ((Below.refl _ _).alloc (Nat.le_refl _) (.cells #[.int .i64 s2, .int .i64 t2, .string x2, .int .i64 n2] 66))
  have Y := Box.new (w.alloc (.cells #[.int .i64 s, .int .i64 t, .string x, .int .i64 n] 66)) s2 t2 x2 n2
  simp only [World.size_alloc] at Y
  have HR : Hid (RowM w ((w.alloc (.cells #[.int .i64 s, .int .i64 t, .string x, .int .i64 n] 66)).alloc (.cells #[.int .i64 s2, .int .i64 t2, .string x2, .int .i64 n2] 66)) (.slice none 0 0) 0 [] []) := Lib.hid ⟨World.ownsRow_nil _ _ _ _, ((Below.refl _ _).alloc (Nat.le_refl _) _).alloc (by simp) _, .nil, rfl⟩
  go_enter Try.func23, Try.ntmps23
  go_wp2_with fail
  refine (HO _).mono ?_
  rintro e w1 ⟨rfl, k1⟩
  have X := X.on k1
  have Y := Y.on k1
  have xx0 := X.c0
  have xx1 := X.c1
  have xx2 := X.c2
  have xx3 := X.c3
  have yy0 := Y.c0
  have yy1 := Y.c1
  have yy2 := Y.c2
  have yy3 := Y.c3
  have HR := Lib.hid (HR.out.on k1)
  go_wp2_with fail
  refine (questions_any _).mono ?_
  rintro e pw0 ⟨pb0, rfl, pk0, pm0⟩
  have HR := Lib.hid (HR.out.on pk0)
  have X := X.on pk0
  have Y := Y.on pk0
  have xx0 := X.c0
  have xx1 := X.c1
  have xx2 := X.c2
  have xx3 := X.c3
  have yy0 := Y.c0
  have yy1 := Y.c1
  have yy2 := Y.c2
  have yy3 := Y.c3
  have hsr := row_on HR.out.own ((Below.refl _ _).alloc (Nat.le_refl _) (.cells #[.map (some pb0)] 70) : Bl pw0 _)
  have hbs := HR.out.f.size
  go_wp2_with (at_builtin; refine wpList_append_lies _ rfl _ _ 68 rfl w.heap.size 70 i0 _ 1 8 Try.underlying68 hi hz0 hz1 hz2 rfl (by decide) (.slice none 0 0) 0 _ rfl hsr ⟨pw0.heap.size, 0, none⟩ 1 1 [mv pb0] rfl rfl (new1 _ (mv pb0) _) (one1 pb0) (by decide) (by unfold maxLen; omega) (by omega) (by simp <;> omega) (pw0.heap.size + 1) (by simp) ?_)
  intro pg pcap pw hown hgrow hat hlt
  have X := X.ke (grow_ke HR.out.own hgrow)
  have Y := Y.ke (grow_ke HR.out.own hgrow)
  have xx0 := X.c0
  have xx1 := X.c1
  have xx2 := X.c2
  have xx3 := X.c3
  have yy0 := Y.c0
  have yy1 := Y.c1
  have yy2 := Y.c2
  have yy3 := Y.c3
  have HR : Hid (RowM w pw (.slice (some ⟨pg, 0, none⟩) 1 pcap) 1 ([] ++ [.tq]) ([] ++ [pb0])) := Lib.hid (HR.out.grow (.cons pm0 (.nil) : Maps pw0 [pb0] [.tq]) (Below.refl _ _) hgrow hown)
  go_wp2_with fail
  refine (HB1 _).mono ?_
  rintro e u1 ⟨rfl, j1⟩
  have X := X.on j1
  have Y := Y.on j1
  have xx0 := X.c0
  have xx1 := X.c1
  have xx2 := X.c2
  have xx3 := X.c3
  have yy0 := Y.c0
  have yy1 := Y.c1
  have yy2 := Y.c2
  have yy3 := Y.c3
  have HR := Lib.hid (HR.out.on j1)
  go_wp2_with fail
  refine (HB3 _).mono ?_
  rintro e u3 ⟨rfl, j3⟩
  have X := X.on j3
  have Y := Y.on j3
  have xx0 := X.c0
  have xx1 := X.c1
  have xx2 := X.c2
  have xx3 := X.c3
  have yy0 := Y.c0
  have yy1 := Y.c1
  have yy2 := Y.c2
  have yy3 := Y.c3
  have HR := Lib.hid (HR.out.on j3)
  go_wp2_with fail
  refine (HB4 _).mono ?_
  rintro e u4 ⟨rfl, j4⟩
  have X := X.on j4
  have Y := Y.on j4
  have xx0 := X.c0
  have xx1 := X.c1
  have xx2 := X.c2
  have xx3 := X.c3
  have yy0 := Y.c0
  have yy1 := Y.c1
  have yy2 := Y.c2
  have yy3 := Y.c3
  have HR := Lib.hid (HR.out.on j4)
  go_wp2_with fail
  refine (sets_any _).mono ?_
  rintro e qw0 ⟨qb0, rfl, qk0, qm0⟩
  have HR := Lib.hid (HR.out.on qk0)
  have X := X.on qk0
  have Y := Y.on qk0
  have xx0 := X.c0
  have xx1 := X.c1
  have xx2 := X.c2
  have xx3 := X.c3
  have yy0 := Y.c0
  have yy1 := Y.c1
  have yy2 := Y.c2
  have yy3 := Y.c3
  go_wp2_with fail
  refine (equals_any _).mono ?_
  rintro e qw1 ⟨qb1, rfl, qk1, qm1⟩
  have HR := Lib.hid (HR.out.on qk1)
  have X := X.on qk1
  have Y := Y.on qk1
  have xx0 := X.c0
  have xx1 := X.c1
  have xx2 := X.c2
  have xx3 := X.c3
  have yy0 := Y.c0
  have yy1 := Y.c1
  have yy2 := Y.c2
  have yy3 := Y.c3
  have qm0 := qm0.on qk1.ke
  have hsr := row_on HR.out.own ((Below.refl _ _).alloc (Nat.le_refl _) (.cells #[.map (some qb0), .map (some qb1)] 70) : Bl qw1 _)
  have hbs := HR.out.f.size
  go_wp2_with (at_builtin; refine wpList_append_lies _ rfl _ _ 68 rfl w.heap.size 70 i0 _ 1 8 Try.underlying68 hi hz0 hz1 hz2 rfl (by decide) (.slice (some ⟨pg, 0, none⟩) 1 pcap) 1 _ rfl hsr ⟨qw1.heap.size, 0, none⟩ 2 2 [mv qb0, mv qb1] rfl rfl (new2 _ (mv qb0) (mv qb1) _) (one2 qb0 qb1) (by decide) (by unfold maxLen; omega) (by omega) (by simp <;> omega) (qw1.heap.size + 1) (by simp) ?_)
  intro qg qcap qw hown hgrow hat hlt
  have X := X.ke (grow_ke HR.out.own hgrow)
  have Y := Y.ke (grow_ke HR.out.own hgrow)
  have xx0 := X.c0
  have xx1 := X.c1
  have xx2 := X.c2
  have xx3 := X.c3
  have yy0 := Y.c0
  have yy1 := Y.c1
  have yy2 := Y.c2
  have yy3 := Y.c3
  have HR : Hid (RowM w qw (.slice (some ⟨qg, 0, none⟩) 3 qcap) 3 (([] ++ [.tq]) ++ [.ts, .te]) (([] ++ [pb0]) ++ [qb0, qb1])) := Lib.hid (HR.out.grow (.cons qm0 (.cons qm1 (.nil)) : Maps qw1 [qb0, qb1] [.ts, .te]) (Below.refl _ _) hgrow hown)
  go_wp2_with fail
  go_ret
  refine ⟨_, _, rfl, HR.out.f, ?_, by rw [HE.out]; exact HR.out.m⟩
  have hn := HR.out.m.len
  have h1 := HR.out.own
  have h2 := HR.out.n
  rw [hn, ← h2]
  exact h1
theorem rows_t3 (x y : TV) (ho : ordP x y = true) (h1 : bothP x y 1 = false) (h3 : bothP x y 3 = false) (h4 : bothP x y 4 = false) (h7 : bothP x y 7 = true) (w : World) : Calls Try.prog 23 #[x.val, y.val] w (RowsA x y w) := by
  obtain ⟨i0, hi, hz0, hz1, hz2⟩ := info_parts infoM
  have HO := ord_any x y
  rw [ho] at HO
  have HB1 := both_any x y 1
  rw [h1] at HB1
  have HB3 := both_any x y 3
  rw [h3] at HB3
  have HB4 := both_any x y 4
  rw [h4] at HB4
  have HB7 := both_any x y 7
  rw [h7] at HB7
  have HE : Hid (rowsP x y = [.tq, .te]) := Lib.hid (by unfold rowsP; rw [ho, h1, h3, h4, h7]; rfl)
  clear ho h1 h3 h4 h7
  obtain ⟨s, t, x, n⟩ := x
  obtain ⟨s2, t2, x2, n2⟩ := y
  unfold TV.val at *
  have X := (Box.new w s t x n).on ((Below.refl _ _).alloc (Nat.le_refl _) (.cells #[.int .i64 s2, .int .i64 t2, .string x2, .int .i64 n2] 66))
  have Y := Box.new (w.alloc (.cells #[.int .i64 s, .int .i64 t, .string x, .int .i64 n] 66)) s2 t2 x2 n2
  simp only [World.size_alloc] at Y
  have HR : Hid (RowM w ((w.alloc (.cells #[.int .i64 s, .int .i64 t, .string x, .int .i64 n] 66)).alloc (.cells #[.int .i64 s2, .int .i64 t2, .string x2, .int .i64 n2] 66)) (.slice none 0 0) 0 [] []) := Lib.hid ⟨World.ownsRow_nil _ _ _ _, ((Below.refl _ _).alloc (Nat.le_refl _) _).alloc (by simp) _, .nil, rfl⟩
  go_enter Try.func23, Try.ntmps23
  go_wp2_with fail
  refine (HO _).mono ?_
  rintro e w1 ⟨rfl, k1⟩
  have X := X.on k1
  have Y := Y.on k1
  have xx0 := X.c0
  have xx1 := X.c1
  have xx2 := X.c2
  have xx3 := X.c3
  have yy0 := Y.c0
  have yy1 := Y.c1
  have yy2 := Y.c2
  have yy3 := Y.c3
  have HR := Lib.hid (HR.out.on k1)
  go_wp2_with fail
  refine (questions_any _).mono ?_
  rintro e pw0 ⟨pb0, rfl, pk0, pm0⟩
  have HR := Lib.hid (HR.out.on pk0)
  have X := X.on pk0
  have Y := Y.on pk0
  have xx0 := X.c0
  have xx1 := X.c1
  have xx2 := X.c2
  have xx3 := X.c3
  have yy0 := Y.c0
  have yy1 := Y.c1
  have yy2 := Y.c2
  have yy3 := Y.c3
  have hsr := row_on HR.out.own ((Below.refl _ _).alloc (Nat.le_refl _) (.cells #[.map (some pb0)] 70) : Bl pw0 _)
  have hbs := HR.out.f.size
  go_wp2_with (at_builtin; refine wpList_append_lies _ rfl _ _ 68 rfl w.heap.size 70 i0 _ 1 8 Try.underlying68 hi hz0 hz1 hz2 rfl (by decide) (.slice none 0 0) 0 _ rfl hsr ⟨pw0.heap.size, 0, none⟩ 1 1 [mv pb0] rfl rfl (new1 _ (mv pb0) _) (one1 pb0) (by decide) (by unfold maxLen; omega) (by omega) (by simp <;> omega) (pw0.heap.size + 1) (by simp) ?_)
  intro pg pcap pw hown hgrow hat hlt
  have X := X.ke (grow_ke HR.out.own hgrow)
  have Y := Y.ke (grow_ke HR.out.own hgrow)
  have xx0 := X.c0
  have xx1 := X.c1
  have xx2 := X.c2
  have xx3 := X.c3
  have yy0 := Y.c0
  have yy1 := Y.c1
  have yy2 := Y.c2
  have yy3 := Y.c3
  have HR : Hid (RowM w pw (.slice (some ⟨pg, 0, none⟩) 1 pcap) 1 ([] ++ [.tq]) ([] ++ [pb0])) := Lib.hid (HR.out.grow (.cons pm0 (.nil) : Maps pw0 [pb0] [.tq]) (Below.refl _ _) hgrow hown)
  go_wp2_with fail
  refine (HB1 _).mono ?_
  rintro e u1 ⟨rfl, j1⟩
  have X := X.on j1
  have Y := Y.on j1
  have xx0 := X.c0
  have xx1 := X.c1
  have xx2 := X.c2
  have xx3 := X.c3
  have yy0 := Y.c0
  have yy1 := Y.c1
  have yy2 := Y.c2
  have yy3 := Y.c3
  have HR := Lib.hid (HR.out.on j1)
  go_wp2_with fail
  refine (HB3 _).mono ?_
  rintro e u3 ⟨rfl, j3⟩
  have X := X.on j3
  have Y := Y.on j3
  have xx0 := X.c0
  have xx1 := X.c1
  have xx2 := X.c2
  have xx3 := X.c3
  have yy0 := Y.c0
  have yy1 := Y.c1
  have yy2 := Y.c2
  have yy3 := Y.c3
  have HR := Lib.hid (HR.out.on j3)
  go_wp2_with fail
  refine (HB4 _).mono ?_
  rintro e u4 ⟨rfl, j4⟩
  have X := X.on j4
  have Y := Y.on j4
  have xx0 := X.c0
  have xx1 := X.c1
  have xx2 := X.c2
  have xx3 := X.c3
  have yy0 := Y.c0
  have yy1 := Y.c1
  have yy2 := Y.c2
  have yy3 := Y.c3
  have HR := Lib.hid (HR.out.on j4)
  go_wp2_with fail
  refine (HB7 _).mono ?_
  rintro e u7 ⟨rfl, j7⟩
  have X := X.on j7
  have Y := Y.on j7
  have xx0 := X.c0
  have xx1 := X.c1
  have xx2 := X.c2
  have xx3 := X.c3
  have yy0 := Y.c0
  have yy1 := Y.c1
  have yy2 := Y.c2
  have yy3 := Y.c3
  have HR := Lib.hid (HR.out.on j7)
  go_wp2_with fail
  refine (equals_any _).mono ?_
  rintro e qw0 ⟨qb0, rfl, qk0, qm0⟩
  have HR := Lib.hid (HR.out.on qk0)
  have X := X.on qk0
  have Y := Y.on qk0
  have xx0 := X.c0
  have xx1 := X.c1
  have xx2 := X.c2
  have xx3 := X.c3
  have yy0 := Y.c0
  have yy1 := Y.c1
  have yy2 := Y.c2
  have yy3 := Y.c3
  have hsr := row_on HR.out.own ((Below.refl _ _).alloc (Nat.le_refl _) (.cells #[.map (some qb0)] 70) : Bl qw0 _)
  have hbs := HR.out.f.size
  go_wp2_with (at_builtin; refine wpList_append_lies _ rfl _ _ 68 rfl w.heap.size 70 i0 _ 1 8 Try.underlying68 hi hz0 hz1 hz2 rfl (by decide) (.slice (some ⟨pg, 0, none⟩) 1 pcap) 1 _ rfl hsr ⟨qw0.heap.size, 0, none⟩ 1 1 [mv qb0] rfl rfl (new1 _ (mv qb0) _) (one1 qb0) (by decide) (by unfold maxLen; omega) (by omega) (by simp <;> omega) (qw0.heap.size + 1) (by simp) ?_)
  intro qg qcap qw hown hgrow hat hlt
  have X := X.ke (grow_ke HR.out.own hgrow)
  have Y := Y.ke (grow_ke HR.out.own hgrow)
  have xx0 := X.c0
  have xx1 := X.c1
  have xx2 := X.c2
  have xx3 := X.c3
  have yy0 := Y.c0
  have yy1 := Y.c1
  have yy2 := Y.c2
  have yy3 := Y.c3
  have HR : Hid (RowM w qw (.slice (some ⟨qg, 0, none⟩) 2 qcap) 2 (([] ++ [.tq]) ++ [.te]) (([] ++ [pb0]) ++ [qb0])) := Lib.hid (HR.out.grow (.cons qm0 (.nil) : Maps qw0 [qb0] [.te]) (Below.refl _ _) hgrow hown)
  go_wp2_with fail
  go_ret
  refine ⟨_, _, rfl, HR.out.f, ?_, by rw [HE.out]; exact HR.out.m⟩
  have hn := HR.out.m.len
  have h1 := HR.out.own
  have h2 := HR.out.n
  rw [hn, ← h2]
  exact h1
theorem rows_t4 (x y : TV) (ho : ordP x y = true) (h1 : bothP x y 1 = false) (h3 : bothP x y 3 = false) (h4 : bothP x y 4 = false) (h7 : bothP x y 7 = false) (hm : (x.num && y.s == 4) = true) (w : World) : Calls Try.prog 23 #[x.val, y.val] w (RowsA x y w) := by
  obtain ⟨i0, hi, hz0, hz1, hz2⟩ := info_parts infoM
  have HO := ord_any x y
  rw [ho] at HO
  have HB1 := both_any x y 1
  rw [h1] at HB1
  have HB3 := both_any x y 3
  rw [h3] at HB3
  have HB4 := both_any x y 4
  rw [h4] at HB4
  have HB7 := both_any x y 7
  rw [h7] at HB7
  have HE : Hid (rowsP x y = [.tq, .tm]) := Lib.hid (by unfold rowsP; rw [ho, h1, h3, h4, h7, hm]; rfl)
  have HN := num_any x
  obtain ⟨c, hc⟩ : ∃ c, x.num = c := ⟨_, rfl⟩
  rw [hc] at HN hm
  clear hc
  clear ho h1 h3 h4 h7
  obtain ⟨s, t, x, n⟩ := x
  obtain ⟨s2, t2, x2, n2⟩ := y
  unfold TV.val at *
  have X := (Box.new w s t x n).on ((Below.refl _ _).alloc (Nat.le_refl _) (.cells #[.int .i64 s2, .int .i64 t2, .string x2, .int .i64 n2] 66))
  have Y := Box.new (w.alloc (.cells #[.int .i64 s, .int .i64 t, .string x, .int .i64 n] 66)) s2 t2 x2 n2
  simp only [World.size_alloc] at Y
  have HR : Hid (RowM w ((w.alloc (.cells #[.int .i64 s, .int .i64 t, .string x, .int .i64 n] 66)).alloc (.cells #[.int .i64 s2, .int .i64 t2, .string x2, .int .i64 n2] 66)) (.slice none 0 0) 0 [] []) := Lib.hid ⟨World.ownsRow_nil _ _ _ _, ((Below.refl _ _).alloc (Nat.le_refl _) _).alloc (by simp) _, .nil, rfl⟩
  go_enter Try.func23, Try.ntmps23
  go_wp2_with fail
  refine (HO _).mono ?_
  rintro e w1 ⟨rfl, k1⟩
  have X := X.on k1
  have Y := Y.on k1
  have xx0 := X.c0
  have xx1 := X.c1
  have xx2 := X.c2
  have xx3 := X.c3
  have yy0 := Y.c0
  have yy1 := Y.c1
  have yy2 := Y.c2
  have yy3 := Y.c3
  have HR := Lib.hid (HR.out.on k1)
  go_wp2_with fail
  refine (questions_any _).mono ?_
  rintro e pw0 ⟨pb0, rfl, pk0, pm0⟩
  have HR := Lib.hid (HR.out.on pk0)
  have X := X.on pk0
  have Y := Y.on pk0
  have xx0 := X.c0
  have xx1 := X.c1
  have xx2 := X.c2
  have xx3 := X.c3
  have yy0 := Y.c0
  have yy1 := Y.c1
  have yy2 := Y.c2
  have yy3 := Y.c3
  have hsr := row_on HR.out.own ((Below.refl _ _).alloc (Nat.le_refl _) (.cells #[.map (some pb0)] 70) : Bl pw0 _)
  have hbs := HR.out.f.size
  go_wp2_with (at_builtin; refine wpList_append_lies _ rfl _ _ 68 rfl w.heap.size 70 i0 _ 1 8 Try.underlying68 hi hz0 hz1 hz2 rfl (by decide) (.slice none 0 0) 0 _ rfl hsr ⟨pw0.heap.size, 0, none⟩ 1 1 [mv pb0] rfl rfl (new1 _ (mv pb0) _) (one1 pb0) (by decide) (by unfold maxLen; omega) (by omega) (by simp <;> omega) (pw0.heap.size + 1) (by simp) ?_)
  intro pg pcap pw hown hgrow hat hlt
  have X := X.ke (grow_ke HR.out.own hgrow)
  have Y := Y.ke (grow_ke HR.out.own hgrow)
  have xx0 := X.c0
  have xx1 := X.c1
  have xx2 := X.c2
  have xx3 := X.c3
  have yy0 := Y.c0
  have yy1 := Y.c1
  have yy2 := Y.c2
  have yy3 := Y.c3
  have HR : Hid (RowM w pw (.slice (some ⟨pg, 0, none⟩) 1 pcap) 1 ([] ++ [.tq]) ([] ++ [pb0])) := Lib.hid (HR.out.grow (.cons pm0 (.nil) : Maps pw0 [pb0] [.tq]) (Below.refl _ _) hgrow hown)
  go_wp2_with fail
  refine (HB1 _).mono ?_
  rintro e u1 ⟨rfl, j1⟩
  have X := X.on j1
  have Y := Y.on j1
  have xx0 := X.c0
  have xx1 := X.c1
  have xx2 := X.c2
  have xx3 := X.c3
  have yy0 := Y.c0
  have yy1 := Y.c1
  have yy2 := Y.c2
  have yy3 := Y.c3
  have HR := Lib.hid (HR.out.on j1)
  go_wp2_with fail
  refine (HB3 _).mono ?_
  rintro e u3 ⟨rfl, j3⟩
  have X := X.on j3
  have Y := Y.on j3
  have xx0 := X.c0
  have xx1 := X.c1
  have xx2 := X.c2
  have xx3 := X.c3
  have yy0 := Y.c0
  have yy1 := Y.c1
  have yy2 := Y.c2
  have yy3 := Y.c3
  have HR := Lib.hid (HR.out.on j3)
  go_wp2_with fail
  refine (HB4 _).mono ?_
  rintro e u4 ⟨rfl, j4⟩
  have X := X.on j4
  have Y := Y.on j4
  have xx0 := X.c0
  have xx1 := X.c1
  have xx2 := X.c2
  have xx3 := X.c3
  have yy0 := Y.c0
  have yy1 := Y.c1
  have yy2 := Y.c2
  have yy3 := Y.c3
  have HR := Lib.hid (HR.out.on j4)
  go_wp2_with fail
  refine (HB7 _).mono ?_
  rintro e u7 ⟨rfl, j7⟩
  have X := X.on j7
  have Y := Y.on j7
  have xx0 := X.c0
  have xx1 := X.c1
  have xx2 := X.c2
  have xx3 := X.c3
  have yy0 := Y.c0
  have yy1 := Y.c1
  have yy2 := Y.c2
  have yy3 := Y.c3
  have HR := Lib.hid (HR.out.on j7)
  cases c
  · simp at hm
  · have hm : (s2 == 4) = true := by simpa using hm
    go_wp2_with fail
    refine (HN _).mono ?_
    rintro e z1 ⟨rfl, l1⟩
    have X := X.on l1
    have Y := Y.on l1
    have xx0 := X.c0
    have xx1 := X.c1
    have xx2 := X.c2
    have xx3 := X.c3
    have yy0 := Y.c0
    have yy1 := Y.c1
    have yy2 := Y.c2
    have yy3 := Y.c3
    have HR := Lib.hid (HR.out.on l1)
    go_wp2_with fail
    refine (members_any _).mono ?_
    rintro e qw0 ⟨qb0, rfl, qk0, qm0⟩
    have HR := Lib.hid (HR.out.on qk0)
    have X := X.on qk0
    have Y := Y.on qk0
    have xx0 := X.c0
    have xx1 := X.c1
    have xx2 := X.c2
    have xx3 := X.c3
    have yy0 := Y.c0
    have yy1 := Y.c1
    have yy2 := Y.c2
    have yy3 := Y.c3
    have hsr := row_on HR.out.own ((Below.refl _ _).alloc (Nat.le_refl _) (.cells #[.map (some qb0)] 70) : Bl qw0 _)
    have hbs := HR.out.f.size
    go_wp2_with (at_builtin; refine wpList_append_lies _ rfl _ _ 68 rfl w.heap.size 70 i0 _ 1 8 Try.underlying68 hi hz0 hz1 hz2 rfl (by decide) (.slice (some ⟨pg, 0, none⟩) 1 pcap) 1 _ rfl hsr ⟨qw0.heap.size, 0, none⟩ 1 1 [mv qb0] rfl rfl (new1 _ (mv qb0) _) (one1 qb0) (by decide) (by unfold maxLen; omega) (by omega) (by simp <;> omega) (qw0.heap.size + 1) (by simp) ?_)
    intro qg qcap qw hown hgrow hat hlt
    have X := X.ke (grow_ke HR.out.own hgrow)
    have Y := Y.ke (grow_ke HR.out.own hgrow)
    have xx0 := X.c0
    have xx1 := X.c1
    have xx2 := X.c2
    have xx3 := X.c3
    have yy0 := Y.c0
    have yy1 := Y.c1
    have yy2 := Y.c2
    have yy3 := Y.c3
    have HR : Hid (RowM w qw (.slice (some ⟨qg, 0, none⟩) 2 qcap) 2 (([] ++ [.tq]) ++ [.tm]) (([] ++ [pb0]) ++ [qb0])) := Lib.hid (HR.out.grow (.cons qm0 (.nil) : Maps qw0 [qb0] [.tm]) (Below.refl _ _) hgrow hown)
    go_wp2_with fail
    go_ret
    refine ⟨_, _, rfl, HR.out.f, ?_, by rw [HE.out]; exact HR.out.m⟩
    have hn := HR.out.m.len
    have h1 := HR.out.own
    have h2 := HR.out.n
    rw [hn, ← h2]
    exact h1
theorem rows_t5 (x y : TV) (ho : ordP x y = true) (h1 : bothP x y 1 = false) (h3 : bothP x y 3 = false) (h4 : bothP x y 4 = false) (h7 : bothP x y 7 = false) (hm : (x.num && y.s == 4) = false) (w : World) : Calls Try.prog 23 #[x.val, y.val] w (RowsA x y w) := by
  obtain ⟨i0, hi, hz0, hz1, hz2⟩ := info_parts infoM
  have HO := ord_any x y
  rw [ho] at HO
  have HB1 := both_any x y 1
  rw [h1] at HB1
  have HB3 := both_any x y 3
  rw [h3] at HB3
  have HB4 := both_any x y 4
  rw [h4] at HB4
  have HB7 := both_any x y 7
  rw [h7] at HB7
  have HE : Hid (rowsP x y = [.tq]) := Lib.hid (by unfold rowsP; rw [ho, h1, h3, h4, h7, hm]; rfl)
  have HN := num_any x
  obtain ⟨c, hc⟩ : ∃ c, x.num = c := ⟨_, rfl⟩
  rw [hc] at HN hm
  clear hc
  clear ho h1 h3 h4 h7
  obtain ⟨s, t, x, n⟩ := x
  obtain ⟨s2, t2, x2, n2⟩ := y
  unfold TV.val at *
  have X := (Box.new w s t x n).on ((Below.refl _ _).alloc (Nat.le_refl _) (.cells #[.int .i64 s2, .int .i64 t2, .string x2, .int .i64 n2] 66))
  have Y := Box.new (w.alloc (.cells #[.int .i64 s, .int .i64 t, .string x, .int .i64 n] 66)) s2 t2 x2 n2
  simp only [World.size_alloc] at Y
  have HR : Hid (RowM w ((w.alloc (.cells #[.int .i64 s, .int .i64 t, .string x, .int .i64 n] 66)).alloc (.cells #[.int .i64 s2, .int .i64 t2, .string x2, .int .i64 n2] 66)) (.slice none 0 0) 0 [] []) := Lib.hid ⟨World.ownsRow_nil _ _ _ _, ((Below.refl _ _).alloc (Nat.le_refl _) _).alloc (by simp) _, .nil, rfl⟩
  go_enter Try.func23, Try.ntmps23
  go_wp2_with fail
  refine (HO _).mono ?_
  rintro e w1 ⟨rfl, k1⟩
  have X := X.on k1
  have Y := Y.on k1
  have xx0 := X.c0
  have xx1 := X.c1
  have xx2 := X.c2
  have xx3 := X.c3
  have yy0 := Y.c0
  have yy1 := Y.c1
  have yy2 := Y.c2
  have yy3 := Y.c3
  have HR := Lib.hid (HR.out.on k1)
  go_wp2_with fail
  refine (questions_any _).mono ?_
  rintro e pw0 ⟨pb0, rfl, pk0, pm0⟩
  have HR := Lib.hid (HR.out.on pk0)
  have X := X.on pk0
  have Y := Y.on pk0
  have xx0 := X.c0
  have xx1 := X.c1
  have xx2 := X.c2
  have xx3 := X.c3
  have yy0 := Y.c0
  have yy1 := Y.c1
  have yy2 := Y.c2
  have yy3 := Y.c3
  have hsr := row_on HR.out.own ((Below.refl _ _).alloc (Nat.le_refl _) (.cells #[.map (some pb0)] 70) : Bl pw0 _)
  have hbs := HR.out.f.size
  go_wp2_with (at_builtin; refine wpList_append_lies _ rfl _ _ 68 rfl w.heap.size 70 i0 _ 1 8 Try.underlying68 hi hz0 hz1 hz2 rfl (by decide) (.slice none 0 0) 0 _ rfl hsr ⟨pw0.heap.size, 0, none⟩ 1 1 [mv pb0] rfl rfl (new1 _ (mv pb0) _) (one1 pb0) (by decide) (by unfold maxLen; omega) (by omega) (by simp <;> omega) (pw0.heap.size + 1) (by simp) ?_)
  intro pg pcap pw hown hgrow hat hlt
  have X := X.ke (grow_ke HR.out.own hgrow)
  have Y := Y.ke (grow_ke HR.out.own hgrow)
  have xx0 := X.c0
  have xx1 := X.c1
  have xx2 := X.c2
  have xx3 := X.c3
  have yy0 := Y.c0
  have yy1 := Y.c1
  have yy2 := Y.c2
  have yy3 := Y.c3
  have HR : Hid (RowM w pw (.slice (some ⟨pg, 0, none⟩) 1 pcap) 1 ([] ++ [.tq]) ([] ++ [pb0])) := Lib.hid (HR.out.grow (.cons pm0 (.nil) : Maps pw0 [pb0] [.tq]) (Below.refl _ _) hgrow hown)
  go_wp2_with fail
  refine (HB1 _).mono ?_
  rintro e u1 ⟨rfl, j1⟩
  have X := X.on j1
  have Y := Y.on j1
  have xx0 := X.c0
  have xx1 := X.c1
  have xx2 := X.c2
  have xx3 := X.c3
  have yy0 := Y.c0
  have yy1 := Y.c1
  have yy2 := Y.c2
  have yy3 := Y.c3
  have HR := Lib.hid (HR.out.on j1)
  go_wp2_with fail
  refine (HB3 _).mono ?_
  rintro e u3 ⟨rfl, j3⟩
  have X := X.on j3
  have Y := Y.on j3
  have xx0 := X.c0
  have xx1 := X.c1
  have xx2 := X.c2
  have xx3 := X.c3
  have yy0 := Y.c0
  have yy1 := Y.c1
  have yy2 := Y.c2
  have yy3 := Y.c3
  have HR := Lib.hid (HR.out.on j3)
  go_wp2_with fail
  refine (HB4 _).mono ?_
  rintro e u4 ⟨rfl, j4⟩
  have X := X.on j4
  have Y := Y.on j4
  have xx0 := X.c0
  have xx1 := X.c1
  have xx2 := X.c2
  have xx3 := X.c3
  have yy0 := Y.c0
  have yy1 := Y.c1
  have yy2 := Y.c2
  have yy3 := Y.c3
  have HR := Lib.hid (HR.out.on j4)
  go_wp2_with fail
  refine (HB7 _).mono ?_
  rintro e u7 ⟨rfl, j7⟩
  have X := X.on j7
  have Y := Y.on j7
  have xx0 := X.c0
  have xx1 := X.c1
  have xx2 := X.c2
  have xx3 := X.c3
  have yy0 := Y.c0
  have yy1 := Y.c1
  have yy2 := Y.c2
  have yy3 := Y.c3
  have HR := Lib.hid (HR.out.on j7)
  cases c
  · clear hm
    go_wp2_with fail
    refine (HN _).mono ?_
    rintro e z1 ⟨rfl, l1⟩
    have X := X.on l1
    have Y := Y.on l1
    have xx0 := X.c0
    have xx1 := X.c1
    have xx2 := X.c2
    have xx3 := X.c3
    have yy0 := Y.c0
    have yy1 := Y.c1
    have yy2 := Y.c2
    have yy3 := Y.c3
    have HR := Lib.hid (HR.out.on l1)
    go_wp2_with fail
    go_ret
    refine ⟨_, _, rfl, HR.out.f, ?_, by rw [HE.out]; exact HR.out.m⟩
    have hn := HR.out.m.len
    have h1 := HR.out.own
    have h2 := HR.out.n
    rw [hn, ← h2]
    exact h1
  · have hm : (s2 == 4) = false := by simpa using hm
    go_wp2_with fail
    refine (HN _).mono ?_
    rintro e z1 ⟨rfl, l1⟩
    have X := X.on l1
    have Y := Y.on l1
    have xx0 := X.c0
    have xx1 := X.c1
    have xx2 := X.c2
    have xx3 := X.c3
    have yy0 := Y.c0
    have yy1 := Y.c1
    have yy2 := Y.c2
    have yy3 := Y.c3
    have HR := Lib.hid (HR.out.on l1)
    go_wp2_with fail
    go_ret
    refine ⟨_, _, rfl, HR.out.f, ?_, by rw [HE.out]; exact HR.out.m⟩
    have hn := HR.out.m.len
    have h1 := HR.out.own
    have h2 := HR.out.n
    rw [hn, ← h2]
    exact h1
theorem rows_f0 (x y : TV) (ho : ordP x y = false) (h1 : bothP x y 1 = true) (w : World) : Calls Try.prog 23 #[x.val, y.val] w (RowsA x y w) := by
  obtain ⟨i0, hi, hz0, hz1, hz2⟩ := info_parts infoM
  have HO := ord_any x y
  rw [ho] at HO
  have HB1 := both_any x y 1
  rw [h1] at HB1
  have HE : Hid (rowsP x y = [.tw]) := Lib.hid (by unfold rowsP; rw [ho, h1]; rfl)
  clear ho h1
  obtain ⟨s, t, x, n⟩ := x
  obtain ⟨s2, t2, x2, n2⟩ := y
  unfold TV.val at *
  have X := (Box.new w s t x n).on ((Below.refl _ _).alloc (Nat.le_refl _) (.cells #[.int .i64 s2, .int .i64 t2, .string x2, .int .i64 n2] 66))
  have Y := Box.new (w.alloc (.cells #[.int .i64 s, .int .i64 t, .string x, .int .i64 n] 66)) s2 t2 x2 n2
  simp only [World.size_alloc] at Y
  have HR : Hid (RowM w ((w.alloc (.cells #[.int .i64 s, .int .i64 t, .string x, .int .i64 n] 66)).alloc (.cells #[.int .i64 s2, .int .i64 t2, .string x2, .int .i64 n2] 66)) (.slice none 0 0) 0 [] []) := Lib.hid ⟨World.ownsRow_nil _ _ _ _, ((Below.refl _ _).alloc (Nat.le_refl _) _).alloc (by simp) _, .nil, rfl⟩
  go_enter Try.func23, Try.ntmps23
  go_wp2_with fail
  refine (HO _).mono ?_
  rintro e w1 ⟨rfl, k1⟩
  have X := X.on k1
  have Y := Y.on k1
  have xx0 := X.c0
  have xx1 := X.c1
  have xx2 := X.c2
  have xx3 := X.c3
  have yy0 := Y.c0
  have yy1 := Y.c1
  have yy2 := Y.c2
  have yy3 := Y.c3
  have HR := Lib.hid (HR.out.on k1)
  go_wp2_with fail
  refine (HB1 _).mono ?_
  rintro e u1 ⟨rfl, j1⟩
  have X := X.on j1
  have Y := Y.on j1
  have xx0 := X.c0
  have xx1 := X.c1
  have xx2 := X.c2
  have xx3 := X.c3
  have yy0 := Y.c0
  have yy1 := Y.c1
  have yy2 := Y.c2
  have yy3 := Y.c3
  have HR := Lib.hid (HR.out.on j1)
  go_wp2_with fail
  refine (wholes_any _).mono ?_
  rintro e qw0 ⟨qb0, rfl, qk0, qm0⟩
  have HR := Lib.hid (HR.out.on qk0)
  have X := X.on qk0
  have Y := Y.on qk0
  have xx0 := X.c0
  have xx1 := X.c1
  have xx2 := X.c2
  have xx3 := X.c3
  have yy0 := Y.c0
  have yy1 := Y.c1
  have yy2 := Y.c2
  have yy3 := Y.c3
  have hsr := row_on HR.out.own ((Below.refl _ _).alloc (Nat.le_refl _) (.cells #[.map (some qb0)] 70) : Bl qw0 _)
  have hbs := HR.out.f.size
  go_wp2_with (at_builtin; refine wpList_append_lies _ rfl _ _ 68 rfl w.heap.size 70 i0 _ 1 8 Try.underlying68 hi hz0 hz1 hz2 rfl (by decide) (.slice none 0 0) 0 _ rfl hsr ⟨qw0.heap.size, 0, none⟩ 1 1 [mv qb0] rfl rfl (new1 _ (mv qb0) _) (one1 qb0) (by decide) (by unfold maxLen; omega) (by omega) (by simp <;> omega) (qw0.heap.size + 1) (by simp) ?_)
  intro qg qcap qw hown hgrow hat hlt
  have X := X.ke (grow_ke HR.out.own hgrow)
  have Y := Y.ke (grow_ke HR.out.own hgrow)
  have xx0 := X.c0
  have xx1 := X.c1
  have xx2 := X.c2
  have xx3 := X.c3
  have yy0 := Y.c0
  have yy1 := Y.c1
  have yy2 := Y.c2
  have yy3 := Y.c3
  have HR : Hid (RowM w qw (.slice (some ⟨qg, 0, none⟩) 1 qcap) 1 ([] ++ [.tw]) ([] ++ [qb0])) := Lib.hid (HR.out.grow (.cons qm0 (.nil) : Maps qw0 [qb0] [.tw]) (Below.refl _ _) hgrow hown)
  go_wp2_with fail
  go_ret
  refine ⟨_, _, rfl, HR.out.f, ?_, by rw [HE.out]; exact HR.out.m⟩
  have hn := HR.out.m.len
  have h1 := HR.out.own
  have h2 := HR.out.n
  rw [hn, ← h2]
  exact h1
theorem rows_f1 (x y : TV) (ho : ordP x y = false) (h1 : bothP x y 1 = false) (h3 : bothP x y 3 = true) (w : World) : Calls Try.prog 23 #[x.val, y.val] w (RowsA x y w) := by
  obtain ⟨i0, hi, hz0, hz1, hz2⟩ := info_parts infoM
  have HO := ord_any x y
  rw [ho] at HO
  have HB1 := both_any x y 1
  rw [h1] at HB1
  have HB3 := both_any x y 3
  rw [h3] at HB3
  have HE : Hid (rowsP x y = [.tt]) := Lib.hid (by unfold rowsP; rw [ho, h1, h3]; rfl)
  clear ho h1 h3
  obtain ⟨s, t, x, n⟩ := x
  obtain ⟨s2, t2, x2, n2⟩ := y
  unfold TV.val at *
  have X := (Box.new w s t x n).on ((Below.refl _ _).alloc (Nat.le_refl _) (.cells #[.int .i64 s2, .int .i64 t2, .string x2, .int .i64 n2] 66))
  have Y := Box.new (w.alloc (.cells #[.int .i64 s, .int .i64 t, .string x, .int .i64 n] 66)) s2 t2 x2 n2
  simp only [World.size_alloc] at Y
  have HR : Hid (RowM w ((w.alloc (.cells #[.int .i64 s, .int .i64 t, .string x, .int .i64 n] 66)).alloc (.cells #[.int .i64 s2, .int .i64 t2, .string x2, .int .i64 n2] 66)) (.slice none 0 0) 0 [] []) := Lib.hid ⟨World.ownsRow_nil _ _ _ _, ((Below.refl _ _).alloc (Nat.le_refl _) _).alloc (by simp) _, .nil, rfl⟩
  go_enter Try.func23, Try.ntmps23
  go_wp2_with fail
  refine (HO _).mono ?_
  rintro e w1 ⟨rfl, k1⟩
  have X := X.on k1
  have Y := Y.on k1
  have xx0 := X.c0
  have xx1 := X.c1
  have xx2 := X.c2
  have xx3 := X.c3
  have yy0 := Y.c0
  have yy1 := Y.c1
  have yy2 := Y.c2
  have yy3 := Y.c3
  have HR := Lib.hid (HR.out.on k1)
  go_wp2_with fail
  refine (HB1 _).mono ?_
  rintro e u1 ⟨rfl, j1⟩
  have X := X.on j1
  have Y := Y.on j1
  have xx0 := X.c0
  have xx1 := X.c1
  have xx2 := X.c2
  have xx3 := X.c3
  have yy0 := Y.c0
  have yy1 := Y.c1
  have yy2 := Y.c2
  have yy3 := Y.c3
  have HR := Lib.hid (HR.out.on j1)
  go_wp2_with fail
  refine (HB3 _).mono ?_
  rintro e u3 ⟨rfl, j3⟩
  have X := X.on j3
  have Y := Y.on j3
  have xx0 := X.c0
  have xx1 := X.c1
  have xx2 := X.c2
  have xx3 := X.c3
  have yy0 := Y.c0
  have yy1 := Y.c1
  have yy2 := Y.c2
  have yy3 := Y.c3
  have HR := Lib.hid (HR.out.on j3)
  go_wp2_with fail
  refine (truths_any _).mono ?_
  rintro e qw0 ⟨qb0, rfl, qk0, qm0⟩
  have HR := Lib.hid (HR.out.on qk0)
  have X := X.on qk0
  have Y := Y.on qk0
  have xx0 := X.c0
  have xx1 := X.c1
  have xx2 := X.c2
  have xx3 := X.c3
  have yy0 := Y.c0
  have yy1 := Y.c1
  have yy2 := Y.c2
  have yy3 := Y.c3
  have hsr := row_on HR.out.own ((Below.refl _ _).alloc (Nat.le_refl _) (.cells #[.map (some qb0)] 70) : Bl qw0 _)
  have hbs := HR.out.f.size
  go_wp2_with (at_builtin; refine wpList_append_lies _ rfl _ _ 68 rfl w.heap.size 70 i0 _ 1 8 Try.underlying68 hi hz0 hz1 hz2 rfl (by decide) (.slice none 0 0) 0 _ rfl hsr ⟨qw0.heap.size, 0, none⟩ 1 1 [mv qb0] rfl rfl (new1 _ (mv qb0) _) (one1 qb0) (by decide) (by unfold maxLen; omega) (by omega) (by simp <;> omega) (qw0.heap.size + 1) (by simp) ?_)
  intro qg qcap qw hown hgrow hat hlt
  have X := X.ke (grow_ke HR.out.own hgrow)
  have Y := Y.ke (grow_ke HR.out.own hgrow)
  have xx0 := X.c0
  have xx1 := X.c1
  have xx2 := X.c2
  have xx3 := X.c3
  have yy0 := Y.c0
  have yy1 := Y.c1
  have yy2 := Y.c2
  have yy3 := Y.c3
  have HR : Hid (RowM w qw (.slice (some ⟨qg, 0, none⟩) 1 qcap) 1 ([] ++ [.tt]) ([] ++ [qb0])) := Lib.hid (HR.out.grow (.cons qm0 (.nil) : Maps qw0 [qb0] [.tt]) (Below.refl _ _) hgrow hown)
  go_wp2_with fail
  go_ret
  refine ⟨_, _, rfl, HR.out.f, ?_, by rw [HE.out]; exact HR.out.m⟩
  have hn := HR.out.m.len
  have h1 := HR.out.own
  have h2 := HR.out.n
  rw [hn, ← h2]
  exact h1
theorem rows_f2 (x y : TV) (ho : ordP x y = false) (h1 : bothP x y 1 = false) (h3 : bothP x y 3 = false) (h4 : bothP x y 4 = true) (w : World) : Calls Try.prog 23 #[x.val, y.val] w (RowsA x y w) := by
  obtain ⟨i0, hi, hz0, hz1, hz2⟩ := info_parts infoM
  have HO := ord_any x y
  rw [ho] at HO
  have HB1 := both_any x y 1
  rw [h1] at HB1
  have HB3 := both_any x y 3
  rw [h3] at HB3
  have HB4 := both_any x y 4
  rw [h4] at HB4
  have HE : Hid (rowsP x y = [.ts, .te]) := Lib.hid (by unfold rowsP; rw [ho, h1, h3, h4]; rfl)
  clear ho h1 h3 h4
  obtain ⟨s, t, x, n⟩ := x
  obtain ⟨s2, t2, x2, n2⟩ := y
  unfold TV.val at *
  have X := (Box.new w s t x n).on ((Below.refl _ _).alloc (Nat.le_refl _) (.cells #[.int .i64 s2, .int .i64 t2, .string x2, .int .i64 n2] 66))
  have Y := Box.new (w.alloc (.cells #[.int .i64 s, .int .i64 t, .string x, .int .i64 n] 66)) s2 t2 x2 n2
  simp only [World.size_alloc] at Y
  have HR : Hid (RowM w ((w.alloc (.cells #[.int .i64 s, .int .i64 t, .string x, .int .i64 n] 66)).alloc (.cells #[.int .i64 s2, .int .i64 t2, .string x2, .int .i64 n2] 66)) (.slice none 0 0) 0 [] []) := Lib.hid ⟨World.ownsRow_nil _ _ _ _, ((Below.refl _ _).alloc (Nat.le_refl _) _).alloc (by simp) _, .nil, rfl⟩
  go_enter Try.func23, Try.ntmps23
  go_wp2_with fail
  refine (HO _).mono ?_
  rintro e w1 ⟨rfl, k1⟩
  have X := X.on k1
  have Y := Y.on k1
  have xx0 := X.c0
  have xx1 := X.c1
  have xx2 := X.c2
  have xx3 := X.c3
  have yy0 := Y.c0
  have yy1 := Y.c1
  have yy2 := Y.c2
  have yy3 := Y.c3
  have HR := Lib.hid (HR.out.on k1)
  go_wp2_with fail
  refine (HB1 _).mono ?_
  rintro e u1 ⟨rfl, j1⟩
  have X := X.on j1
  have Y := Y.on j1
  have xx0 := X.c0
  have xx1 := X.c1
  have xx2 := X.c2
  have xx3 := X.c3
  have yy0 := Y.c0
  have yy1 := Y.c1
  have yy2 := Y.c2
  have yy3 := Y.c3
  have HR := Lib.hid (HR.out.on j1)
  go_wp2_with fail
  refine (HB3 _).mono ?_
  rintro e u3 ⟨rfl, j3⟩
  have X := X.on j3
  have Y := Y.on j3
  have xx0 := X.c0
  have xx1 := X.c1
  have xx2 := X.c2
  have xx3 := X.c3
  have yy0 := Y.c0
  have yy1 := Y.c1
  have yy2 := Y.c2
  have yy3 := Y.c3
  have HR := Lib.hid (HR.out.on j3)
  go_wp2_with fail
  refine (HB4 _).mono ?_
  rintro e u4 ⟨rfl, j4⟩
  have X := X.on j4
  have Y := Y.on j4
  have xx0 := X.c0
  have xx1 := X.c1
  have xx2 := X.c2
  have xx3 := X.c3
  have yy0 := Y.c0
  have yy1 := Y.c1
  have yy2 := Y.c2
  have yy3 := Y.c3
  have HR := Lib.hid (HR.out.on j4)
  go_wp2_with fail
  refine (sets_any _).mono ?_
  rintro e qw0 ⟨qb0, rfl, qk0, qm0⟩
  have HR := Lib.hid (HR.out.on qk0)
  have X := X.on qk0
  have Y := Y.on qk0
  have xx0 := X.c0
  have xx1 := X.c1
  have xx2 := X.c2
  have xx3 := X.c3
  have yy0 := Y.c0
  have yy1 := Y.c1
  have yy2 := Y.c2
  have yy3 := Y.c3
  go_wp2_with fail
  refine (equals_any _).mono ?_
  rintro e qw1 ⟨qb1, rfl, qk1, qm1⟩
  have HR := Lib.hid (HR.out.on qk1)
  have X := X.on qk1
  have Y := Y.on qk1
  have xx0 := X.c0
  have xx1 := X.c1
  have xx2 := X.c2
  have xx3 := X.c3
  have yy0 := Y.c0
  have yy1 := Y.c1
  have yy2 := Y.c2
  have yy3 := Y.c3
  have qm0 := qm0.on qk1.ke
  have hsr := row_on HR.out.own ((Below.refl _ _).alloc (Nat.le_refl _) (.cells #[.map (some qb0), .map (some qb1)] 70) : Bl qw1 _)
  have hbs := HR.out.f.size
  go_wp2_with (at_builtin; refine wpList_append_lies _ rfl _ _ 68 rfl w.heap.size 70 i0 _ 1 8 Try.underlying68 hi hz0 hz1 hz2 rfl (by decide) (.slice none 0 0) 0 _ rfl hsr ⟨qw1.heap.size, 0, none⟩ 2 2 [mv qb0, mv qb1] rfl rfl (new2 _ (mv qb0) (mv qb1) _) (one2 qb0 qb1) (by decide) (by unfold maxLen; omega) (by omega) (by simp <;> omega) (qw1.heap.size + 1) (by simp) ?_)
  intro qg qcap qw hown hgrow hat hlt
  have X := X.ke (grow_ke HR.out.own hgrow)
  have Y := Y.ke (grow_ke HR.out.own hgrow)
  have xx0 := X.c0
  have xx1 := X.c1
  have xx2 := X.c2
  have xx3 := X.c3
  have yy0 := Y.c0
  have yy1 := Y.c1
  have yy2 := Y.c2
  have yy3 := Y.c3
  have HR : Hid (RowM w qw (.slice (some ⟨qg, 0, none⟩) 2 qcap) 2 ([] ++ [.ts, .te]) ([] ++ [qb0, qb1])) := Lib.hid (HR.out.grow (.cons qm0 (.cons qm1 (.nil)) : Maps qw1 [qb0, qb1] [.ts, .te]) (Below.refl _ _) hgrow hown)
  go_wp2_with fail
  go_ret
  refine ⟨_, _, rfl, HR.out.f, ?_, by rw [HE.out]; exact HR.out.m⟩
  have hn := HR.out.m.len
  have h1 := HR.out.own
  have h2 := HR.out.n
  rw [hn, ← h2]
  exact h1
theorem rows_f3 (x y : TV) (ho : ordP x y = false) (h1 : bothP x y 1 = false) (h3 : bothP x y 3 = false) (h4 : bothP x y 4 = false) (h7 : bothP x y 7 = true) (w : World) : Calls Try.prog 23 #[x.val, y.val] w (RowsA x y w) := by
  obtain ⟨i0, hi, hz0, hz1, hz2⟩ := info_parts infoM
  have HO := ord_any x y
  rw [ho] at HO
  have HB1 := both_any x y 1
  rw [h1] at HB1
  have HB3 := both_any x y 3
  rw [h3] at HB3
  have HB4 := both_any x y 4
  rw [h4] at HB4
  have HB7 := both_any x y 7
  rw [h7] at HB7
  have HE : Hid (rowsP x y = [.te]) := Lib.hid (by unfold rowsP; rw [ho, h1, h3, h4, h7]; rfl)
  clear ho h1 h3 h4 h7
  obtain ⟨s, t, x, n⟩ := x
  obtain ⟨s2, t2, x2, n2⟩ := y
  unfold TV.val at *
  have X := (Box.new w s t x n).on ((Below.refl _ _).alloc (Nat.le_refl _) (.cells #[.int .i64 s2, .int .i64 t2, .string x2, .int .i64 n2] 66))
  have Y := Box.new (w.alloc (.cells #[.int .i64 s, .int .i64 t, .string x, .int .i64 n] 66)) s2 t2 x2 n2
  simp only [World.size_alloc] at Y
  have HR : Hid (RowM w ((w.alloc (.cells #[.int .i64 s, .int .i64 t, .string x, .int .i64 n] 66)).alloc (.cells #[.int .i64 s2, .int .i64 t2, .string x2, .int .i64 n2] 66)) (.slice none 0 0) 0 [] []) := Lib.hid ⟨World.ownsRow_nil _ _ _ _, ((Below.refl _ _).alloc (Nat.le_refl _) _).alloc (by simp) _, .nil, rfl⟩
  go_enter Try.func23, Try.ntmps23
  go_wp2_with fail
  refine (HO _).mono ?_
  rintro e w1 ⟨rfl, k1⟩
  have X := X.on k1
  have Y := Y.on k1
  have xx0 := X.c0
  have xx1 := X.c1
  have xx2 := X.c2
  have xx3 := X.c3
  have yy0 := Y.c0
  have yy1 := Y.c1
  have yy2 := Y.c2
  have yy3 := Y.c3
  have HR := Lib.hid (HR.out.on k1)
  go_wp2_with fail
  refine (HB1 _).mono ?_
  rintro e u1 ⟨rfl, j1⟩
  have X := X.on j1
  have Y := Y.on j1
  have xx0 := X.c0
  have xx1 := X.c1
  have xx2 := X.c2
  have xx3 := X.c3
  have yy0 := Y.c0
  have yy1 := Y.c1
  have yy2 := Y.c2
  have yy3 := Y.c3
  have HR := Lib.hid (HR.out.on j1)
  go_wp2_with fail
  refine (HB3 _).mono ?_
  rintro e u3 ⟨rfl, j3⟩
  have X := X.on j3
  have Y := Y.on j3
  have xx0 := X.c0
  have xx1 := X.c1
  have xx2 := X.c2
  have xx3 := X.c3
  have yy0 := Y.c0
  have yy1 := Y.c1
  have yy2 := Y.c2
  have yy3 := Y.c3
  have HR := Lib.hid (HR.out.on j3)
  go_wp2_with fail
  refine (HB4 _).mono ?_
  rintro e u4 ⟨rfl, j4⟩
  have X := X.on j4
  have Y := Y.on j4
  have xx0 := X.c0
  have xx1 := X.c1
  have xx2 := X.c2
  have xx3 := X.c3
  have yy0 := Y.c0
  have yy1 := Y.c1
  have yy2 := Y.c2
  have yy3 := Y.c3
  have HR := Lib.hid (HR.out.on j4)
  go_wp2_with fail
  refine (HB7 _).mono ?_
  rintro e u7 ⟨rfl, j7⟩
  have X := X.on j7
  have Y := Y.on j7
  have xx0 := X.c0
  have xx1 := X.c1
  have xx2 := X.c2
  have xx3 := X.c3
  have yy0 := Y.c0
  have yy1 := Y.c1
  have yy2 := Y.c2
  have yy3 := Y.c3
  have HR := Lib.hid (HR.out.on j7)
  go_wp2_with fail
  refine (equals_any _).mono ?_
  rintro e qw0 ⟨qb0, rfl, qk0, qm0⟩
  have HR := Lib.hid (HR.out.on qk0)
  have X := X.on qk0
  have Y := Y.on qk0
  have xx0 := X.c0
  have xx1 := X.c1
  have xx2 := X.c2
  have xx3 := X.c3
  have yy0 := Y.c0
  have yy1 := Y.c1
  have yy2 := Y.c2
  have yy3 := Y.c3
  have hsr := row_on HR.out.own ((Below.refl _ _).alloc (Nat.le_refl _) (.cells #[.map (some qb0)] 70) : Bl qw0 _)
  have hbs := HR.out.f.size
  go_wp2_with (at_builtin; refine wpList_append_lies _ rfl _ _ 68 rfl w.heap.size 70 i0 _ 1 8 Try.underlying68 hi hz0 hz1 hz2 rfl (by decide) (.slice none 0 0) 0 _ rfl hsr ⟨qw0.heap.size, 0, none⟩ 1 1 [mv qb0] rfl rfl (new1 _ (mv qb0) _) (one1 qb0) (by decide) (by unfold maxLen; omega) (by omega) (by simp <;> omega) (qw0.heap.size + 1) (by simp) ?_)
  intro qg qcap qw hown hgrow hat hlt
  have X := X.ke (grow_ke HR.out.own hgrow)
  have Y := Y.ke (grow_ke HR.out.own hgrow)
  have xx0 := X.c0
  have xx1 := X.c1
  have xx2 := X.c2
  have xx3 := X.c3
  have yy0 := Y.c0
  have yy1 := Y.c1
  have yy2 := Y.c2
  have yy3 := Y.c3
  have HR : Hid (RowM w qw (.slice (some ⟨qg, 0, none⟩) 1 qcap) 1 ([] ++ [.te]) ([] ++ [qb0])) := Lib.hid (HR.out.grow (.cons qm0 (.nil) : Maps qw0 [qb0] [.te]) (Below.refl _ _) hgrow hown)
  go_wp2_with fail
  go_ret
  refine ⟨_, _, rfl, HR.out.f, ?_, by rw [HE.out]; exact HR.out.m⟩
  have hn := HR.out.m.len
  have h1 := HR.out.own
  have h2 := HR.out.n
  rw [hn, ← h2]
  exact h1
theorem rows_f4 (x y : TV) (ho : ordP x y = false) (h1 : bothP x y 1 = false) (h3 : bothP x y 3 = false) (h4 : bothP x y 4 = false) (h7 : bothP x y 7 = false) (hm : (x.num && y.s == 4) = true) (w : World) : Calls Try.prog 23 #[x.val, y.val] w (RowsA x y w) := by
  obtain ⟨i0, hi, hz0, hz1, hz2⟩ := info_parts infoM
  have HO := ord_any x y
  rw [ho] at HO
  have HB1 := both_any x y 1
  rw [h1] at HB1
  have HB3 := both_any x y 3
  rw [h3] at HB3
  have HB4 := both_any x y 4
  rw [h4] at HB4
  have HB7 := both_any x y 7
  rw [h7] at HB7
  have HE : Hid (rowsP x y = [.tm]) := Lib.hid (by unfold rowsP; rw [ho, h1, h3, h4, h7, hm]; rfl)
  have HN := num_any x
  obtain ⟨c, hc⟩ : ∃ c, x.num = c := ⟨_, rfl⟩
  rw [hc] at HN hm
  clear hc
  clear ho h1 h3 h4 h7
  obtain ⟨s, t, x, n⟩ := x
  obtain ⟨s2, t2, x2, n2⟩ := y
  unfold TV.val at *
  have X := (Box.new w s t x n).on ((Below.refl _ _).alloc (Nat.le_refl _) (.cells #[.int .i64 s2, .int .i64 t2, .string x2, .int .i64 n2] 66))
  have Y := Box.new (w.alloc (.cells #[.int .i64 s, .int .i64 t, .string x, .int .i64 n] 66)) s2 t2 x2 n2
  simp only [World.size_alloc] at Y
  have HR : Hid (RowM w ((w.alloc (.cells #[.int .i64 s, .int .i64 t, .string x, .int .i64 n] 66)).alloc (.cells #[.int .i64 s2, .int .i64 t2, .string x2, .int .i64 n2] 66)) (.slice none 0 0) 0 [] []) := Lib.hid ⟨World.ownsRow_nil _ _ _ _, ((Below.refl _ _).alloc (Nat.le_refl _) _).alloc (by simp) _, .nil, rfl⟩
  go_enter Try.func23, Try.ntmps23
  go_wp2_with fail
  refine (HO _).mono ?_
  rintro e w1 ⟨rfl, k1⟩
  have X := X.on k1
  have Y := Y.on k1
  have xx0 := X.c0
  have xx1 := X.c1
  have xx2 := X.c2
  have xx3 := X.c3
  have yy0 := Y.c0
  have yy1 := Y.c1
  have yy2 := Y.c2
  have yy3 := Y.c3
  have HR := Lib.hid (HR.out.on k1)
  go_wp2_with fail
  refine (HB1 _).mono ?_
  rintro e u1 ⟨rfl, j1⟩
  have X := X.on j1
  have Y := Y.on j1
  have xx0 := X.c0
  have xx1 := X.c1
  have xx2 := X.c2
  have xx3 := X.c3
  have yy0 := Y.c0
  have yy1 := Y.c1
  have yy2 := Y.c2
  have yy3 := Y.c3
  have HR := Lib.hid (HR.out.on j1)
  go_wp2_with fail
  refine (HB3 _).mono ?_
  rintro e u3 ⟨rfl, j3⟩
  have X := X.on j3
  have Y := Y.on j3
  have xx0 := X.c0
  have xx1 := X.c1
  have xx2 := X.c2
  have xx3 := X.c3
  have yy0 := Y.c0
  have yy1 := Y.c1
  have yy2 := Y.c2
  have yy3 := Y.c3
  have HR := Lib.hid (HR.out.on j3)
  go_wp2_with fail
  refine (HB4 _).mono ?_
  rintro e u4 ⟨rfl, j4⟩
  have X := X.on j4
  have Y := Y.on j4
  have xx0 := X.c0
  have xx1 := X.c1
  have xx2 := X.c2
  have xx3 := X.c3
  have yy0 := Y.c0
  have yy1 := Y.c1
  have yy2 := Y.c2
  have yy3 := Y.c3
  have HR := Lib.hid (HR.out.on j4)
  go_wp2_with fail
  refine (HB7 _).mono ?_
  rintro e u7 ⟨rfl, j7⟩
  have X := X.on j7
  have Y := Y.on j7
  have xx0 := X.c0
  have xx1 := X.c1
  have xx2 := X.c2
  have xx3 := X.c3
  have yy0 := Y.c0
  have yy1 := Y.c1
  have yy2 := Y.c2
  have yy3 := Y.c3
  have HR := Lib.hid (HR.out.on j7)
  cases c
  · simp at hm
  · have hm : (s2 == 4) = true := by simpa using hm
    go_wp2_with fail
    refine (HN _).mono ?_
    rintro e z1 ⟨rfl, l1⟩
    have X := X.on l1
    have Y := Y.on l1
    have xx0 := X.c0
    have xx1 := X.c1
    have xx2 := X.c2
    have xx3 := X.c3
    have yy0 := Y.c0
    have yy1 := Y.c1
    have yy2 := Y.c2
    have yy3 := Y.c3
    have HR := Lib.hid (HR.out.on l1)
    go_wp2_with fail
    refine (members_any _).mono ?_
    rintro e qw0 ⟨qb0, rfl, qk0, qm0⟩
    have HR := Lib.hid (HR.out.on qk0)
    have X := X.on qk0
    have Y := Y.on qk0
    have xx0 := X.c0
    have xx1 := X.c1
    have xx2 := X.c2
    have xx3 := X.c3
    have yy0 := Y.c0
    have yy1 := Y.c1
    have yy2 := Y.c2
    have yy3 := Y.c3
    have hsr := row_on HR.out.own ((Below.refl _ _).alloc (Nat.le_refl _) (.cells #[.map (some qb0)] 70) : Bl qw0 _)
    have hbs := HR.out.f.size
    go_wp2_with (at_builtin; refine wpList_append_lies _ rfl _ _ 68 rfl w.heap.size 70 i0 _ 1 8 Try.underlying68 hi hz0 hz1 hz2 rfl (by decide) (.slice none 0 0) 0 _ rfl hsr ⟨qw0.heap.size, 0, none⟩ 1 1 [mv qb0] rfl rfl (new1 _ (mv qb0) _) (one1 qb0) (by decide) (by unfold maxLen; omega) (by omega) (by simp <;> omega) (qw0.heap.size + 1) (by simp) ?_)
    intro qg qcap qw hown hgrow hat hlt
    have X := X.ke (grow_ke HR.out.own hgrow)
    have Y := Y.ke (grow_ke HR.out.own hgrow)
    have xx0 := X.c0
    have xx1 := X.c1
    have xx2 := X.c2
    have xx3 := X.c3
    have yy0 := Y.c0
    have yy1 := Y.c1
    have yy2 := Y.c2
    have yy3 := Y.c3
    have HR : Hid (RowM w qw (.slice (some ⟨qg, 0, none⟩) 1 qcap) 1 ([] ++ [.tm]) ([] ++ [qb0])) := Lib.hid (HR.out.grow (.cons qm0 (.nil) : Maps qw0 [qb0] [.tm]) (Below.refl _ _) hgrow hown)
    go_wp2_with fail
    go_ret
    refine ⟨_, _, rfl, HR.out.f, ?_, by rw [HE.out]; exact HR.out.m⟩
    have hn := HR.out.m.len
    have h1 := HR.out.own
    have h2 := HR.out.n
    rw [hn, ← h2]
    exact h1
theorem rows_f5 (x y : TV) (ho : ordP x y = false) (h1 : bothP x y 1 = false) (h3 : bothP x y 3 = false) (h4 : bothP x y 4 = false) (h7 : bothP x y 7 = false) (hm : (x.num && y.s == 4) = false) (w : World) : Calls Try.prog 23 #[x.val, y.val] w (RowsA x y w) := by
  obtain ⟨i0, hi, hz0, hz1, hz2⟩ := info_parts infoM
  have HO := ord_any x y
  rw [ho] at HO
  have HB1 := both_any x y 1
  rw [h1] at HB1
  have HB3 := both_any x y 3
  rw [h3] at HB3
  have HB4 := both_any x y 4
  rw [h4] at HB4
  have HB7 := both_any x y 7
  rw [h7] at HB7
  have HE : Hid (rowsP x y = []) := Lib.hid (by unfold rowsP; rw [ho, h1, h3, h4, h7, hm]; rfl)
  have HN := num_any x
  obtain ⟨c, hc⟩ : ∃ c, x.num = c := ⟨_, rfl⟩
  rw [hc] at HN hm
  clear hc
  clear ho h1 h3 h4 h7
  obtain ⟨s, t, x, n⟩ := x
  obtain ⟨s2, t2, x2, n2⟩ := y
  unfold TV.val at *
  have X := (Box.new w s t x n).on ((Below.refl _ _).alloc (Nat.le_refl _) (.cells #[.int .i64 s2, .int .i64 t2, .string x2, .int .i64 n2] 66))
  have Y := Box.new (w.alloc (.cells #[.int .i64 s, .int .i64 t, .string x, .int .i64 n] 66)) s2 t2 x2 n2
  simp only [World.size_alloc] at Y
  have HR : Hid (RowM w ((w.alloc (.cells #[.int .i64 s, .int .i64 t, .string x, .int .i64 n] 66)).alloc (.cells #[.int .i64 s2, .int .i64 t2, .string x2, .int .i64 n2] 66)) (.slice none 0 0) 0 [] []) := Lib.hid ⟨World.ownsRow_nil _ _ _ _, ((Below.refl _ _).alloc (Nat.le_refl _) _).alloc (by simp) _, .nil, rfl⟩
  go_enter Try.func23, Try.ntmps23
  go_wp2_with fail
  refine (HO _).mono ?_
  rintro e w1 ⟨rfl, k1⟩
  have X := X.on k1
  have Y := Y.on k1
  have xx0 := X.c0
  have xx1 := X.c1
  have xx2 := X.c2
  have xx3 := X.c3
  have yy0 := Y.c0
  have yy1 := Y.c1
  have yy2 := Y.c2
  have yy3 := Y.c3
  have HR := Lib.hid (HR.out.on k1)
  go_wp2_with fail
  refine (HB1 _).mono ?_
  rintro e u1 ⟨rfl, j1⟩
  have X := X.on j1
  have Y := Y.on j1
  have xx0 := X.c0
  have xx1 := X.c1
  have xx2 := X.c2
  have xx3 := X.c3
  have yy0 := Y.c0
  have yy1 := Y.c1
  have yy2 := Y.c2
  have yy3 := Y.c3
  have HR := Lib.hid (HR.out.on j1)
  go_wp2_with fail
  refine (HB3 _).mono ?_
  rintro e u3 ⟨rfl, j3⟩
  have X := X.on j3
  have Y := Y.on j3
  have xx0 := X.c0
  have xx1 := X.c1
  have xx2 := X.c2
  have xx3 := X.c3
  have yy0 := Y.c0
  have yy1 := Y.c1
  have yy2 := Y.c2
  have yy3 := Y.c3
  have HR := Lib.hid (HR.out.on j3)
  go_wp2_with fail
  refine (HB4 _).mono ?_
  rintro e u4 ⟨rfl, j4⟩
  have X := X.on j4
  have Y := Y.on j4
  have xx0 := X.c0
  have xx1 := X.c1
  have xx2 := X.c2
  have xx3 := X.c3
  have yy0 := Y.c0
  have yy1 := Y.c1
  have yy2 := Y.c2
  have yy3 := Y.c3
  have HR := Lib.hid (HR.out.on j4)
  go_wp2_with fail
  refine (HB7 _).mono ?_
  rintro e u7 ⟨rfl, j7⟩
  have X := X.on j7
  have Y := Y.on j7
  have xx0 := X.c0
  have xx1 := X.c1
  have xx2 := X.c2
  have xx3 := X.c3
  have yy0 := Y.c0
  have yy1 := Y.c1
  have yy2 := Y.c2
  have yy3 := Y.c3
  have HR := Lib.hid (HR.out.on j7)
  cases c
  · clear hm
    go_wp2_with fail
    refine (HN _).mono ?_
    rintro e z1 ⟨rfl, l1⟩
    have X := X.on l1
    have Y := Y.on l1
    have xx0 := X.c0
    have xx1 := X.c1
    have xx2 := X.c2
    have xx3 := X.c3
    have yy0 := Y.c0
    have yy1 := Y.c1
    have yy2 := Y.c2
    have yy3 := Y.c3
    have HR := Lib.hid (HR.out.on l1)
    go_wp2_with fail
    go_ret
    refine ⟨_, _, rfl, HR.out.f, ?_, by rw [HE.out]; exact HR.out.m⟩
    have hn := HR.out.m.len
    have h1 := HR.out.own
    have h2 := HR.out.n
    rw [hn, ← h2]
    exact h1
  · have hm : (s2 == 4) = false := by simpa using hm
    go_wp2_with fail
    refine (HN _).mono ?_
    rintro e z1 ⟨rfl, l1⟩
    have X := X.on l1
    have Y := Y.on l1
    have xx0 := X.c0
    have xx1 := X.c1
    have xx2 := X.c2
    have xx3 := X.c3
    have yy0 := Y.c0
    have yy1 := Y.c1
    have yy2 := Y.c2
    have yy3 := Y.c3
    have HR := Lib.hid (HR.out.on l1)
    go_wp2_with fail
    go_ret
    refine ⟨_, _, rfl, HR.out.f, ?_, by rw [HE.out]; exact HR.out.m⟩
    have hn := HR.out.m.len
    have h1 := HR.out.own
    have h2 := HR.out.n
    rw [hn, ← h2]
    exact h1
theorem rows_any (x y : TV) (w : World) : Calls Try.prog 23 #[x.val, y.val] w (RowsA x y w) := by
  cases ho : ordP x y <;> cases h1 : bothP x y 1 <;> cases h3 : bothP x y 3 <;> cases h4 : bothP x y 4 <;> cases h7 : bothP x y 7 <;> cases hm : (x.num && y.s == 4)
  all_goals first
    | exact rows_t0 x y ho h1 w
    | exact rows_t1 x y ho h1 h3 w
    | exact rows_t2 x y ho h1 h3 h4 w
    | exact rows_t3 x y ho h1 h3 h4 h7 w
    | exact rows_t4 x y ho h1 h3 h4 h7 hm w
    | exact rows_t5 x y ho h1 h3 h4 h7 hm w
    | exact rows_f0 x y ho h1 w
    | exact rows_f1 x y ho h1 h3 w
    | exact rows_f2 x y ho h1 h3 h4 w
    | exact rows_f3 x y ho h1 h3 h4 h7 w
    | exact rows_f4 x y ho h1 h3 h4 h7 hm w
    | exact rows_f5 x y ho h1 h3 h4 h7 hm w
end Go.Proofs.Ytpnohljhpoildaa
