/- Package konst: rows of tables. -/
import Derived.Test.YtpnohljhpoildaaKnE
import Derived.Laws.AppendOwn
import Derived.Deep.AppendLies
namespace Go.Proofs.Ytpnohljhpoildaa
open Go.RowKit
set_option maxHeartbeats 1000000
set_option maxRecDepth 100000
set_option linter.unusedVariables false
set_option linter.unusedSimpArgs false

open Go.Maps Go.WideMaps
theorem infoM : (Try.prog.info? 70).map (fun i => (i.zero, i.size, i.bytes)) = some (some (.map none), 1, 8) := by kernel_rfl
theorem info_parts {t : TypeId} {z : Value} {s by' : Nat} (h : (Try.prog.info? t).map (fun i => (i.zero, i.size, i.bytes)) = some (some z, s, by')) : ∃ i, Try.prog.info? t = some i ∧ i.zero = some z ∧ i.size = s ∧ i.bytes = by' := by
  cases hi : Try.prog.info? t with
  | none => rw [hi] at h; cases h
  | some i =>
    rw [hi] at h
    simp only [Option.map_some, Option.some.injEq, Prod.mk.injEq] at h
    exact ⟨i, rfl, h.1, h.2.1, h.2.2⟩
theorem new1 (w : World) (u : Value) (t : TypeId) : ∀ (j : Nat) v, [u][j]? = some v → (w.alloc (.cells #[u] t)).cell? ((⟨w.heap.size, 0, none⟩ : Addr).add j) = some v := by
  intro j v hj
  match j, hj with
  | 0, hj => simp at hj; subst hj; simp [Addr.add]
theorem new2 (w : World) (u v : Value) (t : TypeId) : ∀ (j : Nat) z, [u, v][j]? = some z → (w.alloc (.cells #[u, v] t)).cell? ((⟨w.heap.size, 0, none⟩ : Addr).add j) = some z := by
  intro j z hj
  match j, hj with
  | 0, hj => simp at hj; subst hj; simp [Addr.add]
  | 1, hj => simp at hj; subst hj; simp [Addr.add]
def mv (b : Nat) : Value := .map (some b)
/-- A row of maps under way: one for each table. -/
inductive Maps (w : World) : List Nat → List Tn → Prop where
  | nil : Maps w [] []
  | cons {b : Nat} {t : Tn} {bs : List Nat} {ts : List Tn} : MapT w b t → Maps w bs ts → Maps w (b :: bs) (t :: ts)
theorem Maps.on {w w' : World} {bs : List Nat} {ts : List Tn} (h : Maps w bs ts) (k : Ke w w') : Maps w' bs ts := by
  induction h with
  | nil => exact .nil
  | cons h1 _ ih => exact .cons (h1.on k) ih
theorem Maps.app {w : World} {bs cs : List Nat} {ts us : List Tn} (h : Maps w bs ts) (k : Maps w cs us) : Maps w (bs ++ cs) (ts ++ us) := by
  induction h with
  | nil => exact k
  | cons h1 _ ih => exact .cons h1 ih
theorem Maps.len {w : World} {bs : List Nat} {ts : List Tn} (h : Maps w bs ts) : bs.length = ts.length := by
  induction h with
  | nil => rfl
  | cons _ _ ih => simp [ih]
structure RowM (W w : World) (v : Value) (n : Nat) (ts : List Tn) (bs : List Nat) : Prop where
  own : w.ownsRow W.heap.size 70 1 v n (bs.map mv)
  f : Below W.heap.size W w
  m : Maps w bs ts
  n : n = ts.length
theorem row_on {W w w' : World} {v : Value} {n : Nat} {xs : List Value} (h : w.ownsRow W.heap.size 70 1 v n xs) (k : Bl w w') : w'.ownsRow W.heap.size 70 1 v n xs := by
  obtain ⟨h1, h2⟩ := h
  refine ⟨h1, ?_⟩
  rcases h2 with h2 | ⟨g, cap, cur, hv, hg, hh, r⟩
  · exact .inl h2
  · exact .inr ⟨g, cap, cur, hv, hg, (k.block g (lt_at hh)).trans hh, r⟩
theorem RowM.on {W w w' : World} {v : Value} {n : Nat} {ts : List Tn} {bs : List Nat} (h : RowM W w v n ts bs) (k : Bl w w') : RowM W w' v n ts bs :=
  ⟨row_on h.own k, h.f.trans (k.mono h.f.size), h.m.on k.ke, h.n⟩
theorem grow_ke {W w w' : World} {v : Value} {n : Nat} {xs : List Value} (h : w.ownsRow W.heap.size 70 1 v n xs) {o : Obj} (hg : (w.alloc o).grownBy w' v.ownBlock) : Ke w w' := by
  have hk1 : Bl w (w.alloc o) := (Below.refl _ _).alloc (Nat.le_refl _) _
  refine hk1.ke.on (fun j o' hj ho => ?_)
  have h2 := row_on h hk1
  refine (hg.block j (lt_at hj) (fun e => ?_)).trans hj
  rcases h2.2 with ⟨hv, _⟩ | ⟨g, cap, cur, hv, _, hh, _⟩
  · rw [hv] at e; simp [Value.ownBlock] at e
  · rw [hv] at e
    simp only [Value.ownBlock, Option.some.injEq] at e
    subst e
    rw [hh] at hj
    injection hj with hj
    subst hj
    simp [kept] at ho
theorem RowM.grow {W w w1 w' : World} {v v' : Value} {n : Nat} {ts us : List Tn} {bs cs : List Nat} (h : RowM W w v n ts bs) (hm : Maps w1 cs us) (k : Bl w w1) {o : Obj} (hg : (w1.alloc o).grownBy w' v.ownBlock)
    (hown : w'.ownsRow W.heap.size 70 1 v' (n + us.length) (bs.map mv ++ cs.map mv)) : RowM W w' v' (n + us.length) (ts ++ us) (bs ++ cs) := by
  have h1 := h.on k
  have hk1 : Bl w1 (w1.alloc o) := (Below.refl _ _).alloc (Nat.le_refl _) _
  have h2 := h1.on hk1
  have hk : Ke w1 w' := grow_ke h1.own hg
  refine ⟨by rw [List.map_append]; exact hown, ?_, (h1.m.on hk).app (hm.on hk), by rw [h.n]; simp⟩
  refine h2.f.grown hg h2.f.size (fun g hg2 => ?_)
  rcases h2.own.2 with ⟨hv, _⟩ | ⟨g', cap, cur, hv, hb, _⟩
  · rw [hv] at hg2; simp [Value.ownBlock] at hg2
  · rw [hv] at hg2
    simp only [Value.ownBlock, Option.some.injEq] at hg2
    omega
/-- A value that is told, in a variable. -/
def Box (w : World) (b : Nat) (x : TV) : Prop := w.heap[b]? = some (.cells #[.int .i64 x.s, .int .i64 x.t, .string x.x, .int .i64 x.n] 66)
theorem Box.c0 {w : World} {b : Nat} {x : TV} (h : Box w b x) : w.cell? ⟨b, 0, none⟩ = some (.int .i64 x.s) := by unfold Box at h; simp [World.cell?, h]
theorem Box.c1 {w : World} {b : Nat} {x : TV} (h : Box w b x) : w.cell? ⟨b, 1, none⟩ = some (.int .i64 x.t) := by unfold Box at h; simp [World.cell?, h]
theorem Box.c2 {w : World} {b : Nat} {x : TV} (h : Box w b x) : w.cell? ⟨b, 2, none⟩ = some (.string x.x) := by unfold Box at h; simp [World.cell?, h]
theorem Box.c3 {w : World} {b : Nat} {x : TV} (h : Box w b x) : w.cell? ⟨b, 3, none⟩ = some (.int .i64 x.n) := by unfold Box at h; simp [World.cell?, h]
theorem Box.ke {w w' : World} {b : Nat} {x : TV} (h : Box w b x) (k : Ke w w') : Box w' b x := k b _ h rfl
theorem Box.on {w w' : World} {b : Nat} {x : TV} (h : Box w b x) (k : Bl w w') : Box w' b x := h.ke k.ke
theorem Box.new (w : World) (s t : Int) (x : ByteArray) (n : Int) : Box (w.alloc (.cells #[.int .i64 s, .int .i64 t, .string x, .int .i64 n] 66)) w.heap.size ⟨s, t, x, n⟩ := by
  show (w.heap.push _)[w.heap.size]? = _
  simp
theorem ord_any (x y : TV) (w : World) : Calls Try.prog 40 #[x.val, y.val] w fun e w' => e = .returned (.bool (ordP x y)) ∧ Bl w w' := by
  have HLX := let_any x
  have HLY := let_any y
  have HNX := num_any x
  have HNY := num_any y
  have HO : Hid (∀ a b c d e f, x.let = a → y.let = b → x.num = c → y.num = d → (x.s == y.s) = e → (x.t == y.t) = f → ordP x y = ((a && b) || (c && d && e && f))) := Lib.hid (fun a b c d e f h1 h2 h3 h4 h5 h6 => by unfold ordP; rw [h1, h2, h3, h4, h5, h6])
  obtain ⟨r, hr⟩ : ∃ r, ordP x y = r := ⟨_, rfl⟩
  rw [hr] at HO
  rw [hr]
  obtain ⟨a, ha⟩ : ∃ a, x.let = a := ⟨_, rfl⟩
  obtain ⟨b, hb⟩ : ∃ a, y.let = a := ⟨_, rfl⟩
  obtain ⟨c, hc⟩ : ∃ a, x.num = a := ⟨_, rfl⟩
  obtain ⟨d, hd⟩ : ∃ a, y.num = a := ⟨_, rfl⟩
  rw [ha] at HLX
  rw [hb] at HLY
  rw [hc] at HNX
  rw [hd] at HNY
  have HQ := Lib.hid (fun e f => HO.out a b c d e f ha hb hc hd)
  clear ha hb hc hd HO hr
  obtain ⟨s, t, x, n⟩ := x
  obtain ⟨s2, t2, x2, n2⟩ := y
  unfold TV.val at *
  simp only at HQ
  have X := (Box.new w s t x n).on ((Below.refl _ _).alloc (Nat.le_refl _) (.cells #[.int .i64 s2, .int .i64 t2, .string x2, .int .i64 n2] 66))
  have Y := Box.new (w.alloc (.cells #[.int .i64 s, .int .i64 t, .string x, .int .i64 n] 66)) s2 t2 x2 n2
  simp only [World.size_alloc] at Y
  cases a <;> cases b <;> cases c <;> cases d <;> cases h5 : (s == s2) <;> cases h6 : (t == t2)
  all_goals
    have hr := HQ.out _ _ h5 h6
    simp only [Bool.and_true, Bool.and_false, Bool.true_and, Bool.false_and, Bool.or_true, Bool.or_false, Bool.true_or, Bool.false_or] at hr
    subst hr
    clear HQ
    go_enter Try.func40, Try.ntmps40
    go_wp2_with fail
    refine (HLX _).mono ?_
    rintro e w1 ⟨rfl, k1⟩
    have X := X.on k1
    have Y := Y.on k1
    have xx0 := X.c0
    have xx1 := X.c1
    have xx2 := X.c2
    have xx3 := X.c3
    have yy0 := Y.c0
    have yy1 := Y.c1
    have yy2 := Y.c2
    have yy3 := Y.c3
    go_wp2_with fail
    try
      refine (HLY _).mono ?_
      rintro e w2 ⟨rfl, k2⟩
      have X := X.on k2
      have Y := Y.on k2
      have xx0 := X.c0
      have xx1 := X.c1
      have xx2 := X.c2
      have xx3 := X.c3
      have yy0 := Y.c0
      have yy1 := Y.c1
      have yy2 := Y.c2
      have yy3 := Y.c3
      go_wp2_with fail
    try
      refine (HNX _).mono ?_
      rintro e w3 ⟨rfl, k3⟩
      have X := X.on k3
      have Y := Y.on k3
      have xx0 := X.c0
      have xx1 := X.c1
      have xx2 := X.c2
      have xx3 := X.c3
      have yy0 := Y.c0
      have yy1 := Y.c1
      have yy2 := Y.c2
      have yy3 := Y.c3
      go_wp2_with fail
    try
      refine (HNY _).mono ?_
      rintro e w4 ⟨rfl, k4⟩
      have X := X.on k4
      have Y := Y.on k4
      have xx0 := X.c0
      have xx1 := X.c1
      have xx2 := X.c2
      have xx3 := X.c3
      have yy0 := Y.c0
      have yy1 := Y.c1
      have yy2 := Y.c2
      have yy3 := Y.c3
      go_wp2_with fail
    go_ret
    refine ⟨rfl, ?_⟩
    (repeat (refine Bl.on ?_ (by assumption)))
    repeat (first | exact Below.refl _ _ | assumption | refine Below.alloc ?_ (by simp <;> omega) _ | refine Below.setCell ?_ (by simp <;> omega) _)
end Go.Proofs.Ytpnohljhpoildaa
