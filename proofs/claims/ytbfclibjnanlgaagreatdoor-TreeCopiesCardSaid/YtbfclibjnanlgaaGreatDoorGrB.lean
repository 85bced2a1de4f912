/- Several texts in one. -/
import Derived.Test.YtbfclibjnanlgaaGreatDoorTrN
import Derived.Test.YtbfclibjnanlgaaGreatDoorTrV
import Derived.Test.YtbfclibjnanlgaaGreatDoorPpC
import Derived.Deep.LoopGhost
import Derived.Deep.RegionHeld3
import Derived.BigQuiet
import Derived.IntWalk
/- A tree out of pieces, walked. -/
namespace Go.Proofs.YtbfclibjnanlgaaGreatDoor
open Go.RowKit
set_option maxHeartbeats 4000000
set_option maxRecDepth 100000
set_option linter.unusedVariables false
set_option linter.unusedSimpArgs false

/-- A piece. -/
structure PC where
  k : Nat
  l : Nat
  c : Nat
  x : List UInt8
  n : Int
  m : Nat
structure OkC (p : PC) : Prop where
  k : p.k ≤ 255
  l : p.l ≤ 255
  c : p.c ≤ 255
  n0 : -9223372036854775808 ≤ p.n
  n1 : p.n ≤ 9223372036854775807
  m : p.m ≤ 255
  x : p.x.length ≤ 281474976710656
/-- A piece that lies at a place of a block. -/
structure PcAt (w : World) (g o : Nat) (p : PC) : Prop where
  c0 : w.cell? ⟨g, o, none⟩ = some (.int .u8 p.k)
  c1 : w.cell? ⟨g, o + 1, none⟩ = some (.int .u8 p.l)
  c2 : w.cell? ⟨g, o + 2, none⟩ = some (.int .u8 p.c)
  c3 : w.cell? ⟨g, o + 3, none⟩ = some (.string ⟨p.x.toArray⟩)
  c4 : w.cell? ⟨g, o + 4, none⟩ = some (.int .i64 p.n)
  c5 : w.cell? ⟨g, o + 5, none⟩ = some (.int .u8 p.m)
theorem PcAt.below {w w' : World} {g o : Nat} {p : PC} (h : PcAt w g o p) (hb : Below w.heap.size w w') : PcAt w' g o p := by
  have hg : g < w.heap.size := Lib.lt_of_cell h.c0
  have hk : ∀ i, w'.cell? ⟨g, i, none⟩ = w.cell? ⟨g, i, none⟩ := fun i => hb.cell (p := ⟨g, i, none⟩) hg
  exact ⟨(hk _).trans h.c0, (hk _).trans h.c1, (hk _).trans h.c2, (hk _).trans h.c3, (hk _).trans h.c4, (hk _).trans h.c5⟩
/-- A list of pieces. -/
def PcL (w : World) (v : Value) (ps : List PC) : Prop := ∃ q cap, v = .slice q ps.length cap ∧ ps.length ≤ cap ∧ cap ≤ 9223372036854775807 ∧ ∀ i p, ps[i]? = some p → ∃ g o, q = some ⟨g, o, none⟩ ∧ PcAt w g (o + i * 6) p
theorem PcL.below {w w' : World} {v : Value} {ps : List PC} (h : PcL w v ps) (hb : Below w.heap.size w w') : PcL w' v ps := by
  obtain ⟨q, cap, h1, h2, h3, h4⟩ := h
  refine ⟨q, cap, h1, h2, h3, fun i p hi => ?_⟩
  obtain ⟨g, o, h5, h6⟩ := h4 i p hi
  exact ⟨g, o, h5, h6.below hb⟩
mutual
/-- What is so of every node of a tree. -/
def AllD (Q : ND → Prop) : Tr → Prop
  | .node _ d ks => Q d ∧ AllDL Q ks
def AllDL (Q : ND → Prop) : List Tr → Prop
  | [] => True
  | t :: r => AllD Q t ∧ AllDL Q r
end
theorem allDL_app {Q : ND → Prop} (a b : List Tr) : AllDL Q (a ++ b) ↔ AllDL Q a ∧ AllDL Q b := by
  induction a with
  | nil => simp [AllDL]
  | cons t r ih => simp only [List.cons_append, AllDL, ih, and_assoc]
def ndP (p : PC) : ND := ⟨p.k, p.l, p.c, p.x, p.n⟩
def FromP (ps : List PC) (d : ND) : Prop := ∃ p ∈ ps, d = ndP p
mutual
theorem AllD.mono {Q R : ND → Prop} (h : ∀ d, Q d → R d) : ∀ {t : Tr}, AllD Q t → AllD R t
  | .node _ d ks, ht => ⟨h d ht.1, AllDL.mono h ht.2⟩
theorem AllDL.mono {Q R : ND → Prop} (h : ∀ d, Q d → R d) : ∀ {l : List Tr}, AllDL Q l → AllDL R l
  | [], _ => trivial
  | t :: r, ht => ⟨AllD.mono h ht.1, AllDL.mono h ht.2⟩
end
/-- The kids of a node, so far. -/
structure KI (w : World) (pn : Nat) (d : ND) (wr : World) (v : Value) (ts : List Tr) : Prop where
  b : Below w.heap.size w wr
  n : wr.heap[pn]? = some (nodeO d v)
  r : Row wr (w.heap.size ≤ ·) v (ts.map Tr.p)
  k : IsTL wr (fun j => w.heap.size ≤ j ∧ j ≠ pn ∧ j ∉ obL v) ts
  nd : (nodesL ts).Nodup
  p : w.heap.size ≤ pn
theorem KI.fa {w : World} {pn : Nat} {d : ND} {wr w' : World} {v : Value} {ts : List Tr} (h : KI w pn d wr v ts) (hB : Below wr.heap.size wr w') : KI w pn d w' v ts :=
  ⟨h.b.trans (hB.mono h.b.size), (hB.block pn (lt_heap h.n)).trans h.n, h.r.keep (fun _ h _ => h) (fun j _ hl => hB.block j hl), h.k.keep (fun _ h _ => h) (fun j _ hl => hB.block j hl), h.nd, h.p⟩
theorem KI.on {w : World} {pn : Nat} {d : ND} {w4 w5 w6 : World} {v : Value} {ts : List Tr} (h : KI w pn d w4 v ts) (hB : Below w4.heap.size w4 w5)
    (t : Tr) (ht : IsT w5 (w4.heap.size ≤ ·) t) (hn : t.nodes.Nodup) (c : Obj) (g cap : Nat)
    (hown : w6.ownsRow 0 25 1 (.slice (some ⟨g, 0, none⟩) (ts.length + 1) cap) (ts.length + 1) ((ts.map Tr.p).map ptrV ++ [ptrV t.p])) (hgrow : (w5.alloc c).grownBy w6 v.ownBlock) (hat : v.ownBlock = some g ∨ g = w5.heap.size + 1) :
    KI w pn d (w6.setCell ⟨pn, 4, none⟩ (.slice (some ⟨g, 0, none⟩) (ts.length + 1) cap)) (.slice (some ⟨g, 0, none⟩) (ts.length + 1) cap) (ts ++ [t]) := by
  have h5 := h.fa hB
  have F1 := Fr.alloc w5 c
  have F2 := Fr.of_grown hgrow
  have F12 : Fr (obL v) w5 w6 := (F1.mono (by simp)).trans F2 (fun j hj => .inl hj)
  have F3 := Fr.set w6 pn 4 (.slice (some ⟨g, 0, none⟩) (ts.length + 1) cap)
  have hpv := row_node h5.r h5.n
  have n3 : w6.heap[pn]? = some (nodeO d v) := (F12.block pn (lt_heap h5.n) hpv).trans h5.n
  have hvold : ∀ j ∈ obL v, w.heap.size ≤ j ∧ j < w4.heap.size := fun j hj => h.r.base j hj
  have hs45 := hB.size
  have hgw : w.heap.size ≤ g ∧ (g ∈ obL v ∨ w5.heap.size ≤ g) := by
    rcases hat with h1 | h1
    · have := (mem_ob v g).2 h1
      exact ⟨(hvold g this).1, .inl this⟩
    · have := h.b.size
      exact ⟨by omega, .inr (by omega)⟩
  have hR3 : Row w6 (w.heap.size ≤ ·) (.slice (some ⟨g, 0, none⟩) (ts.length + 1) cap) ((ts ++ [t]).map Tr.p) := by
    refine ⟨?_, fun k hk => ?_⟩
    · have e1 : ((ts ++ [t]).map Tr.p).length = ts.length + 1 := by simp
      have e2 : ((ts ++ [t]).map Tr.p).map ptrV = (ts.map Tr.p).map ptrV ++ [ptrV t.p] := by simp
      rw [e1, e2]
      exact hown
    · obtain rfl : g = k := by simpa [Value.ownBlock] using hk
      exact hgw.1
  have hpg : pn ∉ obL (.slice (some ⟨g, 0, none⟩) (ts.length + 1) cap) := row_node hR3 n3
  have hob : ∀ j, j ∈ obL (.slice (some ⟨g, 0, none⟩) (ts.length + 1) cap) → j = g := fun j hj => by simpa [obL, Value.ownBlock] using hj
  have F123 : Fr (pn :: obL v) w5 (w6.setCell ⟨pn, 4, none⟩ (.slice (some ⟨g, 0, none⟩) (ts.length + 1) cap)) := (F12.mono (fun j hj => List.mem_cons_of_mem _ hj)).trans F3 (fun j hj => .inl (by
    obtain rfl : j = pn := by simpa using hj
    exact List.mem_cons_self))
  have hNfar : ∀ j ∈ pn :: obL v, w.heap.size ≤ j := fun j hj => by
    rcases List.mem_cons.1 hj with rfl | hj
    · exact h.p
    · exact (hvold j hj).1
  have hpn4 : pn < w4.heap.size := lt_heap h.n
  refine ⟨h5.b.trans (F123.below w.heap.size hNfar h5.b.size), by simp [World.setCell, Array.getElem?_modify, n3, nodeO], hR3.frame F3 (fun j hj hm => ?_), ?_, ?_, h.p⟩
  · obtain rfl : j = pn := by simpa using hm
    exact hpg hj
  · refine IsTL.of fun u hu => ?_
    rcases List.mem_append.1 hu with hu | hu
    · have q1 : ∀ j, (w.heap.size ≤ j ∧ j ≠ pn ∧ j ∉ obL v) → j < w5.heap.size → (w.heap.size ≤ j ∧ j ≠ pn ∧ j ∉ obL (.slice (some ⟨g, 0, none⟩) (ts.length + 1) cap)) := fun j hj hl => ⟨hj.1, hj.2.1, fun hm => by
        have e := hob j hm
        subst e
        rcases hgw.2 with h1 | h1
        · exact hj.2.2 h1
        · omega⟩
      have q2 : ∀ j, (w.heap.size ≤ j ∧ j ≠ pn ∧ j ∉ obL v) → j < w5.heap.size → (w6.setCell ⟨pn, 4, none⟩ (.slice (some ⟨g, 0, none⟩) (ts.length + 1) cap)).heap[j]? = w5.heap[j]? := fun j hj hl => F123.block j hl (fun hm => by
        rcases List.mem_cons.1 hm with e | hm
        · exact hj.2.1 e
        · exact hj.2.2 hm)
      exact (h5.k.at u hu).keep q1 q2
    · obtain rfl : u = t := by simpa using hu
      have q1 : ∀ j, w4.heap.size ≤ j → j < w5.heap.size → (w.heap.size ≤ j ∧ j ≠ pn ∧ j ∉ obL (.slice (some ⟨g, 0, none⟩) (ts.length + 1) cap)) := fun j hj hl => ⟨Nat.le_trans h.b.size hj, by omega, fun hm => by
        have e := hob j hm
        subst e
        rcases hgw.2 with h1 | h1
        · have := (hvold j h1).2; omega
        · omega⟩
      have q2 : ∀ j, w4.heap.size ≤ j → j < w5.heap.size → (w6.setCell ⟨pn, 4, none⟩ (.slice (some ⟨g, 0, none⟩) (ts.length + 1) cap)).heap[j]? = w5.heap[j]? := fun j hj hl => F123.block j hl (fun hm => by
        rcases List.mem_cons.1 hm with e | hm
        · omega
        · have := (hvold j hm).2; omega)
      exact ht.keep q1 q2
  · rw [nodesL_app]
    simp only [nodesL, List.append_nil]
    rw [List.nodup_append]
    refine ⟨h.nd, hn, fun x hx1 y hy e => ?_⟩
    have h1 := (IsTL.lt h.k x hx1).1
    have h2 := (IsT.lt ht y hy).2
    omega
end Go.Proofs.YtbfclibjnanlgaaGreatDoor
/- Grow, walked. -/
namespace Go.Proofs.YtbfclibjnanlgaaGreatDoor
open Go.RowKit
set_option maxHeartbeats 4000000
set_option maxRecDepth 100000
set_option linter.unusedVariables false
set_option linter.unusedSimpArgs false

def GrP (ps : List PC) (deep : Nat) (w : World) (e : Ending) (w' : World) : Prop :=
  ∃ (o : Option Tr) (n : Nat), e = .returned (.tuple #[encP (o.map Tr.p), .int .i64 n]) ∧ Below w.heap.size w w' ∧ n ≤ ps.length ∧ ∀ t, o = some t → IsT w' (w.heap.size ≤ ·) t ∧ t.nodes.Nodup ∧ t.cnt = n ∧ t.deep ≤ deep ∧ AllD (FromP ps) t
theorem PcL.drop {w : World} {q : Option Addr} {g o cap a : Nat} {ps : List PC} (h : ∀ i p, ps[i]? = some p → ∃ g o, q = some ⟨g, o, none⟩ ∧ PcAt w g (o + i * 6) p) (hq : q = some ⟨g, o, none⟩) (hc : ps.length ≤ cap) (hc2 : cap ≤ 9223372036854775807) :
    PcL w (.slice (some ⟨g, o + a * 6, none⟩) (ps.length - a) (cap - a)) (ps.drop a) := by
  refine ⟨_, cap - a, by rw [List.length_drop], by rw [List.length_drop]; omega, by omega, fun i p hi => ?_⟩
  rw [List.getElem?_drop] at hi
  obtain ⟨g', o', e, h1⟩ := h (a + i) p hi
  rw [hq] at e
  injection e with e
  injection e with e1 e2
  subst e1; subst e2
  exact ⟨g, o + a * 6, rfl, by rw [show o + a * 6 + i * 6 = o + (a + i) * 6 by omega]; exact h1⟩
theorem grow_nil (deep : Nat) (q : Option Addr) (cap : Nat) (w : World) : Calls Tryz.prog 6 #[.slice q 0 cap, .int .i64 deep] w fun e w' => GrP [] deep w e w' := by
  go_enter Tryz.func6, Tryz.ntmps6
  go_wp2_with fail
  go_ret2
  exact ⟨none, 0, rfl, Below.refl _ _, Nat.le_refl _, fun t ht => by cases ht⟩
theorem grow_zero (ps : List PC) (q : Option Addr) (n cap : Nat) (w : World) : Calls Tryz.prog 6 #[.slice q n cap, .int .i64 0] w fun e w' => GrP ps 0 w e w' := by
  go_enter Tryz.func6, Tryz.ntmps6
  cases hn : ((n : Int) == 0) <;>
  (go_wp2_with fail
   go_ret2
   exact ⟨none, 0, rfl, Below.refl _ _, Nat.zero_le _, fun t ht => by cases ht⟩)
theorem KI.done {w wr : World} {pn : Nat} {d : ND} {v : Value} {ts : List Tr} (h : KI w pn d wr v ts) : IsT wr (w.heap.size ≤ ·) (.node pn d ts) ∧ (Tr.node pn d ts).nodes.Nodup :=
  ⟨⟨h.p, ⟨v, h.n, h.r⟩, h.k.keep (fun j hj _ => hj.1) (fun _ _ _ => rfl)⟩, by
    simp only [Tr.nodes, List.nodup_cons]
    exact ⟨fun hm => (IsTL.lt h.k pn hm).2.2.1 rfl, h.nd⟩⟩
theorem Grow_any : ∀ (deep : Nat) (ps : List PC) (v : Value) (w : World), PcL w v ps → (∀ p ∈ ps, OkC p) → ps.length ≤ 1048576 → deep ≤ 1000 → Calls Tryz.prog 6 #[v, .int .i64 deep] w fun e w' => GrP ps deep w e w'
  | 0, ps, v, w, hp, _, _, _ => by
    obtain ⟨q, cap, rfl, _⟩ := hp
    exact grow_zero ps q ps.length cap w
  | deep + 1, [], v, w, hp, _, _, _ => by
    obtain ⟨q, cap, rfl, _⟩ := hp
    exact grow_nil (deep + 1) q cap w
  | deep + 1, p :: r, v, w, hp, hok, hl, hdp => by
    obtain ⟨q, cap, hv, hc, hc2, hcell⟩ := hp
    have HIH := Lib.hid (Grow_any deep)
    obtain ⟨g, o, hq, h0⟩ := hcell 0 p rfl
    rw [Nat.zero_mul, Nat.add_zero] at h0
    obtain ⟨ps, hps⟩ : ∃ ps, p :: r = ps := ⟨_, rfl⟩
    rw [hps] at hc hcell hok hl hv ⊢
    have hpm : p ∈ ps := by rw [← hps]; exact List.mem_cons_self
    have hL1 : 1 ≤ ps.length := by rw [← hps]; simp
    subst hq
    subst hv
    obtain ⟨i0, hi, hz0, hz1, hz2⟩ := info_parts infoP
    obtain ⟨k0, k1, k2, k3, k4, k5⟩ := h0
    have ok := hok p hpm
    obtain ⟨L, hL⟩ : ∃ L, ps.length = L := ⟨_, rfl⟩
    have HO := Of_any (p.l : Int) (p.c : Int) (by omega) (by have := ok.l; omega) (by omega) (by have := ok.c; omega)
    obtain ⟨px, py, hpx⟩ := posV_cx (p.l : Int) (p.c : Int)
    rw [hpx] at HO
    have wl : IntKind.i64.wrap (p.l : Int) = (p.l : Int) := wrap_i64 _ (by omega) (by have := ok.l; omega)
    have wc : IntKind.i64.wrap (p.c : Int) = (p.c : Int) := wrap_i64 _ (by omega) (by have := ok.c; omega)
    have HPX := Lib.hid hpx
    have HC := Lib.hid (And.intro hcell (And.intro hc (And.intro hc2 (And.intro hok hpm))))
    have hLb : L ≤ 1048576 := by omega
    have hL1' : 1 ≤ L := by omega
    have hL0 : ((L : Int) == 0) = false := beq_eq_false_iff_ne.2 (by omega)
    have hLg : (0 : Int) < (L : Int) := by omega
    have hd0 : (((deep + 1 : Nat) : Int) == 0) = false := beq_eq_false_iff_ne.2 (by omega)
    have hd1 : IntKind.i64.wrap (((deep + 1 : Nat) : Int) - 1) = (deep : Int) := by rw [show ((deep + 1 : Nat) : Int) - 1 = (deep : Int) by omega]; exact wrap_i64 _ (by omega) (by omega)
    rw [hL]
    have HLL := Lib.hid (And.intro hL hps)
    obtain ⟨wA, hwA⟩ : ∃ wA, w.alloc (.cells #[.int .u8 p.k, .int .u8 p.l, .int .u8 p.c, .string ⟨p.x.toArray⟩, .int .i64 p.n, .int .u8 p.m] 33) = wA := ⟨_, rfl⟩
    have hpA : wA.heap[w.heap.size]? = some (.cells #[.int .u8 p.k, .int .u8 p.l, .int .u8 p.c, .string ⟨p.x.toArray⟩, .int .i64 p.n, .int .u8 p.m] 33 (0, 0)) := by rw [← hwA]; exact heap_alloc_new _ _
    have hsA : wA.heap.size = w.heap.size + 1 := by rw [← hwA]; simp
    have hBA : Below w.heap.size w wA := by rw [← hwA]; exact below_new _ _
    have a0 : wA.cell? ⟨w.heap.size, 0, none⟩ = some (.int .u8 p.k) := by rw [Lib.cell_of_heap hpA]; rfl
    have a1 : wA.cell? ⟨w.heap.size, 1, none⟩ = some (.int .u8 p.l) := by rw [Lib.cell_of_heap hpA]; rfl
    have a2 : wA.cell? ⟨w.heap.size, 2, none⟩ = some (.int .u8 p.c) := by rw [Lib.cell_of_heap hpA]; rfl
    have a3 : wA.cell? ⟨w.heap.size, 3, none⟩ = some (.string ⟨p.x.toArray⟩) := by rw [Lib.cell_of_heap hpA]; rfl
    have a4 : wA.cell? ⟨w.heap.size, 4, none⟩ = some (.int .i64 p.n) := by rw [Lib.cell_of_heap hpA]; rfl
    have HPA := Lib.hid (And.intro hpA (And.intro hsA hBA))
    have hm5 : p.m % 5 < 5 := Nat.mod_lt _ (by decide)
    have hrem : (p.m : Int).tmod 5 = ((p.m % 5 : Nat) : Int) := by rw [Int.tmod_eq_emod_of_nonneg (by omega)]; omega
    have wm : IntKind.i64.wrap ((p.m % 5 : Nat) : Int) = ((p.m % 5 : Nat) : Int) := wrap_i64 _ (by omega) (by omega)
    have wm8 : IntKind.u8.wrap ((p.m % 5 : Nat) : Int) = ((p.m % 5 : Nat) : Int) := IntWalk.u8_in _ ⟨by omega, by omega⟩
    have HND : Hid (∀ v, nodeO (ndP p) v = .cells #[.int .u8 p.k, .complex .f64 px py, .string ⟨p.x.toArray⟩, .int .i64 p.n, v] 44 (0, 0)) := Lib.hid (fun v => by unfold nodeO ndP; rw [hpx])
    clear hcell hc hc2 hok hpm hl hL hps hpx hpA hsA hBA
    generalize ((deep + 1 : Nat) : Int) = di at *
    generalize p.m % 5 = mk at *
    generalize (p.k : Int) = pk at *
    generalize (p.l : Int) = pl at *
    generalize (p.c : Int) = pc at *
    generalize (p.m : Int) = pm at *
    generalize p.n = pnn at *
    generalize (⟨p.x.toArray⟩ : ByteArray) = pxb at *
    go_enter Tryz.func6, Tryz.ntmps6
    go_wp2_with fail
    go_region_held3 (fun w' => w'.cell? ⟨w.heap.size, 0, none⟩ = some (.int .u8 pk) ∧ w'.cell? ⟨w.heap.size, 1, none⟩ = some (.int .u8 pl) ∧ w'.cell? ⟨w.heap.size, 2, none⟩ = some (.int .u8 pc) ∧ w'.cell? ⟨w.heap.size, 3, none⟩ = some (.string pxb) ∧ w'.cell? ⟨w.heap.size, 4, none⟩ = some (.int .i64 pnn))
      (first | assumption | (exact ⟨a0, a1, a2, a3, a4⟩) | go_keep)
      (first | (go_at_call 12; refine (HO _).mono ?_; rintro e w9 ⟨rfl, rfl⟩))
    have hWn : ((wA.alloc (.cells #[.int .u8 pk, .complex .f64 px py, .string pxb, .int .i64 pnn, .slice none 0 0] 44)).drew).heap[wA.heap.size]? = some (nodeO (ndP p) (.slice none 0 0)) := by
      rw [HND.out]
      exact heap_alloc_new wA _
    have hBW : Below w.heap.size w ((wA.alloc (.cells #[.int .u8 pk, .complex .f64 px py, .string pxb, .int .i64 pnn, .slice none 0 0] 44)).drew) := HPA.out.2.2.trans (((below_new wA _).drew).mono HPA.out.2.2.size)
    have hpW : ((wA.alloc (.cells #[.int .u8 pk, .complex .f64 px py, .string pxb, .int .i64 pnn, .slice none 0 0] 44)).drew).heap[w.heap.size]? = wA.heap[w.heap.size]? := (below_new wA _).drew.block _ (by have := HPA.out.2.1; omega)
    have HKI : Hid (KI w wA.heap.size (ndP p) ((wA.alloc (.cells #[.int .u8 pk, .complex .f64 px py, .string pxb, .int .i64 pnn, .slice none 0 0] 44)).drew) (.slice none 0 0) []) :=
      Lib.hid ⟨hBW, hWn, ⟨World.ownsRow_nil _ _ _ _, fun g hg => (by cases hg)⟩, trivial, by simp [nodesL], by have := HPA.out.2.1; omega⟩
    have HPW := Lib.hid (hpW.trans HPA.out.1)
    have hne : w.heap.size ≠ wA.heap.size := by have := HPA.out.2.1; omega
    have HNE := Lib.hid hne
    clear a0 a1 a2 a3 a4 hWn hBW hpW HO hwA hne
    generalize hWZ : (wA.alloc (.cells #[.int .u8 pk, .complex .f64 px py, .string pxb, .int .i64 pnn, .slice none 0 0] 44)).drew = wZ at *
    clear hWZ
    generalize wA.heap.size = pn at *
    clear HPA
    go_wp2_with fail
    go_loopw [8, 9] (fun at8 i wr => ∃ (j a : Nat) (v : Value) (ts : List Tr), j ≤ mk ∧ i = .int .i64 j ∧ at8 = .int .i64 a ∧ a = 1 + cntL ts ∧ a ≤ L ∧ deepL ts ≤ deep ∧ AllDL (FromP ps) ts ∧ KI w pn (ndP p) wr v ts ∧ wr.heap[w.heap.size]? = some (.cells #[.int .u8 pk, .int .u8 pl, .int .u8 pc, .string pxb, .int .i64 pnn, .int .u8 pm] 33 (0, 0)) ∧ ts.length ≤ j) (fun _ i _ => mk - (intOf i).toNat)
    case atStart => exact ⟨0, 1, _, [], Nat.zero_le _, rfl, rfl, by simp [cntL], hL1', by simp [deepL], trivial, HKI.out, HPW.out, Nat.le_refl _⟩
    case round =>
      obtain ⟨j, a, v, ts, hj, rfl, rfl, ha, haL, hdl, hall, ki, hP, htl⟩ := hrel
      have c5 : wr.cell? ⟨w.heap.size, 5, none⟩ = some (.int .u8 pm) := by rw [Lib.cell_of_heap hP]; rfl
      have HK := Lib.hid (And.intro ki (And.intro hP (And.intro hall (And.intro hdl ha))))
      clear ki hP hall hdl ha
      by_cases hjm : j < mk
      · obtain ⟨q1, q2, q3, q4, q5⟩ := HC.out
        have Bwr := HK.out.1.b
        have hpd := PcL.drop (w := wr) (a := a) (ps := ps) (cap := cap) (q := some ⟨g, o, none⟩) (g := g) (o := o) (fun i p' hi => by
          obtain ⟨g', o', e', h'⟩ := q1 i p' hi
          exact ⟨g', o', e', h'.below Bwr⟩) rfl q2 q3
        have HG := HIH.out (ps.drop a) _ wr hpd (fun p' hp' => q4 p' (List.mem_of_mem_drop hp')) (by rw [List.length_drop]; have := HLL.out.1; omega) (by omega)
        rw [HLL.out.1] at HG
        have ha0 : (0 : Int) ≤ (a : Int) := by omega
        have ha1 : (a : Int) ≤ (L : Int) := by omega
        have hcp : (L : Int) ≤ (cap : Int) := by have := HLL.out.1; omega
        have hLc : L ≤ cap := by have := HLL.out.1; omega
        have HG0 := HIH.out [] (.slice (some ⟨g, o, none⟩) 0 0) wr ⟨_, 0, rfl, Nat.le_refl _, Nat.zero_le _, fun i p' hi => by simp at hi⟩ (fun p' hp' => by cases hp') (Nat.zero_le _) (by omega)
        clear q1 q2 q3 q4 q5 Bwr hpd
        by_cases hac : cap = a
        · have hLa : L = a := by omega
          have hLa0 : L - a = 0 := by omega
          have hca0 : cap - a = 0 := by omega
          clear HG
          go_wp2_with fail
          refine HG0.mono ?_
          rintro e w5 ⟨o5, n5, rfl, B5, hn5, ht5⟩
          clear HG0
          cases o5 with
          | some t =>
            have h1 := (ht5 t rfl).2.2.1
            have h2 := cnt_pos t
            simp at hn5
            omega
          | none =>
            have HF := Lib.hid (And.intro (HK.out.1.fa B5) (And.intro HK.out.2.2.1 (And.intro HK.out.2.2.2.1 HK.out.2.2.2.2)))
            clear ht5 B5
            simp only [Option.map, encP]
            go_wp2_with fail
            go_ret2
            obtain ⟨r1, r2, r3, r4⟩ := HF.out
            obtain ⟨d1, d2⟩ := r1.done
            refine ⟨some (.node pn (ndP p) ts), a, rfl, r1.b, by rw [HLL.out.1]; exact haL, fun t ht => ?_⟩
            obtain rfl := Option.some.inj ht
            exact ⟨d1, d2, by rw [Tr.cnt]; exact r4.symm, by rw [Tr.deep]; omega, ⟨p, HC.out.2.2.2.2, rfl⟩, r2⟩
        clear HG0
        have hac2 : ¬ (a = cap) := fun e => hac e.symm
        have hac3 : ¬ (cap - a = 0) := by omega
        go_wp2_with fail
        refine HG.mono ?_
        rintro e w5 ⟨o5, n5, rfl, B5, hn5, ht5⟩
        clear HG hac hac2 hac3
        rw [List.length_drop, HLL.out.1] at hn5
        cases o5 with
        | none =>
          have HF := Lib.hid (And.intro (HK.out.1.fa B5) (And.intro HK.out.2.2.1 (And.intro HK.out.2.2.2.1 HK.out.2.2.2.2)))
          clear ht5 B5
          simp only [Option.map, encP]
          go_wp2_with fail
          go_ret2
          obtain ⟨r1, r2, r3, r4⟩ := HF.out
          obtain ⟨d1, d2⟩ := r1.done
          refine ⟨some (.node pn (ndP p) ts), a, rfl, r1.b, by rw [HLL.out.1]; exact haL, fun t ht => ?_⟩
          obtain rfl := Option.some.inj ht
          exact ⟨d1, d2, by rw [Tr.cnt]; exact r4.symm, by rw [Tr.deep]; omega, ⟨p, HC.out.2.2.2.2, rfl⟩, r2⟩
        | some t =>
          obtain ⟨t1, t2, t3, t4, t5⟩ := ht5 t rfl
          have K5 := HK.out.1.fa B5
          have nn : NodeAt w5 pn (ndP p) v := ⟨K5.n⟩
          have c4 := nn.c4
          have f4 := nn.f 4
          have hsr := K5.r.1.alloc (.cells #[ptrV t.p] 25)
          rw [List.length_map] at hsr
          have HN6 := Lib.hid (fun (w6 : World) (F : Fr (obL v) w5 w6) => (⟨(F.block pn (lt_heap K5.n) (row_node K5.r K5.n)).trans K5.n⟩ : NodeAt w6 pn (ndP p) v))
          have HP6 := Lib.hid (fun (w6 : World) (F : Fr (obL v) w5 w6) => (F.block w.heap.size (Nat.lt_of_lt_of_le (lt_heap HK.out.2.1) B5.size) (fun hm => Lib.ownBlock_ne K5.r.1 ((B5.block _ (lt_heap HK.out.2.1)).trans HK.out.2.1) (by decide) ((mem_ob v _).1 hm))).trans ((B5.block _ (lt_heap HK.out.2.1)).trans HK.out.2.1))
          have HON := Lib.hid (fun (c : Obj) (gg cap' : Nat) (w6 : World) => HK.out.1.on (w6 := w6) B5 t t1 t2 c gg cap')
          have HN1 := Lib.hid (new1 w5 (ptrV t.p) 25)
          have HO1 := Lib.hid (one1 t.p)
          have HA5 := Lib.hid (And.intro t3 (And.intro t4 t5))
          have hts : ts.length ≤ 5 := by omega
          have han : IntKind.i64.wrap ((a : Int) + (n5 : Int)) = (a : Int) + (n5 : Int) := wrap_i64 _ (by omega) (by omega)
          clear t1 t2 t3 t4 t5 ht5 K5 nn B5
          simp only [Option.map, encP, ptrV] at hsr HN1 HO1 ⊢
          go_wp2_with (at_builtin; refine wpList_append_lies _ rfl _ _ 42 rfl 0 25 i0 _ 1 8 Tryz.underlying42 hi hz0 hz1 hz2 rfl (by decide) v ts.length _ rfl hsr ⟨w5.heap.size, 0, none⟩ 1 1 [.pointer (some ⟨t.p, 0, none⟩)] rfl rfl HN1.out HO1.out (by decide) (by unfold maxLen; omega) (by omega) (by simp <;> omega) (w5.heap.size + 1) (by simp) ?_)
          intro gl capl w6 hown hgrow hat hlt6
          have HST := Lib.hid (HON.out _ gl capl w6 (by simpa [ptrV, Function.comp_def] using hown) hgrow hat)
          have FF : Fr (obL v) w5 w6 := ((Fr.alloc w5 _).mono (by simp)).trans (Fr.of_grown hgrow) (fun j hj => .inl hj)
          have n6 := HN6.out w6 FF
          have P6 := HP6.out w6 FF
          have HP7 := Lib.hid (((Fr.set w6 pn 4 (.slice (some ⟨gl, 0, none⟩) (ts.length + 1) capl)).block w.heap.size (lt_heap P6) (by simp; exact HNE.out)).trans P6)
          have c6 := n6.c4
          have f6 := n6.f 4
          clear hown hgrow hat hsr n6 HN1 HO1 HON HN6 HP6 FF P6
          go_wp2_with fail
          go_roundw
          case measure => simp [intOf]; omega
          case rel =>
            obtain ⟨t3, t4, t5⟩ := HA5.out
            obtain ⟨_, _, k3, k4, k5⟩ := HK.out
            refine ⟨j + 1, a + n5, _, ts ++ [t], by omega, by simp, by simp, by rw [cntL_snoc]; omega, by omega, by rw [deepL_snoc]; omega, (allDL_app _ _).2 ⟨k3, t5.mono (fun d ⟨p', hp', e'⟩ => ⟨p', List.mem_of_mem_drop hp', e'⟩), trivial⟩, HST.out, HP7.out, by simp; omega⟩
      · obtain rfl : j = mk := by omega
        go_wp2_with fail
        go_ret2
        obtain ⟨r1, _, r2, r3, r4⟩ := HK.out
        obtain ⟨d1, d2⟩ := r1.done
        refine ⟨some (.node pn (ndP p) ts), a, rfl, r1.b, by rw [HLL.out.1]; exact haL, fun t ht => ?_⟩
        obtain rfl := Option.some.inj ht
        exact ⟨d1, d2, by rw [Tr.cnt]; exact r4.symm, by rw [Tr.deep]; omega, ⟨p, HC.out.2.2.2.2, rfl⟩, r2⟩
end Go.Proofs.YtbfclibjnanlgaaGreatDoor
/- heavy, walked. -/
namespace Go.Proofs.YtbfclibjnanlgaaGreatDoor
open Go.RowKit
set_option maxHeartbeats 4000000
set_option maxRecDepth 100000
set_option linter.unusedVariables false
set_option linter.unusedSimpArgs false

/-- The lengths of the names. -/
def sumX : List PC → Nat
  | [] => 0
  | p :: r => p.x.length + sumX r
theorem sumX_app (a b : List PC) : sumX (a ++ b) = sumX a + sumX b := by
  induction a with
  | nil => simp [sumX]
  | cons p r ih => simp only [List.cons_append, sumX, ih]; omega
theorem sumX_mem (l : List PC) (p : PC) (h : p ∈ l) : p.x.length ≤ sumX l := by
  induction l with
  | nil => cases h
  | cons q r ih =>
    rcases List.mem_cons.1 h with rfl | h
    · simp only [sumX]; omega
    · have := ih h; simp only [sumX]; omega
theorem sumX_le (l : List PC) (h : ∀ p ∈ l, OkC p) : sumX l ≤ l.length * 281474976710656 := by
  induction l with
  | nil => simp [sumX]
  | cons q r ih =>
    have h1 := ih (fun p hp => h p (List.mem_cons_of_mem _ hp))
    have h2 := (h q List.mem_cons_self).x
    simp only [sumX, List.length_cons, Nat.succ_mul]
    omega
def HvP (ps : List PC) (w : World) (e : Ending) (w' : World) : Prop := ∃ b, e = .returned (.bool b) ∧ Below w.heap.size w w' ∧ (b = false → ps.length ≤ 200 ∧ sumX ps ≤ 4096)
theorem heavy_any (ps : List PC) (v : Value) (w : World) (hp : PcL w v ps) (hok : ∀ p ∈ ps, OkC p) :
    Calls Tryz.prog 4 #[v] w fun e w' => HvP ps w e w' := by
  obtain ⟨q, cap, rfl, hc, hc2, hcell⟩ := hp
  obtain ⟨L, hL⟩ : ∃ L, ps.length = L := ⟨_, rfl⟩
  have HC := Lib.hid (And.intro hcell (And.intro hok hL))
  rw [hL]
  rw [hL] at hc
  clear hcell hok hL
  go_enter Tryz.func4, Tryz.ntmps4
  go_wp2_with fail
  go_loopw [3, 4] (fun n i wr => ∃ j s : Nat, j ≤ L ∧ j ≤ 500 ∧ i = .int .i64 j ∧ n = .int .i64 s ∧ s = sumX (ps.take j) ∧ Below w.heap.size w wr) (fun _ i _ => 500 - (intOf i).toNat)
  case atStart => exact ⟨0, 0, Nat.zero_le _, Nat.zero_le _, rfl, rfl, by simp [sumX], Below.refl _ _⟩
  case round =>
    obtain ⟨j, s, hj, hj5, rfl, rfl, hs, hB⟩ := hrel
    have hsb : s ≤ 500 * 281474976710656 := by
      have h1 := sumX_le (ps.take j) (fun p hp => HC.out.2.1 p (List.mem_of_mem_take hp))
      have h2 : (ps.take j).length ≤ 500 := by rw [List.length_take]; omega
      rw [hs]
      exact Nat.le_trans h1 (Nat.mul_le_mul_right _ h2)
    have HS := Lib.hid hs
    have HB := Lib.hid hB
    by_cases hjL : j < L
    · by_cases hj500 : j < 500
      · obtain ⟨p, hp⟩ : ∃ p, ps[j]? = some p := ⟨_, List.getElem?_eq_getElem (by have := HC.out.2.2; omega)⟩
        obtain ⟨g, o, rfl, hat⟩ := HC.out.1 j p hp
        have c3 := (hB.cell (Lib.lt_of_cell hat.c3)).trans hat.c3
        have hpx := (HC.out.2.1 p (List.mem_of_getElem? hp)).x
        have hsz : (⟨p.x.toArray⟩ : ByteArray).size = p.x.length := by simp [ByteArray.size]
        have hst : sumX (ps.take (j + 1)) = s + p.x.length := by
          rw [List.take_add_one, hp, sumX_app, ← hs]
          simp [sumX]
        have HST := Lib.hid hst
        have hww : IntKind.i64.wrap ((s : Int) + (p.x.length : Int)) = ((s + p.x.length : Nat) : Int) := by
          rw [wrap_i64 _ (by omega) (by omega)]; omega
        have hj0 : (0 : Int) ≤ (j : Int) := by omega
        have hj1 : (j : Int) < (L : Int) := by omega
        clear hs hB hst hp hat
        go_wp2_with fail
        go_roundw
        case rel => exact ⟨j + 1, s + p.x.length, by omega, by omega, by simp, by simp, HST.out.symm, HB.out⟩
        case measure => simp [intOf]; omega
      · have hL2 : (200 : Int) < (L : Int) := by omega
        clear hs hB
        go_wp2_with fail
        go_ret
        exact ⟨true, rfl, HB.out, fun h => by cases h⟩
    · obtain rfl : j = L := by omega
      clear hs hB
      by_cases h2 : (200 : Int) < (j : Int)
      · go_wp2_with fail
        go_ret
        exact ⟨true, rfl, HB.out, fun h => by cases h⟩
      · by_cases h4 : (4096 : Int) < (s : Int)
        · go_wp2_with fail
          go_ret
          exact ⟨true, rfl, HB.out, fun h => by cases h⟩
        · go_wp2_with fail
          go_ret
          refine ⟨false, rfl, HB.out, fun _ => ⟨by have := HC.out.2.2; omega, ?_⟩⟩
          have := HS.out
          rw [List.take_of_length_le (by have := HC.out.2.2; omega)] at this
          omega
end Go.Proofs.YtbfclibjnanlgaaGreatDoor
