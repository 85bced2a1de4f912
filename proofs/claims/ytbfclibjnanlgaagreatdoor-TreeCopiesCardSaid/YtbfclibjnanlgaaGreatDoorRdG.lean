/- Several texts in one. -/
import Derived.Test.YtbfclibjnanlgaaGreatDoorRdD
import Derived.Deep.LoopGhost
/- tree.Read's closure, walked. -/
namespace Go.Proofs.YtbfclibjnanlgaaGreatDoor
open Go.RowKit
set_option maxHeartbeats 4000000
set_option maxRecDepth 100000
set_option linter.unusedVariables false
set_option linter.unusedSimpArgs false

/-- What Read's closure holds: what is left, how many nodes there were, itself. -/
structure RX (w0 : World) (b m f : Nat) (s : List UInt8) (many : Nat) (w : World) : Prop where
  rc : RC w0 b s w
  mv : Var w m 3 (.int .i64 many)
  fv : Var w f 53 (.func (.func 25) #[] #[.pointer (some ⟨b, 0, none⟩), .pointer (some ⟨m, 0, none⟩), .pointer (some ⟨f, 0, none⟩)])
  lm : w0.heap.size ≤ m
  lf : w0.heap.size ≤ f
  ne : b ≠ m ∧ b ≠ f ∧ m ≠ f
theorem RX.lt {w0 w : World} {b m f : Nat} {s : List UInt8} {many : Nat} (h : RX w0 b m f s many w) : b < w.heap.size ∧ m < w.heap.size ∧ f < w.heap.size := ⟨lt_heap h.rc.rv, h.mv.lt, h.fv.lt⟩
theorem RX.take {w0 w w' : World} {b m f : Nat} {s r : List UInt8} {many : Nat} (h : RX w0 b m f s many w) (hr : RV b r w') (hF : Fr [b] w w') : RX w0 b m f r many w' :=
  ⟨h.rc.on hr hF, h.mv.keep hF (by simp; exact fun e => h.ne.1 e.symm), h.fv.keep hF (by simp; exact fun e => h.ne.2.1 e.symm), h.lm, h.lf, h.ne⟩
theorem RX.more {w0 w : World} {b m f : Nat} {s : List UInt8} {many k : Nat} (h : RX w0 b m f s many w) : RX w0 b m f s k (w.setCell ⟨m, 0, none⟩ (.int .i64 k)) := by
  have hF := Fr.set w m 0 (.int .i64 k)
  refine ⟨⟨h.rc.e, h.rc.lb, h.rc.bl.trans (hF.below _ (fun j hj => by
    obtain rfl : j = m := by simpa using hj
    exact h.lm) h.rc.bl.size), Var.keep h.rc.rv hF (by simp; exact h.ne.1)⟩, h.mv.set _, h.fv.keep hF (by simp; exact fun e => h.ne.2.2 e.symm), h.lm, h.lf, h.ne⟩
/-- Blocks of its own are changed alone. -/
theorem RX.far {w0 w w' : World} {b m f : Nat} {s : List UInt8} {many : Nat} {N : List Nat} (h : RX w0 b m f s many w) (hF : Fr N w w') (hN : ∀ j ∈ N, w0.heap.size ≤ j ∧ j ≠ b ∧ j ≠ m ∧ j ≠ f) : RX w0 b m f s many w' :=
  ⟨⟨h.rc.e, h.rc.lb, h.rc.bl.trans (hF.below _ (fun j hj => (hN j hj).1) h.rc.bl.size), Var.keep h.rc.rv hF (fun hm => (hN b hm).2.1 rfl)⟩, h.mv.keep hF (fun hm => (hN m hm).2.2.1 rfl), h.fv.keep hF (fun hm => (hN f hm).2.2.2 rfl), h.lm, h.lf, h.ne⟩
/-- What a call of the closure leaves. -/
def RdP (w0 : World) (b m f : Nat) (s : List UInt8) (o : Res DT) (w : World) (e : Ending) (w' : World) : Prop :=
  match o with
  | .err c => e = .returned (.tuple #[.pointer none, .int .i64 c]) ∧ Fr [b, m] w w' ∧ c ≠ 0
  | .ok t r k => ∃ tr : Tr, e = .returned (.tuple #[ptrV tr.p, .int .i64 0]) ∧ RX w0 b m f r k w' ∧ Fr [b, m] w w' ∧ IsT w' (w.heap.size ≤ ·) tr ∧ tr.dt = t ∧ tr.nodes.Nodup ∧ r.length ≤ s.length ∧ k ≤ 8192
def preK (l : List DT) : Res (List DT) → Res (List DT)
  | .err e => .err e
  | .ok ks r m => .ok (l ++ ks) r m
theorem preK_nil (o : Res (List DT)) : preK [] o = o := by cases o <;> rfl
theorem preK_app (a b : List DT) (o : Res (List DT)) : preK a (preK b o) = preK (a ++ b) o := by cases o <;> simp [preK]
/-- The kids of a node, so far. -/
structure LI (w0 : World) (b m f : Nat) (w : World) (pn : Nat) (d : ND) (wr : World) (s : List UInt8) (many : Nat) (v : Value) (ts : List Tr) : Prop where
  rx : RX w0 b m f s many wr
  fr : Fr [b, m] w wr
  n : wr.heap[pn]? = some (nodeO d v)
  r : Row wr (w.heap.size ≤ ·) v (ts.map Tr.p)
  k : IsTL wr (fun j => w.heap.size ≤ j ∧ j ≠ pn ∧ j ∉ obL v) ts
  nd : (nodesL ts).Nodup
  p : w.heap.size ≤ pn
  lt : b < w.heap.size ∧ m < w.heap.size ∧ f < w.heap.size
theorem LI.fa {w0 : World} {b m f : Nat} {w : World} {pn : Nat} {d : ND} {wr w' : World} {s s' : List UInt8} {many many' : Nat} {v : Value} {ts : List Tr} (h : LI w0 b m f w pn d wr s many v ts) (hx : RX w0 b m f s' many' w') (hF : Fr [b, m] wr w') : LI w0 b m f w pn d w' s' many' v ts := by
  have hbig : ∀ j, w.heap.size ≤ j → j ∉ [b, m] := fun j hj hm => by
    have := h.lt
    simp at hm
    omega
  refine ⟨hx, h.fr.trans hF (fun j hj => .inl hj), (hF.block pn (lt_heap h.n) (hbig pn h.p)).trans h.n, h.r.frame hF (fun j hj => hbig j (h.r.base j hj).1), h.k.keep (fun _ hj _ => hj) (fun j hj hlt => hF.block j hlt (hbig j hj.1)), h.nd, h.p, h.lt⟩
theorem LI.on {w0 : World} {b m f : Nat} {w : World} {pn : Nat} {d : ND} {w4 w5 w6 : World} {s s' : List UInt8} {many many' : Nat} {v : Value} {ts : List Tr} (h : LI w0 b m f w pn d w4 s many v ts) (hx : RX w0 b m f s' many' w5) (hF : Fr [b, m] w4 w5)
    (t : Tr) (ht : IsT w5 (w4.heap.size ≤ ·) t) (hn : t.nodes.Nodup) (c : Obj) (g cap : Nat)
    (hown : w6.ownsRow 0 25 1 (.slice (some ⟨g, 0, none⟩) (ts.length + 1) cap) (ts.length + 1) ((ts.map Tr.p).map ptrV ++ [ptrV t.p])) (hgrow : (w5.alloc c).grownBy w6 v.ownBlock) (hat : v.ownBlock = some g ∨ g = w5.heap.size + 1) :
    LI w0 b m f w pn d (w6.setCell ⟨pn, 4, none⟩ (.slice (some ⟨g, 0, none⟩) (ts.length + 1) cap)) s' many' (.slice (some ⟨g, 0, none⟩) (ts.length + 1) cap) (ts ++ [t]) := by
  have h5 := h.fa hx hF
  have F1 := Fr.alloc w5 c
  have F2 := Fr.of_grown hgrow
  have F12 : Fr (obL v) w5 w6 := (F1.mono (by simp)).trans F2 (fun j hj => .inl hj)
  have F3 := Fr.set w6 pn 4 (.slice (some ⟨g, 0, none⟩) (ts.length + 1) cap)
  have hpv := row_node h5.r h5.n
  have n3 : w6.heap[pn]? = some (nodeO d v) := (F12.block pn (lt_heap h5.n) hpv).trans h5.n
  have hvold : ∀ j ∈ obL v, w.heap.size ≤ j ∧ j < w4.heap.size := fun j hj => h.r.base j hj
  have hgw : w.heap.size ≤ g ∧ (g ∈ obL v ∨ w5.heap.size ≤ g) := by
    rcases hat with h1 | h1
    · have := (mem_ob v g).2 h1
      exact ⟨(hvold g this).1, .inl this⟩
    · have := h.fr.size; have := hF.size
      exact ⟨by omega, .inr (by omega)⟩
  have hR3 : Row w6 (w.heap.size ≤ ·) (.slice (some ⟨g, 0, none⟩) (ts.length + 1) cap) ((ts ++ [t]).map Tr.p) := by
    refine ⟨?_, fun k hk => ?_⟩
    · have e1 : ((ts ++ [t]).map Tr.p).length = ts.length + 1 := by simp
      have e2 : ((ts ++ [t]).map Tr.p).map ptrV = (ts.map Tr.p).map ptrV ++ [ptrV t.p] := by simp
      rw [e1, e2]
      exact hown
    · obtain rfl : g = k := by simpa [Value.ownBlock] using hk
      exact hgw.1
  have hpg : pn ∉ obL (.slice (some ⟨g, 0, none⟩) (ts.length + 1) cap) := row_node hR3 n3
  have hob : ∀ j, j ∈ obL (.slice (some ⟨g, 0, none⟩) (ts.length + 1) cap) → j = g := fun j hj => by simpa [obL, Value.ownBlock] using hj
  have F123 : Fr (pn :: obL v) w5 (w6.setCell ⟨pn, 4, none⟩ (.slice (some ⟨g, 0, none⟩) (ts.length + 1) cap)) := (F12.mono (fun j hj => List.mem_cons_of_mem _ hj)).trans F3 (fun j hj => .inl (by
    obtain rfl : j = pn := by simpa using hj
    exact List.mem_cons_self))
  have hNfar : ∀ j ∈ pn :: obL v, w.heap.size ≤ j := fun j hj => by
    rcases List.mem_cons.1 hj with rfl | hj
    · exact h.p
    · exact (hvold j hj).1
  have hlt := h.lt
  have hrx := hx.far F123 (fun j hj => by
    have h1 := hNfar j hj
    have h2 := hx.lf
    omega)
  have hpn4 : pn < w4.heap.size := lt_heap h.n
  refine ⟨hrx, ⟨F123.os.trans h5.fr.os, F123.tape.trans h5.fr.tape, F123.output.trans h5.fr.output, Nat.le_trans h5.fr.size F123.size, fun k hk hnk => (F123.block k (Nat.lt_of_lt_of_le hk h5.fr.size) (fun hm => by have := hNfar k hm; omega)).trans (h5.fr.block k hk hnk)⟩, by simp [World.setCell, Array.getElem?_modify, n3, nodeO], hR3.frame F3 (fun j hj hm => ?_), ?_, ?_, h.p, h.lt⟩
  · obtain rfl : j = pn := by simpa using hm
    exact hpg hj
  · refine IsTL.of fun u hu => ?_
    rcases List.mem_append.1 hu with hu | hu
    · have q1 : ∀ j, (w.heap.size ≤ j ∧ j ≠ pn ∧ j ∉ obL v) → j < w5.heap.size → (w.heap.size ≤ j ∧ j ≠ pn ∧ j ∉ obL (.slice (some ⟨g, 0, none⟩) (ts.length + 1) cap)) := fun j hj hl => ⟨hj.1, hj.2.1, fun hm => by
        have e := hob j hm
        subst e
        rcases hgw.2 with h1 | h1
        · exact hj.2.2 h1
        · omega⟩
      have q2 : ∀ j, (w.heap.size ≤ j ∧ j ≠ pn ∧ j ∉ obL v) → j < w5.heap.size → (w6.setCell ⟨pn, 4, none⟩ (.slice (some ⟨g, 0, none⟩) (ts.length + 1) cap)).heap[j]? = w5.heap[j]? := fun j hj hl => F123.block j hl (fun hm => by
        rcases List.mem_cons.1 hm with e | hm
        · exact hj.2.1 e
        · exact hj.2.2 hm)
      exact (h5.k.at u hu).keep q1 q2
    · obtain rfl : u = t := by simpa using hu
      have q1 : ∀ j, w4.heap.size ≤ j → j < w5.heap.size → (w.heap.size ≤ j ∧ j ≠ pn ∧ j ∉ obL (.slice (some ⟨g, 0, none⟩) (ts.length + 1) cap)) := fun j hj hl => ⟨Nat.le_trans h.fr.size hj, by omega, fun hm => by
        have e := hob j hm
        subst e
        rcases hgw.2 with h1 | h1
        · have := (hvold j h1).2; omega
        · omega⟩
      have q2 : ∀ j, w4.heap.size ≤ j → j < w5.heap.size → (w6.setCell ⟨pn, 4, none⟩ (.slice (some ⟨g, 0, none⟩) (ts.length + 1) cap)).heap[j]? = w5.heap[j]? := fun j hj hl => F123.block j hl (fun hm => by
        rcases List.mem_cons.1 hm with e | hm
        · omega
        · have := (hvold j hm).2; omega)
      exact ht.keep q1 q2
  · rw [nodesL_app]
    simp only [nodesL, List.append_nil]
    rw [List.nodup_append]
    refine ⟨h.nd, hn, fun x hx1 y hy e => ?_⟩
    have h1 := (IsTL.lt h.k x hx1).1
    have h2 := (IsT.lt ht y hy).2
    omega
end Go.Proofs.YtbfclibjnanlgaaGreatDoor
/- tree.Read's closure, walked. -/
namespace Go.Proofs.YtbfclibjnanlgaaGreatDoor
open Go.RowKit
set_option maxHeartbeats 4000000
set_option maxRecDepth 100000
set_option linter.unusedVariables false
set_option linter.unusedSimpArgs false

theorem rdK_err {k deep mc : Nat} {sc s5 : List UInt8} {c : Int} (h1 : tkM 32 sc = some s5) (h2 : rdM k (deep + 1) mc s5 = .err c) : rdK (k + 1) deep mc sc = .err c := by
  simp only [rdK, h1, h2]
theorem rdK_on {k deep mc mm : Nat} {sc s5 r : List UInt8} {t : DT} (h1 : tkM 32 sc = some s5) (h2 : rdM k (deep + 1) mc s5 = .ok t r mm) : rdK (k + 1) deep mc sc = preK [t] (rdK k deep mm r) := by
  simp only [rdK, h1, h2]
  cases rdK k deep mm r <;> rfl
theorem rdK_end {k deep mc : Nat} {sc s4 : List UInt8} (h1 : tkM 32 sc = none) (h2 : tkM 41 sc = some s4) : rdK (k + 1) deep mc sc = .ok [] s4 mc := by
  simp only [rdK, h1, h2]
theorem rdK_bad {k deep mc : Nat} {sc : List UInt8} (h1 : tkM 32 sc = none) (h2 : tkM 41 sc = none) : rdK (k + 1) deep mc sc = .err 7 := by
  simp only [rdK, h1, h2]
def resN (d : ND) : Res (List DT) → Res DT
  | .err e => .err e
  | .ok ks r m => .ok (.node d ks) r m
theorem name_len {z : Int} {s x r : List UInt8} (h : nameM z s = some (x, r)) : r.length ≤ s.length := by
  unfold nameM at h
  split at h
  · cases h
  · have := Option.some.inj h
    injection this with _ h2
    rw [← h2, List.length_drop]; omega
theorem hd_len {s r : List UInt8} {d : ND} (h : hdM s = some (d, r)) : r.length ≤ s.length := by
  unfold hdM at h
  split at h
  · cases h
  rename_i k s1 q1
  split at h
  · cases h
  rename_i s2 q2
  split at h
  · cases h
  rename_i p s3 q3
  split at h
  · cases h
  rename_i s4 q4
  split at h
  · cases h
  rename_i z s5 q5
  split at h
  · cases h
  rename_i s6 q6
  split at h
  · cases h
  rename_i x s7 q7
  split at h
  · cases h
  rename_i s8 q8
  split at h
  · cases h
  rename_i n s9 q9
  have h2 := Option.some.inj h
  injection h2 with _ h3
  subst h3
  have := num_len q1
  have := tk_len q2
  have := pos_len q3
  have := tk_len q4
  have := num_len q5
  have := tk_len q6
  have := name_len q7
  have := tk_len q8
  have := num_len q9
  omega
theorem read1 (w0 : World) (b m f : Nat) : ∀ (fu deep many : Nat) (s : List UInt8) (w : World), RX w0 b m f s many w → s.length < fu → s.length ≤ 1048576 → deep ≤ 101 → many ≤ 8192 →
    Calls Tryz.prog 25 #[.int .i64 deep, .pointer (some ⟨b, 0, none⟩), .pointer (some ⟨m, 0, none⟩), .pointer (some ⟨f, 0, none⟩)] w fun e w' => RdP w0 b m f s (rdM fu deep many s) w e w' := by
  intro fu
  induction fu using Nat.strongRecOn with
  | _ fu IH =>
  intro deep many s w hx hfu hl hdeep hmany
  have HIH := Lib.hid IH
  clear IH
  obtain ⟨g, rfl⟩ : ∃ g, fu = g + 1 := ⟨fu - 1, by omega⟩
  obtain ⟨i0, hi, hz0, hz1, hz2⟩ := info_parts infoP
  have HX0 := Lib.hid hx
  have HT := take_any b 40 s w hx.rc.rv
  clear hx
  go_enter Tryz.func25, Tryz.ntmps25
  go_wp2_with fail
  refine HT.mono ?_
  rintro e w1 hp
  clear HT
  cases q1 : tkM 40 s with
  | none =>
    rw [q1] at hp
    obtain ⟨rfl, h1, F1⟩ := hp
    have HM : Hid (rdM (g + 1) deep many s = .err 7) := Lib.hid (by simp only [rdM, q1])
    have HF := Lib.hid (F1.mono (N := [b, m]) (by simp))
    clear h1 F1
    go_wp2_with fail
    go_ret2
    rw [HM.out]
    exact ⟨rfl, HF.out, by decide⟩
  | some s1 =>
  rw [q1] at hp
  obtain ⟨rfl, h1, F1⟩ := hp
  have l1 : s1.length ≤ 1048576 := Nat.le_trans (tk_len q1) hl
  have l1' : s1.length + 1 = s.length := by rw [tk_some q1]; simp
  have HX1 := Lib.hid (HX0.out.take h1 F1)
  have HF1 := Lib.hid (F1.mono (N := [b, m]) (by simp))
  clear h1 F1
  by_cases hdp : 100 < deep
  · have HM : Hid (rdM (g + 1) deep many s = .err 50) := Lib.hid (by simp only [rdM, q1, if_pos hdp])
    clear q1
    have hdi : (100 : Int) < (deep : Int) := by omega
    go_wp2_with fail
    go_ret2
    rw [HM.out]
    exact ⟨rfl, HF1.out, by decide⟩
  · have hdi : ¬ ((100 : Int) < (deep : Int)) := by omega
    have cm := HX1.out.mv.c
    have fm := HX1.out.mv.f
    have hx2 := HX1.out.more (k := many + 1)
    have e1 : ((many + 1 : Nat) : Int) = (many : Int) + 1 := by omega
    rw [e1] at hx2
    have HX2 := Lib.hid hx2
    have HF2 := Lib.hid (HF1.out.trans (Fr.set w1 m 0 (.int .i64 ((many : Int) + 1))) (fun j hj => .inl (by simp at hj ⊢; exact .inr hj)))
    have cm2 := Var.c hx2.mv
    rw [e1] at cm2
    clear hx2
    by_cases hmy : 8192 < many + 1
    · have HM : Hid (rdM (g + 1) deep many s = .err 51) := Lib.hid (by simp only [rdM, q1, if_neg hdp, if_pos hmy])
      clear q1
      have hmi : (8192 : Int) < (many : Int) + 1 := by omega
      go_wp2_with fail
      go_ret2
      rw [HM.out]
      exact ⟨rfl, HF2.out, by decide⟩
    · have hmi : ¬ ((8192 : Int) < (many : Int) + 1) := by omega
      have HC := hdr_any w0 b s1 _ HX2.out.rc l1
      go_wp2_with fail
      refine HC.mono ?_
      rintro e w3 hp
      clear HC cm fm cm2
      cases q2 : hdM s1 with
      | none =>
        rw [q2] at hp
        obtain ⟨x, r, rfl, h3, F3⟩ := hp
        have HM : Hid (rdM (g + 1) deep many s = .err 7) := Lib.hid (by simp only [rdM, q1, if_neg hdp, if_neg hmy, q2])
        have HF := Lib.hid (HF2.out.trans F3 (fun j hj => .inl (by simp at hj ⊢; exact .inl hj)))
        clear h3 F3 q1 q2
        go_wp2_with fail
        go_loopg [] 1 (fun k wr => wr = w3)
        case atStart => rfl
        case round =>
          subst hrel
          go_wp2_with fail
          go_ret2
          rw [HM.out]
          exact ⟨rfl, HF.out, by decide⟩
      | some x2 =>
        obtain ⟨d, s2⟩ := x2
        rw [q2] at hp
        obtain ⟨pn, rfl, h3, F3, hT3⟩ := hp
        have hl2 : s2.length ≤ s1.length := hd_len q2
        obtain ⟨hp3, ⟨v0, hn3, hr3⟩, _⟩ := hT3
        have hw2 : w.heap.size ≤ (w1.setCell ⟨m, 0, none⟩ (.int .i64 ((many : Int) + 1))).heap.size := HF2.out.size
        have HLI : Hid (LI w0 b m f w pn d w3 s2 (many + 1) v0 []) := Lib.hid ⟨HX2.out.take h3 F3, HF2.out.trans F3 (fun j hj => .inl (by simp at hj ⊢; exact .inl hj)), hn3, hr3.keep (fun j hj _ => Nat.le_trans hw2 hj) (fun _ _ _ => rfl), trivial, by simp [nodesL], Nat.le_trans hw2 hp3, HX0.out.lt⟩
        have HM : Hid (rdM (g + 1) deep many s = resN d (rdK g deep (many + 1) s2)) := Lib.hid (by simp only [rdM, q1, if_neg hdp, if_neg hmy, q2]; cases rdK g deep (many + 1) s2 <;> rfl)
        clear h3 F3 hp3 hn3 hr3 hw2 q1 q2 e1
        simp only [ptrV]
        go_wp2_with fail
        go_loopg [] g (fun k wr => ∃ (kk : Nat) (sc : List UInt8) (mc : Nat) (v : Value) (ts : List Tr), k = kk ∧ LI w0 b m f w pn d wr sc mc v ts ∧ rdK g deep (many + 1) s2 = preK (dtL ts) (rdK kk deep mc sc) ∧ sc.length < kk ∧ ts.length + sc.length ≤ s2.length ∧ mc ≤ 8192 ∧ kk ≤ g)
        case atStart => exact ⟨g, s2, many + 1, v0, [], rfl, HLI.out, (preK_nil _).symm, by omega, by simp, by omega, Nat.le_refl _⟩
        case round =>
          obtain ⟨kk, sc, mc, v, ts, hkk, li, heq, hsk, hs2, hmc, hkg⟩ := hrel
          obtain ⟨k', hk'⟩ : ∃ k', kk = k' + 1 := ⟨kk - 1, by omega⟩
          have HT := take_any b 32 sc wr li.rx.rc.rv
          have HL := Lib.hid li
          have HQ := Lib.hid heq
          clear li heq
          go_wp2_with fail
          refine HT.mono ?_
          rintro e w4 hp
          clear HT
          cases q3 : tkM 32 sc with
          | none =>
            rw [q3] at hp
            obtain ⟨rfl, h4, F4⟩ := hp
            have HL4 := Lib.hid (HL.out.fa (HL.out.rx.take h4 F4) (F4.mono (by simp)))
            have HT2 := take_any b 41 sc w4 h4
            clear h4 F4
            go_wp2_with fail
            refine HT2.mono ?_
            rintro e w5 hp
            clear HT2
            cases q4 : tkM 41 sc with
            | none =>
              rw [q4] at hp
              obtain ⟨rfl, h5, F5⟩ := hp
              have HF := Lib.hid (HL4.out.fr.trans F5 (fun j hj => .inl (by simp at hj ⊢; exact .inl hj)))
              have HE : Hid (rdM (g + 1) deep many s = .err 7) := Lib.hid (by rw [HM.out, HQ.out, hk', rdK_bad q3 q4]; rfl)
              clear h5 F5 q3 q4
              go_wp2_with fail
              go_ret2
              rw [HE.out]
              exact ⟨rfl, HF.out, by decide⟩
            | some s4 =>
              rw [q4] at hp
              obtain ⟨rfl, h5, F5⟩ := hp
              have HL5 := Lib.hid (HL4.out.fa (HL4.out.rx.take h5 F5) (F5.mono (by simp)))
              have HE : Hid (rdM (g + 1) deep many s = .ok (.node d (dtL ts)) s4 mc) := Lib.hid (by rw [HM.out, HQ.out, hk', rdK_end q3 q4]; simp [preK, resN])
              have hl4 := tk_len q4
              clear h5 F5 q3 q4
              go_wp2_with fail
              go_ret2
              rw [HE.out]
              refine ⟨.node pn d ts, rfl, HL5.out.rx, HL5.out.fr, ⟨HL5.out.p, ⟨v, HL5.out.n, HL5.out.r⟩, HL5.out.k.keep (fun j hj _ => hj.1) (fun _ _ _ => rfl)⟩, rfl, ?_, by omega, hmc⟩
              simp only [Tr.nodes, List.nodup_cons]
              exact ⟨fun hm => (IsTL.lt HL5.out.k pn hm).2.2.1 rfl, HL5.out.nd⟩
          | some s5 =>
            rw [q3] at hp
            obtain ⟨rfl, h4, F4⟩ := hp
            have l5 : s5.length + 1 = sc.length := by rw [tk_some q3]; simp
            have HL4 := Lib.hid (HL.out.fa (HL.out.rx.take h4 F4) (F4.mono (by simp)))
            have cf := HL4.out.rx.fv.c
            have HR := HIH.out k' (by omega) (deep + 1) mc s5 w4 HL4.out.rx (by omega) (by omega) (by omega) hmc
            rw [show ((deep + 1 : Nat) : Int) = (deep : Int) + 1 by omega] at HR
            clear h4 F4
            go_wp2_with fail
            refine HR.mono ?_
            rintro e w5 hp
            clear HR cf
            cases q5 : rdM k' (deep + 1) mc s5 with
            | err c =>
              rw [q5] at hp
              obtain ⟨rfl, F5, hc⟩ := hp
              have HF := Lib.hid (HL4.out.fr.trans F5 (fun j hj => .inl hj))
              have HE : Hid (rdM (g + 1) deep many s = .err c) := Lib.hid (by rw [HM.out, HQ.out, hk', rdK_err q3 q5]; rfl)
              have hcb : (c == 0) = false := beq_eq_false_iff_ne.2 hc
              clear F5 q3 q5
              go_wp2_with fail
              go_ret2
              rw [HE.out]
              exact ⟨rfl, HF.out, hc⟩
            | ok t r mm =>
              rw [q5] at hp
              obtain ⟨tr, rfl, hx5, F5, hT5, hdt, hnd5, hr5, hmm⟩ := hp
              have HK : Hid (rdK g deep (many + 1) s2 = preK (dtL (ts ++ [tr])) (rdK k' deep mm r)) := Lib.hid (by rw [HQ.out, hk', rdK_on q3 q5, preK_app, dtL_app]; simp only [dtL, hdt])
              have hL5 := HL4.out.fa hx5 F5
              have nn : NodeAt w5 pn d v := ⟨hL5.n⟩
              have c4 := nn.c4
              have f4 := nn.f 4
              have hsr := hL5.r.1.alloc (.cells #[ptrV tr.p] 25)
              rw [List.length_map] at hsr
              have htl : ts.length ≤ 1048576 := by omega
              have HN6 := Lib.hid (fun (w6 : World) (F : Fr (obL v) w5 w6) => (⟨(F.block pn (lt_heap hL5.n) (row_node hL5.r hL5.n)).trans hL5.n⟩ : NodeAt w6 pn d v))
              have HON := Lib.hid (fun (c : Obj) (gg cap : Nat) (w6 : World) => HL4.out.on (w6 := w6) hx5 F5 tr hT5 hnd5 c gg cap)
              have HN1 := Lib.hid (new1 w5 (ptrV tr.p) 25)
              have HO1 := Lib.hid (one1 tr.p)
              have hs5 := F5.size
              clear hx5 F5 hT5 hdt hnd5 hL5 nn q3 q5
              simp only [ptrV] at hsr HN1 HO1 ⊢
              go_wp2_with (at_builtin; refine wpList_append_lies _ rfl _ _ 42 rfl 0 25 i0 _ 1 8 Tryz.underlying42 hi hz0 hz1 hz2 rfl (by decide) v ts.length _ rfl hsr ⟨w5.heap.size, 0, none⟩ 1 1 [.pointer (some ⟨tr.p, 0, none⟩)] rfl rfl HN1.out HO1.out (by decide) (by unfold maxLen; omega) (by omega) (by simp <;> omega) (w5.heap.size + 1) (by simp) ?_)
              intro gl capl w6 hown hgrow hat hlt6
              have HST := Lib.hid (HON.out _ gl capl w6 (by simpa [ptrV, Function.comp_def] using hown) hgrow hat)
              have n6 := HN6.out w6 (((Fr.alloc w5 _).mono (by simp)).trans (Fr.of_grown hgrow) (fun j hj => .inl hj))
              have c6 := n6.c4
              have f6 := n6.f 4
              clear hown hgrow hat hsr n6 HN1 HO1 HON HN6
              go_wp2_with fail
              go_roundg k'
              case measure => omega
              case rel => exact ⟨k', r, mm, _, _, rfl, HST.out, HK.out, by omega, by rw [List.length_append, List.length_singleton]; omega, hmm, by omega⟩
end Go.Proofs.YtbfclibjnanlgaaGreatDoor
/- tree.Read, walked. -/
namespace Go.Proofs.YtbfclibjnanlgaaGreatDoor
open Go.RowKit
set_option maxHeartbeats 4000000
set_option maxRecDepth 100000
set_option linter.unusedVariables false
set_option linter.unusedSimpArgs false

def ReP (o : Res DT) (w : World) (e : Ending) (w' : World) : Prop :=
  match o with
  | .err c => e = .returned (.tuple #[.pointer none, .int .i64 c]) ∧ Below w.heap.size w w' ∧ c ≠ 0
  | .ok t r k => ∃ tr : Tr, e = .returned (.tuple #[ptrV tr.p, .int .i64 0]) ∧ Below w.heap.size w w' ∧ IsT w' (w.heap.size ≤ ·) tr ∧ tr.dt = t ∧ tr.nodes.Nodup
def fnV (w : World) : Value := .func (.func 25) #[] #[.pointer (some ⟨w.heap.size, 0, none⟩), .pointer (some ⟨w.heap.size + 1, 0, none⟩), .pointer (some ⟨w.heap.size + 1 + 1, 0, none⟩)]
def RW (w : World) (sb : ByteArray) : World := ((w.alloc (.cells #[.string sb] 52)).alloc (.cells #[.int .i64 0] 3)).alloc (.cells #[fnV w] 53)
theorem rw_rx (w : World) (hE : Env w) (s : List UInt8) : RX w w.heap.size (w.heap.size + 1) (w.heap.size + 1 + 1) s 0 (RW w ⟨s.toArray⟩) ∧ Below w.heap.size w (RW w ⟨s.toArray⟩) ∧ (RW w ⟨s.toArray⟩).heap.size = w.heap.size + 3 := by
  have s1 : (w.alloc (.cells #[.string ⟨s.toArray⟩] 52)).heap.size = w.heap.size + 1 := by simp
  have s2 : ((w.alloc (.cells #[.string ⟨s.toArray⟩] 52)).alloc (.cells #[.int .i64 0] 3)).heap.size = w.heap.size + 1 + 1 := by simp
  have v1 : Var (w.alloc (.cells #[.string ⟨s.toArray⟩] 52)) w.heap.size 52 (.string ⟨s.toArray⟩) := heap_alloc_new _ _
  have v2 : Var ((w.alloc (.cells #[.string ⟨s.toArray⟩] 52)).alloc (.cells #[.int .i64 0] 3)) (w.heap.size + 1) 3 (.int .i64 0) := by rw [← s1]; exact heap_alloc_new _ _
  have v3 : Var (RW w ⟨s.toArray⟩) (w.heap.size + 1 + 1) 53 (fnV w) := by rw [← s2]; exact heap_alloc_new _ _
  have f1 : Fr [] w (w.alloc (.cells #[.string ⟨s.toArray⟩] 52)) := Fr.alloc _ _
  have f2 := Fr.alloc (w.alloc (.cells #[.string ⟨s.toArray⟩] 52)) (.cells #[.int .i64 0] 3)
  have f3 : Fr [] ((w.alloc (.cells #[.string ⟨s.toArray⟩] 52)).alloc (.cells #[.int .i64 0] 3)) (RW w ⟨s.toArray⟩) := Fr.alloc _ _
  have f24 := f2.trans f3 (by simp)
  have hb : Below w.heap.size w (RW w ⟨s.toArray⟩) := (f1.trans f24 (by simp)).below _ (by simp) (Nat.le_refl _)
  exact ⟨⟨⟨hE, Nat.le_refl _, hb, v1.keep f24 (by simp)⟩, v2.keep f3 (by simp), v3, by omega, by omega, by omega⟩, hb, by simp [RW]⟩
theorem tRead_any (w : World) (hE : Env w) (s : List UInt8) (hl : s.length ≤ 1048576) :
    Calls Tryz.prog 13 #[.string ⟨s.toArray⟩] w fun e w' => ReP (readM s) w e w' := by
  obtain ⟨hx, hb, hsz⟩ := rw_rx w hE s
  have HR := read1 w w.heap.size (w.heap.size + 1) (w.heap.size + 1 + 1) (s.length + 1) 1 0 s _ hx (by omega) hl (by omega) (by omega)
  have cf := hx.fv.c
  have HB := Lib.hid (And.intro hb hsz)
  clear hx hb hsz hE
  simp only [RW, fnV] at HR cf HB
  generalize (⟨s.toArray⟩ : ByteArray) = sb at *
  have hsf := fun (a : Addr) (c : Array Value) (w : World) => run_store Tryz.prog w a (.func (.func 25) #[] c) .plain rfl
  go_enter Tryz.func13, Tryz.ntmps13
  go_wp2_with fail
  refine HR.mono ?_
  rintro e w1 hp
  clear HR cf
  cases q : rdM (s.length + 1) 1 0 s with
  | err c =>
    rw [q] at hp
    obtain ⟨rfl, F, hc⟩ := hp
    have HE : Hid (readM s = .err c) := Lib.hid (by unfold readM; rw [q])
    have hcb : (c == 0) = false := beq_eq_false_iff_ne.2 hc
    have HBB := Lib.hid (HB.out.1.trans (F.below w.heap.size (fun j hj => by simp at hj; omega) (by rw [HB.out.2]; omega)))
    clear F q
    go_wp2_with fail
    go_ret2
    rw [HE.out]
    exact ⟨rfl, HBB.out, hc⟩
  | ok t r k =>
    rw [q] at hp
    obtain ⟨tr, rfl, hx5, F, hT, hdt, hnd, hr, hk⟩ := hp
    have HBB := Lib.hid (HB.out.1.trans (F.below w.heap.size (fun j hj => by simp at hj; omega) (by rw [HB.out.2]; omega)))
    have c5 := Var.c hx5.rc.rv
    cases r with
    | nil =>
      have HE : Hid (readM s = .ok t [] k) := Lib.hid (by unfold readM; rw [q])
      have HT : Hid (IsT w1 (w.heap.size ≤ ·) tr ∧ tr.dt = t ∧ tr.nodes.Nodup) := Lib.hid ⟨hT.keep (fun j hj _ => by rw [HB.out.2] at hj; omega) (fun _ _ _ => rfl), hdt, hnd⟩
      clear F q hx5 hT hdt hnd
      simp only [ptrV] at *
      go_wp2_with fail
      go_ret2
      rw [HE.out]
      exact ⟨tr, rfl, HBB.out, HT.out⟩
    | cons c r =>
      have HE : Hid (readM s = .err 7) := Lib.hid (by unfold readM; rw [q])
      have hne : (⟨(c :: r).toArray⟩ : ByteArray).toList.isEmpty = false := by
        rw [ByteArray.toList_eq]; simp
      clear F q hx5 hT hdt hnd
      generalize (⟨(c :: r).toArray⟩ : ByteArray) = rb at *
      simp only [ptrV] at *
      go_wp2_with fail
      go_ret2
      rw [HE.out]
      exact ⟨rfl, HBB.out, by decide⟩
end Go.Proofs.YtbfclibjnanlgaaGreatDoor
