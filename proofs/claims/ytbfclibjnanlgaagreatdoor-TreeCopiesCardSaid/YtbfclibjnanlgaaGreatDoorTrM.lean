/- tree.Same, walked. -/
import Derived.Test.YtbfclibjnanlgaaGreatDoorTrE
import Derived.Test.YtbfclibjnanlgaaGreatDoorTrV
import Derived.Lib.AtoiErrMem
namespace Go.Proofs.YtbfclibjnanlgaaGreatDoor
open Go.RowKit
set_option maxHeartbeats 2000000
set_option maxRecDepth 100000
set_option linter.unusedVariables false
set_option linter.unusedSimpArgs false

mutual
/-- Are two trees the same, but for their places? -/
def sameT : Tr → Tr → Bool
  | .node _ d ks, .node _ e ls => alikeD d e ks.length ls.length && sameTL ks ls
def sameTL : List Tr → List Tr → Bool
  | t :: r, u :: s => sameT t u && sameTL r s
  | [], _ => true
  | _ :: _, [] => true
end
def allS (L : List (Tr × Tr)) : Bool := L.all fun x => sameT x.1 x.2
theorem sameTL_zip : ∀ ks ls : List Tr, sameTL ks ls = allS (ks.zip ls)
  | [], ls => by simp [sameTL, allS]
  | t :: r, [] => by simp [sameTL, allS]
  | t :: r, u :: s => by
    have := sameTL_zip r s
    simp only [allS] at this
    simp [sameTL, allS, this]
theorem allS_app (a b : List (Tr × Tr)) : allS (a ++ b) = (allS a && allS b) := by simp [allS]
theorem sameT_eq (t u : Tr) : sameT t u = (alikeD t.d u.d t.ks.length u.ks.length && allS (t.ks.zip u.ks)) := by
  cases t; cases u
  simp [sameT, sameTL_zip, Tr.d, Tr.ks]
def pairC (x : Tr × Tr) : List Value := [ptrV x.1.p, ptrV x.2.p]
theorem pairC_len : ∀ l : List (Tr × Tr), (l.flatMap pairC).length = l.length * 2
  | [] => rfl
  | x :: r => by rw [List.flatMap_cons, List.length_append, pairC_len r]; simp [pairC]; omega
theorem infoPr : (Tryz.prog.info? 69).map (fun i => (i.zero, i.size, i.bytes)) = some (some (.agg #[.pointer none, .pointer none]), 2, 16) := by kernel_rfl
def fsts (L : List (Tr × Tr)) : List Nat := nodesL (L.map (·.1))
def snds (L : List (Tr × Tr)) : List Nat := nodesL (L.map (·.2))
/-- What is so of the pairs that are still to be gone into. -/
structure SL (w : World) (L : List (Tr × Tr)) (f : Option Nat × Option Nat → Value) : Prop where
  t : ∀ x ∈ L, IsT w (· < w.heap.size) x.1 ∧ IsT w (· < w.heap.size) x.2
  n : (fsts L).Nodup
  d : ∀ p ∈ fsts L, p ∉ snds L
  z : ∀ p ∈ fsts L, ∀ q, f (some p, q) = .int .i64 0
  c : cntL (L.map (·.1)) ≤ 1048576
/-- Where they lie. -/
structure SM (w : World) (bm : Nat) (L : List (Tr × Tr)) (wr : World) (v : Value) (f : Option Nat × Option Nat → Value) : Prop where
  b : Below w.heap.size w wr
  r : wr.ownsRow w.heap.size 69 2 v L.length (L.flatMap pairC)
  m : PMap wr encQ (okQ w.heap.size) bm (.int .i64 0) f
  bm : w.heap.size ≤ bm
theorem fsts_app (a b : List (Tr × Tr)) : fsts (a ++ b) = fsts a ++ fsts b := by simp [fsts, nodesL_app]
theorem snds_app (a b : List (Tr × Tr)) : snds (a ++ b) = snds a ++ snds b := by simp [snds, nodesL_app]
theorem fsts_one (t u : Tr) : fsts [(t, u)] = t.p :: nodesL t.ks := by cases t; simp [fsts, nodesL, Tr.nodes, Tr.p, Tr.ks]
theorem snds_one (t u : Tr) : snds [(t, u)] = u.p :: nodesL u.ks := by cases u; simp [snds, nodesL, Tr.nodes, Tr.p, Tr.ks]
theorem okP_node {w : World} {t : Tr} (h : IsT w (· < w.heap.size) t) {w' : World} (hb : Below w.heap.size w w') : okNd w.heap.size w' (some t.p) := fun p hp => by
  obtain rfl : t.p = p := by simpa using hp
  cases t
  obtain ⟨h1, ⟨v, h2, _⟩, _⟩ := h
  exact ⟨h1, _, _, (hb.block _ h1).trans h2⟩
/-- The pair at the end. -/
theorem sl_end {w : World} {L : List (Tr × Tr)} {t u : Tr} {f : Option Nat × Option Nat → Value} (h : SL w (L ++ [(t, u)]) f) : t.p ≠ u.p ∧ f (some t.p, some u.p) = .int .i64 0 ∧ IsT w (· < w.heap.size) t ∧ IsT w (· < w.heap.size) u := by
  have h1 : t.p ∈ fsts (L ++ [(t, u)]) := by rw [fsts_app, fsts_one]; simp
  have h2 : u.p ∈ snds (L ++ [(t, u)]) := by rw [snds_app, snds_one]; simp
  exact ⟨fun e => h.d _ h1 (e ▸ h2), h.z _ h1 _, h.t (t, u) (by simp)⟩
/-- .. and its kids in its place. -/
theorem sl_kids {w : World} {L : List (Tr × Tr)} {t u : Tr} {f : Option Nat × Option Nat → Value} (h : SL w (L ++ [(t, u)]) f) (hl : t.ks.length = u.ks.length) (v : Value) :
    SL w (L ++ t.ks.zip u.ks) (fun a => if a = (some t.p, some u.p) then v else f a) ∧ cntL ((L ++ t.ks.zip u.ks).map (·.1)) < cntL ((L ++ [(t, u)]).map (·.1)) := by
  have e1 : (t.ks.zip u.ks).map (·.1) = t.ks := by rw [← List.unzip_fst, List.unzip_zip_left (by omega)]
  have e2 : (t.ks.zip u.ks).map (·.2) = u.ks := by rw [← List.unzip_snd, List.unzip_zip_right (by omega)]
  have f1 : fsts (L ++ t.ks.zip u.ks) = fsts L ++ nodesL t.ks := by rw [fsts_app]; simp only [fsts, e1]
  have f2 : snds (L ++ t.ks.zip u.ks) = snds L ++ nodesL u.ks := by rw [snds_app]; simp only [snds, e2]
  have hn := h.n
  have hd := h.d
  have hz := h.z
  rw [fsts_app, fsts_one] at hn hd hz
  rw [snds_app, snds_one] at hd
  have hn2 : (t.p :: (fsts L ++ nodesL t.ks)).Nodup := (List.perm_middle.nodup_iff).1 hn
  rw [List.nodup_cons] at hn2
  have hmem : ∀ p, p ∈ fsts L ++ nodesL t.ks → p ∈ fsts L ++ t.p :: nodesL t.ks := fun p hp => by
    rcases List.mem_append.1 hp with hp | hp
    · exact List.mem_append_left _ hp
    · exact List.mem_append_right _ (List.mem_cons_of_mem _ hp)
  have hcnt : cntL ((L ++ t.ks.zip u.ks).map (·.1)) < cntL ((L ++ [(t, u)]).map (·.1)) := by
    rw [List.map_append, List.map_append, cntL_app, cntL_app, e1]
    have := cnt_ks t
    simp only [List.map_cons, List.map_nil, cntL]
    omega
  refine ⟨⟨fun x hx => ?_, by rw [f1]; exact hn2.2, fun p hp hq => ?_, fun p hp q => ?_, ?_⟩, hcnt⟩
  · rcases List.mem_append.1 hx with hx | hx
    · exact h.t x (List.mem_append_left _ hx)
    · obtain ⟨x1, x2⟩ := x
      have hm := List.of_mem_zip hx
      have ht := h.t (t, u) (by simp)
      obtain ⟨tp, td, tk⟩ := t
      obtain ⟨up, ud, uk⟩ := u
      exact ⟨ht.1.2.2.at x1 hm.1, ht.2.2.2.at x2 hm.2⟩
  · rw [f1] at hp
    rw [f2] at hq
    refine hd p (hmem p hp) ?_
    rcases List.mem_append.1 hq with hq | hq
    · exact List.mem_append_left _ hq
    · exact List.mem_append_right _ (List.mem_cons_of_mem _ hq)
  · rw [f1] at hp
    have hne : p ≠ t.p := fun e => hn2.1 (e ▸ hp)
    show (if (some p, q) = (some t.p, some u.p) then v else f (some p, q)) = _
    rw [if_neg (by intro e; injection e with e _; injection e with e; exact hne e)]
    exact hz p (hmem p hp) q
  · have := h.c; omega
theorem ist_node {w : World} {P : Nat → Prop} {t : Tr} (h : IsT w P t) : ∃ q cap, w.heap[t.p]? = some (nodeO t.d (.slice q t.ks.length cap)) ∧ Row w P (.slice q t.ks.length cap) (t.ks.map Tr.p) := by
  cases t
  obtain ⟨_, ⟨v, h2, h3⟩, _⟩ := h
  obtain ⟨q, cap, rfl⟩ := h3.form
  rw [List.length_map] at h2 h3
  exact ⟨q, cap, h2, h3⟩
theorem map_row {w : World} {bm : Nat} {f : Option Nat × Option Nat → Value} {B : Nat} {v : Value} {n : Nat} {xs : List Value} (hm : PMap w encQ (okQ B) bm (.int .i64 0) f) (hr : w.ownsRow B 69 2 v n xs) : v.ownBlock ≠ some bm := by
  intro e
  obtain ⟨es, c, h1, _⟩ := hm
  rcases hr.2 with ⟨h, _⟩ | ⟨g, cap, cur, h, _, hg, _⟩
  · rw [h] at e; cases e
  · rw [h] at e
    obtain rfl : g = bm := by simpa [Value.ownBlock] using e
    rw [h1] at hg; cases hg
/-- One more pair. -/
theorem sm_on {w wk w5 : World} {bm : Nat} {L : List (Tr × Tr)} {v : Value} {f : Option Nat × Option Nat → Value} (h : SM w bm L wk v f) (x : Tr × Tr) (c : Obj) (g cap : Nat)
    (hown : w5.ownsRow w.heap.size 69 2 (.slice (some ⟨g, 0, none⟩) (L.length + 1) cap) (L.length + 1) (L.flatMap pairC ++ [ptrV x.1.p, ptrV x.2.p])) (hgrow : (wk.alloc c).grownBy w5 v.ownBlock) (hat : v.ownBlock = some g ∨ g = wk.heap.size + 1)
    (hP : Nat) (o : Obj) (h1 : wk.heap[hP]? = some o) (h2 : hP ∉ obL v) :
    SM w bm (L ++ [x]) w5 (.slice (some ⟨g, 0, none⟩) (L.length + 1) cap) f ∧ w5.heap[hP]? = some o ∧ hP ∉ obL (.slice (some ⟨g, 0, none⟩) (L.length + 1) cap) := by
  have F1 := Fr.alloc wk c
  have F2 := Fr.of_grown hgrow
  have F12 : Fr (obL v) wk w5 := (F1.mono (by simp)).trans F2 (fun j hj => .inl hj)
  have B12 : Below w.heap.size wk w5 := F12.below _ (fun j hj => (h.r.lt j ((mem_ob v j).1 hj)).1) h.b.size
  refine ⟨⟨h.b.trans B12, ?_, h.m.keep (F12.block bm h.m.lt (fun hm => map_row h.m h.r ((mem_ob v bm).1 hm))) (fun a ha => ⟨ha.1.below B12, ha.2.below B12⟩), h.bm⟩, (F12.block hP (lt_heap h1) h2).trans h1, fun hm => ?_⟩
  · have e1 : (L ++ [x]).length = L.length + 1 := by simp
    have e2 : (L ++ [x]).flatMap pairC = L.flatMap pairC ++ [ptrV x.1.p, ptrV x.2.p] := by simp [pairC]
    rw [e1, e2]; exact hown
  · obtain rfl : hP = g := by simpa [obL, Value.ownBlock] using hm
    rcases hat with h3 | h3
    · exact h2 ((mem_ob v hP).2 h3)
    · have := lt_heap h1; omega
theorem Same_tree (w : World) (a b : Tr) {P Q : Nat → Prop} (hA : IsT w P a) (hB : IsT w Q b) (hn : a.nodes.Nodup) (hd : ∀ p ∈ a.nodes, p ∉ b.nodes) (hc : a.cnt ≤ 1048576) :
    Calls Tryz.prog 15 #[ptrV a.p, ptrV b.p] w fun e w' => e = .returned (.bool (sameT a b)) ∧ Below w.heap.size w w' := by
  obtain ⟨i0, hi, hz0, hz1, hz2⟩ := info_parts infoPr
  have hmm := @run_makeMap Tryz.prog
  have B1 : Below w.heap.size w (w.alloc (.cells #[ptrV a.p, ptrV b.p] 69)) := below_new w _
  have s1 : (w.alloc (.cells #[ptrV a.p, ptrV b.p] 69)).heap.size = w.heap.size + 1 := by simp
  have sl0 : SL w [(a, b)] (fun _ => .int .i64 0) := by
    refine ⟨fun x hx => ?_, by simpa [fsts, nodesL] using hn, by simpa [fsts, snds, nodesL] using hd, fun _ _ _ => rfl, by simpa [cntL] using hc⟩
    obtain rfl := List.mem_singleton.1 hx
    exact ⟨hA.keep (fun _ _ h => h) (fun _ _ _ => rfl), hB.keep (fun _ _ h => h) (fun _ _ _ => rfl)⟩
  have sm0 : SM w (w.heap.size + 1) [(a, b)] ((w.alloc (.cells #[ptrV a.p, ptrV b.p] 69)).alloc (.map #[] 0)) (.slice (some ⟨w.heap.size, 0, none⟩) 1 1) (fun _ => .int .i64 0) := by
    refine ⟨B1.trans ((below_new _ _).mono B1.size), ?_, ?_, by omega⟩
    · exact (World.ownsRow.alloc ⟨by simp [pairC], .inr ⟨w.heap.size, 1, _, rfl, Nat.le_refl _, heap_alloc_new w _, Nat.le_refl _, by decide, rfl, by simp [pairC]⟩⟩ _)
    · rw [← s1]; exact PMap.made _ _ _ _
  have HSI := Lib.hid (And.intro sl0 sm0)
  clear sl0 sm0 B1 s1 hA hB hn hd hc
  simp only [ptrV] at HSI ⊢
  generalize hres : sameT a b = res
  have HRES : Hid (res = allS [(a, b)]) := Lib.hid (by rw [← hres]; simp [allS])
  clear hres
  go_enter Tryz.func15, Tryz.ntmps15
  go_wp2_with fail
  go_loopg [5] a.cnt (fun k t5 wr => ∃ (v : Value) (L : List (Tr × Tr)) (f : Option Nat × Option Nat → Value), t5 = v ∧ k = cntL (L.map (·.1)) ∧ SL w L f ∧ SM w (w.heap.size + 1) L wr v f ∧ res = allS L)
  case atStart => exact ⟨_, [(a, b)], _, rfl, by simp [cntL], HSI.out.1, HSI.out.2, HRES.out⟩
  case round =>
    obtain ⟨v, L, f, rfl, hk, sl, sm, hr⟩ := hrel
    obtain rfl | ⟨L', ⟨t, u⟩, rfl⟩ : L = [] ∨ ∃ L' x, L = L' ++ [x] := by
      rcases List.eq_nil_or_concat L with h | ⟨L', x, h⟩
      · exact .inl h
      · exact .inr ⟨L', x, by rw [h, List.concat_eq_append]⟩
    · obtain ⟨q, cap, hv⟩ : ∃ q cap, u5 = .slice q 0 cap := by
        rcases sm.r.2 with ⟨h, _⟩ | ⟨g, cap, cur, h, _⟩
        · exact ⟨_, _, h⟩
        · exact ⟨_, _, h⟩
      subst hv
      have HB := Lib.hid (And.intro sm.b hr)
      clear sl sm hr
      go_wp2_with fail
      go_ret
      exact ⟨by rw [HB.out.2]; rfl, HB.out.1⟩
    · obtain ⟨m, hm⟩ : ∃ m, L'.length = m := ⟨_, rfl⟩
      have hlen : (L' ++ [(t, u)]).length = m + 1 := by simp [hm]
      obtain ⟨e1, e2, hT, hU⟩ := sl_end sl
      have hown := sm.r
      rw [hlen] at hown
      obtain ⟨g, cap, hv, hg1, hg2⟩ := hown.form (by omega)
      subst hv
      have hrow : (L' ++ [(t, u)]).flatMap pairC = L'.flatMap pairC ++ [ptrV t.p, ptrV u.p] := by simp [pairC]
      rw [hrow] at hown
      have hAl : (L'.flatMap pairC).length = m * 2 := by rw [pairC_len, hm]
      have cA : wr.cell? ⟨g, m * 2, none⟩ = some (.pointer (some ⟨t.p, 0, none⟩)) := by
        rw [hown.cellAt (m * 2) (by omega), List.getElem?_append_right (by omega), hAl, Nat.sub_self]; rfl
      have cB : wr.cell? ⟨g, m * 2 + 1, none⟩ = some (.pointer (some ⟨u.p, 0, none⟩)) := by
        rw [hown.cellAt (m * 2 + 1) (by omega), List.getElem?_append_right (by omega), hAl, show m * 2 + 1 - m * 2 = 1 by omega]; rfl
      obtain ⟨hcap1, hcap2⟩ := own_cap hown
      have okq : okQ w.heap.size wr (some t.p, some u.p) := ⟨okP_node hT sm.b, okP_node hU sm.b⟩
      have hcl : m ≤ 1048576 := by
        have h1 := kslen_le ((L' ++ [(t, u)]).map (·.1))
        have h2 := sl.c
        rw [List.length_map, hlen] at h1
        omega
      obtain ⟨wp, hwp⟩ : ∃ wp, wr.alloc (.cells #[.pointer (some ⟨t.p, 0, none⟩), .pointer (some ⟨u.p, 0, none⟩)] 69) = wp := ⟨_, rfl⟩
      have Bp : Below wr.heap.size wr wp := by rw [← hwp]; exact below_new _ _
      have Bwp : Below w.heap.size wr wp := Bp.mono sm.b.size
      have hpb : wp.heap[wr.heap.size]? = some (.cells #[.pointer (some ⟨t.p, 0, none⟩), .pointer (some ⟨u.p, 0, none⟩)] 69 (0, 0)) := by rw [← hwp]; exact heap_alloc_new _ _
      have hps : wp.heap.size = wr.heap.size + 1 := by rw [← hwp]; simp
      have okp : okQ w.heap.size wp (some t.p, some u.p) := ⟨okq.1.below Bwp, okq.2.below Bwp⟩
      have pmp : PMap wp encQ (okQ w.heap.size) (w.heap.size + 1) (.int .i64 0) f := sm.m.keep (Bp.block _ sm.m.lt) (fun a ha => ⟨ha.1.below Bwp, ha.2.below Bwp⟩)
      have E0 := run_eqP wp (some t.p) (some u.p) okp.1 okp.2
      rw [decide_eq_false (by simpa using e1)] at E0
      have L0 := pmp.lookup (keyQ w.heap.size) Tryz.underlying71 (zeroI wp) (some t.p, some u.p) okp
      rw [e2] at L0
      obtain ⟨w2, U0, pm2, g2⟩ := pmp.update (keyQ w.heap.size) Tryz.underlying71 (some t.p, some u.p) okp (.int .i64 1)
      have hbm : wr.heap.size ≠ w.heap.size + 1 := by have := sm.m.lt; omega
      have hpb2 : w2.heap[wr.heap.size]? = some (.cells #[.pointer (some ⟨t.p, 0, none⟩), .pointer (some ⟨u.p, 0, none⟩)] 69 (0, 0)) := (g2.block _ (by omega) (fun e => hbm (by simpa using e))).trans hpb
      have B2 : Below w.heap.size wp w2 := (Fr.of_grown g2).below _ (fun j hj => by simp at hj; omega) (by have := sm.b.size; omega)
      have d0 : wp.cell? ⟨wr.heap.size, 0, none⟩ = some (.pointer (some ⟨t.p, 0, none⟩)) := by rw [Lib.cell_of_heap hpb]; rfl
      have d1 : wp.cell? ⟨wr.heap.size, 1, none⟩ = some (.pointer (some ⟨u.p, 0, none⟩)) := by rw [Lib.cell_of_heap hpb]; rfl
      have k0 : w2.cell? ⟨wr.heap.size, 0, none⟩ = some (.pointer (some ⟨t.p, 0, none⟩)) := by rw [Lib.cell_of_heap hpb2]; rfl
      have k1 : w2.cell? ⟨wr.heap.size, 1, none⟩ = some (.pointer (some ⟨u.p, 0, none⟩)) := by rw [Lib.cell_of_heap hpb2]; rfl
      simp only [encP, encQ, ptrV] at E0 L0 U0
      obtain ⟨qa, ca, ha, hra⟩ := ist_node hT
      obtain ⟨qb, cb, hb, hrb⟩ := ist_node hU
      have htp := okP_node hT (Below.refl _ _) t.p rfl
      have hup := okP_node hU (Below.refl _ _) u.p rfl
      have Bw2 : Below w.heap.size w w2 := (sm.b.trans Bwp).trans B2
      have HA := alike_any w2 t.p u.p t.d u.d qa qb t.ks.length u.ks.length ca cb ((Bw2.block _ htp.1).trans ha) ((Bw2.block _ hup.1).trans hb)
      simp only [ptrV] at HA
      have hrs : res = (allS L' && (alikeD t.d u.d t.ks.length u.ks.length && allS (t.ks.zip u.ks))) := by rw [hr, allS_app, ← sameT_eq]; simp [allS]
      have HALL := Lib.hid (And.intro sl (And.intro sm (And.intro hrs (And.intro hk (And.intro hown hm)))))
      have HW2 := Lib.hid (And.intro hpb2 (And.intro Bw2 (And.intro pm2 (And.intro g2 (And.intro Bp hps)))))
      have HAB := Lib.hid (And.intro ha (And.intro hra (And.intro hb (And.intro hrb (And.intro htp.1 hup.1)))))
      have HAL := Lib.hid hAl
      clear sl sm hr hk hT hU hown hm hAl hrow hpb hpb2 okp okq pmp pm2 g2 B2 Bp Bwp e1 e2 hbm hps hlen ha hra hb hrb htp hup Bw2 hrs
      obtain ⟨al, hal⟩ : ∃ al, alikeD t.d u.d t.ks.length u.ks.length = al := ⟨_, rfl⟩
      have HAD := Lib.hid hal
      rw [hal] at HA
      clear hal
      go_wp2_with fail
      refine HA.mono ?_
      rintro e w3 ⟨rfl, B3⟩
      cases al
      · have HB3 := Lib.hid B3
        clear B3 HA
        go_wp2_with fail
        go_ret
        refine ⟨?_, HW2.out.2.1.trans (HB3.out.mono HW2.out.2.1.size)⟩
        rw [HALL.out.2.2.1, HAD.out]; simp
      · have hab : t.ks.length = u.ks.length := by
          have := HAD.out
          unfold alikeD at this
          simp only [Bool.and_eq_true, decide_eq_true_iff] at this
          exact this.2
        have Bw3 : Below w.heap.size w w3 := HW2.out.2.1.trans (B3.mono HW2.out.2.1.size)
        have na : NodeAt w3 t.p t.d (.slice qa t.ks.length ca) := ⟨(Bw3.block _ HAB.out.2.2.2.2.1).trans HAB.out.1⟩
        have ca4 := na.c4
        have kk0 := (B3.cell (Lib.lt_of_cell k0)).trans k0
        have kk1 := (B3.cell (Lib.lt_of_cell k1)).trans k1
        obtain ⟨n, hn⟩ : ∃ n, t.ks.length = n := ⟨_, rfl⟩
        have hnl : n ≤ 1048576 := by
          have h1 := HALL.out.1.c
          have h2 := kslen_le t.ks
          have h3 := cnt_ks t
          rw [List.map_append, cntL_app] at h1
          simp only [List.map_cons, List.map_nil, cntL] at h1
          omega
        rw [hn] at ca4
        have HN := Lib.hid (And.intro hn hab)
        have HB3 := Lib.hid (And.intro B3 Bw3)
        have HST : Hid (SM w (w.heap.size + 1) (L' ++ (t.ks.zip u.ks).take 0) w3 (.slice (some ⟨g, 0, none⟩) m cap) (fun a => if a = (some t.p, some u.p) then .int .i64 1 else f a) ∧ w3.heap[wr.heap.size]? = some (.cells #[.pointer (some ⟨t.p, 0, none⟩), .pointer (some ⟨u.p, 0, none⟩)] 69 (0, 0)) ∧ wr.heap.size ∉ obL (.slice (some ⟨g, 0, none⟩) m cap)) := Lib.hid (by
          obtain ⟨a1, a2, a3, a4, a5, a6⟩ := HALL.out
          obtain ⟨b1, b2, b3, b4, b5, b6⟩ := HW2.out
          have hgb := map_row a2.m a5
          have hge : g ≠ w.heap.size + 1 := fun e => hgb (by simp [Value.ownBlock, e])
          have hcut := own_cut a5 (.inl (by simp)) (Nat.le_succ m)
          rw [List.take_left' HAL.out] at hcut
          refine ⟨⟨Bw3, ?_, b3.keep (B3.block _ b3.lt) (fun a ha => ?_), a2.bm⟩, (B3.block _ (lt_heap b1)).trans b1, fun hm => ?_⟩
          · rw [List.take_zero, List.append_nil, a6]
            refine ownsRow_keep hcut fun k hk => ?_
            obtain rfl : g = k := by simpa [Value.ownBlock] using hk
            have q1 := b5.block g hg2
            have q2 := b4.block g (by omega) (fun e => hge (by simpa using e))
            exact (B3.block g (by have := b4.size; omega)).trans (q2.trans q1)
          · exact ⟨ha.1.below (B3.mono b2.size), ha.2.below (B3.mono b2.size)⟩
          · have : wr.heap.size = g := by simpa [obL, Value.ownBlock] using hm
            omega)
        clear B3 Bw3 na hn hab HA
        go_wp2_with fail
        obtain ⟨wq, hwq⟩ : ∃ wq, wq = wr := ⟨_, rfl⟩
        subst hwq
        go_loopw [5, 64] (fun v5 i wk => ∃ (j : Nat) (v : Value), j ≤ n ∧ i = .int .i64 j ∧ v5 = v ∧ SM w (w.heap.size + 1) (L' ++ (t.ks.zip u.ks).take j) wk v (fun a => if a = (some t.p, some u.p) then .int .i64 1 else f a) ∧ wk.heap[wq.heap.size]? = some (.cells #[.pointer (some ⟨t.p, 0, none⟩), .pointer (some ⟨u.p, 0, none⟩)] 69 (0, 0)) ∧ wq.heap.size ∉ obL v) (fun _ i _ => n - (intOf i).toNat)
        case atStart => exact ⟨0, _, Nat.zero_le _, rfl, rfl, HST.out⟩
        case round =>
          obtain ⟨j, v, hj, rfl, hv5, sm, hP, hPv⟩ := hrel
          subst hv5
          obtain ⟨a1, a2, a3, a4, a5, a6⟩ := HALL.out
          obtain ⟨n1, n2⟩ := HN.out
          have hzl : (t.ks.zip u.ks).length = n := by rw [List.length_zip, ← n2, n1, Nat.min_self]
          have hsk := sl_kids a1 n2 (.int .i64 1)
          by_cases hjn : j = n
          · subst hjn
            rw [List.take_of_length_le (by omega)] at sm
            have HS := Lib.hid (And.intro sm hsk)
            have HR2 : Hid (res = allS (L' ++ t.ks.zip u.ks)) := Lib.hid (by rw [a3, HAD.out, allS_app]; simp)
            have HK := Lib.hid a4
            clear sm hP hPv hsk a1 a2 a3 a4 a5 a6 n1 n2 hzl
            go_wp2_with fail
            go_roundg (cntL ((L' ++ t.ks.zip u.ks).map (·.1)))
            case measure => rw [HK.out]; exact HS.out.2.2
            case rel => exact ⟨_, _, _, rfl, rfl, HS.out.2.1, HS.out.1, HR2.out⟩
          · have hjl : j < n := by omega
            obtain ⟨k, hk⟩ : ∃ k, t.ks[j]? = some k := ⟨_, List.getElem?_eq_getElem (by omega)⟩
            obtain ⟨l, hl⟩ : ∃ l, u.ks[j]? = some l := ⟨_, List.getElem?_eq_getElem (by omega)⟩
            have hz : (t.ks.zip u.ks)[j]? = some (k, l) := by rw [List.getElem?_zip_eq_some]; exact ⟨hk, hl⟩
            have htk : (t.ks.zip u.ks).take (j + 1) = (t.ks.zip u.ks).take j ++ [(k, l)] := by rw [List.take_add_one, hz]; rfl
            obtain ⟨r1, r2, r3, r4, r5, r6⟩ := HAB.out
            have Bk := sm.b
            have ra : Row wr (· < w.heap.size) (.slice qa t.ks.length ca) (t.ks.map Tr.p) := r2.keep (fun _ h _ => h) (fun j h _ => Bk.block j h)
            have rb : Row wr (· < w.heap.size) (.slice qb u.ks.length cb) (u.ks.map Tr.p) := r4.keep (fun _ h _ => h) (fun j h _ => Bk.block j h)
            obtain ⟨ga, cpa, hva, cK⟩ := Row.cell ra j k.p (by rw [List.getElem?_map, hk]; rfl)
            obtain ⟨gb, cpb, hvb, cL⟩ := Row.cell rb j l.p (by rw [List.getElem?_map, hl]; rfl)
            have hqa : qa = some ⟨ga, 0, none⟩ := by injection hva
            have hqb : qb = some ⟨gb, 0, none⟩ := by injection hvb
            subst hqa; subst hqb
            have nb : NodeAt wr u.p u.d (.slice (some ⟨gb, 0, none⟩) u.ks.length cb) := ⟨(Bk.block _ r6).trans r3⟩
            have cb4 := nb.c4
            rw [← n2, n1] at cb4
            have p1 : wr.cell? ⟨wq.heap.size, 1, none⟩ = some (.pointer (some ⟨u.p, 0, none⟩)) := by rw [Lib.cell_of_heap hP]; rfl
            have hLl : (L' ++ (t.ks.zip u.ks).take j).length = m + j := by rw [List.length_append, List.length_take, hzl, a6]; omega
            have hsr := sm.r.alloc (.cells #[ptrV k.p, ptrV l.p] 69)
            rw [hLl] at hsr
            have hnn : ∀ i u', [ptrV k.p, ptrV l.p][i]? = some u' → (wr.alloc (.cells #[ptrV k.p, ptrV l.p] 69)).cell? ((⟨wr.heap.size, 0, none⟩ : Addr).add i) = some u' := fun i u' hi => by
              match i, hi with
              | 0, hi => simp at hi; subst hi; simp [Addr.add]
              | 1, hi => simp at hi; subst hi; simp [Addr.add]
            have hone : ∀ u' ∈ [ptrV k.p, ptrV l.p], u'.oneCell' = true := fun u' hu' => by
              simp at hu'
              rcases hu' with rfl | rfl <;> rfl
            have HON := fun (c : Obj) (g' cap' : Nat) (w5 : World) => sm_on (w5 := w5) sm (k, l) c g' cap'
            rw [hLl, List.append_assoc, ← htk] at HON
            have HX := Lib.hid (And.intro sm (And.intro hP (And.intro hPv HON)))
            have HNN := Lib.hid hnn
            have HO1 := Lib.hid hone
            have hbw := Bk.size
            have hj0 : (0 : Int) ≤ (j : Int) := by omega
            have hj1 : (j : Int) < (n : Int) := by omega
            have hmj : m + j ≤ 2097152 := by omega
            clear sm hP hPv hsk a1 a2 a3 a4 a5 a6 n1 n2 hzl hk hl hz htk r1 r2 r3 r4 r5 r6 ra rb nb hva hvb hLl hnn hone HON Bk
            simp only [ptrV] at cK cL hsr HNN HO1
            go_wp2_with (at_builtin; refine wpList_append_lies _ rfl _ _ 70 rfl w.heap.size 69 i0 _ 2 16 Tryz.underlying70 hi hz0 hz1 hz2 rfl (by decide) u5 (m + j) _ rfl hsr ⟨wr.heap.size, 0, none⟩ 1 1 [.pointer (some ⟨k.p, 0, none⟩), .pointer (some ⟨l.p, 0, none⟩)] rfl rfl HNN.out HO1.out (by decide) (by unfold maxLen; omega) (by omega) (by simp; omega) (wr.heap.size + 1) (by simp) ?_)
            intro gl capl w5 hown hgrow hat hlt5
            have HST2 := Lib.hid (HX.out.2.2.2 _ gl capl w5 (by simp only [List.flatMap_append, List.append_assoc, ptrV]; exact hown) hgrow hat _ _ HX.out.2.1 HX.out.2.2.1)
            clear hown hgrow hat hsr HNN HO1 HX
            go_wp2_with fail
            go_roundw
            case rel => exact ⟨j + 1, _, by omega, by simp, rfl, HST2.out⟩
            case measure => simp [intOf]; omega
end Go.Proofs.YtbfclibjnanlgaaGreatDoor
