/- Law 11: Table. -/
import Derived.Test.YtepfknfadpkigaaTyS
import Derived.Deep.CutRange
namespace Go.Proofs.Ytepfknfadpkigaa
open Go.RowKit
set_option maxHeartbeats 1000000
set_option maxRecDepth 100000
set_option linter.unusedVariables false
set_option linter.unusedSimpArgs false

def setz (x : TyV) : Array Value := (List.take 0 (#[.int .u8 0, .string ⟨#[]⟩, .string ⟨#[]⟩, .int .i64 0, .int .i64 0, .int .i64 0, .int .i64 0, .slice none 0 0, .slice none 0 0, .slice none 0 0, .slice none 0 0, .int .i64 0] : Array Value).toList ++ x.arr.toList ++ List.drop (0 + x.arr.size) (#[.int .u8 0, .string ⟨#[]⟩, .string ⟨#[]⟩, .int .i64 0, .int .i64 0, .int .i64 0, .int .i64 0, .slice none 0 0, .slice none 0 0, .slice none 0 0, .slice none 0 0, .int .i64 0] : Array Value).toList).toArray
theorem box_set {w : World} {b : Nat} {x : TyV} (h : Bx w b 43 #[.int .u8 0, .string ⟨#[]⟩, .string ⟨#[]⟩, .int .i64 0, .int .i64 0, .int .i64 0, .int .i64 0, .slice none 0 0, .slice none 0 0, .slice none 0 0, .slice none 0 0, .int .i64 0]) : Bx (w.setRow b (setz x)) b 43 x.arr := h.set _
theorem has_up {w w' : World} {B : Nat} {x : TyV} {c : TyK} (h : Has w B x c) (k : Bl w w') (cs : Array Value) : Has (w'.setRow w.heap.size cs) B x c :=
  h.fx (M := [w.heap.size]) ⟨k.os, k.tape, k.output, by rw [setRow_size]; exact k.size, fun j hj hm => (setRow_other w' w.heap.size j cs (by simpa using hm)).trans (k.block j hj)⟩ (fun j hj => by obtain rfl := List.mem_singleton.1 hj; exact .inr (Nat.le_refl _))
theorem table_any (v : Sl) (ls : List (MaV × List Int × List Bool)) (w : World) (h : Mades w v ls) (hl : ls.length ≤ 40) : Calls Try.prog 7 #[.slice v.p v.n v.c] w fun e w' => ∃ (t t2 : Nat) (K : List TyK) (L L2 : List TyV) (g cap g2 cap2 : Nat), e = .returned (.tuple #[.pointer (some ⟨t, 0, none⟩), .pointer (some ⟨t2, 0, none⟩)]) ∧ Two w w' t t2 K L L2 g cap g2 cap2 ∧ K.length ≤ 50 := by
  obtain ⟨vp, vn, vc⟩ := v
  have hvn := h.row.n
  simp only [List.length_map] at hvn
  subst hvn
  obtain ⟨nn, hnn⟩ : ∃ nn, ls.length = nn := ⟨_, rfl⟩
  have HM := Lib.hid (And.intro h hnn)
  rw [hnn] at hl ⊢
  clear h hnn
  go_enter Try.func7, Try.ntmps7
  go_wp2_with fail
  refine (new_any _).mono ?_
  rintro e w1 ⟨rfl, k1, hs1, hT⟩
  go_wp2_with fail
  refine (dnew_any _).mono ?_
  rintro e w2 ⟨rfl, k2, hs2, g2, hg2, cap2, hD⟩
  obtain ⟨t, ht⟩ : ∃ t, w.heap.size + 1 = t := ⟨_, rfl⟩
  obtain ⟨t2, ht2⟩ : ∃ t2, w1.heap.size = t2 := ⟨_, rfl⟩
  have hTW : Two w w2 t t2 K0 L0 L0 w.heap.size 10 g2 cap2 := by
    rw [ht] at hT
    rw [ht2] at hD
    have T1 := hT [t, w.heap.size] (by simp) (by simp) (fun j hj => by simp only [List.mem_cons, List.not_mem_nil, or_false] at hj; omega)
    have T2 : TabK w2 t w.heap.size 10 [t, w.heap.size, t2, g2] L0 K0 := T1.keep (N := []) (Fx.of [] k2) (fun j hj => by simp at hj) (fun j hj => by simp only [List.mem_cons, List.not_mem_nil, or_false] at hj ⊢; omega) (by simp) (by simp) (fun j hj => by
      have := hD.t
      simp only [List.mem_cons, List.not_mem_nil, or_false] at hj; omega)
    exact ⟨k1.on k2, T2, ⟨hD, rfl, fun i x c hx hc w3 _ => has0 i x c hx hc w3 0, by simp, by simp, T2.lt⟩, ⟨by omega, by omega, by omega, by omega⟩, ⟨by omega, by omega, by omega, by omega⟩, flat0⟩
  have HTW := Lib.hid hTW
  clear hTW hT hD k1 k2 hs1 hs2 hg2
  go_wp2_with fail
  try rw [ht]
  try rw [ht2]
  generalize hwg : w.heap.size = gg at *
  clear hwg
  have HT0 : Hid (∃ (g cap : Nat), Two w w2 t t2 K0 L0 L0 g cap g2 cap2) := Lib.hid ⟨_, _, HTW.out⟩
  clear HTW
  go_loopw [6] (fun s wr => ∃ (k : Nat) (K : List TyK) (L L2 : List TyV) (g cap g2 cap2 : Nat), k ≤ nn ∧ s = .int .i64 k ∧ Two w wr t t2 K L L2 g cap g2 cap2 ∧ K.length ≤ 10 + k) (fun s _ => nn - (intOf s).toNat)
  case atStart =>
    obtain ⟨g, cap, h⟩ := HT0.out
    exact ⟨0, _, _, _, _, _, _, _, Nat.zero_le _, rfl, h, by decide⟩
  case round =>
    obtain ⟨k, K, L, L2, g, cap, g2, cap2, hk, rfl, hTw, hK⟩ := hrel
    have HT := Lib.hid (And.intro hTw hK)
    clear hTw hK HT0
    by_cases hlt : k < nn
    · have h40 : k < 40 := by omega
      have d1 : decide ((k : Int) < (nn : Int)) = true := decide_eq_true (by omega)
      have d2 : decide ((k : Int) < 40) = true := decide_eq_true (by omega)
      obtain ⟨y, hy⟩ : ∃ y, ls[k]? = some y := ⟨_, List.getElem?_eq_getElem (by rw [HM.out.2]; exact hlt)⟩
      obtain ⟨m, pl, vl⟩ := y
      obtain ⟨hmo, hmp, hmv⟩ := HM.out.1.ok _ (List.mem_of_getElem? hy)
      obtain ⟨ge, oe, hge, _, hgl, hgc, _⟩ := HM.out.1.row.c (by intro e; rw [List.map_eq_nil_iff] at e; rw [e] at hy; simp at hy)
      simp only at hge hmo hmp hmv
      obtain rfl := hge
      have hrow := hgc k m (by rw [List.getElem?_map, hy]; rfl)
      have hn2 : L2.length ≤ 50 := by have := HT.out.1.d.len; have := HT.out.2; omega
      have hn10 := HT.out.1.d.tab.n.1
      obtain ⟨n2, hn2e⟩ : ∃ n, L2.length = n := ⟨_, rfl⟩
      rw [hn2e] at hn2 hn10
      have HN2 := Lib.hid hn2e
      have HSS : ∀ w', Bl wr w' → (w'.cell? ⟨t2, 0, none⟩ = some (.slice (some ⟨g2, 0, none⟩) n2 cap2) ∧ w'.cell? ⟨ge, oe + k * 7, none⟩ = some (.int .u8 m.k) ∧ w'.cell? ⟨ge, oe + k * 7 + 1, none⟩ = some (.int .u16 m.b) ∧ w'.cell? ⟨ge, oe + k * 7 + 2, none⟩ = some (.int .u16 m.x) ∧ w'.cell? ⟨ge, oe + k * 7 + 3, none⟩ = some (.int .i32 m.lo) ∧ w'.cell? ⟨ge, oe + k * 7 + 4, none⟩ = some (.int .i32 m.hi) ∧ w'.cell? ⟨ge, oe + k * 7 + 5, none⟩ = some (.slice m.ps.p m.ps.n m.ps.c) ∧ w'.cell? ⟨ge, oe + k * 7 + 6, none⟩ = some (.slice m.vs.p m.vs.n m.vs.c)) := fun w' z => by
        have c := (HT.out.1.d.tab.on z).c0
        rw [HN2.out] at c
        have hb := fun (j : Nat) (u : Value) (hu : (encM m)[j]? = some u) => ((HT.out.1.b.on z).cell (p := ⟨ge, oe + k * 7 + j, none⟩) hgl).trans (hrow j u hu)
        exact ⟨c, hb 0 _ rfl, hb 1 _ rfl, hb 2 _ rfl, hb 3 _ rfl, hb 4 _ rfl, hb 5 _ rfl, hb 6 _ rfl⟩
      have HTY := Lib.hid (fun w1 (z : Bl wr w1) => mtype_any m pl vl n2 w1 hmo (hmp.on (HT.out.1.b.on z)) (hmv.on (HT.out.1.b.on z)) (by omega))
      have HMO := Lib.hid hmo
      clear hn2e hrow hgc hmp hmv hmo hy
      go_upto_region 5 with fail
      go_cut [7] from 14 to 54 (fun s7 wx => ∃ (q : Nat) (x : TyV), s7 = .pointer (some ⟨q, 0, none⟩) ∧ wr.heap.size ≤ q ∧ Bx wx q 43 x.arr ∧ Has wx wr.heap.size x (madeK m.k m.b m.x m.lo m.hi n2 (psL pl vl n2 (min pl.length 6))) ∧ Bl wr wx)
      case first =>
        refine region_l 11 (S := fun w' => w'.cell? ⟨t2, 0, none⟩ = some (.slice (some ⟨g2, 0, none⟩) n2 cap2) ∧ w'.cell? ⟨ge, oe + k * 7, none⟩ = some (.int .u8 m.k) ∧ w'.cell? ⟨ge, oe + k * 7 + 1, none⟩ = some (.int .u16 m.b) ∧ w'.cell? ⟨ge, oe + k * 7 + 2, none⟩ = some (.int .u16 m.x) ∧ w'.cell? ⟨ge, oe + k * 7 + 3, none⟩ = some (.int .i32 m.lo) ∧ w'.cell? ⟨ge, oe + k * 7 + 4, none⟩ = some (.int .i32 m.hi) ∧ w'.cell? ⟨ge, oe + k * 7 + 5, none⟩ = some (.slice m.ps.p m.ps.n m.ps.c) ∧ w'.cell? ⟨ge, oe + k * 7 + 6, none⟩ = some (.slice m.vs.p m.vs.n m.vs.c)) (by kernel_rfl) ?_ (fun hHeld => ?_)
        · exact HSS _ (bl_drew wr)
        refine anyL_take (k := 14) (i := 0) (v := ?_) rfl (by kernel_rfl) (by kernel_rfl) (by kernel_rfl) (by kernel_rfl) (fun _ _ _ h => h) (Or.inl ⟨by rfl, ?_⟩) (by assumption) ?_
        rotate_left
        · intro w hSw; (try dsimp only at hSw); go_simp; try with_reducible rfl
        simp only [Act.put, List.setIfInBounds_toArray, List.set_cons_zero, List.set_cons_succ, List.getElem_toArray, List.getElem_cons_zero, List.getElem_cons_succ]
        refine anyL_take (k := 14) (i := 1) (v := ?_) rfl (by kernel_rfl) (by kernel_rfl) (by kernel_rfl) (by kernel_rfl) (fun _ _ _ h => h) (Or.inl ⟨by rfl, ?_⟩) (by assumption) ?_
        rotate_left
        · intro w hSw; (try dsimp only at hSw); go_simp; try with_reducible rfl
        simp only [Act.put, List.setIfInBounds_toArray, List.set_cons_zero, List.set_cons_succ, List.getElem_toArray, List.getElem_cons_zero, List.getElem_cons_succ]
        refine anyL_take (k := 14) (i := 2) (v := ?_) rfl (by kernel_rfl) (by kernel_rfl) (by kernel_rfl) (by kernel_rfl) (fun _ _ _ h => h) (Or.inl ⟨by rfl, ?_⟩) (by assumption) ?_
        rotate_left
        · intro w hSw; (try dsimp only at hSw); go_simp; try with_reducible rfl
        simp only [Act.put, List.setIfInBounds_toArray, List.set_cons_zero, List.set_cons_succ, List.getElem_toArray, List.getElem_cons_zero, List.getElem_cons_succ]
        refine anyL_take (k := 14) (i := 3) (v := ?_) rfl (by kernel_rfl) (by kernel_rfl) (by kernel_rfl) (by kernel_rfl) (fun _ _ _ h => h) (Or.inl ⟨by rfl, ?_⟩) (by assumption) ?_
        rotate_left
        · intro w hSw; (try dsimp only at hSw); go_simp; try with_reducible rfl
        simp only [Act.put, List.setIfInBounds_toArray, List.set_cons_zero, List.set_cons_succ, List.getElem_toArray, List.getElem_cons_zero, List.getElem_cons_succ]
        refine anyL_take (k := 14) (i := 4) (v := ?_) rfl (by kernel_rfl) (by kernel_rfl) (by kernel_rfl) (by kernel_rfl) (fun _ _ _ h => h) (Or.inl ⟨by rfl, ?_⟩) (by assumption) ?_
        rotate_left
        · intro w hSw; (try dsimp only at hSw); go_simp; try with_reducible rfl
        simp only [Act.put, List.setIfInBounds_toArray, List.set_cons_zero, List.set_cons_succ, List.getElem_toArray, List.getElem_cons_zero, List.getElem_cons_succ]
        refine anyL_take (k := 14) (i := 5) (v := ?_) rfl (by kernel_rfl) (by kernel_rfl) (by kernel_rfl) (by kernel_rfl) (fun _ _ _ h => h) (Or.inl ⟨by rfl, ?_⟩) (by assumption) ?_
        rotate_left
        · intro w hSw; (try dsimp only at hSw); go_simp; try with_reducible rfl
        simp only [Act.put, List.setIfInBounds_toArray, List.set_cons_zero, List.set_cons_succ, List.getElem_toArray, List.getElem_cons_zero, List.getElem_cons_succ]
        refine anyL_take (k := 14) (i := 6) (v := ?_) rfl (by kernel_rfl) (by kernel_rfl) (by kernel_rfl) (by kernel_rfl) (fun _ _ _ h => h) (Or.inl ⟨by rfl, ?_⟩) (by assumption) ?_
        rotate_left
        · intro w hSw; (try dsimp only at hSw); go_simp; try with_reducible rfl
        simp only [Act.put, List.setIfInBounds_toArray, List.set_cons_zero, List.set_cons_succ, List.getElem_toArray, List.getElem_cons_zero, List.getElem_cons_succ]
        refine anyL_take (k := 14) (i := 7) (v := ?_) rfl (by kernel_rfl) (by kernel_rfl) (by kernel_rfl) (by kernel_rfl) (fun _ _ _ h => h) (Or.inl ⟨by rfl, ?_⟩) (by assumption) ?_
        rotate_left
        · intro w hSw; (try dsimp only at hSw); go_simp; try with_reducible rfl
        simp only [Act.put, List.setIfInBounds_toArray, List.set_cons_zero, List.set_cons_succ, List.getElem_toArray, List.getElem_cons_zero, List.getElem_cons_succ]
        refine anyL_take (k := 14) (i := 8) (v := ?_) rfl (by kernel_rfl) (by kernel_rfl) (by kernel_rfl) (by kernel_rfl) (fun _ _ _ h => h) (Or.inl ⟨by rfl, ?_⟩) (by assumption) ?_
        rotate_left
        · intro w hSw; (try dsimp only at hSw); go_simp; try with_reducible rfl
        simp only [Act.put, List.setIfInBounds_toArray, List.set_cons_zero, List.set_cons_succ, List.getElem_toArray, List.getElem_cons_zero, List.getElem_cons_succ]
        refine anyL_ready (rs := [9, 10]) (by kernel_rfl) (by simp) ?_
        refine AllL.cons rfl (fun K hK => ?_) (AllL.cons rfl (fun K hK => ?_) AllL.nil)
        · go_simp
          refine (HTY.out _ (bl_drew wr)).mono ?_
          rintro e w3 ⟨x, rfl, k3, hx⟩
          have k13 : Bl wr w3 := (bl_drew wr).on k3
          have H9 := HSS w3 k13
          go_wp2_with fail
          refine hK.out _ _ (H9) (fun hHeld => ?_)
          clear hK K
          try simp only [Act.put, List.setIfInBounds_toArray, List.set_cons_zero, List.set_cons_succ, List.getElem_toArray, List.getElem_cons_zero, List.getElem_cons_succ]
          refine anyL_ready (rs := [10]) (by kernel_rfl) (by simp) ?_
          refine AllL.cons rfl (fun K hK => ?_) ?_
          rotate_left
          · exact AllL.nil
          go_simp
          have H10 := HSS _ (k13.on (bl_new w3 (.cells #[.int .u8 0, .string ⟨#[]⟩, .string ⟨#[]⟩, .int .i64 0, .int .i64 0, .int .i64 0, .int .i64 0, .slice none 0 0, .slice none 0 0, .slice none 0 0, .slice none 0 0, .int .i64 0] 43)))
          refine hK.out _ _ (H10) (fun hHeld => ?_)
          clear hK K
          try simp only [Act.put, List.setIfInBounds_toArray, List.set_cons_zero, List.set_cons_succ, List.getElem_toArray, List.getElem_cons_zero, List.getElem_cons_succ]
          refine anyL_ready (rs := [11]) (by kernel_rfl) (by simp) ?_
          refine AllL.last rfl (by kernel_rfl) (fun K hK => ?_) ?_
          rotate_left
          · exact AllL.nil
          refine step_store_at (by rfl) 43 _ _ (by rfl) w3.heap.size 0 x.arr (by rfl) (by rfl) 43 #[.int .u8 0, .string ⟨#[]⟩, .string ⟨#[]⟩, .int .i64 0, .int .i64 0, .int .i64 0, .int .i64 0, .slice none 0 0, .slice none 0 0, .slice none 0 0, .slice none 0 0, .int .i64 0] (heap_alloc_new _ _) infoTy (by show 12 ≤ 12; omega) x.one ?_
          refine hK.out _ _ ?_
          clear hK K
          try simp only [Act.put, List.setIfInBounds_toArray, List.set_cons_zero, List.set_cons_succ, List.getElem_toArray, List.getElem_cons_zero, List.getElem_cons_succ]
          refine anyL_done (by kernel_rfl) ?_ _
          have HF := Lib.hid (And.intro (box_set (x := x) (Bx.new w3 43 #[.int .u8 0, .string ⟨#[]⟩, .string ⟨#[]⟩, .int .i64 0, .int .i64 0, .int .i64 0, .int .i64 0, .slice none 0 0, .slice none 0 0, .slice none 0 0, .slice none 0 0, .int .i64 0])) (And.intro (has_up hx (bl_new w3 (.cells #[.int .u8 0, .string ⟨#[]⟩, .string ⟨#[]⟩, .int .i64 0, .int .i64 0, .int .i64 0, .int .i64 0, .slice none 0 0, .slice none 0 0, .slice none 0 0, .slice none 0 0, .int .i64 0] 43)) (setz x)) (bl_row (k13.on (bl_new w3 (.cells #[.int .u8 0, .string ⟨#[]⟩, .string ⟨#[]⟩, .int .i64 0, .int .i64 0, .int .i64 0, .int .i64 0, .slice none 0 0, .slice none 0 0, .slice none 0 0, .slice none 0 0, .int .i64 0] 43))) k13.size (setz x))))
          have hq := k13.size
          clear H9 H10 hHeld HSS k13 k3 hx HTY
          go_wp2_with fail
          go_meet
          case rel => exact ⟨w3.heap.size, x, rfl, hq, HF.out.1, HF.out.2.1, HF.out.2.2⟩
        · go_simp
          have H7 := HSS (wr.drew.alloc (.cells #[.int .u8 0, .string ⟨#[]⟩, .string ⟨#[]⟩, .int .i64 0, .int .i64 0, .int .i64 0, .int .i64 0, .slice none 0 0, .slice none 0 0, .slice none 0 0, .slice none 0 0, .int .i64 0] 43)) ((bl_drew wr).on (bl_new _ _))
          refine hK.out _ _ (H7) (fun hHeld => ?_)
          clear hK K
          try simp only [Act.put, List.setIfInBounds_toArray, List.set_cons_zero, List.set_cons_succ, List.getElem_toArray, List.getElem_cons_zero, List.getElem_cons_succ]
          refine anyL_ready (rs := [9]) (by kernel_rfl) (by simp) ?_
          refine AllL.cons rfl (fun K hK => ?_) ?_
          rotate_left
          · exact AllL.nil
          go_simp
          refine (HTY.out _ ((bl_drew wr).on (bl_new wr.drew (.cells #[.int .u8 0, .string ⟨#[]⟩, .string ⟨#[]⟩, .int .i64 0, .int .i64 0, .int .i64 0, .int .i64 0, .slice none 0 0, .slice none 0 0, .slice none 0 0, .slice none 0 0, .int .i64 0] 43)))).mono ?_
          rintro e w3 ⟨x, rfl, k3, hx⟩
          have k13 : Bl wr w3 := ((bl_drew wr).on (bl_new wr.drew (.cells #[.int .u8 0, .string ⟨#[]⟩, .string ⟨#[]⟩, .int .i64 0, .int .i64 0, .int .i64 0, .int .i64 0, .slice none 0 0, .slice none 0 0, .slice none 0 0, .slice none 0 0, .int .i64 0] 43))).on k3
          have H9 := HSS w3 k13
          have hws : wr.drew.heap.size = wr.heap.size := rfl
          have BB := (Bx.new wr.drew 43 #[.int .u8 0, .string ⟨#[]⟩, .string ⟨#[]⟩, .int .i64 0, .int .i64 0, .int .i64 0, .int .i64 0, .slice none 0 0, .slice none 0 0, .slice none 0 0, .slice none 0 0, .int .i64 0]).on k3
          rw [hws] at BB
          simp only [World.size_alloc, hws] at hx
          go_wp2_with fail
          refine hK.out _ _ (H9) (fun hHeld => ?_)
          clear hK K
          try simp only [Act.put, List.setIfInBounds_toArray, List.set_cons_zero, List.set_cons_succ, List.getElem_toArray, List.getElem_cons_zero, List.getElem_cons_succ]
          refine anyL_ready (rs := [11]) (by kernel_rfl) (by simp) ?_
          refine AllL.last rfl (by kernel_rfl) (fun K hK => ?_) ?_
          rotate_left
          · exact AllL.nil
          refine step_store_at (by rfl) 43 _ _ (by rfl) wr.heap.size 0 x.arr (by rfl) (by rfl) 43 #[.int .u8 0, .string ⟨#[]⟩, .string ⟨#[]⟩, .int .i64 0, .int .i64 0, .int .i64 0, .int .i64 0, .slice none 0 0, .slice none 0 0, .slice none 0 0, .slice none 0 0, .int .i64 0] BB infoTy (by show 12 ≤ 12; omega) x.one ?_
          refine hK.out _ _ ?_
          clear hK K
          try simp only [Act.put, List.setIfInBounds_toArray, List.set_cons_zero, List.set_cons_succ, List.getElem_toArray, List.getElem_cons_zero, List.getElem_cons_succ]
          refine anyL_done (by kernel_rfl) ?_ _
          have HF := Lib.hid (And.intro (box_set (x := x) BB) (And.intro ((hx.farR (b := wr.heap.size) (Nat.lt_succ_self _) (setz x)).low (Nat.le_succ _)) (bl_row k13 (Nat.le_refl _) (setz x))))
          clear H9 H7 hHeld HSS k13 k3 hx HTY BB hws
          go_wp2_with fail
          go_meet
          case rel => exact ⟨wr.heap.size, x, rfl, Nat.le_refl _, HF.out.1, HF.out.2.1, HF.out.2.2⟩
      case rest =>
        obtain ⟨q, x, rfl, hq, X, hx, K5⟩ := hcut
        have T5 := HT.out.1.on K5
        have hLn : L.length = n2 := by rw [← T5.p.len, T5.d.len, HN2.out]
        have hflat : flatK (madeK m.k m.b m.x m.lo m.hi n2 (psL pl vl n2 (min pl.length 6))) := ⟨rfl, rfl, rfl, by show (psL _ _ _ _).length ≤ 6; rw [psL_len]; exact Nat.min_le_right _ _⟩
        cases hadd : addP x.k
        · have HA := add_no T5.p x hadd
          have HD := fun w1 (z : Bl wc w1) => dadd_no (T5.d.tab.on z) x hadd
          have HK := Lib.hid (And.intro T5 HT.out.2)
          clear T5 hx HT HSS hLn hflat HMO HTY
          go_wp2_with (first | (refine wpList_load_row rfl 43 _ rfl q rfl 43 x.arr (0, 0) _ X Try.underlying43 rfl infoTy ?_) | fail)
          refine HA.mono ?_
          rintro e w6 ⟨rfl, k6⟩
          have X6 := X.on k6
          go_wp2_with (first | (refine wpList_load_row rfl 43 _ rfl q rfl 43 x.arr (0, 0) _ X6 Try.underlying43 rfl infoTy ?_) | fail)
          refine (HD _ k6).mono ?_
          rintro e w7 ⟨rfl, k7⟩
          have HK := Lib.hid (And.intro (HK.out.1.on (k6.on k7)) HK.out.2)
          clear k6 k7 HA HD X X6
          go_wp2_with fail
          go_roundw
          case rel => exact ⟨k + 1, K, L, L2, g, cap, g2, cap2, by omega, by simp, HK.out.1, by have := HK.out.2; omega⟩
          case measure => simp [intOf]; omega
        · have hok : (madeK m.k m.b m.x m.lo m.hi n2 (psL pl vl n2 (min pl.length 6))).ok := ⟨by have := HMO.out.k; show 0 ≤ m.k % 12 + 7 ∧ m.k % 12 + 7 ≤ 255; omega, by simp [madeK], by simp [madeK], by simp [madeK], by simp [madeK], by have := hflat.2.2.2; omega⟩
          have hxM := HasM.of hx (M := [t, g, t2, g2]) (fun j hj => .inl (HT.out.1.p.lt j hj))
          have HA := add_ok T5.p x _ (hx.low (Nat.zero_le _)) hok hadd (by omega)
          rw [hLn] at HA
          have hqt : q ∉ [t, g] := fun hm => by
            have h1 := HT.out.1.p.lt t (by simp)
            have h2 := HT.out.1.p.lt g (by simp)
            simp only [List.mem_cons, List.not_mem_nil, or_false] at hm
            omega
          have HK := Lib.hid (And.intro T5 (And.intro hflat (And.intro hxM (And.intro HT.out.2 (And.intro hqt X)))))
          clear T5 hx HT HSS hLn hflat HMO HTY hok hxM hqt hq
          go_wp2_with (first | (refine wpList_load_row rfl 43 _ rfl q rfl 43 x.arr (0, 0) _ X Try.underlying43 rfl infoTy ?_) | fail)
          refine HA.mono ?_
          rintro e w6 ⟨rfl, hA⟩
          obtain ⟨T5, hflat, hxM, hK, hqt, X⟩ := HK.out
          obtain ⟨y, g', cap', hH, hxM2, F1⟩ := two_p T5 hA hxM
          have X6 : Bx w6 q 43 x.arr := (F1.block q (Array.getElem?_eq_some_iff.1 X).1 hqt).trans X
          have HD := dadd_ok hH.d x _ hxM2 hadd (by have := HN2.out; omega)
          rw [HN2.out] at HD
          have HK2 := Lib.hid (And.intro hH (And.intro hflat hK))
          clear HK T5 hflat hxM hK hqt X hA hH hxM2 F1 HA
          go_wp2_with (first | (refine wpList_load_row rfl 43 _ rfl q rfl 43 x.arr (0, 0) _ X6 Try.underlying43 rfl infoTy ?_) | fail)
          refine HD.mono ?_
          rintro e w7 ⟨rfl, hD⟩
          obtain ⟨hH, hflat, hK⟩ := HK2.out
          have HK3 := Lib.hid (And.intro (two_d hH hflat hD) hK)
          clear HD hD hH hflat hK HK2 X6
          go_wp2_with fail
          go_roundw
          case rel =>
            obtain ⟨⟨g3, cap3, h3⟩, hK⟩ := HK3.out
            exact ⟨k + 1, _, _, _, _, _, _, _, by omega, by simp, h3, by rw [List.length_append]; show K.length + 1 ≤ _; omega⟩
          case measure => simp [intOf]; omega
    · obtain rfl : k = nn := by omega
      have d1 : decide ((k : Int) < (k : Int)) = false := decide_eq_false (by omega)
      have HK := Lib.hid (⟨K, L, L2, g, cap, g2, cap2, HT.out.1, (by have := HT.out.2; omega)⟩ : ∃ (K : List TyK) (L L2 : List TyV) (g cap g2 cap2 : Nat), Two w wr t t2 K L L2 g cap g2 cap2 ∧ K.length ≤ 50)
      clear HT
      go_wp2_with fail
      go_ret2
      obtain ⟨K, L, L2, g, cap, g2, cap2, h1, h2⟩ := HK.out
      exact ⟨t, t2, K, L, L2, g, cap, g2, cap2, rfl, h1, h2⟩
end Go.Proofs.Ytepfknfadpkigaa
