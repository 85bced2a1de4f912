/- TreeBack, walked. -/
import Derived.Test.YtliebhpddjbjeaaGreatDoorBkA
import Derived.Test.YtliebhpddjbjeaaGreatDoorTrO
import Derived.BigQuiet
import Derived.Deep.RegionHeld3
import Derived.RegionTactic
import Derived.Deep.RegionHeldLaw
import Derived.Laws.OwnMore
namespace Go.Proofs.YtliebhpddjbjeaaGreatDoor
open Go.RowKit
set_option maxHeartbeats 4000000
set_option maxRecDepth 100000
set_option linter.unusedVariables false
set_option linter.unusedSimpArgs false

theorem read_none : readM [] = .err 7 := by simp [readM, rdM, tkM]
theorem text_ne (t : Tr) : 1 ≤ (textT t).length := by
  cases t
  simp only [textT, headT, List.length_append, List.length_cons]
  omega
theorem infoS : (Tryz.prog.info? 9).map (fun i => (i.zero, i.size, i.bytes)) = some (some (.string ⟨#[]⟩), 1, 16) := by kernel_rfl
theorem cons_at {w : World} {b : Nat} {T : TypeId} {xs : List Value} (h : w.heap[b]? = some (.cells xs.toArray T (0, 0))) (i : Nat) (x : Value) (hx : xs[i]? = some x) : w.cell? ⟨b, i, none⟩ = some x := by
  rw [Lib.cell_of_heap h]
  simpa using hx
theorem bw_frozen (w : World) (e : TypeId) (s : ByteArray) (j : Nat) (hj : j < s.size) : (Lib.bytesWorld w e s).frozen? ⟨w.heap.size, j, none⟩ = false := by
  have h : s.size ≤ (Lib.bytesCells w e s).size := by simp [Lib.bytesCells]
  simp [World.frozen?, Lib.bytesWorld_at_new]
  omega
theorem back_any (ps : List PC) (sb : ByteArray) (a0 b0 : Int) (v : Value) (w : World) (hp : PcL w v ps) (hok : ∀ p ∈ ps, OkC p) (ha0 : 0 ≤ a0) (ha1 : a0 ≤ 65535) (hb0 : 0 ≤ b0) (hb1 : b0 ≤ 255) (hE : Env w) :
    Calls Tryz.prog 5 #[v, .string sb, .int .u16 a0, .int .u8 b0] w fun e w' => e = .returned (.bool true) ∧ Below w.heap.size w w' := by
  obtain ⟨s, hs⟩ : ∃ s : List UInt8, (⟨s.toArray⟩ : ByteArray) = sb := ⟨sb.data.toList, by simp⟩
  obtain ⟨N, hN⟩ : ∃ N, sb.size = N := ⟨_, rfl⟩
  have hsN : s.length = N := by rw [← hN, ← hs]; simp [ByteArray.size]
  have HS := Lib.hid (And.intro hs hsN)
  have HH := heavy_any ps v w hp hok
  have HE := Lib.hid hE
  have HP := Lib.hid (And.intro hp hok)
  clear hs hsN hE hp hok
  go_enter Tryz.func5, Tryz.ntmps5
  go_wp2_with fail
  refine HH.mono ?_
  rintro e w1 ⟨b, rfl, B1, hsm⟩
  have HB1 := Lib.hid B1
  have HW := works_any w1 (HE.out.below B1)
  clear HH B1
  cases b with
  | true =>
    clear hsm
    go_wp2_with fail
    refine HW.mono ?_
    rintro e w2 ⟨rfl, B2⟩
    have HB2 := Lib.hid (HB1.out.trans (B2.mono HB1.out.size))
    clear B2 HW
    go_wp2_with fail
    go_ret
    exact ⟨rfl, HB2.out⟩
  | false =>
  obtain ⟨hL200, hsx⟩ := hsm rfl
  clear hsm
  by_cases h4 : (4096 : Int) < (N : Int)
  · go_wp2_with fail
    refine HW.mono ?_
    rintro e w2 ⟨rfl, B2⟩
    have HB2 := Lib.hid (HB1.out.trans (B2.mono HB1.out.size))
    clear B2 HW
    go_wp2_with fail
    go_ret
    exact ⟨rfl, HB2.out⟩
  have hN4 : N ≤ 4096 := by omega
  have HG := Grow_any 20 ps v w1 (HP.out.1.below HB1.out) HP.out.2 (by omega) (by decide)
  rw [show ((20 : Nat) : Int) = 20 from rfl] at HG
  clear HW
  go_wp2_with fail
  refine HG.mono ?_
  rintro e w2 ⟨o, n2, rfl, B2, hn2, ht2⟩
  have HB2 := Lib.hid (HB1.out.trans (B2.mono HB1.out.size))
  have HO : Hid (∀ t, o = some t → IsT w2 (w1.heap.size ≤ ·) t ∧ t.nodes.Nodup ∧ t.cnt ≤ 200 ∧ t.deep ≤ 20 ∧ AllD OkN t) := Lib.hid (fun t ht => by
    obtain ⟨h1, h2, h3, h4, h5⟩ := ht2 t ht
    exact ⟨h1, h2, by omega, h4, h5.mono (fun d hd => fromP_ok HP.out.2 hsx hd)⟩)
  clear HG B2 ht2 hn2 hsx hL200
  rcases o with _ | t
  · have HT := tText_nil w2
    simp only [Option.map_none, encP]
    go_wp2_with fail
    refine HT.mono ?_
    rintro e w3 ⟨rfl, B3⟩
    have HB3 := Lib.hid (HB2.out.trans (B3.mono HB2.out.size))
    have HR : Calls Tryz.prog 28 #[.string ⟨#[]⟩] w3 fun e w' => ReP (readM []) w3 e w' := tRead_any w3 (HE.out.below HB3.out) [] (by decide)
    rw [read_none] at HR
    clear HT B3
    go_wp2_with fail
    refine HR.mono ?_
    rintro e w4 ⟨rfl, B4, _⟩
    have HB4 := Lib.hid (HB3.out.trans (B4.mono HB3.out.size))
    clear HR B4
    obtain ⟨wL, hwL⟩ : ∃ wL, w4.alloc (.cells #[.string sb, .string ⟨#[]⟩] 9) = wL := ⟨_, rfl⟩
    have hg : wL.heap[w4.heap.size]? = some (.cells [.string sb, .string ⟨#[]⟩].toArray 9 (0, 0)) := by rw [← hwL]; exact heap_alloc_new _ _
    obtain ⟨gL, hgL⟩ : ∃ gL, w4.heap.size = gL := ⟨_, rfl⟩
    obtain ⟨S, hSD⟩ : ∃ S : List (List UInt8), S = [s, []] := ⟨_, rfl⟩
    have HBL : Hid (Below w.heap.size w wL) := Lib.hid (HB4.out.trans (by rw [← hwL]; exact (below_new _ _).mono HB4.out.size))
    have HTL : Hid ((∀ i x, S[i]? = some x → wL.cell? ⟨gL, i, none⟩ = some (.string ⟨x.toArray⟩)) ∧ S.length = 2 ∧ gL < wL.heap.size ∧ ∀ x ∈ S, x.length ≤ 1048576) := Lib.hid (by
      subst hSD
      refine ⟨fun i x hx => cons_at (by rw [← hgL]; exact hg) i _ ?_, rfl, by rw [← hgL]; exact lt_heap hg, fun x hx => ?_⟩
      · match i, hx with
        | 0, hx =>
          obtain rfl := Option.some.inj hx
          rw [← HS.out.1]; rfl
        | 1, hx =>
          obtain rfl := Option.some.inj hx
          rfl
      · simp at hx
        rcases hx with rfl | rfl
        · have := HS.out.2; omega
        · simp)
    clear hg hSD
    go_wp2_with fail
    have hmm : S.length = 2 := HTL.out.2.1
    go_loopw [17] (fun i wq => ∃ k : Nat, k ≤ 2 ∧ i = .int .i64 k ∧ Below wL.heap.size wL wq) (fun i _ => 2 - (intOf i).toNat)
    case atStart => exact ⟨0, Nat.zero_le _, rfl, Below.refl _ _⟩
    case round =>
      obtain ⟨k, hk, rfl, hBq⟩ := hrel
      have HBQ := Lib.hid hBq
      have HBW := Lib.hid (HBL.out.trans (hBq.mono HBL.out.size))
      by_cases hkj : k < 2
      · obtain ⟨x, hx⟩ : ∃ x, S[k]? = some x := ⟨_, List.getElem?_eq_getElem (by omega)⟩
        have cX := (hBq.cell (p := ⟨gL, k, none⟩) HTL.out.2.2.1).trans (HTL.out.1 k x hx)
        have hxl : x.length ≤ 1048576 := HTL.out.2.2.2 x (List.mem_of_getElem? hx)
        have HR := tRead_any wr (HE.out.below HBW.out) x hxl
        have hk0 : (0 : Int) ≤ (k : Int) := by omega
        have hk1 : (k : Int) < 2 := by omega
        have HXL := Lib.hid (And.intro hxl hx)
        clear hxl hx hBq hmm
        obtain ⟨rd, hrd⟩ : ∃ rd, readM x = rd := ⟨_, rfl⟩
        rw [hrd] at HR
        have HRD := Lib.hid hrd
        clear hrd
        obtain ⟨xb, hxb⟩ : ∃ xb, (⟨x.toArray⟩ : ByteArray) = xb := ⟨_, rfl⟩
        rw [hxb] at cX HR
        have HXB := Lib.hid hxb
        clear hxb
        cases rd with
        | err c =>
          go_wp2_with fail
          refine HR.mono ?_
          rintro e wa ⟨rfl, Ba, hc⟩
          have hc1 : (c == 0) = false := beq_eq_false_iff_ne.2 hc
          have hc2 : (c != 0) = true := by rw [bne, hc1]; rfl
          have HBA := Lib.hid (HBQ.out.trans (Ba.mono HBQ.out.size))
          clear HR Ba hc cX
          go_wp2_with fail
          go_quiet (fail)
          go_wp2_with fail
          go_roundw
          case rel => exact ⟨k + 1, by omega, by simp, HBA.out.trans ((Fr.drewN _ _).below _ (by simp) HBA.out.size)⟩
          case measure => simp [intOf]; omega
        | ok dt r q =>
          go_wp2_with fail
          refine HR.mono ?_
          rintro e wa ⟨tr, rfl, Ba, hT, hdt, hnd⟩
          have htx : textT tr = x := by rw [← textD_dt, hdt, ← (read_back HRD.out).1]
          have hokt : OkT tr := okDT_dt tr (by rw [hdt]; exact (read_back HRD.out).2)
          have hcnt : tr.cnt ≤ 1048576 := by
            have h1 := cnt_text tr
            rw [htx] at h1
            have h2 := HXL.out.1
            omega
          have cXa := (Ba.cell (Lib.lt_of_cell cX)).trans cX
          have HBA := Lib.hid (HBQ.out.trans (Ba.mono HBQ.out.size))
          have HBZ := Lib.hid (HBW.out.trans (Ba.mono HBW.out.size))
          have HTX : ∀ w1 : World, (w1.cell? ⟨gL, k, none⟩ = some (.string xb) ∧ Below wa.heap.size wa w1) → Calls Tryz.prog 26 #[.pointer (some ⟨tr.p, 0, none⟩)] w1 fun e w2' => e = .returned (.string xb) ∧ (w2'.cell? ⟨gL, k, none⟩ = some (.string xb) ∧ Below wa.heap.size wa w2') := fun w1 ⟨q1, q2⟩ => by
            have h := tText_any w1 (HE.out.below (HBZ.out.trans (q2.mono HBZ.out.size))) tr (hT.below q2) hnd hcnt hokt (by rw [htx]; have := HXL.out.1; omega)
            rw [htx, HXB.out] at h
            refine h.mono ?_
            rintro e w3 ⟨rfl, B3⟩
            exact ⟨rfl, (B3.cell (Lib.lt_of_cell q1)).trans q1, q2.trans (B3.mono q2.size)⟩
          have hB0 : Below wa.heap.size wa wa := Below.refl _ _
          have hn1 : (xb.toList != xb.toList) = false := by simp
          have hn2 : (xb.toList == xb.toList) = true := by simp
          simp only [ptrV]
          clear HR Ba hT hdt hnd htx hokt hcnt cX
          go_wp2_with fail
          refine wp_region_held_drew (S := fun w' => w'.cell? ⟨gL, k, none⟩ = some (.string xb) ∧ Below wa.heap.size wa w') (by kernel_rfl) ?_ (fun hHeld => ?_)
          · exact ⟨cXa, hB0.drew⟩
          refine wpAnyH_take (i := 0) (v := ?_) rfl (by kernel_rfl) (by kernel_rfl) (by kernel_rfl) (fun _ _ _ h => h) (Or.inl ⟨by rfl, ?_⟩) (by assumption) ?_
          rotate_left
          · intro w hSw; (try dsimp only at hSw); go_simp; try with_reducible rfl
          simp only [Act.put, List.setIfInBounds_toArray, List.set_cons_zero, List.set_cons_succ, List.getElem_toArray, List.getElem_cons_zero, List.getElem_cons_succ]
          refine wpAnyH_take (i := 1) (v := ?_) rfl (by kernel_rfl) (by kernel_rfl) (by kernel_rfl) (fun _ _ _ h => h) (Or.inl ⟨by rfl, ?_⟩) (by assumption) ?_
          rotate_left
          · intro w hSw; (try dsimp only at hSw); go_simp; try with_reducible rfl
          simp only [Act.put, List.setIfInBounds_toArray, List.set_cons_zero, List.set_cons_succ, List.getElem_toArray, List.getElem_cons_zero, List.getElem_cons_succ]
          refine wpAnyH_take (i := 2) (v := ?_) rfl (by kernel_rfl) (by kernel_rfl) (by kernel_rfl) (fun _ _ _ h => h) (Or.inl ⟨by rfl, ?_⟩) (by assumption) ?_
          rotate_left
          · intro w hSw; (try dsimp only at hSw); go_simp; try with_reducible rfl
          simp only [Act.put, List.setIfInBounds_toArray, List.set_cons_zero, List.set_cons_succ, List.getElem_toArray, List.getElem_cons_zero, List.getElem_cons_succ]
          refine wpAnyH_take (i := 3) (v := ?_) rfl (by kernel_rfl) (by kernel_rfl) (by kernel_rfl) (fun _ _ _ h => h) (Or.inl ⟨by rfl, ?_⟩) (by assumption) ?_
          rotate_left
          · intro w hSw; (try dsimp only at hSw); go_simp; try with_reducible rfl
          simp only [Act.put, List.setIfInBounds_toArray, List.set_cons_zero, List.set_cons_succ, List.getElem_toArray, List.getElem_cons_zero, List.getElem_cons_succ]
          refine wpAnyH_take (i := 4) (v := ?_) rfl (by kernel_rfl) (by kernel_rfl) (by kernel_rfl) (fun _ _ _ h => h) (Or.inl ⟨by rfl, ?_⟩) (by assumption) ?_
          rotate_left
          · intro w hSw; (try dsimp only at hSw); go_simp; try with_reducible rfl
          simp only [Act.put, List.setIfInBounds_toArray, List.set_cons_zero, List.set_cons_succ, List.getElem_toArray, List.getElem_cons_zero, List.getElem_cons_succ]
          refine wpAnyH_take (i := 5) (v := ?_) rfl (by kernel_rfl) (by kernel_rfl) (by kernel_rfl) (fun _ _ _ h => h) (Or.inl ⟨by rfl, ?_⟩) (by assumption) ?_
          rotate_left
          · intro w hSw; (try dsimp only at hSw); go_simp; try with_reducible rfl
          simp only [Act.put, List.setIfInBounds_toArray, List.set_cons_zero, List.set_cons_succ, List.getElem_toArray, List.getElem_cons_zero, List.getElem_cons_succ]
          refine wpAnyH_take (i := 6) (v := ?_) rfl (by kernel_rfl) (by kernel_rfl) (by kernel_rfl) (fun _ _ _ h => h) (Or.inl ⟨by rfl, ?_⟩) (by assumption) ?_
          rotate_left
          · intro w hSw; (try dsimp only at hSw); go_simp; try with_reducible rfl
          simp only [Act.put, List.setIfInBounds_toArray, List.set_cons_zero, List.set_cons_succ, List.getElem_toArray, List.getElem_cons_zero, List.getElem_cons_succ]
          refine wpAnyH_take (i := 8) (v := ?_) rfl (by kernel_rfl) (by kernel_rfl) (by kernel_rfl) (fun _ _ _ h => h) (Or.inl ⟨by rfl, ?_⟩) (by assumption) ?_
          rotate_left
          · intro w hSw; (try dsimp only at hSw); go_simp; try with_reducible rfl
          simp only [Act.put, List.setIfInBounds_toArray, List.set_cons_zero, List.set_cons_succ, List.getElem_toArray, List.getElem_cons_zero, List.getElem_cons_succ]
          refine wpAnyH_take (i := 9) (v := ?_) rfl (by kernel_rfl) (by kernel_rfl) (by kernel_rfl) (fun _ _ _ h => h) (Or.inl ⟨by rfl, ?_⟩) (by assumption) ?_
          rotate_left
          · intro w hSw; (try dsimp only at hSw); go_simp; try with_reducible rfl
          simp only [Act.put, List.setIfInBounds_toArray, List.set_cons_zero, List.set_cons_succ, List.getElem_toArray, List.getElem_cons_zero, List.getElem_cons_succ]
          refine wpAnyH_take (i := 10) (v := ?_) rfl (by kernel_rfl) (by kernel_rfl) (by kernel_rfl) (fun _ _ _ h => h) (Or.inl ⟨by rfl, ?_⟩) (by assumption) ?_
          rotate_left
          · intro w hSw; (try dsimp only at hSw); go_simp; try with_reducible rfl
          simp only [Act.put, List.setIfInBounds_toArray, List.set_cons_zero, List.set_cons_succ, List.getElem_toArray, List.getElem_cons_zero, List.getElem_cons_succ]
          refine wpAnyH_take (i := 11) (v := ?_) rfl (by kernel_rfl) (by kernel_rfl) (by kernel_rfl) (fun _ _ _ h => h) (Or.inl ⟨by rfl, ?_⟩) (by assumption) ?_
          rotate_left
          · intro w hSw; (try dsimp only at hSw); go_simp; try with_reducible rfl
          simp only [Act.put, List.setIfInBounds_toArray, List.set_cons_zero, List.set_cons_succ, List.getElem_toArray, List.getElem_cons_zero, List.getElem_cons_succ]
          refine wpAnyH_ready (rs := [7]) (by kernel_rfl) (by simp) ?_
          refine AllReadyH.cons rfl (fun K hK => ?_) ?_
          rotate_left
          · exact AllReadyH.nil
          go_simp
          go_at_call 26
          refine (HTX _ hHeld).mono ?_
          rintro e w9 ⟨rfl, hS⟩
          go_wp2_with fail
          refine hK.out _ _ hS (fun hHeld => ?_)
          clear hK K
          refine wpAnyH_take (i := 12) (v := ?_) rfl (by kernel_rfl) (by kernel_rfl) (by kernel_rfl) (fun _ _ _ h => h) (Or.inl ⟨by rfl, ?_⟩) (by assumption) ?_
          rotate_left
          · intro w hSw; (try dsimp only at hSw); go_simp; try with_reducible rfl
          simp only [Act.put, List.setIfInBounds_toArray, List.set_cons_zero, List.set_cons_succ, List.getElem_toArray, List.getElem_cons_zero, List.getElem_cons_succ]
          refine wpAnyH_take (i := 13) (v := ?_) rfl (by kernel_rfl) (by kernel_rfl) (by kernel_rfl) (fun _ _ _ h => h) (Or.inl ⟨by rfl, ?_⟩) (by assumption) ?_
          rotate_left
          · intro w hSw; (try dsimp only at hSw); go_simp; try with_reducible rfl
          simp only [Act.put, List.setIfInBounds_toArray, List.set_cons_zero, List.set_cons_succ, List.getElem_toArray, List.getElem_cons_zero, List.getElem_cons_succ]
          refine wpAnyH_take (i := 14) (v := ?_) rfl (by kernel_rfl) (by kernel_rfl) (by kernel_rfl) (fun _ _ _ h => h) (Or.inl ⟨by rfl, ?_⟩) (by assumption) ?_
          rotate_left
          · intro w hSw; (try dsimp only at hSw); go_simp; try with_reducible rfl
          simp only [Act.put, List.setIfInBounds_toArray, List.set_cons_zero, List.set_cons_succ, List.getElem_toArray, List.getElem_cons_zero, List.getElem_cons_succ]
          refine wpAnyH_take (i := 15) (v := ?_) rfl (by kernel_rfl) (by kernel_rfl) (by kernel_rfl) (fun _ _ _ h => h) (Or.inl ⟨by rfl, ?_⟩) (by assumption) ?_
          rotate_left
          · intro w hSw; (try dsimp only at hSw); go_simp; try with_reducible rfl
          simp only [Act.put, List.setIfInBounds_toArray, List.set_cons_zero, List.set_cons_succ, List.getElem_toArray, List.getElem_cons_zero, List.getElem_cons_succ]
          refine wpAnyH_take (i := 16) (v := ?_) rfl (by kernel_rfl) (by kernel_rfl) (by kernel_rfl) (fun _ _ _ h => h) (Or.inl ⟨by rfl, ?_⟩) (by assumption) ?_
          rotate_left
          · intro w hSw; (try dsimp only at hSw); go_simp; try with_reducible rfl
          simp only [Act.put, List.setIfInBounds_toArray, List.set_cons_zero, List.set_cons_succ, List.getElem_toArray, List.getElem_cons_zero, List.getElem_cons_succ]
          refine wpAnyH_take (i := 17) (v := ?_) rfl (by kernel_rfl) (by kernel_rfl) (by kernel_rfl) (fun _ _ _ h => h) (Or.inl ⟨by rfl, ?_⟩) (by assumption) ?_
          rotate_left
          · intro w hSw; (try dsimp only at hSw); go_simp; try with_reducible rfl
          simp only [Act.put, List.setIfInBounds_toArray, List.set_cons_zero, List.set_cons_succ, List.getElem_toArray, List.getElem_cons_zero, List.getElem_cons_succ]
          refine wpAnyH_take (i := 18) (v := ?_) rfl (by kernel_rfl) (by kernel_rfl) (by kernel_rfl) (fun _ _ _ h => h) (Or.inl ⟨by rfl, ?_⟩) (by assumption) ?_
          rotate_left
          · intro w hSw; (try dsimp only at hSw); go_simp; try with_reducible rfl
          simp only [Act.put, List.setIfInBounds_toArray, List.set_cons_zero, List.set_cons_succ, List.getElem_toArray, List.getElem_cons_zero, List.getElem_cons_succ]
          refine wpAnyH_take (i := 19) (v := undef) rfl (by kernel_rfl) (by kernel_rfl) (by kernel_rfl) (fun _ _ _ h => h) (Or.inr ⟨by rfl, rfl⟩) (by assumption) ?_
          simp only [Act.put, List.setIfInBounds_toArray, List.set_cons_zero, List.set_cons_succ, List.getElem_toArray, List.getElem_cons_zero, List.getElem_cons_succ]
          refine wpAnyH_take (i := 20) (v := undef) rfl (by kernel_rfl) (by kernel_rfl) (by kernel_rfl) (fun _ _ _ h => h) (Or.inr ⟨by rfl, rfl⟩) (by assumption) ?_
          simp only [Act.put, List.setIfInBounds_toArray, List.set_cons_zero, List.set_cons_succ, List.getElem_toArray, List.getElem_cons_zero, List.getElem_cons_succ]
          refine wpAnyH_take (i := 21) (v := ?_) rfl (by kernel_rfl) (by kernel_rfl) (by kernel_rfl) (fun _ _ _ h => h) (Or.inl ⟨by rfl, ?_⟩) (by assumption) ?_
          rotate_left
          · intro w hSw; (try dsimp only at hSw); go_simp; try with_reducible rfl
          simp only [Act.put, List.setIfInBounds_toArray, List.set_cons_zero, List.set_cons_succ, List.getElem_toArray, List.getElem_cons_zero, List.getElem_cons_succ]
          refine wpAnyH_take (i := 22) (v := ?_) rfl (by kernel_rfl) (by kernel_rfl) (by kernel_rfl) (fun _ _ _ h => h) (Or.inl ⟨by rfl, ?_⟩) (by assumption) ?_
          rotate_left
          · intro w hSw; (try dsimp only at hSw); go_simp; try with_reducible rfl
          simp only [Act.put, List.setIfInBounds_toArray, List.set_cons_zero, List.set_cons_succ, List.getElem_toArray, List.getElem_cons_zero, List.getElem_cons_succ]
          refine wpAnyH_done (by kernel_rfl) ?_ _
          have HB9 := Lib.hid (HBA.out.trans (hS.2.mono HBA.out.size))
          clear HTX hS hHeld cXa hB0
          go_wp2_with fail
          go_roundw
          case rel => exact ⟨k + 1, by omega, by simp, HB9.out⟩
          case measure => simp [intOf]; omega
      · obtain rfl : k = 2 := by omega
        have HW := works_any wr (HE.out.below HBW.out)
        clear hBq
        go_wp2_with fail
        refine HW.mono ?_
        rintro e w5 ⟨rfl, B5⟩
        have HB11 := Lib.hid (HBW.out.trans (B5.mono HBW.out.size))
        clear HW B5
        go_wp2_with fail
        go_ret
        exact ⟨rfl, HB11.out⟩
  · obtain ⟨q1, q2, q3, q4, q5⟩ := HO.out t rfl
    have hokt := allD_okT t q5
    have htb := text_bound t q5
    have htl : (textT t).length ≤ 838200 := by
      have : t.cnt * 4191 ≤ 200 * 4191 := Nat.mul_le_mul_right _ q3
      omega
    have hne := text_ne t
    have hread := read_text t hokt (by omega) (by omega) (by omega)
    have HT := tText_any w2 (HE.out.below HB2.out) t q1 q2 (by omega) hokt (by omega)
    obtain ⟨tx, htx⟩ : ∃ tx, textT t = tx := ⟨_, rfl⟩
    rw [htx] at HT hread htl hne
    obtain ⟨tb, htbe⟩ : ∃ tb, (⟨tx.toArray⟩ : ByteArray) = tb := ⟨_, rfl⟩
    have HTB := Lib.hid htbe
    have htsz : tb.size = tx.length := by rw [← htbe]; simp [ByteArray.size]
    rw [htbe] at HT
    have HQ := Lib.hid (And.intro q1 (And.intro hread htl))
    clear q1 q2 q3 q4 q5 hokt htb hread htx
    simp only [Option.map_some, encP, ptrV]
    simp only [ptrV] at HT
    go_wp2_with fail
    refine HT.mono ?_
    rintro e w3 ⟨rfl, B3⟩
    have HB3 := Lib.hid (HB2.out.trans (B3.mono HB2.out.size))
    have HR := tRead_any w3 (HE.out.below HB3.out) tx (by omega)
    rw [HQ.out.2.1, htbe] at HR
    have hT3 := HQ.out.1.below B3
    clear HT B3 htbe
    go_wp2_with fail
    refine HR.mono ?_
    rintro e w4 ⟨tr, rfl, B4, hT4, hdt, _⟩
    have HB4 := Lib.hid (HB3.out.trans (B4.mono HB3.out.size))
    have HX := rExact_any t.cnt t tr w4 (Nat.le_refl _) (hT3.below B4) hT4 (sim_nrm t tr hdt)
    simp only [ptrV] at HX ⊢
    clear HR B4 hT4 hdt hT3
    go_wp2_with fail
    refine HX.mono ?_
    rintro e w5 ⟨rfl, B5⟩
    have HB5 := Lib.hid (HB4.out.trans (B5.mono HB4.out.size))
    clear HX B5
    obtain ⟨w6, hw6⟩ : ∃ w6, w5.alloc (.cells #[.string sb, .string tb] 9) = w6 := ⟨_, rfl⟩
    have hown6 := World.ownsRow_lit (base := 0) (e := 9) (size := 1) w5 #[.string sb, .string tb] 2 (Nat.zero_le _) (by decide) rfl
    rw [hw6] at hown6
    have hs6 : w6.heap.size = w5.heap.size + 1 := by rw [← hw6]; simp
    have HB6 : Hid (Below w.heap.size w w6) := Lib.hid (HB5.out.trans (by rw [← hw6]; exact (below_new _ _).mono HB5.out.size))
    have hcv := Lib.run_convert_string_bytes (P := Tryz.prog) w6 9 45 5 tb Tryz.underlying9 Tryz.underlying45 Tryz.underlying5
    have hne2 : (tb.toList == ([] : List UInt8)) = false := by
      rw [ByteArray.toList_eq]
      have : tb.data.toList.length ≠ 0 := by
        have : tb.data.toList.length = tb.size := rfl
        omega
      cases h : tb.data.toList with
      | nil => rw [h] at this; simp at this
      | cons => rfl
    have hnz : (tx.length : Int) ≠ 0 := by omega
    obtain ⟨kk, hkk⟩ : ∃ kk : Nat, a0 % (tx.length : Int) = (kk : Int) := Int.eq_ofNat_of_zero_le (Int.emod_nonneg a0 hnz)
    have hk0 : (0 : Int) ≤ (kk : Int) := by omega
    have hk1 : (kk : Int) < (tx.length : Int) := by rw [← hkk]; exact Int.emod_lt_of_pos _ (by omega)
    have hkl : kk < tx.length := by omega
    obtain ⟨wy, hwy⟩ : ∃ wy, Lib.bytesWorld w6 5 tb = wy := ⟨_, rfl⟩
    have hcell : ∀ j, j < tx.length → wy.cell? ⟨w5.heap.size + 1, j, none⟩ = some (.int .u8 ((tx.getD j 0).toNat : Int)) := fun j hj => by
      have h := Lib.bytesWorld_cell w6 5 tb j (by omega)
      rw [hs6, hwy] at h
      rw [h, ← HTB.out]
    have hfz : wy.frozen? ⟨w5.heap.size + 1, kk, none⟩ = false := by
      have h := bw_frozen w6 5 tb kk (by omega)
      rw [hs6, hwy] at h
      exact h
    obtain ⟨xk, hxk⟩ : ∃ xk : Int, ((tx.getD kk 0).toNat : Int) = xk := ⟨_, rfl⟩
    have cK := hcell kk hkl
    rw [hxk] at cK
    have FY : Fr [] w6 wy := by rw [← hwy]; exact Fr.of_below (Lib.bytesWorld_below w6 5 tb)
    have hsy : wy.heap.size = w5.heap.size + 2 := by rw [← hwy, Lib.bytesWorld_size, hs6]
    rw [hwy] at hcv
    obtain ⟨c, hxr⟩ := xor_byte xk b0
    obtain ⟨wz, hwz⟩ : ∃ wz, wy.setCell ⟨w5.heap.size + 1, kk, none⟩ (.int .u8 (c.toNat : Int)) = wz := ⟨_, rfl⟩
    have FZ : Fr [w5.heap.size + 1] w6 wz := by
      rw [← hwz]
      exact (FY.mono (by simp)).trans (Fr.set _ _ _ _) (fun j hj => .inl hj)
    have hcz : ∀ j (hj : j < (tx.set kk c).length), wz.cell? ((⟨w5.heap.size + 1, 0, none⟩ : Addr).add j) = some (.int .u8 ((tx.set kk c)[j].toNat : Int)) := fun j hj => by
      rw [Lib.add_plain, Nat.zero_add, ← hwz]
      rw [List.length_set] at hj
      by_cases e : j = kk
      · subst e
        rw [cell_same _ _ _ _ _ cK]
        simp
      · rw [cell_other _ _ _ _ _ _ (.inr (fun h => e h.symm)), hcell j hj]
        rw [List.getElem_set_ne (fun h => e h.symm)]
        simp [List.getD, hj]
    have hbk := run_convert_bytes_back (P := Tryz.prog) wz 45 9 5 ⟨w5.heap.size + 1, 0, none⟩ (grownCap w6 tx.length 0 5) (tx.set kk c) Tryz.underlying45 Tryz.underlying5 Tryz.underlying9 hcz
    rw [List.length_set] at hbk
    obtain ⟨t2, ht2⟩ : ∃ t2, (⟨(tx.set kk c).toArray⟩ : ByteArray) = t2 := ⟨_, rfl⟩
    rw [ht2] at hbk
    have HT2 := Lib.hid ht2
    have hown7 := own_keep hown6 FZ (fun j hj => by
      obtain rfl : j = w5.heap.size := by simpa [obL, Value.ownBlock] using hj
      simp)
    have hsr := hown7.alloc (.cells #[.string t2] 9)
    have HN1 := Lib.hid (new1 wz (.string t2) 9)
    have HO1 : Hid (∀ u ∈ [(.string t2 : Value)], u.oneCell' = true) := Lib.hid (fun u hu => by
      obtain rfl : u = .string t2 := by simpa using hu
      rfl)
    obtain ⟨i0, hi, hz0, hz1, hz2⟩ := info_parts infoS
    have HFZ := Lib.hid (And.intro FZ hs6)
    clear hcz hcell hxk FY FZ hown6 hown7 ht2
    go_wp2_with (at_builtin; refine wpList_append_lies _ rfl _ _ 44 rfl 0 9 i0 _ 1 16 Tryz.underlying44 hi hz0 hz1 hz2 rfl (by decide) (.slice (some ⟨w5.heap.size, 0, none⟩) 2 2) 2 _ rfl hsr ⟨wz.heap.size, 0, none⟩ 1 1 [.string t2] rfl rfl HN1.out HO1.out (by decide) (by unfold maxLen; omega) (by omega) (by simp <;> omega) (wz.heap.size + 1) (by simp) ?_)
    intro gL capL wL hown hgrow hat hltL
    have FL : Fr [w5.heap.size] wz wL := ((Fr.alloc wz (.cells #[.string t2] 9)).mono (by simp)).trans (Fr.of_grown hgrow) (fun j hj => .inl (by simpa [Value.ownBlock] using hj))
    have HBL : Hid (Below w.heap.size w wL) := Lib.hid (by
      have h1 := HB5.out.size
      have h6 := HB6.out.size
      have hz := HFZ.out.1.size
      exact (HB6.out.trans (HFZ.out.1.below w.heap.size (fun j hj => by simp at hj; omega) h6)).trans (FL.below w.heap.size (fun j hj => by simp at hj; omega) (by omega)))
    obtain ⟨S, hSD⟩ : ∃ S : List (List UInt8), S = [s, tx, tx.set kk c] := ⟨_, rfl⟩
    have HTL : Hid ((∀ i x, S[i]? = some x → wL.cell? ⟨gL, i, none⟩ = some (.string ⟨x.toArray⟩)) ∧ S.length = 3 ∧ gL < wL.heap.size ∧ ∀ x ∈ S, x.length ≤ 1048576) := Lib.hid (by
      subst hSD
      refine ⟨fun i x hx => ?_, rfl, (hown.lt gL rfl).2, fun x hx => ?_⟩
      · match i, hx with
        | 0, hx =>
          obtain rfl := Option.some.inj hx
          rw [hown.cellAt 0 (by decide), HS.out.1]; rfl
        | 1, hx =>
          obtain rfl := Option.some.inj hx
          rw [hown.cellAt 1 (by decide), HTB.out]; rfl
        | 2, hx =>
          obtain rfl := Option.some.inj hx
          rw [hown.cellAt 2 (by decide), HT2.out]; rfl
      · simp at hx
        rcases hx with rfl | rfl | rfl
        · have := HS.out.2; omega
        · omega
        · rw [List.length_set]; omega)
    clear hown hgrow hat FL hSD hsr HN1 HO1 hcv hbk hxr hwz hwy hw6 cK hfz hkk
    go_wp2_with fail
    have hmm : S.length = 3 := HTL.out.2.1
    go_loopw [17] (fun i wq => ∃ k : Nat, k ≤ 3 ∧ i = .int .i64 k ∧ Below wL.heap.size wL wq) (fun i _ => 3 - (intOf i).toNat)
    case atStart => exact ⟨0, Nat.zero_le _, rfl, Below.refl _ _⟩
    case round =>
      obtain ⟨k, hk, rfl, hBq⟩ := hrel
      have HBQ := Lib.hid hBq
      have HBW := Lib.hid (HBL.out.trans (hBq.mono HBL.out.size))
      by_cases hkj : k < 3
      · obtain ⟨x, hx⟩ : ∃ x, S[k]? = some x := ⟨_, List.getElem?_eq_getElem (by omega)⟩
        have cX := (hBq.cell (p := ⟨gL, k, none⟩) HTL.out.2.2.1).trans (HTL.out.1 k x hx)
        have hxl : x.length ≤ 1048576 := HTL.out.2.2.2 x (List.mem_of_getElem? hx)
        have HR := tRead_any wr (HE.out.below HBW.out) x hxl
        have hk0 : (0 : Int) ≤ (k : Int) := by omega
        have hk1 : (k : Int) < 3 := by omega
        have HXL := Lib.hid (And.intro hxl hx)
        clear hxl hx hBq hmm
        obtain ⟨rd, hrd⟩ : ∃ rd, readM x = rd := ⟨_, rfl⟩
        rw [hrd] at HR
        have HRD := Lib.hid hrd
        clear hrd
        obtain ⟨xb, hxb⟩ : ∃ xb, (⟨x.toArray⟩ : ByteArray) = xb := ⟨_, rfl⟩
        rw [hxb] at cX HR
        have HXB := Lib.hid hxb
        clear hxb
        cases rd with
        | err c =>
          go_wp2_with fail
          refine HR.mono ?_
          rintro e wa ⟨rfl, Ba, hc⟩
          have hc1 : (c == 0) = false := beq_eq_false_iff_ne.2 hc
          have hc2 : (c != 0) = true := by rw [bne, hc1]; rfl
          have HBA := Lib.hid (HBQ.out.trans (Ba.mono HBQ.out.size))
          clear HR Ba hc cX
          go_wp2_with fail
          go_quiet (fail)
          go_wp2_with fail
          go_roundw
          case rel => exact ⟨k + 1, by omega, by simp, HBA.out.trans ((Fr.drewN _ _).below _ (by simp) HBA.out.size)⟩
          case measure => simp [intOf]; omega
        | ok dt r q =>
          go_wp2_with fail
          refine HR.mono ?_
          rintro e wa ⟨tr, rfl, Ba, hT, hdt, hnd⟩
          have htx : textT tr = x := by rw [← textD_dt, hdt, ← (read_back HRD.out).1]
          have hokt : OkT tr := okDT_dt tr (by rw [hdt]; exact (read_back HRD.out).2)
          have hcnt : tr.cnt ≤ 1048576 := by
            have h1 := cnt_text tr
            rw [htx] at h1
            have h2 := HXL.out.1
            omega
          have cXa := (Ba.cell (Lib.lt_of_cell cX)).trans cX
          have HBA := Lib.hid (HBQ.out.trans (Ba.mono HBQ.out.size))
          have HBZ := Lib.hid (HBW.out.trans (Ba.mono HBW.out.size))
          have HTX : ∀ w1 : World, (w1.cell? ⟨gL, k, none⟩ = some (.string xb) ∧ Below wa.heap.size wa w1) → Calls Tryz.prog 26 #[.pointer (some ⟨tr.p, 0, none⟩)] w1 fun e w2' => e = .returned (.string xb) ∧ (w2'.cell? ⟨gL, k, none⟩ = some (.string xb) ∧ Below wa.heap.size wa w2') := fun w1 ⟨q1, q2⟩ => by
            have h := tText_any w1 (HE.out.below (HBZ.out.trans (q2.mono HBZ.out.size))) tr (hT.below q2) hnd hcnt hokt (by rw [htx]; have := HXL.out.1; omega)
            rw [htx, HXB.out] at h
            refine h.mono ?_
            rintro e w3 ⟨rfl, B3⟩
            exact ⟨rfl, (B3.cell (Lib.lt_of_cell q1)).trans q1, q2.trans (B3.mono q2.size)⟩
          have hB0 : Below wa.heap.size wa wa := Below.refl _ _
          have hn1 : (xb.toList != xb.toList) = false := by simp
          have hn2 : (xb.toList == xb.toList) = true := by simp
          simp only [ptrV]
          clear HR Ba hT hdt hnd htx hokt hcnt cX
          go_wp2_with fail
          refine wp_region_held_drew (S := fun w' => w'.cell? ⟨gL, k, none⟩ = some (.string xb) ∧ Below wa.heap.size wa w') (by kernel_rfl) ?_ (fun hHeld => ?_)
          · exact ⟨cXa, hB0.drew⟩
          refine wpAnyH_take (i := 0) (v := ?_) rfl (by kernel_rfl) (by kernel_rfl) (by kernel_rfl) (fun _ _ _ h => h) (Or.inl ⟨by rfl, ?_⟩) (by assumption) ?_
          rotate_left
          · intro w hSw; (try dsimp only at hSw); go_simp; try with_reducible rfl
          simp only [Act.put, List.setIfInBounds_toArray, List.set_cons_zero, List.set_cons_succ, List.getElem_toArray, List.getElem_cons_zero, List.getElem_cons_succ]
          refine wpAnyH_take (i := 1) (v := ?_) rfl (by kernel_rfl) (by kernel_rfl) (by kernel_rfl) (fun _ _ _ h => h) (Or.inl ⟨by rfl, ?_⟩) (by assumption) ?_
          rotate_left
          · intro w hSw; (try dsimp only at hSw); go_simp; try with_reducible rfl
          simp only [Act.put, List.setIfInBounds_toArray, List.set_cons_zero, List.set_cons_succ, List.getElem_toArray, List.getElem_cons_zero, List.getElem_cons_succ]
          refine wpAnyH_take (i := 2) (v := ?_) rfl (by kernel_rfl) (by kernel_rfl) (by kernel_rfl) (fun _ _ _ h => h) (Or.inl ⟨by rfl, ?_⟩) (by assumption) ?_
          rotate_left
          · intro w hSw; (try dsimp only at hSw); go_simp; try with_reducible rfl
          simp only [Act.put, List.setIfInBounds_toArray, List.set_cons_zero, List.set_cons_succ, List.getElem_toArray, List.getElem_cons_zero, List.getElem_cons_succ]
          refine wpAnyH_take (i := 3) (v := ?_) rfl (by kernel_rfl) (by kernel_rfl) (by kernel_rfl) (fun _ _ _ h => h) (Or.inl ⟨by rfl, ?_⟩) (by assumption) ?_
          rotate_left
          · intro w hSw; (try dsimp only at hSw); go_simp; try with_reducible rfl
          simp only [Act.put, List.setIfInBounds_toArray, List.set_cons_zero, List.set_cons_succ, List.getElem_toArray, List.getElem_cons_zero, List.getElem_cons_succ]
          refine wpAnyH_take (i := 4) (v := ?_) rfl (by kernel_rfl) (by kernel_rfl) (by kernel_rfl) (fun _ _ _ h => h) (Or.inl ⟨by rfl, ?_⟩) (by assumption) ?_
          rotate_left
          · intro w hSw; (try dsimp only at hSw); go_simp; try with_reducible rfl
          simp only [Act.put, List.setIfInBounds_toArray, List.set_cons_zero, List.set_cons_succ, List.getElem_toArray, List.getElem_cons_zero, List.getElem_cons_succ]
          refine wpAnyH_take (i := 5) (v := ?_) rfl (by kernel_rfl) (by kernel_rfl) (by kernel_rfl) (fun _ _ _ h => h) (Or.inl ⟨by rfl, ?_⟩) (by assumption) ?_
          rotate_left
          · intro w hSw; (try dsimp only at hSw); go_simp; try with_reducible rfl
          simp only [Act.put, List.setIfInBounds_toArray, List.set_cons_zero, List.set_cons_succ, List.getElem_toArray, List.getElem_cons_zero, List.getElem_cons_succ]
          refine wpAnyH_take (i := 6) (v := ?_) rfl (by kernel_rfl) (by kernel_rfl) (by kernel_rfl) (fun _ _ _ h => h) (Or.inl ⟨by rfl, ?_⟩) (by assumption) ?_
          rotate_left
          · intro w hSw; (try dsimp only at hSw); go_simp; try with_reducible rfl
          simp only [Act.put, List.setIfInBounds_toArray, List.set_cons_zero, List.set_cons_succ, List.getElem_toArray, List.getElem_cons_zero, List.getElem_cons_succ]
          refine wpAnyH_take (i := 8) (v := ?_) rfl (by kernel_rfl) (by kernel_rfl) (by kernel_rfl) (fun _ _ _ h => h) (Or.inl ⟨by rfl, ?_⟩) (by assumption) ?_
          rotate_left
          · intro w hSw; (try dsimp only at hSw); go_simp; try with_reducible rfl
          simp only [Act.put, List.setIfInBounds_toArray, List.set_cons_zero, List.set_cons_succ, List.getElem_toArray, List.getElem_cons_zero, List.getElem_cons_succ]
          refine wpAnyH_take (i := 9) (v := ?_) rfl (by kernel_rfl) (by kernel_rfl) (by kernel_rfl) (fun _ _ _ h => h) (Or.inl ⟨by rfl, ?_⟩) (by assumption) ?_
          rotate_left
          · intro w hSw; (try dsimp only at hSw); go_simp; try with_reducible rfl
          simp only [Act.put, List.setIfInBounds_toArray, List.set_cons_zero, List.set_cons_succ, List.getElem_toArray, List.getElem_cons_zero, List.getElem_cons_succ]
          refine wpAnyH_take (i := 10) (v := ?_) rfl (by kernel_rfl) (by kernel_rfl) (by kernel_rfl) (fun _ _ _ h => h) (Or.inl ⟨by rfl, ?_⟩) (by assumption) ?_
          rotate_left
          · intro w hSw; (try dsimp only at hSw); go_simp; try with_reducible rfl
          simp only [Act.put, List.setIfInBounds_toArray, List.set_cons_zero, List.set_cons_succ, List.getElem_toArray, List.getElem_cons_zero, List.getElem_cons_succ]
          refine wpAnyH_take (i := 11) (v := ?_) rfl (by kernel_rfl) (by kernel_rfl) (by kernel_rfl) (fun _ _ _ h => h) (Or.inl ⟨by rfl, ?_⟩) (by assumption) ?_
          rotate_left
          · intro w hSw; (try dsimp only at hSw); go_simp; try with_reducible rfl
          simp only [Act.put, List.setIfInBounds_toArray, List.set_cons_zero, List.set_cons_succ, List.getElem_toArray, List.getElem_cons_zero, List.getElem_cons_succ]
          refine wpAnyH_ready (rs := [7]) (by kernel_rfl) (by simp) ?_
          refine AllReadyH.cons rfl (fun K hK => ?_) ?_
          rotate_left
          · exact AllReadyH.nil
          go_simp
          go_at_call 26
          refine (HTX _ hHeld).mono ?_
          rintro e w9 ⟨rfl, hS⟩
          go_wp2_with fail
          refine hK.out _ _ hS (fun hHeld => ?_)
          clear hK K
          refine wpAnyH_take (i := 12) (v := ?_) rfl (by kernel_rfl) (by kernel_rfl) (by kernel_rfl) (fun _ _ _ h => h) (Or.inl ⟨by rfl, ?_⟩) (by assumption) ?_
          rotate_left
          · intro w hSw; (try dsimp only at hSw); go_simp; try with_reducible rfl
          simp only [Act.put, List.setIfInBounds_toArray, List.set_cons_zero, List.set_cons_succ, List.getElem_toArray, List.getElem_cons_zero, List.getElem_cons_succ]
          refine wpAnyH_take (i := 13) (v := ?_) rfl (by kernel_rfl) (by kernel_rfl) (by kernel_rfl) (fun _ _ _ h => h) (Or.inl ⟨by rfl, ?_⟩) (by assumption) ?_
          rotate_left
          · intro w hSw; (try dsimp only at hSw); go_simp; try with_reducible rfl
          simp only [Act.put, List.setIfInBounds_toArray, List.set_cons_zero, List.set_cons_succ, List.getElem_toArray, List.getElem_cons_zero, List.getElem_cons_succ]
          refine wpAnyH_take (i := 14) (v := ?_) rfl (by kernel_rfl) (by kernel_rfl) (by kernel_rfl) (fun _ _ _ h => h) (Or.inl ⟨by rfl, ?_⟩) (by assumption) ?_
          rotate_left
          · intro w hSw; (try dsimp only at hSw); go_simp; try with_reducible rfl
          simp only [Act.put, List.setIfInBounds_toArray, List.set_cons_zero, List.set_cons_succ, List.getElem_toArray, List.getElem_cons_zero, List.getElem_cons_succ]
          refine wpAnyH_take (i := 15) (v := ?_) rfl (by kernel_rfl) (by kernel_rfl) (by kernel_rfl) (fun _ _ _ h => h) (Or.inl ⟨by rfl, ?_⟩) (by assumption) ?_
          rotate_left
          · intro w hSw; (try dsimp only at hSw); go_simp; try with_reducible rfl
          simp only [Act.put, List.setIfInBounds_toArray, List.set_cons_zero, List.set_cons_succ, List.getElem_toArray, List.getElem_cons_zero, List.getElem_cons_succ]
          refine wpAnyH_take (i := 16) (v := ?_) rfl (by kernel_rfl) (by kernel_rfl) (by kernel_rfl) (fun _ _ _ h => h) (Or.inl ⟨by rfl, ?_⟩) (by assumption) ?_
          rotate_left
          · intro w hSw; (try dsimp only at hSw); go_simp; try with_reducible rfl
          simp only [Act.put, List.setIfInBounds_toArray, List.set_cons_zero, List.set_cons_succ, List.getElem_toArray, List.getElem_cons_zero, List.getElem_cons_succ]
          refine wpAnyH_take (i := 17) (v := ?_) rfl (by kernel_rfl) (by kernel_rfl) (by kernel_rfl) (fun _ _ _ h => h) (Or.inl ⟨by rfl, ?_⟩) (by assumption) ?_
          rotate_left
          · intro w hSw; (try dsimp only at hSw); go_simp; try with_reducible rfl
          simp only [Act.put, List.setIfInBounds_toArray, List.set_cons_zero, List.set_cons_succ, List.getElem_toArray, List.getElem_cons_zero, List.getElem_cons_succ]
          refine wpAnyH_take (i := 18) (v := ?_) rfl (by kernel_rfl) (by kernel_rfl) (by kernel_rfl) (fun _ _ _ h => h) (Or.inl ⟨by rfl, ?_⟩) (by assumption) ?_
          rotate_left
          · intro w hSw; (try dsimp only at hSw); go_simp; try with_reducible rfl
          simp only [Act.put, List.setIfInBounds_toArray, List.set_cons_zero, List.set_cons_succ, List.getElem_toArray, List.getElem_cons_zero, List.getElem_cons_succ]
          refine wpAnyH_take (i := 19) (v := undef) rfl (by kernel_rfl) (by kernel_rfl) (by kernel_rfl) (fun _ _ _ h => h) (Or.inr ⟨by rfl, rfl⟩) (by assumption) ?_
          simp only [Act.put, List.setIfInBounds_toArray, List.set_cons_zero, List.set_cons_succ, List.getElem_toArray, List.getElem_cons_zero, List.getElem_cons_succ]
          refine wpAnyH_take (i := 20) (v := undef) rfl (by kernel_rfl) (by kernel_rfl) (by kernel_rfl) (fun _ _ _ h => h) (Or.inr ⟨by rfl, rfl⟩) (by assumption) ?_
          simp only [Act.put, List.setIfInBounds_toArray, List.set_cons_zero, List.set_cons_succ, List.getElem_toArray, List.getElem_cons_zero, List.getElem_cons_succ]
          refine wpAnyH_take (i := 21) (v := ?_) rfl (by kernel_rfl) (by kernel_rfl) (by kernel_rfl) (fun _ _ _ h => h) (Or.inl ⟨by rfl, ?_⟩) (by assumption) ?_
          rotate_left
          · intro w hSw; (try dsimp only at hSw); go_simp; try with_reducible rfl
          simp only [Act.put, List.setIfInBounds_toArray, List.set_cons_zero, List.set_cons_succ, List.getElem_toArray, List.getElem_cons_zero, List.getElem_cons_succ]
          refine wpAnyH_take (i := 22) (v := ?_) rfl (by kernel_rfl) (by kernel_rfl) (by kernel_rfl) (fun _ _ _ h => h) (Or.inl ⟨by rfl, ?_⟩) (by assumption) ?_
          rotate_left
          · intro w hSw; (try dsimp only at hSw); go_simp; try with_reducible rfl
          simp only [Act.put, List.setIfInBounds_toArray, List.set_cons_zero, List.set_cons_succ, List.getElem_toArray, List.getElem_cons_zero, List.getElem_cons_succ]
          refine wpAnyH_done (by kernel_rfl) ?_ _
          have HB9 := Lib.hid (HBA.out.trans (hS.2.mono HBA.out.size))
          clear HTX hS hHeld cXa hB0
          go_wp2_with fail
          go_roundw
          case rel => exact ⟨k + 1, by omega, by simp, HB9.out⟩
          case measure => simp [intOf]; omega
      · obtain rfl : k = 3 := by omega
        have HW := works_any wr (HE.out.below HBW.out)
        clear hBq
        go_wp2_with fail
        refine HW.mono ?_
        rintro e w5 ⟨rfl, B5⟩
        have HB11 := Lib.hid (HBW.out.trans (B5.mono HBW.out.size))
        clear HW B5
        go_wp2_with fail
        go_ret
        exact ⟨rfl, HB11.out⟩
end Go.Proofs.YtliebhpddjbjeaaGreatDoor
