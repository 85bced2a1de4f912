/- Several texts in one. -/
import Derived.Test.YtbfclibjnanlgaaGreatDoorGrB
import Derived.Test.YtbfclibjnanlgaaGreatDoorReC
import Derived.Test.YtbfclibjnanlgaaGreatDoorTrN
import Derived.Laws.OwnMore
import Derived.Test.YtbfclibjnanlgaaGreatDoorTwBc
import Derived.Deep.RegionHeld3
import Derived.StillTailTactics
import Derived.Deep.DeepCutAuto
import Derived.Outline
import Derived.Test.YtbfclibjnanlgaaGreatDoorRuB
import Derived.Test.YtbfclibjnanlgaaGreatDoorBkA
import Derived.Test.YtbfclibjnanlgaaGreatDoorTrO
/- spoil, walked: a tree whose nodes and rows lie each in a block of its own. -/
namespace Go.Proofs.YtbfclibjnanlgaaGreatDoor
open Go.RowKit
set_option maxHeartbeats 4000000
set_option maxRecDepth 100000
set_option linter.unusedVariables false
set_option linter.unusedSimpArgs false

mutual
/-- The tree lies in the blocks M: its nodes and its rows. -/
def SepT (w : World) : Tr → List Nat → Prop
  | .node p d ks, M => ∃ v M', w.heap[p]? = some (nodeO d v) ∧ w.ownsRow 0 25 1 v ks.length ((ks.map Tr.p).map ptrV) ∧ SepL w ks M' ∧ M = p :: (obL v ++ M')
def SepL (w : World) : List Tr → List Nat → Prop
  | [], M => M = []
  | t :: r, M => ∃ M1 M2, SepT w t M1 ∧ SepL w r M2 ∧ M = M1 ++ M2
end
mutual
theorem SepT.keep {w w' : World} : ∀ {t : Tr} {M : List Nat}, SepT w t M → (∀ j ∈ M, w'.heap[j]? = w.heap[j]?) → SepT w' t M
  | .node p d ks, M, h, hk => by
    obtain ⟨v, M', h1, h2, h3, rfl⟩ := h
    refine ⟨v, M', (hk p List.mem_cons_self).trans h1, ownsRow_keep h2 (fun g hg => hk g (List.mem_cons_of_mem _ (List.mem_append_left _ ((mem_ob v g).2 hg)))), SepL.keep h3 (fun j hj => hk j (List.mem_cons_of_mem _ (List.mem_append_right _ hj))), rfl⟩
theorem SepL.keep {w w' : World} : ∀ {l : List Tr} {M : List Nat}, SepL w l M → (∀ j ∈ M, w'.heap[j]? = w.heap[j]?) → SepL w' l M
  | [], M, h, _ => h
  | t :: r, M, h, hk => by
    obtain ⟨M1, M2, h1, h2, rfl⟩ := h
    exact ⟨M1, M2, SepT.keep h1 (fun j hj => hk j (List.mem_append_left _ hj)), SepL.keep h2 (fun j hj => hk j (List.mem_append_right _ hj)), rfl⟩
end
mutual
theorem SepT.lt {w : World} : ∀ {t : Tr} {M : List Nat}, SepT w t M → ∀ j ∈ M, j < w.heap.size
  | .node p d ks, M, h, j, hj => by
    obtain ⟨v, M', h1, h2, h3, rfl⟩ := h
    rcases List.mem_cons.1 hj with rfl | hj
    · exact lt_heap h1
    · rcases List.mem_append.1 hj with hj | hj
      · exact (h2.lt j ((mem_ob v j).1 hj)).2
      · exact SepL.lt h3 j hj
theorem SepL.lt {w : World} : ∀ {l : List Tr} {M : List Nat}, SepL w l M → ∀ j ∈ M, j < w.heap.size
  | [], M, h, j, hj => by
    rw [show M = [] from h] at hj
    cases hj
  | t :: r, M, h, j, hj => by
    obtain ⟨M1, M2, h1, h2, rfl⟩ := h
    rcases List.mem_append.1 hj with hj | hj
    · exact SepT.lt h1 j hj
    · exact SepL.lt h2 j hj
end
theorem SepL.drop {w : World} {l : List Tr} {j : Nat} {k : Tr} {M : List Nat} (hk : l[j]? = some k) (h : SepL w (l.drop j) M) : ∃ M1 M2, SepT w k M1 ∧ SepL w (l.drop (j + 1)) M2 ∧ M = M1 ++ M2 := by
  obtain ⟨h1, rfl⟩ := List.getElem?_eq_some_iff.1 hk
  rw [List.drop_eq_getElem_cons h1] at h
  exact h
theorem allDL_at {Q : ND → Prop} : ∀ {l : List Tr}, AllDL Q l → ∀ t ∈ l, AllD Q t
  | [], _, t, h => by cases h
  | u :: r, h, t, hm => by
    rcases List.mem_cons.1 hm with rfl | hm
    · exact h.1
    · exact allDL_at h.2 t hm
theorem spoil_zero (v : Value) (w : World) (p : Nat) :
    Calls Tryz.prog 10 #[.pointer (some ⟨p, 0, none⟩), .int .i64 0] w fun e w' => e = .returned (.tuple #[]) ∧ w' = w := by
  go_enter Tryz.func10, Tryz.ntmps10
  go_wp2_with fail
  (try simp only [Exit.inBlock, Exit.then])
  refine bodyPost_ret (results_none rfl _ _ _) rfl ?_
  exact ⟨rfl, rfl⟩
theorem spoil_nil (n : Nat) (w : World) :
    Calls Tryz.prog 10 #[.pointer none, .int .i64 n] w fun e w' => e = .returned (.tuple #[]) ∧ w' = w := by
  go_enter Tryz.func10, Tryz.ntmps10
  go_wp2_with fail
  (try simp only [Exit.inBlock, Exit.then])
  refine bodyPost_ret (results_none rfl _ _ _) rfl ?_
  exact ⟨rfl, rfl⟩
theorem spoil_any : ∀ (n : Nat) (t : Tr) (w : World) (M : List Nat), n ≤ 255 → SepT w t M → M.Nodup → AllD (fun d => d.x.length ≤ 4096) t → t.cnt ≤ 1000 →
    Calls Tryz.prog 10 #[ptrV t.p, .int .i64 n] w fun e w' => e = .returned (.tuple #[]) ∧ Fr M w w'
  | 0, t, w, M, _, _, _, _, _ => by
    have h := spoil_zero (.pointer none) w t.p
    refine h.mono ?_
    rintro e w' ⟨rfl, rfl⟩
    exact ⟨rfl, Fr.refl _ _⟩
  | n + 1, .node p d ks, w, M, hn, hS, hM, hA, hc => by
    have HIH := Lib.hid (spoil_any n)
    obtain ⟨i0, hi, hz0, hz1, hz2⟩ := info_parts infoP
    obtain ⟨v, M', hh, hr, hks, rfl⟩ := hS
    obtain ⟨m, hm⟩ : ∃ m, ks.length = m := ⟨_, rfl⟩
    rw [hm] at hr
    obtain ⟨q, cap, hv⟩ : ∃ q cap, v = .slice q m cap := by
      rcases hr.2 with ⟨h1, h2⟩ | ⟨g, cap, cur, h1, _⟩
      · exact ⟨none, 0, by rw [h1, h2]⟩
      · exact ⟨_, _, h1⟩
    subst hv
    have nn : NodeAt w p d (.slice q m cap) := ⟨hh⟩
    have c0 := nn.c0
    have c2 := nn.c2
    have c3 := nn.c3
    have c4 := nn.c4
    have f0 := nn.f 0
    have f2 := nn.f 2
    have f3 := nn.f 3
    have hsz : (⟨d.x.toArray⟩ : ByteArray).size = d.x.length := by simp [ByteArray.size]
    have hxl : (⟨d.x.toArray⟩ : ByteArray).size ≤ 4096 := by rw [hsz]; exact hA.1
    have hng : (0 : Int) < ((n + 1 : Nat) : Int) := by omega
    have hn1 : IntKind.i64.wrap (((n + 1 : Nat) : Int) - 1) = (n : Int) := by rw [show ((n + 1 : Nat) : Int) - 1 = (n : Int) by omega]; exact wrap_i64 _ (by omega) (by omega)
    obtain ⟨ni, hni⟩ : ∃ ni : Int, ((n + 1 : Nat) : Int) = ni := ⟨_, rfl⟩
    rw [hni] at hng hn1 ⊢
    generalize (⟨d.x.toArray⟩ : ByteArray) = dx at *
    generalize (d.k : Int) = dk at *
    generalize d.n = dn at *
    simp only [ptrV, Tr.p]
    obtain ⟨zk, hzk⟩ : ∃ zk, IntKind.u8.wrap (dk + 1) = zk := ⟨_, rfl⟩
    obtain ⟨zn, hzn⟩ : ∃ zn, IntKind.i64.wrap (dn + 1) = zn := ⟨_, rfl⟩
    obtain ⟨px, py, hpx⟩ := posV_cx d.l d.c
    have hmb : m ≤ 1000 := by
      have h1 := kslen_le ks
      simp only [Tr.cnt] at hc
      omega
    obtain ⟨w3, hw3⟩ : ∃ w3, ((w.setCell ⟨p, 0, none⟩ (.int .u8 zk)).setCell ⟨p, 2, none⟩ (.string (dx ++ ⟨#[120]⟩))).setCell ⟨p, 3, none⟩ (.int .i64 zn) = w3 := ⟨_, rfl⟩
    have F3 : Fr [p] w w3 := by
      rw [← hw3]
      exact ((Fr.set w p 0 _).trans (Fr.set _ p 2 _) (fun j hj => .inl hj)).trans (Fr.set _ p 3 _) (fun j hj => .inl hj)
    have c43 : w3.cell? ⟨p, 4, none⟩ = some (.slice q m cap) := by
      rw [← hw3, cell_other _ _ _ _ _ _ (.inr (by decide)), cell_other _ _ _ _ _ _ (.inr (by decide)), cell_other _ _ _ _ _ _ (.inr (by decide))]
      exact c4
    have f43 : w3.frozen? ⟨p, 4, none⟩ = false := by
      rw [← hw3]
      simp [World.frozen?, World.setCell, Array.getElem?_modify, hh, nodeO]
    have hlM := fun j hj => SepL.lt hks j hj
    rw [List.nodup_cons] at hM
    have hM2 := List.nodup_append.1 hM.2
    have hpv : p ∉ obL (.slice q m cap) := fun h => hM.1 (List.mem_append_left _ h)
    have hpM : p ∉ M' := fun h => hM.1 (List.mem_append_right _ h)
    have hks3 : SepL w3 ks M' := SepL.keep hks (fun j hj => F3.block j (hlM j hj) (by simp; rintro rfl; exact hpM hj))
    have hr3 := own_keep hr F3 (fun j hj => by simp; rintro rfl; exact hpv hj)
    have HF := Lib.hid (And.intro F3 (And.intro hks3 (And.intro hr3 (And.intro hM2 (And.intro hpv (And.intro hpM (And.intro hA.2 (And.intro hc hm))))))))
    clear hsz hni hlM hM hM2 hpv hpM hks3 hr3 hks hr hh nn hA hc F3
    go_enter Tryz.func10, Tryz.ntmps10
    go_wp2_with fail
    go_loopw [4] (fun i wr => ∃ (j : Nat) (D R : List Nat), j ≤ m ∧ i = .int .i64 j ∧ Fr D w3 wr ∧ SepL wr (ks.drop j) R ∧ M' = D ++ R) (fun i _ => m - (intOf i).toNat)
    case atStart => exact ⟨0, [], M', Nat.zero_le _, rfl, Fr.refl _ _, HF.out.2.1, rfl⟩
    case round =>
      obtain ⟨j, D, R, hj, rfl, FD, hR, hDR⟩ := hrel
      obtain ⟨F3, hks3, hr3, hM2, hpv, hpM, hA, hc, hm⟩ := HF.out
      rw [hDR] at hM2 hpM
      have hpD : p ∉ D := fun h => hpM (List.mem_append_left _ h)
      have hvD : ∀ x ∈ obL (.slice q m cap), x ∉ D := fun x hx h => hM2.2.2 x hx x (List.mem_append_left _ h) rfl
      have hrw := own_keep hr3 FD hvD
      have hpl : p < w3.heap.size := Lib.lt_of_cell c43
      have cp := (World.cell?_of_block (a := ⟨p, 4, none⟩) (FD.block p hpl hpD)).trans c43
      have fp := (World.frozen?_of_block (a := ⟨p, 4, none⟩) (FD.block p hpl hpD)).trans f43
      have FW : Fr (p :: (obL (.slice q m cap) ++ M')) w wr := (F3.mono (fun x hx => by simp at hx; simp [hx])).trans FD (fun x hx => .inl (by rw [hDR]; simp [hx]))
      by_cases hjm : j < m
      · obtain ⟨k, hk⟩ : ∃ k, ks[j]? = some k := ⟨_, List.getElem?_eq_getElem (by omega)⟩
        obtain ⟨M1, M2, h1, h2, rfl⟩ := SepL.drop hk hR
        obtain ⟨g, cap', hv9, _, hg9⟩ := hrw.form (by omega)
        obtain rfl : q = some ⟨g, 0, none⟩ := by injection hv9
        have cK : wr.cell? ⟨g, j, none⟩ = some (.pointer (some ⟨k.p, 0, none⟩)) := by
          rw [hrw.cellAt j (by omega), List.getElem?_map, List.getElem?_map, hk]; rfl
        have hmk := List.mem_of_getElem? hk
        have hnd := List.nodup_append.1 hM2.2.1
        have hnd2 := List.nodup_append.1 hnd.2.1
        have HR := HIH.out k wr M1 (by omega) h1 hnd2.1 (allDL_at hA k hmk) (by
          have := cnt_leL k ks hmk
          simp only [Tr.cnt] at hc
          omega)
        have HN := Lib.hid (And.intro FD (And.intro h2 (And.intro hDR (And.intro hnd2.2.2 (fun x hx => SepL.lt h2 x hx)))))
        have hj0 : (0 : Int) ≤ (j : Int) := by omega
        have hj1 : (j : Int) < (m : Int) := by omega
        simp only [ptrV] at HR
        clear F3 hks3 hr3 hM2 hpv hpM hA hc hm hDR hR FD h1 h2 hk hmk hnd hnd2 hpD hvD hrw hv9 FW fp hpl
        go_wp2_with fail
        refine HR.mono ?_
        rintro e w9 ⟨rfl, F9⟩
        have HF9 := Lib.hid F9
        clear HR F9
        go_wp2_with fail
        go_roundw
        case rel =>
          obtain ⟨FD, h2, hDR, hx, hlt⟩ := HN.out
          refine ⟨j + 1, D ++ M1, M2, by omega, by simp, (FD.mono (fun x hx => List.mem_append_left _ hx)).trans HF9.out (fun x hx => .inl (List.mem_append_right _ hx)), SepL.keep h2 (fun x hx2 => HF9.out.block x (hlt x hx2) (fun h => hx x h x hx2 rfl)), by rw [hDR, List.append_assoc]⟩
        case measure => simp [intOf]; omega
      · obtain rfl : j = m := by omega
        obtain ⟨wz, hwz⟩ : ∃ wz, wr.alloc (.cells #[.int .u8 0, .complex .f64 0 0, .string ⟨#[]⟩, .int .i64 0, .slice none 0 0] 44 (0, 0)) = wz := ⟨_, rfl⟩
        have FZ : Fr [] wr wz := by rw [← hwz]; exact Fr.alloc _ _
        have hplr := Lib.lt_of_cell cp
        have cz := (World.cell?_of_block (a := ⟨p, 4, none⟩) (FZ.block p hplr (by simp))).trans cp
        have fz := (World.frozen?_of_block (a := ⟨p, 4, none⟩) (FZ.block p hplr (by simp))).trans fp
        have hsr := (own_keep hrw FZ (fun x hx => by simp)).alloc (.cells #[ptrV wr.heap.size] 25)
        have HN1 := Lib.hid (new1 wz (ptrV wr.heap.size) 25)
        have HO1 := Lib.hid (one1 wr.heap.size)
        have HEN := Lib.hid (And.intro FW (And.intro FZ (And.intro hpv (And.intro (show p < wz.heap.size from Nat.lt_of_lt_of_le hplr FZ.size) (And.intro cz fz)))))
        clear F3 hks3 hr3 hM2 hpv hpM hA hc hm hDR hR FD hpD hvD hrw FW fp hpl FZ hplr
        simp only [ptrV] at hsr HN1 HO1
        go_wp2_with (at_builtin; refine wpList_append_lies _ rfl _ _ 42 rfl 0 25 i0 _ 1 8 Tryz.underlying42 hi hz0 hz1 hz2 rfl (by decide) (.slice q j cap) j _ rfl hsr ⟨wz.heap.size, 0, none⟩ 1 1 [.pointer (some ⟨wr.heap.size, 0, none⟩)] rfl rfl HN1.out HO1.out (by decide) (by unfold maxLen; omega) (by omega) (by simp <;> omega) (wz.heap.size + 1) (by simp) ?_)
        intro gl capl w6 hown hgrow hat hlt6
        have F6 : Fr (obL (.slice q j cap)) wz w6 := ((Fr.alloc wz (.cells #[.pointer (some ⟨wr.heap.size, 0, none⟩)] 25)).mono (by simp)).trans (Fr.of_grown hgrow) (fun x hx => .inl hx)
        have c6 := (World.cell?_of_block (a := ⟨p, 4, none⟩) (F6.block p HEN.out.2.2.2.1 HEN.out.2.2.1)).trans HEN.out.2.2.2.2.1
        have f6 := (World.frozen?_of_block (a := ⟨p, 4, none⟩) (F6.block p HEN.out.2.2.2.1 HEN.out.2.2.1)).trans HEN.out.2.2.2.2.2
        have HF6 := Lib.hid F6
        clear hown hgrow hat hlt6 hsr HN1 HO1 F6 cz fz
        go_wp2_with fail
        go_end0
        refine ⟨rfl, ?_⟩
        have h1 := (HEN.out.1.trans HEN.out.2.1 (fun x hx => by cases hx)).trans HF6.out (fun x hx => .inl (List.mem_cons_of_mem _ (List.mem_append_left _ hx)))
        exact h1.trans (Fr.set w6 p 4 _) (fun x hx => .inl (by simp at hx; simp [hx]))
end Go.Proofs.YtbfclibjnanlgaaGreatDoor
/- The open nodes of a tree that is being copied. -/
namespace Go.Proofs.YtbfclibjnanlgaaGreatDoor
open Go.RowKit
set_option maxHeartbeats 2000000
set_option maxRecDepth 100000
set_option linter.unusedVariables false
set_option linter.unusedSimpArgs false

/-- The open nodes, the top first: what each has, its closed kids; ch: the open kid above. -/
def OpenS (w : World) : Option Nat → List (ND × List DT) → List Nat → List Nat → Prop
  | _, [], ps, M => ps = [] ∧ M = []
  | ch, (d, ks) :: r, ps, M => ∃ p v ts ps' Mk Mr, ps = p :: ps' ∧ w.heap[p]? = some (nodeO d v) ∧ w.ownsRow 0 25 1 v (ts.length + ch.toList.length) ((ts.map Tr.p).map ptrV ++ ch.toList.map ptrV) ∧
      SepL w ts Mk ∧ ts.map Tr.dt = ks ∧ OpenS w (some p) r ps' Mr ∧ M = p :: (obL v ++ (Mk ++ Mr))
theorem OpenS.keep {w w' : World} : ∀ {s : List (ND × List DT)} {ch : Option Nat} {ps M : List Nat}, OpenS w ch s ps M → (∀ j ∈ M, w'.heap[j]? = w.heap[j]?) → OpenS w' ch s ps M
  | [], ch, ps, M, h, _ => h
  | (d, ks) :: r, ch, ps, M, h, hk => by
    obtain ⟨p, v, ts, ps', Mk, Mr, h1, h2, h3, h4, h5, h6, rfl⟩ := h
    refine ⟨p, v, ts, ps', Mk, Mr, h1, (hk p List.mem_cons_self).trans h2, ownsRow_keep h3 (fun g hg => hk g (List.mem_cons_of_mem _ (List.mem_append_left _ ((mem_ob v g).2 hg)))), SepL.keep h4 (fun j hj => hk j (List.mem_cons_of_mem _ (List.mem_append_right _ (List.mem_append_left _ hj)))), h5, OpenS.keep h6 (fun j hj => hk j (List.mem_cons_of_mem _ (List.mem_append_right _ (List.mem_append_right _ hj)))), rfl⟩
theorem OpenS.len {w : World} : ∀ {s : List (ND × List DT)} {ch : Option Nat} {ps M : List Nat}, OpenS w ch s ps M → ps.length = s.length
  | [], ch, ps, M, h => by rw [h.1]; rfl
  | (d, ks) :: r, ch, ps, M, h => by
    obtain ⟨p, v, ts, ps', Mk, Mr, rfl, h2, h3, h4, h5, h6, rfl⟩ := h
    simp [OpenS.len h6]
theorem sepL_app {w : World} : ∀ {a b : List Tr} {A B : List Nat}, SepL w a A → SepL w b B → SepL w (a ++ b) (A ++ B)
  | [], b, A, B, ha, hb => by
    rw [show A = [] from ha]
    exact hb
  | t :: r, b, A, B, ha, hb => by
    obtain ⟨M1, M2, h1, h2, rfl⟩ := ha
    exact ⟨M1, M2 ++ B, h1, sepL_app h2 hb, by rw [List.append_assoc]⟩
/-- The top is closed. -/
theorem OpenS.close {w : World} {d d' : ND} {ks ks' : List DT} {r : List (ND × List DT)} {ps M : List Nat} (h : OpenS w none ((d, ks) :: (d', ks') :: r) ps M) :
    ∃ p ps' M', ps = p :: ps' ∧ OpenS w none ((d', ks' ++ [.node d ks]) :: r) ps' M' ∧ M'.Perm M := by
  obtain ⟨p, v, ts, ps', Mk, Mr, rfl, h2, h3, h4, h5, h6, rfl⟩ := h
  obtain ⟨p', v', ts', ps'', Mk', Mr', rfl, g2, g3, g4, g5, g6, rfl⟩ := h6
  have hT : SepT w (.node p d ts) (p :: (obL v ++ Mk)) := ⟨v, Mk, h2, by simpa using h3, h4, rfl⟩
  refine ⟨p, _, p' :: (obL v' ++ ((Mk' ++ ((p :: (obL v ++ Mk)) ++ [])) ++ Mr')), rfl, ⟨p', v', ts' ++ [.node p d ts], ps'', Mk' ++ ((p :: (obL v ++ Mk)) ++ []), Mr', rfl, g2, ?_, sepL_app g4 ⟨_, [], hT, rfl, rfl⟩, ?_, g6, rfl⟩, ?_⟩
  · simpa [Tr.p] using g3
  · rw [List.map_append, g5]
    simp [Tr.dt, dtL_map, h5]
  · simp only [List.append_nil]
    have e1 : ((obL v' ++ ((Mk' ++ (p :: (obL v ++ Mk))) ++ Mr'))).Perm ((obL v ++ Mk) ++ p :: (obL v' ++ (Mk' ++ Mr'))) := by
      rw [List.perm_iff_count]
      intro a
      simp only [List.count_append, List.count_cons]
      omega
    rw [List.perm_iff_count]
    intro a
    simp only [List.count_append, List.count_cons]
    omega
/-- What the closures of Copy keep. -/
def CI (base bw rt : Nat) (s : List (ND × List DT)) (M : List Nat) (w : World) : Prop := ∃ wv ps Mo, Var w bw 42 wv ∧ w.ownsRow 0 25 1 wv ps.length (ps.reverse.map ptrV) ∧ OpenS w none s ps Mo ∧ M = bw :: (obL wv ++ Mo) ∧ M.Nodup ∧ (∀ j ∈ M, base ≤ j ∧ j < w.heap.size) ∧ ps.getLast? = some rt
theorem ci_keep {base bw rt : Nat} {s : List (ND × List DT)} {M N : List Nat} {w w' : World} (h : CI base bw rt s M w) (hF : Fr N w w') (hN : ∀ j ∈ N, j ∉ M ∧ base ≤ j) : CI base bw rt s M w' := by
  obtain ⟨wv, ps, Mo, h1, h2, h3, rfl, h5, h6, h9⟩ := h
  have hk : ∀ j ∈ bw :: (obL wv ++ Mo), w'.heap[j]? = w.heap[j]? := fun j hj => hF.block j (h6 j hj).2 (fun hn => (hN j hn).1 hj)
  exact ⟨wv, ps, Mo, (hk bw List.mem_cons_self).trans h1, ownsRow_keep h2 (fun g hg => hk g (List.mem_cons_of_mem _ (List.mem_append_left _ ((mem_ob wv g).2 hg)))), OpenS.keep h3 (fun j hj => hk j (List.mem_cons_of_mem _ (List.mem_append_right _ hj))), rfl, h5, fun j hj => ⟨(h6 j hj).1, Nat.lt_of_lt_of_le (h6 j hj).2 hF.size⟩, h9⟩
def cyEn (t : Tr) (s : List (ND × List DT)) : List (ND × List DT) := (t.d, []) :: s
def cyLv : List (ND × List DT) → List (ND × List DT)
  | (d, ks) :: (d', ks') :: r => (d', ks' ++ [.node d ks]) :: r
  | s => s
theorem copy2 (base bw rt : Nat) (d d' : ND) (ks ks' : List DT) (r : List (ND × List DT)) (M : List Nat) (w : World) (h : CI base bw rt ((d, ks) :: (d', ks') :: r) M w) (hr : r.length ≤ 1048576) :
    Calls Tryz.prog 21 #[.pointer (some ⟨bw, 0, none⟩)] w fun e w' => e = .returned (.tuple #[]) ∧ ∃ M', CI base bw rt (cyLv ((d, ks) :: (d', ks') :: r)) M' w' ∧ Fr M w w' ∧ ∀ j ∈ M', j ∈ M ∨ w.heap.size ≤ j := by
  obtain ⟨wv, ps, Mo, h1, h2, h3, rfl, h5, h6, h9⟩ := h
  have hl := h3.len
  obtain ⟨p, ps', M', rfl, h7, h8⟩ := h3.close
  have hm : ps'.length = r.length + 1 := by simpa using hl
  obtain ⟨m, hm2⟩ : ∃ m, ps'.length = m := ⟨_, rfl⟩
  have hl2 : (p :: ps').length = m + 1 := by simp [hm2]
  rw [hl2] at h2
  obtain ⟨g, cap, hv, _, _⟩ := h2.form (by omega)
  subst hv
  have hrow : (p :: ps').reverse.map ptrV = ps'.reverse.map ptrV ++ [ptrV p] := by simp
  rw [hrow] at h2
  have hcut := own_cut h2 (.inl (by simp)) (Nat.le_succ m)
  rw [List.take_left' (by rw [List.length_map, List.length_reverse, hm2, Nat.mul_one])] at hcut
  obtain ⟨hc1, hc2⟩ := own_cap h2
  have c := h1.c
  have f := h1.f
  have hmb : m ≤ 1048577 := by omega
  have hm1 : 1 ≤ m := by omega
  have HX := Lib.hid (And.intro h1 (And.intro hcut (And.intro h7 (And.intro h8 (And.intro h5 (And.intro h6 (And.intro hm2 (And.intro hm1 h9))))))))
  clear h1 h2 h3 h5 h6 h9 h7 h8 hcut hrow hl hl2 hm hm2 hm1
  go_enter Tryz.func21, Tryz.ntmps21
  go_wp2_with fail
  go_end0
  obtain ⟨h1, hcut, h7, h8, h5, h6, hm2, hm1, h9⟩ := HX.out
  rw [List.nodup_cons] at h5
  have F := Fr.set w bw 0 (.slice (some ⟨g, 0, none⟩) m cap)
  have hob : obL (.slice (some ⟨g, 0, none⟩) m cap) = obL (.slice (some ⟨g, 0, none⟩) (m + 1) cap) := rfl
  have hgb : bw ∉ obL (.slice (some ⟨g, 0, none⟩) (m + 1) cap) := fun hh => h5.1 (List.mem_append_left _ hh)
  have hbm : bw ∉ M' := fun hh => h5.1 (List.mem_append_right _ ((h8.mem_iff).1 hh))
  refine ⟨rfl, bw :: (obL (.slice (some ⟨g, 0, none⟩) m cap) ++ M'), ⟨_, ps', M', h1.set _, ?_, h7.keep (fun j hj => F.block j (h6 j (List.mem_cons_of_mem _ (List.mem_append_right _ ((h8.mem_iff).1 hj)))).2 (by simp; rintro rfl; exact hbm hj)), rfl, ?_, ?_, ?_⟩, F.mono (fun j hj => by simp at hj; simp [hj]), ?_⟩
  · rw [hm2]
    exact own_keep hcut F (fun j hj => by simp; rintro rfl; exact hgb (hob ▸ hj))
  · rw [List.nodup_cons, hob]
    exact ⟨fun hh => h5.1 (by
      rcases List.mem_append.1 hh with hh | hh
      · exact List.mem_append_left _ hh
      · exact List.mem_append_right _ ((h8.mem_iff).1 hh)), ((h8.append_left _).nodup_iff).2 h5.2⟩
  · intro j hj
    have hj2 : j ∈ bw :: (obL (.slice (some ⟨g, 0, none⟩) (m + 1) cap) ++ Mo) := by
      rcases List.mem_cons.1 hj with rfl | hj
      · exact List.mem_cons_self
      · rcases List.mem_append.1 hj with hj | hj
        · exact List.mem_cons_of_mem _ (List.mem_append_left _ hj)
        · exact List.mem_cons_of_mem _ (List.mem_append_right _ ((h8.mem_iff).1 hj))
    exact ⟨(h6 j hj2).1, Nat.lt_of_lt_of_le (h6 j hj2).2 F.size⟩
  · cases ps' with
    | nil => simp at hm2; omega
    | cons a b => simpa using h9
  · intro j hj
    left
    rcases List.mem_cons.1 hj with rfl | hj
    · exact List.mem_cons_self
    · rcases List.mem_append.1 hj with hj | hj
      · exact List.mem_cons_of_mem _ (List.mem_append_left _ hj)
      · exact List.mem_cons_of_mem _ (List.mem_append_right _ ((h8.mem_iff).1 hj))
end Go.Proofs.YtbfclibjnanlgaaGreatDoor
/- A node that is opened: what the first closure of Copy keeps. -/
namespace Go.Proofs.YtbfclibjnanlgaaGreatDoor
open Go.RowKit
set_option maxHeartbeats 4000000
set_option maxRecDepth 100000
set_option linter.unusedVariables false
set_option linter.unusedSimpArgs false

/-- The blocks, when a node is opened. -/
theorem en_nodup (bw c p g1 g2 n1 n4 n0 : Nat) (A V C R : List Nat) (h : (bw :: (A ++ (p :: (V ++ R)))).Nodup) (hlt : ∀ j ∈ bw :: (A ++ (p :: (V ++ R))), j < n0)
    (hc : n0 ≤ c) (hc1 : c < n1) (hC : C.Nodup) (hC0 : ∀ j ∈ C, n0 ≤ j ∧ j < n1) (hcC : c ∉ C) (h1 : g1 ∈ V ∨ n1 ≤ g1) (h14 : g1 < n4) (h4 : n1 ≤ n4) (h2 : g2 ∈ A ∨ n4 ≤ g2) :
    (bw :: ([g2] ++ (c :: (C ++ ([] ++ (p :: ([g1] ++ R))))))).Nodup := by
  have hb : bw < n0 := hlt bw (by simp)
  have hp : p < n0 := hlt p (by simp)
  have hA : ∀ j ∈ A, j < n0 := fun j hj => hlt j (by simp [hj])
  have hV : ∀ j ∈ V, j < n0 := fun j hj => hlt j (by simp [hj])
  have hR : ∀ j ∈ R, j < n0 := fun j hj => hlt j (by simp [hj])
  simp only [List.nodup_cons, List.nodup_append, List.mem_append, List.mem_cons, not_or] at h
  obtain ⟨⟨a1, a2, a3, a4⟩, a5, ⟨⟨a6, a7⟩, a8, a9, a10⟩, a11⟩ := h
  have b1 : ∀ j ∈ A, j ≠ p ∧ j ∉ V ∧ j ∉ R := fun j hj => ⟨a11 j hj p (.inl rfl), fun hm => a11 j hj j (.inr (.inl hm)) rfl, fun hm => a11 j hj j (.inr (.inr hm)) rfl⟩
  simp only [List.nil_append, List.singleton_append, List.nodup_cons, List.nodup_append, List.mem_append, List.mem_cons, not_or]
  refine ⟨⟨?_, ?_, fun hm => ?_, ?_, ?_, a4⟩, ⟨?_, fun hm => ?_, ?_, ?_, fun hm => ?_⟩, ⟨hcC, ?_, ?_, fun hm => ?_⟩, hC, ⟨⟨?_, a7⟩, fun hm => ?_, a9⟩, ?_⟩
  · rintro rfl; rcases h2 with h2 | h2
    · exact a1 h2
    · omega
  · omega
  · have := hC0 _ hm; omega
  · exact a2
  · rintro rfl; rcases h1 with h1 | h1
    · exact a3 h1
    · omega
  · rintro rfl; rcases h2 with h2 | h2
    · have := hA _ h2; omega
    · omega
  · have := hC0 _ hm; rcases h2 with h2 | h2
    · have := hA _ h2; omega
    · omega
  · rintro rfl; rcases h2 with h2 | h2
    · exact (b1 _ h2).1 rfl
    · omega
  · rintro rfl; rcases h2 with h2 | h2
    · rcases h1 with h1 | h1
      · exact (b1 _ h2).2.1 h1
      · have := hA _ h2; omega
    · omega
  · rcases h2 with h2 | h2
    · exact (b1 _ h2).2.2 hm
    · have := hR _ hm; omega
  · omega
  · rintro rfl; rcases h1 with h1 | h1
    · have := hV _ h1; omega
    · omega
  · have := hR _ hm; omega
  · rintro rfl; rcases h1 with h1 | h1
    · exact a6 h1
    · omega
  · rcases h1 with h1 | h1
    · exact a10 _ h1 _ hm rfl
    · have := hR _ hm; omega
  · intro x hx y hy
    have := hC0 _ hx
    rcases hy with rfl | rfl | hy
    · omega
    · rintro rfl; rcases h1 with h1 | h1
      · have := hV _ h1; omega
      · omega
    · have := hR _ hy; omega
/-- A node that is opened. -/
theorem en_ci (base bw rt : Nat) (d td : ND) (ks : List DT) (r : List (ND × List DT)) (w w1 w3 w6 : World) (wv v vc : Value) (p c g1 m1 cap1 g2 m2 cap2 : Nat) (ps' : List Nat) (ts : List Tr) (Mk Mr : List Nat)
    (h1 : Var w bw 42 wv) (h2 : w.ownsRow 0 25 1 wv (p :: ps').length ((p :: ps').reverse.map ptrV))
    (h3 : w.heap[p]? = some (nodeO d v)) (h4 : w.ownsRow 0 25 1 v ts.length ((ts.map Tr.p).map ptrV)) (h5 : SepL w ts Mk) (h6 : ts.map Tr.dt = ks) (h7 : OpenS w (some p) r ps' Mr)
    (hM : (bw :: (obL wv ++ (p :: (obL v ++ (Mk ++ Mr))))).Nodup) (hlt : ∀ j ∈ bw :: (obL wv ++ (p :: (obL v ++ (Mk ++ Mr)))), base ≤ j ∧ j < w.heap.size)
    (h9 : (p :: ps').getLast? = some rt) (NSh : NS w c td [] w1 vc []) (hown1 : w3.ownsRow 0 25 1 (.slice (some ⟨g1, 0, none⟩) m1 cap1) (ts.length + 1) ((ts.map Tr.p).map ptrV ++ [ptrV c])) (F13 : Fr (obL v) w1 w3) (hg1 : v.ownBlock = some g1 ∨ w1.heap.size ≤ g1)
    (hown2 : w6.ownsRow 0 25 1 (.slice (some ⟨g2, 0, none⟩) m2 cap2) ((p :: ps').length + 1) ((p :: ps').reverse.map ptrV ++ [ptrV c])) (F46 : Fr (obL wv) (w3.setCell ⟨p, 4, none⟩ (.slice (some ⟨g1, 0, none⟩) m1 cap1)) w6) (hg2 : wv.ownBlock = some g2 ∨ (w3.setCell ⟨p, 4, none⟩ (.slice (some ⟨g1, 0, none⟩) m1 cap1)).heap.size ≤ g2) :
    ∃ M', CI base bw rt ((td, []) :: (d, ks) :: r) M' (w6.setCell ⟨bw, 0, none⟩ (.slice (some ⟨g2, 0, none⟩) m2 cap2)) ∧ Fr (bw :: (obL wv ++ (p :: (obL v ++ (Mk ++ Mr))))) w (w6.setCell ⟨bw, 0, none⟩ (.slice (some ⟨g2, 0, none⟩) m2 cap2)) ∧ ∀ j ∈ M', j ∈ (bw :: (obL wv ++ (p :: (obL v ++ (Mk ++ Mr))))) ∨ w.heap.size ≤ j := by
  have F01 : Fr [] w w1 := Fr.of_below NSh.b
  have F34 := Fr.set w3 p 4 (.slice (some ⟨g1, 0, none⟩) m1 cap1)
  have F67 := Fr.set w6 bw 0 (.slice (some ⟨g2, 0, none⟩) m2 cap2)
  obtain ⟨w4, hw4⟩ : ∃ w4, w3.setCell ⟨p, 4, none⟩ (.slice (some ⟨g1, 0, none⟩) m1 cap1) = w4 := ⟨_, rfl⟩
  have hs34 : w4.heap.size = w3.heap.size := by rw [← hw4]; simp
  have F13' : Fr (obL v) w w3 := (F01.mono (by simp)).trans F13 (fun j hj => .inl hj)
  rw [hw4] at F34 F46 hg2
  have F14 : Fr (p :: obL v) w1 w4 := (F13.mono (fun j hj => List.mem_cons_of_mem _ hj)).trans F34 (fun j hj => .inl (by simp at hj; simp [hj]))
  have F67' := F67
  obtain ⟨w7, hw7⟩ : ∃ w7, w6.setCell ⟨bw, 0, none⟩ (.slice (some ⟨g2, 0, none⟩) m2 cap2) = w7 := ⟨_, rfl⟩
  have hV6 : Var w6 bw 42 wv := by
    simp only [List.nodup_cons, List.nodup_append, List.mem_append, List.mem_cons, not_or] at hM
    obtain ⟨⟨a1, a2, a3, a4⟩, _⟩ := hM
    refine (((h1.keep F01 (by simp)).keep F14 ?_)).keep F46 a1
    simp only [List.mem_cons, not_or]
    exact ⟨a2, a3⟩
  have hV7 : Var w7 bw 42 (.slice (some ⟨g2, 0, none⟩) m2 cap2) := by rw [← hw7]; exact hV6.set _
  rw [hw7] at F67 ⊢
  have F17 : Fr (bw :: (obL wv ++ (p :: obL v))) w1 w7 := ((F14.mono (N := bw :: (obL wv ++ (p :: obL v))) (fun j hj => by simp only [List.mem_cons, List.mem_append] at hj ⊢; rcases hj with h | h; exact .inr (.inr (.inl h)); exact .inr (.inr (.inr h)))).trans F46 (fun j hj => .inl (by simp [hj]))).trans F67 (fun j hj => .inl (by simp at hj; simp [hj]))
  have F07 : Fr (bw :: (obL wv ++ (p :: obL v))) w w7 := (F01.mono (by simp)).trans F17 (fun j hj => .inl hj)
  have hs01 := F01.size
  have hs13 := F13.size
  have hs46 := F46.size
  have hs67 := F67.size
  have hg1lt : g1 < w3.heap.size := (hown1.lt g1 rfl).2
  have hg2lt : g2 < w6.heap.size := (hown2.lt g2 rfl).2
  have hclt : c < w1.heap.size := lt_heap NSh.n
  have hcC : c ∉ obL vc := row_node NSh.r NSh.n
  have hvc : ∀ j ∈ obL vc, w.heap.size ≤ j ∧ j < w1.heap.size := NSh.r.base
  have hN := en_nodup bw c p g1 g2 w1.heap.size w4.heap.size w.heap.size (obL wv) (obL v) (obL vc) (Mk ++ Mr) hM (fun j hj => (hlt j hj).2) NSh.p hclt (by unfold obL; cases vc.ownBlock <;> simp) hvc hcC
    (hg1.imp (fun h => (mem_ob v g1).2 h) id) (by omega) (by omega) (hg2.imp (fun h => (mem_ob wv g2).2 h) id)
  have hold := fun j hj => (hlt j hj).2
  simp only [List.nodup_cons, List.nodup_append, List.mem_append, List.mem_cons, not_or] at hM
  obtain ⟨⟨a1, a2, a3, a4⟩, a5, ⟨⟨a6, a7⟩, a8, a9, a10⟩, a11⟩ := hM
  have hcold : ∀ x, w.heap.size ≤ x → x ∉ (bw :: (obL wv ++ (p :: obL v))) := fun x hx hm => by
    have := hold x (by
      simp only [List.mem_cons, List.mem_append] at hm ⊢
      rcases hm with h | h | h | h
      · exact .inl h
      · exact .inr (.inl h)
      · exact .inr (.inr (.inl h))
      · exact .inr (.inr (.inr (.inl h))))
    omega
  have hkold : ∀ x ∈ Mk ++ Mr, w7.heap[x]? = w.heap[x]? := fun x hx => F07.block x (hold x (by simp only [List.mem_cons, List.mem_append] at hx ⊢; exact .inr (.inr (.inr (.inr hx))))) (fun hm => by
    simp only [List.mem_cons, List.mem_append] at hm hx
    rcases hm with rfl | h | rfl | h
    · exact hx.elim a4.1 a4.2
    · exact a11 x h x (.inr (.inr hx)) rfl
    · exact hx.elim a7.1 a7.2
    · exact a10 x h x hx rfl)
  have hpl : p < w.heap.size := lt_heap h3
  have hp7 : w7.heap[p]? = some (nodeO d (.slice (some ⟨g1, 0, none⟩) m1 cap1)) := by
    have e3 : w3.heap[p]? = some (nodeO d v) := (F13'.block p hpl a6).trans h3
    have e4 : w4.heap[p]? = some (nodeO d (.slice (some ⟨g1, 0, none⟩) m1 cap1)) := by rw [← hw4]; simp [World.setCell, Array.getElem?_modify, e3, nodeO]
    have e6 := (F46.block p (lt_heap e4) (fun hm => (a11 p hm p (.inl rfl)) rfl)).trans e4
    exact (F67.block p (lt_heap e6) (by simp; exact fun h => a2 h.symm)).trans e6
  have hv7 : w7.ownsRow 0 25 1 (.slice (some ⟨g1, 0, none⟩) m1 cap1) (ts.length + 1) ((ts.map Tr.p).map ptrV ++ [ptrV c]) := by
    have hg : ∀ j ∈ obL (.slice (some ⟨g1, 0, none⟩) m1 cap1), j = g1 := fun j hj => by simpa [obL, Value.ownBlock] using hj
    have k4 := own_keep hown1 F34 (fun j hj => by
      rw [hg j hj]; simp; rintro rfl
      rcases hg1 with h | h
      · exact a6 ((mem_ob v g1).2 h)
      · omega)
    have k6 := own_keep k4 F46 (fun j hj hm => by
      rw [hg j hj] at hm
      rcases hg1 with h | h
      · exact a11 g1 hm g1 (.inr (.inl ((mem_ob v g1).2 h))) rfl
      · have := hold g1 (by simp [hm]); omega)
    exact own_keep k6 F67 (fun j hj => by
      rw [hg j hj]; simp; rintro rfl
      rcases hg1 with h | h
      · exact a3 ((mem_ob v g1).2 h)
      · have := hold g1 (by simp); omega)
  have hw7v : w7.ownsRow 0 25 1 (.slice (some ⟨g2, 0, none⟩) m2 cap2) ((p :: ps').length + 1) ((p :: ps').reverse.map ptrV ++ [ptrV c]) := own_keep hown2 F67 (fun j hj => by
      obtain rfl : j = g2 := by simpa [obL, Value.ownBlock] using hj
      simp; rintro rfl
      rcases hg2 with h | h
      · exact a1 ((mem_ob wv j).2 h)
      · have := hold j (by simp); omega)
  have hc7 : w7.heap[c]? = some (nodeO td vc) := (F17.block c hclt (hcold c NSh.p)).trans NSh.n
  have hvc7 : w7.ownsRow 0 25 1 vc 0 [] := own_keep NSh.r.1 F17 (fun j hj => hcold j (hvc j hj).1)
  refine ⟨bw :: (obL (.slice (some ⟨g2, 0, none⟩) m2 cap2) ++ (c :: (obL vc ++ ([] ++ (p :: (obL (.slice (some ⟨g1, 0, none⟩) m1 cap1) ++ (Mk ++ Mr))))))), ⟨_, c :: p :: ps', _, hV7, ?_, ⟨c, vc, [], p :: ps', [], _, rfl, hc7, by simpa using hvc7, rfl, rfl, ⟨p, _, ts, ps', Mk, Mr, rfl, hp7, by simpa using hv7, SepL.keep h5 (fun j hj => hkold j (List.mem_append_left _ hj)), h6, OpenS.keep h7 (fun j hj => hkold j (List.mem_append_right _ hj)), rfl⟩, rfl⟩, rfl, hN, ?_, by simpa using h9⟩, F07.mono (fun j hj => by
      simp only [List.mem_cons, List.mem_append] at hj ⊢
      rcases hj with h | h | h | h
      · exact .inl h
      · exact .inr (.inl h)
      · exact .inr (.inr (.inl h))
      · exact .inr (.inr (.inr (.inl h)))), ?_⟩
  · have e1 : (c :: p :: ps').length = (p :: ps').length + 1 := rfl
    have e2 : (c :: p :: ps').reverse.map ptrV = (p :: ps').reverse.map ptrV ++ [ptrV c] := by rw [List.reverse_cons, List.map_append]; rfl
    rw [e1, e2]
    exact hw7v
  · have hb0 : base ≤ w.heap.size := by have := hlt bw (by simp); omega
    intro j hj
    simp only [List.mem_cons, List.mem_append] at hj
    rcases hj with rfl | hj | rfl | hj | hj | rfl | hj | hj
    · have := hlt j (by simp); omega
    · obtain rfl : j = g2 := by simpa [obL, Value.ownBlock] using hj
      rcases hg2 with h | h
      · have := hlt j (by simp [(mem_ob wv j).2 h]); omega
      · omega
    · have := NSh.p; omega
    · have := hvc j hj; omega
    · cases hj
    · have := hlt j (by simp); omega
    · obtain rfl : j = g1 := by simpa [obL, Value.ownBlock] using hj
      rcases hg1 with h | h
      · have := hlt j (by simp [(mem_ob v j).2 h]); omega
      · omega
    · have := hlt j (by simp only [List.mem_cons, List.mem_append]; exact .inr (.inr (.inr (.inr hj)))); omega
  · intro j hj
    simp only [List.mem_cons, List.mem_append] at hj ⊢
    rcases hj with rfl | hj | rfl | hj | hj | rfl | hj | hj
    · exact .inl (.inl rfl)
    · obtain rfl : j = g2 := by simpa [obL, Value.ownBlock] using hj
      rcases hg2 with h | h
      · exact .inl (.inr (.inl ((mem_ob wv j).2 h)))
      · exact .inr (by omega)
    · exact .inr NSh.p
    · exact .inr (hvc j hj).1
    · cases hj
    · exact .inl (.inr (.inr (.inl rfl)))
    · obtain rfl : j = g1 := by simpa [obL, Value.ownBlock] using hj
      rcases hg1 with h | h
      · exact .inl (.inr (.inr (.inr (.inl ((mem_ob v j).2 h)))))
      · exact .inr (by omega)
    · exact .inl (.inr (.inr (.inr (.inr hj))))
theorem NS.back {w0 w wr : World} {p : Nat} {d : ND} {os : List (Option Tr)} {v : Value} {out : List Tr} (hb : Below w0.heap.size w0 w) (h : NS w p d os wr v out) : NS w0 p d os wr v out :=
  ⟨hb.trans (h.b.mono hb.size), h.n, ⟨h.r.1, fun g hg => Nat.le_trans hb.size (h.r.2 g hg)⟩, h.f, h.l, Nat.le_trans hb.size h.p⟩
theorem copy1 (base bw rt : Nat) (t : Tr) (d : ND) (ks : List DT) (r : List (ND × List DT)) (M : List Nat) (w : World) (u : Value) (h : CI base bw rt ((d, ks) :: r) M w) (hN : w.heap[t.p]? = some (nodeO t.d u)) (hx : t.d.x.length ≤ 281474976710656) (hr : r.length ≤ 1048576) (hk : ks.length ≤ 1048576) :
    Calls Tryz.prog 20 #[ptrV t.p, .pointer (some ⟨bw, 0, none⟩)] w fun e w' => e = .returned (.bool true) ∧ ∃ M', CI base bw rt (cyEn t ((d, ks) :: r)) M' w' ∧ Fr M w w' ∧ ∀ j ∈ M', j ∈ M ∨ w.heap.size ≤ j := by
  obtain ⟨i0, hi, hz0, hz1, hz2⟩ := info_parts infoP
  obtain ⟨wv, ps, Mo, h1, h2, h3, rfl, h5, h6, h9⟩ := h
  have hl := h3.len
  obtain ⟨p, v, ts, ps', Mk, Mr, rfl, g1, g2, g3, g4, g5, rfl⟩ := h3
  simp only [Option.toList, List.length_nil, Nat.add_zero, List.map_nil, List.append_nil] at g2
  obtain ⟨m, hm⟩ : ∃ m, ps'.length = m := ⟨_, rfl⟩
  obtain ⟨k, hkl⟩ : ∃ k, ts.length = k := ⟨_, rfl⟩
  have hmr : m ≤ 1048576 := by simp at hl; omega
  have hkr : k ≤ 1048576 := by rw [← g4, List.length_map] at hk; omega
  have hlm : (p :: ps').length = m + 1 := by simp [hm]
  have h2' := h2
  rw [hlm] at h2'
  obtain ⟨g, cap, hv, _, _⟩ := h2'.form (by omega)
  subst hv
  have cR : w.cell? ⟨g, m, none⟩ = some (.pointer (some ⟨p, 0, none⟩)) := by
    rw [h2'.cellAt m (by omega)]
    have e1 : (p :: ps').reverse.map ptrV = ps'.reverse.map ptrV ++ [ptrV p] := by simp
    rw [e1, List.getElem?_append_right (by simp [hm])]
    simp [hm, ptrV]
  have cW := h1.c
  have hcap := own_cap h2'
  have nt : NodeAt w t.p t.d u := ⟨hN⟩
  have c0 := nt.c0
  have c1 := nt.c1
  have c2 := nt.c2
  have c3 := nt.c3
  have HNW := New_any w.drew t.d (.slice none 0 0) [] hx ⟨none, 0, rfl, fun i o hi => by simp at hi⟩ (by simp)
  obtain ⟨px, py, hpx⟩ := posV_cx t.d.l t.d.c
  rw [hpx] at c1 HNW
  have HH := Lib.hid (And.intro h1 (And.intro h2 (And.intro g1 (And.intro g2 (And.intro g3 (And.intro g4 (And.intro g5 (And.intro h5 (And.intro h6 h9)))))))))
  have HL := Lib.hid (And.intro hm (And.intro hkl hlm))
  clear h1 h2 h2' g1 g2 g3 g4 g5 h5 h6 h9 hl hm hkl hlm nt hN hr hk hpx
  generalize hdk : (t.d.k : Int) = dk at *
  generalize hdn : t.d.n = dn at *
  generalize hdx : (⟨t.d.x.toArray⟩ : ByteArray) = dx at *
  clear hdk hdn hdx
  simp only [ptrV]
  go_enter Tryz.func20, Tryz.ntmps20
  go_wp2_with fail
  go_still_tail 16, (by kernel_rfl)
  change wpList _ _ _ _ _ w.drew
  go_wp2_with fail
  refine HNW.mono ?_
  rintro e w1 ⟨c, vc, out, rfl, hns0⟩
  have hns := hns0.back (below_drewN w 1)
  clear hns0 HNW
  have hout : out = [] := List.length_eq_zero_iff.1 hns.f.len
  subst hout
  clear c0 c1 c2 c3 cR cW
  have F01 : Fr [] w w1 := Fr.of_below hns.b
  obtain ⟨hh1, hh2, gg1, gg2, gg3, gg4, gg5, hh5, hh6, hh9⟩ := HH.out
  have n1 : NodeAt w1 p d v := ⟨(F01.block p (lt_heap gg1) (by simp)).trans gg1⟩
  have c4 := n1.c4
  have gv1 := own_keep gg2 F01 (by simp)
  have hsr := gv1.alloc (.cells #[ptrV c] 25)
  have HN1 := Lib.hid (new1 w1 (ptrV c) 25)
  have HO1 := Lib.hid (one1 c)
  have HNS := Lib.hid hns
  have HF01 := Lib.hid F01
  have HNN := Lib.hid n1
  rw [HL.out.2.1] at hsr
  clear hns F01 n1 hh1 hh2 gg1 gg2 gg3 gg4 gg5 hh5 hh6 hh9 gv1
  simp only [ptrV] at hsr HN1 HO1
  simp only [ptrV]
  go_wp2_with (at_builtin; refine wpList_append_lies _ rfl _ _ 42 rfl 0 25 i0 _ 1 8 Tryz.underlying42 hi hz0 hz1 hz2 rfl (by decide) v k _ rfl hsr ⟨w1.heap.size, 0, none⟩ 1 1 [.pointer (some ⟨c, 0, none⟩)] rfl rfl HN1.out HO1.out (by decide) (by unfold maxLen; omega) (by omega) (by simp <;> omega) (w1.heap.size + 1) (by simp) ?_)
  intro gl capl w3 hown hgrow hat hlt3
  obtain ⟨hh1, hh2, gg1, gg2, gg3, gg4, gg5, hh5, hh6, hh9⟩ := HH.out
  have F13 : Fr (obL v) w1 w3 := ((Fr.alloc w1 _).mono (by simp)).trans (Fr.of_grown hgrow) (fun j hj => .inl hj)
  have hns := HNS.out
  have hpv : p ∉ obL v := Lib.ownBlock_ne gg2 gg1 tyN ∘ (mem_ob v p).1
  have n3 : NodeAt w3 p d v := ⟨(F13.block p (lt_heap HNN.out.h) hpv).trans HNN.out.h⟩
  have c5 := n3.c4
  have f5 := n3.f 4
  have F34 := Fr.set w3 p 4 (.slice (some ⟨gl, 0, none⟩) (k + 1) capl)
  have hM := hh5
  simp only [List.nodup_cons, List.nodup_append, List.mem_append, List.mem_cons, not_or] at hM
  obtain ⟨⟨a1, a2, a3, a4⟩, a5, ⟨⟨a6, a7⟩, a8, a9, a10⟩, a11⟩ := hM
  have hV3 : Var w3 bw 42 (.slice (some ⟨g, 0, none⟩) (m + 1) cap) := (hh1.keep HF01.out (by simp)).keep F13 a3
  have hgold : g < w.heap.size := (hh2.lt g rfl).2
  have hr3 := own_keep (own_keep hh2 HF01.out (by simp)) F13 (fun j hj hm => a11 j hj j (.inr (.inl hm)) rfl)
  have hV4 := hV3.keep F34 (by simp; exact a2)
  have hr4 := own_keep hr3 F34 (fun j hj => by
    have h := a11 j hj p (.inl rfl)
    simpa using h)
  rw [HL.out.2.2] at hr4
  obtain ⟨hs4, hs4'⟩ : ∃ s, (w3.setCell ⟨p, 4, none⟩ (.slice (some ⟨gl, 0, none⟩) (k + 1) capl)).heap.size = s := ⟨_, rfl⟩
  have hg1 : v.ownBlock = some gl ∨ w1.heap.size ≤ gl := hat.imp id (fun h => by omega)
  have HA := Lib.hid (And.intro hown (And.intro F13 (And.intro hg1 (And.intro hV4 hr4))))
  clear hown hgrow hat hsr F13 n3 HN1 HO1 hns hV3 hr3 hV4 hr4 F34 hh1 hh2 gg1 gg2 gg3 gg4 gg5 hh5 hh6 hh9 a1 a2 a3 a4 a5 a6 a7 a8 a9 a10 a11 hg1 c4 hs4'
  go_upto_region 7 with fail
  obtain ⟨w4, hw4⟩ : ∃ w4, w3.setCell ⟨p, 4, none⟩ (.slice (some ⟨gl, 0, none⟩) (k + 1) capl) = w4 := ⟨_, rfl⟩
  rw [hw4]
  have HW4 := Lib.hid hw4
  obtain ⟨q1, q2, q3, q4, q5⟩ := HA.out
  rw [hw4] at q4 q5
  have cW := q4.c
  have fW := q4.f
  have hsr := q5.alloc (.cells #[ptrV c] 25)
  have HN1 := Lib.hid (new1 w4 (ptrV c) 25)
  have HO1 := Lib.hid (one1 c)
  have HQ := Lib.hid (And.intro q4 q5)
  clear q1 q2 q3 q4 q5 hw4 c5 f5
  simp only [ptrV] at hsr HN1 HO1
  go_wp2_with (at_builtin; refine wpList_append_lies _ rfl _ _ 42 rfl 0 25 i0 _ 1 8 Tryz.underlying42 hi hz0 hz1 hz2 rfl (by decide) (.slice (some ⟨g, 0, none⟩) (m + 1) cap) (m + 1) _ rfl hsr ⟨w4.heap.size, 0, none⟩ 1 1 [.pointer (some ⟨c, 0, none⟩)] rfl rfl HN1.out HO1.out (by decide) (by unfold maxLen; omega) (by omega) (by simp <;> omega) (w4.heap.size + 1) (by simp) ?_)
  intro g2 cap2 w6 hown hgrow hat hlt6
  have F46 : Fr (obL (.slice (some ⟨g, 0, none⟩) (m + 1) cap)) w4 w6 := ((Fr.alloc w4 _).mono (by simp)).trans (Fr.of_grown hgrow) (fun j hj => .inl hj)
  have hgb : bw ∉ obL (.slice (some ⟨g, 0, none⟩) (m + 1) cap) := fun hm => (List.nodup_cons.1 HH.out.2.2.2.2.2.2.2.1).1 (List.mem_append_left _ hm)
  have hV6 := HQ.out.1.keep F46 hgb
  have c6 := hV6.c
  have f6 := hV6.f
  have HZ := Lib.hid (And.intro hown (And.intro F46 (hat.imp id (fun h => by omega) : (Value.slice (some ⟨g, 0, none⟩) (m + 1) cap).ownBlock = some g2 ∨ w4.heap.size ≤ g2)))
  clear hown hgrow hat hsr F46 HN1 HO1 hgb hV6 cW fW
  go_wp2_with fail
  go_ret
  refine ⟨rfl, ?_⟩
  obtain ⟨hh1, hh2, gg1, gg2, gg3, gg4, gg5, hh5, hh6, hh9⟩ := HH.out
  obtain ⟨q1, q2, q3, q4, q5⟩ := HA.out
  obtain ⟨z1, z2, z3⟩ := HZ.out
  rw [← HW4.out] at z2 z3
  have hl2 := HL.out.2.2
  have hkl := HL.out.2.1
  exact en_ci base bw rt d t.d ks r w w1 w3 w6 _ v vc p c gl (k + 1) capl g2 (m + 1 + 1) cap2 ps' ts Mk Mr hh1 hh2 gg1 gg2 gg3 gg4 gg5 hh5 hh6 hh9 HNS.out (by rw [hkl]; simpa [ptrV, Function.comp_def] using q1) q2 q3 (by rw [hl2]; simpa [ptrV, Function.comp_def] using z1) z2 z3
end Go.Proofs.YtbfclibjnanlgaaGreatDoor
/- TreeCopies, walked, as far as Copy is. -/
namespace Go.Proofs.YtbfclibjnanlgaaGreatDoor
open Go.RowKit
set_option maxHeartbeats 4000000
set_option maxRecDepth 100000
set_option linter.unusedVariables false
set_option linter.unusedSimpArgs false

mutual
theorem SepT.isT {w : World} : ∀ {t : Tr} {M : List Nat}, SepT w t M → IsT w (· ∈ M) t
  | .node p d ks, M, h => by
    obtain ⟨v, M', h1, h2, h3, rfl⟩ := h
    refine ⟨List.mem_cons_self, ⟨v, h1, ?_, fun g hg => List.mem_cons_of_mem _ (List.mem_append_left _ ((mem_ob v g).2 hg))⟩, (SepL.isT h3).keep (fun j hj _ => List.mem_cons_of_mem _ (List.mem_append_right _ hj)) (fun _ _ _ => rfl)⟩
    rw [List.length_map]
    exact h2
theorem SepL.isT {w : World} : ∀ {l : List Tr} {M : List Nat}, SepL w l M → IsTL w (· ∈ M) l
  | [], M, h => trivial
  | t :: r, M, h => by
    obtain ⟨M1, M2, h1, h2, rfl⟩ := h
    exact ⟨(SepT.isT h1).keep (fun j hj _ => List.mem_append_left _ hj) (fun _ _ _ => rfl), (SepL.isT h2).keep (fun j hj _ => List.mem_append_right _ hj) (fun _ _ _ => rfl)⟩
end
mutual
theorem allD_dt {Q : ND → Prop} : ∀ t u : Tr, u.dt = t.dt → AllD Q t → AllD Q u
  | .node p d ks, .node q e ls, h, ha => by
    simp only [Tr.dt] at h
    injection h with h1 h2
    exact ⟨by rw [h1]; exact ha.1, allDL_dt ks ls h2 ha.2⟩
theorem allDL_dt {Q : ND → Prop} : ∀ ks ls : List Tr, dtL ls = dtL ks → AllDL Q ks → AllDL Q ls
  | [], [], _, _ => trivial
  | [], _ :: _, h, _ => by simp [dtL] at h
  | _ :: _, [], _, _ => trivial
  | t :: r, u :: s, h, ha => by
    simp only [dtL] at h
    injection h with h1 h2
    exact ⟨allD_dt t u h1 ha.1, allDL_dt r s h2 ha.2⟩
end
mutual
theorem cnt_dt : ∀ t u : Tr, u.dt = t.dt → u.cnt = t.cnt
  | .node p d ks, .node q e ls, h => by
    simp only [Tr.dt] at h
    injection h with h1 h2
    simp only [Tr.cnt, cnt_dtL ks ls h2]
theorem cnt_dtL : ∀ ks ls : List Tr, dtL ls = dtL ks → cntL ls = cntL ks
  | [], [], _ => rfl
  | [], _ :: _, h => by simp [dtL] at h
  | _ :: _, [], h => by simp [dtL] at h
  | t :: r, u :: s, h => by
    simp only [dtL] at h
    injection h with h1 h2
    simp only [cntL, cnt_dt t u h1, cnt_dtL r s h2]
end
theorem rExact_nn (w : World) : Calls Tryz.prog 9 #[.pointer none, .pointer none] w fun e w' => e = .returned (.bool true) ∧ Below w.heap.size w w' := by
  have HR := rSame_nn w
  go_enter Tryz.func9, Tryz.ntmps9
  go_wp2_with fail
  refine HR.mono ?_
  rintro e w1 ⟨rfl, B1⟩
  have HB := Lib.hid B1
  clear HR B1
  go_wp2_with fail
  go_ret
  exact ⟨rfl, HB.out⟩
theorem Copy_nil (w : World) : Calls Tryz.prog 7 #[.pointer none] w fun e w' => e = .returned (.pointer none) ∧ Below w.heap.size w w' := by
  have HR := rising_nil w
  go_enter Tryz.func7, Tryz.ntmps7
  go_wp2_with fail
  refine HR.mono ?_
  rintro e w1 ⟨rfl, B1⟩
  have HB := Lib.hid B1
  clear HR B1
  go_wp2_with fail
  go_ret
  exact ⟨rfl, HB.out⟩
theorem copies_of (HCo : ∀ (w : World) (t : Tr), IsT w (fun _ => True) t → t.nodes.Nodup → t.cnt ≤ 1000 → AllD (fun d => d.x.length ≤ 4096) t →
      Calls Tryz.prog 7 #[ptrV t.p] w fun e w' => ∃ u M, e = .returned (ptrV u.p) ∧ Below w.heap.size w w' ∧ SepT w' u M ∧ M.Nodup ∧ (∀ j ∈ M, w.heap.size ≤ j) ∧ u.dt = t.dt)
    (ps : List PC) (v : Value) (b0 : Nat) (w : World) (hp : PcL w v ps) (hok : ∀ p ∈ ps, OkC p) (hb : b0 ≤ 255) (hE : Env w) :
    Calls Tryz.prog 3 #[v, .int .u8 b0] w fun e w' => e = .returned (.bool true) ∧ Below w.heap.size w w' := by
  have HH := heavy_any ps v w hp hok
  have HE := Lib.hid hE
  have HP := Lib.hid (And.intro hp hok)
  have HCO := Lib.hid HCo
  have wb : IntKind.i64.wrap (b0 : Int) = (b0 : Int) := wrap_i64 _ (by omega) (by omega)
  clear hp hok hE HCo
  go_enter Tryz.func3, Tryz.ntmps3
  go_wp2_with fail
  refine HH.mono ?_
  rintro e w1 ⟨b, rfl, B1, hsm⟩
  have HB1 := Lib.hid B1
  clear HH B1
  cases b with
  | true =>
    clear hsm
    have HW := works_any w1 (HE.out.below HB1.out)
    go_wp2_with fail
    refine HW.mono ?_
    rintro e w2 ⟨rfl, B2⟩
    have HB2 := Lib.hid (HB1.out.trans (B2.mono HB1.out.size))
    clear B2 HW
    go_wp2_with fail
    go_ret
    exact ⟨rfl, HB2.out⟩
  | false =>
  have HS1 := Lib.hid (hsm rfl)
  clear hsm
  have HG := Grow_any 20 ps v w1 (HP.out.1.below HB1.out) HP.out.2 (by have := HS1.out.1; omega) (by decide)
  rw [show ((20 : Nat) : Int) = 20 from rfl] at HG
  go_wp2_with fail
  refine HG.mono ?_
  rintro e w3 ⟨o, n3, rfl, B3, hn3, ht3⟩
  have HB3 := Lib.hid (HB1.out.trans (B3.mono HB1.out.size))
  clear HG B3
  rcases o with _ | t
  · clear ht3 hn3
    simp only [Option.map_none, encP]
    go_wp2_with fail
    refine (Copy_nil w3).mono ?_
    rintro e w4 ⟨rfl, B4⟩
    go_wp2_with fail
    refine (rCopy_nil w4).mono ?_
    rintro e w5 ⟨rfl, B5⟩
    go_wp2_with fail
    refine (rExact_nn w5).mono ?_
    rintro e w6 ⟨rfl, B6⟩
    go_wp2_with fail
    refine (spoil_nil b0 w6).mono ?_
    rintro e w7 ⟨rfl, rfl⟩
    go_wp2_with fail
    refine (rExact_nn w7).mono ?_
    rintro e w8 ⟨rfl, B8⟩
    have HB8 := Lib.hid (HB3.out.trans ((((B4.trans (B5.mono B4.size)).trans (B6.mono (Nat.le_trans B4.size B5.size))).trans (B8.mono (Nat.le_trans B4.size (Nat.le_trans B5.size B6.size)))).mono HB3.out.size))
    clear B4 B5 B6 B8
    have HW := works_any w8 (HE.out.below HB8.out)
    go_wp2_with fail
    refine HW.mono ?_
    rintro e w9 ⟨rfl, B9⟩
    have HB9 := Lib.hid (HB8.out.trans (B9.mono HB8.out.size))
    clear B9 HW
    go_wp2_with fail
    go_ret
    exact ⟨rfl, HB9.out⟩
  · obtain ⟨t1, t2, t3, t4, t5⟩ := ht3 t rfl
    have hcn : t.cnt ≤ 200 := by have := HS1.out.1; omega
    have hnm : AllD (fun d => d.x.length ≤ 4096) t := t5.mono (fun d hd => (fromP_ok HP.out.2 HS1.out.2 hd).2)
    have HC1 := HCO.out w3 t (t1.keep (fun _ _ _ => trivial) (fun _ _ _ => rfl)) t2 (by omega) hnm
    have hsz := t1.sized
    have HT := Lib.hid (And.intro hsz (And.intro hcn hnm))
    clear t1 t2 t3 t4 t5 hcn hnm hsz ht3 hn3
    simp only [Option.map_some, encP, ptrV]
    simp only [ptrV] at HC1
    go_wp2_with fail
    refine HC1.mono ?_
    rintro e w4 ⟨u, M, rfl, B4, hS, hM, hlo, hdt⟩
    have hltM := fun j hj => SepT.lt hS j hj
    have HB4 := Lib.hid (HB3.out.trans (B4.mono HB3.out.size))
    have hT4 := HT.out.1.below B4
    have HC2 := rCopy_any t.cnt t w4 (Nat.le_refl _) (by have := HT.out.2.1; omega) hT4
    have HM := Lib.hid (And.intro hM (And.intro hlo (And.intro hdt (And.intro hltM (And.intro hT4 (And.intro hS B4))))))
    clear HC1 B4 hS hM hlo hdt hltM hT4
    simp only [ptrV] at HC2
    go_wp2_with fail
    refine HC2.mono ?_
    rintro e w5 ⟨c, rfl, B5, hc1, hc2, hc3⟩
    obtain ⟨hM, hlo, hdt, hltM, hT4, hS4, B4⟩ := HM.out
    have HB5 := Lib.hid (HB4.out.trans (B5.mono HB4.out.size))
    have hS5 : SepT w5 u M := SepT.keep hS4 (fun j hj => B5.block j (hltM j hj))
    have HX := rExact_any t.cnt t u w5 (Nat.le_refl _) (hT4.below B5) (SepT.isT hS5) (sim_dt t u hdt)
    have HC5 := Lib.hid (And.intro hc1 (And.intro hc3 (And.intro hS5 (And.intro (hT4.below B5) B5.size))))
    clear HC2 B5 hc1 hc2 hc3 hM hlo hdt hltM hT4 hS4 B4 hS5
    simp only [ptrV] at HX
    go_wp2_with fail
    refine HX.mono ?_
    rintro e w6 ⟨rfl, B6⟩
    have HB6 := Lib.hid (HB5.out.trans (B6.mono HB5.out.size))
    have hlt5 := fun j hj => SepT.lt HC5.out.2.2.1 j hj
    have HSP := spoil_any b0 u w6 M hb (SepT.keep HC5.out.2.2.1 (fun j hj => B6.block j (hlt5 j hj))) HM.out.1 (allD_dt t u HM.out.2.2.1 HT.out.2.2) (by
      have h1 := cnt_dt t u HM.out.2.2.1
      have h2 := HT.out.2.1
      omega)
    have HC6 := Lib.hid (And.intro (HC5.out.1.below B6) (HC5.out.2.2.2.1.below B6))
    clear HX B6 hlt5
    simp only [ptrV] at HSP
    go_wp2_with fail
    refine HSP.mono ?_
    rintro e w7 ⟨rfl, F7⟩
    have HB7 := Lib.hid (HB6.out.trans (F7.below w.heap.size (fun j hj => by
      have h1 := HM.out.2.1 j hj
      have h2 := HB3.out.size
      omega) HB6.out.size))
    have hT7 := HC6.out.2.keep (fun j hj _ => hj) (fun j hj hl => F7.block j hl (fun hm => by
      have h1 := HM.out.2.1 j hm
      omega))
    have hc7 := HC6.out.1.keep (fun j hj _ => hj) (fun j hj hl => F7.block j hl (fun hm => by
      have h1 := HM.out.2.2.2.1 j hm
      omega))
    have HX2 := rExact_any t.cnt t c w7 (Nat.le_refl _) hT7 hc7 (sim_dt t c HC5.out.2.1)
    clear HSP F7 hT7 hc7
    simp only [ptrV] at HX2
    go_wp2_with fail
    refine HX2.mono ?_
    rintro e w8 ⟨rfl, B8⟩
    have HB8 := Lib.hid (HB7.out.trans (B8.mono HB7.out.size))
    clear HX2 B8
    have HW := works_any w8 (HE.out.below HB8.out)
    go_wp2_with fail
    refine HW.mono ?_
    rintro e w9 ⟨rfl, B9⟩
    have HB9 := Lib.hid (HB8.out.trans (B9.mono HB8.out.size))
    clear B9 HW
    go_wp2_with fail
    go_ret
    exact ⟨rfl, HB9.out⟩
end Go.Proofs.YtbfclibjnanlgaaGreatDoor
/- tree.Copy, walked. -/
namespace Go.Proofs.YtbfclibjnanlgaaGreatDoor
open Go.RowKit
set_option maxHeartbeats 4000000
set_option maxRecDepth 100000
set_option linter.unusedVariables false
set_option linter.unusedSimpArgs false

/-- What keeps the counts small while Copy goes. -/
def cyQ (n : Nat) (l : List Tr) (s : List (ND × List DT)) : Prop := s.length = n + 1 ∧ (∀ x ∈ s, x.2.length + n + cntL l ≤ 1048576) ∧ AllDL (fun d => d.x.length ≤ 4096) l
theorem cyDL_app {Q : ND → Prop} : ∀ {a b : List Tr}, AllDL Q a → AllDL Q b → AllDL Q (a ++ b)
  | [], b, _, h => h
  | t :: r, b, h, hb => ⟨h.1, cyDL_app h.2 hb⟩
theorem cy_qent (s : List (ND × List DT)) (n : Nat) (t : Tr) (r : List Tr) (h : cyQ n (t :: r) s) : cyQ (n + 1) (t.ks ++ r) (cyEn t s) := by
  obtain ⟨h1, h2, h3⟩ := h
  obtain ⟨p, d, ks⟩ := t
  have hc : n + cntL ((Tr.node p d ks) :: r) ≤ 1048576 := by
    cases s with
    | nil => simp at h1
    | cons x s => have := h2 x (by simp); omega
  refine ⟨by simp [cyEn, h1], fun x hx => ?_, cyDL_app h3.1.2 h3.2⟩
  have e : cntL (((Tr.node p d ks).ks) ++ r) + 1 = cntL ((Tr.node p d ks) :: r) := by
    show cntL (ks ++ r) + 1 = (1 + cntL ks) + cntL r
    rw [cntL_app]; omega
  rcases List.mem_cons.1 hx with rfl | hx
  · simp only [List.length_nil]; omega
  · have := h2 x hx; omega
theorem cy_qlev (s : List (ND × List DT)) (n : Nat) (r : List Tr) (h : cyQ (n + 1) r s) : cyQ n r (cyLv s) := by
  obtain ⟨h1, h2, h3⟩ := h
  match s, h1, h2 with
  | [], h1, _ => simp at h1
  | [x], h1, _ => simp at h1
  | (d, ks) :: (d', ks') :: s, h1, h2 =>
    refine ⟨by simp [cyLv] at h1 ⊢; omega, fun x hx => ?_, h3⟩
    rcases List.mem_cons.1 hx with rfl | hx
    · have := h2 (d', ks') (by simp)
      simp only [List.length_append, List.length_singleton] at this ⊢
      omega
    · have := h2 x (by simp [hx]); omega
theorem cl_copy (base bw rt : Nat) : Clc base (CI base bw rt) cyEn cyLv cyQ [.pointer (some ⟨bw, 0, none⟩)] [.pointer (some ⟨bw, 0, none⟩)] where
  lt := fun s M w h j hj => by
    obtain ⟨_, _, _, _, _, _, _, _, h6, _⟩ := h
    exact (h6 j hj).2
  keep := fun s M w w' N h hF hN => ci_keep h hF hN
  ent := fun s M w n t r v h hq hn hp hb => by
    obtain ⟨q1, q2, q3⟩ := hq
    match s, q1, q2, h with
    | [], q1, _, _ => simp at q1
    | (d, ks) :: s, q1, q2, h =>
      have q4 := q2 (d, ks) (by simp)
      have q5 : s.length = n := by simpa using q1
      have q6 : t.d.x.length ≤ 4096 := by
        cases t
        exact q3.1.1
      exact copy1 base bw rt t d ks s M w v h hn (by omega) (by omega) (by simp only at q4; omega)
  lev := fun s M w n r h hq hb => by
    obtain ⟨q1, q2, q3⟩ := hq
    match s, q1, q2, h with
    | [], q1, _, _ => simp at q1
    | [x], q1, _, _ => simp at q1
    | (d, ks) :: (d', ks') :: s, q1, q2, h =>
      have q4 := q2 (d, ks) (by simp)
      exact copy2 base bw rt d d' ks ks' s M w h (by simp at q1 q4; omega)
  qent := cy_qent
  qlev := cy_qlev
  big := fun s M w h j hj => by
    obtain ⟨_, _, _, _, _, _, _, _, h6, _⟩ := h
    exact (h6 j hj).1
mutual
theorem run_cy : ∀ (t : Tr) (d : ND) (ks : List DT) (r : List (ND × List DT)), runTc cyEn cyLv t ((d, ks) :: r) = (d, ks ++ [t.dt]) :: r
  | .node p e ls, d, ks, r => by
    rw [runTc_eq]
    show cyLv (runLc cyEn cyLv ls ((e, []) :: (d, ks) :: r)) = _
    rw [runL_cy ls e [] ((d, ks) :: r), List.nil_append]
    rfl
theorem runL_cy : ∀ (l : List Tr) (d : ND) (ks : List DT) (r : List (ND × List DT)), runLc cyEn cyLv l ((d, ks) :: r) = (d, ks ++ dtL l) :: r
  | [], d, ks, r => by simp [runLc, dtL]
  | t :: l, d, ks, r => by
    show runLc cyEn cyLv l (runTc cyEn cyLv t ((d, ks) :: r)) = _
    rw [run_cy t d ks r, runL_cy l d _ r]
    simp [dtL]
end
/-- tree.Copy of a tree: the same, in blocks of its own. -/
theorem Copy_any (w : World) (t : Tr) (hT : IsT w (fun _ => True) t) (hnd : t.nodes.Nodup) (hc : t.cnt ≤ 1000) (hA : AllD (fun d => d.x.length ≤ 4096) t) :
    Calls Tryz.prog 7 #[ptrV t.p] w fun e w' => ∃ u M, e = .returned (ptrV u.p) ∧ Below w.heap.size w w' ∧ SepT w' u M ∧ M.Nodup ∧ (∀ j ∈ M, w.heap.size ≤ j) ∧ u.dt = t.dt := by
  have HR := rising_any w t hT hnd (by omega)
  have hTb : IsT w (· < w.heap.size) t := hT.keep (fun j _ h => h) (fun j _ h => rfl)
  have HPL := Lib.hid (And.intro (post_len t) (cnt_pos t))
  have HT := Lib.hid (And.intro hTb (And.intro hc hA))
  clear hT hTb hnd hc hA
  simp only [ptrV] at HR ⊢
  go_enter Tryz.func7, Tryz.ntmps7
  go_wp2_with fail
  refine HR.mono ?_
  rintro e w1 ⟨rv, rfl, B1, R1⟩
  obtain ⟨q, cap, hq⟩ := R1.form
  rw [List.length_map, HPL.out.1] at hq
  subst hq
  have hc1 := HPL.out.2
  have hne : ((t.cnt : Int) == 0) = false := beq_eq_false_iff_ne.2 (by omega)
  have HB1 := Lib.hid B1
  have HN := New_any w1 d0 (.slice none 0 0) [] (by decide) ⟨none, 0, rfl, fun i o hi => by simp at hi⟩ (by simp)
  clear R1 HR B1
  simp only [d0] at HN
  rw [posV0] at HN
  go_wp2_with fail
  refine HN.mono ?_
  rintro e w2 ⟨c, vc, out, rfl, ns⟩
  have hout : out = [] := List.length_eq_zero_iff.1 ns.f.len
  subst hout
  have ns0 : NS w1 c d0 [] w2 vc [] := ns
  have HB2 := Lib.hid (HB1.out.trans (ns0.b.mono HB1.out.size))
  have hs12 := ns0.b.size
  have hs01 := HB1.out.size
  have hclt := lt_heap ns0.n
  -- the way, and its row
  obtain ⟨w3, hw3⟩ : ∃ w3, w2.alloc (.cells #[ptrV c] 25) = w3 := ⟨_, rfl⟩
  obtain ⟨w4, hw4⟩ : ∃ w4, w3.alloc (.cells #[.slice (some ⟨w2.heap.size, 0, none⟩) 1 1] 42) = w4 := ⟨_, rfl⟩
  have hs3 : w3.heap.size = w2.heap.size + 1 := by rw [← hw3]; simp
  have hs4 : w4.heap.size = w2.heap.size + 2 := by rw [← hw4]; simp [hs3]
  have F23 : Fr [] w2 w3 := by rw [← hw3]; exact Fr.alloc _ _
  have F34 : Fr [] w3 w4 := by rw [← hw4]; exact Fr.alloc _ _
  have F24 := F23.trans F34 (by simp)
  have hrow3 : w3.heap[w2.heap.size]? = some (.cells #[ptrV c] 25 (0, 0)) := by rw [← hw3]; exact heap_alloc_new _ _
  have hrow4 := (F34.block w2.heap.size (by omega) (by simp)).trans hrow3
  have hvar4 : Var w4 (w2.heap.size + 1) 42 (.slice (some ⟨w2.heap.size, 0, none⟩) 1 1) := by rw [← hs3, ← hw4]; exact heap_alloc_new _ _
  have hown4 : w4.ownsRow 0 25 1 (.slice (some ⟨w2.heap.size, 0, none⟩) 1 1) 1 [ptrV c] :=
    ⟨rfl, .inr ⟨w2.heap.size, 1, #[ptrV c], rfl, Nat.zero_le _, hrow4, by decide, by decide, rfl, rfl⟩⟩
  have hcC : c ∉ obL vc := row_node ns0.r ns0.n
  have hvcb : ∀ j ∈ obL vc, w1.heap.size ≤ j ∧ j < w2.heap.size := ns0.r.base
  have hob : obL (.slice (some ⟨w2.heap.size, 0, none⟩) 1 1) = [w2.heap.size] := rfl
  have hCI : CI w.heap.size (w2.heap.size + 1) c [(d0, [])] ((w2.heap.size + 1) :: ([w2.heap.size] ++ (c :: (obL vc ++ ([] ++ []))))) w4 := by
    refine ⟨_, [c], _, hvar4, hown4, ⟨c, vc, [], [], [], [], rfl, (F24.block c hclt (by simp)).trans ns0.n, by simpa using own_keep ns0.r.1 F24 (by simp), rfl, rfl, ⟨rfl, rfl⟩, rfl⟩, rfl, ?_, ?_, rfl⟩
    · simp only [List.append_nil, List.singleton_append, List.nodup_cons, List.mem_cons, not_or]
      refine ⟨⟨by omega, by omega, fun hm => by have := hvcb _ hm; omega⟩, ⟨by omega, fun hm => by have := hvcb _ hm; omega⟩, hcC, by unfold obL; cases vc.ownBlock <;> simp⟩
    · intro j hj
      simp only [List.append_nil, List.singleton_append, List.mem_cons] at hj
      have hcp := ns0.p
      rcases hj with rfl | rfl | rfl | hj
      · omega
      · omega
      · omega
      · have := hvcb j hj; omega
  have HWC := walk_c (cl_copy w.heap.size (w2.heap.size + 1) c) [(d0, [])] _ w4 t hCI ⟨rfl, fun x hx => by
      obtain rfl : x = (d0, []) := by simpa using hx
      have := HT.out.2.1
      simp only [List.length_nil, cntL]; omega, ⟨HT.out.2.2, trivial⟩⟩ (HT.out.1.keep (fun j _ h => h) (fun j h _ => ((HB2.out.trans ((F24.below w2.heap.size (by simp) (Nat.le_refl _)).mono HB2.out.size)).block j h))) (by have := HT.out.2.1; omega) (by omega)
  rw [run_cy] at HWC
  have HB4 := Lib.hid (HB2.out.trans ((F24.below w2.heap.size (by simp) (Nat.le_refl _)).mono HB2.out.size))
  have HBIG := Lib.hid (show ∀ j ∈ ((w2.heap.size + 1) :: ([w2.heap.size] ++ (c :: (obL vc ++ ([] ++ [])))) : List Nat), w.heap.size ≤ j from fun j hj => (cl_copy w.heap.size (w2.heap.size + 1) c).big _ _ _ hCI j hj)
  clear ns ns0 hCI hvar4 hown4 hrow3 hrow4 F23 F34 F24 hcC hvcb hob hclt hs3 hs4 HN
  subst hw4
  subst hw3
  simp only [ptrV] at HWC ⊢
  go_wp2_with fail
  refine HWC.mono ?_
  rintro e w5 ⟨rfl, M', hCI, F5, hM'⟩
  obtain ⟨wv, ps, Mo, k1, k2, k3, rfl, k5, k6, k9⟩ := hCI
  obtain ⟨p, v, ts, ps', Mk, Mr, rfl, g1, g2, g3, g4, g5, rfl⟩ := k3
  obtain ⟨u, rfl⟩ : ∃ u, ts = [u] := by
    match ts, g4 with
    | [], g4 => simp at g4
    | [u], _ => exact ⟨u, rfl⟩
    | a :: b :: r, g4 => simp at g4
  obtain ⟨rfl, rfl⟩ := g5
  obtain rfl : p = c := by simpa using k9
  simp only [Option.toList, List.length_nil, Nat.add_zero, List.map_nil, List.append_nil, List.length_singleton, List.map_cons] at g2
  obtain ⟨gk, capk, hv, _, _⟩ := g2.form (by omega)
  subst hv
  have cK : w5.cell? ⟨gk, 0, none⟩ = some (.pointer (some ⟨u.p, 0, none⟩)) := by rw [g2.cellAt 0 (by omega)]; rfl
  have c4 := (NodeAt.mk g1).c4
  have hdt : u.dt = t.dt := by simpa using g4
  obtain ⟨M1, M2, s1, s2, rfl⟩ := g3
  obtain rfl : M2 = [] := s2
  have HF := Lib.hid (And.intro s1 (And.intro k5 (And.intro hdt (And.intro F5 k6))))
  clear g1 g2 s1 k1 k2 k5 k6 k9 F5 hM' HWC g4 hdt
  go_wp2_with fail
  go_ret
  obtain ⟨s1, k5, hdt, F5, k6⟩ := HF.out
  refine ⟨u, M1, rfl, HB4.out.trans (F5.below _ HBIG.out HB4.out.size), s1, ?_, ?_, hdt⟩
  · simp only [List.append_nil, List.nodup_cons, List.nodup_append] at k5
    exact k5.2.2.1.2.2.1
  · intro j hj
    exact (k6 j (by simp [hj])).1
end Go.Proofs.YtbfclibjnanlgaaGreatDoor
