/- Package lex, walked: the iterator over a source's tokens. -/
import Derived.Test.YtliebhpddjbjeaaGreatDoorLzJ
import Derived.Test.YtliebhpddjbjeaaGreatDoorPpD
import Derived.Test.YtliebhpddjbjeaaGreatDoorLyU
import Derived.Sort.CutIn
namespace Go.Proofs.YtliebhpddjbjeaaGreatDoor
open Go.RowKit Go.Shelf
attribute [local go_sem] Oper.semAt_some
set_option maxHeartbeats 1000000
set_option maxRecDepth 100000
set_option linter.unusedVariables false

/-- The iterator's block holds the rest of the source. -/
structure Cb (W : World) (b : Nat) (v : Value) : Prop where
  c : W.cell? ⟨b, 0, none⟩ = some v
  f : W.frozen? ⟨b, 0, none⟩ = false
theorem Cb.same {X Y : World} {b : Nat} {v : Value} (h : Cb X b v) (hk : Y.heap[b]? = X.heap[b]?) : Cb Y b v :=
  ⟨(World.cell?_of_block (a := ⟨b, 0, none⟩) hk).trans h.c, (World.frozen?_of_block (a := ⟨b, 0, none⟩) hk).trans h.f⟩
theorem Cb.below {X Y : World} {b : Nat} {v : Value} (h : Cb X b v) (hb : Below X.heap.size X Y) (hlt : b < X.heap.size) : Cb Y b v := h.same (hb.block b hlt)
theorem Cb.set {X : World} {b : Nat} {v : Value} (h : Cb X b v) (u : Value) : Cb (X.setCell ⟨b, 0, none⟩ u) b u :=
  ⟨World.cell?_setCell_same _ _ _ h.c, (World.frozen?_setCell _ _ _ _).trans h.f⟩
theorem Cb.drew {X : World} {b : Nat} {v : Value} (h : Cb X b v) : Cb X.drew b v := ⟨h.c, h.f⟩
theorem grown_below {X Y : World} {b : Nat} (h : Below X.heap.size X Y) : X.grownBy Y (some b) := ⟨h.os, h.tape, h.output, h.size, fun k hk _ => h.block k hk⟩
theorem grown_trans {X Y Z : World} {b : Nat} (h : X.grownBy Y (some b)) (k : Y.grownBy Z (some b)) : X.grownBy Z (some b) := h.andThen k (fun j e => .inr e)
theorem grown_refl (X : World) (b : Nat) : X.grownBy X (some b) := ⟨rfl, rfl, rfl, Nat.le_refl _, fun _ _ _ => rfl⟩
/-- How the iterator stands at its loop's head. -/
structure TkR (S : List UInt8) (n0 b : Nat) (J : Nat → World → Prop) (w wr : World) (sr : ByteArray) (off : Nat) (done : List (T0 × Nat × Nat)) (W0 : World) : Prop where
  le : off ≤ S.length
  rest : sr.data.toList = S.drop off
  at' : scanAt S off done
  cb : Cb wr b (.string sr)
  lt : b < W0.heap.size
  j : J done.length W0
  gr : W0.grownBy wr (some b)
  bel : Below n0 w wr
theorem ys_tok (S : List UInt8) (off n : Nat) (done : List (T0 × Nat × Nat)) (t : T0) (e : Int) (h : scanAt S off done) (hne : S.drop off ≠ []) (hs : stp (S.drop off) = (some t, n, e)) : (ysL S)[done.length]? = some (tkV (plOf S (t, off, off + n)), 0) := by
  have h2 := scanAt_tok S off n done t e h hne hs
  unfold scanAt at h2
  unfold ysL
  have e1 : (scanS 0 S).1 = done ++ ((t, off, off + n) :: (scanS (off + n) (S.drop (off + n))).1) := by rw [h2]; simp
  rw [e1, List.map_append, List.map_cons, List.append_assoc, List.getElem?_append_right (by simp)]
  simp
theorem ys_last (S : List UInt8) (done : List (T0 × Nat × Nat)) (h : (scanS 0 S).1 = done) : (ysL S)[done.length]? = some (lastY S) := by
  unfold ysL
  rw [h, List.getElem?_append_right (by simp)]
  simp
theorem ys_len (S : List UInt8) (done : List (T0 × Nat × Nat)) (h : (scanS 0 S).1 = done) : (ysL S).length = done.length + 1 := by
  unfold ysL
  rw [h]; simp
theorem scan_err1 (S : List UInt8) (off n : Nat) (done : List (T0 × Nat × Nat)) (e : Int) (he : e ≠ 0) (h : scanAt S off done) (hne : S.drop off ≠ []) (hs : stp (S.drop off) = (none, n, e)) : scanS 0 S = (done, off, e) := by
  unfold scanAt at h
  rw [h, scanS_err off _ hne n e he hs]
  simp
theorem oneL_none0 (s : List UInt8) (m : Nat) (e : Int) (h : oneL s = (none, m, e)) : m = 0 := by
  unfold oneL at h
  repeat' split at h
  all_goals first | (injection h with h1 h2; injection h2 with h2 h3; exact h2.symm) | (injection h with h1 h2; cases h1)
theorem oneL_no43 (s : List UInt8) (m : Nat) (e : Int) (h : oneL s = (none, m, e)) : e ≠ 43 := by
  unfold oneL at h
  repeat' split at h
  all_goals first | (injection h with h1 h2; injection h2 with h2 h3; rw [← h3]; decide) | (injection h with h1 h2; cases h1)
theorem grownBy_setCell'' (W : World) (B o : Nat) (u : Value) : W.grownBy (W.setCell ⟨B, o, none⟩ u) (some B) := ⟨rfl, rfl, rfl, by simp, fun k _ hk => Below.heap_setCell _ _ _ _ (fun e => hk (by simp [e]))⟩
theorem Cb.other {X : World} {b : Nat} {v : Value} (h : Cb X b v) (d o : Nat) (u : Value) (hd : d ≠ b) : Cb (X.setCell ⟨d, o, none⟩ u) b v :=
  ⟨(World.cell?_setCell_other _ _ _ _ (addr_ne (Ne.symm hd))).trans h.c, (World.frozen?_setCell _ _ _ _).trans h.f⟩
theorem Fv.same {w w' : World} {b : Nat} {v0 v1 v2 v3 v4 : Value} (h : Fv w b v0 v1 v2 v3 v4) (hk : w'.heap[b]? = w.heap[b]?) : Fv w' b v0 v1 v2 v3 v4 := by
  have hc : ∀ j, w'.cell? ⟨b, j, none⟩ = w.cell? ⟨b, j, none⟩ := fun j => World.cell?_of_block (a := ⟨b, j, none⟩) hk
  have hf : ∀ j, w'.frozen? ⟨b, j, none⟩ = w.frozen? ⟨b, j, none⟩ := fun j => World.frozen?_of_block (a := ⟨b, j, none⟩) hk
  exact ⟨(hc 0).trans h.c0, (hc 1).trans h.c1, (hc 2).trans h.c2, (hc 3).trans h.c3, (hc 4).trans h.c4, (hf 0).trans h.f0, (hf 1).trans h.f1, (hf 2).trans h.f2, (hf 3).trans h.f3, (hf 4).trans h.f4⟩
theorem ztokens_in (s : ByteArray) (hs : s.size ≤ 16384) (n0 n : Nat) (hn : 1 ≤ n) (b : Nat) (w : World) (hE : Env w) (hn0 : n0 = w.heap.size) (hnb : n0 ≤ b) (W : World) (hW : Below n0 w W) (hb : b < W.heap.size) (hc : Cb W b (.string s)) :
    IterOk s.data.toList n0 n 89 #[.pointer (some ⟨b, 0, none⟩)] b W := by
  intro l J JX hY h0
  refine callsIn_wide.2 ?_
  show Calls Tryz.prog 89 #[.func (.yield l) #[] #[], .pointer (some ⟨b, 0, none⟩)] W _
  have hsc := fun w a x y m => store_cx (P := Tryz.prog) w a .f64 x y m
  obtain ⟨S, hS⟩ : ∃ S, s.data.toList = S := ⟨_, rfl⟩
  have hSl : S.length ≤ 16384 := by rw [← hS, bytes_of]; exact hs
  have R0 : Hid (TkR S n0 b J w W s 0 [] W) := Lib.hid ⟨by omega, by rw [hS]; rfl, scanAt_start S, hc, hb, h0, grown_below (Below.refl _ _), hW⟩
  rw [hS] at hY ⊢
  have HY := Lib.hid hY
  have HE := Lib.hid hE
  clear hE hY h0 hc hW
  go_enter Tryz.func89, Tryz.ntmps89
  go_wp2_with fail
  refine (Begin_any _).mono ?_
  rintro e w1 ⟨rfl, rfl⟩
  go_wp2_with fail
  go_loopw [3] (fun p wr => ∃ (sr : ByteArray) (off : Nat) (done : List (T0 × Nat × Nat)) (W0 : World), p = posV (goB 1 1 (S.take off)).1 (goB 1 1 (S.take off)).2 ∧ TkR S n0 b J w wr sr off done W0)
    (fun p wr => lenOf ((wr.cell? ⟨b, 0, none⟩).getD undef))
  case atStart => exact ⟨s, 0, [], _, rfl, R0.out⟩
  case round =>
    obtain ⟨sr, off, done, W0, rfl, hR⟩ := hrel
    clear R0
    obtain ⟨hle, hrest, hat, cb, hlt, hj, hgr, hbel⟩ := hR
    have hsz : sr.size ≤ 16384 := by rw [← bytes_of, hrest, List.length_drop]; omega
    have HB := fun w => zblank_src sr (by omega) w
    have c0 := cb.c
    obtain ⟨px, py, hpp⟩ : ∃ px py, goB 1 1 (S.take off) = (px, py) := ⟨_, _, rfl⟩
    rw [hpp]
    simp only
    obtain ⟨x1, y1, e1⟩ := posV_two px py
    rw [e1]
    go_wp2_with fail
    refine (HB _).mono ?_
    rintro e w1 ⟨k, x, rfl, hbp, rfl⟩
    clear HB
    have hk : k ≤ sr.size := by rw [← bytes_of]; exact hbp.le
    obtain ⟨n1, n2, n3, n4, n5⟩ := rest_next S sr off k hrest hk hle
    have hgo := go_more S off k
    rw [← n3, hpp] at hgo
    have hat2 : scanAt S (off + k) done := hbp.skp S off done hrest.symm hat
    have hbh := hbp.behind
    rw [hrest, List.drop_drop] at hbh
    obtain ⟨qx, qy, hq⟩ : ∃ qx qy, goB 1 1 (S.take (off + k)) = (qx, qy) := ⟨_, _, rfl⟩
    have hgo2 : goB px py (sr.extract 0 k).data.toList = (qx, qy) := by rw [← hgo]; exact hq
    obtain ⟨x2, y2, e2⟩ := posV_two qx qy
    have HBe : ∀ w, Calls Tryz.prog 91 #[.complex .f64 x1 y1, .string (sr.extract 0 k)] w fun e w' => e = .returned (.complex .f64 x2 y2) ∧ w' = w := fun w => by
      have := Behind_any px py (sr.extract 0 k) (by omega) w
      rw [hgo2, e1] at this
      simp only at this
      rw [e2] at this; exact this
    have f0 := cb.f
    have hx1 : (0 : Int) ≤ (k : Int) := by omega
    have hx2 : (k : Int) ≤ (sr.size : Int) := by omega
    have hcb2 : Cb (w1.setCell ⟨b, 0, none⟩ (.string (sr.extract k sr.size))) b (.string (sr.extract k sr.size)) := cb.set _
    have HC0 := Lib.hid c0
    clear hbp hgo hgo2 hat hrest n3
    obtain ⟨sq, hsq⟩ : ∃ sq, sr.extract k sr.size = sq := ⟨_, rfl⟩
    have hsqs : sq.size ≤ sr.size := by rw [← hsq]; omega
    rw [hsq] at n2 hcb2
    go_wp2_with fail
    go_region_with (go_at_call 91; refine (HBe _).mono ?_; rintro e w2 ⟨rfl, rfl⟩)
    all_goals
      clear HBe c0 f0 hx1 hx2 hsq
      have grA : W0.grownBy (w1.setCell ⟨b, 0, none⟩ (.string sq)).drew (some b) := grown_trans (grown_trans hgr (grownBy_setCell' w1 b _)) ⟨rfl, rfl, rfl, Nat.le_refl _, fun _ _ _ => rfl⟩
      have belA : Below n0 w (w1.setCell ⟨b, 0, none⟩ (.string sq)).drew := (hbel.setCell (p := ⟨b, 0, none⟩) hnb _).drew
      have cbA := hcb2.drew
      clear hcb2 hgr hbel cb
      generalize (w1.setCell ⟨b, 0, none⟩ (.string sq)).drew = wA at grA belA cbA ⊢
      have hltA : b < wA.heap.size := Nat.lt_of_lt_of_le hlt grA.size
      rcases hbh with ⟨rfl, hbh⟩ | ⟨rfl, hne, hst⟩
      · obtain ⟨o, m, x, hone⟩ : ∃ (o : Option T0) (m : Nat) (x : Int), (if sq.size = 0 then ((none, 0, 0) : Option T0 × Nat × Int) else oneL sq.data.toList) = (o, m, x) := ⟨_, _, _, rfl⟩
        obtain ⟨K, X, N, htok⟩ : ∃ (K : Nat) (X : List UInt8) (N : Int), tok0 o = ⟨K, X, N⟩ := ⟨_, _, _, rfl⟩
        have HF : ∀ w', Below n0 w w' → Calls Tryz.prog 92 #[.string sq] w' fun e w'' => e = .returned (.tuple #[.agg #[.int .u8 K, .complex .f64 0 0, .complex .f64 0 0, .string ⟨X.toArray⟩, .int .i64 N], .int .i64 m, .int .i64 x]) ∧ Below w'.heap.size w' w'' := fun w' hb => by
          have key : oneV (o, m, x) = .tuple #[.agg #[.int .u8 K, .complex .f64 0 0, .complex .f64 0 0, .string ⟨X.toArray⟩, .int .i64 N], .int .i64 m, .int .i64 x] := by
            unfold oneV
            rw [show (o, m, x).1 = o from rfl, htok]; rfl
          rw [← key, ← hone]
          by_cases hz : sq.size = 0
          · rw [if_pos hz]; exact zf_end sq hz w'
          · rw [if_neg hz]; exact zfirst_any sq (by omega) (by omega) w' (HE.out.below (hn0 ▸ hb))
        have c1 := cbA.c
        go_wp2_with fail
        refine (HF _ belA).mono ?_
        rintro e w2 ⟨rfl, B1⟩
        clear HF
        have cbB := cbA.below B1 hltA
        have c2 := cbB.c
        have g0 := Fv.new w2 (.int .u8 0) (.complex .f64 0 0) (.complex .f64 0 0) (.string ⟨#[]⟩) (.int .i64 0) 51 w2.heap.size rfl
        go_upto_region 6 with fail
        have hm : m ≤ sq.size := by
          by_cases hz : sq.size = 0
          · rw [if_pos hz] at hone; injection hone with h1 h2; injection h2 with h2 h3; omega
          · rw [if_neg hz] at hone
            rcases hbh with hnil | ⟨hne, hst⟩
            · exfalso
              rw [← n2] at hnil
              exact hz (by rw [← bytes_of, hnil]; rfl)
            · rw [n2] at hone
              rw [hone] at hst
              cases o with
              | none => rw [oneL_none0 _ _ _ hone]; omega
              | some t =>
                have := (stp_ok _ hne t m x hst).2.2.1
                rw [← n2, bytes_of] at this; exact this
        obtain ⟨p1, p2, p3, p4, p5⟩ := rest_next S sq (off + k) m n2 hm n1
        have hgo := go_more S (off + k) m
        rw [← p3, hq] at hgo
        obtain ⟨rx, ry, hr⟩ : ∃ rx ry, goB 1 1 (S.take (off + k + m)) = (rx, ry) := ⟨_, _, rfl⟩
        have hgo2 : goB qx qy (sq.extract 0 m).data.toList = (rx, ry) := by rw [← hgo]; exact hr
        obtain ⟨x3, y3, e3⟩ := posV_two rx ry
        have HBe : ∀ w, Calls Tryz.prog 91 #[.complex .f64 x2 y2, .string (sq.extract 0 m)] w fun e w' => e = .returned (.complex .f64 x3 y3) ∧ w' = w := fun w => by
          have := Behind_any qx qy (sq.extract 0 m) (by omega) w
          rw [hgo2, e2] at this
          simp only at this
          rw [e3] at this; exact this
        have hA : n0 ≤ wA.heap.size := by rw [hn0]; exact belA.size
        have grB : W0.grownBy (w2.alloc (.cells #[.int .u8 K, .complex .f64 0 0, .complex .f64 0 0, .string ⟨X.toArray⟩, .int .i64 N] 51)) (some b) := grown_trans grA (grown_trans (grown_below B1) (grown_below (below_new _ _)))
        have belB : Below n0 w (w2.alloc (.cells #[.int .u8 K, .complex .f64 0 0, .complex .f64 0 0, .string ⟨X.toArray⟩, .int .i64 N] 51)) := (belA.trans (B1.mono hA)).trans ((below_new _ _).mono (Nat.le_trans hA B1.size))
        have cbC : Cb (w2.alloc (.cells #[.int .u8 K, .complex .f64 0 0, .complex .f64 0 0, .string ⟨X.toArray⟩, .int .i64 N] 51)) b (.string sq) := cbB.below (below_new _ _) (Nat.lt_of_lt_of_le hltA B1.size)
        have F0 := Fv.new w2 (.int .u8 K) (.complex .f64 0 0) (.complex .f64 0 0) (.string ⟨X.toArray⟩) (.int .i64 N) 51 w2.heap.size rfl
        have hBn : w2.heap.size < (w2.alloc (.cells #[.int .u8 K, .complex .f64 0 0, .complex .f64 0 0, .string ⟨X.toArray⟩, .int .i64 N] 51)).heap.size := by simp
        have hW0B : W0.heap.size ≤ w2.heap.size := Nat.le_trans grA.size B1.size
        have hbB : b < w2.heap.size := Nat.lt_of_lt_of_le hltA B1.size
        clear g0 cbB c1 c2 cbA grA belA B1 hgo hgo2
        generalize w2.alloc (.cells #[.int .u8 K, .complex .f64 0 0, .complex .f64 0 0, .string ⟨X.toArray⟩, .int .i64 N] 51) = wB at grB belB cbC F0 hBn ⊢
        generalize w2.heap.size = B at F0 hBn hW0B hbB ⊢
        have c1 := cbC.c
        have g1 := F0.c1
        have g2 := F0.c2
        have h1 := F0.f1
        have h2 := F0.f2
        have hx1 : (0 : Int) ≤ (m : Int) := by omega
        have hx2 : (m : Int) ≤ (sq.size : Int) := by omega
        go_wp2_with fail
        refine (HBe _).mono ?_
        rintro e w3 ⟨rfl, rfl⟩
        clear HBe
        go_upto_region 7 with fail
        have FC := (F0.set1 (.complex .f64 x2 y2)).set2 (.complex .f64 x3 y3)
        have cbD := (cbC.other B 1 (.complex .f64 x2 y2) (by omega)).other B 2 (.complex .f64 x3 y3) (by omega)
        have grC : W0.grownBy ((w3.setCell ⟨B, 1, none⟩ (.complex .f64 x2 y2)).setCell ⟨B, 2, none⟩ (.complex .f64 x3 y3)) (some b) :=
          (grB.andThen (grownBy_setCell'' w3 B 1 _) (fun j h => .inl (by cases h; exact hW0B))).andThen (grownBy_setCell'' _ B 2 _) (fun j h => .inl (by cases h; exact hW0B))
        have belC : Below n0 w ((w3.setCell ⟨B, 1, none⟩ (.complex .f64 x2 y2)).setCell ⟨B, 2, none⟩ (.complex .f64 x3 y3)) :=
          (belB.setCell (p := ⟨B, 1, none⟩) (by simp; omega) _).setCell (p := ⟨B, 2, none⟩) (by simp; omega) _
        have hBC : B < ((w3.setCell ⟨B, 1, none⟩ (.complex .f64 x2 y2)).setCell ⟨B, 2, none⟩ (.complex .f64 x3 y3)).heap.size := by simpa using hBn
        clear F0 cbC grB belB hBn c1 g1 g2 h1 h2
        generalize (w3.setCell ⟨B, 1, none⟩ (.complex .f64 x2 y2)).setCell ⟨B, 2, none⟩ (.complex .f64 x3 y3) = wC at FC cbD grC belC hBC ⊢
        by_cases hz : sq.size = 0
        · have hnil : S.drop (off + k) = [] := by rw [← n2]; exact List.length_eq_zero_iff.1 (by rw [bytes_of]; exact hz)
          rw [if_pos hz] at hone
          injection hone with h1 h2
          injection h2 with h2 h3
          subst h1; subst h2; subst h3
          obtain ⟨rfl, rfl, rfl⟩ : 0 = K ∧ [] = X ∧ 0 = N := by
            have h : (⟨0, [], 0⟩ : T0) = ⟨K, X, N⟩ := htok
            injection h with h1 h2 h3
            exact ⟨h1, h2, h3⟩
          have hsc := scanAt_end S (off + k) done hat2 hnil
          have hys := ys_last S done (by rw [hsc])
          have hly : lastY S = (.agg #[.int .u8 0, .complex .f64 x2 y2, .complex .f64 x3 y3, .string ⟨#[]⟩, .int .i64 0], 0) := by
            unfold lastY
            rw [hsc, if_pos rfl]
            unfold tkV endT
            rw [Nat.add_zero] at hr
            simp only
            rw [hr, e3]
            rw [hq] at hr
            injection hr with hr1 hr2
            subst hr1; subst hr2
            rw [e2] at e3
            injection e3 with _ e4 e5
            subst e4; subst e5; rfl
          rw [hly] at hys
          have hyy := HY.out done.length _ _ W0 wC B hj grC hW0B hys
          have hfin : Hid ((scanS 0 S).2.2 = 0 ∧ (ysL S).length = done.length + 1) := Lib.hid ⟨by rw [hsc], ys_len S done (by rw [hsc])⟩
          have g0 := FC.c0
          have g1 := FC.c1
          have g2 := FC.c2
          have g3 := FC.c3
          have g4 := FC.c4
          clear hys hly hsc hat2 e1 e2 e3 hq hr n2 hnil htok
          refine (wpIn_wide (n := n)).1 ?_
          obtain ⟨fn, tmps, assign, body, hy, hR⟩ := hyy
          gi_wp2
          refine hR.mono ?_
          rintro e W' (⟨_, rfl, hj2, hkb, hkB, hbl⟩ | ⟨h, _⟩)
          · have d0 := (FC.same (hkB hBC)).c0
            clear g0 g1 g2 g3 g4
            gi_wp2
            go_wp2_with fail
            refine bodyPost_ret (results_none rfl _ _ _) rfl ?_
            exact ⟨⟨_, rfl⟩, .inl ⟨hfin.out.1, W', by rw [hfin.out.2]; exact hj2, grown_refl W' b⟩⟩
          · exact absurd rfl h
        · rw [if_neg hz, n2] at hone
          have hne : S.drop (off + k) ≠ [] := by rw [← n2]; exact fun e => hz (by rw [← bytes_of, e]; rfl)
          have hst : stp (S.drop (off + k)) = oneL (S.drop (off + k)) := by
            rcases hbh with h | h
            · exact absurd h hne
            · exact h.2
          rw [hone] at hst
          cases o with
          | none =>
            have hx0 := oneL_none _ _ _ hone
            have hx43 := oneL_no43 _ _ _ hone
            obtain rfl := oneL_none0 _ _ _ hone
            obtain ⟨rfl, rfl, rfl⟩ : 0 = K ∧ [] = X ∧ 0 = N := by
              have h : (⟨0, [], 0⟩ : T0) = ⟨K, X, N⟩ := htok
              injection h with h1 h2 h3
              exact ⟨h1, h2, h3⟩
            have hsc := scan_err1 S (off + k) 0 done x hx0 hat2 hne hst
            have hys := ys_last S done (by rw [hsc])
            have hly : lastY S = (.agg #[.int .u8 0, .complex .f64 x2 y2, .complex .f64 x3 y3, .string ⟨#[]⟩, .int .i64 0], x) := by
              unfold lastY
              rw [hsc]
              simp only
              rw [if_neg hx0, if_neg hx43]
              rw [Nat.add_zero] at hr
              rw [hr, e3]
              rw [hq] at hr
              injection hr with hr1 hr2
              subst hr1; subst hr2
              rw [e2] at e3
              injection e3 with _ e4 e5
              subst e4; subst e5; rfl
            rw [hly] at hys
            have hyy := HY.out done.length _ _ W0 wC B hj grC hW0B hys
            have hfin : Hid ((scanS 0 S).2.2 ≠ 0) := Lib.hid (by rw [hsc]; exact hx0)
            have hx0' := Lib.hid hx0
            have g0 := FC.c0
            have g1 := FC.c1
            have g2 := FC.c2
            have g3 := FC.c3
            have g4 := FC.c4
            clear hys hly hsc hat2 e1 e2 e3 hq hr n2 hne hst hone htok hx0 hx43 hbh
            refine (wpIn_wide (n := n)).1 ?_
            obtain ⟨fn, tmps, assign, body, hy, hR⟩ := hyy
            gi_wp2
            refine hR.mono ?_
            rintro e W' (⟨h, _⟩ | ⟨_, rfl, hjx⟩)
            · exact absurd h hx0'.out
            · clear g0 g1 g2 g3 g4
              gi_wp2
              go_wp2_with fail
              refine bodyPost_ret (results_none rfl _ _ _) rfl ?_
              exact ⟨⟨_, rfl⟩, .inr ⟨hfin.out, W', hjx, grown_refl W' b⟩⟩
          | some t =>
            obtain ⟨hok, hm1, _, _, rfl⟩ := stp_ok _ hne t m x hst
            obtain ⟨rfl, rfl, rfl⟩ : t.k = K ∧ t.x = X ∧ t.n = N := by
              have h : t = ⟨K, X, N⟩ := htok
              rw [h]; exact ⟨rfl, rfl, rfl⟩
            have hk0 := (tok_txt t hok).1
            have hys := ys_tok S (off + k) m done t 0 hat2 hne hst
            have hly : tkV (plOf S (t, off + k, off + k + m)) = .agg #[.int .u8 t.k, .complex .f64 x2 y2, .complex .f64 x3 y3, .string ⟨t.x.toArray⟩, .int .i64 t.n] := by
              unfold tkV plOf
              simp only
              rw [hq, hr, e2, e3]
            rw [hly] at hys
            have hat3 := Lib.hid (scanAt_tok S (off + k) m done t 0 hat2 hne hst)
            have hyy := HY.out done.length _ _ W0 wC B hj grC hW0B hys
            have g0 := FC.c0
            have g1 := FC.c1
            have g2 := FC.c2
            have g3 := FC.c3
            have g4 := FC.c4
            have HR3 := Lib.hid hr
            have HE3 := Lib.hid e3
            have P2 := Lib.hid p2
            have hq0 : ((t.k : Int) == 0) = false := beq_eq_false_iff_ne.2 (by omega)
            clear hys hly hat2 e1 e2 e3 hq hr n2 hne hst hone htok hok hk0 hbh p2 p3
            refine (wpIn_wide (n := n)).1 ?_
            obtain ⟨fn, tmps, assign, body, hy, hR⟩ := hyy
            gi_wp2
            refine hR.mono ?_
            rintro e W' (⟨_, rfl, hj2, hkb, hkB, hbl⟩ | ⟨h, _⟩)
            · have FD := FC.same (hkB hBC)
              have d0 := FD.c0
              have d2 := FD.c2
              have cbE := cbD.same hkb
              have c3 := cbE.c
              have f3 := cbE.f
              clear g0 g1 g2 g3 g4
              gi_wp2
              go_wp2_with fail
              go_region
              all_goals
                go_wp2_with fail
                go_roundw
                case rel =>
                  refine ⟨sq.extract m sq.size, off + k + m, done ++ [(t, off + k, off + k + m)], W', ?_, ?_⟩
                  · rw [HR3.out]; exact HE3.out.symm
                  · exact ⟨p1, P2.out, hat3.out, (cbE.set _).drew, by have := grC.size; have := hbl.size; omega, by rw [List.length_append]; exact hj2, grown_trans (grownBy_setCell' W' b _) ⟨rfl, rfl, rfl, Nat.le_refl _, fun _ _ _ => rfl⟩, ((belC.trans hbl).setCell (p := ⟨b, 0, none⟩) hnb _).drew⟩
                case measure =>
                  have hcc := (cbE.set (.string (sq.extract m sq.size))).drew.c
                  first | rw [hcc, HC0.out] | skip
                  simp [lenOf]; omega
            · exact absurd rfl h
      · have hsc := scan_err1 S (off + k) 0 done 43 (by decide) hat2 hne hst
        have hys := ys_last S done (by rw [hsc])
        have hly : lastY S = (.agg #[.int .u8 0, .complex .f64 x2 y2, .complex .f64 0 0, .string ⟨#[]⟩, .int .i64 0], 43) := by
          unfold lastY
          rw [hsc]
          simp only [hq, e2]; rfl
        rw [hly] at hys
        have hyy := HY.out done.length _ _ W0 wA wA.heap.size hj grA grA.size hys
        have hfin : Hid ((scanS 0 S).2.2 ≠ 0) := Lib.hid (by rw [hsc]; show (43 : Int) ≠ 0; decide)
        clear hys hly hsc hne hst hat2 e2 hq n2
        go_upto_region 4 with fail
        refine (wpIn_wide (n := n)).1 ?_
        obtain ⟨fn, tmps, assign, body, hy, hR⟩ := hyy
        gi_wp2
        refine hR.mono ?_
        rintro e W' (⟨h, _⟩ | ⟨_, rfl, hjx⟩)
        · exact absurd h (by decide)
        · gi_wp2
          go_wp2_with fail
          refine bodyPost_ret (results_none rfl _ _ _) rfl ?_
          exact ⟨⟨_, rfl⟩, .inr ⟨hfin.out, W', hjx, grown_refl W' b⟩⟩
end Go.Proofs.YtliebhpddjbjeaaGreatDoor
