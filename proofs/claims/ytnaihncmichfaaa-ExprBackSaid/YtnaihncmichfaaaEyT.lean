/- Law 6: a tree that is grown, written, and read again: walked. -/
import Derived.Test.YtnaihncmichfaaaMrC
import Derived.Test.YtnaihncmichfaaaEyJ
namespace Go.Proofs.Ytnaihncmichfaaa
open Go.RowKit Go.Op
set_option maxHeartbeats 4000000
set_option maxRecDepth 100000
set_option linter.unusedVariables false
set_option linter.unusedSimpArgs false

mutual
theorem simD_refl : ∀ d : DT, simD d d
  | .node d ks => ⟨⟨rfl, rfl, rfl⟩, simL_refl ks⟩
theorem simL_refl : ∀ l : List DT, simL l l
  | [] => trivial
  | t :: r => ⟨simD_refl t, simL_refl r⟩
end
theorem ends_cell (w : World) (b : Nat) (h : b < 8) : (w.alloc (.cells #[.string ⟨#[]⟩, .string ⟨#[41]⟩, .string ⟨#[59]⟩, .string ⟨#[84, 72, 69, 78]⟩, .string ⟨#[93]⟩, .string ⟨#[58, 61]⟩, .string ⟨#[69, 78, 68]⟩, .string ⟨#[46, 46]⟩] 9)).cell? ⟨w.heap.size, b, none⟩ = some (.string ⟨(endX b).toArray⟩) := by
  rw [World.cell?_alloc_at _ _ _ _ rfl]
  match b, h with
  | 0, _ => rfl
  | 1, _ => rfl
  | 2, _ => rfl
  | 3, _ => rfl
  | 4, _ => rfl
  | 5, _ => rfl
  | 6, _ => rfl
  | 7, _ => rfl
theorem end_len (b : Nat) (h : b < 8) : (endX b).length ≤ 4 := by
  match b, h with
  | 0, _ => decide
  | 1, _ => decide
  | 2, _ => decide
  | 3, _ => decide
  | 4, _ => decide
  | 5, _ => decide
  | 6, _ => decide
  | 7, _ => decide
theorem back_big (l : List (Nat × Nat)) (a1 : Int) (v : Value) (w : World) (hv : SeedRow w v l) (h : 60 < l.length) :
    Calls Try.prog 4 #[v, .int .u8 a1] w fun e w' => e = .returned (.bool true) ∧ Below w.heap.size w w' := by
  obtain ⟨q, cap, rfl, _⟩ := hv
  have HW := Lib.hid (rworks_any w)
  obtain ⟨n, hn⟩ : ∃ n, l.length = n := ⟨_, rfl⟩
  rw [hn] at h ⊢
  have t1 : (60 : Int) < (n : Int) := by omega
  clear hn
  go_enter Try.func4, Try.ntmps4
  go_wp2_with fail
  refine HW.out.mono ?_
  rintro e w2 ⟨rfl, hb⟩
  go_wp2_with fail
  go_ret
  exact ⟨rfl, hb⟩
theorem back_ok (l : List (Nat × Nat)) (hx : ∀ x ∈ l, x.1 ≤ 255 ∧ x.2 ≤ 65535) (a1 : Int) (l1 : 0 ≤ a1) (u1 : a1 ≤ 255) (v : Value) (w : World) (hv : SeedRow w v l) (h : ¬ 60 < l.length) :
    Calls Try.prog 4 #[v, .int .u8 a1] w fun e w' => e = .returned (.bool true) ∧ Below w.heap.size w w' := by
  have HG := Lib.hid (grown_any 12 (Nat.le_refl _) l (by omega) hx v w hv)
  obtain ⟨gok, glen⟩ := grow_ok 12 l (fun x hm => (hx x hm).2)
  have gus := grow_used 12 l
  obtain ⟨gt, hgt⟩ : ∃ gt, (grow 12 l).1 = gt := ⟨_, rfl⟩
  obtain ⟨gu, hgu⟩ : ∃ gu, (grow 12 l).2 = gu := ⟨_, rfl⟩
  rw [hgt, hgu] at glen
  rw [hgt] at gok
  rw [hgu] at gus
  have HGT := Lib.hid (And.intro hgt hgu)
  obtain ⟨b, hb, hb8⟩ : ∃ b : Nat, a1 % 8 = (b : Int) ∧ b < 8 := ⟨(a1 % 8).toNat, by omega, by omega⟩
  obtain ⟨d, hd, hsim⟩ := back_tree gt gok b hb8
  have elen := end_len b hb8
  obtain ⟨T, hT⟩ : ∃ T : ByteArray, ⟨gt.tx.toArray⟩ = T := ⟨_, rfl⟩
  obtain ⟨X, hX⟩ : ∃ X : ByteArray, ⟨(endX b).toArray⟩ = X := ⟨_, rfl⟩
  have dT : T.data.toList = gt.tx := by rw [← hT]
  have dX : X.data.toList = endX b := by rw [← hX]
  have zT : T.size ≤ 2000 := by rw [← hT, size_of]; omega
  have zX : X.size ≤ 4 := by rw [← hX, size_of]; exact elen
  have dall : (((T ++ ⟨#[32]⟩) ++ X)).data.toList = gt.tx ++ 32 :: endX b := by
    rw [bd2, bd2, dT, dX]
    show (gt.tx ++ [32]) ++ endX b = _
    simp
  have zall : ((T ++ ⟨#[32]⟩) ++ X).size ≤ 16384 := by
    rw [ByteArray.size_append, ByteArray.size_append]
    have : (⟨#[32]⟩ : ByteArray).size = 1 := rfl
    omega
  have R1 := fun w => Row_any T (by omega) w
  have R2 := fun w => Row_any ((T ++ ⟨#[32]⟩) ++ X) zall w
  obtain ⟨q1, q2⟩ := row_at ((T ++ ⟨#[32]⟩) ++ X) zall
  rw [dT] at R1
  rw [dall] at R2 q1 q2
  obtain ⟨ts, hts⟩ : ∃ ts, rowT gt.tx = ts := ⟨_, rfl⟩
  obtain ⟨us, hus⟩ : ∃ us, rowT (gt.tx ++ 32 :: endX b) = us := ⟨_, rfl⟩
  rw [hts] at R1 hd
  rw [hus] at R2 q1 q2 hd
  have HR1 := Lib.hid R1
  have HR2 := Lib.hid R2
  have HQ := Lib.hid (And.intro q1 q2)
  have HD := Lib.hid hd
  have HS := Lib.hid hsim
  have HW := Lib.hid rworks_any
  have HTX := Lib.hid (And.intro hT hX)
  have HB8 := Lib.hid hb8
  have f1 : ¬ (9223372036854775807 : Nat) < T.size + 1 := by omega
  have f1b : ¬ (9223372036854775807 : Nat) ≤ T.size := by omega
  have f2 : ¬ (9223372036854775807 : Nat) < T.size + 1 + X.size := by omega
  have x0 : (0 : Int) ≤ (b : Int) := by omega
  have x1 : (b : Int) < 8 := by omega
  obtain ⟨q, cap, rfl, _⟩ := hv
  obtain ⟨n, hn⟩ : ∃ n, l.length = n := ⟨_, rfl⟩
  rw [hn] at HG ⊢
  have t1 : ¬ (60 : Int) < (n : Int) := by omega
  clear hn hts hus R1 R2 q1 q2 hd hsim hT hX dT dX dall zall zT zX hgt hgu gok glen gus elen hx h hb8
  go_enter Try.func4, Try.ntmps4
  go_wp2_with fail
  refine HG.out.mono ?_
  rintro e wa ⟨t, rfl, Ba, It, Dt⟩
  rw [HGT.out.1, HTX.out.1]
  have HA := Lib.hid (And.intro Ba (And.intro It (show t.dt = gt.dt by rw [Dt, HGT.out.1])))
  clear Ba It Dt
  obtain ⟨xv, hxv⟩ : ∃ xv, ptrV t.p = xv := ⟨_, rfl⟩
  rw [hxv]
  have HXV := Lib.hid hxv
  clear hxv
  obtain ⟨wb, hwb⟩ : ∃ wb, wa.alloc (.cells #[.string ⟨#[]⟩, .string ⟨#[41]⟩, .string ⟨#[59]⟩, .string ⟨#[84, 72, 69, 78]⟩, .string ⟨#[93]⟩, .string ⟨#[58, 61]⟩, .string ⟨#[69, 78, 68]⟩, .string ⟨#[46, 46]⟩] 9) = wb := ⟨_, rfl⟩
  have cE : wb.cell? ⟨wa.heap.size, b, none⟩ = some (.string X) := by rw [← hwb, ← HTX.out.2]; exact ends_cell wa b HB8.out
  have hsz : wb.heap.size = wa.heap.size + 1 := by rw [← hwb]; simp
  have Bb : Below wa.heap.size wa wb := by rw [← hwb]; exact below_new _ _
  have HBB := Lib.hid (And.intro Bb (And.intro hsz cE))
  clear Bb cE hsz
  go_wp2_with fail
  refine (HR1.out _).mono ?_
  rintro e wc ⟨v1, rfl, Bc, r1⟩
  obtain ⟨qq, cap2, rfl, _, _⟩ := r1.2
  have cE : wc.cell? ⟨wa.heap.size, b, none⟩ = some (.string X) := (Bc.cell (p := ⟨wa.heap.size, b, none⟩) (by have := HBB.out.2.1; show wa.heap.size < _; omega)).trans HBB.out.2.2
  have HBC := Lib.hid Bc
  clear Bc r1
  go_wp2_with fail
  refine (HR2.out _).mono ?_
  rintro e wd ⟨v2, rfl, Bd, r2⟩
  have H5 := Lib.hid (Expr_any us v2 0 wd r2.1 (by omega) HQ.out.1 HQ.out.2)
  clear r2
  go_wp2_with fail
  refine H5.out.mono ?_
  rintro e we ⟨Be, ⟨d0, i, t2, h1, rfl, h4, h5⟩ | ⟨i, h1, rfl⟩⟩
  case inr =>
    rw [HD.out] at h1
    cases h1
  rw [HD.out] at h1
  obtain ⟨rfl, rfl⟩ : d = d0 ∧ ts.length = i := by injection h1 with e1 e2; exact ⟨e1, e2⟩
  have Bae : Below wa.heap.size wa we := bt (bt (bt HBB.out.1 HBC.out) Bd) Be
  have hsm : sameT t t2 = true := simD_same t t2 (by rw [HA.out.2.2, h5]; exact HS.out)
  have HSA1 := Lib.hid (rSame_any t.cnt t t2 we (Nat.le_refl _) (HA.out.2.1.below Bae) h4)
  rw [hsm, HXV.out] at HSA1
  have B15 := Lib.hid (bt HA.out.1 Bae)
  obtain ⟨m, hm⟩ : ∃ m, ts.length = m := ⟨_, rfl⟩
  rw [hm]
  clear h1 h4 h5 Bd Be Bae H5 hsm hm f1 f1b f2
  obtain ⟨yv, hyv⟩ : ∃ yv, ptrV t2.p = yv := ⟨_, rfl⟩
  rw [hyv] at HSA1 ⊢
  clear hyv
  go_wp2_with fail
  refine HSA1.out.mono ?_
  rintro e w6 ⟨rfl, B6⟩
  go_wp2_with fail
  refine (HW.out _).mono ?_
  rintro e w7 ⟨rfl, B7⟩
  go_wp2_with fail
  go_ret
  exact ⟨rfl, bt (bt B15.out B6) B7⟩
theorem back_any (l : List (Nat × Nat)) (hx : ∀ x ∈ l, x.1 ≤ 255 ∧ x.2 ≤ 65535) (a1 : Int) (l1 : 0 ≤ a1) (u1 : a1 ≤ 255) (v : Value) (w : World) (hv : SeedRow w v l) :
    Calls Try.prog 4 #[v, .int .u8 a1] w fun e w' => e = .returned (.bool true) ∧ Below w.heap.size w w' := by
  by_cases h : 60 < l.length
  · exact back_big l a1 v w hv h
  · exact back_ok l hx a1 l1 u1 v w hv h
end Go.Proofs.Ytnaihncmichfaaa
