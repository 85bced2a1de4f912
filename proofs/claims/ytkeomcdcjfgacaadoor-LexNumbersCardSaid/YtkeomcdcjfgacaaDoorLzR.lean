/- The statement on numbers, walked whole. -/
import Derived.Test.YtkeomcdcjfgacaaDoorLzQ
namespace Go.Proofs.YtkeomcdcjfgacaaDoor
open Go.RowKit
set_option maxHeartbeats 4000000
set_option maxRecDepth 100000
set_option linter.unusedVariables false

theorem size_cat (a b : List UInt8) : (⟨a.toArray⟩ : ByteArray) ++ ⟨b.toArray⟩ = ⟨(a ++ b).toArray⟩ := by
  apply ByteArray.ext; simp
/-- A string whose tokens are one, and the end. -/
def OneT (w : World) (t : ByteArray) (k : Nat) (u : Int) : Prop := ∀ w', Below w.heap.size w w' →
  Calls Tryd.prog 8 #[.string t] w' fun e w'' => ∃ g cap, e = .returned (.tuple #[.slice (some ⟨g, 0, none⟩) 2 cap, .complex .f64 0 0, .int .i64 0]) ∧ Below w'.heap.size w' w'' ∧ w''.cell? ⟨g, 0, none⟩ = some (.int .u8 k) ∧ w''.cell? ⟨g, 4, none⟩ = some (.int .i64 u)
theorem one_of (w : World) (hE : Env w) (l : List UInt8) (hl : l.length ≤ 16384) (k : Nat) (u : Int) (a b off : Nat) (h : scanS 0 l = ([(⟨k, [], u⟩, a, b)], off, 0)) : OneT w ⟨l.toArray⟩ k u := fun w' hb => by
  refine (scan_is_ok ⟨l.toArray⟩ (by rw [size_of_lit]; exact hl) l _ off (by simp) h w' (hE.below hb)).mono ?_
  rintro e w1 ⟨v, rfl, B1, O1⟩
  obtain ⟨g, cap, rfl, _, _, c0, _, _, _, c4⟩ := O1.at 0 _ rfl
  exact ⟨g, cap, rfl, B1, c0, c4⟩
theorem numbers_any (n z : Int) (n0 : 0 ≤ n) (n1 : n ≤ 65535) (z0 : 0 ≤ z) (z1 : z ≤ 255) (w : World) (hE : Env w) :
    Calls Tryd.prog 6 #[.int .u16 n, .int .u8 z] w fun e w' => e = .returned (.bool true) ∧ Below w.heap.size w w' := by
  obtain ⟨u, rfl⟩ := Int.eq_ofNat_of_zero_le n0
  have hu : u ≤ 65535 := by omega
  obtain ⟨q, hq⟩ := Int.eq_ofNat_of_zero_le (show 0 ≤ z % 5 by omega)
  have hq5 : q < 5 := by omega
  have l10 := digs_short 10 (by omega) 4 u (by omega)
  have l16 := digs_short 16 (by omega) 3 u (by omega)
  have l8 := digs_short 8 (by omega) 5 u (by omega)
  have hzl : ∀ k s, (zers k s).length = k + s.length := fun k s => by unfold zers; simp
  have D10 := fun w => zdigs_10 u hu w
  have D16 := fun w => zdigs_16 u hu w
  have D8 := fun w => zdigs_8 u hu w
  have T0 := fun w' (hb : Below w.heap.size w w') => one_of w' (hE.below hb) (zers q (digsB 10 (by omega) u)) (by rw [hzl]; omega) 2 u _ _ _ (way10 q u hu)
  have T1 := fun w' (hb : Below w.heap.size w w') => one_of w' (hE.below hb) (zers (q + 1) (digsB 16 (by omega) u) ++ [72]) (by rw [List.length_append, hzl]; simp; omega) 2 u _ _ _ (way16 q u hu)
  have T2 := fun w' (hb : Below w.heap.size w w') => one_of w' (hE.below hb) (zers q (digsB 8 (by omega) u) ++ [66]) (by rw [List.length_append, hzl]; simp; omega) 2 u _ _ _ (way8 q u hu)
  have hW8 := way8c q u
  have hl8 : (zers q (digsB 8 (by omega) u) ++ [67]).length ≤ 16384 := by rw [List.length_append, hzl]; simp; omega
  have hWk := fun w' hb => zworks_any w' (hE.below hb)
  have HE := Lib.hid hE
  clear hE hzl
  have s10 : (⟨(digsB 10 (by omega) u).toArray⟩ : ByteArray).size ≤ 6 := by rw [size_of_lit]; omega
  have s16 : (⟨(digsB 16 (by omega) u).toArray⟩ : ByteArray).size ≤ 6 := by rw [size_of_lit]; omega
  have s8 : (⟨(digsB 8 (by omega) u).toArray⟩ : ByteArray).size ≤ 6 := by rw [size_of_lit]; omega
  have e0 : (⟨(List.replicate q 48).toArray⟩ : ByteArray) ++ ⟨(digsB 10 (by omega) u).toArray⟩ = ⟨(zers q (digsB 10 (by omega) u)).toArray⟩ := size_cat _ _
  have e1 : (⟨#[48]⟩ : ByteArray) ++ ⟨(List.replicate q 48).toArray⟩ ++ ⟨(digsB 16 (by omega) u).toArray⟩ ++ ⟨#[72]⟩ = ⟨(zers (q + 1) (digsB 16 (by omega) u) ++ [72]).toArray⟩ := by
    apply ByteArray.ext; simp [zers, List.replicate_succ]
  have e2 : ∀ c, (⟨(List.replicate q 48).toArray⟩ : ByteArray) ++ ⟨(digsB 8 (by omega) u).toArray⟩ ++ ⟨#[c]⟩ = ⟨(zers q (digsB 8 (by omega) u) ++ [c]).toArray⟩ := fun c => by
    apply ByteArray.ext; simp [zers]
  have e3 := e2 67
  have e2 := e2 66
  rw [← e0] at T0
  rw [← e1] at T1
  rw [← e2] at T2
  have T3 : u ≤ 255 → ∀ w', Below w.heap.size w w' → OneT w' ⟨(zers q (digsB 8 (by omega) u) ++ [67]).toArray⟩ 3 u := fun h w' hb => one_of w' (HE.out.below hb) _ hl8 3 u _ _ _ (by rw [hW8, if_pos h])
  have T4 : ¬ u ≤ 255 → ∀ w', Below w.heap.size w w' → Calls Tryd.prog 8 #[.string ⟨(zers q (digsB 8 (by omega) u) ++ [67]).toArray⟩] w' fun e w'' => (∃ x y, e = .returned (.tuple #[.slice none 0 0, .complex .f64 x y, .int .i64 41])) ∧ Below w'.heap.size w' w'' := fun h w' hb => by
    refine (scan_is_err ⟨_⟩ (by rw [size_of_lit]; exact hl8) (zers q (digsB 8 (by omega) u) ++ [67]) [] 0 41 (by decide) (by simp) (by rw [hW8, if_neg h]) w' (HE.out.below hb)).mono ?_
    rintro e w1 ⟨rfl, B1⟩
    obtain ⟨x, y, h1⟩ := posV_two (goB 1 1 ((zers q (digsB 8 (by omega) u) ++ [67]).take 0)).1 (goB 1 1 ((zers q (digsB 8 (by omega) u) ++ [67]).take 0)).2
    exact ⟨⟨x, y, by rw [h1]⟩, B1⟩
  rw [← e3] at T3 T4
  clear e0 e1 e2 e3 l10 l16 l8 hW8 hl8
  generalize (⟨(digsB 10 (by omega) u).toArray⟩ : ByteArray) = d10 at D10 T0 s10
  generalize (⟨(digsB 16 (by omega) u).toArray⟩ : ByteArray) = d16 at D16 T1 s16
  generalize (⟨(digsB 8 (by omega) u).toArray⟩ : ByteArray) = d8 at D8 T2 T3 T4 s8
  go_enter Tryd.func6, Tryd.ntmps6
  go_wp2_with fail
  go_loop [5, 6] (fun t i => ∃ k : Nat, k ≤ q ∧ i = .int .i64 k ∧ t = .string ⟨(List.replicate k 48).toArray⟩) (fun _ i => q - (intOf i).toNat)
  case atStart => exact ⟨0, by omega, rfl, rfl⟩
  case round =>
    obtain ⟨k, hk, rfl, rfl⟩ := hrel
    by_cases hlt : k < q
    · have hz : (k : Int) < z % 5 := by omega
      have hsz : (⟨(List.replicate k 48).toArray⟩ : ByteArray).size ≤ 5 := by rw [size_of_lit, List.length_replicate]; omega
      have hX := Lib.hid (bcat_end (List.replicate k 48) 48)
      generalize (⟨(List.replicate k 48).toArray⟩ : ByteArray) = t at hsz hX ⊢
      go_wp2_with fail
      go_round
      case rel => exact ⟨k + 1, by omega, by simp, by rw [hX.out, List.replicate_succ']⟩
      case measure => simp [intOf]; omega
    · obtain rfl : k = q := by omega
      have hz : ¬ (k : Int) < z % 5 := by omega
      have hsz : (⟨(List.replicate k 48).toArray⟩ : ByteArray).size ≤ 5 := by rw [size_of_lit, List.length_replicate]; omega
      generalize (⟨(List.replicate k 48).toArray⟩ : ByteArray) = t at *
      go_wp2_with fail
      refine (D10 _).mono ?_
      rintro e w1 ⟨rfl, B1⟩
      clear D10
      go_wp2_with fail
      refine (D16 _).mono ?_
      rintro e w2 ⟨rfl, B2⟩
      clear D16
      go_wp2_with fail
      refine (D8 _).mono ?_
      rintro e w3 ⟨rfl, B3⟩
      have b3 := bt (bt B1 B2) B3
      clear B1 B2 B3
      have T0 := T0 w3 b3
      have T1 := T1 w3 b3
      have T2 := T2 w3 b3
      have stt : (t ++ d10).size ≤ 100 := by rw [ByteArray.size_append]; omega
      have DW := below_new w3 (.cells #[.string (t ++ d10), .string (⟨#[48]⟩ ++ t ++ d16 ++ ⟨#[72]⟩), .string (t ++ d8 ++ ⟨#[66]⟩)] 9)
      have k0 : (w3.alloc (.cells #[.string (t ++ d10), .string (⟨#[48]⟩ ++ t ++ d16 ++ ⟨#[72]⟩), .string (t ++ d8 ++ ⟨#[66]⟩)] 9)).cell? ⟨w3.heap.size, 0, none⟩ = some (.string (t ++ d10)) := by rw [World.cell?_alloc_at _ _ _ _ rfl]; rfl
      have k1 : (w3.alloc (.cells #[.string (t ++ d10), .string (⟨#[48]⟩ ++ t ++ d16 ++ ⟨#[72]⟩), .string (t ++ d8 ++ ⟨#[66]⟩)] 9)).cell? ⟨w3.heap.size, 1, none⟩ = some (.string (⟨#[48]⟩ ++ t ++ d16 ++ ⟨#[72]⟩)) := by rw [World.cell?_alloc_at _ _ _ _ rfl]; rfl
      have k2 : (w3.alloc (.cells #[.string (t ++ d10), .string (⟨#[48]⟩ ++ t ++ d16 ++ ⟨#[72]⟩), .string (t ++ d8 ++ ⟨#[66]⟩)] 9)).cell? ⟨w3.heap.size, 2, none⟩ = some (.string (t ++ d8 ++ ⟨#[66]⟩)) := by rw [World.cell?_alloc_at _ _ _ _ rfl]; rfl
      have hTs : w3.heap.size < (w3.alloc (.cells #[.string (t ++ d10), .string (⟨#[48]⟩ ++ t ++ d16 ++ ⟨#[72]⟩), .string (t ++ d8 ++ ⟨#[66]⟩)] 9)).heap.size := by simp
      have K0 := Lib.hid k0
      have K1 := Lib.hid k1
      have K2 := Lib.hid k2
      have HT0 := Lib.hid T0
      have HT1 := Lib.hid T1
      have HT2 := Lib.hid T2
      have HT3 := Lib.hid T3
      have HT4 := Lib.hid T4
      have HDW := Lib.hid DW
      clear k0 k1 k2 T0 T1 T2 T3 T4 DW
      go_wp2_with fail
      generalize w3.alloc (.cells #[.string (t ++ d10), .string (⟨#[48]⟩ ++ t ++ d16 ++ ⟨#[72]⟩), .string (t ++ d8 ++ ⟨#[66]⟩)] 9) = W at K0 K1 K2 HDW hTs ⊢
      generalize hB : w3.heap.size = B at K0 K1 K2 hTs ⊢
      go_loopw [8] (fun i wr => ∃ j : Nat, j ≤ 3 ∧ i = .int .i64 j ∧ Below W.heap.size W wr) (fun i _ => 3 - (intOf i).toNat)
      case atStart => exact ⟨0, by omega, rfl, Below.refl _ _⟩
      case round =>
        obtain ⟨j, hj, rfl, hb⟩ := hrel
        have hw : Below w3.heap.size w3 wr := bt HDW.out hb
        have hj4 : j = 0 ∨ j = 1 ∨ j = 2 ∨ j = 3 := by omega
        rcases hj4 with rfl | rfl | rfl | rfl
        · have c := (hb.cell (p := ⟨B, 0, none⟩) hTs).trans K0.out
          have HS := HT0.out wr hw
          go_wp2_with fail
          refine HS.mono ?_
          rintro e w4 ⟨g, cap, rfl, B4, c0, c4⟩
          clear HS c
          go_wp2_with fail
          go_roundw
          case rel => exact ⟨1, by omega, by simp, bt hb B4⟩
          case measure => simp [intOf]
        · have c := (hb.cell (p := ⟨B, 1, none⟩) hTs).trans K1.out
          have HS := HT1.out wr hw
          go_wp2_with fail
          refine HS.mono ?_
          rintro e w4 ⟨g, cap, rfl, B4, c0, c4⟩
          clear HS c
          go_wp2_with fail
          go_roundw
          case rel => exact ⟨2, by omega, by simp, bt hb B4⟩
          case measure => simp [intOf]
        · have c := (hb.cell (p := ⟨B, 2, none⟩) hTs).trans K2.out
          have HS := HT2.out wr hw
          go_wp2_with fail
          refine HS.mono ?_
          rintro e w4 ⟨g, cap, rfl, B4, c0, c4⟩
          clear HS c
          go_wp2_with fail
          go_roundw
          case rel => exact ⟨3, by omega, by simp, bt hb B4⟩
          case measure => simp [intOf]
        · have bw := bt b3 hw
          go_wp2_with fail
          refine (D8 _).mono ?_
          rintro e w4 ⟨rfl, B4⟩
          clear D8
          have b4 := bt bw B4
          by_cases hu2 : u ≤ 255
          · have HS := HT3.out hu2 w4 b4 w4 (Below.refl _ _)
            have hq2 : ¬ (255 : Int) < (u : Int) := by omega
            go_wp2_with fail
            refine HS.mono ?_
            rintro e w5 ⟨g, cap, rfl, B5, c0, c4⟩
            clear HS
            have b5 := bt b4 B5
            have HW := hWk w5 b5
            go_wp2_with fail
            refine HW.mono ?_
            rintro e w6 ⟨rfl, B6⟩
            go_wp2_with fail
            go_ret
            exact ⟨rfl, bt b5 B6⟩
          · have HS := HT4.out hu2 w4 b4
            have hq2 : (255 : Int) < (u : Int) := by omega
            go_wp2_with fail
            refine HS.mono ?_
            rintro e w5 ⟨⟨x, y, rfl⟩, B5⟩
            clear HS
            have b5 := bt b4 B5
            have HW := hWk w5 b5
            go_wp2_with fail
            refine HW.mono ?_
            rintro e w6 ⟨rfl, B6⟩
            go_wp2_with fail
            go_ret
            exact ⟨rfl, bt b5 B6⟩
end Go.Proofs.YtkeomcdcjfgacaaDoor
