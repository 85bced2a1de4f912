/- strconv.FormatInt to the base 8, walked (for numbers below 512). -/
import Derived.Test.YtliebhpddjbjeaaDoorPlZ
import Derived.LoopN
import Derived.Outline
import Derived.Laws.BytesArg
import Derived.Lib.SmallJoins
import Derived.Lib.LaidTab
import Derived.Lib.AppendIntMem
import Derived.Lib.AtoiErrMem
namespace Go.Proofs.YtliebhpddjbjeaaDoor
open Go.RowKit
set_option maxHeartbeats 2000000
set_option maxRecDepth 100000
set_option linter.unusedVariables false

theorem tz8 (w : World) (h : w.cell? ⟨6, 7, none⟩ = some (.int .u8 3)) :
    Calls Tryd.prog 79 #[.int .u64 8] w fun e w' => e = .returned (.int .i64 3) ∧ w' = w := by
  have f0 : IntKind.u64.wrap (-8) = 18446744073709551608 := by kernel_rfl
  have f1 : bits .and .u64 8 (IntKind.u64.wrap (-8)) = 8 := by kernel_rfl
  have f3 : bits .and .u64 8 18446744073709551608 = 8 := by kernel_rfl
  have f2 : IntKind.u64.wrap (8 * 285870213051353865) = 2286961704410830920 := by kernel_rfl
  go_enter Tryd.func79, Tryd.ntmps79
  go_wp2_with fail
  go_ret
  exact ⟨rfl, rfl⟩
theorem pow8 (w : World) :
    Calls Tryd.prog 62 #[.int .i64 8] w fun e w' => e = .returned (.bool true) ∧ w' = w := by
  go_enter Tryd.func62, Tryd.ntmps62
  go_wp2_with fail
  go_ret
  exact ⟨rfl, rfl⟩
theorem tz8' (w : World) (h : w.cell? ⟨6, 7, none⟩ = some (.int .u8 3)) :
    Calls Tryd.prog 63 #[.int .u64 8] w fun e w' => e = .returned (.int .i64 3) ∧ w' = w := by
  have HT := tz8 w h
  go_enter Tryd.func63, Tryd.ntmps63
  go_wp2_with fail
  refine HT.mono ?_
  rintro e w1 ⟨rfl, rfl⟩
  go_wp2_with fail
  go_ret
  exact ⟨rfl, rfl⟩

theorem dg_of (ds : ByteArray) (c : Nat) (h8 : c < 8) (hs : c < ds.size) (hd : ds.data.toList.take 8 = [48, 49, 50, 51, 52, 53, 54, 55]) : UInt8.ofNat ((ds[c].toNat : Int)).toNat = UInt8.ofNat (48 + c) := by
  have h1 : ds[c] = (ds.data.toList.take 8)[c]'(by rw [hd]; exact h8) := by rw [List.getElem_take]; rfl
  rw [h1]
  simp only [hd]
  match c, h8 with
  | 0, _ => rfl
  | 1, _ => rfl
  | 2, _ => rfl
  | 3, _ => rfl
  | 4, _ => rfl
  | 5, _ => rfl
  | 6, _ => rfl
  | 7, _ => rfl
theorem dg_of' (ds : ByteArray) (c : Nat) (h8 : c < 8) (hs : c < ds.size) (hd : ds.data.toList.take 8 = [48, 49, 50, 51, 52, 53, 54, 55]) : ds[c] = UInt8.ofNat (48 + c) := by
  have := dg_of ds c h8 hs hd
  simpa using this
theorem ret_str1 (a b : UInt8) (h : a = b) : Ending.returned (.tuple #[.slice none 0 0, .string ⟨#[a]⟩]) = .returned (.tuple #[.slice none 0 0, .string ⟨#[b]⟩]) := by rw [h]
theorem ret_str2 (a b c d : UInt8) (h : a = b) (h' : c = d) : Ending.returned (.tuple #[.slice none 0 0, .string ⟨#[a, c]⟩]) = .returned (.tuple #[.slice none 0 0, .string ⟨#[b, d]⟩]) := by rw [h, h']
theorem ret_str3 (a b c d e f : UInt8) (h : a = b) (h' : c = d) (h'' : e = f) : Ending.returned (.tuple #[.slice none 0 0, .string ⟨#[a, c, e]⟩]) = .returned (.tuple #[.slice none 0 0, .string ⟨#[b, d, f]⟩]) := by rw [h, h', h'']
theorem and7_all : (List.range 512).all (fun c : Nat => bits .and .u64 (c : Int) 7 == ((c % 8 : Nat) : Int)) = true := by kernel_rfl
theorem and7 (c : Nat) (h : c < 512) : bits .and .u64 (c : Int) 7 = ((c % 8 : Nat) : Int) := by
  have := List.all_eq_true.1 and7_all c (List.mem_range.2 h)
  exact of_decide_eq_true (by simpa using this)
theorem cv8 (n : Nat) (zs : List Int) (hn : zs.length = n) (h3 : n ≤ 3) (h1 : 1 ≤ n) (C : Array Value) (hC : ∀ i, i < n → C[65 - n + i]? = some (.int .u8 (zs.getD i 0))) (W : World) :
    (convert 39 9 (.slice (some ⟨W.heap.size, 65 - n, none⟩) n n)).run Tryd.prog (W.alloc (.cells C 89)) = .ok (.string ⟨(zs.map fun z => UInt8.ofNat z.toNat).toArray⟩) (W.alloc (.cells C 89)) := by
  have h := run_convert_bytes_arg (P := Tryd.prog) (W.alloc (.cells C 89)) 39 5 Tryd.underlying39 Tryd.underlying5 W.heap.size (65 - n) n n zs hn (fun i hi => by
    rw [World.cell?_alloc_new]; exact hC i hi) 9 Tryd.underlying9
  exact h
theorem z89_size : (Tryd.zeroCells89).size = 65 := by kernel_rfl
theorem cvA (d : Int) (W : World) : (convert 39 9 (.slice (some ⟨W.heap.size, 64, none⟩) 1 1)).run Tryd.prog (W.alloc (.cells (Tryd.zeroCells89.setIfInBounds 64 (.int .u8 d)) 89)) = .ok (.string ⟨#[UInt8.ofNat d.toNat]⟩) (W.alloc (.cells (Tryd.zeroCells89.setIfInBounds 64 (.int .u8 d)) 89)) :=
  cv8 1 [d] rfl (by omega) (by omega) _ (fun i hi => by
    obtain rfl : i = 0 := by omega
    rw [Array.getElem?_setIfInBounds_self_of_lt (by rw [z89_size]; omega)]; rfl) W
theorem cvB (d e : Int) (W : World) : (convert 39 9 (.slice (some ⟨W.heap.size, 63, none⟩) 2 2)).run Tryd.prog (W.alloc (.cells ((Tryd.zeroCells89.setIfInBounds 64 (.int .u8 e)).setIfInBounds 63 (.int .u8 d)) 89)) = .ok (.string ⟨#[UInt8.ofNat d.toNat, UInt8.ofNat e.toNat]⟩) (W.alloc (.cells ((Tryd.zeroCells89.setIfInBounds 64 (.int .u8 e)).setIfInBounds 63 (.int .u8 d)) 89)) :=
  cv8 2 [d, e] rfl (by omega) (by omega) _ (fun i hi => by
    match i, hi with
    | 0, _ => simp
    | 1, _ => simp) W
theorem cvC (d e f : Int) (W : World) : (convert 39 9 (.slice (some ⟨W.heap.size, 62, none⟩) 3 3)).run Tryd.prog (W.alloc (.cells (((Tryd.zeroCells89.setIfInBounds 64 (.int .u8 f)).setIfInBounds 63 (.int .u8 e)).setIfInBounds 62 (.int .u8 d)) 89)) = .ok (.string ⟨#[UInt8.ofNat d.toNat, UInt8.ofNat e.toNat, UInt8.ofNat f.toNat]⟩) (W.alloc (.cells (((Tryd.zeroCells89.setIfInBounds 64 (.int .u8 f)).setIfInBounds 63 (.int .u8 e)).setIfInBounds 62 (.int .u8 d)) 89)) :=
  cv8 3 [d, e, f] rfl (by omega) (by omega) _ (fun i hi => by
    match i, hi with
    | 0, _ => simp
    | 1, _ => simp
    | 2, _ => simp) W
theorem fb1 (c : Nat) (h8 : c < 8) (w : World) (h : w.cell? ⟨6, 7, none⟩ = some (.int .u8 3)) :
    Calls Tryd.prog 51 #[.slice none 0 0, .int .u64 (c : Int), .int .i64 8, .bool false, .bool false] w fun e w' => e = .returned (.tuple #[.slice none 0 0, .string ⟨#[UInt8.ofNat (48 + c)]⟩]) ∧ Below w.heap.size w w' := by
  have HT := fun w h => tz8' w h
  have HC := fun d => cvA d w
  have HH : ∀ o, (w.alloc o).cell? ⟨6, 7, none⟩ = some (.int .u8 3) := fun o => ((Below.refl w.heap.size w).alloc (Nat.le_refl _) o).cell (Lib.lt_of_cell h) |>.trans h
  go_enter Tryd.func51, Tryd.ntmps51
  go_wp2_with fail
  refine (pow8 _).mono ?_
  rintro e w1 ⟨rfl, rfl⟩
  go_wp2_with fail
  refine (HT _ (HH _)).mono ?_
  rintro e w1 ⟨rfl, rfl⟩
  clear HH HT
  go_wp2_with fail
  refine wp_loop_rounds 1 ?_
  rw [rounds_succ]
  go_wp2_with fail
  go_ret2
  refine ⟨?_, (Below.refl w.heap.size w).alloc (Nat.le_refl _) _⟩
  exact ret_str1 _ _ (dg_of' _ c h8 _ rfl)
theorem fb2 (u a b : Nat) (ha : a < 8) (ha1 : 1 ≤ a) (hb : b < 8) (hA : bits .and .u64 (u : Int) 7 = (b : Int)) (hD : (u : Int) / 8 = (a : Int)) (hu : 8 ≤ u) (hu2 : u < 64) (w : World) (h : w.cell? ⟨6, 7, none⟩ = some (.int .u8 3)) :
    Calls Tryd.prog 51 #[.slice none 0 0, .int .u64 (u : Int), .int .i64 8, .bool false, .bool false] w fun e w' => e = .returned (.tuple #[.slice none 0 0, .string ⟨#[UInt8.ofNat (48 + a), UInt8.ofNat (48 + b)]⟩]) ∧ Below w.heap.size w w' := by
  have HT := fun w h => tz8' w h
  have HC := fun d e => cvB d e w
  have HH : ∀ o, (w.alloc o).cell? ⟨6, 7, none⟩ = some (.int .u8 3) := fun o => ((Below.refl w.heap.size w).alloc (Nat.le_refl _) o).cell (Lib.lt_of_cell h) |>.trans h
  go_enter Tryd.func51, Tryd.ntmps51
  go_wp2_with fail
  refine (pow8 _).mono ?_
  rintro e w1 ⟨rfl, rfl⟩
  go_wp2_with fail
  refine (HT _ (HH _)).mono ?_
  rintro e w1 ⟨rfl, rfl⟩
  clear HH HT
  go_wp2_with fail
  refine wp_loop_rounds 3 ?_
  rw [rounds_succ]
  go_wp2_with fail
  rw [rounds_succ]
  go_wp2_with fail
  go_ret2
  refine ⟨?_, (Below.refl w.heap.size w).alloc (Nat.le_refl _) _⟩
  exact ret_str2 _ _ _ _ (dg_of' _ a ha _ rfl) (dg_of' _ b hb _ rfl)
theorem fb3 (u v a b c : Nat) (ha : a < 8) (ha1 : 1 ≤ a) (hb : b < 8) (hc : c < 8) (hA : bits .and .u64 (u : Int) 7 = (c : Int)) (hA2 : bits .and .u64 (v : Int) 7 = (b : Int)) (hD : (u : Int) / 8 = (v : Int)) (hD2 : (v : Int) / 8 = (a : Int)) (hu : 64 ≤ u) (hu2 : u < 512) (hv : 8 ≤ v) (hv2 : v < 64) (w : World) (h : w.cell? ⟨6, 7, none⟩ = some (.int .u8 3)) :
    Calls Tryd.prog 51 #[.slice none 0 0, .int .u64 (u : Int), .int .i64 8, .bool false, .bool false] w fun e w' => e = .returned (.tuple #[.slice none 0 0, .string ⟨#[UInt8.ofNat (48 + a), UInt8.ofNat (48 + b), UInt8.ofNat (48 + c)]⟩]) ∧ Below w.heap.size w w' := by
  have HT := fun w h => tz8' w h
  have HC := fun d e f => cvC d e f w
  have HH : ∀ o, (w.alloc o).cell? ⟨6, 7, none⟩ = some (.int .u8 3) := fun o => ((Below.refl w.heap.size w).alloc (Nat.le_refl _) o).cell (Lib.lt_of_cell h) |>.trans h
  go_enter Tryd.func51, Tryd.ntmps51
  go_wp2_with fail
  refine (pow8 _).mono ?_
  rintro e w1 ⟨rfl, rfl⟩
  go_wp2_with fail
  refine (HT _ (HH _)).mono ?_
  rintro e w1 ⟨rfl, rfl⟩
  clear HH HT
  go_wp2_with fail
  refine wp_loop_rounds 4 ?_
  rw [rounds_succ]
  go_wp2_with fail
  rw [rounds_succ]
  go_wp2_with fail
  rw [rounds_succ]
  go_wp2_with fail
  go_ret2
  refine ⟨?_, (Below.refl w.heap.size w).alloc (Nat.le_refl _) _⟩
  exact ret_str3 _ _ _ _ _ _ (dg_of' _ a ha _ rfl) (dg_of' _ b hb _ rfl) (dg_of' _ c hc _ rfl)
end Go.Proofs.YtliebhpddjbjeaaDoor
