/- Law 11: same. -/
import Derived.Test.YtepfknfadpkigaaTyT
import Derived.Laws.StructEq
import Derived.Laws.Small
namespace Go.Proofs.Ytepfknfadpkigaa
open Go.RowKit
set_option maxHeartbeats 1000000
set_option maxRecDepth 100000
set_option linter.unusedVariables false
set_option linter.unusedSimpArgs false

theorem undPa : Try.prog.underlying 65 = some (.struct (Try.prog.fieldsOf 65)) := by kernel_rfl
theorem heldPa : Try.prog.stoodInHeld 65 = false := by kernel_rfl
theorem grdPa : Try.prog.eqGuardType Try.prog.depth 65 = false := by kernel_rfl
theorem fieldsPa : ∃ f0 f1 : Field, (Try.prog.fieldsOf 65) = #[f0, f1] ∧ f0.name = "Var" ∧ f0.type = 4 ∧ f0.offset = 0 ∧ f1.name = "Type" ∧ f1.type = 3 ∧ f1.offset = 1 := by
  refine ⟨_, _, (by kernel_rfl : Try.prog.fieldsOf 65 = #[(Try.prog.fieldsOf 65).getD 0 default, (Try.prog.fieldsOf 65).getD 1 default]), ?_, ?_, ?_, ?_, ?_, ?_⟩ <;> kernel_rfl
theorem neqPa (b : Bool) (t : Int) (w : World) : (binOp .neq 65 (.agg #[.bool b, .int .i64 t]) (.agg #[.bool b, .int .i64 t])).run Try.prog w = .ok (.bool false) w := by
  obtain ⟨f0, f1, h0, n0, t0, o0, n1, t1, o1⟩ := fieldsPa
  have pa0 : (part 4 #[.bool b, .int .i64 t] 0).run Try.prog w = .ok (.bool b) w := by simp [part, Try.isAgg4]
  have pa1 : (part 3 #[.bool b, .int .i64 t] 1).run Try.prog w = .ok (.int .i64 t) w := by simp [part, Try.isAgg3]
  have e0 := run_equalIn_bool (P := Try.prog) w 9998 4 b b Try.underlying4
  have e1 := run_equalIn_int (P := Try.prog) w 9998 3 .i64 .i64 t t Try.underlying3
  have he : (Op.equal 65 (.agg #[.bool b, .int .i64 t]) (.agg #[.bool b, .int .i64 t])).run Try.prog w = .ok true w := by
    unfold Op.equal
    rw [show Op.maxDepth = 9999 + 1 from rfl, run_equalIn_agg w 9999 _ _ _ undPa heldPa, h0]
    simp only [Op.eqFields, n0, t0, o0, n1, t1, o1]
    simp only [Nat.reduceAdd] at e0 e1
    simp [pa0, e0, pa1, e1, Result.andThen]
  simp only [binOp]
  simp [he]
theorem same_any (x y : TyV) (c : TyK) (w : World) (hx : Has w 0 x c) (hy : Has w 0 y c) (hf : flatK c) : Calls Try.prog 12 #[x.val, y.val] w fun e w' => e = .returned (.bool true) ∧ Bl w w' := by
  obtain ⟨s1, s2, s3, s4, s5, s6, s7, s8⟩ := hx.s
  obtain ⟨q1, q2, q3, q4, q5, q6, q7, q8⟩ := hy.s
  have n1 := hx.ns.n
  have n2 := hx.fs.n
  have n3 := hx.ps.n
  have m1 := hy.ns.n
  have m2 := hy.fs.n
  have m3 := hy.ps.n
  have n4 : x.rs.n = 0 := by obtain ⟨l, h1, h2, _⟩ := hx.rs; rw [h1.n, h2, hf.2.2.1]; rfl
  have m4 : y.rs.n = 0 := by obtain ⟨l, h1, h2, _⟩ := hy.rs; rw [h1.n, h2, hf.2.2.1]; rfl
  rw [hf.1] at n1 m1
  rw [hf.2.1] at n2 m2
  have HX := Lib.hid (And.intro hx.ps hy.ps)
  obtain ⟨l, hl⟩ : ∃ l, c.ps = l := ⟨_, rfl⟩
  rw [hl] at n3 m3 HX
  obtain ⟨n, hn⟩ : ∃ n, l.length = n := ⟨_, rfl⟩
  rw [hn] at n3 m3
  have HN := Lib.hid (And.intro hn (show l.length ≤ 6 by rw [← hl]; exact hf.2.2.2))
  obtain ⟨xk, xm, xn, xb, xx, xlo, xhi, ⟨xnp, xnn, xnc⟩, ⟨xfp, xfn, xfc⟩, ⟨xrp, xrn, xrc⟩, ⟨xpp, xpn, xpc⟩, xr⟩ := x
  obtain ⟨yk, ym, yn, yb, yx, ylo, yhi, ⟨ynp, ynn, ync⟩, ⟨yfp, yfn, yfc⟩, ⟨yrp, yrn, yrc⟩, ⟨ypp, ypn, ypc⟩, yr⟩ := y
  simp only [List.length_nil] at s1 s2 s3 s4 s5 s6 s7 s8 q1 q2 q3 q4 q5 q6 q7 q8 n1 n2 n3 n4 m1 m2 m3 m4 HX ⊢
  rw [← q1] at s1
  rw [← q2] at s2
  rw [← q3] at s3
  rw [← q4] at s4
  rw [← q5] at s5
  rw [← q6] at s6
  rw [← q7] at s7
  rw [← q8] at s8
  clear q1 q2 q3 q4 q5 q6 q7 q8 hx hy hf hl hn
  subst s1 s2 s3 s4 s5 s6 s7 s8 n1 n2 n3 n4 m1 m2 m3 m4
  have hne := neqPa
  go_enter Try.func12, Try.ntmps12
  go_wp2_with fail
  obtain ⟨w0, hw0⟩ : ∃ w0, (w.alloc (.cells #[.int .u8 xk, .string xm, .string xn, .int .i64 xb, .int .i64 xx, .int .i64 xlo, .int .i64 xhi, .slice xnp 0 xnc, .slice xfp 0 xfc, .slice xrp 0 xrc, .slice xpp ypn xpc, .int .i64 xr] 43)).alloc (.cells #[.int .u8 xk, .string xm, .string xn, .int .i64 xb, .int .i64 xx, .int .i64 xlo, .int .i64 xhi, .slice ynp 0 ync, .slice yfp 0 yfc, .slice yrp 0 yrc, .slice ypp ypn ypc, .int .i64 xr] 43) = w0 := ⟨_, rfl⟩
  rw [hw0]
  have K0 : Bl w w0 := by rw [← hw0]; exact (bl_new _ _).on (bl_new _ _)
  have X0 : Bx w0 w.heap.size 43 #[.int .u8 xk, .string xm, .string xn, .int .i64 xb, .int .i64 xx, .int .i64 xlo, .int .i64 xhi, .slice xnp 0 xnc, .slice xfp 0 xfc, .slice xrp 0 xrc, .slice xpp ypn xpc, .int .i64 xr] := by rw [← hw0]; exact (Bx.new _ _ _).on (bl_new _ _)
  have Y0 : Bx w0 (w.heap.size + 1) 43 #[.int .u8 xk, .string xm, .string xn, .int .i64 xb, .int .i64 xx, .int .i64 xlo, .int .i64 xhi, .slice ynp 0 ync, .slice yfp 0 yfc, .slice yrp 0 yrc, .slice ypp ypn ypc, .int .i64 xr] := by rw [← hw0]; have := Bx.new (w.alloc (.cells #[.int .u8 xk, .string xm, .string xn, .int .i64 xb, .int .i64 xx, .int .i64 xlo, .int .i64 xhi, .slice xnp 0 xnc, .slice xfp 0 xfc, .slice xrp 0 xrc, .slice xpp ypn xpc, .int .i64 xr] 43)) 43 #[.int .u8 xk, .string xm, .string xn, .int .i64 xb, .int .i64 xx, .int .i64 xlo, .int .i64 xhi, .slice ynp 0 ync, .slice yfp 0 yfc, .slice yrp 0 yrc, .slice ypp ypn ypc, .int .i64 xr]; simpa using this
  clear hw0
  have x7 := (X0.at 7).1
  have x8 := (X0.at 8).1
  simp only [List.getElem?_toArray, List.getElem?_cons_zero, List.getElem?_cons_succ] at x7 x8
  have HB := Lib.hid (And.intro K0 (And.intro X0 Y0))
  clear K0 X0 Y0
  go_loopw [5] (fun s wr => s = .int .i64 0 ∧ wr = w0) (fun _ _ => 0)
  case atStart => exact ⟨rfl, rfl⟩
  case round =>
    obtain ⟨rfl, rfl⟩ := hrel
    go_wp2_with fail
    go_loopw [6] (fun s w2 => s = .int .i64 0 ∧ w2 = wr) (fun _ _ => 0)
    case atStart => exact ⟨rfl, rfl⟩
    case round =>
      obtain ⟨rfl, rfl⟩ := hrel
      go_wp2_with fail
      go_loopw [7] (fun s w3 => ∃ k : Nat, k ≤ ypn ∧ s = .int .i64 k ∧ Bl wr w3) (fun s _ => ypn - (intOf s).toNat)
      case atStart => exact ⟨0, Nat.zero_le _, rfl, Below.refl _ _⟩
      case round =>
        obtain ⟨k, hk, rfl, hK⟩ := hrel
        have HK := Lib.hid hK
        have x10 := ((HB.out.2.1.on hK).at 10).1
        have y10 := ((HB.out.2.2.on hK).at 10).1
        simp only [List.getElem?_toArray, List.getElem?_cons_zero, List.getElem?_cons_succ] at x10 y10
        clear x7 x8
        have hy6 : ypn ≤ 6 := by have := HN.out; omega
        by_cases hlt : k < ypn
        · have d1 : decide ((k : Int) < (ypn : Int)) = true := decide_eq_true (by omega)
          have hne0 : l ≠ [] := by intro e; have := HN.out.1; rw [e] at this; simp at this; omega
          obtain ⟨p, hp⟩ : ∃ p, l[k]? = some p := ⟨_, List.getElem?_eq_getElem (by rw [HN.out.1]; exact hlt)⟩
          obtain ⟨g1, o1, e1, _, l1, r1, _⟩ := HX.out.1.c hne0
          obtain ⟨g2, o2, e2, _, l2, r2, _⟩ := HX.out.2.c hne0
          simp only at e1 e2
          obtain rfl := e1
          obtain rfl := e2
          have a1 := fun j u hu => ((HB.out.1.on hK).cell (p := ⟨g1, o1 + k * 2 + j, none⟩) l1).trans (r1 k p hp j u hu)
          have a2 := fun j u hu => ((HB.out.1.on hK).cell (p := ⟨g2, o2 + k * 2 + j, none⟩) l2).trans (r2 k p hp j u hu)
          have b1 := a1 0 _ rfl
          have b2 := a1 1 _ rfl
          have b3 := a2 0 _ rfl
          have b4 := a2 1 _ rfl
          simp only [Nat.add_zero] at b1 b3
          clear a1 a2 r1 r2 hp hK l1 l2
          go_wp2_with fail
          go_quiet (fail)
          go_wp2_with fail
          go_roundw
          case rel => exact ⟨k + 1, by omega, by simp, HK.out.on ⟨rfl, rfl, rfl, Nat.le_refl _, fun _ _ => rfl⟩⟩
          case measure => simp [intOf]; omega
        · obtain rfl : k = ypn := by omega
          have d1 : decide ((k : Int) < (k : Int)) = false := decide_eq_false (by omega)
          clear hK
          go_wp2_with fail
          go_ret
          exact ⟨rfl, HB.out.1.on HK.out⟩
end Go.Proofs.Ytepfknfadpkigaa
