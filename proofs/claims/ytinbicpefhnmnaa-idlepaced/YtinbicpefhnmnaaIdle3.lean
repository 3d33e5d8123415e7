/-
  Contracts of layer 25 (idle): Carry.
-/
import Derived.Test.YtinbicpefhnmnaaIdle2
namespace Go.Proofs.Ytinbicpefhnmnaa
open Go.ChangeShapes Go.WideShapes Go.ChangeAt Go.RowKit Go.Joins Go.Deep
set_option linter.unusedVariables false

set_option maxHeartbeats 4000000 in
theorem idleCarry (c : Cl) (h64 : c.share < 18446744073709551616) (s : St) (w : World) : Calls Try.prog 26 #[.agg s.cells, .agg c.cells] w fun e w' => e = .returned (.agg (carryV c s).cells) ∧ Touch [] w w' := by
  have R := Lib.hid (fun w => right_any c h64 w)
  unfold carryV
  by_cases h : rightV c = 0
  · rw [if_pos h]
    rw [h] at R
    have CL := Lib.hid (fun w => idleClampT s.avg c w)
    generalize clampV c s.avg = A at *
    unfold Cl.cells St.cells at *
    clear h64 h
    go_enter Try.func26, Try.ntmps26
    go_wp2_with fail
    refine (R.out _).mono ?_
    rintro e w2 ⟨rfl, t⟩
    have x0 := BoxV.of3.carry t (by simp)
    have x1 := BoxV.at1of3.carry t (by simp)
    have X0 := Lib.hid x0
    have X2 := Lib.hid (BoxV.at2.carry t (by simp))
    have T := Lib.hid ((((Touch.refl [] _).alloc _).alloc _).alloc _ |>.trans t (by simp))
    have z1 := x0.cell 1
    have lt0 := x0.lt
    have k0 := x1.cell 0
    have k1 := x1.cell 1
    have k2 := x1.cell 2
    have k3 := x1.cell 3
    have k4 := x1.cell 4
    have k5 := x1.cell 5
    have k6 := x1.cell 6
    have k7 := x1.cell 7
    have k8 := x1.cell 8
    have k9 := x1.cell 9
    have k10 := x1.cell 10
    have lt1 := x1.lt
    clear t x0 x1
    go_wp2_with fail
    refine (CL.out _).mono ?_
    rintro e w3 ⟨rfl, t⟩
    clear z1 lt0 k0 k1 k2 k3 k4 k5 k6 k7 k8 k9 k10 lt1
    have x0 := X0.out.carry t (by simp)
    have fz := x0.fr
    have z0 := x0.cell 0
    have z1 := x0.cell 1
    have z2 := x0.cell 2
    have lt0 := x0.lt
    have y := X2.out.carry t (by simp)
    have fz' := y.fr
    have y0 := y.cell 0
    have y1 := y.cell 1
    have y2 := y.cell 2
    have lty := y.lt
    have T' := Lib.hid ((T.out.trans t (by simp)).setCell (a := ⟨w.heap.size, 1, none⟩) (by simp) (.int .i64 A))
    have Y := Lib.hid (y.carry (((Touch.refl [w.heap.size] _).setCell (a := ⟨w.heap.size, 1, none⟩) (by simp) (.int .i64 A))) (by simp))
    clear y t x0 X0 X2
    go_wp2_with fail
    have Z : BoxV _ _ 41 #[.int .i64 s.last, .int .i64 A, .int .i64 s.till] := ((Y.out.set 0 (.int .i64 s.last)).set 1 (.int .i64 A)).set 2 (.int .i64 s.till)
    refine bodyPost_ret (ret_box rfl rfl Z Try.underlying41 rfl (by kernel_rfl)) rfl ⟨rfl, ?_⟩
    exact (((T'.out.setCell (by simp <;> omega) _).setCell (by simp <;> omega) _).setCell (by simp <;> omega) _)
  · rw [if_neg h]
    have e : (rightV c == 0) = false := by simpa using h
    unfold Cl.cells St.cells at *
    generalize rightV c = rv at *
    clear h64 h
    go_enter Try.func26, Try.ntmps26
    go_wp2_with fail
    refine (R.out _).mono ?_
    rintro e w2 ⟨rfl, t⟩
    have y := BoxV.at2.carry t (by simp)
    have x := BoxV.of3.carry t (by simp)
    have fz := y.fr
    have y0 := y.cell 0
    have y1 := y.cell 1
    have y2 := y.cell 2
    have lty := y.lt
    have x0 := x.cell 0
    have x1 := x.cell 1
    have x2 := x.cell 2
    have ltx := x.lt
    have Y := Lib.hid y
    have T := Lib.hid ((((Touch.refl [] _).alloc _).alloc _).alloc _ |>.trans t (by simp))
    clear y t x
    go_wp2_with fail
    have Z : BoxV _ _ 41 #[.int .i64 s.last, .int .i64 s.avg, .int .i64 s.till] := ((Y.out.set 0 (.int .i64 s.last)).set 1 (.int .i64 s.avg)).set 2 (.int .i64 s.till)
    refine bodyPost_ret (ret_box rfl rfl Z Try.underlying41 rfl (by kernel_rfl)) rfl ⟨rfl, ?_⟩
    exact ((T.out.setCell (by simp <;> omega) _).setCell (by simp <;> omega) _).setCell (by simp <;> omega) _
end Go.Proofs.Ytinbicpefhnmnaa
