/-
  Contracts of layer 25 (idle): New, Sent and Carry.
-/
import Derived.Test.YtinbicpefhnmnaaIdle
import Derived.Test.YtinbicpefhnmnaaBoxV
import Derived.Deep.Cut
import Derived.Deep.RegionWith
namespace Go.Proofs.Ytinbicpefhnmnaa
open Go.ChangeShapes Go.WideShapes Go.ChangeAt Go.RowKit Go.Joins Go.Deep
set_option linter.unusedVariables false

theorem idleClampT (a : Int) (c : Cl) (w : World) : Calls Try.prog 48 #[.int .i64 a, .agg c.cells] w fun e w' => e = .returned (.int .i64 (clampV c a)) ∧ Touch [] w w' := idleClamp a c w
theorem stepT (avg x wt : Int) (w : World) : Calls Try.prog 49 #[.int .i64 avg, .int .i64 x, .int .i64 wt] w fun e w' => e = .returned (.int .i64 (stepV avg x wt)) ∧ Touch [] w w' :=
  (step_any avg x wt w).mono fun e w' ⟨h1, h2⟩ => ⟨h1, by rw [← h2]; exact Touch.refl _ _⟩
theorem holdT (x : Int) (w : World) : Calls Try.prog 50 #[.int .i64 x] w fun e w' => e = .returned (.int .i64 (hold x)) ∧ Touch [] w w' :=
  (hold_any x w).mono fun e w' ⟨h1, h2⟩ => ⟨h1, by rw [← h2]; exact Touch.refl _ _⟩
theorem untilT (avg wt time now : Int) (w : World) (h : 0 ≤ avg ∨ okAway avg wt) : Calls Try.prog 51 #[.int .i64 avg, .int .i64 wt, .int .i64 time, .int .i64 now] w fun e w' => e = .returned (.int .i64 (untilV avg wt time now)) ∧ Touch [] w w' :=
  (idleUntil avg wt time now w h).mono fun e w' ⟨h1, h2⟩ => ⟨h1, by rw [← h2]; exact Touch.refl _ _⟩

set_option maxHeartbeats 2000000 in
theorem idleNew (c : Cl) (h64 : c.share < 18446744073709551616) (now : Int) (w : World) : Calls Try.prog 24 #[.agg c.cells, .int .i64 now] w fun e w' => e = .returned (.agg (newV c now).cells) ∧ Touch [] w w' := by
  have R := Lib.hid (fun w => right_any c h64 w)
  unfold newV
  by_cases h : rightV c = 0
  · rw [if_pos h]
    rw [h] at R
    have HO := Lib.hid (fun w => holdT now w)
    unfold Cl.cells St.cells at *
    clear h64 h
    go_enter Try.func24, Try.ntmps24
    go_wp2_with fail
    refine (R.out _).mono ?_
    rintro e w2 ⟨rfl, t⟩
    have X0 := Lib.hid (BoxV.of2.carry t (by simp))
    have X1 := Lib.hid (BoxV.at1.carry t (by simp))
    have T := Lib.hid (((Touch.refl [] _).alloc _).alloc _ |>.trans t (by simp))
    clear t
    have k8 : ∀ x : Cls w2, x.val.cell? ⟨w.heap.size, 8, none⟩ = some (.int .i64 c.maxIdle) := fun x => (X0.out.carry x.property (by simp)).cell 8
    go_upto_region 3 with fail
    refine wp_region_tail (wd := w2) 5 (by kernel_rfl) (by kernel_rfl) ((Touch.refl _ _).drew) ?_
    simp only [List.take_succ_cons, List.take_zero, List.drop_succ_cons, List.drop_zero]
    repeat (first | go_big_quiet_step ((go_at_call 50; exact Calls.cls_at (HO.out _))) | quiet_step ((go_at_call 50; exact Calls.cls_at (HO.out _))))
    refine wpQuiet_nil ?_
    intro x
    have y := X1.out.carry x.property (by simp)
    have fz := y.fr
    have y0 := y.cell 0
    have y1 := y.cell 1
    have y2 := y.cell 2
    have lty := y.lt
    have Y := Lib.hid y
    clear y k8
    go_wp2_with fail
    have Z : BoxV _ _ 41 #[.int .i64 (hold now), .int .i64 c.maxIdle, .int .i64 0] := ((Y.out.set 0 (.int .i64 (hold now))).set 1 (.int .i64 c.maxIdle)).set 2 (.int .i64 0)
    refine bodyPost_ret (ret_box rfl rfl Z Try.underlying41 rfl (by kernel_rfl)) rfl ⟨rfl, ?_⟩
    exact (((T.out.trans x.property (by simp)).setCell (by simp) _).setCell (by simp) _).setCell (by simp) _
  · rw [if_neg h]
    have e : (rightV c != 0) = true := by simpa using h
    unfold Cl.cells St.cells at *
    generalize rightV c = rv at *
    clear h64 h
    go_enter Try.func24, Try.ntmps24
    go_wp2_with fail
    refine (R.out _).mono ?_
    rintro e w2 ⟨rfl, t⟩
    have y := BoxV.at1.carry t (by simp)
    have fz := y.fr
    have y0 := y.cell 0
    have y1 := y.cell 1
    have y2 := y.cell 2
    have lty := y.lt
    have Y := Lib.hid y
    have T := Lib.hid (((Touch.refl [] _).alloc _).alloc _ |>.trans t (by simp))
    clear y t
    go_wp2_with fail
    have Z : BoxV _ _ 41 #[.int .i64 0, .int .i64 0, .int .i64 0] := ((Y.out.set 0 (.int .i64 0)).set 1 (.int .i64 0)).set 2 (.int .i64 0)
    refine bodyPost_ret (ret_box rfl rfl Z Try.underlying41 rfl (by kernel_rfl)) rfl ⟨rfl, ?_⟩
    exact ((T.out.setCell (by simp) _).setCell (by simp) _).setCell (by simp) _

theorem okAway_of {c : Cl} (h : rightV c = 0) (a : Int) : 0 ≤ clampV c a ∨ okAway (clampV c a) c.weight := by
  have h1 := right_zero h
  have h2 := clampV_in h a
  unfold okAway
  omega

set_option maxHeartbeats 4000000 in
theorem idleSent (c : Cl) (h64 : c.share < 18446744073709551616) (s : St) (time now : Int) (w : World) : Calls Try.prog 22 #[.agg s.cells, .agg c.cells, .int .i64 time, .int .i64 now] w fun e w' => e = .returned (.agg (sentV c s time now).cells) ∧ Touch [] w w' := by
  have R := Lib.hid (fun w => right_any c h64 w)
  unfold sentV
  by_cases h : rightV c = 0
  · rw [if_pos h]
    rw [h] at R
    have HO := Lib.hid (fun w => holdT now w)
    have ST := Lib.hid (fun w => stepT s.avg (idleV s time now) c.weight w)
    have CL := Lib.hid (fun w => idleClampT (stepV s.avg (idleV s time now) c.weight) c w)
    have UN := Lib.hid (fun w => untilT (avgV c s time now) c.weight time now w (okAway_of h _))
    have e1 : clampV c (stepV s.avg (idleV s time now) c.weight) = avgV c s time now := rfl
    rw [e1] at CL
    clear e1
    unfold idleV at *
    generalize avgV c s time now = A at *
    generalize untilV A c.weight time now = U at *
    unfold Cl.cells St.cells at *
    clear h64 h
    go_enter Try.func22, Try.ntmps22
    go_wp2_with fail
    refine (R.out _).mono ?_
    rintro e w2 ⟨rfl, t⟩
    have x0 := BoxV.of3.carry t (by simp)
    have X0 := Lib.hid x0
    have X1 := Lib.hid (BoxV.at1of3.carry t (by simp))
    have X2 := Lib.hid (BoxV.at2.carry t (by simp))
    have T := Lib.hid ((((Touch.refl [] _).alloc _).alloc _).alloc _ |>.trans t (by simp))
    have z0 := x0.cell 0
    have lt0 := x0.lt
    clear t x0
    go_wp2_with fail
    refine (sub_any _ _ _).mono ?_
    rintro e w2 ⟨rfl, rfl⟩
    go_wp2_with fail
    refine (sub_any _ _ _).mono ?_
    rintro e w2 ⟨rfl, rfl⟩
    generalize stepV s.avg (satSub (satSub now s.last) time) c.weight = B at *
    go_upto_region 4 with fail
    clear z0 lt0
    have a1 : ∀ x : Cls w2, x.val.cell? ⟨w.heap.size, 1, none⟩ = some (.int .i64 s.avg) := fun x => (X0.out.carry x.property (by simp)).cell 1
    have k0 : ∀ x : Cls w2, x.val.cell? ⟨w.heap.size + 1, 0, none⟩ = some (.int .i64 c.id) := fun x => (X1.out.carry x.property (by simp)).cell 0
    have k1 : ∀ x : Cls w2, x.val.cell? ⟨w.heap.size + 1, 1, none⟩ = some (.int .i64 c.parent) := fun x => (X1.out.carry x.property (by simp)).cell 1
    have k2 : ∀ x : Cls w2, x.val.cell? ⟨w.heap.size + 1, 2, none⟩ = some (.float .f64 c.share) := fun x => (X1.out.carry x.property (by simp)).cell 2
    have k3 : ∀ x : Cls w2, x.val.cell? ⟨w.heap.size + 1, 3, none⟩ = some (.int .i64 c.prio) := fun x => (X1.out.carry x.property (by simp)).cell 3
    have k4 : ∀ x : Cls w2, x.val.cell? ⟨w.heap.size + 1, 4, none⟩ = some (.int .i64 c.quantum) := fun x => (X1.out.carry x.property (by simp)).cell 4
    have k5 : ∀ x : Cls w2, x.val.cell? ⟨w.heap.size + 1, 5, none⟩ = some (.int .i64 c.limit) := fun x => (X1.out.carry x.property (by simp)).cell 5
    have k6 : ∀ x : Cls w2, x.val.cell? ⟨w.heap.size + 1, 6, none⟩ = some (.int .i64 c.weight) := fun x => (X1.out.carry x.property (by simp)).cell 6
    have k7 : ∀ x : Cls w2, x.val.cell? ⟨w.heap.size + 1, 7, none⟩ = some (.int .i64 c.minIdle) := fun x => (X1.out.carry x.property (by simp)).cell 7
    have k8 : ∀ x : Cls w2, x.val.cell? ⟨w.heap.size + 1, 8, none⟩ = some (.int .i64 c.maxIdle) := fun x => (X1.out.carry x.property (by simp)).cell 8
    have k9 : ∀ x : Cls w2, x.val.cell? ⟨w.heap.size + 1, 9, none⟩ = some (.bool c.bounded) := fun x => (X1.out.carry x.property (by simp)).cell 9
    have k10 : ∀ x : Cls w2, x.val.cell? ⟨w.heap.size + 1, 10, none⟩ = some (.bool c.isolated) := fun x => (X1.out.carry x.property (by simp)).cell 10
    refine wp_region_cls (wd := w2) (by kernel_rfl) (by kernel_rfl) ((Touch.refl _ _).drew) ?_
    repeat (first | go_big_quiet_step ((first | (go_at_call 49; exact Calls.cls_at (ST.out _)) | (go_at_call 48; exact Calls.cls_at (CL.out _)))) | quiet_step ((first | (go_at_call 49; exact Calls.cls_at (ST.out _)) | (go_at_call 48; exact Calls.cls_at (CL.out _)))))
    refine wpQuiet_nil ?_
    rintro _ ⟨y, rfl⟩
    clear a1 k0 k1 k2 k3 k4 k5 k7 k8 k9 k10
    go_upto_region 5 with fail
    refine wp_region_tail (wd := w2) 10 (by kernel_rfl) (by kernel_rfl) (y.property.drew) ?_
    simp only [List.take_succ_cons, List.take_zero, List.drop_succ_cons, List.drop_zero]
    repeat (first | go_big_quiet_step ((first | (go_at_call 50; exact Calls.cls_at (HO.out _)) | (go_at_call 51; exact Calls.cls_at (UN.out _)))) | quiet_step ((first | (go_at_call 50; exact Calls.cls_at (HO.out _)) | (go_at_call 51; exact Calls.cls_at (UN.out _)))))
    refine wpQuiet_nil ?_
    intro x
    have y := X2.out.carry x.property (by simp)
    have fz := y.fr
    have y0 := y.cell 0
    have y1 := y.cell 1
    have y2 := y.cell 2
    have lty := y.lt
    have Y := Lib.hid y
    clear y k6
    go_wp2_with fail
    have Z : BoxV _ _ 41 #[.int .i64 (hold now), .int .i64 A, .int .i64 U] := ((Y.out.set 0 (.int .i64 (hold now))).set 1 (.int .i64 A)).set 2 (.int .i64 U)
    refine bodyPost_ret (ret_box rfl rfl Z Try.underlying41 rfl (by kernel_rfl)) rfl ⟨rfl, ?_⟩
    exact (((T.out.trans x.property (by simp)).setCell (by simp <;> omega) _).setCell (by simp <;> omega) _).setCell (by simp <;> omega) _
  · rw [if_neg h]
    have e : (rightV c != 0) = true := by simpa using h
    unfold Cl.cells St.cells at *
    generalize rightV c = rv at *
    clear h64 h
    go_enter Try.func22, Try.ntmps22
    go_wp2_with fail
    refine (R.out _).mono ?_
    rintro e w2 ⟨rfl, t⟩
    have y := BoxV.at2.carry t (by simp)
    have x := BoxV.of3.carry t (by simp)
    have fz := y.fr
    have y0 := y.cell 0
    have y1 := y.cell 1
    have y2 := y.cell 2
    have lty := y.lt
    have x0 := x.cell 0
    have x1 := x.cell 1
    have x2 := x.cell 2
    have ltx := x.lt
    have Y := Lib.hid y
    have T := Lib.hid ((((Touch.refl [] _).alloc _).alloc _).alloc _ |>.trans t (by simp))
    clear y t x
    go_wp2_with fail
    have Z : BoxV _ _ 41 #[.int .i64 s.last, .int .i64 s.avg, .int .i64 s.till] := ((Y.out.set 0 (.int .i64 s.last)).set 1 (.int .i64 s.avg)).set 2 (.int .i64 s.till)
    refine bodyPost_ret (ret_box rfl rfl Z Try.underlying41 rfl (by kernel_rfl)) rfl ⟨rfl, ?_⟩
    exact ((T.out.setCell (by simp <;> omega) _).setCell (by simp <;> omega) _).setCell (by simp <;> omega) _
end Go.Proofs.Ytinbicpefhnmnaa
