/-
  The contract of the reference's Sent (layer 25).
-/
import Derived.Test.YtinbicpefhnmnaaIdleRef
namespace Go.Proofs.Ytinbicpefhnmnaa
open Go.ChangeShapes Go.WideShapes Go.ChangeAt Go.RowKit Go.Joins Go.Deep
set_option linter.unusedVariables false

theorem away_mul (a p : Int) (h1 : -1099511627776 ≤ a) (h2 : a ≤ -1) (h3 : 1 ≤ p) (h4 : p ≤ 65536) : 0 ≤ -a * (p - 1) ∧ -a * (p - 1) ≤ 72057594037927936 ∧ -a * p + a = -a * (p - 1) := by
  have e : -a * (p - 1) = -a * p + a := by rw [Int.mul_sub, Int.mul_one]; omega
  have a1 : -a * 1 ≤ -a * p := Int.mul_le_mul_of_nonneg_left (by omega) (by omega)
  have a2 : -a * p ≤ -a * 65536 := Int.mul_le_mul_of_nonneg_left (by omega) (by omega)
  omega

set_option maxHeartbeats 1000000 in
theorem refSent25 (c : Cl) (h64 : c.share < 18446744073709551616) (s : St) (time now : Int) (w : World) : Calls Try.prog 23 #[.agg s.cells, .agg c.cells, .int .i64 time, .int .i64 now] w fun e w' => e = .returned (.agg (sentV c s time now).cells) ∧ Touch [] w w' := by
  have R := Lib.hid (fun w => refRight_any c h64 w)
  unfold sentV
  by_cases h : rightV c = 0
  · rw [if_pos h]
    rw [h] at R
    have hz := right_zero h
    have ST := Lib.hid (fun w => refStepT s.avg (idleV s time now) c.weight w)
    have CL := Lib.hid (fun w => refWithin25 (stepV s.avg (idleV s time now) c.weight) c (by omega) w)
    have e1 : clampV c (stepV s.avg (idleV s time now) c.weight) = avgV c s time now := rfl
    have hA := clampV_in h (stepV s.avg (idleV s time now) c.weight)
    rw [e1] at CL hA
    clear e1
    unfold idleV at *
    have HU := Lib.hid (Eq.refl (untilV (avgV c s time now) c.weight time now))
    generalize hU : untilV (avgV c s time now) c.weight time now = U at *
    generalize avgV c s time now = A at *
    obtain ⟨k, hk⟩ : ∃ k : Nat, c.weight = k := ⟨c.weight.toNat, by omega⟩
    have PW := Lib.hid (fun w => refPower25 k (by omega) w)
    have hp : ((2 ^ k : Nat) : Int) ≤ 65536 := by have := Nat.pow_le_pow_right (n := 2) (by omega) (show k ≤ 16 by omega); omega
    have hp0 := pow_pos2 k
    have UP : A < 0 → satAdd now (satAdd time (-A * (((2 ^ k : Nat) : Int) - 1))) = U := by
      intro hA0
      rw [← hU]
      unfold untilV awayV
      rw [if_neg (by omega), hk, Int.toNat_natCast, (away_mul A _ (by omega) (by omega) (by omega) hp).2.2]
    have UZ : ¬ A < 0 → U = 0 := by
      intro hA0
      rw [← hU]
      unfold untilV
      rw [if_pos (by omega)]
    have MB : A < 0 → 0 ≤ -A * (((2 ^ k : Nat) : Int) - 1) ∧ -A * (((2 ^ k : Nat) : Int) - 1) ≤ 72057594037927936 := fun hA0 => ⟨(away_mul A _ (by omega) (by omega) (by omega) hp).1, (away_mul A _ (by omega) (by omega) (by omega) hp).2.1⟩
    generalize ((2 ^ k : Nat) : Int) = p at *
    have wA : -1099511627776 ≤ A ∧ A ≤ 1099511627776 := by omega
    unfold Cl.cells St.cells at *
    rw [← hk] at PW
    clear h64 h hz hA hU HU hk
    by_cases h0 : A < 0
    · have UP' := Lib.hid (UP h0)
      have MB' := MB h0
      clear UP MB UZ
      go_enter Try.func23, Try.ntmps23
      go_wp2_with fail
      refine (R.out _).mono ?_
      rintro e w2 ⟨rfl, t⟩
      have x0 := BoxV.of3.carry t (by simp)
      have X0 := Lib.hid x0
      have X1 := Lib.hid (BoxV.at1of3.carry t (by simp))
      have X2 := Lib.hid (BoxV.at2.carry t (by simp))
      have T := Lib.hid ((((Touch.refl [] _).alloc _).alloc _).alloc _ |>.trans t (by simp))
      have z0 := x0.cell 0
      have lt0 := x0.lt
      clear t x0
      go_wp2_with fail
      refine (refSub_any _ _ _).mono ?_
      rintro e w2 ⟨rfl, rfl⟩
      go_wp2_with fail
      refine (refSub_any _ _ _).mono ?_
      rintro e w2 ⟨rfl, rfl⟩
      generalize stepV s.avg (satSub (satSub now s.last) time) c.weight = B at *
      go_upto_region 4 with fail
      clear z0 lt0
      have a1 : ∀ x : Cls w2, x.val.cell? ⟨w.heap.size, 1, none⟩ = some (.int .i64 s.avg) := fun x => (X0.out.carry x.property (by simp)).cell 1
      have k0 : ∀ x : Cls w2, x.val.cell? ⟨w.heap.size + 1, 0, none⟩ = some (.int .i64 c.id) := fun x => (X1.out.carry x.property (by simp)).cell 0
      have k1 : ∀ x : Cls w2, x.val.cell? ⟨w.heap.size + 1, 1, none⟩ = some (.int .i64 c.parent) := fun x => (X1.out.carry x.property (by simp)).cell 1
      have k2 : ∀ x : Cls w2, x.val.cell? ⟨w.heap.size + 1, 2, none⟩ = some (.float .f64 c.share) := fun x => (X1.out.carry x.property (by simp)).cell 2
      have k3 : ∀ x : Cls w2, x.val.cell? ⟨w.heap.size + 1, 3, none⟩ = some (.int .i64 c.prio) := fun x => (X1.out.carry x.property (by simp)).cell 3
      have k4 : ∀ x : Cls w2, x.val.cell? ⟨w.heap.size + 1, 4, none⟩ = some (.int .i64 c.quantum) := fun x => (X1.out.carry x.property (by simp)).cell 4
      have k5 : ∀ x : Cls w2, x.val.cell? ⟨w.heap.size + 1, 5, none⟩ = some (.int .i64 c.limit) := fun x => (X1.out.carry x.property (by simp)).cell 5
      have k6 : ∀ x : Cls w2, x.val.cell? ⟨w.heap.size + 1, 6, none⟩ = some (.int .i64 c.weight) := fun x => (X1.out.carry x.property (by simp)).cell 6
      have k7 : ∀ x : Cls w2, x.val.cell? ⟨w.heap.size + 1, 7, none⟩ = some (.int .i64 c.minIdle) := fun x => (X1.out.carry x.property (by simp)).cell 7
      have k8 : ∀ x : Cls w2, x.val.cell? ⟨w.heap.size + 1, 8, none⟩ = some (.int .i64 c.maxIdle) := fun x => (X1.out.carry x.property (by simp)).cell 8
      have k9 : ∀ x : Cls w2, x.val.cell? ⟨w.heap.size + 1, 9, none⟩ = some (.bool c.bounded) := fun x => (X1.out.carry x.property (by simp)).cell 9
      have k10 : ∀ x : Cls w2, x.val.cell? ⟨w.heap.size + 1, 10, none⟩ = some (.bool c.isolated) := fun x => (X1.out.carry x.property (by simp)).cell 10
      refine wp_region_cls (wd := w2) (by kernel_rfl) (by kernel_rfl) ((Touch.refl _ _).drew) ?_
      repeat (first | go_big_quiet_step ((first | (go_at_call 54; exact Calls.cls_at (ST.out _)) | (go_at_call 53; exact Calls.cls_at (CL.out _)))) | quiet_step ((first | (go_at_call 54; exact Calls.cls_at (ST.out _)) | (go_at_call 53; exact Calls.cls_at (CL.out _)))))
      refine wpQuiet_nil ?_
      rintro _ ⟨y, rfl⟩
      clear a1 k0 k1 k2 k3 k4 k5 k7 k8 k9 k10
      have k6' := k6 y
      have ltc := (X1.out.carry y.property (by simp)).lt
      clear k6
      go_wp2_with fail
      refine (PW.out _).mono ?_
      rintro e wq ⟨rfl, hq⟩
      subst hq
      go_wp2_with fail
      refine (refAdd_any _ _ _).mono ?_
      rintro e wq ⟨rfl, hq⟩
      subst hq
      go_wp2_with fail
      refine (refAdd_any _ _ _).mono ?_
      rintro e wq ⟨rfl, hq⟩
      subst hq
      rw [UP'.out]
      go_wp2_with fail
      refine (refHold_any _ _).mono ?_
      rintro e wq ⟨rfl, hq⟩
      subst hq
      have y' := X2.out.carry y.property (by simp)
      have fz := y'.fr
      have y0 := y'.cell 0
      have y1 := y'.cell 1
      have y2 := y'.cell 2
      have lty := y'.lt
      have Y := Lib.hid y'
      clear y' k6' ltc
      go_wp2_with fail
      have Z : BoxV _ _ 44 #[.int .i64 (hold now), .int .i64 A, .int .i64 U] := ((Y.out.set 0 (.int .i64 (hold now))).set 1 (.int .i64 A)).set 2 (.int .i64 U)
      refine bodyPost_ret (ret_box rfl rfl Z Try.underlying44 rfl (by kernel_rfl)) rfl ⟨rfl, ?_⟩
      exact (((T.out.trans y.property (by simp)).setCell (by simp <;> omega) _).setCell (by simp <;> omega) _).setCell (by simp <;> omega) _
    · obtain rfl := UZ h0
      clear UP MB UZ
      go_enter Try.func23, Try.ntmps23
      go_wp2_with fail
      refine (R.out _).mono ?_
      rintro e w2 ⟨rfl, t⟩
      have x0 := BoxV.of3.carry t (by simp)
      have X0 := Lib.hid x0
      have X1 := Lib.hid (BoxV.at1of3.carry t (by simp))
      have X2 := Lib.hid (BoxV.at2.carry t (by simp))
      have T := Lib.hid ((((Touch.refl [] _).alloc _).alloc _).alloc _ |>.trans t (by simp))
      have z0 := x0.cell 0
      have lt0 := x0.lt
      clear t x0
      go_wp2_with fail
      refine (refSub_any _ _ _).mono ?_
      rintro e w2 ⟨rfl, rfl⟩
      go_wp2_with fail
      refine (refSub_any _ _ _).mono ?_
      rintro e w2 ⟨rfl, rfl⟩
      generalize stepV s.avg (satSub (satSub now s.last) time) c.weight = B at *
      go_upto_region 4 with fail
      clear z0 lt0
      have a1 : ∀ x : Cls w2, x.val.cell? ⟨w.heap.size, 1, none⟩ = some (.int .i64 s.avg) := fun x => (X0.out.carry x.property (by simp)).cell 1
      have k0 : ∀ x : Cls w2, x.val.cell? ⟨w.heap.size + 1, 0, none⟩ = some (.int .i64 c.id) := fun x => (X1.out.carry x.property (by simp)).cell 0
      have k1 : ∀ x : Cls w2, x.val.cell? ⟨w.heap.size + 1, 1, none⟩ = some (.int .i64 c.parent) := fun x => (X1.out.carry x.property (by simp)).cell 1
      have k2 : ∀ x : Cls w2, x.val.cell? ⟨w.heap.size + 1, 2, none⟩ = some (.float .f64 c.share) := fun x => (X1.out.carry x.property (by simp)).cell 2
      have k3 : ∀ x : Cls w2, x.val.cell? ⟨w.heap.size + 1, 3, none⟩ = some (.int .i64 c.prio) := fun x => (X1.out.carry x.property (by simp)).cell 3
      have k4 : ∀ x : Cls w2, x.val.cell? ⟨w.heap.size + 1, 4, none⟩ = some (.int .i64 c.quantum) := fun x => (X1.out.carry x.property (by simp)).cell 4
      have k5 : ∀ x : Cls w2, x.val.cell? ⟨w.heap.size + 1, 5, none⟩ = some (.int .i64 c.limit) := fun x => (X1.out.carry x.property (by simp)).cell 5
      have k6 : ∀ x : Cls w2, x.val.cell? ⟨w.heap.size + 1, 6, none⟩ = some (.int .i64 c.weight) := fun x => (X1.out.carry x.property (by simp)).cell 6
      have k7 : ∀ x : Cls w2, x.val.cell? ⟨w.heap.size + 1, 7, none⟩ = some (.int .i64 c.minIdle) := fun x => (X1.out.carry x.property (by simp)).cell 7
      have k8 : ∀ x : Cls w2, x.val.cell? ⟨w.heap.size + 1, 8, none⟩ = some (.int .i64 c.maxIdle) := fun x => (X1.out.carry x.property (by simp)).cell 8
      have k9 : ∀ x : Cls w2, x.val.cell? ⟨w.heap.size + 1, 9, none⟩ = some (.bool c.bounded) := fun x => (X1.out.carry x.property (by simp)).cell 9
      have k10 : ∀ x : Cls w2, x.val.cell? ⟨w.heap.size + 1, 10, none⟩ = some (.bool c.isolated) := fun x => (X1.out.carry x.property (by simp)).cell 10
      refine wp_region_cls (wd := w2) (by kernel_rfl) (by kernel_rfl) ((Touch.refl _ _).drew) ?_
      repeat (first | go_big_quiet_step ((first | (go_at_call 54; exact Calls.cls_at (ST.out _)) | (go_at_call 53; exact Calls.cls_at (CL.out _)))) | quiet_step ((first | (go_at_call 54; exact Calls.cls_at (ST.out _)) | (go_at_call 53; exact Calls.cls_at (CL.out _)))))
      refine wpQuiet_nil ?_
      rintro _ ⟨y, rfl⟩
      clear a1 k0 k1 k2 k3 k4 k5 k6 k7 k8 k9 k10
      go_wp2_with fail
      refine (refHold_any _ _).mono ?_
      rintro e wq ⟨rfl, hq⟩
      subst hq
      have y' := X2.out.carry y.property (by simp)
      have fz := y'.fr
      have y0 := y'.cell 0
      have y1 := y'.cell 1
      have y2 := y'.cell 2
      have lty := y'.lt
      have Y := Lib.hid y'
      clear y'
      go_wp2_with fail
      have Z : BoxV _ _ 44 #[.int .i64 (hold now), .int .i64 A, .int .i64 0] := ((Y.out.set 0 (.int .i64 (hold now))).set 1 (.int .i64 A)).set 2 (.int .i64 0)
      refine bodyPost_ret (ret_box rfl rfl Z Try.underlying44 rfl (by kernel_rfl)) rfl ⟨rfl, ?_⟩
      exact (((T.out.trans y.property (by simp)).setCell (by simp <;> omega) _).setCell (by simp <;> omega) _).setCell (by simp <;> omega) _
  · rw [if_neg h]
    have e : (rightV c != 0) = true := by simpa using h
    unfold Cl.cells St.cells at *
    generalize rightV c = rv at *
    clear h64 h
    go_enter Try.func23, Try.ntmps23
    go_wp2_with fail
    refine (R.out _).mono ?_
    rintro e w2 ⟨rfl, t⟩
    have y := BoxV.at2.carry t (by simp)
    have x := BoxV.of3.carry t (by simp)
    have fz := y.fr
    have y0 := y.cell 0
    have y1 := y.cell 1
    have y2 := y.cell 2
    have lty := y.lt
    have x0 := x.cell 0
    have x1 := x.cell 1
    have x2 := x.cell 2
    have ltx := x.lt
    have Y := Lib.hid y
    have T := Lib.hid ((((Touch.refl [] _).alloc _).alloc _).alloc _ |>.trans t (by simp))
    clear y t x
    go_wp2_with fail
    have Z : BoxV _ _ 44 #[.int .i64 s.last, .int .i64 s.avg, .int .i64 s.till] := ((Y.out.set 0 (.int .i64 s.last)).set 1 (.int .i64 s.avg)).set 2 (.int .i64 s.till)
    refine bodyPost_ret (ret_box rfl rfl Z Try.underlying44 rfl (by kernel_rfl)) rfl ⟨rfl, ?_⟩
    exact ((T.out.setCell (by simp <;> omega) _).setCell (by simp <;> omega) _).setCell (by simp <;> omega) _
end Go.Proofs.Ytinbicpefhnmnaa
