/-
  Contracts of the reference of layer 25 (idle).
-/
import Derived.Test.YtinbicpefhnmnaaIdle3
import Derived.Test.YtinbicpefhnmnaaClassRef
namespace Go.Proofs.Ytinbicpefhnmnaa
open Go.ChangeShapes Go.WideShapes Go.ChangeAt Go.RowKit Go.Joins Go.Deep
set_option linter.unusedVariables false

theorem refWithin25 (a : Int) (c : Cl) (h : c.minIdle ≤ c.maxIdle) (w : World) : Calls Try.prog 53 #[.int .i64 a, .agg c.cells] w fun e w' => e = .returned (.int .i64 (clampV c a)) ∧ Touch [] w w' := by
  unfold Cl.cells
  have e : clampV c a = min (max a c.minIdle) c.maxIdle := rfl
  rw [e]
  by_cases h1 : a < c.minIdle
  · go_enter Try.func53, Try.ntmps53
    go_wp2
    go_ret
    exact ⟨ret_int (by omega), (Touch.refl _ _).alloc _⟩
  by_cases h2 : c.maxIdle < a
  all_goals
    go_enter Try.func53, Try.ntmps53
    go_wp2
    go_ret
    exact ⟨ret_int (by omega), (Touch.refl _ _).alloc _⟩

theorem refPower25 (n : Nat) (hn : n ≤ 16) (w : World) : Calls Try.prog 56 #[.int .i64 n] w fun e w' => e = .returned (.int .i64 ((2 ^ n : Nat) : Int)) ∧ w = w' := by
  go_enter Try.func56, Try.ntmps56
  go_wp2
  go_loop [3, 4] (fun v i => ∃ k : Nat, k ≤ n ∧ i = .int .i64 k ∧ v = .int .i64 ((2 ^ k : Nat) : Int)) (fun _ i => n - (intOf i).toNat)
  case atStart => exact ⟨0, Nat.zero_le _, rfl, rfl⟩
  case round =>
    obtain ⟨k, hk, rfl, rfl⟩ := hrel
    by_cases hlt : k < n
    · have hp : ((2 ^ k : Nat) : Int) ≤ 65536 := by have := Nat.pow_le_pow_right (n := 2) (by omega) (show k ≤ 16 by omega); omega
      have h0 := pow_pos2 k
      have HN := Lib.hid (show ((2 ^ (k + 1) : Nat) : Int) = 2 * ((2 ^ k : Nat) : Int) by rw [Nat.pow_succ]; omega)
      generalize ((2 ^ k : Nat) : Int) = p at *
      go_wp2
      go_round
      case rel => exact ⟨k + 1, by omega, by go_num, by rw [HN.out]⟩
      case measure => simp [intOf]; omega
    · obtain rfl : k = n := by omega
      go_wp2
      go_ret
      exact ⟨rfl, rfl⟩

theorem refOver25 (s : St) (now : Int) (w : World) : Calls Try.prog 29 #[.agg s.cells, .int .i64 now] w fun e w' => e = .returned (.bool (overV s now)) ∧ Touch [] w w' := by
  unfold St.cells overV
  by_cases h : now < s.till
  · rw [decide_eq_true h]
    go_enter Try.func29, Try.ntmps29
    go_wp2
    go_ret
    exact ⟨ret_bool (by simp), (Touch.refl _ _).alloc _⟩
  · rw [decide_eq_false h]
    go_enter Try.func29, Try.ntmps29
    go_wp2
    go_ret
    exact ⟨ret_bool (by simp), (Touch.refl _ _).alloc _⟩

theorem satSub_pos {a b : Int} (h : b ≤ a) : 0 ≤ satSub a b := by
  have := hold_mono h
  unfold satSub
  have e := hold_mono (x := 0) (y := hold a - hold b) (by omega)
  rwa [hold_in (by omega) (by omega)] at e
theorem refLeft25 (s : St) (now : Int) (w : World) : Calls Try.prog 31 #[.agg s.cells, .int .i64 now] w fun e w' => e = .returned (.int .i64 (leftV s now)) ∧ Touch [] w w' := by
  unfold St.cells leftV
  by_cases h : now < s.till
  · rw [if_pos h]
    have hp := satSub_pos (a := s.till) (b := now) (by omega)
    have SU := Lib.hid (fun w => refSub_any s.till now w)
    generalize satSub s.till now = r at *
    go_enter Try.func31, Try.ntmps31
    go_wp2_with fail
    refine (SU.out _).mono ?_
    rintro e w' ⟨rfl, rfl⟩
    go_wp2_with fail
    go_ret
    exact ⟨rfl, (Touch.refl _ _).alloc _⟩
  · rw [if_neg h]
    go_enter Try.func31, Try.ntmps31
    go_wp2_with fail
    go_ret
    exact ⟨rfl, (Touch.refl _ _).alloc _⟩

theorem refStepT (avg x wt : Int) (w : World) : Calls Try.prog 54 #[.int .i64 avg, .int .i64 x, .int .i64 wt] w fun e w' => e = .returned (.int .i64 (stepV avg x wt)) ∧ Touch [] w w' :=
  (refStep_any avg x wt w).mono fun e w' ⟨h1, h2⟩ => ⟨h1, by rw [← h2]; exact Touch.refl _ _⟩
theorem refHoldT (x : Int) (w : World) : Calls Try.prog 57 #[.int .i64 x] w fun e w' => e = .returned (.int .i64 (hold x)) ∧ Touch [] w w' :=
  (refHold_any x w).mono fun e w' ⟨h1, h2⟩ => ⟨h1, by rw [← h2]; exact Touch.refl _ _⟩

set_option maxHeartbeats 2000000 in
theorem refNew25 (c : Cl) (h64 : c.share < 18446744073709551616) (now : Int) (w : World) : Calls Try.prog 25 #[.agg c.cells, .int .i64 now] w fun e w' => e = .returned (.agg (newV c now).cells) ∧ Touch [] w w' := by
  have R := Lib.hid (fun w => refRight_any c h64 w)
  unfold newV
  by_cases h : rightV c = 0
  · rw [if_pos h]
    rw [h] at R
    have HO := Lib.hid (fun w => refHoldT now w)
    unfold Cl.cells St.cells at *
    clear h64 h
    go_enter Try.func25, Try.ntmps25
    go_wp2_with fail
    refine (R.out _).mono ?_
    rintro e w2 ⟨rfl, t⟩
    have X0 := Lib.hid (BoxV.of2.carry t (by simp))
    have X1 := Lib.hid (BoxV.at1.carry t (by simp))
    have T := Lib.hid (((Touch.refl [] _).alloc _).alloc _ |>.trans t (by simp))
    clear t
    have k8 : ∀ x : Cls w2, x.val.cell? ⟨w.heap.size, 8, none⟩ = some (.int .i64 c.maxIdle) := fun x => (X0.out.carry x.property (by simp)).cell 8
    go_upto_region 3 with fail
    refine wp_region_tail (wd := w2) 5 (by kernel_rfl) (by kernel_rfl) ((Touch.refl _ _).drew) ?_
    simp only [List.take_succ_cons, List.take_zero, List.drop_succ_cons, List.drop_zero]
    repeat (first | go_big_quiet_step ((go_at_call 57; exact Calls.cls_at (HO.out _))) | quiet_step ((go_at_call 57; exact Calls.cls_at (HO.out _))))
    refine wpQuiet_nil ?_
    intro x
    have y := X1.out.carry x.property (by simp)
    have fz := y.fr
    have y0 := y.cell 0
    have y1 := y.cell 1
    have y2 := y.cell 2
    have lty := y.lt
    have Y := Lib.hid y
    clear y k8
    go_wp2_with fail
    have Z : BoxV _ _ 44 #[.int .i64 (hold now), .int .i64 c.maxIdle, .int .i64 0] := ((Y.out.set 0 (.int .i64 (hold now))).set 1 (.int .i64 c.maxIdle)).set 2 (.int .i64 0)
    refine bodyPost_ret (ret_box rfl rfl Z Try.underlying44 rfl (by kernel_rfl)) rfl ⟨rfl, ?_⟩
    exact (((T.out.trans x.property (by simp)).setCell (by simp) _).setCell (by simp) _).setCell (by simp) _
  · rw [if_neg h]
    have e : (rightV c != 0) = true := by simpa using h
    unfold Cl.cells St.cells at *
    generalize rightV c = rv at *
    clear h64 h
    go_enter Try.func25, Try.ntmps25
    go_wp2_with fail
    refine (R.out _).mono ?_
    rintro e w2 ⟨rfl, t⟩
    have y := BoxV.at1.carry t (by simp)
    have fz := y.fr
    have y0 := y.cell 0
    have y1 := y.cell 1
    have y2 := y.cell 2
    have lty := y.lt
    have Y := Lib.hid y
    have T := Lib.hid (((Touch.refl [] _).alloc _).alloc _ |>.trans t (by simp))
    clear y t
    go_wp2_with fail
    have Z : BoxV _ _ 44 #[.int .i64 0, .int .i64 0, .int .i64 0] := ((Y.out.set 0 (.int .i64 0)).set 1 (.int .i64 0)).set 2 (.int .i64 0)
    refine bodyPost_ret (ret_box rfl rfl Z Try.underlying44 rfl (by kernel_rfl)) rfl ⟨rfl, ?_⟩
    exact ((T.out.setCell (by simp) _).setCell (by simp) _).setCell (by simp) _

set_option maxHeartbeats 4000000 in
theorem refCarry25 (c : Cl) (h64 : c.share < 18446744073709551616) (s : St) (w : World) : Calls Try.prog 27 #[.agg s.cells, .agg c.cells] w fun e w' => e = .returned (.agg (carryV c s).cells) ∧ Touch [] w w' := by
  have R := Lib.hid (fun w => refRight_any c h64 w)
  unfold carryV
  by_cases h : rightV c = 0
  · rw [if_pos h]
    rw [h] at R
    have hz := right_zero h
    have CL := Lib.hid (fun w => refWithin25 s.avg c (by omega) w)
    generalize clampV c s.avg = A at *
    unfold Cl.cells St.cells at *
    clear h64 h hz
    go_enter Try.func27, Try.ntmps27
    go_wp2_with fail
    refine (R.out _).mono ?_
    rintro e w2 ⟨rfl, t⟩
    have X0 := Lib.hid (BoxV.of3.carry t (by simp))
    have X1 := Lib.hid (BoxV.at1of3.carry t (by simp))
    have X2 := Lib.hid (BoxV.at2.carry t (by simp))
    have T := Lib.hid ((((Touch.refl [] _).alloc _).alloc _).alloc _ |>.trans t (by simp))
    clear t
    go_upto_region 3 with fail
    have a0 : ∀ x : Cls w2, x.val.cell? ⟨w.heap.size, 0, none⟩ = some (.int .i64 s.last) := fun x => (X0.out.carry x.property (by simp)).cell 0
    have a1 : ∀ x : Cls w2, x.val.cell? ⟨w.heap.size, 1, none⟩ = some (.int .i64 s.avg) := fun x => (X0.out.carry x.property (by simp)).cell 1
    have a2 : ∀ x : Cls w2, x.val.cell? ⟨w.heap.size, 2, none⟩ = some (.int .i64 s.till) := fun x => (X0.out.carry x.property (by simp)).cell 2
    have k0 : ∀ x : Cls w2, x.val.cell? ⟨w.heap.size + 1, 0, none⟩ = some (.int .i64 c.id) := fun x => (X1.out.carry x.property (by simp)).cell 0
    have k1 : ∀ x : Cls w2, x.val.cell? ⟨w.heap.size + 1, 1, none⟩ = some (.int .i64 c.parent) := fun x => (X1.out.carry x.property (by simp)).cell 1
    have k2 : ∀ x : Cls w2, x.val.cell? ⟨w.heap.size + 1, 2, none⟩ = some (.float .f64 c.share) := fun x => (X1.out.carry x.property (by simp)).cell 2
    have k3 : ∀ x : Cls w2, x.val.cell? ⟨w.heap.size + 1, 3, none⟩ = some (.int .i64 c.prio) := fun x => (X1.out.carry x.property (by simp)).cell 3
    have k4 : ∀ x : Cls w2, x.val.cell? ⟨w.heap.size + 1, 4, none⟩ = some (.int .i64 c.quantum) := fun x => (X1.out.carry x.property (by simp)).cell 4
    have k5 : ∀ x : Cls w2, x.val.cell? ⟨w.heap.size + 1, 5, none⟩ = some (.int .i64 c.limit) := fun x => (X1.out.carry x.property (by simp)).cell 5
    have k6 : ∀ x : Cls w2, x.val.cell? ⟨w.heap.size + 1, 6, none⟩ = some (.int .i64 c.weight) := fun x => (X1.out.carry x.property (by simp)).cell 6
    have k7 : ∀ x : Cls w2, x.val.cell? ⟨w.heap.size + 1, 7, none⟩ = some (.int .i64 c.minIdle) := fun x => (X1.out.carry x.property (by simp)).cell 7
    have k8 : ∀ x : Cls w2, x.val.cell? ⟨w.heap.size + 1, 8, none⟩ = some (.int .i64 c.maxIdle) := fun x => (X1.out.carry x.property (by simp)).cell 8
    have k9 : ∀ x : Cls w2, x.val.cell? ⟨w.heap.size + 1, 9, none⟩ = some (.bool c.bounded) := fun x => (X1.out.carry x.property (by simp)).cell 9
    have k10 : ∀ x : Cls w2, x.val.cell? ⟨w.heap.size + 1, 10, none⟩ = some (.bool c.isolated) := fun x => (X1.out.carry x.property (by simp)).cell 10
    refine wp_region_tail (wd := w2) 9 (by kernel_rfl) (by kernel_rfl) ((Touch.refl _ _).drew) ?_
    simp only [List.take_succ_cons, List.take_zero, List.drop_succ_cons, List.drop_zero]
    repeat (first | go_big_quiet_step ((go_at_call 53; exact Calls.cls_at (CL.out _))) | quiet_step ((go_at_call 53; exact Calls.cls_at (CL.out _))))
    refine wpQuiet_nil ?_
    intro x
    clear a0 a1 a2 k0 k1 k2 k3 k4 k5 k6 k7 k8 k9 k10
    have y := X2.out.carry x.property (by simp)
    have fz := y.fr
    have y0 := y.cell 0
    have y1 := y.cell 1
    have y2 := y.cell 2
    have lty := y.lt
    have Y := Lib.hid y
    clear y
    go_wp2_with fail
    have Z : BoxV _ _ 44 #[.int .i64 s.last, .int .i64 A, .int .i64 s.till] := ((Y.out.set 0 (.int .i64 s.last)).set 1 (.int .i64 A)).set 2 (.int .i64 s.till)
    refine bodyPost_ret (ret_box rfl rfl Z Try.underlying44 rfl (by kernel_rfl)) rfl ⟨rfl, ?_⟩
    exact ((((T.out.trans x.property (by simp)).setCell (by simp <;> omega) _).setCell (by simp <;> omega) _).setCell (by simp <;> omega) _)
  · rw [if_neg h]
    have e : (rightV c != 0) = true := by simpa using h
    unfold Cl.cells St.cells at *
    generalize rightV c = rv at *
    clear h64 h
    go_enter Try.func27, Try.ntmps27
    go_wp2_with fail
    refine (R.out _).mono ?_
    rintro e w2 ⟨rfl, t⟩
    have y := BoxV.at2.carry t (by simp)
    have x := BoxV.of3.carry t (by simp)
    have fz := y.fr
    have y0 := y.cell 0
    have y1 := y.cell 1
    have y2 := y.cell 2
    have lty := y.lt
    have x0 := x.cell 0
    have x1 := x.cell 1
    have x2 := x.cell 2
    have ltx := x.lt
    have Y := Lib.hid y
    have T := Lib.hid ((((Touch.refl [] _).alloc _).alloc _).alloc _ |>.trans t (by simp))
    clear y t x
    go_wp2_with fail
    have Z : BoxV _ _ 44 #[.int .i64 s.last, .int .i64 s.avg, .int .i64 s.till] := ((Y.out.set 0 (.int .i64 s.last)).set 1 (.int .i64 s.avg)).set 2 (.int .i64 s.till)
    refine bodyPost_ret (ret_box rfl rfl Z Try.underlying44 rfl (by kernel_rfl)) rfl ⟨rfl, ?_⟩
    exact ((T.out.setCell (by simp <;> omega) _).setCell (by simp <;> omega) _).setCell (by simp <;> omega) _
end Go.Proofs.Ytinbicpefhnmnaa
