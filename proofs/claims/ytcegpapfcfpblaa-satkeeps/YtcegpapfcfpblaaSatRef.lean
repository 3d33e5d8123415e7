/-
  The contract of the reference's Mul, and of the law's own example (lives), but for its Part and Up.
-/
import Derived.Test.YtcegpapfcfpblaaSatMul
namespace Go.Proofs.Ytcegpapfcfpblaa
open Go.ChangeShapes Go.WideShapes Go.ChangeAt Go.RowKit Go.Joins
set_option linter.unusedVariables false

theorem hold_hold (x : Int) : hold (hold x) = hold x := hold_in (hold_bd x).1 (hold_bd x).2
theorem satMul_neg_left (a b : Int) : satMul (-hold a) (hold b) = -satMul a b := by
  unfold satMul
  rw [hold_neg, hold_hold, hold_hold, Int.neg_mul, hold_neg]
theorem satMul_neg_right (a b : Int) : satMul (hold a) (-hold b) = -satMul a b := by
  unfold satMul
  rw [hold_neg, hold_hold, hold_hold, Int.mul_neg, hold_neg]

theorem mul_above {x y : Int} (hy : 0 < y) (h : 1152921504606846976 / y < x) : 1152921504606846976 < x * y := by
  have h1 := Int.lt_ediv_add_one_mul_self 1152921504606846976 hy
  have h2 : (1152921504606846976 / y + 1) * y ≤ x * y := Int.mul_le_mul_of_nonneg_right (by omega) (by omega)
  omega
theorem mul_within {x y : Int} (hx : 0 ≤ x) (hy : 0 < y) (h : ¬ 1152921504606846976 / y < x) : 0 ≤ x * y ∧ x * y ≤ 1152921504606846976 := by
  have h1 := Int.ediv_mul_le 1152921504606846976 (show y ≠ 0 by omega)
  have h2 : x * y ≤ 1152921504606846976 / y * y := Int.mul_le_mul_of_nonneg_right (by omega) (by omega)
  exact ⟨Int.mul_nonneg hx (by omega), by omega⟩

set_option maxHeartbeats 1000000 in
theorem refMul_pos (a b : Int) (w : World) (ha : 0 ≤ hold a) (hb : 0 ≤ hold b) :
    Calls Try.prog 20 #[.int .i64 a, .int .i64 b] w fun e w' => e = .returned (.int .i64 (satMul a b)) ∧ w' = w := by
  have hm : satMul a b = hold (hold a * hold b) := rfl
  have hx := hold_bd a
  have hy := hold_bd b
  have h1 := fun w => refHold_any a w
  have h2 := fun w => refHold_any b w
  have H1 := Lib.hid h1
  have H2 := Lib.hid h2
  have HM := Lib.hid hm
  clear h1 h2 hm
  generalize satMul a b = r at *
  generalize hold a = x at *
  generalize hold b = y at *
  by_cases h0 : 0 < y
  · by_cases hd : 1152921504606846976 / y < x
    · have hr := hold_up (Int.le_of_lt (mul_above h0 hd))
      have HR := Lib.hid hr
      clear hr
      go_enter Try.func20, Try.ntmps20
      go_wp2_with fail
      refine (H1.out _).mono ?_
      rintro e w' ⟨rfl, rfl⟩
      go_wp2_with fail
      refine (H2.out _).mono ?_
      rintro e w' ⟨rfl, rfl⟩
      go_wp2_with (go_at_call 45; refine (most_any _).mono ?_; rintro e w' ⟨rfl, rfl⟩)
      go_ret
      exact ⟨ret_int (by rw [HM.out, HR.out]), rfl⟩
    · have hp := mul_within ha h0 hd
      have hr := hold_in (x := x * y) (by omega) hp.2
      have HR := Lib.hid hr
      clear hr
      go_enter Try.func20, Try.ntmps20
      go_wp2_with fail
      refine (H1.out _).mono ?_
      rintro e w' ⟨rfl, rfl⟩
      go_wp2_with fail
      refine (H2.out _).mono ?_
      rintro e w' ⟨rfl, rfl⟩
      go_wp2_with (go_at_call 45; refine (most_any _).mono ?_; rintro e w' ⟨rfl, rfl⟩)
      go_ret
      exact ⟨ret_int (by rw [HM.out, HR.out]), rfl⟩
  · obtain rfl : y = 0 := by omega
    have hr : hold (x * 0) = 0 := by rw [Int.mul_zero]; exact hold_in (by omega) (by omega)
    have HR := Lib.hid hr
    clear hr
    go_enter Try.func20, Try.ntmps20
    go_wp2_with fail
    refine (H1.out _).mono ?_
    rintro e w' ⟨rfl, rfl⟩
    go_wp2_with fail
    refine (H2.out _).mono ?_
    rintro e w' ⟨rfl, rfl⟩
    go_wp2_with (go_at_call 45; refine (most_any _).mono ?_; rintro e w' ⟨rfl, rfl⟩)
    go_ret
    exact ⟨ret_int (by rw [HM.out, HR.out]), rfl⟩

theorem refMul_right (a b : Int) (w : World) (ha : 0 ≤ hold a) :
    Calls Try.prog 20 #[.int .i64 a, .int .i64 b] w fun e w' => e = .returned (.int .i64 (satMul a b)) ∧ w' = w := by
  by_cases hb : 0 ≤ hold b
  · exact refMul_pos a b w ha hb
  · have hx := hold_bd a
    have hy := hold_bd b
    have hm := satMul_neg_right a b
    have hs := hold_bd (hold a * hold b)
    have hs' : -1152921504606846976 ≤ satMul a b ∧ satMul a b ≤ 1152921504606846976 := hs
    have C := fun w => refMul_pos (hold a) (-hold b) w (by rw [hold_hold]; exact ha) (by rw [hold_neg, hold_hold]; omega)
    have HC := Lib.hid C
    have h1 := fun w => refHold_any a w
    have h2 := fun w => refHold_any b w
    have H1 := Lib.hid h1
    have H2 := Lib.hid h2
    have HM := Lib.hid hm
    clear h1 h2 hm hs C
    generalize satMul (hold a) (-hold b) = s at *
    generalize satMul a b = r at *
    generalize hold a = x at *
    generalize hold b = y at *
    have HMo := HM.out
    have bs : -1152921504606846976 ≤ s ∧ s ≤ 1152921504606846976 := by omega
    clear HMo
    go_enter Try.func20, Try.ntmps20
    go_wp2_with fail
    refine (H1.out _).mono ?_
    rintro e w' ⟨rfl, rfl⟩
    go_wp2_with fail
    refine (H2.out _).mono ?_
    rintro e w' ⟨rfl, rfl⟩
    go_wp2_with fail
    refine (HC.out _).mono ?_
    rintro e w' ⟨rfl, rfl⟩
    go_wp2_with fail
    go_ret
    exact ⟨ret_int (by rw [HM.out]; omega), rfl⟩

theorem refMul_any (a b : Int) (w : World) :
    Calls Try.prog 20 #[.int .i64 a, .int .i64 b] w fun e w' => e = .returned (.int .i64 (satMul a b)) ∧ w' = w := by
  by_cases ha : 0 ≤ hold a
  · exact refMul_right a b w ha
  · have hx := hold_bd a
    have hy := hold_bd b
    have hm := satMul_neg_left a b
    have hs := hold_bd (hold a * hold b)
    have hs' : -1152921504606846976 ≤ satMul a b ∧ satMul a b ≤ 1152921504606846976 := hs
    have C := fun w => refMul_right (-hold a) (hold b) w (by rw [hold_neg, hold_hold]; omega)
    have HC := Lib.hid C
    have h1 := fun w => refHold_any a w
    have h2 := fun w => refHold_any b w
    have H1 := Lib.hid h1
    have H2 := Lib.hid h2
    have HM := Lib.hid hm
    clear h1 h2 hm hs C
    generalize satMul (-hold a) (hold b) = s at *
    generalize satMul a b = r at *
    generalize hold a = x at *
    generalize hold b = y at *
    have HMo := HM.out
    have bs : -1152921504606846976 ≤ s ∧ s ≤ 1152921504606846976 := by omega
    clear HMo
    go_enter Try.func20, Try.ntmps20
    go_wp2_with fail
    refine (H1.out _).mono ?_
    rintro e w' ⟨rfl, rfl⟩
    go_wp2_with fail
    refine (H2.out _).mono ?_
    rintro e w' ⟨rfl, rfl⟩
    go_wp2_with fail
    refine (HC.out _).mono ?_
    rintro e w' ⟨rfl, rfl⟩
    go_wp2_with fail
    go_ret
    exact ⟨ret_int (by rw [HM.out]; omega), rfl⟩
end Go.Proofs.Ytcegpapfcfpblaa
