/-
  The contract of the reference's Mul, and of the law's own example (lives), but for its Part and Up.
-/
import Derived.Test.YtbhjljffcgfcdaaSatMul
namespace Go.Proofs.Ytbhjljffcgfcdaa
open Go.ChangeShapes Go.WideShapes Go.ChangeAt Go.RowKit Go.Joins
set_option linter.unusedVariables false

theorem hold_hold (x : Int) : hold (hold x) = hold x := hold_in (hold_bd x).1 (hold_bd x).2
theorem satMul_neg_left (a b : Int) : satMul (-hold a) (hold b) = -satMul a b := by
  unfold satMul
  rw [hold_neg, hold_hold, hold_hold, Int.neg_mul, hold_neg]
theorem satMul_neg_right (a b : Int) : satMul (hold a) (-hold b) = -satMul a b := by
  unfold satMul
  rw [hold_neg, hold_hold, hold_hold, Int.mul_neg, hold_neg]

theorem mul_above {x y : Int} (hy : 0 < y) (h : 1152921504606846976 / y < x) : 1152921504606846976 < x * y := by
  have h1 := Int.lt_ediv_add_one_mul_self 1152921504606846976 hy
  have h2 : (1152921504606846976 / y + 1) * y ≤ x * y := Int.mul_le_mul_of_nonneg_right (by omega) (by omega)
  omega
theorem mul_within {x y : Int} (hx : 0 ≤ x) (hy : 0 < y) (h : ¬ 1152921504606846976 / y < x) : 0 ≤ x * y ∧ x * y ≤ 1152921504606846976 := by
  have h1 := Int.ediv_mul_le 1152921504606846976 (show y ≠ 0 by omega)
  have h2 : x * y ≤ 1152921504606846976 / y * y := Int.mul_le_mul_of_nonneg_right (by omega) (by omega)
  exact ⟨Int.mul_nonneg hx (by omega), by omega⟩

end Go.Proofs.Ytbhjljffcgfcdaa
