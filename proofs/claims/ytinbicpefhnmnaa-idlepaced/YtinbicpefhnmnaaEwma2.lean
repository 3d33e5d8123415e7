/-
  Contracts of layer 2 (ewma) and of its reference: steps again and again, Away, and the law's own example.
-/
import Derived.Test.YtinbicpefhnmnaaEwma
namespace Go.Proofs.Ytinbicpefhnmnaa
open Go.ChangeShapes Go.WideShapes Go.ChangeAt Go.RowKit
set_option linter.unusedVariables false

theorem refStep_any (avg x w : Int) (wd : World) :
    Calls Try.prog 54 #[.int .i64 avg, .int .i64 x, .int .i64 w] wd fun e w' => e = .returned (.int .i64 (stepV avg x w)) ∧ wd = w' := by
  have hb : -1152921504606846976 ≤ satSub x avg ∧ satSub x avg ≤ 1152921504606846976 := hold_bd _
  by_cases h : 0 ≤ w ∧ w ≤ 16
  · rw [stepV_yes h]
    go_enter Try.func54, Try.ntmps54
    go_wp2_with fail
    refine (refSub_any _ _ _).mono ?_
    rintro e w' ⟨rfl, rfl⟩
    go_wp2_with fail
    refine (refFloor_any _ _ _ (by omega)).mono ?_
    rintro e w' ⟨rfl, rfl⟩
    go_wp2_with fail
    refine (refAdd_any _ _ _).mono ?_
    rintro e w' ⟨rfl, rfl⟩
    go_wp2_with fail
    go_ret
    exact ⟨rfl, rfl⟩
  · rw [stepV_no h]
    by_cases h1 : w < 0
    all_goals
      go_enter Try.func54, Try.ntmps54
      go_wp2_with fail
      refine (refHold_any _ _).mono ?_
      rintro e w' ⟨rfl, rfl⟩
      go_wp2_with fail
      go_ret
      exact ⟨rfl, rfl⟩

/-- How often Rest steps. -/
def times (n : Int) : Nat := (min n 1000).toNat
theorem times_up {n : Int} (h : 1000 < n) : times n = 1000 := by unfold times; omega
theorem times_in {n : Int} (h : 0 ≤ n) (h' : n ≤ 1000) : (times n : Int) = n := by unfold times; omega
theorem times_down {n : Int} (h : n ≤ 0) : times n = 0 := by unfold times; omega

end Go.Proofs.Ytinbicpefhnmnaa
