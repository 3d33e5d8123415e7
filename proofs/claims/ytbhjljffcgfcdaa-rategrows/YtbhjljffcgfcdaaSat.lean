/-
  Contracts of the functions of layer 1 (sat) and of its reference, but for the division: each returns what a plain function gives.
-/
import Derived.Test.YtbhjljffcgfcdaaSatMath
import Derived.Lib.Mul64
import Derived.Laws.BitsAllLaws
namespace Go.Proofs.Ytbhjljffcgfcdaa
open Go.ChangeShapes Go.WideShapes Go.ChangeAt Go.RowKit


theorem hold_any (x : Int) (w : World) :
    Calls Try.prog 41 #[.int .i64 x] w fun e w' => e = .returned (.int .i64 (hold x)) ∧ w' = w := by
  by_cases h1 : 1152921504606846976 < x
  · go_enter Try.func41, Try.ntmps41
    go_wp2
    go_ret
    exact ⟨ret_int (hold_up (by omega)).symm, rfl⟩
  · by_cases h2 : x < -1152921504606846976
    all_goals
      go_enter Try.func41, Try.ntmps41
      go_wp2
      go_ret
      exact ⟨ret_int (by first | exact (hold_down (by omega)).symm | exact (hold_in (by omega) (by omega)).symm), rfl⟩

theorem most_any (w : World) :
    Calls Try.prog 56 #[] w fun e w' => e = .returned (.int .i64 1152921504606846976) ∧ w' = w := by
  go_enter Try.func56, Try.ntmps56
  go_wp2
  go_ret
  exact ⟨rfl, rfl⟩

theorem refHold_any (x : Int) (w : World) :
    Calls Try.prog 44 #[.int .i64 x] w fun e w' => e = .returned (.int .i64 (hold x)) ∧ w' = w := by
  by_cases h1 : 1152921504606846976 < x
  · go_enter Try.func44, Try.ntmps44
    go_wp2_with (go_at_call 56; refine (most_any _).mono ?_; rintro e w' ⟨rfl, rfl⟩)
    go_ret
    exact ⟨ret_int (hold_up (by omega)).symm, rfl⟩
  · by_cases h2 : x < -1152921504606846976
    all_goals
      go_enter Try.func44, Try.ntmps44
      go_wp2_with (go_at_call 56; refine (most_any _).mono ?_; rintro e w' ⟨rfl, rfl⟩)
      go_ret
      exact ⟨ret_int (by first | exact (hold_down (by omega)).symm | exact (hold_in (by omega) (by omega)).symm), rfl⟩

theorem add_any (a b : Int) (w : World) :
    Calls Try.prog 42 #[.int .i64 a, .int .i64 b] w fun e w' => e = .returned (.int .i64 (satAdd a b)) ∧ w' = w := by
  have ha := hold_bd a
  have hb := hold_bd b
  go_enter Try.func42, Try.ntmps42
  go_wp2_with (go_at_call 41; refine (hold_any _ _).mono ?_; rintro e w' ⟨rfl, rfl⟩)
  go_ret
  exact ⟨rfl, rfl⟩
theorem sub_any (a b : Int) (w : World) :
    Calls Try.prog 43 #[.int .i64 a, .int .i64 b] w fun e w' => e = .returned (.int .i64 (satSub a b)) ∧ w' = w := by
  have ha := hold_bd a
  have hb := hold_bd b
  go_enter Try.func43, Try.ntmps43
  go_wp2_with (go_at_call 41; refine (hold_any _ _).mono ?_; rintro e w' ⟨rfl, rfl⟩)
  go_ret
  exact ⟨rfl, rfl⟩
theorem refAdd_any (a b : Int) (w : World) :
    Calls Try.prog 45 #[.int .i64 a, .int .i64 b] w fun e w' => e = .returned (.int .i64 (satAdd a b)) ∧ w' = w := by
  have ha := hold_bd a
  have hb := hold_bd b
  go_enter Try.func45, Try.ntmps45
  go_wp2_with (go_at_call 44; refine (refHold_any _ _).mono ?_; rintro e w' ⟨rfl, rfl⟩)
  go_ret
  exact ⟨rfl, rfl⟩
theorem refSub_any (a b : Int) (w : World) :
    Calls Try.prog 46 #[.int .i64 a, .int .i64 b] w fun e w' => e = .returned (.int .i64 (satSub a b)) ∧ w' = w := by
  have ha := hold_bd a
  have hb := hold_bd b
  go_enter Try.func46, Try.ntmps46
  go_wp2_with (go_at_call 44; refine (refHold_any _ _).mono ?_; rintro e w' ⟨rfl, rfl⟩)
  go_ret
  exact ⟨rfl, rfl⟩
end Go.Proofs.Ytbhjljffcgfcdaa
