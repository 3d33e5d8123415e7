/-
  Contracts of the functions of layer 1 (sat) and of its reference, but for the division: each returns what a plain function gives.
-/
import Derived.Test.YtcegpapfcfpblaaSatMath
import Derived.Lib.Mul64
import Derived.Laws.BitsAllLaws
namespace Go.Proofs.Ytcegpapfcfpblaa
open Go.ChangeShapes Go.WideShapes Go.ChangeAt Go.RowKit

theorem ret_int {k : IntKind} {a b : Int} (h : a = b) : Ending.returned (.int k a) = .returned (.int k b) := by rw [h]
theorem ret_bool {a b : Bool} (h : a = b) : Ending.returned (.bool a) = .returned (.bool b) := by rw [h]

theorem hold_any (x : Int) (w : World) :
    Calls Try.prog 13 #[.int .i64 x] w fun e w' => e = .returned (.int .i64 (hold x)) ∧ w' = w := by
  by_cases h1 : 1152921504606846976 < x
  · go_enter Try.func13, Try.ntmps13
    go_wp2
    go_ret
    exact ⟨ret_int (hold_up (by omega)).symm, rfl⟩
  · by_cases h2 : x < -1152921504606846976
    all_goals
      go_enter Try.func13, Try.ntmps13
      go_wp2
      go_ret
      exact ⟨ret_int (by first | exact (hold_down (by omega)).symm | exact (hold_in (by omega) (by omega)).symm), rfl⟩

theorem most_any (w : World) :
    Calls Try.prog 45 #[] w fun e w' => e = .returned (.int .i64 1152921504606846976) ∧ w' = w := by
  go_enter Try.func45, Try.ntmps45
  go_wp2
  go_ret
  exact ⟨rfl, rfl⟩

theorem refHold_any (x : Int) (w : World) :
    Calls Try.prog 14 #[.int .i64 x] w fun e w' => e = .returned (.int .i64 (hold x)) ∧ w' = w := by
  by_cases h1 : 1152921504606846976 < x
  · go_enter Try.func14, Try.ntmps14
    go_wp2_with (go_at_call 45; refine (most_any _).mono ?_; rintro e w' ⟨rfl, rfl⟩)
    go_ret
    exact ⟨ret_int (hold_up (by omega)).symm, rfl⟩
  · by_cases h2 : x < -1152921504606846976
    all_goals
      go_enter Try.func14, Try.ntmps14
      go_wp2_with (go_at_call 45; refine (most_any _).mono ?_; rintro e w' ⟨rfl, rfl⟩)
      go_ret
      exact ⟨ret_int (by first | exact (hold_down (by omega)).symm | exact (hold_in (by omega) (by omega)).symm), rfl⟩

theorem add_any (a b : Int) (w : World) :
    Calls Try.prog 15 #[.int .i64 a, .int .i64 b] w fun e w' => e = .returned (.int .i64 (satAdd a b)) ∧ w' = w := by
  have ha := hold_bd a
  have hb := hold_bd b
  go_enter Try.func15, Try.ntmps15
  go_wp2_with (go_at_call 13; refine (hold_any _ _).mono ?_; rintro e w' ⟨rfl, rfl⟩)
  go_ret
  exact ⟨rfl, rfl⟩
theorem sub_any (a b : Int) (w : World) :
    Calls Try.prog 17 #[.int .i64 a, .int .i64 b] w fun e w' => e = .returned (.int .i64 (satSub a b)) ∧ w' = w := by
  have ha := hold_bd a
  have hb := hold_bd b
  go_enter Try.func17, Try.ntmps17
  go_wp2_with (go_at_call 13; refine (hold_any _ _).mono ?_; rintro e w' ⟨rfl, rfl⟩)
  go_ret
  exact ⟨rfl, rfl⟩
theorem refAdd_any (a b : Int) (w : World) :
    Calls Try.prog 16 #[.int .i64 a, .int .i64 b] w fun e w' => e = .returned (.int .i64 (satAdd a b)) ∧ w' = w := by
  have ha := hold_bd a
  have hb := hold_bd b
  go_enter Try.func16, Try.ntmps16
  go_wp2_with (go_at_call 14; refine (refHold_any _ _).mono ?_; rintro e w' ⟨rfl, rfl⟩)
  go_ret
  exact ⟨rfl, rfl⟩
theorem refSub_any (a b : Int) (w : World) :
    Calls Try.prog 18 #[.int .i64 a, .int .i64 b] w fun e w' => e = .returned (.int .i64 (satSub a b)) ∧ w' = w := by
  have ha := hold_bd a
  have hb := hold_bd b
  go_enter Try.func18, Try.ntmps18
  go_wp2_with (go_at_call 14; refine (refHold_any _ _).mono ?_; rintro e w' ⟨rfl, rfl⟩)
  go_ret
  exact ⟨rfl, rfl⟩
end Go.Proofs.Ytcegpapfcfpblaa
