/-
  Contracts of sat.Hold, Add, Sub and of their references; the world keeps its name.
-/
import Derived.Test.YtbppccmkmpgibaaSatMath
import Derived.Test.YtbppccmkmpgibaaMem
namespace Go.Proofs.Ytbppccmkmpgibaa
open Go.ChangeShapes Go.WideShapes Go.ChangeAt Go.RowKit

theorem hold_any' (x : Int) (w : World) :
    Calls Try.prog 38 #[.int .i64 x] w fun e w' => e = .returned (.int .i64 (hold x)) ∧ w = w' := by
  by_cases h1 : 1152921504606846976 < x
  · go_enter Try.func38, Try.ntmps38
    go_wp2
    go_ret
    exact ⟨ret_int (hold_up (by omega)).symm, rfl⟩
  · by_cases h2 : x < -1152921504606846976
    all_goals
      go_enter Try.func38, Try.ntmps38
      go_wp2
      go_ret
      exact ⟨ret_int (by first | exact (hold_down (by omega)).symm | exact (hold_in (by omega) (by omega)).symm), rfl⟩
theorem add_any' (a b : Int) (w : World) :
    Calls Try.prog 33 #[.int .i64 a, .int .i64 b] w fun e w' => e = .returned (.int .i64 (satAdd a b)) ∧ w = w' := by
  have ha := hold_bd a
  have hb := hold_bd b
  go_enter Try.func33, Try.ntmps33
  go_wp2_with (go_at_call 38; refine (hold_any' _ _).mono ?_; rintro e w' ⟨rfl, rfl⟩)
  go_ret
  exact ⟨rfl, rfl⟩
theorem sub_any' (a b : Int) (w : World) :
    Calls Try.prog 35 #[.int .i64 a, .int .i64 b] w fun e w' => e = .returned (.int .i64 (satSub a b)) ∧ w = w' := by
  have ha := hold_bd a
  have hb := hold_bd b
  go_enter Try.func35, Try.ntmps35
  go_wp2_with (go_at_call 38; refine (hold_any' _ _).mono ?_; rintro e w' ⟨rfl, rfl⟩)
  go_ret
  exact ⟨rfl, rfl⟩
end Go.Proofs.Ytbppccmkmpgibaa
