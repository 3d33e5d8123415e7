/-
  Contracts of the functions of layer 28 (cutoff) and of its reference: each returns what a plain function gives, and leaves the world alone.
-/
import Derived.Test.YtcegpapfcfpblabBase
import Derived.Deep.QuietTactic
import Derived.BigQuiet
namespace Go.Proofs.Ytcegpapfcfpblab
open Go.ChangeShapes Go.WideShapes Go.ChangeAt Go.RowKit

theorem ret_int {k : IntKind} {a b : Int} (h : a = b) : Ending.returned (.int k a) = .returned (.int k b) := by rw [h]
theorem ret_bool {a b : Bool} (h : a = b) : Ending.returned (.bool a) = .returned (.bool b) := by rw [h]

def come (top lender : Int) (over : Bool) : Int := if over = true then (if 0 < lender ∧ lender < top then lender else top) else 1
def gone (top level : Int) (over empty : Bool) : Int := if level ≤ top ∧ (over = true ∨ empty = true) then 9 else top

theorem come_any (t l : Int) (o : Bool) (w : World) :
    Calls Try.prog 40 #[.int .i64 t, .int .i64 l, .bool o] w fun e w' => e = .returned (.int .i64 (come t l o)) ∧ w' = w := by
  cases o
  · go_enter Try.func40, Try.ntmps40
    go_wp2
    go_ret
    exact ⟨ret_int (by simp [come]), rfl⟩
  · by_cases h1 : 0 < l <;> by_cases h2 : l < t
    all_goals
      go_enter Try.func40, Try.ntmps40
      go_wp2
      go_ret
      exact ⟨ret_int (by simp [come]; omega), rfl⟩

theorem refCome_any (t l : Int) (o : Bool) (w : World) :
    Calls Try.prog 41 #[.int .i64 t, .int .i64 l, .bool o] w fun e w' => e = .returned (.int .i64 (come t l o)) ∧ w' = w := by
  cases o
  · go_enter Try.func41, Try.ntmps41
    go_wp2
    go_ret
    exact ⟨ret_int (by simp [come]), rfl⟩
  · by_cases h1 : l ≤ 0 <;> by_cases h2 : t ≤ l
    all_goals
      go_enter Try.func41, Try.ntmps41
      go_wp2
      go_ret
      exact ⟨ret_int (by simp [come]; omega), rfl⟩

theorem gone_any (t l : Int) (o m : Bool) (w : World) :
    Calls Try.prog 42 #[.int .i64 t, .int .i64 l, .bool o, .bool m] w fun e w' => e = .returned (.int .i64 (gone t l o m)) ∧ w' = w := by
  cases o <;> cases m <;> by_cases h1 : l ≤ t
  all_goals
    go_enter Try.func42, Try.ntmps42
    go_wp2
    go_ret
    exact ⟨ret_int (by simp [gone]; try omega), rfl⟩

theorem refGone_any (t l : Int) (o m : Bool) (w : World) :
    Calls Try.prog 43 #[.int .i64 t, .int .i64 l, .bool o, .bool m] w fun e w' => e = .returned (.int .i64 (gone t l o m)) ∧ w' = w := by
  cases o <;> cases m <;> by_cases h1 : t < l
  all_goals
    go_enter Try.func43, Try.ntmps43
    go_wp2
    go_ret
    exact ⟨ret_int (by simp [gone]; try omega), rfl⟩

theorem cutLives_any (w : World) :
    Calls Try.prog 39 #[] w fun e w' => e = .returned (.bool true) ∧ w' = w := by
  go_enter Try.func39, Try.ntmps39
  go_wp2
  go_ret
  exact ⟨rfl, rfl⟩

end Go.Proofs.Ytcegpapfcfpblab
