/-
  Contracts of sat.Sum, sat.Diff and of their references.
-/
import Derived.Test.YtcegpapfcfpblaaSat
namespace Go.Proofs.Ytcegpapfcfpblaa
open Go.ChangeShapes Go.WideShapes Go.ChangeAt Go.RowKit
set_option linter.unusedVariables false

def fits (x : Int) : Prop := -9223372036854775808 ≤ x ∧ x ≤ 9223372036854775807
theorem wrap_over {x : Int} (h : 9223372036854775807 < x) (h' : x < 18446744073709551616) : wrap64 x = x - 18446744073709551616 := by unfold wrap64; omega
theorem wrap_under {x : Int} (h : x < -9223372036854775808) (h' : -18446744073709551617 < x) : wrap64 x = x + 18446744073709551616 := by unfold wrap64; omega

def tup (x : Int) (b : Bool) : Value := .tuple #[.int .i64 x, .bool b]

theorem sum_yes (a b : Int) (w : World) (ha : fits a) (hb : fits b) (h : fits (a + b)) :
    Calls Try.prog 9 #[.int .i64 a, .int .i64 b] w fun e w' => e = .returned (tup (a + b) true) ∧ w' = w := by
  unfold fits at ha hb h
  by_cases hn : b < 0
  · have hd : decide (a + b < a) = true := by simp; omega
    go_enter Try.func9, Try.ntmps9
    go_wp2
    go_ret2
    exact ⟨rfl, rfl⟩
  · have hd : decide (a + b < a) = false := by simp; omega
    go_enter Try.func9, Try.ntmps9
    go_wp2
    go_ret2
    exact ⟨rfl, rfl⟩
theorem sum_no (a b : Int) (w : World) (ha : fits a) (hb : fits b) (h : ¬ fits (a + b)) :
    Calls Try.prog 9 #[.int .i64 a, .int .i64 b] w fun e w' => e = .returned (tup 0 false) ∧ w' = w := by
  unfold fits at ha hb h
  by_cases hn : b < 0
  · have e := wrap_under (x := a + b) (by omega) (by omega)
    have hw : decide (wrap64 (a + b) < a) = false := by simp; omega
    clear e h
    go_enter Try.func9, Try.ntmps9
    go_wp2
    go_ret2
    exact ⟨rfl, rfl⟩
  · have e := wrap_over (x := a + b) (by omega) (by omega)
    have hw : decide (wrap64 (a + b) < a) = true := by simp; omega
    clear e h
    go_enter Try.func9, Try.ntmps9
    go_wp2
    go_ret2
    exact ⟨rfl, rfl⟩

theorem diff_yes (a b : Int) (w : World) (ha : fits a) (hb : fits b) (h : fits (a - b)) :
    Calls Try.prog 11 #[.int .i64 a, .int .i64 b] w fun e w' => e = .returned (tup (a - b) true) ∧ w' = w := by
  unfold fits at ha hb h
  by_cases hn : b < 0
  · have hd : decide (a < a - b) = true := by simp; omega
    go_enter Try.func11, Try.ntmps11
    go_wp2
    go_ret2
    exact ⟨rfl, rfl⟩
  · have hd : decide (a < a - b) = false := by simp; omega
    go_enter Try.func11, Try.ntmps11
    go_wp2
    go_ret2
    exact ⟨rfl, rfl⟩
theorem diff_no (a b : Int) (w : World) (ha : fits a) (hb : fits b) (h : ¬ fits (a - b)) :
    Calls Try.prog 11 #[.int .i64 a, .int .i64 b] w fun e w' => e = .returned (tup 0 false) ∧ w' = w := by
  unfold fits at ha hb h
  by_cases hn : b < 0
  · have e := wrap_over (x := a - b) (by omega) (by omega)
    have hw : decide (a < wrap64 (a - b)) = false := by simp; omega
    clear e h
    go_enter Try.func11, Try.ntmps11
    go_wp2
    go_ret2
    exact ⟨rfl, rfl⟩
  · have e := wrap_under (x := a - b) (by omega) (by omega)
    have hw : decide (a < wrap64 (a - b)) = true := by simp; omega
    clear e h
    go_enter Try.func11, Try.ntmps11
    go_wp2
    go_ret2
    exact ⟨rfl, rfl⟩

theorem refSum_yes (a b : Int) (w : World) (ha : fits a) (hb : fits b) (h : fits (a + b)) :
    Calls Try.prog 10 #[.int .i64 a, .int .i64 b] w fun e w' => e = .returned (tup (a + b) true) ∧ w' = w := by
  unfold fits at ha hb h
  rcases (show b < 0 ∨ (0 ≤ b ∧ b ≤ 0) ∨ 0 < b by omega) with hn | hn | hn
  all_goals
    go_enter Try.func10, Try.ntmps10
    go_wp2
    go_ret2
    exact ⟨rfl, rfl⟩
theorem refSum_no (a b : Int) (w : World) (ha : fits a) (hb : fits b) (h : ¬ fits (a + b)) :
    Calls Try.prog 10 #[.int .i64 a, .int .i64 b] w fun e w' => e = .returned (tup 0 false) ∧ w' = w := by
  unfold fits at ha hb h
  rcases (show a + b < -9223372036854775808 ∧ b < 0 ∨ 9223372036854775807 < a + b ∧ 0 < b by omega) with ⟨h1, h2⟩ | ⟨h1, h2⟩
  all_goals
    go_enter Try.func10, Try.ntmps10
    go_wp2
    go_ret2
    exact ⟨rfl, rfl⟩
theorem refDiff_yes (a b : Int) (w : World) (ha : fits a) (hb : fits b) (h : fits (a - b)) :
    Calls Try.prog 12 #[.int .i64 a, .int .i64 b] w fun e w' => e = .returned (tup (a - b) true) ∧ w' = w := by
  unfold fits at ha hb h
  rcases (show b < 0 ∨ (0 ≤ b ∧ b ≤ 0) ∨ 0 < b by omega) with hn | hn | hn
  all_goals
    go_enter Try.func12, Try.ntmps12
    go_wp2
    go_ret2
    exact ⟨rfl, rfl⟩
theorem refDiff_no (a b : Int) (w : World) (ha : fits a) (hb : fits b) (h : ¬ fits (a - b)) :
    Calls Try.prog 12 #[.int .i64 a, .int .i64 b] w fun e w' => e = .returned (tup 0 false) ∧ w' = w := by
  unfold fits at ha hb h
  rcases (show a - b < -9223372036854775808 ∧ 0 < b ∨ 9223372036854775807 < a - b ∧ b < 0 by omega) with ⟨h1, h2⟩ | ⟨h1, h2⟩
  all_goals
    go_enter Try.func12, Try.ntmps12
    go_wp2
    go_ret2
    exact ⟨rfl, rfl⟩
end Go.Proofs.Ytcegpapfcfpblaa
