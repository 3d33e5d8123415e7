/-
  What the laws of layer 5 (vclock) share: a clock that isn't there, and the laws' own example.
-/
import Derived.Test.YtbhjljffcgfcdaaVclock
import Derived.Lib.SmallJoins
namespace Go.Proofs.Ytbhjljffcgfcdaa
open Go.ChangeShapes Go.WideShapes Go.ChangeAt Go.RowKit Go.Deep
set_option linter.unusedVariables false

theorem clockTick_nil (x : Int) (w : World) :
    Calls Try.prog 36 #[.pointer none, .int .i64 x] w fun e w' => e = .returned (.int .i64 1) ∧ w = w' := by
  go_enter Try.func36, Try.ntmps36
  go_wp2
  go_ret
  exact ⟨rfl, rfl⟩
theorem clockTicks_nil (w : World) :
    Calls Try.prog 39 #[.pointer none] w fun e w' => e = .returned (.int .i64 0) ∧ w = w' := by
  go_enter Try.func39, Try.ntmps39
  go_wp2
  go_ret
  exact ⟨rfl, rfl⟩
theorem clockNow_nil (w : World) :
    Calls Try.prog 33 #[.pointer none] w fun e w' => e = .returned (.int .i64 0) ∧ w = w' := by
  go_enter Try.func33, Try.ntmps33
  go_wp2
  go_ret
  exact ⟨rfl, rfl⟩
theorem clockCopy_nil (w : World) :
    Calls Try.prog 34 #[.pointer none] w fun e w' => e = .returned (.pointer none) ∧ w = w' := by
  go_enter Try.func34, Try.ntmps34
  go_wp2
  go_ret
  exact ⟨rfl, rfl⟩
theorem clockLeft_nil (u : Int) (w : World) :
    Calls Try.prog 37 #[.pointer none, .int .i64 u] w fun e w' => e = .returned (.int .i64 0) ∧ w = w' := by
  go_enter Try.func37, Try.ntmps37
  go_wp2
  go_ret
  exact ⟨rfl, rfl⟩

theorem vclockLives_any (w : World) :
    Calls Try.prog 32 #[] w fun e w' => e = .returned (.bool true) ∧ Below w.heap.size w w' := by
  have e1 : satAdd 5 7 = 12 := by decide +kernel
  have e2 : leftV 12 20 = 8 := by decide +kernel
  have e3 : leftV 12 3 = 0 := by decide +kernel
  have C1 := Lib.hid (clockNew_yes 5 w (by omega))
  have HB := Lib.hid (Box2.new w 58 (.int .i64 5) (.int .i64 0))
  have E1 := Lib.hid e1
  have E2 := Lib.hid e2
  have E3 := Lib.hid e3
  clear e1 e2 e3
  go_enter Try.func32, Try.ntmps32
  go_wp2_with fail
  refine (C1.out).mono ?_
  rintro e w' ⟨rfl, rfl⟩
  go_wp2_with fail
  refine (clockTick_yes HB.out 7 (by omega) (by omega)).mono ?_
  rintro e w2 ⟨rfl, h2, t2⟩
  rw [E1.out] at h2
  have D2 := Lib.hid (clockNow_any h2)
  have D3 := clockLeft_any h2 20
  have D4 := clockLeft_any h2 3
  rw [E2.out] at D3
  rw [E3.out] at D4
  have D3 := Lib.hid D3
  have D4 := Lib.hid D4
  clear h2
  have T2 := Lib.hid t2
  clear t2
  go_wp2_with fail
  refine (D2.out).mono ?_
  rintro e w' ⟨rfl, rfl⟩
  go_wp2_with fail
  refine (D3.out).mono ?_
  rintro e w' ⟨rfl, rfl⟩
  go_wp2_with fail
  refine (D4.out).mono ?_
  rintro e w' ⟨rfl, rfl⟩
  go_wp2_with fail
  go_ret
  exact ⟨rfl, (((Touch.refl [] w).alloc _).trans T2.out (by simp)).below (by simp) (Nat.le_refl _)⟩
end Go.Proofs.Ytbhjljffcgfcdaa
