/-
  Contracts of the functions of layer 2 (ewma) and of its reference.
-/
import Derived.Test.YtinbicpefhnmnaaEwmaMath
import Derived.Test.YtinbicpefhnmnaaSat
import Derived.Test.YtinbicpefhnmnaaInts
import Derived.Deep.QuietTactic
import Derived.BigQuiet
namespace Go.Proofs.Ytinbicpefhnmnaa
open Go.ChangeShapes Go.WideShapes Go.ChangeAt Go.RowKit
set_option linter.unusedVariables false

theorem floor_any (x w : Int) (wd : World) :
    Calls Try.prog 68 #[.int .i64 x, .int .i64 w] wd fun e w' => e = .returned (.int .i64 (floorV x w)) ∧ wd = w' := by
  by_cases h : 0 ≤ w ∧ w ≤ 62
  · obtain ⟨k, rfl⟩ : ∃ k : Nat, w = k := ⟨w.toNat, by omega⟩
    have hk : k ≤ 62 := by omega
    have e := floorV_yes (x := x) hk
    have E := Lib.hid e
    clear e h
    go_enter Try.func68, Try.ntmps68
    go_wp2
    go_ret
    exact ⟨ret_int (by rw [E.out, Int.natCast_pow]; rfl), rfl⟩
  · rw [floorV_no h]
    by_cases h1 : w < 0
    all_goals
      go_enter Try.func68, Try.ntmps68
      go_wp2
      go_ret
      exact ⟨rfl, rfl⟩

theorem isWeight_yes (w : Int) (wd : World) (h : 0 ≤ w ∧ w ≤ 16) :
    Calls Try.prog 66 #[.int .i64 w] wd fun e w' => e = .returned (.bool true) ∧ wd = w' := by
  go_enter Try.func66, Try.ntmps66
  go_wp2
  go_ret
  exact ⟨rfl, rfl⟩
theorem isWeight_no (w : Int) (wd : World) (h : ¬ (0 ≤ w ∧ w ≤ 16)) :
    Calls Try.prog 66 #[.int .i64 w] wd fun e w' => e = .returned (.bool false) ∧ wd = w' := by
  by_cases h1 : w < 0
  · go_enter Try.func66, Try.ntmps66
    go_wp2
    go_ret
    exact ⟨rfl, rfl⟩
  · have h2 : decide (w ≤ 16) = false := by simp; omega
    clear h
    go_enter Try.func66, Try.ntmps66
    go_wp2
    go_ret
    exact ⟨rfl, rfl⟩

theorem step_any (avg x w : Int) (wd : World) :
    Calls Try.prog 49 #[.int .i64 avg, .int .i64 x, .int .i64 w] wd fun e w' => e = .returned (.int .i64 (stepV avg x w)) ∧ wd = w' := by
  by_cases h : 0 ≤ w ∧ w ≤ 16
  · rw [stepV_yes h]
    have D := Lib.hid (isWeight_yes w wd h)
    go_enter Try.func49, Try.ntmps49
    go_wp2_with fail
    refine (D.out).mono ?_
    rintro e w' ⟨rfl, rfl⟩
    go_wp2_with fail
    refine (sub_any _ _ _).mono ?_
    rintro e w' ⟨rfl, rfl⟩
    go_wp2_with fail
    refine (floor_any _ _ _).mono ?_
    rintro e w' ⟨rfl, rfl⟩
    go_wp2_with fail
    refine (add_any _ _ _).mono ?_
    rintro e w' ⟨rfl, rfl⟩
    go_wp2_with fail
    go_ret
    exact ⟨rfl, rfl⟩
  · rw [stepV_no h]
    have D := Lib.hid (isWeight_no w wd h)
    go_enter Try.func49, Try.ntmps49
    go_wp2_with fail
    refine (D.out).mono ?_
    rintro e w' ⟨rfl, rfl⟩
    go_wp2_with fail
    refine (hold_any _ _).mono ?_
    rintro e w' ⟨rfl, rfl⟩
    go_wp2_with fail
    go_ret
    exact ⟨rfl, rfl⟩

theorem refFloor_any (x w : Int) (wd : World) (hx : -9223372036854775808 ≤ x ∧ x ≤ 9223372036854775807) :
    Calls Try.prog 70 #[.int .i64 x, .int .i64 w] wd fun e w' => e = .returned (.int .i64 (floorV x w)) ∧ wd = w' := by
  by_cases h : 0 ≤ w ∧ w ≤ 62
  · obtain ⟨n, rfl⟩ : ∃ k : Nat, w = k := ⟨w.toNat, by omega⟩
    have hn : n ≤ 62 := by omega
    have E := Lib.hid (floorV_yes (x := x) hn)
    clear h
    go_enter Try.func70, Try.ntmps70
    go_wp2
    go_loop [0, 5] (fun v i => ∃ k : Nat, k ≤ n ∧ i = .int .i64 k ∧ v = .int .i64 (x / ((2 ^ k : Nat) : Int))) (fun _ i => n - (intOf i).toNat)
    case atStart => exact ⟨0, Nat.zero_le _, rfl, by simp⟩
    case round =>
      obtain ⟨k, hk, rfl, rfl⟩ := hrel
      by_cases hlt : k < n
      · have HN := Lib.hid (half_next x k)
        have hb := div_in x _ (pow_pos2 k)
        generalize x / ((2 ^ k : Nat) : Int) = y at *
        by_cases h0 : y < 0
        · by_cases h1 : y % 2 = 0
          · obtain ⟨b1, b2⟩ := even_below h0 h1
            have B2 := Lib.hid b2
            clear b2
            go_wp2
            go_round
            case rel => exact ⟨k + 1, by omega, by go_num, by rw [HN.out, B2.out]⟩
            case measure => simp [intOf]; omega
          · obtain ⟨b1, b2⟩ := odd_below h0 h1
            have B2 := Lib.hid b2
            have h2 : -9223372036854775808 ≤ y - 1 := by omega
            clear b2
            go_wp2
            go_round
            case rel => exact ⟨k + 1, by omega, by go_num, by rw [HN.out, B2.out]⟩
            case measure => simp [intOf]; omega
        · go_wp2
          go_round
          case rel => exact ⟨k + 1, by omega, by go_num, by rw [HN.out]⟩
          case measure => simp [intOf]; omega
      · obtain rfl : k = n := by omega
        go_wp2
        go_ret
        exact ⟨ret_int E.out.symm, rfl⟩
  · rw [floorV_no h]
    by_cases h1 : w < 0
    all_goals
      go_enter Try.func70, Try.ntmps70
      go_wp2
      go_ret
      exact ⟨rfl, rfl⟩
end Go.Proofs.Ytinbicpefhnmnaa
