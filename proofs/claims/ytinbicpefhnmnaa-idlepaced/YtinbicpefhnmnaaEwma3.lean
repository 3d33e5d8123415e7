/-
  Contracts of layer 2 (ewma) and of its reference: Away; the law's own example.
-/
import Derived.Test.YtinbicpefhnmnaaEwma2
namespace Go.Proofs.Ytinbicpefhnmnaa
open Go.ChangeShapes Go.WideShapes Go.ChangeAt Go.RowKit
set_option linter.unusedVariables false

def okAway (avg w : Int) : Prop := 0 ≤ w ∧ w ≤ 16 ∧ -1099511627776 ≤ avg ∧ avg ≤ -1

theorem wrap_away (m avg : Int) (h1 : -1099511627776 ≤ avg) (h2 : avg ≤ -1) (h : 0 ≤ m + avg ∧ m + avg ≤ 72057594037927936) : wrap64 (wrap64 m + avg) = m + avg := by
  unfold wrap64
  omega

theorem away_yes (avg : Int) (k : Nat) (wd : World) (hk : k ≤ 16) (h1 : -1099511627776 ≤ avg) (h2 : avg ≤ -1) :
    Calls Try.prog 69 #[.int .i64 avg, .int .i64 k] wd fun e w' => e = .returned (.int .i64 (awayV avg k)) ∧ wd = w' := by
  have D := Lib.hid (isWeight_yes k wd (by omega))
  have hv : awayV avg k = -avg * ((2 ^ k : Nat) : Int) + avg := rfl
  have hb := awayV_bd h1 h2 hk
  rw [hv, Int.natCast_pow] at hb
  rw [hv, Int.natCast_pow]
  clear hv
  go_enter Try.func69, Try.ntmps69
  go_wp2_with fail
  refine (D.out).mono ?_
  rintro e w' ⟨rfl, rfl⟩
  go_wp2_with fail
  go_ret
  exact ⟨ret_int (wrap_away _ _ h1 h2 hb), rfl⟩

theorem away_no (avg w : Int) (wd : World) (h : ¬ okAway avg w) :
    Calls Try.prog 69 #[.int .i64 avg, .int .i64 w] wd fun e w' => e = .returned (.int .i64 0) ∧ wd = w' := by
  unfold okAway at h
  by_cases hw : 0 ≤ w ∧ w ≤ 16
  · have D := Lib.hid (isWeight_yes w wd hw)
    by_cases h1 : avg < -1099511627776
    all_goals
      go_enter Try.func69, Try.ntmps69
      go_wp2_with fail
      refine (D.out).mono ?_
      rintro e w' ⟨rfl, rfl⟩
      go_wp2_with fail
      go_ret
      exact ⟨rfl, rfl⟩
  · have D := Lib.hid (isWeight_no w wd hw)
    go_enter Try.func69, Try.ntmps69
    go_wp2_with fail
    refine (D.out).mono ?_
    rintro e w' ⟨rfl, rfl⟩
    go_wp2_with fail
    go_ret
    exact ⟨rfl, rfl⟩

end Go.Proofs.Ytinbicpefhnmnaa
