/-
  Contracts of layer 25 (idle): what is computed, and the functions that only compute.
-/
import Derived.Test.YtinbicpefhnmnaaClassRight
import Derived.Test.YtinbicpefhnmnaaEwma3
import Derived.Test.YtinbicpefhnmnaaCls
namespace Go.Proofs.Ytinbicpefhnmnaa
open Go.ChangeShapes Go.WideShapes Go.ChangeAt Go.RowKit Go.Joins Go.Deep
set_option linter.unusedVariables false

/-- A state by its fields. -/
structure St where
  last : Int
  avg : Int
  till : Int
def St.cells (s : St) : Array Value := #[.int .i64 s.last, .int .i64 s.avg, .int .i64 s.till]
def clampV (c : Cl) (a : Int) : Int := min (max a c.minIdle) c.maxIdle
def untilV (avg w time now : Int) : Int := if 0 ≤ avg then 0 else satAdd now (satAdd time (awayV avg w.toNat))
def idleV (s : St) (time now : Int) : Int := satSub (satSub now s.last) time
def avgV (c : Cl) (s : St) (time now : Int) : Int := clampV c (stepV s.avg (idleV s time now) c.weight)
def sentV (c : Cl) (s : St) (time now : Int) : St := if rightV c = 0 then ⟨hold now, avgV c s time now, untilV (avgV c s time now) c.weight time now⟩ else s
def newV (c : Cl) (now : Int) : St := if rightV c = 0 then ⟨hold now, c.maxIdle, 0⟩ else ⟨0, 0, 0⟩
def carryV (c : Cl) (s : St) : St := if rightV c = 0 then ⟨s.last, clampV c s.avg, s.till⟩ else s
def overV (s : St) (now : Int) : Bool := decide (now < s.till)
def leftV (s : St) (now : Int) : Int := if now < s.till then satSub s.till now else 0

theorem clampV_in {c : Cl} (h : rightV c = 0) (a : Int) : c.minIdle ≤ clampV c a ∧ clampV c a ≤ c.maxIdle := by
  have := right_zero h
  unfold clampV
  omega

theorem idleClamp (a : Int) (c : Cl) (w : World) : Calls Try.prog 48 #[.int .i64 a, .agg c.cells] w fun e w' => e = .returned (.int .i64 (clampV c a)) ∧ Touch [] w w' := by
  unfold Cl.cells
  have e : clampV c a = min (max a c.minIdle) c.maxIdle := rfl
  rw [e]
  go_enter Try.func48, Try.ntmps48
  go_wp2
  all_goals
    go_ret
    exact ⟨ret_int (by omega), (Touch.refl _ _).alloc _⟩

theorem idleOver (s : St) (now : Int) (w : World) : Calls Try.prog 28 #[.agg s.cells, .int .i64 now] w fun e w' => e = .returned (.bool (overV s now)) ∧ Touch [] w w' := by
  unfold St.cells overV
  by_cases h : now < s.till
  · rw [decide_eq_true h]
    go_enter Try.func28, Try.ntmps28
    go_wp2
    go_ret
    exact ⟨ret_bool (by simp), (Touch.refl _ _).alloc _⟩
  · rw [decide_eq_false h]
    go_enter Try.func28, Try.ntmps28
    go_wp2
    go_ret
    exact ⟨ret_bool (by simp), (Touch.refl _ _).alloc _⟩

theorem idleLeft (s : St) (now : Int) (w : World) : Calls Try.prog 30 #[.agg s.cells, .int .i64 now] w fun e w' => e = .returned (.int .i64 (leftV s now)) ∧ Touch [] w w' := by
  have O := Lib.hid (fun w => idleOver s now w)
  unfold overV at O
  unfold St.cells leftV at *
  by_cases h : now < s.till
  · rw [if_pos h]
    rw [decide_eq_true h] at O
    go_enter Try.func30, Try.ntmps30
    go_wp2_with fail
    refine (O.out _).mono ?_
    rintro e w2 ⟨rfl, t⟩
    have k2 := kept t 2 _ rfl
    have lt2 := kept_lt t
    have T := Lib.hid t
    clear t
    go_wp2_with fail
    refine (sub_any _ _ _).mono ?_
    rintro e w' ⟨rfl, rfl⟩
    go_wp2_with fail
    go_ret
    exact ⟨rfl, ((Touch.refl _ _).alloc _).trans T.out (by simp)⟩
  · rw [if_neg h]
    rw [decide_eq_false h] at O
    go_enter Try.func30, Try.ntmps30
    go_wp2_with fail
    refine (O.out _).mono ?_
    rintro e w2 ⟨rfl, t⟩
    have T := Lib.hid t
    clear t
    go_wp2_with fail
    go_ret
    exact ⟨rfl, ((Touch.refl _ _).alloc _).trans T.out (by simp)⟩

theorem idleUntil (avg wt time now : Int) (w : World) (h : 0 ≤ avg ∨ okAway avg wt) : Calls Try.prog 51 #[.int .i64 avg, .int .i64 wt, .int .i64 time, .int .i64 now] w fun e w' => e = .returned (.int .i64 (untilV avg wt time now)) ∧ w = w' := by
  unfold untilV
  by_cases h0 : 0 ≤ avg
  · rw [if_pos h0]
    go_enter Try.func51, Try.ntmps51
    go_wp2_with fail
    go_ret
    exact ⟨rfl, rfl⟩
  · rw [if_neg h0]
    have ok : okAway avg wt := by rcases h with h | h <;> first | omega | exact h
    unfold okAway at ok
    obtain ⟨k, rfl⟩ : ∃ k : Nat, wt = k := ⟨wt.toNat, by omega⟩
    have A := Lib.hid (away_yes avg k w (by omega) (by omega) (by omega))
    rw [Int.toNat_natCast]
    clear h ok
    go_enter Try.func51, Try.ntmps51
    go_wp2_with fail
    refine (A.out).mono ?_
    rintro e w' ⟨rfl, rfl⟩
    go_wp2_with fail
    refine (add_any _ _ _).mono ?_
    rintro e w' ⟨rfl, rfl⟩
    go_wp2_with fail
    refine (add_any _ _ _).mono ?_
    rintro e w' ⟨rfl, rfl⟩
    go_wp2_with fail
    go_ret
    exact ⟨rfl, rfl⟩
end Go.Proofs.Ytinbicpefhnmnaa
