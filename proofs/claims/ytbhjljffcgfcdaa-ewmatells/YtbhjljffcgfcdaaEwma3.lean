/-
  Contracts of layer 2 (ewma) and of its reference: Away; the law's own example.
-/
import Derived.Test.YtbhjljffcgfcdaaEwma2
namespace Go.Proofs.Ytbhjljffcgfcdaa
open Go.ChangeShapes Go.WideShapes Go.ChangeAt Go.RowKit
set_option linter.unusedVariables false

def okAway (avg w : Int) : Prop := 0 ≤ w ∧ w ≤ 16 ∧ -1099511627776 ≤ avg ∧ avg ≤ -1

theorem wrap_away (m avg : Int) (h1 : -1099511627776 ≤ avg) (h2 : avg ≤ -1) (h : 0 ≤ m + avg ∧ m + avg ≤ 72057594037927936) : wrap64 (wrap64 m + avg) = m + avg := by
  unfold wrap64
  omega

theorem away_yes (avg : Int) (k : Nat) (wd : World) (hk : k ≤ 16) (h1 : -1099511627776 ≤ avg) (h2 : avg ≤ -1) :
    Calls Try.prog 19 #[.int .i64 avg, .int .i64 k] wd fun e w' => e = .returned (.int .i64 (awayV avg k)) ∧ wd = w' := by
  have D := Lib.hid (isWeight_yes k wd (by omega))
  have hv : awayV avg k = -avg * ((2 ^ k : Nat) : Int) + avg := rfl
  have hb := awayV_bd h1 h2 hk
  rw [hv, Int.natCast_pow] at hb
  rw [hv, Int.natCast_pow]
  clear hv
  go_enter Try.func19, Try.ntmps19
  go_wp2_with fail
  refine (D.out).mono ?_
  rintro e w' ⟨rfl, rfl⟩
  go_wp2_with fail
  go_ret
  exact ⟨ret_int (wrap_away _ _ h1 h2 hb), rfl⟩

theorem away_no (avg w : Int) (wd : World) (h : ¬ okAway avg w) :
    Calls Try.prog 19 #[.int .i64 avg, .int .i64 w] wd fun e w' => e = .returned (.int .i64 0) ∧ wd = w' := by
  unfold okAway at h
  by_cases hw : 0 ≤ w ∧ w ≤ 16
  · have D := Lib.hid (isWeight_yes w wd hw)
    by_cases h1 : avg < -1099511627776
    all_goals
      go_enter Try.func19, Try.ntmps19
      go_wp2_with fail
      refine (D.out).mono ?_
      rintro e w' ⟨rfl, rfl⟩
      go_wp2_with fail
      go_ret
      exact ⟨rfl, rfl⟩
  · have D := Lib.hid (isWeight_no w wd hw)
    go_enter Try.func19, Try.ntmps19
    go_wp2_with fail
    refine (D.out).mono ?_
    rintro e w' ⟨rfl, rfl⟩
    go_wp2_with fail
    go_ret
    exact ⟨rfl, rfl⟩

theorem refAway_no (avg w : Int) (wd : World) (h : ¬ okAway avg w) :
    Calls Try.prog 20 #[.int .i64 avg, .int .i64 w] wd fun e w' => e = .returned (.int .i64 0) ∧ wd = w' := by
  unfold okAway at h
  rcases (show w < 0 ∨ (0 ≤ w ∧ 16 < w) ∨ (0 ≤ w ∧ w ≤ 16 ∧ 0 ≤ avg) ∨ (0 ≤ w ∧ w ≤ 16 ∧ avg < 0 ∧ avg < -1099511627776) by omega) with g | g | g | g
  all_goals
    clear h
    go_enter Try.func20, Try.ntmps20
    go_wp2
    go_ret
    exact ⟨rfl, rfl⟩

theorem refAway_yes (avg : Int) (k : Nat) (wd : World) (hk : k ≤ 16) (h1 : -1099511627776 ≤ avg) (h2 : avg ≤ -1) :
    Calls Try.prog 20 #[.int .i64 avg, .int .i64 k] wd fun e w' => e = .returned (.int .i64 (awayV avg k)) ∧ wd = w' := by
  have hb := awayV_bd h1 h2 hk
  have HI := Lib.hid (fun x x1 x2 => away_iff (avg := avg) (x := x) (k := k) h1 h2 hk x1 x2)
  generalize awayV avg k = A at *
  go_enter Try.func20, Try.ntmps20
  go_wp2
  go_loop [5, 6] (fun u v => ∃ l r : Int, -1 ≤ l ∧ l < A ∧ A ≤ r ∧ r ≤ 144115188075855872 ∧ u = .int .i64 l ∧ v = .int .i64 r) (fun u v => (intOf v - intOf u).toNat)
  case atStart => exact ⟨-1, 144115188075855872, by omega, by omega, by omega, by omega, rfl, rfl⟩
  case round =>
    obtain ⟨l, r, a1, a2, a3, a4, rfl, rfl⟩ := hrel
    by_cases hlt : 1 < r - l
    · have hs : 0 ≤ l + r := by omega
      have hi := HI.out ((l + r) / 2) (by omega) (by omega)
      by_cases hx : A ≤ (l + r) / 2
      · have b : decide (0 ≤ stepV avg ((l + r) / 2) k) = true := by simp [hi, hx]
        have HX := Lib.hid hx
        clear hi HI hx
        generalize hS : stepV avg ((l + r) / 2) k = s at *
        have HS := Lib.hid hS
        clear hS
        go_wp2_with fail
        refine (refStep_any _ _ _ _).mono ?_
        rw [HS.out]
        rintro e w' ⟨rfl, rfl⟩
        go_wp2_with fail
        go_round
        case rel => exact ⟨l, (l + r) / 2, by omega, by omega, HX.out, by omega, rfl, rfl⟩
        case measure => simp [intOf]; omega
      · have b : decide (0 ≤ stepV avg ((l + r) / 2) k) = false := by simp [hi, hx]
        have HX := Lib.hid hx
        clear hi HI hx
        generalize hS : stepV avg ((l + r) / 2) k = s at *
        have HS := Lib.hid hS
        clear hS
        go_wp2_with fail
        refine (refStep_any _ _ _ _).mono ?_
        rw [HS.out]
        rintro e w' ⟨rfl, rfl⟩
        go_wp2_with fail
        go_round
        case rel => exact ⟨(l + r) / 2, r, by omega, by have := HX.out; omega, a3, by omega, rfl, rfl⟩
        case measure => simp [intOf]; omega
    · obtain rfl : A = r := by omega
      have b : decide (1 < A - l) = false := by simp; omega
      go_wp2_with fail
      go_ret
      exact ⟨rfl, rfl⟩
theorem ewmaLives_any (wd : World) :
    Calls Try.prog 10 #[] wd fun e w' => e = .returned (.bool true) ∧ wd = w' := by
  have e1 : stepV 0 7 2 = 1 := by decide +kernel
  have e2 : stepV 0 (-1) 2 = -1 := by decide +kernel
  have e3 : awayV (-3) 2 = 9 := by decide +kernel
  have C1 := fun w => step_any 0 7 2 w
  have C2 := fun w => step_any 0 (-1) 2 w
  have C3 := fun w => away_yes (-3) 2 w (by omega) (by omega) (by omega)
  rw [e1] at C1
  rw [e2] at C2
  rw [e3] at C3
  have D1 := Lib.hid C1
  have D2 := Lib.hid C2
  have D3 := Lib.hid C3
  clear C1 C2 C3 e1 e2 e3
  go_enter Try.func10, Try.ntmps10
  go_wp2_with fail
  refine (D1.out _).mono ?_
  rintro e w' ⟨rfl, rfl⟩
  go_wp2_with fail
  refine (D2.out _).mono ?_
  rintro e w' ⟨rfl, rfl⟩
  go_wp2_with fail
  refine (D3.out _).mono ?_
  rintro e w' ⟨rfl, rfl⟩
  go_wp2_with fail
  go_ret
  exact ⟨rfl, rfl⟩
end Go.Proofs.Ytbhjljffcgfcdaa
