/-
  EwmaAway: for every average and weight the law on ewma.Away returns true. No conditions.
-/
import Derived.Test.YtbhjljffcgfcdaaEwma3
import Derived.Lib.SmallJoins
namespace Go.Proofs.Ytbhjljffcgfcdaa
open Go.ChangeShapes Go.WideShapes Go.ChangeAt Go.RowKit Go.Joins
set_option linter.unusedVariables false

theorem ewmaAway_walk (avg w : Int) (wd : World) (ha : fit64 avg) (hw : fit64 w) :
    Calls Try.prog 4 #[.int .i64 avg, .int .i64 w] wd fun e w' => e = .returned (.bool true) ∧ Below wd.heap.size wd w' := by
  unfold fit64 at ha hw
  by_cases h : okAway avg w
  · have hk := h
    unfold okAway at hk
    obtain ⟨k, rfl⟩ : ∃ k : Nat, w = k := ⟨w.toNat, by omega⟩
    have hb := awayV_bd (avg := avg) (k := k) (by omega) (by omega) (by omega)
    have i1 := away_iff (avg := avg) (x := awayV avg k) (k := k) (by omega) (by omega) (by omega) (by omega) (by omega)
    have i2 := away_iff (avg := avg) (x := awayV avg k - 1) (k := k) (by omega) (by omega) (by omega) (by omega) (by omega)
    have s1 : decide (0 ≤ stepV avg (awayV avg k) k) = true := by simp [i1]
    have s2 : decide (stepV avg (awayV avg k - 1) k < 0) = true := by
      simp only [decide_eq_true_eq]
      omega
    have C1 := Lib.hid (away_yes avg k wd (by omega) (by omega) (by omega))
    have C2 := Lib.hid (refAway_yes avg k wd (by omega) (by omega) (by omega))
    have C3 := Lib.hid (step_any avg (awayV avg k) k wd)
    have C4 := Lib.hid (step_any avg (awayV avg k - 1) k wd)
    have b1 : (awayV avg k != awayV avg k) = false := by simp
    have bk : (k : Int) ≤ 16 := by omega
    clear i1 i2 h
    generalize stepV avg (awayV avg k - 1) k = r2 at *
    generalize stepV avg (awayV avg k) k = r1 at *
    generalize awayV avg k = A at *
    by_cases hz : A = 0
    · have bz : (A == 0) = true := by simpa using hz
      have b3 : decide (A < 0) = false := by simp; omega
      clear hz
      go_enter Try.func4, Try.ntmps4
      go_wp2_with fail
      refine (C1.out).mono ?_
      rintro e w' ⟨rfl, rfl⟩
      go_wp2_with fail
      refine (C2.out).mono ?_
      rintro e w' ⟨rfl, rfl⟩
      go_wp2_with fail
      refine (C3.out).mono ?_
      rintro e w' ⟨rfl, rfl⟩
      go_wp2_with (go_at_call 10; refine (ewmaLives_any _).mono ?_; rintro e w' ⟨rfl, rfl⟩)
      go_ret
      exact ⟨rfl, Below.refl _ _⟩
    · have bz : (A == 0) = false := by simpa using hz
      clear hz
      go_enter Try.func4, Try.ntmps4
      go_wp2_with fail
      refine (C1.out).mono ?_
      rintro e w' ⟨rfl, rfl⟩
      go_wp2_with fail
      refine (C2.out).mono ?_
      rintro e w' ⟨rfl, rfl⟩
      go_wp2_with fail
      refine (C3.out).mono ?_
      rintro e w' ⟨rfl, rfl⟩
      go_wp2_with fail
      refine (C4.out).mono ?_
      rintro e w' ⟨rfl, rfl⟩
      go_wp2_with (go_at_call 10; refine (ewmaLives_any _).mono ?_; rintro e w' ⟨rfl, rfl⟩)
      go_ret
      exact ⟨rfl, Below.refl _ _⟩
  · have C1 := Lib.hid (away_no avg w wd h)
    have C2 := Lib.hid (refAway_no avg w wd h)
    unfold okAway at h
    rcases (show w < 0 ∨ (0 ≤ w ∧ 16 < w) ∨ (0 ≤ w ∧ w ≤ 16 ∧ 0 ≤ avg) ∨ (0 ≤ w ∧ w ≤ 16 ∧ avg < 0 ∧ avg < -1099511627776) by omega) with g | g | g | g
    all_goals
      clear h
      go_enter Try.func4, Try.ntmps4
      go_wp2_with fail
      refine (C1.out).mono ?_
      rintro e w' ⟨rfl, rfl⟩
      go_wp2_with fail
      refine (C2.out).mono ?_
      rintro e w' ⟨rfl, rfl⟩
      go_wp2_with (go_at_call 10; refine (ewmaLives_any _).mono ?_; rintro e w' ⟨rfl, rfl⟩)
      go_ret
      exact ⟨rfl, Below.refl _ _⟩

set_option maxRecDepth 100000 in
theorem ewmaAway_calls : LawCalls Try.prog 4 Try.f4 := by
  intro H enc W base args ds p hval hA hlt
  rw [Try.params4] at hA hval
  obtain ⟨v0, vs0, d0, ds0, p0, q0, hargs, rfl, rfl, h0, r0⟩ := trodAll_cons hA
  obtain ⟨v1, vs1, d1, ds1, p1, q1, rfl, rfl, rfl, h1, r1⟩ := trodAll_cons r0
  obtain ⟨rfl, rfl, rfl⟩ := trodAll_nil r1
  obtain rfl : args = #[v0, v1] := by cases args; simp_all
  obtain ⟨a, rfl, rfl, rfl, wa⟩ := open_int Try.underlying3 (hval 0 3 v0 rfl rfl) h0
  obtain ⟨b, rfl, rfl, rfl, wb⟩ := open_int Try.underlying3 (hval 1 3 v1 rfl rfl) h1
  exact ewmaAway_walk a b W (i64_in wa) (i64_in wb)

set_option maxRecDepth 100000 in
theorem ewmaAway_lifted (os : Os) (started : os.Started) (H : Type) (enc : TypeId × Value → H) :
    ReturnsInHanded {} Try.checked os 4 .any (Rows.ewmaAwaySpec.pre6 enc Try.prog Try.f4 Rows.ewmaAwayRow.domain false) (Rows.ewmaAwaySpec.post enc Try.prog Try.f4 false true false false) := by
  refine returnsInHanded_of_change (C := Try.checked) own started (by kernel_rfl) Try.func4
    (ChangeSpec.witness6 (enc := enc) (C := Try.checked) false ⟨#[], #[.int .i64 0, .int .i64 0], []⟩ 8 (by kernel_rfl) (by kernel_rfl) (by kernel_rfl) (by kernel_rfl)) ?_
  intro W base args ds gs before hval hW _ _
  exact law_contract laidOut (by kernel_rfl) rfl rfl boolType (fun ds h => by match ds, h with | [_, _], _ => rfl) ewmaAway_calls W base args ds gs before hval hW

theorem ewmaAway_holds : Rows.EwmaAwaySaid :=
  OpenClaim.holds_of_wide 4 Try.f4 rfl rfl rfl rfl rfl rfl rfl ⟨rfl, rfl, rfl, rfl, rfl⟩ rfl rfl rfl rfl rfl (by kernel_rfl) Try.func4 (by kernel_rfl)
    (of_decide_eq_true (by kernel_rfl)) (by unfold Func.isWrapper; first | (rw [if_pos (by decide +kernel)]; kernel_rfl) | (rw [if_neg (by decide +kernel)]; exact ⟨rfl, rfl⟩))
    (fun os started H enc _ => ewmaAway_lifted os started H enc)
#print axioms ewmaAway_holds
end Go.Proofs.Ytbhjljffcgfcdaa
