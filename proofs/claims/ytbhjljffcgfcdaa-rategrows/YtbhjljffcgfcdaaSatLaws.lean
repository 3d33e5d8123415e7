/-
  What the laws of layer 1 (sat) share: Part and Up as total functions, and the law's own example.
-/
import Derived.Test.YtbhjljffcgfcdaaSatRefPart
import Derived.Test.YtbhjljffcgfcdaaSatRef
import Derived.Test.YtbhjljffcgfcdaaSatSum
namespace Go.Proofs.Ytbhjljffcgfcdaa
open Go.ChangeShapes Go.WideShapes Go.ChangeAt Go.RowKit Go.Joins
set_option linter.unusedVariables false


def partV (a b c : Int) : Int := if 0 ≤ a ∧ a ≤ 1152921504606846976 ∧ 0 ≤ b ∧ b ≤ 1152921504606846976 ∧ 1 ≤ c ∧ c ≤ 1152921504606846976 then satPart a b c else 0
def upV (a b c : Int) : Int := if 0 ≤ a ∧ a ≤ 1152921504606846976 ∧ 0 ≤ b ∧ b ≤ 1152921504606846976 ∧ 1 ≤ c ∧ c ≤ 1152921504606846976 then satUp a b c else 0

theorem partV_yes {a b c : Int} (h : okParts a b c) : partV a b c = satPart a b c := if_pos h
theorem partV_no {a b c : Int} (h : ¬ okParts a b c) : partV a b c = 0 := if_neg h
theorem upV_yes {a b c : Int} (h : okParts a b c) : upV a b c = satUp a b c := if_pos h
theorem upV_no {a b c : Int} (h : ¬ okParts a b c) : upV a b c = 0 := if_neg h

theorem up_any (a b c : Int) (w : World) :
    Calls Try.prog 49 #[.int .i64 a, .int .i64 b, .int .i64 c] w fun e w' => e = .returned (.int .i64 (upV a b c)) ∧ Below w.heap.size w w' := by
  by_cases h : okParts a b c
  · rw [upV_yes h]; exact up_yes a b c w h
  · rw [upV_no h]; exact up_no a b c w h

theorem hold_cap (x : Int) (h : 0 ≤ x) : hold (cap2 x) = hold x := by
  unfold cap2
  split
  · rw [hold_up (by omega), hold_up (by omega)]
  · rfl
theorem hold_cap1 (x y : Int) (h : 0 ≤ x) (hy : 0 ≤ y) : hold (cap2 x + y) = hold (x + y) := by
  unfold cap2
  split
  · rw [hold_up (by omega), hold_up (by omega)]
  · rfl

def plus1 (r : Int) : Int := if 0 < r then 1 else 0
theorem refUp_any (a b c : Int) (w : World) :
    Calls Try.prog 50 #[.int .i64 a, .int .i64 b, .int .i64 c] w fun e w' => e = .returned (.int .i64 (upV a b c)) ∧ w' = w := by
  by_cases h : okParts a b c
  · rw [upV_yes h]
    have D1 := Lib.hid (fun w => right_yes a b c w h)
    have hv : satUp a b c = hold (rq a.toNat b.toNat c.toNat + plus1 (rr a.toNat b.toNat c.toNat)) := by
      unfold satUp rq rr quo rem plus1
      rw [hold_cap1 _ _ (Int.natCast_nonneg _) (by split <;> omega)]
      congr 2
      by_cases hm : 0 < a.toNat * b.toNat % c.toNat
      · rw [if_pos hm, if_pos (by omega)]
      · rw [if_neg hm, if_neg (by omega)]
    have HV := Lib.hid hv
    clear hv
    generalize satUp a b c = res at *
    unfold okParts at h
    obtain ⟨m, rfl⟩ := Int.eq_ofNat_of_zero_le h.1
    obtain ⟨n, rfl⟩ := Int.eq_ofNat_of_zero_le h.2.2.1
    obtain ⟨k, rfl⟩ := Int.eq_ofNat_of_zero_le (show 0 ≤ c by omega)
    simp only [Int.toNat_natCast] at HV
    have D2 := Lib.hid (fun w => refpart_go n k (by omega) (by omega) (by omega) m m m w (Nat.le_refl _) rfl (by omega))
    have bq := rq_bd m n k
    generalize rq m n k = q at *
    generalize rr m n k = r at *
    by_cases hr : 0 < r
    · have hw : hold (q + plus1 r) = hold (q + 1) := by unfold plus1; rw [if_pos hr]
      have HW := Lib.hid (HV.out.trans hw)
      clear hw HV
      go_enter Try.func50, Try.ntmps50
      go_wp2_with fail
      refine (D1.out _).mono ?_
      rintro e w' ⟨rfl, rfl⟩
      go_wp2_with fail
      refine (D2.out _).mono ?_
      rintro e w' ⟨rfl, rfl⟩
      go_wp2_with (go_at_call 44; refine (refHold_any _ _).mono ?_; rintro e w' ⟨rfl, rfl⟩)
      go_ret
      exact ⟨ret_int HW.out.symm, rfl⟩
    · have hw : hold (q + plus1 r) = hold q := by unfold plus1; rw [if_neg hr, Int.add_zero]
      have HW := Lib.hid (HV.out.trans hw)
      clear hw HV
      go_enter Try.func50, Try.ntmps50
      go_wp2_with fail
      refine (D1.out _).mono ?_
      rintro e w' ⟨rfl, rfl⟩
      go_wp2_with fail
      refine (D2.out _).mono ?_
      rintro e w' ⟨rfl, rfl⟩
      go_wp2_with (go_at_call 44; refine (refHold_any _ _).mono ?_; rintro e w' ⟨rfl, rfl⟩)
      go_ret
      exact ⟨ret_int HW.out.symm, rfl⟩
  · rw [upV_no h]
    have D1 := Lib.hid (fun w => right_no a b c w h)
    clear h
    go_enter Try.func50, Try.ntmps50
    go_wp2_with fail
    refine (D1.out _).mono ?_
    rintro e w' ⟨rfl, rfl⟩
    go_wp2_with fail
    go_ret
    exact ⟨rfl, rfl⟩

end Go.Proofs.Ytbhjljffcgfcdaa
