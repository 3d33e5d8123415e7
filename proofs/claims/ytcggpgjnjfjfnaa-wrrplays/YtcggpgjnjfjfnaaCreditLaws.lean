/-
  What the laws of layer 30 (credit) share: accounts that aren't there, how visits go, and the laws' own example.
-/
import Derived.Test.YtcggpgjnjfjfnaaCredit3
import Derived.Test.YtcggpgjnjfjfnaaInts
import Derived.Lib.SmallJoins
namespace Go.Proofs.Ytcggpgjnjfjfnaa
open Go.ChangeShapes Go.WideShapes Go.ChangeAt Go.RowKit Go.Deep Go.Maps
set_option linter.unusedVariables false

theorem copy_nil (w : World) : Calls Try.prog 58 #[.pointer none] w fun e w' => e = .returned (.pointer none) ∧ w = w' := by
  go_enter Try.func58, Try.ntmps58
  go_wp2
  go_ret
  exact ⟨rfl, rfl⟩
theorem nil_find (i : Int) (w : World) : Hid (Calls Try.prog 63 #[.pointer none, .int .i64 i] w (FindPost (0, 0) false w)) := Lib.hid (find_nil i w)

/-- A visit, as long as more than one is wanted, and the last. -/
theorem visit_step {c q m : Int} (hq : 1 ≤ q ∧ q ≤ 65536) (hc : -65536 ≤ c ∧ c ≤ q) (hm : visitsV c q = m) :
    1 ≤ m ∧ (2 ≤ m → clampC q (satAdd c q) ≤ 0 ∧ visitsV (clampC q (satAdd c q)) q = m - 1) ∧ (m = 1 → 0 < clampC q (satAdd c q)) ∧ -65536 ≤ clampC q (satAdd c q) ∧ clampC q (satAdd c q) ≤ q := by
  have hs : satAdd c q = c + q := by
    unfold satAdd
    rw [hold_in (x := c) (by omega) (by omega), hold_in (x := q) (by omega) (by omega), hold_in (by omega) (by omega)]
  have hcl := clampC_in (n := satAdd c q) hq.1
  rw [hs] at hcl ⊢
  unfold visitsV at hm
  by_cases h0 : 0 < -c
  · rw [if_pos h0] at hm
    have hd0 := Int.ediv_nonneg (a := -c) (b := q) (by omega) (by omega)
    refine ⟨by omega, fun h2 => ?_, fun h1 => ?_, hcl⟩
    · have hge : q ≤ -c := by
        have : 1 ≤ -c / q := by omega
        rw [Int.le_ediv_iff_mul_le (by omega)] at this
        omega
      have hv : clampC q (c + q) = c + q := by unfold clampC; rw [if_neg (by omega)]; split <;> omega
      rw [hv]
      refine ⟨by omega, ?_⟩
      unfold visitsV
      have e := Int.add_mul_ediv_right (-c) (-1) (c := q) (by omega)
      rw [show -c + -1 * q = -(c + q) by omega] at e
      by_cases hz : 0 < -(c + q)
      · rw [if_pos hz, e]; omega
      · rw [if_neg hz]
        have : -(c + q) = 0 := by omega
        rw [this, Int.zero_ediv] at e
        rw [Int.zero_ediv]
        omega
    · have hlt : -c < q := by
        rcases Int.lt_or_le (-c) q with h | h
        · exact h
        · exfalso
          have : 1 ≤ -c / q := by rw [Int.le_ediv_iff_mul_le (by omega)]; omega
          omega
      unfold clampC
      rw [if_neg (by omega), if_pos (by omega)]
      omega
  · rw [if_neg h0, Int.zero_ediv] at hm
    refine ⟨by omega, fun h2 => by omega, fun h1 => ?_, hcl⟩
    unfold clampC
    repeat' split
    all_goals omega
theorem visits_most {c q : Int} (hq : 1 ≤ q ∧ q ≤ 65536) (hc : -2047 ≤ c ∧ c ≤ q) : visitsV c q ≤ (2047 + q) / q := by
  have e := Int.add_mul_ediv_right 2047 1 (c := q) (by omega)
  rw [Int.one_mul] at e
  rw [e]
  unfold visitsV
  have : (if 0 < -c then -c else 0) / q ≤ 2047 / q := Int.ediv_le_ediv (by omega) (by split <;> omega)
  omega
theorem spend_in {c q d : Int} (hq : 1 ≤ q ∧ q ≤ 65536) (hc : 0 < c ∧ c ≤ q) (hd : 1 ≤ d ∧ d ≤ 2048) : -2047 ≤ clampC q (satSub c (size2048 d)) ∧ clampC q (satSub c (size2048 d)) ≤ q := by
  have hz : size2048 d = d := by rcases size_cases d with h | h | h <;> omega
  have hs : satSub c d = c - d := by
    unfold satSub
    rw [hold_in (x := c) (by omega) (by omega), hold_in (x := d) (by omega) (by omega), hold_in (by omega) (by omega)]
  rw [hz, hs]
  unfold clampC
  repeat' split
  all_goals omega

end Go.Proofs.Ytcggpgjnjfjfnaa
