/-
  What the laws of layer 30 (credit) share: accounts that aren't there, how visits go, and the laws' own example.
-/
import Derived.Test.YtncipngnpdhbjaaCredit3
import Derived.Test.YtncipngnpdhbjaaInts
import Derived.Lib.SmallJoins
namespace Go.Proofs.Ytncipngnpdhbjaa
open Go.ChangeShapes Go.WideShapes Go.ChangeAt Go.RowKit Go.Deep Go.Maps
set_option linter.unusedVariables false

theorem copy_nil (w : World) : Calls Try.prog 38 #[.pointer none] w fun e w' => e = .returned (.pointer none) ∧ w = w' := by
  go_enter Try.func38, Try.ntmps38
  go_wp2
  go_ret
  exact ⟨rfl, rfl⟩
theorem nil_find (i : Int) (w : World) : Hid (Calls Try.prog 44 #[.pointer none, .int .i64 i] w (FindPost (0, 0) false w)) := Lib.hid (find_nil i w)

/-- A visit, as long as more than one is wanted, and the last. -/
theorem visit_step {c q m : Int} (hq : 1 ≤ q ∧ q ≤ 65536) (hc : -65536 ≤ c ∧ c ≤ q) (hm : visitsV c q = m) :
    1 ≤ m ∧ (2 ≤ m → clampC q (satAdd c q) ≤ 0 ∧ visitsV (clampC q (satAdd c q)) q = m - 1) ∧ (m = 1 → 0 < clampC q (satAdd c q)) ∧ -65536 ≤ clampC q (satAdd c q) ∧ clampC q (satAdd c q) ≤ q := by
  have hs : satAdd c q = c + q := by
    unfold satAdd
    rw [hold_in (x := c) (by omega) (by omega), hold_in (x := q) (by omega) (by omega), hold_in (by omega) (by omega)]
  have hcl := clampC_in (n := satAdd c q) hq.1
  rw [hs] at hcl ⊢
  unfold visitsV at hm
  by_cases h0 : 0 < -c
  · rw [if_pos h0] at hm
    have hd0 := Int.ediv_nonneg (a := -c) (b := q) (by omega) (by omega)
    refine ⟨by omega, fun h2 => ?_, fun h1 => ?_, hcl⟩
    · have hge : q ≤ -c := by
        have : 1 ≤ -c / q := by omega
        rw [Int.le_ediv_iff_mul_le (by omega)] at this
        omega
      have hv : clampC q (c + q) = c + q := by unfold clampC; rw [if_neg (by omega)]; split <;> omega
      rw [hv]
      refine ⟨by omega, ?_⟩
      unfold visitsV
      have e := Int.add_mul_ediv_right (-c) (-1) (c := q) (by omega)
      rw [show -c + -1 * q = -(c + q) by omega] at e
      by_cases hz : 0 < -(c + q)
      · rw [if_pos hz, e]; omega
      · rw [if_neg hz]
        have : -(c + q) = 0 := by omega
        rw [this, Int.zero_ediv] at e
        rw [Int.zero_ediv]
        omega
    · have hlt : -c < q := by
        rcases Int.lt_or_le (-c) q with h | h
        · exact h
        · exfalso
          have : 1 ≤ -c / q := by rw [Int.le_ediv_iff_mul_le (by omega)]; omega
          omega
      unfold clampC
      rw [if_neg (by omega), if_pos (by omega)]
      omega
  · rw [if_neg h0, Int.zero_ediv] at hm
    refine ⟨by omega, fun h2 => by omega, fun h1 => ?_, hcl⟩
    unfold clampC
    repeat' split
    all_goals omega
theorem visits_most {c q : Int} (hq : 1 ≤ q ∧ q ≤ 65536) (hc : -2047 ≤ c ∧ c ≤ q) : visitsV c q ≤ (2047 + q) / q := by
  have e := Int.add_mul_ediv_right 2047 1 (c := q) (by omega)
  rw [Int.one_mul] at e
  rw [e]
  unfold visitsV
  have : (if 0 < -c then -c else 0) / q ≤ 2047 / q := Int.ediv_le_ediv (by omega) (by split <;> omega)
  omega
theorem spend_in {c q d : Int} (hq : 1 ≤ q ∧ q ≤ 65536) (hc : 0 < c ∧ c ≤ q) (hd : 1 ≤ d ∧ d ≤ 2048) : -2047 ≤ clampC q (satSub c (size2048 d)) ∧ clampC q (satSub c (size2048 d)) ≤ q := by
  have hz : size2048 d = d := by rcases size_cases d with h | h | h <;> omega
  have hs : satSub c d = c - d := by
    unfold satSub
    rw [hold_in (x := c) (by omega) (by omega), hold_in (x := d) (by omega) (by omega), hold_in (by omega) (by omega)]
  rw [hz, hs]
  unfold clampC
  repeat' split
  all_goals omega

set_option maxHeartbeats 1000000 in
theorem creditLives_any (w : World) :
    Calls Try.prog 24 #[] w fun e w' => e = .returned (.bool true) ∧ Below w.heap.size w w' := by
  have e1 : clampC 500 (satAdd 0 500) = 500 := by decide +kernel
  have e2 : visitsV (clampC 500 (satSub 500 (size2048 1200))) 500 = 2 := by decide +kernel
  have C1 := Lib.hid (credNew_any w)
  have A1 := Lib.hid (credNew_at w)
  have E1 := Lib.hid e1
  have E2 := Lib.hid e2
  have T0 := Lib.hid (((Touch.refl [] w).alloc (.map #[] 0)).alloc (.cells #[.map (some w.heap.size)] 68))
  clear e1 e2
  go_enter Try.func24, Try.ntmps24
  go_wp2_with fail
  refine (C1.out).mono ?_
  rintro e w' ⟨rfl, rfl⟩
  go_wp2_with fail
  refine (open_new A1.out 1 500 (by exact rfl) rfl (by omega) (by omega)).mono ?_
  rintro e w2 ⟨rfl, a2, t2⟩
  have V := visit_yes a2 1 (by exact rfl) (0, 500) (updC_same _ _ _) (by omega)
  rw [E1.out] at V
  have V := Lib.hid V
  have T2 := Lib.hid (T0.out.trans (S' := [w.heap.size]) t2 (by simp))
  clear a2 t2
  go_wp2_with fail
  refine (V.out).mono ?_
  rintro e w3 ⟨rfl, a3, t3⟩
  have S := Lib.hid (spend_yes a3 1 1200 (by exact rfl) (500, 500) (updC_same _ _ _) (by omega))
  have T3 := Lib.hid (T2.out.trans t3 (by simp))
  clear a3 t3
  go_wp2_with fail
  refine (S.out).mono ?_
  rintro e w4 ⟨rfl, a4, t4⟩
  have N := visits_yes a4 1 (by exact rfl) _ (updC_same _ _ _)
  rw [E2.out] at N
  have N := Lib.hid N
  have T4 := Lib.hid (T3.out.trans t4 (by simp))
  clear a4 t4
  go_wp2_with fail
  refine (N.out).mono ?_
  rintro e w5 ⟨rfl, t5⟩
  have T5 := Lib.hid (T4.out.trans t5 (by simp))
  clear t5
  go_wp2_with fail
  go_ret
  exact ⟨rfl, T5.out.below (by simp) (Nat.le_refl _)⟩
end Go.Proofs.Ytncipngnpdhbjaa
