/-
  What the laws of layer 1 (sat) share: Part and Up as total functions, and the law's own example.
-/
import Derived.Test.YtcegpapfcfpblaaSatRefPart
import Derived.Test.YtcegpapfcfpblaaSatRef
import Derived.Test.YtcegpapfcfpblaaSatSum
namespace Go.Proofs.Ytcegpapfcfpblaa
open Go.ChangeShapes Go.WideShapes Go.ChangeAt Go.RowKit Go.Joins
set_option linter.unusedVariables false

theorem bnext {w w1 w2 : World} (h : Below w.heap.size w w1) (k : Below w1.heap.size w1 w2) : Below w.heap.size w w2 := h.trans (k.mono h.size)

def partV (a b c : Int) : Int := if 0 ≤ a ∧ a ≤ 1152921504606846976 ∧ 0 ≤ b ∧ b ≤ 1152921504606846976 ∧ 1 ≤ c ∧ c ≤ 1152921504606846976 then satPart a b c else 0
def upV (a b c : Int) : Int := if 0 ≤ a ∧ a ≤ 1152921504606846976 ∧ 0 ≤ b ∧ b ≤ 1152921504606846976 ∧ 1 ≤ c ∧ c ≤ 1152921504606846976 then satUp a b c else 0

theorem partV_yes {a b c : Int} (h : okParts a b c) : partV a b c = satPart a b c := if_pos h
theorem partV_no {a b c : Int} (h : ¬ okParts a b c) : partV a b c = 0 := if_neg h
theorem upV_yes {a b c : Int} (h : okParts a b c) : upV a b c = satUp a b c := if_pos h
theorem upV_no {a b c : Int} (h : ¬ okParts a b c) : upV a b c = 0 := if_neg h

theorem part_any (a b c : Int) (w : World) :
    Calls Try.prog 22 #[.int .i64 a, .int .i64 b, .int .i64 c] w fun e w' => e = .returned (.int .i64 (partV a b c)) ∧ Below w.heap.size w w' := by
  by_cases h : okParts a b c
  · rw [partV_yes h]; exact part_yes a b c w h
  · rw [partV_no h]; exact part_no a b c w h
theorem up_any (a b c : Int) (w : World) :
    Calls Try.prog 24 #[.int .i64 a, .int .i64 b, .int .i64 c] w fun e w' => e = .returned (.int .i64 (upV a b c)) ∧ Below w.heap.size w w' := by
  by_cases h : okParts a b c
  · rw [upV_yes h]; exact up_yes a b c w h
  · rw [upV_no h]; exact up_no a b c w h

theorem hold_cap (x : Int) (h : 0 ≤ x) : hold (cap2 x) = hold x := by
  unfold cap2
  split
  · rw [hold_up (by omega), hold_up (by omega)]
  · rfl
theorem hold_cap1 (x y : Int) (h : 0 ≤ x) (hy : 0 ≤ y) : hold (cap2 x + y) = hold (x + y) := by
  unfold cap2
  split
  · rw [hold_up (by omega), hold_up (by omega)]
  · rfl

def plus1 (r : Int) : Int := if 0 < r then 1 else 0
theorem refPart_any (a b c : Int) (w : World) :
    Calls Try.prog 23 #[.int .i64 a, .int .i64 b, .int .i64 c] w fun e w' => e = .returned (.int .i64 (partV a b c)) ∧ w' = w := by
  by_cases h : okParts a b c
  · rw [partV_yes h]
    have D1 := Lib.hid (fun w => right_yes a b c w h)
    have hv : satPart a b c = hold (rq a.toNat b.toNat c.toNat) := by
      unfold satPart rq quo
      rw [hold_cap _ (Int.natCast_nonneg _)]
    have HV := Lib.hid hv
    clear hv
    generalize satPart a b c = res at *
    unfold okParts at h
    obtain ⟨m, rfl⟩ := Int.eq_ofNat_of_zero_le h.1
    obtain ⟨n, rfl⟩ := Int.eq_ofNat_of_zero_le h.2.2.1
    obtain ⟨k, rfl⟩ := Int.eq_ofNat_of_zero_le (show 0 ≤ c by omega)
    simp only [Int.toNat_natCast] at HV
    have D2 := Lib.hid (fun w => refpart_go n k (by omega) (by omega) (by omega) m m m w (Nat.le_refl _) rfl (by omega))
    generalize rq m n k = q at *
    generalize rr m n k = r at *
    go_enter Try.func23, Try.ntmps23
    go_wp2_with fail
    refine (D1.out _).mono ?_
    rintro e w' ⟨rfl, rfl⟩
    go_wp2_with fail
    refine (D2.out _).mono ?_
    rintro e w' ⟨rfl, rfl⟩
    go_wp2_with (go_at_call 14; refine (refHold_any _ _).mono ?_; rintro e w' ⟨rfl, rfl⟩)
    go_ret
    exact ⟨ret_int HV.out.symm, rfl⟩
  · rw [partV_no h]
    have D1 := Lib.hid (fun w => right_no a b c w h)
    clear h
    go_enter Try.func23, Try.ntmps23
    go_wp2_with fail
    refine (D1.out _).mono ?_
    rintro e w' ⟨rfl, rfl⟩
    go_wp2_with fail
    go_ret
    exact ⟨rfl, rfl⟩

theorem refUp_any (a b c : Int) (w : World) :
    Calls Try.prog 25 #[.int .i64 a, .int .i64 b, .int .i64 c] w fun e w' => e = .returned (.int .i64 (upV a b c)) ∧ w' = w := by
  by_cases h : okParts a b c
  · rw [upV_yes h]
    have D1 := Lib.hid (fun w => right_yes a b c w h)
    have hv : satUp a b c = hold (rq a.toNat b.toNat c.toNat + plus1 (rr a.toNat b.toNat c.toNat)) := by
      unfold satUp rq rr quo rem plus1
      rw [hold_cap1 _ _ (Int.natCast_nonneg _) (by split <;> omega)]
      congr 2
      by_cases hm : 0 < a.toNat * b.toNat % c.toNat
      · rw [if_pos hm, if_pos (by omega)]
      · rw [if_neg hm, if_neg (by omega)]
    have HV := Lib.hid hv
    clear hv
    generalize satUp a b c = res at *
    unfold okParts at h
    obtain ⟨m, rfl⟩ := Int.eq_ofNat_of_zero_le h.1
    obtain ⟨n, rfl⟩ := Int.eq_ofNat_of_zero_le h.2.2.1
    obtain ⟨k, rfl⟩ := Int.eq_ofNat_of_zero_le (show 0 ≤ c by omega)
    simp only [Int.toNat_natCast] at HV
    have D2 := Lib.hid (fun w => refpart_go n k (by omega) (by omega) (by omega) m m m w (Nat.le_refl _) rfl (by omega))
    have bq := rq_bd m n k
    generalize rq m n k = q at *
    generalize rr m n k = r at *
    by_cases hr : 0 < r
    · have hw : hold (q + plus1 r) = hold (q + 1) := by unfold plus1; rw [if_pos hr]
      have HW := Lib.hid (HV.out.trans hw)
      clear hw HV
      go_enter Try.func25, Try.ntmps25
      go_wp2_with fail
      refine (D1.out _).mono ?_
      rintro e w' ⟨rfl, rfl⟩
      go_wp2_with fail
      refine (D2.out _).mono ?_
      rintro e w' ⟨rfl, rfl⟩
      go_wp2_with (go_at_call 14; refine (refHold_any _ _).mono ?_; rintro e w' ⟨rfl, rfl⟩)
      go_ret
      exact ⟨ret_int HW.out.symm, rfl⟩
    · have hw : hold (q + plus1 r) = hold q := by unfold plus1; rw [if_neg hr, Int.add_zero]
      have HW := Lib.hid (HV.out.trans hw)
      clear hw HV
      go_enter Try.func25, Try.ntmps25
      go_wp2_with fail
      refine (D1.out _).mono ?_
      rintro e w' ⟨rfl, rfl⟩
      go_wp2_with fail
      refine (D2.out _).mono ?_
      rintro e w' ⟨rfl, rfl⟩
      go_wp2_with (go_at_call 14; refine (refHold_any _ _).mono ?_; rintro e w' ⟨rfl, rfl⟩)
      go_ret
      exact ⟨ret_int HW.out.symm, rfl⟩
  · rw [upV_no h]
    have D1 := Lib.hid (fun w => right_no a b c w h)
    clear h
    go_enter Try.func25, Try.ntmps25
    go_wp2_with fail
    refine (D1.out _).mono ?_
    rintro e w' ⟨rfl, rfl⟩
    go_wp2_with fail
    go_ret
    exact ⟨rfl, rfl⟩

theorem satLives_any (w : World) :
    Calls Try.prog 21 #[] w fun e w' => e = .returned (.bool true) ∧ Below w.heap.size w w' := by
  have e1 : satAdd 1152921504606846976 1 = 1152921504606846976 := by
    unfold satAdd
    rw [hold_in (x := 1152921504606846976) (by omega) (by omega), hold_in (x := 1) (by omega) (by omega), hold_up (by omega)]
  have e2 : partV 7 3 2 = 10 := by
    rw [partV_yes (by unfold okParts; omega)]
    exact hold_in (x := 10) (by omega) (by omega)
  have e3 : upV 7 3 2 = 11 := by
    rw [upV_yes (by unfold okParts; omega)]
    exact hold_in (x := 11) (by omega) (by omega)
  have C1 := fun w => add_any 1152921504606846976 1 w
  have C2 := fun w => part_any 7 3 2 w
  have C3 := fun w => up_any 7 3 2 w
  rw [e1] at C1
  rw [e2] at C2
  rw [e3] at C3
  have D1 := Lib.hid C1
  have D2 := Lib.hid C2
  have D3 := Lib.hid C3
  clear C1 C2 C3 e1 e2 e3
  go_enter Try.func21, Try.ntmps21
  go_wp2_with fail
  refine (D1.out _).mono ?_
  rintro e w' ⟨rfl, rfl⟩
  go_wp2_with fail
  refine (D2.out _).mono ?_
  rintro e w1 ⟨rfl, hb1⟩
  go_wp2_with fail
  refine (D3.out _).mono ?_
  rintro e w2 ⟨rfl, hb2⟩
  go_wp2_with fail
  go_ret
  exact ⟨rfl, bnext hb1 hb2⟩
end Go.Proofs.Ytcegpapfcfpblaa
