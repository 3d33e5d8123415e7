/-
  Contracts of share.Kind, Same, Less and of the reference's.
-/
import Derived.Test.YtcfogoepoghedaaShare
namespace Go.Proofs.Ytcfogoepoghedaa
open Go.ChangeShapes Go.WideShapes Go.ChangeAt Go.RowKit
set_option linter.unusedVariables false


/-- What the comparisons with nought say of a number. -/
theorem zero_cmp (x : Nat) (hx : ¬ isN x) :
    (FloatKind.f64.format.order x 0 == some .lt) = decide (key x < 0) ∧ (FloatKind.f64.format.order x 0 == some .gt) = decide (0 < key x) ∧ (FloatKind.f64.format.order x 0 == some .eq) = decide (key x = 0) ∧ (FloatKind.f64.format.order x 0 != some .eq) = decide (key x ≠ 0) := by
  rw [order_key x 0 0 hx isN_zero key_zero]
  rcases Int.lt_trichotomy (key x) 0 with h | h | h
  · rw [cmp_lt h, decide_eq_true h, decide_eq_false (by omega), decide_eq_false (by omega), decide_eq_true (by omega)]
    exact ⟨rfl, rfl, rfl, rfl⟩
  · rw [cmp_eq h, decide_eq_false (by omega), decide_eq_false (by omega), decide_eq_true h, decide_eq_false (by omega)]
    exact ⟨rfl, rfl, rfl, rfl⟩
  · rw [cmp_gt h, decide_eq_false (by omega), decide_eq_true h, decide_eq_false (by omega), decide_eq_true (by omega)]
    exact ⟨rfl, rfl, rfl, rfl⟩

def chain5 (i1 i2 l g s : Bool) : Int := if i1 = true then 1 else if i2 = true then 6 else if l = true then 2 else if g = true then 5 else if s = true then 3 else 4
theorem kind_chain (x : Nat) (hx : ¬ isN x) : kindOf x = chain5 (decide (key x < -9218868437227405311)) (decide (9218868437227405311 < key x)) (decide (key x < 0)) (decide (0 < key x)) (sgn x) := by
  unfold isN at hx
  unfold kindOf chain5 key
  rw [if_neg hx]
  cases sgn x <;> simp only [if_true, if_false, Bool.false_eq_true, decide_eq_true_eq]
  all_goals
    repeat' split
  all_goals first | rfl | (exfalso; omega)
theorem kind_nan (x : Nat) (hx : isN x) : kindOf x = 0 := by
  unfold isN at hx
  unfold kindOf
  rw [if_pos hx]

set_option maxHeartbeats 1000000 in
theorem kind_any (x : Nat) (h64 : x < 18446744073709551616) (w : World) :
    Calls Try.prog 61 #[.float .f64 x] w fun e w' => e = .returned (.int .i64 (kindOf x)) ∧ w' = w := by
  by_cases hn : isN x
  · rw [kind_nan x hn]
    have C := Lib.hid (fun w => isNaN_yes x hn w)
    clear hn
    go_enter Try.func61, Try.ntmps61
    go_wp2_with fail
    refine (C.out _).mono ?_
    rintro e w ⟨rfl, rfl⟩
    go_wp2_with fail
    go_ret
    exact ⟨rfl, rfl⟩
  · rw [kind_chain x hn]
    have C := Lib.hid (fun w => isNaN_no x hn w)
    have I1 := Lib.hid (fun w => isInf_minus x hn h64 w)
    have I2 := Lib.hid (fun w => isInf_plus x hn w)
    have S1 := Lib.hid (fun w => signbit_any x h64 w)
    obtain ⟨z1, z2, _, _⟩ := zero_cmp x hn
    clear hn h64
    generalize decide (key x < -9218868437227405311) = i1 at *
    generalize decide (9218868437227405311 < key x) = i2 at *
    generalize decide (key x < 0) = l at *
    generalize decide (0 < key x) = g at *
    generalize sgn x = s at *
    cases i1 <;> cases i2 <;> cases l <;> cases g <;> cases s
    all_goals
      go_enter Try.func61, Try.ntmps61
      go_wp2_with (first
        | (go_at_call 44; (with_reducible refine (C.out _).mono ?_); rintro e w ⟨rfl, rfl⟩)
        | (go_at_call 69; (with_reducible refine (I1.out _).mono ?_); rintro e w ⟨rfl, rfl⟩)
        | (go_at_call 69; (with_reducible refine (I2.out _).mono ?_); rintro e w ⟨rfl, rfl⟩)
        | (go_at_call 70; (with_reducible refine (S1.out _).mono ?_); rintro e w ⟨rfl, rfl⟩))
      go_ret
      exact ⟨rfl, rfl⟩

/-! ### The reference: its sign of a nought, and its kinds -/
theorem one_by_zero (x : Nat) (hr : rung x = 0) : floatBits .quo .f64 4607182418800017408 x = some (FloatKind.f64.format.word (sgn x) 9218868437227405312) := by
  show FloatKind.f64.format.div 4607182418800017408 x = _
  unfold Ieee.Format.div
  have h1 : FloatKind.f64.format.read 4607182418800017408 = .number false 4503599627370496 (-1074 + ((1023 - 1 : Nat) : Int)) := by
    have := read_pow 1023 (by omega) (by omega)
    exact this
  have h2 : FloatKind.f64.format.read x = .number (sgn x) 0 (-1074) := by
    rw [read_small x (by omega), hr]
  rw [h1, h2]
  show some (FloatKind.f64.format.word (false ^^ sgn x) FloatKind.f64.format.infRung) = _
  rw [fInf, Bool.false_xor]

theorem below_any (x : Nat) (hn : ¬ isN x) (w : World) :
    Calls Try.prog 42 #[.float .f64 x] w fun e w' => e = .returned (.bool (sgn x)) ∧ w' = w := by
  obtain ⟨z1, z2, z3, z4⟩ := zero_cmp x hn
  by_cases hr : rung x = 0
  · have hk : key x = 0 := by unfold key; rw [hr]; split <;> rfl
    rw [hk] at z1 z3
    simp only [Int.lt_irrefl, decide_false, decide_true] at z1 z3
    have hq : ∀ w, (binOp .quo 34 (.float .f64 4607182418800017408) (.float .f64 x)).run Try.prog w = .ok (.float .f64 (FloatKind.f64.format.word (sgn x) 9218868437227405312)) w := fun w => run_float_arith w .quo _ .f64 _ _ _ (one_by_zero x hr)
    obtain ⟨w1, w2⟩ := rung_word (sgn x) 9218868437227405312 (by omega)
    have hni : ¬ isN (FloatKind.f64.format.word (sgn x) 9218868437227405312) := by unfold isN; omega
    obtain ⟨y1, _, _, _⟩ := zero_cmp _ hni
    have hky : decide (key (FloatKind.f64.format.word (sgn x) 9218868437227405312) < 0) = sgn x := by
      unfold key
      rw [w1, w2]
      cases sgn x <;> simp
    rw [hky] at y1
    generalize FloatKind.f64.format.word (sgn x) 9218868437227405312 = v at *
    generalize sgn x = s at *
    clear z2 z4 hk hr w1 w2 hni hky
    go_enter Try.func42, Try.ntmps42
    go_wp2
    go_ret
    exact ⟨rfl, rfl⟩
  · have e1 : decide (key x < 0) = sgn x := by
      unfold key
      cases sgn x <;> simp
      omega
    have e2 : decide (key x = 0) = false := by
      unfold key
      cases sgn x <;> simp <;> omega
    rw [e1] at z1
    rw [e2] at z3
    clear z2 z4 e1 e2
    generalize sgn x = s at *
    cases s
    all_goals
      go_enter Try.func42, Try.ntmps42
      go_wp2
      go_ret
      exact ⟨rfl, rfl⟩

def chain4 (f n l s : Bool) : Int := if f = true ∧ l = true then 1 else if f = true then 6 else if n = true ∧ l = true then 2 else if n = true then 5 else if s = true then 3 else 4
theorem kind_chain4 (x : Nat) (hx : ¬ isN x) : kindOf x = chain4 (decide (rung x = 9218868437227405312)) (decide (key x ≠ 0)) (decide (key x < 0)) (sgn x) := by
  unfold isN at hx
  unfold kindOf chain4 key
  rw [if_neg hx]
  cases sgn x <;> simp only [if_true, if_false, Bool.false_eq_true, decide_eq_true_eq]
  all_goals
    repeat' split
  all_goals first | rfl | (exfalso; omega)

/-- Half a number that is not nought is that number just if it is infinite. -/
theorem half_eq (x : Nat) (hn : ¬ isN x) (h0 : key x ≠ 0) (h64 : x < 18446744073709551616) : ∃ r, floatBits .quo .f64 x 4611686018427387904 = some r ∧ (FloatKind.f64.format.order x r == some .eq) = decide (rung x = 9218868437227405312) := by
  have hpos : 0 < rung x := by
    rcases Nat.eq_zero_or_pos (rung x) with h | h
    · exact absurd (by unfold key; rw [h]; split <;> rfl) h0
    · exact h
  by_cases hi : rung x = 9218868437227405312
  · refine ⟨x, ?_, by rw [order_self x hn, decide_eq_true hi]; rfl⟩
    show FloatKind.f64.format.div x 4611686018427387904 = _
    unfold Ieee.Format.div
    have h1 : FloatKind.f64.format.read 4611686018427387904 = .number false 4503599627370496 (-1074 + ((1024 - 1 : Nat) : Int)) := by
      have := read_pow 1024 (by omega) (by omega)
      exact this
    rw [read_inf x hi, h1]
    show some (FloatKind.f64.format.word (sgn x ^^ false) FloatKind.f64.format.infRung) = _
    rw [fInf, Bool.xor_false]
    congr 1
    conv => rhs; rw [word_of x h64, hi]
  · obtain ⟨r, h1, h2, _⟩ := half_ne x hpos (by unfold isN at hn; omega)
    exact ⟨r, h1, by rw [h2, decide_eq_false hi]⟩

end Go.Proofs.Ytcfogoepoghedaa
