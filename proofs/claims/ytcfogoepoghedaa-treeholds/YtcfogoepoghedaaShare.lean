/-
  Contracts of layer 3 (share) and of its reference: what a float is, whether two are the same, which stands ahead.
-/
import Derived.Test.YtcfogoepoghedaaFloatOps
import Derived.WalkLawsBesides
namespace Go.Proofs.Ytcfogoepoghedaa
open Go.ChangeShapes Go.WideShapes Go.ChangeAt Go.RowKit
set_option linter.unusedVariables false

theorem float_bits (b : Nat) (w : World) : (callFunc 73 #[.float .f64 b]).run Try.prog w = .ok (.value (.int .u64 b)) w := by kernel_rfl
theorem float_of_bits (n : Int) (w : World) : (callFunc 74 #[.int .u64 n]).run Try.prog w = .ok (.value (.float .f64 n.toNat)) w := by kernel_rfl

theorem xor_sign (r : Nat) (h : r < 9223372036854775808) : r ^^^ 9223372036854775808 = 9223372036854775808 + r := by
  have e63 : (9223372036854775808 : Nat) = 2 ^ 63 := by decide
  rw [e63] at h ⊢
  refine Nat.eq_of_testBit_eq fun i => ?_
  rw [Nat.testBit_xor, Nat.testBit_two_pow]
  rcases Nat.lt_trichotomy i 63 with h1 | h1 | h1
  · rw [Nat.testBit_two_pow_add_gt h1, decide_eq_false (by omega), Bool.xor_false]
  · subst h1
    rw [Nat.testBit_two_pow_add_eq]
    simp
  · have h2 : (2 : Nat) ^ 64 ≤ 2 ^ i := Nat.pow_le_pow_right (by omega) h1
    rw [Nat.testBit_lt_two_pow (show r < 2 ^ i by omega), Nat.testBit_lt_two_pow (show 2 ^ 63 + r < 2 ^ i by omega), decide_eq_false (by omega)]
    rfl
theorem neg_word (x : Nat) (hx : x < 18446744073709551616) : Op.negFloat .f64 x = FloatKind.f64.format.word (!sgn x) (rung x) := by
  have e : Op.negFloat .f64 x = x ^^^ 9223372036854775808 := by
    unfold Op.negFloat
    rfl
  rw [e, word_eq]
  unfold sgn rung
  have h := Nat.div_add_mod x 9223372036854775808
  have hm : x % 9223372036854775808 < 9223372036854775808 := Nat.mod_lt _ (by omega)
  generalize x % 9223372036854775808 = r at *
  rcases (show x / 9223372036854775808 = 0 ∨ x / 9223372036854775808 = 1 by omega) with h0 | h0
  · rw [h0] at h ⊢
    obtain rfl : x = r := by omega
    simpa using xor_sign x hm
  · rw [h0] at h ⊢
    obtain rfl : x = 9223372036854775808 + r := by omega
    rw [← xor_sign r hm, Nat.xor_assoc, Nat.xor_self, Nat.xor_zero]
    rfl

/-! ### What a float is -/
def kindOf (x : Nat) : Int :=
  if 9218868437227405312 < rung x then 0
  else if rung x = 9218868437227405312 then (if sgn x = true then 1 else 6)
  else if rung x = 0 then (if sgn x = true then 3 else 4)
  else if sgn x = true then 2 else 5

/-- The seven kinds, with what the comparisons say of each. -/
theorem kind_ways (x : Nat) (hx : x < 18446744073709551616) :
    (isN x ∧ kindOf x = 0) ∨ (¬ isN x ∧ rung x = 9218868437227405312 ∧ sgn x = true ∧ kindOf x = 1) ∨ (¬ isN x ∧ rung x = 9218868437227405312 ∧ sgn x = false ∧ kindOf x = 6) ∨
    (¬ isN x ∧ rung x = 0 ∧ sgn x = true ∧ kindOf x = 3) ∨ (¬ isN x ∧ rung x = 0 ∧ sgn x = false ∧ kindOf x = 4) ∨
    (¬ isN x ∧ 0 < rung x ∧ rung x < 9218868437227405312 ∧ sgn x = true ∧ kindOf x = 2) ∨ (¬ isN x ∧ 0 < rung x ∧ rung x < 9218868437227405312 ∧ sgn x = false ∧ kindOf x = 5) := by
  unfold kindOf isN
  cases sgn x
  all_goals
    by_cases h1 : 9218868437227405312 < rung x
    · left; exact ⟨h1, if_pos h1⟩
    · rw [if_neg h1]
      by_cases h2 : rung x = 9218868437227405312
      · rw [if_pos h2]; simp [h2]
      · rw [if_neg h2]
        by_cases h3 : rung x = 0
        · rw [if_pos h3]; simp [h3]
        · rw [if_neg h3]; simp [h1, h2, h3]; omega

/-- A comparison with a constant that is no NaN. -/
theorem order_key (x y : Nat) (c : Int) (hx : ¬ isN x) (hy : ¬ isN y) (hc : key y = c) : FloatKind.f64.format.order x y = some (compare (key x) c) := by rw [order_num x y hx hy, hc]
theorem cmp_lt {a b : Int} (h : a < b) : compare a b = .lt := by simp only [compare, compareOfLessAndEq]; rw [if_pos h]
theorem cmp_eq {a b : Int} (h : a = b) : compare a b = .eq := by simp only [compare, compareOfLessAndEq]; rw [if_neg (by omega), if_pos h]
theorem cmp_gt {a b : Int} (h : b < a) : compare a b = .gt := by simp only [compare, compareOfLessAndEq]; rw [if_neg (by omega), if_neg (by omega)]

theorem isN_zero : ¬ isN 0 := by unfold isN rung; omega
theorem key_zero : key 0 = 0 := by unfold key sgn rung; simp
theorem isN_max : ¬ isN 9218868437227405311 := by unfold isN rung; omega
theorem key_max : key 9218868437227405311 = 9218868437227405311 := by unfold key sgn rung; simp
theorem isN_one : ¬ isN 4607182418800017408 := by unfold isN rung; omega
theorem key_one : key 4607182418800017408 = 4607182418800017408 := by unfold key sgn rung; simp

theorem order_self (x : Nat) (hx : ¬ isN x) : FloatKind.f64.format.order x x = some .eq := by rw [order_num x x hx hx, cmp_eq rfl]
theorem order_self_nan (x : Nat) (hx : isN x) : FloatKind.f64.format.order x x = none := order_nan x x (.inl hx)

theorem isNaN_yes (x : Nat) (hx : isN x) (w : World) :
    Calls Try.prog 44 #[.float .f64 x] w fun e w' => e = .returned (.bool true) ∧ w' = w := by
  have h := order_self_nan x hx
  go_enter Try.func44, Try.ntmps44
  go_wp2
  go_ret
  exact ⟨rfl, rfl⟩
theorem isNaN_no (x : Nat) (hx : ¬ isN x) (w : World) :
    Calls Try.prog 44 #[.float .f64 x] w fun e w' => e = .returned (.bool false) ∧ w' = w := by
  have h := order_self x hx
  go_enter Try.func44, Try.ntmps44
  go_wp2
  go_ret
  exact ⟨rfl, rfl⟩
theorem none_yes (x : Nat) (hx : isN x) (w : World) :
    Calls Try.prog 41 #[.float .f64 x] w fun e w' => e = .returned (.bool true) ∧ w' = w := by
  have h := order_self_nan x hx
  go_enter Try.func41, Try.ntmps41
  go_wp2
  go_ret
  exact ⟨rfl, rfl⟩
theorem none_no (x : Nat) (hx : ¬ isN x) (w : World) :
    Calls Try.prog 41 #[.float .f64 x] w fun e w' => e = .returned (.bool false) ∧ w' = w := by
  have h := order_self x hx
  go_enter Try.func41, Try.ntmps41
  go_wp2
  go_ret
  exact ⟨rfl, rfl⟩

theorem signbit_any (x : Nat) (hx : x < 18446744073709551616) (w : World) :
    Calls Try.prog 70 #[.float .f64 x] w fun e w' => e = .returned (.bool (sgn x)) ∧ w' = w := by
  have hb := float_bits
  have hs : decide (wrap64 (x : Int) < 0) = sgn x := by
    unfold sgn
    rw [Bool.eq_iff_iff, decide_eq_true_iff, beq_iff_eq]
    unfold wrap64
    omega
  go_enter Try.func70, Try.ntmps70
  go_wp2
  go_ret
  exact ⟨rfl, rfl⟩

theorem isInf_plus (x : Nat) (hx : ¬ isN x) (w : World) :
    Calls Try.prog 69 #[.float .f64 x, .int .i64 1] w fun e w' => e = .returned (.bool (decide (9218868437227405311 < key x))) ∧ w' = w := by
  have ho := order_key x 9218868437227405311 _ hx isN_max key_max
  have hd : (some (compare (key x) 9218868437227405311) == some Ordering.gt) = decide (9218868437227405311 < key x) := by
    rcases Int.lt_trichotomy (key x) 9218868437227405311 with h | h | h
    · rw [cmp_lt h, decide_eq_false (by omega)]; rfl
    · rw [cmp_eq h, decide_eq_false (by omega)]; rfl
    · rw [cmp_gt h, decide_eq_true h]; rfl
  rw [← ho] at hd
  clear ho
  go_enter Try.func69, Try.ntmps69
  go_wp2
  go_ret
  exact ⟨rfl, rfl⟩
theorem isInf_minus (x : Nat) (hx : ¬ isN x) (h64 : x < 18446744073709551616) (w : World) :
    Calls Try.prog 69 #[.float .f64 x, .int .i64 (-1)] w fun e w' => e = .returned (.bool (decide (key x < -9218868437227405311))) ∧ w' = w := by
  have hr : rung x < 9223372036854775808 := Nat.mod_lt _ (by omega)
  obtain ⟨w1, w2⟩ := rung_word (!sgn x) (rung x) hr
  rw [← neg_word x h64] at w1 w2
  have hy : ¬ isN (Op.negFloat .f64 x) := by unfold isN at hx ⊢; rw [w1]; exact hx
  have hk : key (Op.negFloat .f64 x) = -key x := by
    unfold key
    rw [w1, w2]
    cases sgn x <;> simp
  have ho := order_key (Op.negFloat .f64 x) 9218868437227405311 _ hy isN_max key_max
  rw [hk] at ho
  have hd : (some (compare (-key x) 9218868437227405311) == some Ordering.gt) = decide (key x < -9218868437227405311) := by
    rcases Int.lt_trichotomy (-key x) 9218868437227405311 with h | h | h
    · rw [cmp_lt h, decide_eq_false (by omega)]; rfl
    · rw [cmp_eq h, decide_eq_false (by omega)]; rfl
    · rw [cmp_gt h, decide_eq_true (by omega)]; rfl
  rw [← ho] at hd
  have hn : ∀ w, (Op.unary .neg (.float .f64 x)).run Try.prog w = .ok (.float .f64 (Op.negFloat .f64 x)) w := fun _ => rfl
  clear ho hk hy w1 w2
  go_enter Try.func69, Try.ntmps69
  go_wp2
  go_ret
  exact ⟨rfl, rfl⟩
end Go.Proofs.Ytcfogoepoghedaa
