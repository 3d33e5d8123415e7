/-
  Contracts of share.Units and of the reference's Units: the nearest number of units, ties to even.
-/
import Derived.Test.YtcfogoepoghedaaShareLess
import Derived.Deep.LoopGhost
namespace Go.Proofs.Ytcfogoepoghedaa
open Go.ChangeShapes Go.WideShapes Go.ChangeAt Go.RowKit
set_option linter.unusedVariables false

theorem V_one : V 4607182418800017408 = 2 ^ U := by
  have h := V_pow 1023 (by omega)
  rw [show 1023 * 4503599627370496 = 4607182418800017408 by omega, show 51 + 1023 = U by rw [hU]] at h
  exact h
theorem V_le {r s : Nat} (h : r ≤ s) : V r ≤ V s := by
  rcases Nat.lt_or_eq_of_le h with h | h
  · exact Nat.le_of_lt (V_lt h)
  · rw [h]; exact Nat.le_refl _

theorem mul_whole_eq (m a b u : Nat) (hba : m * 2 ^ b = m * 2 ^ a) (hu : u = 1074) : m * 4503599627370496 * 2 ^ (a + 1043) = m * 2 ^ (b + 20) * 2 ^ (u + 1) := by
  obtain ⟨f, hf⟩ : ∃ f, f = 52 := ⟨_, rfl⟩
  obtain ⟨g, hg⟩ : ∃ g, g = 1043 := ⟨_, rfl⟩
  have e52 : (4503599627370496 : Nat) = 2 ^ f := by rw [hf]
  have e : f + (a + g) = a + (20 + (u + 1)) := by omega
  rw [← hg]
  rw [Nat.pow_add 2 b 20, ← Nat.mul_assoc m, hba, e52, Nat.mul_assoc m, ← Nat.pow_add, Nat.mul_assoc, ← Nat.pow_add, Nat.mul_assoc, ← Nat.pow_add, e]

/-- A share times the whole: exact. -/
theorem times_whole (x : Nat) (h : rung x ≤ 4607182418800017408) : ∃ s, s < 9218868437227405312 ∧ V s = V (rung x) * 2 ^ 20 ∧ floatBits .mul .f64 x 4697254411347427328 = some (FloatKind.f64.format.word (sgn x) s) := by
  obtain ⟨m, a, ex, vx, hm⟩ := read_fin x (by omega)
  have hu := hU
  have h1 : FloatKind.f64.format.read 4697254411347427328 = .number false 4503599627370496 (-1074 + ((1043 - 1 : Nat) : Int)) := read_pow 1043 (by omega) (by omega)
  have ha : a ≤ 1074 ∨ m = 0 := by
    rcases Nat.eq_zero_or_pos m with h0 | h0
    · exact .inr h0
    · left
      have h2 := V_le h
      rw [V_one, ← vx] at h2
      rcases Nat.le_total a U with h3 | h3
      · omega
      · rcases Nat.lt_or_eq_of_le h3 with h3 | h3
        · have : 2 ^ U < 2 ^ a := Nat.pow_lt_pow_right (by omega) h3
          have h4 : 1 * 2 ^ a ≤ m * 2 ^ a := Nat.mul_le_mul_right _ h0
          omega
        · omega
  have key : ∀ b, b ≤ 1074 → m * 2 ^ b = m * 2 ^ a → ∃ s, s < 9218868437227405312 ∧ V s = V (rung x) * 2 ^ 20 ∧ floatBits .mul .f64 x 4697254411347427328 = some (FloatKind.f64.format.word (sgn x) s) := by
    intro b hb hba
    obtain ⟨s, hs, hV, hw⟩ := write_exact (sgn x) (m * 4503599627370496) m (b + 20) (a + 1043) (U + 1) (-1074 + (a : Int) + (-1074 + ((1043 - 1 : Nat) : Int))) (by omega) hm (by omega) (mul_whole_eq m a b U hba hU)
    refine ⟨s, hs, by rw [hV, Nat.pow_add, ← Nat.mul_assoc, hba, vx], ?_⟩
    show FloatKind.f64.format.mul x 4697254411347427328 = _
    unfold Ieee.Format.mul
    rw [ex, h1]
    show some (FloatKind.f64.format.nearest (sgn x ^^ false) (m * 4503599627370496) (-1074 + (a : Int) + (-1074 + ((1043 - 1 : Nat) : Int)))) = _
    rw [Bool.xor_false, hw]
  rcases ha with ha | ha
  · exact key a ha rfl
  · exact key 0 (by omega) (by rw [ha, Nat.zero_mul, Nat.zero_mul])

/-- The nearest whole number as a float. -/
theorem round_word (x k : Nat) (h : rung x < 9218868437227405312) (hk : RE (V (rung x)) U = k) (hk' : k < 9007199254740992) :
    ∃ t, t < 9218868437227405312 ∧ V t = k * 2 ^ U ∧ FloatKind.f64.encode ((FloatKind.f64.decode x).integral .even) = FloatKind.f64.format.word (sgn x) t := by
  have hu := hU
  obtain ⟨t, h1, h2, h3⟩ := write_exact (sgn x) k k U U 0 0 (by omega) hk' (by omega) (by rw [Nat.pow_zero, Nat.mul_one])
  refine ⟨t, h1, h2, ?_⟩
  rw [integral_even x h, hk]
  exact h3
theorem round_run (x : Nat) (h : ¬ isN x) (w : World) : (callFunc 62 #[.float .f64 x]).run Try.prog w = .ok (.value (.float .f64 (FloatKind.f64.encode ((FloatKind.f64.decode x).integral .even)))) w := by
  have e : (callFunc 62 #[.float .f64 x]).run Try.prog w = (Extern.MathFloor.toIntegral (Try.f62.name) .even #[.float .f64 x] >>= fun v => pure (.value v)).run Try.prog w := by kernel_rfl
  rw [e]
  have hd : ∃ d, FloatKind.f64.decode x = d ∧ ∀ s t, d ≠ .nan s t := by
    refine ⟨_, rfl, fun s t g => h ?_⟩
    have g' : FloatKind.f64.format.read x = .nan s t := g
    rcases Nat.lt_or_ge (rung x) 9218868437227405312 with h1 | h1
    · obtain ⟨m, a, ex, _⟩ := read_fin x h1
      rw [ex] at g'
      cases g'
    · rcases Nat.lt_or_eq_of_le h1 with h1 | h1
      · exact h1
      · rw [read_inf x h1.symm] at g'
        cases g'
  obtain ⟨d, hd, hne⟩ := hd
  obtain ⟨N, hN⟩ : ∃ N : Bool → Nat → Sem Value, Extern.MathFloor.toIntegral Try.f62.name .even #[.float .f64 x] =
      (match FloatKind.f64.decode x with | .nan s t => N s t | d => pure (.float .f64 (FloatKind.f64.encode (d.integral .even)))) := ⟨_, rfl⟩
  rw [hN, hd]
  cases d with
  | nan s t => exact absurd rfl (hne s t)
  | number s m i => rfl
  | infinity s => rfl

theorem int_of (x k : Nat) (h : rung x < 9218868437227405312) (hV : V (rung x) = k * 2 ^ U) (hs : sgn x = false ∨ k = 0) (hk : k ≤ 1048577) : floatToIntVal .f64 x .i64 = some (k : Int) := by
  unfold floatToIntVal
  rw [toInt_zero x h, hV, Nat.mul_div_cancel _ (Nat.two_pow_pos _)]
  have e : sV (sgn x) k = (k : Int) := by
    unfold sV
    rcases hs with hs | hs
    · rw [hs]; rfl
    · rw [hs]; split <;> rfl
  rw [e]
  have h1 : IntKind.i64.min = -9223372036854775808 := by decide
  have h2 : IntKind.i64.max = 9223372036854775807 := by decide
  show (if IntKind.i64.min ≤ (k : Int) ∧ (k : Int) ≤ IntKind.i64.max then some (k : Int) else none) = _
  rw [h1, h2, if_pos (by omega)]

/-- What Units counts, of a share that is one. -/
def unitsOf (x : Nat) : Nat := RE (V (rung x) * 2 ^ 20) U
theorem units_le (x : Nat) (h : rung x ≤ 4607182418800017408) : unitsOf x ≤ 1048576 := by
  unfold unitsOf
  refine RE_le _ _ _ ?_
  have h2 := V_le h
  rw [V_one] at h2
  rw [show (1048576 : Nat) = 2 ^ 20 by decide, Nat.mul_comm (2 ^ 20)]
  exact Nat.mul_le_mul_right _ h2

theorem one_cmp (x : Nat) (hx : ¬ isN x) : (FloatKind.f64.format.order x 4607182418800017408 == some .gt) = decide (4607182418800017408 < key x) := by
  rw [order_key x 4607182418800017408 _ hx isN_one key_one]
  rcases Int.lt_trichotomy (key x) 4607182418800017408 with h | h | h
  · rw [cmp_lt h, decide_eq_false (by omega)]; rfl
  · rw [cmp_eq h, decide_eq_false (by omega)]; rfl
  · rw [cmp_gt h, decide_eq_true h]; rfl

/-- The kinds of shares: none, below nought, above one, within. -/
theorem share_ways (x : Nat) (h64 : x < 18446744073709551616) : isN x ∨ (¬ isN x ∧ key x < 0 ∧ (kindOf x = 1 ∨ kindOf x = 2)) ∨ (¬ isN x ∧ 4607182418800017408 < key x ∧ (kindOf x = 5 ∨ kindOf x = 6)) ∨
    (¬ isN x ∧ 0 ≤ key x ∧ key x ≤ 4607182418800017408 ∧ rung x ≤ 4607182418800017408 ∧ (sgn x = false ∨ rung x = 0) ∧ (kindOf x = 3 ∨ kindOf x = 4 ∨ kindOf x = 5)) := by
  rcases kind_ways x h64 with ⟨hn, hk⟩ | ⟨hn, hr, hs, hk⟩ | ⟨hn, hr, hs, hk⟩ | ⟨hn, hr, hs, hk⟩ | ⟨hn, hr, hs, hk⟩ | ⟨hn, hr, hr', hs, hk⟩ | ⟨hn, hr, hr', hs, hk⟩
  · exact .inl hn
  · refine .inr (.inl ⟨hn, ?_, .inl hk⟩); unfold key; rw [hs, hr]; simp
  · refine .inr (.inr (.inl ⟨hn, ?_, .inr hk⟩)); unfold key; rw [hs, hr]; simp
  · refine .inr (.inr (.inr ⟨hn, ?_, ?_, by omega, .inr hr, .inl hk⟩)) <;> (unfold key; rw [hs, hr]; simp)
  · refine .inr (.inr (.inr ⟨hn, ?_, ?_, by omega, .inr hr, .inr (.inl hk)⟩)) <;> (unfold key; rw [hs, hr]; simp)
  · refine .inr (.inl ⟨hn, ?_, .inr hk⟩); unfold key; rw [hs]; simp; omega
  · have hky : key x = rung x := by unfold key; rw [hs]; rfl
    by_cases h1 : rung x ≤ 4607182418800017408
    · exact .inr (.inr (.inr ⟨hn, by omega, by omega, h1, .inl hs, .inr (.inr hk)⟩))
    · exact .inr (.inr (.inl ⟨hn, by omega, .inl hk⟩))
end Go.Proofs.Ytcfogoepoghedaa
