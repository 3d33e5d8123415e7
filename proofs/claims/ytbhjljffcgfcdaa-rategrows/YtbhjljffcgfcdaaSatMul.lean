/-
  Contracts of math/bits.Mul64, sat.size, sat.product, sat.Mul and of the reference's Mul.
-/
import Derived.Test.YtbhjljffcgfcdaaSat
import Derived.Laws.Bits64b
import Derived.Lib.SmallJoins
namespace Go.Proofs.Ytbhjljffcgfcdaa
open Go.ChangeShapes Go.WideShapes Go.ChangeAt Go.RowKit Go.Joins
set_option linter.unusedVariables false

theorem low32 (a : Nat) (ha : a < 18446744073709551616) : bits .and .u64 (a : Int) 4294967295 = ((a % 4294967296 : Nat) : Int) := by
  have h := u64_and_nat a 4294967295 ha (by omega)
  rw [show a &&& 4294967295 = a % 4294967296 from Nat.and_two_pow_sub_one_eq_mod a 32] at h
  exact h
theorem high32 (a : Nat) : (a : Int) / 4294967296 = ((a / 4294967296 : Nat) : Int) := by omega
theorem castMul (a b : Nat) : (a : Int) * (b : Int) = ((a * b : Nat) : Int) := (Int.natCast_mul a b).symm
theorem castAdd (a b : Nat) : (a : Int) + (b : Int) = ((a + b : Nat) : Int) := (Int.natCast_add a b).symm
theorem wrapIn (a : Nat) (ha : a < 18446744073709551616) : IntKind.u64.wrap (a : Int) = (a : Int) := by rw [IntKind.wrap_u64]; omega
theorem wrapMod (a : Nat) : IntKind.u64.wrap (a : Int) = ((a % 18446744073709551616 : Nat) : Int) := by rw [IntKind.wrap_u64]; omega

set_option maxHeartbeats 1000000 in
theorem mul64_any (x y : Nat) (hx : x < 18446744073709551616) (hy : y < 18446744073709551616) (w : World) :
    Calls Try.prog 62 #[.int .u64 x, .int .u64 y] w fun e w' => e = .returned (.tuple #[.int .u64 ((x * y / 18446744073709551616 : Nat) : Int), .int .u64 ((x * y % 18446744073709551616 : Nat) : Int)]) ∧ w' = w := by
  obtain ⟨b1, b2, b3, hhi⟩ := Lib.mul64_hi x y hx hy
  have p1 := Lib.half_mul_le (a := x / 4294967296) (b := y / 4294967296) (by omega) (by omega)
  have p2 := Lib.half_mul_le (a := x / 4294967296) (b := y % 4294967296) (by omega) (by omega)
  have p3 := Lib.half_mul_le (a := x % 4294967296) (b := y / 4294967296) (by omega) (by omega)
  have q1 : x / 4294967296 * (y / 4294967296) < 18446744073709551616 := by omega
  have q2 : x / 4294967296 * (y % 4294967296) < 18446744073709551616 := by omega
  have q3 : x % 4294967296 * (y / 4294967296) < 18446744073709551616 := by omega
  have q4 : x / 4294967296 * (y / 4294967296) + (x / 4294967296 * (y % 4294967296) + x % 4294967296 * (y % 4294967296) / 4294967296) / 4294967296 < 18446744073709551616 := by omega
  have q5 : x / 4294967296 * (y / 4294967296) + (x / 4294967296 * (y % 4294967296) + x % 4294967296 * (y % 4294967296) / 4294967296) / 4294967296 + ((x / 4294967296 * (y % 4294967296) + x % 4294967296 * (y % 4294967296) / 4294967296) % 4294967296 + x % 4294967296 * (y / 4294967296)) / 4294967296 < 18446744073709551616 := by omega
  have H := Lib.hid hhi
  clear hhi
  go_enter Try.func62, Try.ntmps62
  go_wp2
  simp only [low32 x hx, low32 y hy, high32, castMul, castAdd, wrapIn _ b1, wrapIn _ q2, wrapIn _ b2, low32 _ b2, wrapIn _ q3, wrapIn _ b3, wrapIn _ q1, wrapIn _ q4, wrapIn _ q5, wrapMod (x * y)]
  rw [H.out]
  go_ret2
  exact ⟨rfl, rfl⟩

theorem product_any (x y : Nat) (hx : x < 18446744073709551616) (hy : y < 18446744073709551616) (w : World) :
    Calls Try.prog 59 #[.int .u64 x, .int .u64 y] w fun e w' => e = .returned (.agg #[.int .u64 ((x * y % 18446744073709551616 : Nat) : Int), .int .u64 ((x * y / 18446744073709551616 : Nat) : Int)]) ∧ Below w.heap.size w w' := by
  go_enter Try.func59, Try.ntmps59
  go_wp2_with (go_at_call 62; refine (mul64_any x y hx hy _).mono ?_; rintro e w' ⟨rfl, rfl⟩)
  refine bodyPost_ret (v := .agg #[.int .u64 ((x * y % 18446744073709551616 : Nat) : Int), .int .u64 ((x * y / 18446744073709551616 : Nat) : Int)]) (by simp [results, Try.results59, go_sem]) rfl ⟨rfl, ?_⟩
  exact below_alloc2 w _ _

/-- .. its halves by name. -/
theorem product_of (x y : Nat) (lo hi : Int) (hx : x < 18446744073709551616) (hy : y < 18446744073709551616) (hl : ((x * y % 18446744073709551616 : Nat) : Int) = lo) (hh : ((x * y / 18446744073709551616 : Nat) : Int) = hi) (w : World) :
    Calls Try.prog 59 #[.int .u64 x, .int .u64 y] w fun e w' => e = .returned (.agg #[.int .u64 lo, .int .u64 hi]) ∧ Below w.heap.size w w' := by
  subst hl hh
  exact product_any x y hx hy w

def mulAbs (p : Nat) : Int := if (p : Int) < 1152921504606846976 then p else 1152921504606846976

theorem mulAbs_zero : mulAbs 0 = 0 := by unfold mulAbs; rw [if_pos (by omega)]; rfl
theorem mulAbs_bd (p : Nat) : 0 ≤ mulAbs p ∧ mulAbs p ≤ 1152921504606846976 := by unfold mulAbs; split <;> omega

theorem mul_math (a b : Int) : satMul a b = if (hold a < 0) ≠ (hold b < 0) then -mulAbs ((hold a).natAbs * (hold b).natAbs) else mulAbs ((hold a).natAbs * (hold b).natAbs) := by
  unfold satMul
  generalize hold a = x
  generalize hold b = y
  have key : ∀ u v : Nat, hold ((u : Int) * (v : Int)) = mulAbs (u * v) := by
    intro u v
    rw [← Int.natCast_mul]
    unfold mulAbs
    split
    · exact hold_in (by omega) (by omega)
    · exact hold_up (by omega)
  rcases Int.natAbs_eq x with hx | hx <;> rcases Int.natAbs_eq y with hy | hy
  all_goals
    generalize x.natAbs = u at *
    generalize y.natAbs = v at *
    subst hx hy
  · rw [key, if_neg]
    simp
    omega
  · rw [Int.mul_neg, hold_neg, key]
    by_cases hv : v = 0
    · subst hv; simp [mulAbs_zero]
    · rw [if_pos]
      simp
      omega
  · rw [Int.neg_mul, hold_neg, key]
    by_cases hv : u = 0
    · subst hv; simp [mulAbs_zero]
    · rw [if_pos]
      simp
      omega
  · rw [Int.neg_mul_neg, key]
    by_cases hu : u = 0
    · subst hu; simp [mulAbs_zero]
    · by_cases hv : v = 0
      · subst hv; simp [mulAbs_zero]
      · rw [if_neg]
        simp
        omega

theorem mul_ways (x y : Nat) (hx : x ≤ 1152921504606846976) (hy : y ≤ 1152921504606846976) : ∃ lo hi : Int, ((x * y % 18446744073709551616 : Nat) : Int) = lo ∧ ((x * y / 18446744073709551616 : Nat) : Int) = hi ∧ 0 ≤ lo ∧ lo < 18446744073709551616 ∧
    ((hi == 0) = true ∧ lo < 1152921504606846976 ∧ mulAbs (x * y) = lo ∨ (hi == 0) = true ∧ ¬ lo < 1152921504606846976 ∧ mulAbs (x * y) = 1152921504606846976 ∨ (hi == 0) = false ∧ mulAbs (x * y) = 1152921504606846976) := by
  refine ⟨_, _, rfl, rfl, by omega, ?_⟩
  generalize x * y = p
  unfold mulAbs
  refine ⟨by omega, ?_⟩
  by_cases h0 : p / 18446744073709551616 = 0
  · rw [h0]
    have : p % 18446744073709551616 = p := by omega
    rw [this]
    by_cases h : (p : Int) < 1152921504606846976
    · exact .inl ⟨rfl, h, if_pos h⟩
    · exact .inr (.inl ⟨rfl, h, if_neg h⟩)
  · exact .inr (.inr ⟨beq_eq_false_iff_ne.2 (by omega), if_neg (by omega)⟩)

end Go.Proofs.Ytbhjljffcgfcdaa
