/-
  Contracts of math/bits.Mul64, sat.size, sat.product, sat.Mul and of the reference's Mul.
-/
import Derived.Test.YtcegpapfcfpblaaSat
import Derived.Laws.Bits64b
import Derived.Lib.SmallJoins
namespace Go.Proofs.Ytcegpapfcfpblaa
open Go.ChangeShapes Go.WideShapes Go.ChangeAt Go.RowKit Go.Joins
set_option linter.unusedVariables false

theorem low32 (a : Nat) (ha : a < 18446744073709551616) : bits .and .u64 (a : Int) 4294967295 = ((a % 4294967296 : Nat) : Int) := by
  have h := u64_and_nat a 4294967295 ha (by omega)
  rw [show a &&& 4294967295 = a % 4294967296 from Nat.and_two_pow_sub_one_eq_mod a 32] at h
  exact h
theorem high32 (a : Nat) : (a : Int) / 4294967296 = ((a / 4294967296 : Nat) : Int) := by omega
theorem castMul (a b : Nat) : (a : Int) * (b : Int) = ((a * b : Nat) : Int) := (Int.natCast_mul a b).symm
theorem castAdd (a b : Nat) : (a : Int) + (b : Int) = ((a + b : Nat) : Int) := (Int.natCast_add a b).symm
theorem wrapIn (a : Nat) (ha : a < 18446744073709551616) : IntKind.u64.wrap (a : Int) = (a : Int) := by rw [IntKind.wrap_u64]; omega
theorem wrapMod (a : Nat) : IntKind.u64.wrap (a : Int) = ((a % 18446744073709551616 : Nat) : Int) := by rw [IntKind.wrap_u64]; omega

set_option maxHeartbeats 1000000 in
theorem mul64_any (x y : Nat) (hx : x < 18446744073709551616) (hy : y < 18446744073709551616) (w : World) :
    Calls Try.prog 60 #[.int .u64 x, .int .u64 y] w fun e w' => e = .returned (.tuple #[.int .u64 ((x * y / 18446744073709551616 : Nat) : Int), .int .u64 ((x * y % 18446744073709551616 : Nat) : Int)]) ∧ w' = w := by
  obtain ⟨b1, b2, b3, hhi⟩ := Lib.mul64_hi x y hx hy
  have p1 := Lib.half_mul_le (a := x / 4294967296) (b := y / 4294967296) (by omega) (by omega)
  have p2 := Lib.half_mul_le (a := x / 4294967296) (b := y % 4294967296) (by omega) (by omega)
  have p3 := Lib.half_mul_le (a := x % 4294967296) (b := y / 4294967296) (by omega) (by omega)
  have q1 : x / 4294967296 * (y / 4294967296) < 18446744073709551616 := by omega
  have q2 : x / 4294967296 * (y % 4294967296) < 18446744073709551616 := by omega
  have q3 : x % 4294967296 * (y / 4294967296) < 18446744073709551616 := by omega
  have q4 : x / 4294967296 * (y / 4294967296) + (x / 4294967296 * (y % 4294967296) + x % 4294967296 * (y % 4294967296) / 4294967296) / 4294967296 < 18446744073709551616 := by omega
  have q5 : x / 4294967296 * (y / 4294967296) + (x / 4294967296 * (y % 4294967296) + x % 4294967296 * (y % 4294967296) / 4294967296) / 4294967296 + ((x / 4294967296 * (y % 4294967296) + x % 4294967296 * (y % 4294967296) / 4294967296) % 4294967296 + x % 4294967296 * (y / 4294967296)) / 4294967296 < 18446744073709551616 := by omega
  have H := Lib.hid hhi
  clear hhi
  go_enter Try.func60, Try.ntmps60
  go_wp2
  simp only [low32 x hx, low32 y hy, high32, castMul, castAdd, wrapIn _ b1, wrapIn _ q2, wrapIn _ b2, low32 _ b2, wrapIn _ q3, wrapIn _ b3, wrapIn _ q1, wrapIn _ q4, wrapIn _ q5, wrapMod (x * y)]
  rw [H.out]
  go_ret2
  exact ⟨rfl, rfl⟩

theorem size_any (x : Int) (w : World) (h : -1152921504606846976 ≤ x ∧ x ≤ 1152921504606846976) :
    Calls Try.prog 47 #[.int .i64 x] w fun e w' => e = .returned (.int .u64 (x.natAbs : Int)) ∧ w' = w := by
  by_cases hn : x < 0
  all_goals
    go_enter Try.func47, Try.ntmps47
    go_wp2
    go_ret
    exact ⟨ret_int (by first | omega | (rw [IntKind.wrap_u64]; omega)), rfl⟩

theorem product_any (x y : Nat) (hx : x < 18446744073709551616) (hy : y < 18446744073709551616) (w : World) :
    Calls Try.prog 46 #[.int .u64 x, .int .u64 y] w fun e w' => e = .returned (.agg #[.int .u64 ((x * y % 18446744073709551616 : Nat) : Int), .int .u64 ((x * y / 18446744073709551616 : Nat) : Int)]) ∧ Below w.heap.size w w' := by
  go_enter Try.func46, Try.ntmps46
  go_wp2_with (go_at_call 60; refine (mul64_any x y hx hy _).mono ?_; rintro e w' ⟨rfl, rfl⟩)
  refine bodyPost_ret (v := .agg #[.int .u64 ((x * y % 18446744073709551616 : Nat) : Int), .int .u64 ((x * y / 18446744073709551616 : Nat) : Int)]) (by simp [results, Try.results46, go_sem]) rfl ⟨rfl, ?_⟩
  exact below_alloc2 w _ _

/-- .. its halves by name. -/
theorem product_of (x y : Nat) (lo hi : Int) (hx : x < 18446744073709551616) (hy : y < 18446744073709551616) (hl : ((x * y % 18446744073709551616 : Nat) : Int) = lo) (hh : ((x * y / 18446744073709551616 : Nat) : Int) = hi) (w : World) :
    Calls Try.prog 46 #[.int .u64 x, .int .u64 y] w fun e w' => e = .returned (.agg #[.int .u64 lo, .int .u64 hi]) ∧ Below w.heap.size w w' := by
  subst hl hh
  exact product_any x y hx hy w

def mulAbs (p : Nat) : Int := if (p : Int) < 1152921504606846976 then p else 1152921504606846976

theorem mulAbs_zero : mulAbs 0 = 0 := by unfold mulAbs; rw [if_pos (by omega)]; rfl
theorem mulAbs_bd (p : Nat) : 0 ≤ mulAbs p ∧ mulAbs p ≤ 1152921504606846976 := by unfold mulAbs; split <;> omega

theorem mul_math (a b : Int) : satMul a b = if (hold a < 0) ≠ (hold b < 0) then -mulAbs ((hold a).natAbs * (hold b).natAbs) else mulAbs ((hold a).natAbs * (hold b).natAbs) := by
  unfold satMul
  generalize hold a = x
  generalize hold b = y
  have key : ∀ u v : Nat, hold ((u : Int) * (v : Int)) = mulAbs (u * v) := by
    intro u v
    rw [← Int.natCast_mul]
    unfold mulAbs
    split
    · exact hold_in (by omega) (by omega)
    · exact hold_up (by omega)
  rcases Int.natAbs_eq x with hx | hx <;> rcases Int.natAbs_eq y with hy | hy
  all_goals
    generalize x.natAbs = u at *
    generalize y.natAbs = v at *
    subst hx hy
  · rw [key, if_neg]
    simp
    omega
  · rw [Int.mul_neg, hold_neg, key]
    by_cases hv : v = 0
    · subst hv; simp [mulAbs_zero]
    · rw [if_pos]
      simp
      omega
  · rw [Int.neg_mul, hold_neg, key]
    by_cases hv : u = 0
    · subst hv; simp [mulAbs_zero]
    · rw [if_pos]
      simp
      omega
  · rw [Int.neg_mul_neg, key]
    by_cases hu : u = 0
    · subst hu; simp [mulAbs_zero]
    · by_cases hv : v = 0
      · subst hv; simp [mulAbs_zero]
      · rw [if_neg]
        simp
        omega

theorem mul_ways (x y : Nat) (hx : x ≤ 1152921504606846976) (hy : y ≤ 1152921504606846976) : ∃ lo hi : Int, ((x * y % 18446744073709551616 : Nat) : Int) = lo ∧ ((x * y / 18446744073709551616 : Nat) : Int) = hi ∧ 0 ≤ lo ∧ lo < 18446744073709551616 ∧
    ((hi == 0) = true ∧ lo < 1152921504606846976 ∧ mulAbs (x * y) = lo ∨ (hi == 0) = true ∧ ¬ lo < 1152921504606846976 ∧ mulAbs (x * y) = 1152921504606846976 ∨ (hi == 0) = false ∧ mulAbs (x * y) = 1152921504606846976) := by
  refine ⟨_, _, rfl, rfl, by omega, ?_⟩
  generalize x * y = p
  unfold mulAbs
  refine ⟨by omega, ?_⟩
  by_cases h0 : p / 18446744073709551616 = 0
  · rw [h0]
    have : p % 18446744073709551616 = p := by omega
    rw [this]
    by_cases h : (p : Int) < 1152921504606846976
    · exact .inl ⟨rfl, h, if_pos h⟩
    · exact .inr (.inl ⟨rfl, h, if_neg h⟩)
  · exact .inr (.inr ⟨beq_eq_false_iff_ne.2 (by omega), if_neg (by omega)⟩)

set_option maxHeartbeats 1000000 in
theorem mul_any (a b : Int) (w : World) :
    Calls Try.prog 19 #[.int .i64 a, .int .i64 b] w fun e w' => e = .returned (.int .i64 (satMul a b)) ∧ Below w.heap.size w w' := by
  have hm := mul_math a b
  have ha := hold_bd a
  have hb := hold_bd b
  obtain ⟨lo, hi, hlo, hhi, hl0, hl, hw⟩ := mul_ways (hold a).natAbs (hold b).natAbs (by omega) (by omega)
  have bx : (hold a).natAbs < 18446744073709551616 := by omega
  have bY : (hold b).natAbs < 18446744073709551616 := by omega
  have C := fun w => product_of (hold a).natAbs (hold b).natAbs lo hi bx bY hlo hhi w
  have HC := Lib.hid C
  have HM := Lib.hid hm
  clear C hm hlo hhi bx bY
  have h1 := fun w => hold_any a w
  have h2 := fun w => hold_any b w
  have H1 := Lib.hid h1
  have H2 := Lib.hid h2
  clear h1 h2
  generalize satMul a b = r at *
  generalize hold a = x at *
  generalize hold b = y at *
  generalize mulAbs (x.natAbs * y.natAbs) = m at *
  obtain ⟨q, hq⟩ : ∃ q, q = if (x < 0) ≠ (y < 0) then -m else m := ⟨_, rfl⟩
  have HR : Hid (r = q) := hq ▸ HM.out
  clear HM
  rcases (show (decide (x < 0) = true ∧ x < 0) ∨ (decide (x < 0) = false ∧ ¬ x < 0) by by_cases h : x < 0 <;> simp [h]) with ⟨dx, hx⟩ | ⟨dx, hx⟩ <;>
  rcases (show (decide (y < 0) = true ∧ y < 0) ∨ (decide (y < 0) = false ∧ ¬ y < 0) by by_cases h : y < 0 <;> simp [h]) with ⟨dy, hy⟩ | ⟨dy, hy⟩ <;>
  rcases hw with ⟨g1, g2, g3⟩ | ⟨g1, g2, g3⟩ | ⟨g1, g3⟩
  all_goals
    simp only [hx, hy, ne_eq, not_true_eq_false, not_false_eq_true, eq_self, if_true, if_false, true_ne_false, false_ne_true, g3] at hq
    have HQ := Lib.hid hq
    clear hq g3
    go_enter Try.func19, Try.ntmps19
    go_wp2_with fail
    refine (H1.out _).mono ?_
    rintro e w' ⟨rfl, rfl⟩
    go_wp2_with fail
    refine (H2.out _).mono ?_
    rintro e w' ⟨rfl, rfl⟩
    go_wp2_with fail
    refine (size_any _ _ (by omega)).mono ?_
    rintro e w' ⟨rfl, rfl⟩
    go_wp2_with fail
    refine (size_any _ _ (by omega)).mono ?_
    rintro e w' ⟨rfl, rfl⟩
    go_wp2_with fail
    refine (HC.out _).mono ?_
    rintro e w' ⟨rfl, hbel⟩
    go_wp2_with fail
    go_ret
    exact ⟨ret_int (by rw [HR.out, HQ.out]), (hbel.alloc hbel.size _)⟩
end Go.Proofs.Ytcegpapfcfpblaa
