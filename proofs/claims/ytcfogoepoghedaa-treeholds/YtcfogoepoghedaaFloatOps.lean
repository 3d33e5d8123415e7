/-
  Float64 operations as plain functions on words: to the nearest whole number, times and by powers of two, differences, halves.
-/
import Derived.Test.YtcfogoepoghedaaFloatMath
namespace Go.Proofs.Ytcfogoepoghedaa

theorem rung_word (neg : Bool) (s : Nat) (h : s < 9223372036854775808) : rung (FloatKind.f64.format.word neg s) = s ∧ sgn (FloatKind.f64.format.word neg s) = neg := by
  rw [word_eq]
  unfold rung sgn
  cases neg
  · simp
    omega
  · simp
    omega
theorem word_of (x : Nat) (h : x < 18446744073709551616) : x = FloatKind.f64.format.word (sgn x) (rung x) := by
  rw [word_eq]
  unfold rung sgn
  by_cases hs : x / 9223372036854775808 % 2 = 1
  · simp [hs]; omega
  · simp [hs]; omega
theorem word_lt64 (neg : Bool) (s : Nat) (h : s < 9223372036854775808) : FloatKind.f64.format.word neg s < 18446744073709551616 := by
  rw [word_eq]
  split <;> omega

/-- To the nearest whole number of gaps, and between two to the even one. -/
def RE (n d : Nat) : Nat := n / 2 ^ d + if 2 ^ d < 2 * (n % 2 ^ d) ∨ 2 ^ d = 2 * (n % 2 ^ d) ∧ n / 2 ^ d % 2 = 1 then 1 else 0

theorem cut_even (neg : Bool) (n d : Nat) : Ieee.Toward.even.cut neg n d = RE n d := by
  unfold Ieee.Toward.cut RE
  rcases Nat.le_total d (n.log2 + 2) with h | h
  · rw [Nat.min_eq_left h, Nat.shiftLeft_eq, Nat.one_mul]
    congr 1
    by_cases h1 : 2 ^ d < 2 * (n % 2 ^ d)
    · simp [h1]
    · by_cases h2 : 2 ^ d = 2 * (n % 2 ^ d) ∧ n / 2 ^ d % 2 = 1
      · rw [if_pos (.inr h2)]
        simp [h2.2, ← h2.1]
      · rw [if_neg (by rintro (h | h) <;> contradiction)]
        simp only [h1, decide_false, Bool.false_or]
        rw [show ((2 ^ d == 2 * (n % 2 ^ d)) && (n / 2 ^ d % 2 == 1)) = false by
          rw [Bool.and_eq_false_iff]
          by_cases h3 : 2 ^ d = 2 * (n % 2 ^ d)
          · right; rw [beq_eq_false_iff_ne]; exact fun h4 => h2 ⟨h3, h4⟩
          · left; rw [beq_eq_false_iff_ne]; exact h3]
        rfl
  · rw [Nat.min_eq_right h, Nat.shiftLeft_eq, Nat.one_mul]
    have hn : 2 * n < 2 ^ (n.log2 + 2) := by
      have := @Nat.lt_log2_self n
      rw [Nat.pow_succ] at this ⊢
      rw [Nat.pow_succ]
      omega
    have hd : 2 ^ (n.log2 + 2) ≤ 2 ^ d := Nat.pow_le_pow_right (by omega) h
    dsimp only
    rw [Nat.div_eq_of_lt (show n < 2 ^ (n.log2 + 2) by omega), Nat.mod_eq_of_lt (show n < 2 ^ (n.log2 + 2) by omega), Nat.div_eq_of_lt (show n < 2 ^ d by omega), Nat.mod_eq_of_lt (show n < 2 ^ d by omega)]
    rw [if_neg (by omega)]
    have h1 : ¬ 2 ^ (n.log2 + 2) < 2 * n := by omega
    simp [h1]

theorem cut_zero (neg : Bool) (n d : Nat) : Ieee.Toward.zero.cut neg n d = n / 2 ^ d := by
  unfold Ieee.Toward.cut
  rcases Nat.le_total d (n.log2 + 2) with h | h
  · rw [Nat.min_eq_left h, Nat.shiftLeft_eq, Nat.one_mul]
    rfl
  · rw [Nat.min_eq_right h, Nat.shiftLeft_eq, Nat.one_mul]
    have hn : n < 2 ^ (n.log2 + 2) := by
      have := @Nat.lt_log2_self n
      have h2 : 2 ^ (n.log2 + 1) ≤ 2 ^ (n.log2 + 2) := Nat.pow_le_pow_right (by omega) (by omega)
      omega
    have hd : 2 ^ (n.log2 + 2) ≤ 2 ^ d := Nat.pow_le_pow_right (by omega) h
    dsimp only
    rw [Nat.div_eq_of_lt hn, Nat.div_eq_of_lt (show n < 2 ^ d by omega)]
    rfl

theorem RE_scale (n d k : Nat) : RE (n * 2 ^ k) (d + k) = RE n d := by
  unfold RE
  have hk : 0 < 2 ^ k := Nat.two_pow_pos k
  rw [Nat.pow_add, Nat.mul_div_mul_right _ _ hk, Nat.mul_mod_mul_right, ← Nat.mul_assoc]
  have e1 : 2 ^ d * 2 ^ k < 2 * (n % 2 ^ d) * 2 ^ k ↔ 2 ^ d < 2 * (n % 2 ^ d) := Nat.mul_lt_mul_right hk
  have e2 : 2 ^ d * 2 ^ k = 2 * (n % 2 ^ d) * 2 ^ k ↔ 2 ^ d = 2 * (n % 2 ^ d) := ⟨fun h => Nat.eq_of_mul_eq_mul_right hk h, fun h => congrArg (· * 2 ^ k) h⟩
  simp only [e1, e2]
theorem RE_whole (k d : Nat) : RE (k * 2 ^ d) d = k := by
  unfold RE
  have hd : 0 < 2 ^ d := Nat.two_pow_pos d
  rw [Nat.mul_div_cancel _ hd, Nat.mul_mod_left, if_neg (by omega)]
  rfl
theorem RE_le (n d k : Nat) (h : n ≤ k * 2 ^ d) : RE n d ≤ k := by
  unfold RE
  have hd : 0 < 2 ^ d := Nat.two_pow_pos d
  have hq : n / 2 ^ d ≤ k := by
    rw [← Nat.mul_div_cancel k hd]
    exact Nat.div_le_div_right h
  rcases Nat.lt_or_eq_of_le hq with hq | hq
  · split <;> omega
  · have hm := Nat.div_add_mod' n (2 ^ d)
    rw [hq] at hm
    rw [if_neg (by omega), hq]
    exact Nat.le_refl _

/-- The number of digits behind the point in the least unit. -/
def U : Nat := 1074
theorem hU : U = 1074 := rfl
attribute [irreducible] U

/-- A word's whole number, to the nearest and towards zero. -/
theorem integral_even (x : Nat) (h : rung x < 9218868437227405312) : (FloatKind.f64.decode x).integral .even = .number (sgn x) (RE (V (rung x)) U) 0 := by
  have hu := hU
  obtain ⟨m, a, ex, vx, _⟩ := read_fin x h
  show (FloatKind.f64.format.read x).integral .even = _
  rw [ex]
  show Ieee.Datum.number (sgn x) (Ieee.Toward.even.cut (sgn x) (m <<< (-1074 + (a : Int)).toNat) (-(-1074 + (a : Int))).toNat) 0 = _
  congr 1
  rw [cut_even, Nat.shiftLeft_eq, ← vx]
  rcases Nat.le_total a U with ha | ha
  · have e1 : (-1074 + (a : Int)).toNat = 0 := by omega
    have e2 : (-(-1074 + (a : Int))).toNat = U - a := by omega
    rw [e1, e2, Nat.pow_zero, Nat.mul_one]
    have := RE_scale m (U - a) a
    rw [Nat.sub_add_cancel ha] at this
    exact this.symm
  · have e1 : (-1074 + (a : Int)).toNat = a - U := by omega
    have e2 : (-(-1074 + (a : Int))).toNat = 0 := by omega
    rw [e1, e2]
    have h1 := RE_whole (m * 2 ^ (a - U)) 0
    rw [Nat.pow_zero, Nat.mul_one] at h1
    have h2 := RE_whole (m * 2 ^ (a - U)) U
    rw [Nat.mul_assoc, ← Nat.pow_add, Nat.sub_add_cancel ha] at h2
    rw [h1, h2]
theorem toInt_zero (x : Nat) (h : rung x < 9218868437227405312) : (FloatKind.f64.decode x).toInt .zero = some (sV (sgn x) (V (rung x) / 2 ^ U)) := by
  have hu := hU
  obtain ⟨m, a, ex, vx, _⟩ := read_fin x h
  unfold Ieee.Datum.toInt
  show (match (FloatKind.f64.format.read x).integral .zero with | .number s m _ => some (Ieee.signed s m 0) | _ => none) = _
  rw [ex]
  show some (Ieee.signed (sgn x) (Ieee.Toward.zero.cut (sgn x) (m <<< (-1074 + (a : Int)).toNat) (-(-1074 + (a : Int))).toNat) 0) = _
  rw [signed_eq, cut_zero, Nat.shiftLeft_eq, Nat.pow_zero, Nat.mul_one, ← vx]
  congr 2
  rcases Nat.le_total a U with ha | ha
  · have e1 : (-1074 + (a : Int)).toNat = 0 := by omega
    have e2 : (-(-1074 + (a : Int))).toNat = U - a := by omega
    rw [e1, e2, Nat.pow_zero, Nat.mul_one]
    have : m * 2 ^ a / (2 ^ (U - a) * 2 ^ a) = m / 2 ^ (U - a) := Nat.mul_div_mul_right _ _ (Nat.two_pow_pos a)
    rw [← Nat.pow_add, Nat.sub_add_cancel ha] at this
    exact this.symm
  · have e1 : (-1074 + (a : Int)).toNat = a - U := by omega
    have e2 : (-(-1074 + (a : Int))).toNat = 0 := by omega
    rw [e1, e2, Nat.pow_zero, Nat.div_one]
    have : m * 2 ^ (a - U) * 2 ^ U / 2 ^ U = m * 2 ^ (a - U) := Nat.mul_div_cancel _ (Nat.two_pow_pos _)
    rw [Nat.mul_assoc, ← Nat.pow_add, Nat.sub_add_cancel ha] at this
    exact this.symm

/-- The magnitude of a word with nothing in its fraction field. -/
theorem V_pow (e : Nat) (he : 0 < e) : V (e * 4503599627370496) = 2 ^ (51 + e) := by
  unfold V
  rw [if_neg (by omega)]
  have e1 : e * 4503599627370496 / 4503599627370496 - 1 = e - 1 := by omega
  have e2 : 4503599627370496 + e * 4503599627370496 % 4503599627370496 = 2 ^ 52 := by
    have : (2 : Nat) ^ 52 = 4503599627370496 := by decide
    omega
  rw [e1, e2, ← Nat.pow_add]
  congr 1
  omega

/-- A number of at most 53 digits times a power of two, written. -/
theorem write_exact (neg : Bool) (mag a b p q : Nat) (place : Int) (hp : place + 1074 = (p : Int) - q) (ha : a < 9007199254740992) (hb : b ≤ 2000) (h : mag * 2 ^ p = a * 2 ^ b * 2 ^ q) :
    ∃ s, s < 9218868437227405312 ∧ V s = a * 2 ^ b ∧ FloatKind.f64.format.nearest neg mag place = FloatKind.f64.format.word neg s := by
  obtain ⟨s, hs⟩ := rung_of a b ha
  have hlt : s < 9218868437227405312 := by
    obtain ⟨e, he⟩ : ∃ e, e = 2047 := ⟨_, rfl⟩
    have hV := V_pow e (by omega)
    rw [show 9218868437227405312 = e * 4503599627370496 by omega]
    rw [← V_lt_iff, hs, hV]
    have h53 : a < 2 ^ 53 := by
      have : (2 : Nat) ^ 53 = 9007199254740992 := by decide
      omega
    have h1 : a * 2 ^ b < 2 ^ 53 * 2 ^ b := Nat.mul_lt_mul_of_pos_right h53 (Nat.two_pow_pos _)
    rw [← Nat.pow_add] at h1
    exact Nat.lt_of_lt_of_le h1 (Nat.pow_le_pow_right (by omega) (by omega))
  exact ⟨s, hlt, hs, nearest_exact neg mag s p q place hp hlt (by rw [hs]; exact h)⟩

/-- A whole number as a float. -/
theorem ofInt_exact (n : Nat) (hn : n < 9007199254740992) : ∃ s, s < 9218868437227405312 ∧ V s = n * 2 ^ U ∧ floatOfInt .f64 (n : Int) = s := by
  have hu := hU
  obtain ⟨s, h1, h2, h3⟩ := write_exact false n n U U 0 0 (by omega) hn (by omega) (by rw [Nat.pow_zero, Nat.mul_one])
  refine ⟨s, h1, h2, ?_⟩
  show FloatKind.f64.format.nearest (decide ((n : Int) < 0)) (n : Int).natAbs 0 = s
  rw [show decide ((n : Int) < 0) = false by simp, Int.natAbs_natCast, h3, word_eq]
  rfl

theorem read_pow (e : Nat) (h1 : 0 < e) (h2 : e < 2047) : FloatKind.f64.format.read (e * 4503599627370496) = .number false 4503599627370496 (-1074 + ((e - 1 : Nat) : Int)) := by
  have hr : rung (e * 4503599627370496) = e * 4503599627370496 := by unfold rung; omega
  have hs : sgn (e * 4503599627370496) = false := by
    unfold sgn
    rw [show e * 4503599627370496 / 9223372036854775808 = 0 by omega]
    rfl
  rw [read_eq, hr, hs, if_neg (by omega), if_pos (by omega)]
  have e1 : e * 4503599627370496 % 4503599627370496 = 0 := by omega
  have e2 : e * 4503599627370496 / 4503599627370496 = e := by omega
  rw [e1, e2]
theorem read_small (x : Nat) (h : rung x < 9007199254740992) : FloatKind.f64.format.read x = .number (sgn x) (rung x) (-1074) := by
  rw [read_eq]
  by_cases h1 : rung x < 4503599627370496
  · rw [if_pos h1]
  · rw [if_neg h1, if_pos (by omega)]
    have e1 : rung x / 4503599627370496 - 1 = 0 := by omega
    have e2 : 4503599627370496 + rung x % 4503599627370496 = rung x := by omega
    rw [e1, e2]
    rfl

/-- A quotient by a power of two, ahead of its rounding. -/
theorem quo_pow (s : Bool) (m e : Nat) (i : Int) (hm : m < 9007199254740992) : ∃ more : Nat, 54 ≤ more ∧
    (Ieee.Datum.number s m i).quotient 54 (.number false 4503599627370496 (-1074 + ((e - 1 : Nat) : Int))) = some (.number s (m * 2 ^ (more - 51)) (i + 1074 - ((e - 1 : Nat) : Int) - more - 1)) := by
  have hl : (4503599627370496 : Nat).log2 = 52 := log2_of (by decide) (by decide)
  have hml : m.log2 ≤ 52 := by
    rcases Nat.eq_zero_or_pos m with rfl | hp
    · rw [Nat.log2_zero]; omega
    · have := (Nat.log2_lt (show m ≠ 0 by omega)).2 (show m < 2 ^ 53 by
        have : (2 : Nat) ^ 53 = 9007199254740992 := by decide
        omega)
      omega
  refine ⟨54 + 52 - m.log2, by omega, ?_⟩
  show (if (4503599627370496 : Nat) = 0 then (if m = 0 then none else some (Ieee.Datum.infinity (s ^^ false))) else some (Ieee.Datum.number (s ^^ false) (2 * (m <<< (54 + (4503599627370496 : Nat).log2 - m.log2) / 4503599627370496) + (m <<< (54 + (4503599627370496 : Nat).log2 - m.log2) % 4503599627370496 != 0).toNat) (i - (-1074 + ((e - 1 : Nat) : Int)) - ((54 + (4503599627370496 : Nat).log2 - m.log2 : Nat) : Int) - 1))) = _
  rw [if_neg (by omega), hl]
  generalize hmore : 54 + 52 - m.log2 = more
  have h54 : 54 ≤ more := by omega
  have e1 : m <<< more = m * 2 ^ (more - 52) * 4503599627370496 := by
    rw [Nat.shiftLeft_eq, Nat.mul_assoc, show (4503599627370496 : Nat) = 2 ^ 52 by decide, ← Nat.pow_add, Nat.sub_add_cancel (by omega)]
  rw [e1, Nat.mul_div_cancel _ (by omega), Nat.mul_mod_left]
  have e2 : 2 * (m * 2 ^ (more - 52)) = m * 2 ^ (more - 51) := by
    rw [show more - 51 = more - 52 + 1 by omega, Nat.pow_succ, Nat.mul_left_comm, Nat.mul_comm 2 (2 ^ (more - 52))]
  rw [e2, Bool.xor_false]
  congr 2
  omega

/-- Half a number that is not nought is another one. -/
theorem half_ne (x : Nat) (h0 : 0 < rung x) (h1 : rung x < 9218868437227405312) : ∃ r, FloatKind.f64.format.div x 4611686018427387904 = some r ∧ (FloatKind.f64.format.order x r == some .eq) = false ∧ ¬ isN r := by
  have hy : (4611686018427387904 : Nat) = 1024 * 4503599627370496 := by omega
  have hx : ¬ isN x := by unfold isN; omega
  have fin : ∀ s, s < 9218868437227405312 → s ≠ rung x → ∃ r, some (FloatKind.f64.format.word (sgn x) s) = some r ∧ (FloatKind.f64.format.order x r == some .eq) = false ∧ ¬ isN r := by
    intro s hs hne
    obtain ⟨hw1, hw2⟩ := rung_word (sgn x) s (by omega)
    have hr : ¬ isN (FloatKind.f64.format.word (sgn x) s) := by unfold isN; omega
    refine ⟨_, rfl, ?_, hr⟩
    rw [order_num x _ hx hr]
    unfold key
    rw [hw1, hw2]
    simp only [compare, compareOfLessAndEq]
    cases sgn x <;> simp only [if_true, if_false, Bool.false_eq_true]
    all_goals
      repeat' split
    all_goals first | rfl | (exfalso; omega)
  unfold Ieee.Format.div
  rw [fFrac, hy, read_pow 1024 (by omega) (by omega)]
  rcases Nat.lt_or_ge (rung x) 9007199254740992 with hs | hs
  · rw [read_small x hs]
    obtain ⟨more, h54, hq⟩ := quo_pow (sgn x) (rung x) 1024 (-1074) hs
    rw [hq]
    show ∃ r, some (FloatKind.f64.format.nearest _ _ _) = some r ∧ _
    have hn : FloatKind.f64.format.nearest (sgn x) (rung x * 2 ^ (more - 51)) (-1074 + 1074 - ((1024 - 1 : Nat) : Int) - more - 1) = FloatKind.f64.format.word (sgn x) (RE (rung x) 1) := by
      have hne : rung x * 2 ^ (more - 51) ≠ 0 := Nat.ne_of_gt (Nat.mul_pos h0 (Nat.two_pow_pos _))
      have hlog : (rung x * 2 ^ (more - 51)).log2 = (rung x).log2 + (more - 51) := by
        refine log2_of ?_ ?_
        · rw [Nat.pow_add]; exact Nat.mul_le_mul_right _ (Nat.log2_self_le (by omega))
        · rw [show (rung x).log2 + (more - 51) + 1 = ((rung x).log2 + 1) + (more - 51) by omega, Nat.pow_add]; exact Nat.mul_lt_mul_of_pos_right Nat.lt_log2_self (Nat.two_pow_pos _)
      have hl52 : (rung x).log2 ≤ 52 := by
        have := (Nat.log2_lt (show rung x ≠ 0 by omega)).2 (show rung x < 2 ^ 53 by
          have : (2 : Nat) ^ 53 = 9007199254740992 := by decide
          omega)
        omega
      unfold Ieee.Format.nearest
      rw [if_neg hne, fLeast, fFrac, fBin, fInf, hlog]
      generalize hplace : (-1074 + 1074 - ((1024 - 1 : Nat) : Int) - (more : Int) - 1) = place
      have hl : max (place + (((rung x).log2 + (more - 51) : Nat) : Int) - ((52 : Nat) : Int)) (-1074) = -1074 := by omega
      show FloatKind.f64.format.word (sgn x) (min ((max (place + (((rung x).log2 + (more - 51) : Nat) : Int) - ((52 : Nat) : Int)) (-1074) - (-1074)).toNat * 4503599627370496 + Ieee.Toward.even.cut (sgn x) ((rung x * 2 ^ (more - 51)) <<< (place - max (place + (((rung x).log2 + (more - 51) : Nat) : Int) - ((52 : Nat) : Int)) (-1074)).toNat) (max (place + (((rung x).log2 + (more - 51) : Nat) : Int) - ((52 : Nat) : Int)) (-1074) - place).toNat) 9218868437227405312) = _
      rw [hl, Nat.shiftLeft_eq]
      have e1 : (place - -1074).toNat = 0 := by omega
      have e2 : (-1074 - place).toNat = 1 + (more - 51) := by omega
      have e3 : ((-1074 : Int) - -1074).toNat = 0 := by omega
      rw [e1, e2, e3, Nat.pow_zero, Nat.mul_one, Nat.zero_mul, Nat.zero_add, cut_even, RE_scale]
      have := RE_le (rung x) 1 (rung x) (by omega)
      rw [Nat.min_eq_left (by omega)]
    rw [hn]
    have hle := RE_le (rung x) 1 (rung x) (by omega)
    refine fin _ (by omega) ?_
    unfold RE
    split <;> omega
  · obtain ⟨m, a, ex, vx, hm⟩ := read_fin x h1
    rw [ex]
    obtain ⟨more, h54, hq⟩ := quo_pow (sgn x) m 1024 (-1074 + (a : Int)) hm
    rw [hq]
    show ∃ r, some (FloatKind.f64.format.nearest _ _ _) = some r ∧ _
    have hV : V (rung x) = 2 * V (rung x - 4503599627370496) := by
      unfold V
      rw [if_neg (by omega), if_neg (by omega)]
      have e1 : (rung x - 4503599627370496) % 4503599627370496 = rung x % 4503599627370496 := by omega
      have e2 : rung x / 4503599627370496 - 1 = (rung x - 4503599627370496) / 4503599627370496 - 1 + 1 := by omega
      rw [e1, e2, Nat.pow_succ, Nat.mul_comm (2 ^ _) 2, Nat.mul_left_comm]
    rw [nearest_exact (sgn x) _ (rung x - 4503599627370496) (a + 51) (more + 1) _ (by omega) (by omega) (by
      rw [Nat.mul_assoc, ← Nat.pow_add, show more - 51 + (a + 51) = a + more by omega, Nat.pow_add, ← Nat.mul_assoc, vx, hV, Nat.pow_succ, Nat.mul_comm 2, Nat.mul_assoc, Nat.mul_comm (2 ^ more) 2])]
    exact fin _ (by omega) (by omega)
end Go.Proofs.Ytcfogoepoghedaa
