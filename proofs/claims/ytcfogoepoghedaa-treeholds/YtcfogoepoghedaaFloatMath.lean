/-
  Plain mathematics of float64 as words: a word is a sign and a rung; the order of words is the order of signed rungs; a number that has a word is rounded to that word.
-/
import Derived.Test.YtcfogoepoghedaaBase
import Derived.Laws.FloatArith
namespace Go.Proofs.Ytcfogoepoghedaa

def rung (x : Nat) : Nat := x % 9223372036854775808
def sgn (x : Nat) : Bool := x / 9223372036854775808 % 2 == 1
def isN (x : Nat) : Prop := 9218868437227405312 < rung x
def key (x : Nat) : Int := if sgn x = true then -(rung x : Int) else rung x
/-- A rung's magnitude, in units of the least one. -/
def V (r : Nat) : Nat := if r < 4503599627370496 then r else (4503599627370496 + r % 4503599627370496) * 2 ^ (r / 4503599627370496 - 1)

theorem fSign : FloatKind.f64.format.signWeight = 9223372036854775808 := by decide
theorem fBin : FloatKind.f64.format.binade = 4503599627370496 := by decide
theorem fInf : FloatKind.f64.format.infRung = 9218868437227405312 := by decide
theorem fLeast : FloatKind.f64.format.leastPlace = -1074 := by decide
theorem fFrac : FloatKind.f64.format.fractionBits = 52 := rfl

theorem read_eq (x : Nat) : FloatKind.f64.format.read x =
    if rung x < 4503599627370496 then .number (sgn x) (rung x) (-1074)
    else if rung x < 9218868437227405312 then .number (sgn x) (4503599627370496 + rung x % 4503599627370496) (-1074 + (rung x / 4503599627370496 - 1 : Nat))
    else if rung x = 9218868437227405312 then .infinity (sgn x) else .nan (sgn x) (rung x - 9218868437227405312) := by
  unfold Ieee.Format.read
  rw [fSign, fBin, fInf, fLeast]
  rfl

theorem read_fin (x : Nat) (h : rung x < 9218868437227405312) : ∃ m a : Nat, FloatKind.f64.format.read x = .number (sgn x) m (-1074 + (a : Int)) ∧ m * 2 ^ a = V (rung x) ∧ m < 9007199254740992 := by
  rw [read_eq]
  unfold V
  by_cases h1 : rung x < 4503599627370496
  · exact ⟨rung x, 0, by simp [h1], by simp [h1], by omega⟩
  · rw [if_neg h1, if_pos h, if_neg h1]
    exact ⟨_, rung x / 4503599627370496 - 1, rfl, rfl, by omega⟩
theorem read_inf (x : Nat) (h : rung x = 9218868437227405312) : FloatKind.f64.format.read x = .infinity (sgn x) := by
  rw [read_eq, if_neg (by omega), if_neg (by omega), if_pos h]
theorem read_nan (x : Nat) (h : isN x) : ∃ t, FloatKind.f64.format.read x = .nan (sgn x) t := by
  unfold isN at h
  rw [read_eq, if_neg (by omega), if_neg (by omega), if_neg (by omega)]
  exact ⟨_, rfl⟩

theorem V_zero : V 0 = 0 := by unfold V; rw [if_pos (by omega)]
theorem V_succ (r : Nat) : V r < V (r + 1) := by
  unfold V
  by_cases h1 : r + 1 < 4503599627370496
  · rw [if_pos (by omega), if_pos h1]; omega
  · rw [if_neg h1]
    by_cases h2 : r < 4503599627370496
    · rw [if_pos h2]
      have e : r + 1 = 4503599627370496 := by omega
      rw [e]
      simp
      omega
    · rw [if_neg h2]
      by_cases h3 : r % 4503599627370496 + 1 < 4503599627370496
      · have e1 : (r + 1) % 4503599627370496 = r % 4503599627370496 + 1 := by omega
        have e2 : (r + 1) / 4503599627370496 = r / 4503599627370496 := by omega
        rw [e1, e2]
        exact Nat.mul_lt_mul_of_pos_right (by omega) (Nat.two_pow_pos _)
      · have e1 : (r + 1) % 4503599627370496 = 0 := by omega
        have e2 : (r + 1) / 4503599627370496 = r / 4503599627370496 - 1 + 1 + 1 := by omega
        rw [e1, e2, Nat.add_sub_cancel, Nat.pow_succ, Nat.mul_comm (2 ^ _) 2, ← Nat.mul_assoc]
        exact Nat.mul_lt_mul_of_pos_right (by omega) (Nat.two_pow_pos _)
theorem V_lt {r s : Nat} (h : r < s) : V r < V s := by
  induction s with
  | zero => omega
  | succ s ih =>
    rcases Nat.lt_succ_iff_lt_or_eq.1 h with h | h
    · exact Nat.lt_trans (ih h) (V_succ s)
    · rw [h]; exact V_succ s
theorem V_lt_iff {r s : Nat} : V r < V s ↔ r < s := by
  refine ⟨fun h => ?_, V_lt⟩
  rcases Nat.lt_or_ge r s with h1 | h1
  · exact h1
  · rcases Nat.lt_or_eq_of_le h1 with h2 | h2
    · have := V_lt h2; omega
    · rw [h2] at h; omega
theorem V_inj {r s : Nat} (h : V r = V s) : r = s := by
  rcases Nat.lt_trichotomy r s with h1 | h1 | h1
  · have := V_lt h1; omega
  · exact h1
  · have := V_lt h1; omega

def sV (s : Bool) (n : Nat) : Int := if s = true then -(n : Int) else n
theorem sV_cmp (s t : Bool) (r u : Nat) : compare (sV s (V r)) (sV t (V u)) = compare (sV s r) (sV t u) := by
  have h1 := @V_lt_iff r u
  have h2 := @V_lt_iff u r
  have z1 := @V_lt_iff 0 r
  have z2 := @V_lt_iff 0 u
  rw [V_zero] at z1 z2
  have h3 : V r = V u ↔ r = u := ⟨V_inj, fun h => by rw [h]⟩
  generalize V r = a at *
  generalize V u = b at *
  unfold sV
  simp only [compare, compareOfLessAndEq]
  cases s <;> cases t <;> simp only [if_true, if_false, Bool.false_eq_true]
  all_goals
    repeat' split
  all_goals first | rfl | (exfalso; omega)

theorem signed_eq (s : Bool) (m u : Nat) : Ieee.signed s m u = sV s (m * 2 ^ u) := by
  unfold Ieee.signed sV
  rw [Nat.shiftLeft_eq]
theorem sV_scale (s t : Bool) (a b k : Nat) : compare (sV s (a * 2 ^ k)) (sV t (b * 2 ^ k)) = compare (sV s a) (sV t b) := by
  have hk : 0 < 2 ^ k := Nat.two_pow_pos k
  have h1 : a * 2 ^ k < b * 2 ^ k ↔ a < b := Nat.mul_lt_mul_right hk
  have h2 : b * 2 ^ k < a * 2 ^ k ↔ b < a := Nat.mul_lt_mul_right hk
  have z1 : 0 < a * 2 ^ k ↔ 0 < a := Nat.mul_pos_iff_of_pos_right hk
  have z2 : 0 < b * 2 ^ k ↔ 0 < b := Nat.mul_pos_iff_of_pos_right hk
  generalize a * 2 ^ k = a' at *
  generalize b * 2 ^ k = b' at *
  unfold sV
  simp only [compare, compareOfLessAndEq]
  cases s <;> cases t <;> simp only [if_true, if_false, Bool.false_eq_true]
  all_goals
    repeat' split
  all_goals first | rfl | (exfalso; omega)

/-- Two numbers, neither of them a NaN, stand as their signed rungs do. -/
theorem order_num (x y : Nat) (hx : ¬ isN x) (hy : ¬ isN y) : FloatKind.f64.format.order x y = some (compare (key x) (key y)) := by
  unfold isN at hx hy
  have kx : key x = sV (sgn x) (rung x) := rfl
  have ky : key y = sV (sgn y) (rung y) := rfl
  unfold Ieee.Format.order
  rcases Nat.lt_or_ge (rung x) 9218868437227405312 with fx | fx
  · obtain ⟨m, a, ex, vx, _⟩ := read_fin x fx
    rcases Nat.lt_or_ge (rung y) 9218868437227405312 with fy | fy
    · obtain ⟨n, b, ey, vy, _⟩ := read_fin y fy
      rw [ex, ey, kx, ky, ← sV_cmp, ← vx, ← vy]
      show some (compare (Ieee.signed _ _ _) (Ieee.signed _ _ _)) = _
      rw [signed_eq, signed_eq]
      congr 1
      rcases Nat.le_total a b with hab | hab
      · have e1 : (-1074 + (a : Int) - min (-1074 + (a : Int)) (-1074 + (b : Int))).toNat = 0 := by omega
        have e2 : (-1074 + (b : Int) - min (-1074 + (a : Int)) (-1074 + (b : Int))).toNat = b - a := by omega
        rw [e1, e2, ← sV_scale _ _ _ _ a, Nat.mul_assoc, Nat.mul_assoc, ← Nat.pow_add, ← Nat.pow_add, Nat.zero_add, Nat.sub_add_cancel hab]
      · have e1 : (-1074 + (a : Int) - min (-1074 + (a : Int)) (-1074 + (b : Int))).toNat = a - b := by omega
        have e2 : (-1074 + (b : Int) - min (-1074 + (a : Int)) (-1074 + (b : Int))).toNat = 0 := by omega
        rw [e1, e2, ← sV_scale _ _ _ _ b, Nat.mul_assoc, Nat.mul_assoc, ← Nat.pow_add, ← Nat.pow_add, Nat.zero_add, Nat.sub_add_cancel hab]
    · have ey := read_inf y (by omega)
      rw [ex, ey, kx, ky]
      show some _ = some _
      congr 1
      unfold sV
      simp only [compare, compareOfLessAndEq]
      cases sgn x <;> cases sgn y <;> simp only [if_true, if_false, Bool.false_eq_true]
      all_goals
        repeat' split
      all_goals first | rfl | (exfalso; omega)
  · have ex := read_inf x (by omega)
    rcases Nat.lt_or_ge (rung y) 9218868437227405312 with fy | fy
    · obtain ⟨n, b, ey, vy, _⟩ := read_fin y fy
      rw [ex, ey, kx, ky]
      show some _ = some _
      congr 1
      unfold sV
      simp only [compare, compareOfLessAndEq]
      cases sgn x <;> cases sgn y <;> simp only [if_true, if_false, Bool.false_eq_true]
      all_goals
        repeat' split
      all_goals first | rfl | (exfalso; omega)
    · have ey := read_inf y (by omega)
      rw [ex, ey, kx, ky]
      show some (compare _ _) = some _
      congr 1
      unfold sV
      simp only [compare, compareOfLessAndEq]
      cases sgn x <;> cases sgn y <;> simp only [if_true, if_false, Bool.false_eq_true, Bool.toNat_true, Bool.toNat_false]
      all_goals
        repeat' split
      all_goals first | rfl | (exfalso; omega)
theorem order_nan (x y : Nat) (h : isN x ∨ isN y) : FloatKind.f64.format.order x y = none := by
  unfold Ieee.Format.order
  rcases h with h | h
  · obtain ⟨t, e⟩ := read_nan x h
    rw [e]
    cases FloatKind.f64.format.read y <;> rfl
  · obtain ⟨t, e⟩ := read_nan y h
    rw [e]
    cases FloatKind.f64.format.read x <;> rfl

/-! ### Rounding -/

/-- A whole number of gaps is cut to that number. -/
theorem cut_whole (neg : Bool) (k d : Nat) : Ieee.Toward.even.cut neg (k * 2 ^ d) d = k := by
  unfold Ieee.Toward.cut
  rcases Nat.eq_zero_or_pos k with rfl | hk
  · simp [Nat.shiftLeft_eq]
  · have hl : d ≤ (k * 2 ^ d).log2 := (Nat.le_log2 (by have := Nat.two_pow_pos d; exact Nat.ne_of_gt (Nat.mul_pos hk this))).2 (Nat.le_mul_of_pos_left _ hk)
    rw [Nat.min_eq_left (by omega), Nat.shiftLeft_eq, Nat.one_mul]
    simp [Nat.mul_div_cancel _ (Nat.two_pow_pos d)]

theorem log2_of {n e : Nat} (h1 : 2 ^ e ≤ n) (h2 : n < 2 ^ (e + 1)) : n.log2 = e := by
  have hn : n ≠ 0 := by have := Nat.two_pow_pos e; omega
  have a := (Nat.le_log2 hn).2 h1
  have b := (Nat.log2_lt hn).2 h2
  omega

theorem word_eq (neg : Bool) (r : Nat) : FloatKind.f64.format.word neg r = if neg = true then 9223372036854775808 + r else r := by
  unfold Ieee.Format.word
  rw [fSign]

/-- A number that a finite rung has is rounded to that rung. -/
theorem nearest_exact (neg : Bool) (mag s p q : Nat) (place : Int) (hp : place + 1074 = (p : Int) - q) (hs : s < 9218868437227405312) (h : mag * 2 ^ p = V s * 2 ^ q) :
    FloatKind.f64.format.nearest neg mag place = FloatKind.f64.format.word neg s := by
  rcases Nat.eq_zero_or_pos s with rfl | hpos
  · rw [V_zero, Nat.zero_mul] at h
    have hm : mag = 0 := by
      rcases Nat.mul_eq_zero.1 h with h | h
      · exact h
      · have := Nat.two_pow_pos p; omega
    unfold Ieee.Format.nearest
    rw [if_pos hm]
  · have hV : 0 < V s := by have := V_lt hpos; rw [V_zero] at this; exact this
    have hm : mag ≠ 0 := by
      rintro rfl
      rw [Nat.zero_mul] at h
      have := Nat.mul_pos hV (Nat.two_pow_pos q)
      omega
    -- the significand and its exponent
    obtain ⟨f, e, hf, hse, hbig⟩ : ∃ f e : Nat, V s = f * 2 ^ e ∧ s = e * 4503599627370496 + f ∧ (f < 9007199254740992 ∧ (e = 0 ∨ 4503599627370496 ≤ f)) := by
      unfold V
      by_cases h1 : s < 4503599627370496
      · exact ⟨s, 0, by simp [h1], by omega, by omega, .inl rfl⟩
      · rw [if_neg h1]
        exact ⟨_, _, rfl, by omega, by omega, .inr (by omega)⟩
    have hfpos : 0 < f := by
      rcases Nat.eq_zero_or_pos f with rfl | hh
      · rw [Nat.zero_mul] at hf; omega
      · exact hh
    -- the number's greatest digit
    obtain ⟨L, hL1, hL2⟩ : ∃ L, 2 ^ L ≤ f ∧ f < 2 ^ (L + 1) := ⟨f.log2, Nat.log2_self_le (by omega), Nat.lt_log2_self⟩
    have hL52 : L ≤ 52 := by
      rcases Nat.lt_or_ge 52 L with hh | hh
      · have : 2 ^ 53 ≤ 2 ^ L := Nat.pow_le_pow_right (by omega) hh
        have e53 : (2 : Nat) ^ 53 = 9007199254740992 := by decide
        omega
      · exact hh
    have hLe : e = 0 ∨ L = 52 := by
      rcases hbig.2 with h0 | h0
      · exact .inl h0
      · right
        rcases Nat.lt_or_ge L 52 with hh | hh
        · have : 2 ^ (L + 1) ≤ 2 ^ 52 := Nat.pow_le_pow_right (by omega) hh
          have e52 : (2 : Nat) ^ 52 = 4503599627370496 := by decide
          omega
        · omega
    have hprod : mag * 2 ^ p = f * 2 ^ (e + q) := by rw [h, hf, Nat.mul_assoc, ← Nat.pow_add]
    have hlog : mag.log2 + p = L + e + q := by
      have h1 : (mag * 2 ^ p).log2 = mag.log2 + p := by
        refine log2_of ?_ ?_
        · rw [Nat.pow_add]; exact Nat.mul_le_mul_right _ (Nat.log2_self_le hm)
        · rw [show mag.log2 + p + 1 = (mag.log2 + 1) + p by omega, Nat.pow_add]; exact Nat.mul_lt_mul_of_pos_right Nat.lt_log2_self (Nat.two_pow_pos _)
      have h2 : (f * 2 ^ (e + q)).log2 = L + (e + q) := by
        refine log2_of ?_ ?_
        · rw [Nat.pow_add]; exact Nat.mul_le_mul_right _ hL1
        · rw [show L + (e + q) + 1 = (L + 1) + (e + q) by omega, Nat.pow_add 2 (L + 1) (e + q)]; exact Nat.mul_lt_mul_of_pos_right hL2 (Nat.two_pow_pos _)
      rw [hprod, h2] at h1
      omega
    have hlast : max (place + (mag.log2 : Int) - 52) (-1074) = -1074 + e := by omega
    unfold Ieee.Format.nearest
    rw [if_neg hm, fLeast, fFrac, fBin, fInf]
    show FloatKind.f64.format.word neg (min ((max (place + (mag.log2 : Int) - ((52 : Nat) : Int)) (-1074) - (-1074)).toNat * 4503599627370496 + Ieee.Toward.even.cut neg (mag <<< (place - max (place + (mag.log2 : Int) - ((52 : Nat) : Int)) (-1074)).toNat) (max (place + (mag.log2 : Int) - ((52 : Nat) : Int)) (-1074) - place).toNat) 9218868437227405312) = _
    rw [show ((52 : Nat) : Int) = 52 from rfl, hlast]
    have hkept : Ieee.Toward.even.cut neg (mag <<< (place - (-1074 + (e : Int))).toNat) (-1074 + (e : Int) - place).toNat = f := by
      rw [Nat.shiftLeft_eq]
      rcases Nat.le_total (e + q) p with hle | hle
      · -- the number is not finer than what is kept
        have e1 : (place - (-1074 + (e : Int))).toNat = p - (e + q) := by omega
        have e2 : (-1074 + (e : Int) - place).toNat = 0 := by omega
        have hmf : mag * 2 ^ (p - (e + q)) = f := by
          have : mag * 2 ^ (p - (e + q)) * 2 ^ (e + q) = f * 2 ^ (e + q) := by rw [Nat.mul_assoc, ← Nat.pow_add, Nat.sub_add_cancel hle, hprod]
          exact Nat.eq_of_mul_eq_mul_right (Nat.two_pow_pos _) this
        rw [e1, e2, hmf]
        have := cut_whole neg f 0
        rwa [Nat.pow_zero, Nat.mul_one] at this
      · have e1 : (place - (-1074 + (e : Int))).toNat = 0 := by omega
        have e2 : (-1074 + (e : Int) - place).toNat = e + q - p := by omega
        have hmf : mag = f * 2 ^ (e + q - p) := by
          have : mag * 2 ^ p = f * 2 ^ (e + q - p) * 2 ^ p := by rw [Nat.mul_assoc, ← Nat.pow_add, Nat.sub_add_cancel hle, hprod]
          exact Nat.eq_of_mul_eq_mul_right (Nat.two_pow_pos _) this
        rw [e1, e2, Nat.pow_zero, Nat.mul_one, hmf, cut_whole]
    rw [hkept]
    have e3 : (-1074 + (e : Int) - -1074).toNat = e := by omega
    rw [e3, ← hse, Nat.min_eq_left (by omega)]

/-- Every number of at most 53 digits, in units of the least one, has a rung. -/
theorem rung_of (a b : Nat) (ha : a < 9007199254740992) : ∃ s, V s = a * 2 ^ b := by
  rcases Nat.eq_zero_or_pos a with rfl | hpos
  · exact ⟨0, by rw [V_zero, Nat.zero_mul]⟩
  · obtain ⟨L, hL1, hL2⟩ : ∃ L, 2 ^ L ≤ a ∧ a < 2 ^ (L + 1) := ⟨a.log2, Nat.log2_self_le (by omega), Nat.lt_log2_self⟩
    have hL52 : L ≤ 52 := by
      rcases Nat.lt_or_ge 52 L with hh | hh
      · have : 2 ^ 53 ≤ 2 ^ L := Nat.pow_le_pow_right (by omega) hh
        have e53 : (2 : Nat) ^ 53 = 9007199254740992 := by decide
        omega
      · exact hh
    have e52 : (2 : Nat) ^ 52 = 4503599627370496 := by decide
    rcases Nat.le_total (L + b) 52 with hle | hle
    · have hlt : a * 2 ^ b < 9007199254740992 := by
        have h1 : a * 2 ^ b < 2 ^ (L + 1) * 2 ^ b := Nat.mul_lt_mul_of_pos_right hL2 (Nat.two_pow_pos _)
        rw [← Nat.pow_add] at h1
        have h2 : 2 ^ (L + 1 + b) ≤ 2 ^ 53 := Nat.pow_le_pow_right (by omega) (by omega)
        have e53 : (2 : Nat) ^ 53 = 9007199254740992 := by decide
        omega
      refine ⟨a * 2 ^ b, ?_⟩
      generalize a * 2 ^ b = n at *
      unfold V
      by_cases h1 : n < 4503599627370496
      · rw [if_pos h1]
      · rw [if_neg h1]
        have e1 : n / 4503599627370496 - 1 = 0 := by omega
        rw [e1, Nat.pow_zero, Nat.mul_one]
        omega
    · have hm1 : 4503599627370496 ≤ a * 2 ^ (52 - L) := by
        rw [← e52, show 2 ^ 52 = 2 ^ L * 2 ^ (52 - L) by rw [← Nat.pow_add]; congr 1; omega]
        exact Nat.mul_le_mul_right _ hL1
      have hm2 : a * 2 ^ (52 - L) < 9007199254740992 := by
        have h1 : a * 2 ^ (52 - L) < 2 ^ (L + 1) * 2 ^ (52 - L) := Nat.mul_lt_mul_of_pos_right hL2 (Nat.two_pow_pos _)
        rw [← Nat.pow_add, show L + 1 + (52 - L) = 53 by omega] at h1
        have e53 : (2 : Nat) ^ 53 = 9007199254740992 := by decide
        omega
      refine ⟨(L + b - 52) * 4503599627370496 + a * 2 ^ (52 - L), ?_⟩
      have hab : a * 2 ^ b = a * 2 ^ (52 - L) * 2 ^ (L + b - 52) := by rw [Nat.mul_assoc, ← Nat.pow_add]; congr 2; omega
      rw [hab]
      generalize a * 2 ^ (52 - L) = n at *
      generalize L + b - 52 = k at *
      unfold V
      rw [if_neg (by omega)]
      have e1 : (k * 4503599627370496 + n) / 4503599627370496 - 1 = k := by omega
      have e2 : 4503599627370496 + (k * 4503599627370496 + n) % 4503599627370496 = n := by omega
      rw [e1, e2]
end Go.Proofs.Ytcfogoepoghedaa
