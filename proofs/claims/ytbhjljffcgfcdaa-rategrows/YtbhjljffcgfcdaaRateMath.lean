/-
  Plain arithmetic of layer 4 (rate): cells, times, and what they have of order. No program's walk.
-/
import Derived.Test.YtbhjljffcgfcdaaSatLaws
namespace Go.Proofs.Ytbhjljffcgfcdaa
set_option linter.unusedVariables false

def cellsV (n : Int) : Int := if n < 1 then 0 else if 2048 < n then 256 else (n + 7) / 8
theorem cellsV_in (n : Int) : 0 ≤ cellsV n ∧ cellsV n ≤ 256 := by
  unfold cellsV
  repeat' split
  all_goals omega
def okRate (tpb units : Int) : Prop := 1 ≤ tpb ∧ tpb ≤ 1048576 ∧ 1 ≤ units ∧ units ≤ 1048576

/-- The ticks of k cells. -/
def timeV (tpb units k : Int) : Int := upV (8 * k * tpb) 1048576 units

/-- The least number whose multiple reaches a product. -/
theorem upV_ceil {a u : Int} (ha : 0 ≤ a ∧ a ≤ 2147483648) (hu : 1 ≤ u ∧ u ≤ 1048576) : 0 ≤ upV a 1048576 u ∧ upV a 1048576 u ≤ 4503599627370496 ∧ a * 1048576 ≤ upV a 1048576 u * u ∧ (0 < upV a 1048576 u → (upV a 1048576 u - 1) * u < a * 1048576) := by
  have hok : okParts a 1048576 u := by unfold okParts; omega
  rw [upV_yes hok]
  obtain ⟨m, rfl⟩ := Int.eq_ofNat_of_zero_le ha.1
  obtain ⟨k, rfl⟩ := Int.eq_ofNat_of_zero_le (show 0 ≤ u by omega)
  unfold satUp quo rem
  simp only [Int.toNat_natCast, show (1048576 : Int).toNat = 1048576 from rfl]
  have hd := Nat.div_add_mod' (m * 1048576) k
  have hm := Nat.mod_lt (m * 1048576) (show k > 0 by omega)
  have hle : m * 1048576 / k ≤ m * 1048576 := Nat.div_le_self _ _
  by_cases h0 : 0 < m * 1048576 % k
  · rw [if_pos h0]
    generalize m * 1048576 / k = q at *
    generalize m * 1048576 % k = r at *
    have hX : (q : Int) * (k : Int) = ((q * k : Nat) : Int) := (Int.natCast_mul _ _).symm
    generalize q * k = x at *
    rw [hold_in (by omega) (by omega), Int.add_mul, Int.one_mul, hX, show ((q : Int) + 1 - 1) = q by omega, hX]
    omega
  · rw [if_neg h0, Int.add_zero]
    generalize m * 1048576 / k = q at *
    generalize m * 1048576 % k = r at *
    have hX : (q : Int) * (k : Int) = ((q * k : Nat) : Int) := (Int.natCast_mul _ _).symm
    generalize q * k = x at *
    rw [hold_in (by omega) (by omega), hX, Int.sub_mul, Int.one_mul, hX]
    omega
/-- .. it is the only one. -/
theorem ceil_le {A x y u v : Int} (hu : 1 ≤ u) (hx : 0 < x → (x - 1) * u < A) (hy : A ≤ y * u) (hy0 : 0 ≤ y) : x ≤ y := by
  rcases Int.lt_or_le 0 x with h | h
  · have h1 := hx h
    rcases Int.lt_or_le y x with g | g
    · exfalso
      have : y * u ≤ (x - 1) * u := Int.mul_le_mul_of_nonneg_right (by omega) (by omega)
      omega
    · exact g
  · omega

section
variable {tpb units : Int}
theorem arg_in (h : okRate tpb units) {k : Int} (hk : 0 ≤ k ∧ k ≤ 256) : 0 ≤ 8 * k * tpb ∧ 8 * k * tpb ≤ 2147483648 := by
  unfold okRate at h
  have h1 : 8 * k * tpb ≤ 8 * k * 1048576 := Int.mul_le_mul_of_nonneg_left (by omega) (by omega)
  have h2 : 0 ≤ 8 * k * tpb := Int.mul_nonneg (by omega) (by omega)
  omega
theorem timeV_in (h : okRate tpb units) {k : Int} (hk : 0 ≤ k ∧ k ≤ 256) : 0 ≤ timeV tpb units k ∧ timeV tpb units k ≤ 4503599627370496 := by
  have := upV_ceil (arg_in h hk) ⟨h.2.2.1, h.2.2.2⟩
  exact ⟨this.1, this.2.1⟩
theorem timeV_mono (h : okRate tpb units) {j k : Int} (hj : 0 ≤ j) (hjk : j ≤ k) (hk : k ≤ 256) : timeV tpb units j ≤ timeV tpb units k := by
  have a := upV_ceil (arg_in h (k := j) (by omega)) ⟨h.2.2.1, h.2.2.2⟩
  have b := upV_ceil (arg_in h (k := k) (by omega)) ⟨h.2.2.1, h.2.2.2⟩
  have hm : 8 * j * tpb ≤ 8 * k * tpb := Int.mul_le_mul_of_nonneg_right (by omega) (by have := h.1; omega)
  exact ceil_le (u := units) (v := 0) h.2.2.1 a.2.2.2 (by have := b.2.2.1; unfold timeV at *; omega) b.1
theorem timeV_strict (h : okRate tpb units) {j k : Int} (hj : 0 ≤ j) (hjk : j < k) (hk : k ≤ 256) : timeV tpb units j < timeV tpb units k := by
  have a := upV_ceil (arg_in h (k := j) (by omega)) ⟨h.2.2.1, h.2.2.2⟩
  have b := upV_ceil (arg_in h (k := k) (by omega)) ⟨h.2.2.1, h.2.2.2⟩
  have h1 := h.1
  have h2 := h.2.2
  have hm : 8 * j * tpb + 8 * tpb ≤ 8 * k * tpb := by
    have : 8 * (j + 1) * tpb ≤ 8 * k * tpb := Int.mul_le_mul_of_nonneg_right (by omega) (by omega)
    rw [show 8 * (j + 1) * tpb = 8 * j * tpb + 8 * tpb by rw [show 8 * (j + 1) = 8 * j + 8 by omega, Int.add_mul]] at this
    exact this
  have hA := (arg_in h (k := j) (by omega)).1
  unfold timeV
  generalize 8 * j * tpb = A at *
  generalize 8 * k * tpb = B at *
  rcases Int.lt_or_le (upV A 1048576 units) (upV B 1048576 units) with g | g
  · exact g
  · exfalso
    rcases Int.lt_or_le 0 (upV A 1048576 units) with p | p
    · have e := a.2.2.2 p
      have : upV B 1048576 units * units ≤ upV A 1048576 units * units := Int.mul_le_mul_of_nonneg_right g (by omega)
      rw [Int.sub_mul, Int.one_mul] at e
      have := b.2.2.1
      omega
    · have : upV B 1048576 units * units ≤ 0 * units := Int.mul_le_mul_of_nonneg_right (by omega) (by omega)
      have := b.2.2.1
      omega
theorem timeV_zero (h : okRate tpb units) : timeV tpb units 0 = 0 := by
  have a := upV_ceil (arg_in h (k := 0) (by omega)) ⟨h.2.2.1, h.2.2.2⟩
  unfold timeV
  rw [show 8 * 0 * tpb = 0 by rw [Int.mul_zero, Int.zero_mul]] at a ⊢
  have h2 := h.2.2
  rcases Int.lt_or_le 0 (upV 0 1048576 units) with p | p
  · have e := a.2.2.2 p
    have : 0 ≤ (upV 0 1048576 units - 1) * units := Int.mul_nonneg (by omega) (by omega)
    omega
  · have := a.1
    omega
end

/-- How many cells come within so many ticks: the greatest number from 0 to 256. -/
def fitsV (tpb units t : Int) : Nat → Nat
  | 0 => 0
  | k + 1 => if timeV tpb units (k + 1) ≤ t then k + 1 else fitsV tpb units t k
theorem fitsV_le (tpb units t : Int) : ∀ n, fitsV tpb units t n ≤ n
  | 0 => Nat.le_refl _
  | n + 1 => by unfold fitsV; split; omega; have := fitsV_le tpb units t n; omega
theorem fitsV_spec {tpb units t : Int} (h : okRate tpb units) (ht : 0 ≤ t) : ∀ n, n ≤ 256 → timeV tpb units (fitsV tpb units t n) ≤ t ∧ ∀ k : Nat, fitsV tpb units t n < k → k ≤ n → t < timeV tpb units k
  | 0, _ => by
    refine ⟨by unfold fitsV; rw [show ((0 : Nat) : Int) = 0 from rfl, timeV_zero h]; exact ht, fun k h1 h2 => ?_⟩
    unfold fitsV at h1
    omega
  | n + 1, hn => by
    unfold fitsV
    split
    · rename_i hle
      exact ⟨by simpa using hle, fun k h1 h2 => by omega⟩
    · rename_i hgt
      obtain ⟨a, b⟩ := fitsV_spec h ht n (by omega)
      refine ⟨a, fun k h1 h2 => ?_⟩
      by_cases hk : k ≤ n
      · exact b k h1 hk
      · obtain rfl : k = n + 1 := by omega
        have : ((n + 1 : Nat) : Int) = (n : Int) + 1 := by omega
        rw [this]
        omega
end Go.Proofs.Ytbhjljffcgfcdaa
