/-
  Plain arithmetic of layer 2 (ewma): floors of halves, steps of an average. No program.
-/
import Derived.Test.YtinbicpefhnmnaaSatMath
namespace Go.Proofs.Ytinbicpefhnmnaa

theorem hold_idem (x : Int) : hold (hold x) = hold x := hold_in (hold_bd x).1 (hold_bd x).2

def floorV (x w : Int) : Int := if 0 ≤ w ∧ w ≤ 62 then x / ((2 ^ w.toNat : Nat) : Int) else 0
theorem floorV_no {x w : Int} (h : ¬ (0 ≤ w ∧ w ≤ 62)) : floorV x w = 0 := if_neg h
theorem floorV_yes {x : Int} {k : Nat} (h : k ≤ 62) : floorV x k = x / ((2 ^ k : Nat) : Int) := by
  unfold floorV
  rw [if_pos (by omega), Int.toNat_natCast]
theorem pow_pos2 (k : Nat) : (0 : Int) < ((2 ^ k : Nat) : Int) := by
  have := Nat.two_pow_pos k
  omega
theorem div_in (x d : Int) (hd : 0 < d) : (0 ≤ x → 0 ≤ x / d ∧ x / d ≤ x) ∧ (x ≤ 0 → x ≤ x / d ∧ x / d ≤ 0) := by
  refine ⟨fun h => ⟨Int.ediv_nonneg h (by omega), Int.ediv_le_self d h⟩, fun h => ⟨?_, ?_⟩⟩
  · rw [Int.le_ediv_iff_mul_le hd]
    calc x * d ≤ x * 1 := Int.mul_le_mul_of_nonpos_left h (by omega)
      _ = x := Int.mul_one x
  · have := Int.ediv_le_ediv hd h
    simpa using this
theorem floorV_in (x w : Int) : (0 ≤ x → 0 ≤ floorV x w ∧ floorV x w ≤ x) ∧ (x ≤ 0 → x ≤ floorV x w ∧ floorV x w ≤ 0) := by
  unfold floorV
  split
  · exact div_in x _ (pow_pos2 _)
  · omega
theorem floorV_fits (x w : Int) (h : -9223372036854775808 ≤ x ∧ x ≤ 9223372036854775807) : -9223372036854775808 ≤ floorV x w ∧ floorV x w ≤ 9223372036854775807 := by
  have := floorV_in x w
  omega
/-- One half more. -/
theorem half_next (x : Int) (i : Nat) : x / ((2 ^ (i + 1) : Nat) : Int) = x / ((2 ^ i : Nat) : Int) / 2 := by
  rw [Nat.pow_succ, Int.natCast_mul, Int.ediv_ediv_of_nonneg (by have := pow_pos2 i; omega)]
  rfl

theorem tdiv_below (y : Int) (h : y < 0) : y.tdiv 2 = -((-y) / 2) := by
  obtain ⟨z, rfl⟩ : ∃ z, y = -z := ⟨-y, by omega⟩
  rw [Int.neg_tdiv, Int.tdiv_eq_ediv_of_nonneg (by omega), Int.neg_neg]
theorem tmod_below (y : Int) (h : y < 0) : y.tmod 2 = -((-y) % 2) := by
  obtain ⟨z, rfl⟩ : ∃ z, y = -z := ⟨-y, by omega⟩
  rw [Int.neg_tmod, Int.tmod_eq_emod_of_nonneg (by omega), Int.neg_neg]
theorem even_below {y : Int} (h : y < 0) (h' : y % 2 = 0) : (y.tmod 2 != 0) = false ∧ y.tdiv 2 = y / 2 := by
  rw [tmod_below y h, tdiv_below y h]
  constructor
  · simp; omega
  · omega
theorem odd_below {y : Int} (h : y < 0) (h' : ¬ y % 2 = 0) : (y.tmod 2 != 0) = true ∧ (y - 1).tdiv 2 = y / 2 := by
  rw [tmod_below y h, tdiv_below (y - 1) (by omega)]
  constructor
  · simp; omega
  · omega

def stepV (avg x w : Int) : Int := if 0 ≤ w ∧ w ≤ 16 then satAdd avg (floorV (satSub x avg) w) else hold avg
theorem stepV_yes {avg x w : Int} (h : 0 ≤ w ∧ w ≤ 16) : stepV avg x w = satAdd avg (floorV (satSub x avg) w) := if_pos h
theorem stepV_no {avg x w : Int} (h : ¬ (0 ≤ w ∧ w ≤ 16)) : stepV avg x w = hold avg := if_neg h
theorem stepV_bd (avg x w : Int) : -1152921504606846976 ≤ stepV avg x w ∧ stepV avg x w ≤ 1152921504606846976 := by
  unfold stepV
  split
  · exact hold_bd _
  · exact hold_bd _

/-- A step leads from what is held of the average towards what is held of the sample, never beyond. -/
theorem stepV_between (avg x w : Int) : (hold avg ≤ hold x → hold avg ≤ stepV avg x w ∧ stepV avg x w ≤ hold x) ∧ (hold x ≤ hold avg → hold x ≤ stepV avg x w ∧ stepV avg x w ≤ hold avg) := by
  have ha := hold_bd avg
  have hx := hold_bd x
  unfold stepV
  split
  · have hf := floorV_in (satSub x avg) w
    have hd : (0 ≤ hold x - hold avg → 0 ≤ satSub x avg ∧ satSub x avg ≤ hold x - hold avg) ∧ (hold x - hold avg ≤ 0 → hold x - hold avg ≤ satSub x avg ∧ satSub x avg ≤ 0) := by
      unfold satSub hold
      repeat' split
      all_goals omega
    have hs : -1152921504606846976 ≤ satSub x avg ∧ satSub x avg ≤ 1152921504606846976 := hold_bd _
    generalize satSub x avg = d at *
    generalize floorV d w = f at *
    unfold satAdd
    generalize hold avg = a at *
    generalize hold x = b at *
    constructor
    · intro h
      rw [hold_in (x := f) (by omega) (by omega), hold_in (by omega) (by omega)]
      omega
    · intro h
      rw [hold_in (x := f) (by omega) (by omega), hold_in (by omega) (by omega)]
      omega
  · omega

def restV (avg x w : Int) : Nat → Int
  | 0 => avg
  | n + 1 => stepV (restV avg x w n) x w
theorem restV_bd (avg x w : Int) (n : Nat) (h : -9223372036854775808 ≤ avg ∧ avg ≤ 9223372036854775807) : -9223372036854775808 ≤ restV avg x w n ∧ restV avg x w n ≤ 9223372036854775807 := by
  cases n with
  | zero => exact h
  | succ n => have := stepV_bd (restV avg x w n) x w; simp only [restV]; omega
/-- From the first step on, the averages go on towards the sample. -/
theorem restV_on (avg x w : Int) (n m : Nat) : (hold avg ≤ hold x → hold avg ≤ restV avg x w (n + 1) ∧ restV avg x w (n + 1) ≤ restV avg x w (n + 1 + m) ∧ restV avg x w (n + 1 + m) ≤ hold x) ∧
    (hold x ≤ hold avg → restV avg x w (n + 1) ≤ hold avg ∧ restV avg x w (n + 1 + m) ≤ restV avg x w (n + 1) ∧ hold x ≤ restV avg x w (n + 1 + m)) := by
  have first : ∀ n, (hold avg ≤ hold x → hold avg ≤ restV avg x w (n + 1) ∧ restV avg x w (n + 1) ≤ hold x) ∧ (hold x ≤ hold avg → restV avg x w (n + 1) ≤ hold avg ∧ hold x ≤ restV avg x w (n + 1)) := by
    intro n
    induction n with
    | zero => have := stepV_between avg x w; simp only [restV]; omega
    | succ n ih =>
      have hb := stepV_bd (restV avg x w n) x w
      have hs := stepV_between (restV avg x w (n + 1)) x w
      rw [hold_in (x := restV avg x w (n + 1)) (by simp only [restV]; omega) (by simp only [restV]; omega)] at hs
      rw [show restV avg x w (n + 1 + 1) = stepV (restV avg x w (n + 1)) x w from rfl]
      omega
  induction m with
  | zero => have := first n; simp only [Nat.add_zero]; omega
  | succ m ih =>
    have hb := stepV_bd (restV avg x w (n + m)) x w
    have hs := stepV_between (restV avg x w (n + 1 + m)) x w
    have e : restV avg x w (n + 1 + m) = stepV (restV avg x w (n + m)) x w := by rw [show n + 1 + m = n + m + 1 by omega]; rfl
    rw [hold_in (x := restV avg x w (n + 1 + m)) (by omega) (by omega)] at hs
    rw [show restV avg x w (n + 1 + (m + 1)) = stepV (restV avg x w (n + 1 + m)) x w from rfl]
    omega

/-- The samples of a list, one after the other. -/
def runV (avg w : Int) (X : Nat → Int) : Nat → Int
  | 0 => avg
  | n + 1 => stepV (runV avg w X n) (X n) w
theorem runV_bd (avg w : Int) (X : Nat → Int) (n : Nat) (h : -9223372036854775808 ≤ avg ∧ avg ≤ 9223372036854775807) : -9223372036854775808 ≤ runV avg w X n ∧ runV avg w X n ≤ 9223372036854775807 := by
  cases n with
  | zero => exact h
  | succ n => have := stepV_bd (runV avg w X n) (X n) w; simp only [runV]; omega

def awayV (avg : Int) (k : Nat) : Int := -avg * ((2 ^ k : Nat) : Int) + avg
theorem awayV_bd {avg : Int} {k : Nat} (h1 : -1099511627776 ≤ avg) (h2 : avg ≤ -1) (hk : k ≤ 16) : 0 ≤ awayV avg k ∧ awayV avg k ≤ 72057594037927936 := by
  have hp : ((2 ^ k : Nat) : Int) ≤ 65536 := by have := Nat.pow_le_pow_right (n := 2) (by omega) hk; omega
  have h0 := pow_pos2 k
  unfold awayV
  generalize ((2 ^ k : Nat) : Int) = p at *
  have a1 : -avg * 1 ≤ -avg * p := Int.mul_le_mul_of_nonneg_left (by omega) (by omega)
  have a2 : -avg * p ≤ -avg * 65536 := Int.mul_le_mul_of_nonneg_left (by omega) (by omega)
  omega
/-- A sample brings a negative average to 0 or above exactly from awayV on. -/
theorem away_iff {avg x : Int} {k : Nat} (h1 : -1099511627776 ≤ avg) (h2 : avg ≤ -1) (hk : k ≤ 16) (x1 : -1 ≤ x) (x2 : x ≤ 144115188075855872) : 0 ≤ stepV avg x k ↔ awayV avg k ≤ x := by
  rw [stepV_yes (by omega), floorV_yes (by omega)]
  unfold satSub satAdd awayV
  rw [hold_in (x := x) (by omega) (by omega), hold_in (x := avg) (by omega) (by omega), hold_in (x := x - avg) (by omega) (by omega)]
  have h0 := pow_pos2 k
  generalize ((2 ^ k : Nat) : Int) = p at *
  have hd := div_in (x - avg) p h0
  rw [hold_in (x := (x - avg) / p) (by omega) (by omega), hold_in (by omega) (by omega)]
  have hi := Int.le_ediv_iff_mul_le (a := -avg) (b := x - avg) h0
  omega
end Go.Proofs.Ytinbicpefhnmnaa
