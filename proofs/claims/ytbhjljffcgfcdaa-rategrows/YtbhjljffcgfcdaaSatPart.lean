/-
  Contracts of sat.Part, sat.Up, and of the reference's Part and Up.
-/
import Derived.Test.YtbhjljffcgfcdaaSatDiv
namespace Go.Proofs.Ytbhjljffcgfcdaa
open Go.ChangeShapes Go.WideShapes Go.ChangeAt Go.RowKit Go.Joins
set_option linter.unusedVariables false

def okParts (a b c : Int) : Prop := 0 ≤ a ∧ a ≤ 1152921504606846976 ∧ 0 ≤ b ∧ b ≤ 1152921504606846976 ∧ 1 ≤ c ∧ c ≤ 1152921504606846976

theorem divisible_yes (a b c : Int) (w : World) (h : okParts a b c) :
    Calls Try.prog 57 #[.int .i64 a, .int .i64 b, .int .i64 c] w fun e w' => e = .returned (.bool true) ∧ w' = w := by
  unfold okParts at h
  go_enter Try.func57, Try.ntmps57
  go_wp2
  go_ret
  exact ⟨rfl, rfl⟩
theorem divisible_no (a b c : Int) (w : World) (h : ¬ okParts a b c) :
    Calls Try.prog 57 #[.int .i64 a, .int .i64 b, .int .i64 c] w fun e w' => e = .returned (.bool false) ∧ w' = w := by
  unfold okParts at h
  rcases (show a < 0 ∨ (0 ≤ a ∧ 1152921504606846976 < a) ∨ (0 ≤ a ∧ a ≤ 1152921504606846976 ∧ b < 0) ∨ (0 ≤ a ∧ a ≤ 1152921504606846976 ∧ 0 ≤ b ∧ 1152921504606846976 < b) ∨ (0 ≤ a ∧ a ≤ 1152921504606846976 ∧ 0 ≤ b ∧ b ≤ 1152921504606846976 ∧ c < 1) ∨
    (0 ≤ a ∧ a ≤ 1152921504606846976 ∧ 0 ≤ b ∧ b ≤ 1152921504606846976 ∧ 1 ≤ c ∧ 1152921504606846976 < c) by omega) with g | g | g | g | g | g
  all_goals
    clear h
    go_enter Try.func57, Try.ntmps57
    go_wp2
    go_ret
    exact ⟨by first | rfl | exact ret_bool (by simp; omega), rfl⟩
theorem right_yes (a b c : Int) (w : World) (h : okParts a b c) :
    Calls Try.prog 60 #[.int .i64 a, .int .i64 b, .int .i64 c] w fun e w' => e = .returned (.bool true) ∧ w' = w := by
  unfold okParts at h
  go_enter Try.func60, Try.ntmps60
  go_wp2_with (go_at_call 56; refine (most_any _).mono ?_; rintro e w' ⟨rfl, rfl⟩)
  go_ret
  exact ⟨rfl, rfl⟩
theorem right_no (a b c : Int) (w : World) (h : ¬ okParts a b c) :
    Calls Try.prog 60 #[.int .i64 a, .int .i64 b, .int .i64 c] w fun e w' => e = .returned (.bool false) ∧ w' = w := by
  unfold okParts at h
  rcases (show a < 0 ∨ (0 ≤ a ∧ b < 0) ∨ (0 ≤ a ∧ 0 ≤ b ∧ c < 1) ∨ (0 ≤ a ∧ 0 ≤ b ∧ 1 ≤ c ∧ 1152921504606846976 < a) ∨ (0 ≤ a ∧ 0 ≤ b ∧ 1 ≤ c ∧ a ≤ 1152921504606846976 ∧ 1152921504606846976 < b) ∨
    (0 ≤ a ∧ 0 ≤ b ∧ 1 ≤ c ∧ a ≤ 1152921504606846976 ∧ b ≤ 1152921504606846976 ∧ 1152921504606846976 < c) by omega) with g | g | g | g | g | g
  all_goals
    clear h
    go_enter Try.func60, Try.ntmps60
    go_wp2_with (go_at_call 56; refine (most_any _).mono ?_; rintro e w' ⟨rfl, rfl⟩)
    go_ret
    exact ⟨by first | rfl | exact ret_bool (by simp; omega), rfl⟩

/-- The quotient of a product, down and up, clamped. -/
def quo (a b c : Int) : Nat := a.toNat * b.toNat / c.toNat
def rem (a b c : Int) : Nat := a.toNat * b.toNat % c.toNat
def satPart (a b c : Int) : Int := hold (quo a b c)
def satUp (a b c : Int) : Int := hold (quo a b c + if 0 < rem a b c then 1 else 0)

theorem part_of_res {a b c q : Int} {r : Bool} (h : DivRes (a.toNat * b.toNat) c.toNat q r) : hold q = satPart a b c := by
  obtain ⟨h0, h1, h2, h3⟩ := h
  unfold satPart quo
  by_cases hn : a.toNat * b.toNat / c.toNat ≤ 1152921504606846976
  · rw [(h2 hn).1]
  · rw [hold_up (by have := h3 (by omega); omega), hold_up (by omega)]
theorem up_of_res {a b c q : Int} {r : Bool} (h : DivRes (a.toNat * b.toNat) c.toNat q r) : hold (if r = true then q + 1 else q) = satUp a b c := by
  obtain ⟨h0, h1, h2, h3⟩ := h
  unfold satUp quo rem
  by_cases hn : a.toNat * b.toNat / c.toNat ≤ 1152921504606846976
  · obtain ⟨hq, hr⟩ := h2 hn
    rw [hr, hq]
    congr 1
    by_cases hm : 0 < a.toNat * b.toNat % c.toNat
    · simp [hm]
    · simp [hm]
  · have := h3 (by omega)
    rw [hold_up (by split <;> omega), hold_up (by split <;> omega)]

/-- The two calls that Part and Up share. -/
theorem halves (a b c : Nat) (ha : a ≤ 1152921504606846976) (hb : b ≤ 1152921504606846976) (hc : 0 < c) (hc' : c ≤ 1152921504606846976) : ∃ lo hi : Nat,
    Hid (∀ w, Calls Try.prog 59 #[.int .u64 a, .int .u64 b] w fun e w' => e = .returned (.agg #[.int .u64 lo, .int .u64 hi]) ∧ Below w.heap.size w w') ∧
    Hid (∀ w, Calls Try.prog 58 #[.agg #[.int .u64 lo, .int .u64 hi], .int .u64 c] w (DivPost (a * b) c w)) := by
  have hN := Nat.div_add_mod' (a * b) 18446744073709551616
  have C2 := fun w => product_of a b _ _ (by omega) (by omega) rfl rfl w
  have hlo : a * b % 18446744073709551616 < 18446744073709551616 := Nat.mod_lt _ (by omega)
  have hab : a * b ≤ 1152921504606846976 * 1152921504606846976 := Nat.mul_le_mul ha hb
  have hhi : a * b / 18446744073709551616 < 18446744073709551616 := by
    refine Nat.div_lt_of_lt_mul ?_
    omega
  have C3 := fun w => divide_any (a * b % 18446744073709551616) (a * b / 18446744073709551616) c hlo hhi hc hc' w
  rw [hN] at C3
  exact ⟨_, _, Lib.hid C2, Lib.hid C3⟩

theorem up_yes (a b c : Int) (w : World) (h : okParts a b c) :
    Calls Try.prog 49 #[.int .i64 a, .int .i64 b, .int .i64 c] w fun e w' => e = .returned (.int .i64 (satUp a b c)) ∧ Below w.heap.size w w' := by
  have C1 := fun w => divisible_yes a b c w h
  have D1 := Lib.hid C1
  clear C1
  unfold okParts at h
  have HR := Lib.hid (fun q r => up_of_res (a := a) (b := b) (c := c) (q := q) (r := r))
  generalize satUp a b c = res at *
  obtain ⟨m, rfl⟩ := Int.eq_ofNat_of_zero_le h.1
  obtain ⟨n, rfl⟩ := Int.eq_ofNat_of_zero_le h.2.2.1
  obtain ⟨k, rfl⟩ := Int.eq_ofNat_of_zero_le (show 0 ≤ c by omega)
  simp only [Int.toNat_natCast] at HR
  obtain ⟨lo, hi, D2, D3⟩ := halves m n k (by omega) (by omega) (by omega) (by omega)
  go_enter Try.func49, Try.ntmps49
  go_wp2_with fail
  refine (D1.out _).mono ?_
  rintro e w' ⟨rfl, rfl⟩
  go_wp2_with fail
  refine (D2.out _).mono ?_
  rintro e w1 ⟨rfl, hb1⟩
  go_wp2_with fail
  refine (D3.out _).mono ?_
  rintro e w2 ⟨q, r, hd, rfl, hb2⟩
  have hq : 0 ≤ q ∧ q ≤ 2305843009213693953 := ⟨hd.1, hd.2.1⟩
  have HD := Lib.hid hd
  clear hd
  cases r
  all_goals
    go_wp2_with (go_at_call 41; refine (hold_any _ _).mono ?_; rintro e w' ⟨rfl, rfl⟩)
    go_ret
    exact ⟨ret_int (HR.out q _ HD.out), hb1.trans (hb2.mono hb1.size)⟩

theorem up_no (a b c : Int) (w : World) (h : ¬ okParts a b c) :
    Calls Try.prog 49 #[.int .i64 a, .int .i64 b, .int .i64 c] w fun e w' => e = .returned (.int .i64 0) ∧ Below w.heap.size w w' := by
  have D1 := Lib.hid (fun w => divisible_no a b c w h)
  clear h
  go_enter Try.func49, Try.ntmps49
  go_wp2_with fail
  refine (D1.out _).mono ?_
  rintro e w' ⟨rfl, rfl⟩
  go_wp2_with fail
  go_ret
  exact ⟨rfl, Below.refl _ _⟩
end Go.Proofs.Ytbhjljffcgfcdaa
