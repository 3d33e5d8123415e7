/-
  Contracts of the reference's part (by halves), Part and Up.
-/
import Derived.Test.YtbhjljffcgfcdaaSatPart
namespace Go.Proofs.Ytbhjljffcgfcdaa
open Go.ChangeShapes Go.WideShapes Go.ChangeAt Go.RowKit Go.Joins
set_option linter.unusedVariables false

def cap2 (x : Int) : Int := if 2305843009213693952 < x then 2305843009213693952 else x
def rq (a b c : Nat) : Int := cap2 (a * b / c : Nat)
def rr (a b c : Nat) : Int := (a * b % c : Nat)

theorem rq_bd (a b c : Nat) : 0 ≤ rq a b c ∧ rq a b c ≤ 2305843009213693952 := by
  unfold rq cap2
  have := Int.natCast_nonneg (a * b / c)
  split <;> omega
theorem rr_bd (a b c : Nat) (hc : 0 < c) : 0 ≤ rr a b c ∧ rr a b c < c := by
  unfold rr
  exact ⟨Int.natCast_nonneg _, Int.ofNat_lt.2 (Nat.mod_lt _ hc)⟩

/-- Twice a number and something: quotient and rest. -/
theorem twice (N s c : Nat) (hc : 0 < c) : (2 * N + s) / c = 2 * (N / c) + s / c + (2 * (N % c) + s % c) / c ∧ (2 * N + s) % c = (2 * (N % c) + s % c) % c := by
  have e : 2 * N + s = (2 * (N % c) + s % c) + c * (2 * (N / c) + s / c) := by
    have h1 := Nat.div_add_mod N c
    have h2 := Nat.div_add_mod s c
    rw [Nat.mul_add c, Nat.mul_left_comm c 2]
    omega
  rw [e, Nat.add_mul_div_left _ _ hc, Nat.add_mul_mod_self_left]
  exact ⟨Nat.add_comm _ _, rfl⟩

theorem rq_even (m b c : Nat) (hc : 0 < c) : rq (2 * m) b c = cap2 (2 * rq m b c + 2 * rr m b c / c) ∧ rr (2 * m) b c = 2 * rr m b c % c := by
  obtain ⟨h1, h2⟩ := twice (m * b) 0 c hc
  rw [Nat.add_zero, Nat.zero_div, Nat.add_zero, Nat.zero_mod, Nat.add_zero] at h1
  rw [Nat.add_zero, Nat.zero_mod, Nat.add_zero] at h2
  unfold rq rr
  rw [Nat.mul_assoc, h1, h2]
  have e1 : (2 * ((m * b % c : Nat) : Int) / (c : Int)) = ((2 * (m * b % c) / c : Nat) : Int) := by rw [Int.natCast_ediv, Int.natCast_mul]; rfl
  have e2 : (2 * ((m * b % c : Nat) : Int) % (c : Int)) = ((2 * (m * b % c) % c : Nat) : Int) := by rw [Int.natCast_emod, Int.natCast_mul]; rfl
  rw [e1, e2]
  generalize m * b / c = Q
  generalize 2 * (m * b % c) / c = R
  refine ⟨?_, rfl⟩
  unfold cap2
  repeat' split
  all_goals omega
theorem rq_odd (m b c : Nat) (hc : 0 < c) : rq (2 * m + 1) b c = cap2 (2 * rq m b c + (b : Int) / c + (2 * rr m b c + (b : Int) % c) / c) ∧ rr (2 * m + 1) b c = (2 * rr m b c + (b : Int)) % c := by
  obtain ⟨h1, h2⟩ := twice (m * b) b c hc
  unfold rq rr
  rw [Nat.add_mul, Nat.one_mul, Nat.mul_assoc, h1, h2]
  have e0 : ((b : Int) / (c : Int)) = ((b / c : Nat) : Int) := by rw [Int.natCast_ediv]
  have e1 : ((2 * ((m * b % c : Nat) : Int) + (b : Int) % c) / (c : Int)) = (((2 * (m * b % c) + b % c) / c : Nat) : Int) := by rw [Int.natCast_ediv, Int.natCast_add, Int.natCast_mul, Int.natCast_emod b c]; rfl
  have e2 : ((2 * ((m * b % c : Nat) : Int) + (b : Int)) % (c : Int)) = (((2 * (m * b % c) + b % c) % c : Nat) : Int) := by rw [Nat.add_mod_mod, Int.natCast_emod (2 * (m * b % c) + b), Int.natCast_add, Int.natCast_mul 2]; rfl
  rw [e0, e1, e2]
  generalize m * b / c = Q
  generalize b / c = S
  generalize (2 * (m * b % c) + b % c) / c = R
  refine ⟨?_, rfl⟩
  unfold cap2
  repeat' split
  all_goals omega

theorem cap_big {x : Int} (h : 2305843009213693952 < x) : cap2 x = 2305843009213693952 := if_pos h
theorem cap_small {x : Int} (h : ¬ 2305843009213693952 < x) : cap2 x = x := if_neg h

set_option maxHeartbeats 1000000 in
theorem refpart_go (b c : Nat) (hb : b ≤ 1152921504606846976) (hc : 0 < c) (hc' : c ≤ 1152921504606846976) : ∀ (n : Nat) (a : Nat) (z : Int) (w : World), a ≤ n → z = a → a ≤ 1152921504606846976 →
    Calls Try.prog 61 #[.int .i64 z, .int .i64 b, .int .i64 c] w fun e w' => e = .returned (.tuple #[.int .i64 (rq a b c), .int .i64 (rr a b c)]) ∧ w' = w := by
  intro n
  have d1 : 0 ≤ (b : Int) / c := Int.ediv_nonneg (by omega) (by omega)
  have d2 : (b : Int) / c ≤ 1152921504606846976 := Int.le_trans (Int.ediv_le_self _ (by omega)) (by omega)
  have d3 : 0 ≤ (b : Int) % c := Int.emod_nonneg _ (by omega)
  have d4 : (b : Int) % c < c := Int.emod_lt_of_pos _ (by omega)
  induction n with
  | zero =>
    intro a z w h1 h2 _
    obtain rfl : a = 0 := by omega
    subst h2
    go_enter Try.func61, Try.ntmps61
    go_wp2_with fail
    go_ret2
    refine ⟨?_, rfl⟩
    have e1 : rq 0 b c = 0 := by simp [rq, cap2]
    have e2 : rr 0 b c = 0 := by simp [rr]
    rw [e1, e2]
    rfl
  | succ n ih =>
    intro a z w h1 h2 h3
    rcases Nat.eq_zero_or_pos a with rfl | hpos
    · exact ih 0 z w (by omega) h2 h3
    · have IH := Lib.hid (fun w => ih (a / 2) (z / 2) w (by omega) (by omega) (by omega))
      clear ih
      have q1 := rq_bd (a / 2) b c
      have q2 := rr_bd (a / 2) b c hc
      have nz : (z == 0) = false := beq_eq_false_iff_ne.2 (by omega)
      by_cases hodd : a % 2 = 1
      · have hm := rq_odd (a / 2) b c hc
        rw [show 2 * (a / 2) + 1 = a by omega] at hm
        generalize rq (a / 2) b c = q at *
        generalize rr (a / 2) b c = r at *
        have HQ := Lib.hid hm.1
        have HR := Lib.hid hm.2
        clear hm
        generalize rq a b c = q' at *
        generalize rr a b c = r' at *
        have d5 : 0 ≤ (2 * r + (b : Int) % c) / c := Int.ediv_nonneg (by omega) (by omega)
        have d6 : (2 * r + (b : Int) % c) / c < 3 := Int.ediv_lt_of_lt_mul (by omega) (by omega)
        have zm : (z % 2 == 1) = true := beq_iff_eq.2 (by omega)
        have zp : 0 ≤ z ∧ z ≤ 1152921504606846976 := by omega
        clear h2 hodd
        by_cases hbig : 2305843009213693952 < 2 * q + (b : Int) / c + (2 * r + (b : Int) % c) / c
        · go_enter Try.func61, Try.ntmps61
          go_wp2_with fail
          refine (IH.out _).mono ?_
          rintro e w' ⟨rfl, rfl⟩
          go_wp2_with (go_at_call 56; refine (most_any _).mono ?_; rintro e w' ⟨rfl, rfl⟩)
          go_ret2
          exact ⟨by rw [HQ.out, HR.out, cap_big hbig]; rfl, rfl⟩
        · go_enter Try.func61, Try.ntmps61
          go_wp2_with fail
          refine (IH.out _).mono ?_
          rintro e w' ⟨rfl, rfl⟩
          go_wp2_with (go_at_call 56; refine (most_any _).mono ?_; rintro e w' ⟨rfl, rfl⟩)
          go_ret2
          exact ⟨by rw [HQ.out, HR.out, cap_small (by omega)]; rfl, rfl⟩
      · have hm := rq_even (a / 2) b c hc
        rw [show 2 * (a / 2) = a by omega] at hm
        generalize rq (a / 2) b c = q at *
        generalize rr (a / 2) b c = r at *
        have HQ := Lib.hid hm.1
        have HR := Lib.hid hm.2
        clear hm
        generalize rq a b c = q' at *
        generalize rr a b c = r' at *
        have d5 : 0 ≤ 2 * r / c := Int.ediv_nonneg (by omega) (by omega)
        have d6 : 2 * r / c < 2 := Int.ediv_lt_of_lt_mul (by omega) (by omega)
        have zm : (z % 2 == 1) = false := beq_eq_false_iff_ne.2 (by omega)
        have zp : 0 ≤ z ∧ z ≤ 1152921504606846976 := by omega
        clear h2 hodd
        by_cases hbig : 2305843009213693952 < 2 * q + 2 * r / c
        · go_enter Try.func61, Try.ntmps61
          go_wp2_with fail
          refine (IH.out _).mono ?_
          rintro e w' ⟨rfl, rfl⟩
          go_wp2_with (go_at_call 56; refine (most_any _).mono ?_; rintro e w' ⟨rfl, rfl⟩)
          go_ret2
          exact ⟨by rw [HQ.out, HR.out, cap_big hbig]; rfl, rfl⟩
        · go_enter Try.func61, Try.ntmps61
          go_wp2_with fail
          refine (IH.out _).mono ?_
          rintro e w' ⟨rfl, rfl⟩
          go_wp2_with (go_at_call 56; refine (most_any _).mono ?_; rintro e w' ⟨rfl, rfl⟩)
          go_ret2
          exact ⟨by rw [HQ.out, HR.out, cap_small (by omega)]; rfl, rfl⟩
end Go.Proofs.Ytbhjljffcgfcdaa
