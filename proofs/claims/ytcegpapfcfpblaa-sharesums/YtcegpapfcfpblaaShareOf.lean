/-
  Contracts of share.Of, Clamp and Total, of the reference's, and of the laws' own example.
-/
import Derived.Test.YtcegpapfcfpblaaShareRefUnits
import Derived.Deep.Draws
import Derived.Lib.SmallJoins
namespace Go.Proofs.Ytcegpapfcfpblaa
open Go.ChangeShapes Go.WideShapes Go.ChangeAt Go.RowKit Go.Joins
set_option linter.unusedVariables false

/-! ### Of -/
/-- A whole number of units as a float: the share that it is. -/
def OfIs (n : Int) (r : Nat) : Prop := r < 18446744073709551616 ∧ sgn r = false ∧ rung r ≤ 4607182418800017408 ∧ ∃ k : Nat, (k : Int) = max 0 (min n 1048576) ∧ V (rung r) * 2 ^ 20 = k * 2 ^ U

theorem by_whole_eq (m a n u e more : Nat) (h : m * 2 ^ a = n * 2 ^ u) (hu : u = 1074) (he : e = 1043) (h54 : 54 ≤ more) : m * 2 ^ (more - 51) * 2 ^ (a + u) = n * 2 ^ (u - 20) * 2 ^ (e + more) := by
  have e1 : more - 51 + (a + u) = a + (more - 51 + u) := by omega
  have e2 : u + (more - 51 + u) = u - 20 + (e + more) := by omega
  rw [Nat.mul_assoc, ← Nat.pow_add, e1, Nat.pow_add, ← Nat.mul_assoc, h, Nat.mul_assoc, ← Nat.pow_add, e2, Nat.pow_add, Nat.mul_assoc]

theorem by_whole (n : Nat) (h0 : 0 < n) (h1 : n < 1048576) : ∃ s, s < 9218868437227405312 ∧ V s = n * 2 ^ (U - 20) ∧ floatBits .quo .f64 (floatOfInt .f64 (n : Int)) 4697254411347427328 = some s := by
  have hu := hU
  obtain ⟨t, t1, t2, t3⟩ := ofInt_exact n (by omega)
  have rt : rung t = t := by unfold rung; omega
  have st : sgn t = false := by
    unfold sgn
    rw [show t / 9223372036854775808 = 0 by omega]
    rfl
  obtain ⟨m, a, et, vt, hm⟩ := read_fin t (by omega)
  rw [rt, t2] at vt
  rw [st] at et
  obtain ⟨more, h54, hq⟩ := quo_pow false m 1043 (-1074 + (a : Int)) hm
  obtain ⟨s, s1, s2, s3⟩ := write_exact false (m * 2 ^ (more - 51)) n (U - 20) (a + U) (1043 + more) (-1074 + (a : Int) + 1074 - ((1043 - 1 : Nat) : Int) - more - 1) (by omega) (by omega) (by omega) (by_whole_eq m a n U 1043 more vt hU rfl h54)
  refine ⟨s, s1, s2, ?_⟩
  show FloatKind.f64.format.div _ 4697254411347427328 = _
  have hr : FloatKind.f64.format.read 4697254411347427328 = .number false 4503599627370496 (-1074 + ((1043 - 1 : Nat) : Int)) := read_pow 1043 (by omega) (by omega)
  unfold Ieee.Format.div
  rw [t3, et, hr, fFrac, hq]
  show some (FloatKind.f64.format.nearest false (m * 2 ^ (more - 51)) (-1074 + (a : Int) + 1074 - ((1043 - 1 : Nat) : Int) - more - 1)) = _
  rw [s3, word_eq]
  rfl

theorem of_both (n : Int) : ∃ r, OfIs n r ∧
    (∀ w, Calls Try.prog 35 #[.int .i64 n] w fun e w' => e = .returned (.float .f64 r) ∧ w' = w) ∧
    (∀ w, Calls Try.prog 36 #[.int .i64 n] w fun e w' => e = .returned (.float .f64 r) ∧ w' = w) := by
  by_cases h0 : n ≤ 0
  · refine ⟨0, ⟨by omega, by unfold sgn; rfl, by unfold rung; omega, 0, by omega, ?_⟩, fun w => ?_, fun w => ?_⟩
    · rw [show rung 0 = 0 from rfl, V_zero, Nat.zero_mul, Nat.zero_mul]
    · go_enter Try.func35, Try.ntmps35
      go_wp2
      go_ret
      exact ⟨rfl, rfl⟩
    · go_enter Try.func36, Try.ntmps36
      go_wp2
      go_ret
      exact ⟨rfl, rfl⟩
  · by_cases h1 : 1048576 ≤ n
    · refine ⟨4607182418800017408, ⟨by omega, by unfold sgn; rfl, by unfold rung; omega, 1048576, by omega, ?_⟩, fun w => ?_, fun w => ?_⟩
      · rw [show rung 4607182418800017408 = 4607182418800017408 by unfold rung; omega, V_one, Nat.mul_comm, show (2 : Nat) ^ 20 = 1048576 by decide]
      · go_enter Try.func35, Try.ntmps35
        go_wp2
        go_ret
        exact ⟨rfl, rfl⟩
      · go_enter Try.func36, Try.ntmps36
        go_wp2
        go_ret
        exact ⟨rfl, rfl⟩
    · obtain ⟨k, hk⟩ := Int.eq_ofNat_of_zero_le (show 0 ≤ n by omega)
      obtain ⟨s, s1, s2, s3⟩ := by_whole k (by omega) (by omega)
      rw [← hk] at s3
      have hq : ∀ w, (binOp .quo 31 (.float .f64 (floatOfInt .f64 n)) (.float .f64 4697254411347427328)).run Try.prog w = .ok (.float .f64 s) w := fun w => run_float_arith w .quo _ .f64 _ _ _ s3
      have hV : V s * 2 ^ 20 = k * 2 ^ U := by
        rw [s2, Nat.mul_assoc, ← Nat.pow_add, Nat.sub_add_cancel (by rw [hU]; omega)]
      have hle : s ≤ 4607182418800017408 := by
        rcases Nat.lt_or_ge 4607182418800017408 s with g | g
        · have h2 := V_lt g
          rw [V_one] at h2
          have h3 : 2 ^ U * 2 ^ 20 < V s * 2 ^ 20 := Nat.mul_lt_mul_of_pos_right h2 (Nat.two_pow_pos _)
          rw [hV, Nat.mul_comm (2 ^ U)] at h3
          have h4 : (2 : Nat) ^ 20 < k := Nat.lt_of_mul_lt_mul_right h3
          have : (2 : Nat) ^ 20 = 1048576 := by decide
          omega
        · exact g
      have rs : rung s = s := by unfold rung; omega
      refine ⟨s, ⟨by omega, ?_, by omega, k, by omega, by rw [rs]; exact hV⟩, fun w => ?_, fun w => ?_⟩
      · unfold sgn
        rw [show s / 9223372036854775808 = 0 by omega]
        rfl
      · clear hk s1 s2 s3 hV hle rs
        go_enter Try.func35, Try.ntmps35
        go_wp2
        go_ret
        exact ⟨rfl, rfl⟩
      · clear hk s1 s2 s3 hV hle rs
        go_enter Try.func36, Try.ntmps36
        go_wp2
        go_ret
        exact ⟨rfl, rfl⟩

theorem units_of_of (n : Int) (r : Nat) (h : OfIs n r) : ((unitsOf r : Nat) : Int) = max 0 (min n 1048576) := by
  obtain ⟨_, _, _, k, hk, hV⟩ := h
  unfold unitsOf
  rw [hV, RE_whole, hk]

/-! ### Clamp -/
def clampOf (x : Nat) : Nat := if kindOf x ≤ 3 then 0 else if 4607182418800017408 < key x then 4607182418800017408 else x
theorem clampOf_low (x : Nat) (h : kindOf x ≤ 3) : clampOf x = 0 := if_pos h
theorem clampOf_high (x : Nat) (h : ¬ kindOf x ≤ 3) (h1 : 4607182418800017408 < key x) : clampOf x = 4607182418800017408 := by unfold clampOf; rw [if_neg h, if_pos h1]
theorem clampOf_mid (x : Nat) (h : ¬ kindOf x ≤ 3) (h1 : ¬ 4607182418800017408 < key x) : clampOf x = x := by unfold clampOf; rw [if_neg h, if_neg h1]

set_option maxHeartbeats 1000000 in
theorem clamp_any (x : Nat) (h64 : x < 18446744073709551616) (w : World) :
    Calls Try.prog 37 #[.float .f64 x] w fun e w' => e = .returned (.float .f64 (clampOf x)) ∧ w' = w := by
  have K := fun w => kind_any x h64 w
  by_cases hn : isN x
  · have hk := kind_nan x hn
    rw [clampOf_low x (by omega)]
    rw [hk] at K
    have K := Lib.hid K
    clear hk hn h64
    go_enter Try.func37, Try.ntmps37
    go_wp2_with fail
    refine (K.out _).mono ?_
    rintro e w ⟨rfl, rfl⟩
    go_wp2_with fail
    go_ret
    exact ⟨rfl, rfl⟩
  · have hc := one_cmp x hn
    have hways : kindOf x = 1 ∨ kindOf x = 2 ∨ kindOf x = 3 ∨ kindOf x = 4 ∨ kindOf x = 5 ∨ kindOf x = 6 := by
      rcases kind_ways x h64 with ⟨hn, hk⟩ | ⟨hn, hr, hs, hk⟩ | ⟨hn, hr, hs, hk⟩ | ⟨hn, hr, hs, hk⟩ | ⟨hn, hr, hs, hk⟩ | ⟨hn, hr, hr', hs, hk⟩ | ⟨hn, hr, hr', hs, hk⟩
      · contradiction
      all_goals omega
    by_cases hlow : kindOf x ≤ 3
    · rw [clampOf_low x hlow]
      rcases (show kindOf x = 1 ∨ kindOf x = 2 ∨ kindOf x = 3 by omega) with hk | hk | hk
      all_goals
        rw [hk] at K
        have K := Lib.hid K
        clear hk hn h64 hways hlow hc
        go_enter Try.func37, Try.ntmps37
        go_wp2_with fail
        refine (K.out _).mono ?_
        rintro e w ⟨rfl, rfl⟩
        go_wp2_with fail
        go_ret
        exact ⟨rfl, rfl⟩
    · by_cases h1 : 4607182418800017408 < key x
      · rw [clampOf_high x hlow h1]
        rw [decide_eq_true h1] at hc
        rcases (show kindOf x = 4 ∨ kindOf x = 5 ∨ kindOf x = 6 by omega) with hk | hk | hk
        all_goals
          rw [hk] at K
          have K := Lib.hid K
          clear hk hn h64 hways hlow h1
          go_enter Try.func37, Try.ntmps37
          go_wp2_with fail
          refine (K.out _).mono ?_
          rintro e w ⟨rfl, rfl⟩
          go_wp2_with fail
          go_ret
          exact ⟨rfl, rfl⟩
      · rw [clampOf_mid x hlow h1]
        rw [decide_eq_false h1] at hc
        rcases (show kindOf x = 4 ∨ kindOf x = 5 ∨ kindOf x = 6 by omega) with hk | hk | hk
        all_goals
          rw [hk] at K
          have K := Lib.hid K
          clear hk hn h64 hways hlow h1
          go_enter Try.func37, Try.ntmps37
          go_wp2_with fail
          refine (K.out _).mono ?_
          rintro e w ⟨rfl, rfl⟩
          go_wp2_with fail
          go_ret
          exact ⟨rfl, rfl⟩

theorem refClamp_any (x : Nat) (h64 : x < 18446744073709551616) (w : World) :
    Calls Try.prog 38 #[.float .f64 x] w fun e w' => e = .returned (.float .f64 (clampOf x)) ∧ w' = w := by
  by_cases hn : isN x
  · have hk := kind_nan x hn
    rw [clampOf_low x (by omega)]
    have o1 := order_nan x 4607182418800017408 (.inl hn)
    have o2 := order_nan x 0 (.inl hn)
    clear hk hn h64
    go_enter Try.func38, Try.ntmps38
    go_wp2
    go_ret
    exact ⟨rfl, rfl⟩
  · have hc := one_cmp x hn
    obtain ⟨_, z2, _, _⟩ := zero_cmp x hn
    have hpos : 4607182418800017408 < key x → ¬ kindOf x ≤ 3 := fun g hle => by
      rcases kind_ways x h64 with ⟨hn, hk⟩ | ⟨hn, hr, hs, hk⟩ | ⟨hn, hr, hs, hk⟩ | ⟨hn, hr, hs, hk⟩ | ⟨hn, hr, hs, hk⟩ | ⟨hn, hr, hr', hs, hk⟩ | ⟨hn, hr, hr', hs, hk⟩
      · contradiction
      all_goals
        unfold key at g
        rw [hs] at g
        simp at g
        omega
    by_cases h1 : 4607182418800017408 < key x
    · rw [clampOf_high x (hpos h1) h1]
      rw [decide_eq_true h1] at hc
      clear hpos h1 hn h64 z2
      go_enter Try.func38, Try.ntmps38
      go_wp2
      go_ret
      exact ⟨rfl, rfl⟩
    · rw [decide_eq_false h1] at hc
      by_cases h0 : 0 < key x
      · have hk : ¬ kindOf x ≤ 3 := fun hle => by
          rcases kind_ways x h64 with ⟨hn, hk⟩ | ⟨hn, hr, hs, hk⟩ | ⟨hn, hr, hs, hk⟩ | ⟨hn, hr, hs, hk⟩ | ⟨hn, hr, hs, hk⟩ | ⟨hn, hr, hr', hs, hk⟩ | ⟨hn, hr, hr', hs, hk⟩
          · contradiction
          all_goals
            unfold key at h0
            rw [hs] at h0
            simp at h0
            omega
        rw [clampOf_mid x hk h1]
        rw [decide_eq_true h0] at z2
        clear hpos h1 hn h64 hk h0
        go_enter Try.func38, Try.ntmps38
        go_wp2
        go_ret
        exact ⟨rfl, rfl⟩
      · have hz : clampOf x = 0 := by
          by_cases hle : kindOf x ≤ 3
          · exact clampOf_low x hle
          · rw [clampOf_mid x hle h1]
            rcases kind_ways x h64 with ⟨hn, hk⟩ | ⟨hn, hr, hs, hk⟩ | ⟨hn, hr, hs, hk⟩ | ⟨hn, hr, hs, hk⟩ | ⟨hn, hr, hs, hk⟩ | ⟨hn, hr, hr', hs, hk⟩ | ⟨hn, hr, hr', hs, hk⟩
            · contradiction
            all_goals
              first
                | omega
                | (unfold key at h0; rw [hs] at h0; simp at h0; exfalso; omega)
                | (rw [word_of x h64, hs, hr, word_eq]; rfl)
        rw [hz]
        rw [decide_eq_false h0] at z2
        clear hpos h1 hn h64 h0 hz
        go_enter Try.func38, Try.ntmps38
        go_wp2
        go_ret
        exact ⟨rfl, rfl⟩
end Go.Proofs.Ytcegpapfcfpblaa
