/-
  The contract of the reference's Units: a search by halves, then the nearer of two, ties to even.
-/
import Derived.Test.YtcfogoepoghedaaShareUnits2
namespace Go.Proofs.Ytcfogoepoghedaa
open Go.ChangeShapes Go.WideShapes Go.ChangeAt Go.RowKit
set_option linter.unusedVariables false

/-- A float less its whole part: exact. -/
theorem less_floor (y t k : Nat) (hy : rung y < 9218868437227405312) (hs : sgn y = false ∨ rung y = 0) (ht : t < 9218868437227405312) (hV : V t = k * 2 ^ U) (hk : k = V (rung y) / 2 ^ U) :
    ∃ sg u, u < 9218868437227405312 ∧ V u = V (rung y) % 2 ^ U ∧ (sg = false ∨ u = 0) ∧ floatBits .sub .f64 y t = some (FloatKind.f64.format.word sg u) := by
  have hu := hU
  obtain ⟨m, a, ey, vy, hm⟩ := read_fin y hy
  have rt : rung t = t := by unfold rung; omega
  have st : sgn t = false := by
    unfold sgn
    rw [show t / 9223372036854775808 = 0 by omega]
    rfl
  obtain ⟨n, b, et, vt, hn⟩ := read_fin t (by omega)
  rw [rt] at vt
  rw [st] at et
  have hdm := Nat.div_add_mod' (V (rung y)) (2 ^ U)
  rw [← hk, ← hV] at hdm
  -- the rest has at most 53 digits
  obtain ⟨A, bb, hA, hbb, hR⟩ : ∃ A bb : Nat, A < 9007199254740992 ∧ bb ≤ 2000 ∧ V (rung y) % 2 ^ U = A * 2 ^ bb := by
    rcases Nat.le_total a U with ha | ha
    · refine ⟨m % 2 ^ (U - a), a, Nat.lt_of_le_of_lt (Nat.mod_le _ _) hm, by omega, ?_⟩
      rw [← vy, ← Nat.mul_mod_mul_right, ← Nat.pow_add, Nat.sub_add_cancel ha]
    · refine ⟨0, 0, by omega, by omega, ?_⟩
      rw [← vy, show a = (a - U) + U by omega, Nat.pow_add, ← Nat.mul_assoc, Nat.mul_mod_left, Nat.zero_mul]
  -- the exact difference
  have hsum : ∃ sg tot : _, ∃ c : Nat, (FloatKind.f64.format.read y).sum (FloatKind.f64.format.read t).opposite = some (.number sg tot (-1074 + (c : Int))) ∧ tot * 2 ^ c = V (rung y) % 2 ^ U ∧ (sg = false ∨ tot = 0) := by
    rw [ey, et]
    have hc : min (-1074 + (a : Int)) (-1074 + (b : Int)) = -1074 + ((min a b : Nat) : Int) := by omega
    have e1 : (-1074 + (a : Int) - (-1074 + ((min a b : Nat) : Int))).toNat = a - min a b := by omega
    have e2 : (-1074 + (b : Int) - (-1074 + ((min a b : Nat) : Int))).toNat = b - min a b := by omega
    show ∃ sg tot : _, ∃ c : Nat, some (Ieee.Datum.number (if Ieee.signed (sgn y) m (-1074 + (a : Int) - min (-1074 + (a : Int)) (-1074 + (b : Int))).toNat + Ieee.signed (!false) n (-1074 + (b : Int) - min (-1074 + (a : Int)) (-1074 + (b : Int))).toNat = 0 then sgn y && !false
        else decide (Ieee.signed (sgn y) m (-1074 + (a : Int) - min (-1074 + (a : Int)) (-1074 + (b : Int))).toNat + Ieee.signed (!false) n (-1074 + (b : Int) - min (-1074 + (a : Int)) (-1074 + (b : Int))).toNat < 0))
        (Ieee.signed (sgn y) m (-1074 + (a : Int) - min (-1074 + (a : Int)) (-1074 + (b : Int))).toNat + Ieee.signed (!false) n (-1074 + (b : Int) - min (-1074 + (a : Int)) (-1074 + (b : Int))).toNat).natAbs (min (-1074 + (a : Int)) (-1074 + (b : Int)))) = some (.number sg tot (-1074 + (c : Int))) ∧ _
    rw [hc, e1, e2, signed_eq, signed_eq]
    have ha : m * 2 ^ (a - min a b) * 2 ^ (min a b) = V (rung y) := by rw [Nat.mul_assoc, ← Nat.pow_add, Nat.sub_add_cancel (Nat.min_le_left _ _), vy]
    have hb : n * 2 ^ (b - min a b) * 2 ^ (min a b) = V t := by rw [Nat.mul_assoc, ← Nat.pow_add, Nat.sub_add_cancel (Nat.min_le_right _ _), vt]
    have hp : 0 < 2 ^ (min a b) := Nat.two_pow_pos _
    generalize m * 2 ^ (a - min a b) = X at *
    generalize n * 2 ^ (b - min a b) = Y at *
    generalize min a b = c at *
    have hYX : Y ≤ X := by
      rcases Nat.lt_or_ge X Y with h | h
      · have := Nat.mul_lt_mul_of_pos_right h hp
        omega
      · exact h
    have hmul : (X - Y) * 2 ^ c = V (rung y) % 2 ^ U := by rw [Nat.sub_mul, ha, hb]; omega
    have hX : sgn y = true → X = 0 := fun g => by
      rcases hs with h | h
      · rw [h] at g; cases g
      · rw [h, V_zero] at ha
        rcases Nat.mul_eq_zero.1 ha with h' | h'
        · exact h'
        · omega
    refine ⟨_, _, c, rfl, ?_, ?_⟩
    · rw [← hmul]
      congr 1
      unfold sV
      cases hh : sgn y
      · simp; omega
      · have := hX hh; simp; omega
    · unfold sV
      cases hh : sgn y
      · left
        simp
        omega
      · right
        have := hX hh
        simp
        omega
  obtain ⟨sg, tot, c, hd, hmul, hsg⟩ := hsum
  obtain ⟨u, hu1, hu2, hu3⟩ := write_exact sg tot A bb c 0 (-1074 + (c : Int)) (by omega) hA hbb (by rw [hmul, hR, Nat.pow_zero, Nat.mul_one])
  refine ⟨sg, u, hu1, by rw [hu2, hR], ?_, ?_⟩
  · rcases hsg with h | h
    · exact .inl h
    · right
      rw [h, Nat.zero_mul] at hmul
      refine V_inj ?_
      rw [hu2, ← hR, ← hmul, V_zero]
  · show FloatKind.f64.format.sub y t = _
    unfold Ieee.Format.sub
    rw [hd]
    show some (FloatKind.f64.format.nearest sg tot (-1074 + (c : Int))) = _
    rw [hu3]

theorem key_pos (x : Nat) (h : sgn x = false ∨ rung x = 0) : key x = rung x := by
  unfold key
  rcases h with h | h
  · rw [h]; rfl
  · rw [h]; split <;> rfl

/-- A whole number against a float, by magnitudes. -/
theorem leq_whole (y M : Nat) (hy : rung y < 9218868437227405312) (hs : sgn y = false ∨ rung y = 0) (hM : M < 9007199254740992) :
    (FloatKind.f64.format.order (floatOfInt .f64 (M : Int)) y == some .lt || FloatKind.f64.format.order (floatOfInt .f64 (M : Int)) y == some .eq) = decide (M ≤ V (rung y) / 2 ^ U) := by
  obtain ⟨t, t1, t2, t3⟩ := ofInt_exact M hM
  have rt : rung t = t := by unfold rung; omega
  have st : sgn t = false := by
    unfold sgn
    rw [show t / 9223372036854775808 = 0 by omega]
    rfl
  rw [t3, order_num t y (by unfold isN; omega) (by unfold isN; omega), key_pos y hs, key_pos t (.inl st), rt]
  have hiff : M ≤ V (rung y) / 2 ^ U ↔ t ≤ rung y := by
    rw [Nat.le_div_iff_mul_le (Nat.two_pow_pos _), ← t2]
    constructor
    · intro h
      rcases Nat.lt_or_ge (rung y) t with g | g
      · have := V_lt g; omega
      · exact g
    · exact V_le
  rcases Nat.lt_trichotomy t (rung y) with g | g | g
  · rw [cmp_lt (by omega), decide_eq_true (hiff.2 (by omega))]; rfl
  · rw [cmp_eq (by omega), decide_eq_true (hiff.2 (by omega))]; rfl
  · rw [cmp_gt (by omega), decide_eq_false (fun h => by have := hiff.1 h; omega)]; rfl

theorem V_half : V 4602678819172646912 = 2 ^ (U - 1) := by
  have h := V_pow 1022 (by omega)
  rw [show 1022 * 4503599627370496 = 4602678819172646912 by omega, show 51 + 1022 = U - 1 by rw [hU]] at h
  exact h

/-- A rest against a half. -/
theorem half_cmp (sg : Bool) (u R : Nat) (hu : u < 9218868437227405312) (hs : sg = false ∨ u = 0) (hV : V u = R) :
    (FloatKind.f64.format.order (FloatKind.f64.format.word sg u) 4602678819172646912 == some .gt) = decide (2 ^ U < 2 * R) ∧ (FloatKind.f64.format.order (FloatKind.f64.format.word sg u) 4602678819172646912 == some .eq) = decide (2 ^ U = 2 * R) := by
  obtain ⟨w1, w2⟩ := rung_word sg u (by omega)
  have rt : rung 4602678819172646912 = 4602678819172646912 := by unfold rung; omega
  have st : sgn 4602678819172646912 = false := by unfold sgn; rfl
  rw [order_num _ _ (by unfold isN; omega) (by unfold isN; omega), key_pos _ (by rw [w1, w2]; exact hs), key_pos _ (.inl st), rt, w1]
  have h2 : 2 ^ U = 2 * 2 ^ (U - 1) := by
    have := hU
    rw [Nat.mul_comm, ← Nat.pow_succ]
    congr 1
    omega
  rw [← V_half] at h2
  have hlt := @V_lt_iff u 4602678819172646912
  have hgt := @V_lt_iff 4602678819172646912 u
  rw [hV] at hlt hgt
  have heq : R = V 4602678819172646912 ↔ u = 4602678819172646912 := ⟨fun h => V_inj (by rw [hV, h]), fun h => by rw [← h, hV]⟩
  generalize V 4602678819172646912 = H at *
  generalize (2 : Nat) ^ U = X at *
  rcases Nat.lt_trichotomy u 4602678819172646912 with g | g | g
  · rw [cmp_lt (by omega), decide_eq_false (by omega), decide_eq_false (by omega)]; exact ⟨rfl, rfl⟩
  · rw [cmp_eq (by omega), decide_eq_false (by omega), decide_eq_true (by omega)]; exact ⟨rfl, rfl⟩
  · rw [cmp_gt (by omega), decide_eq_true (by omega), decide_eq_false (by omega)]; exact ⟨rfl, rfl⟩

theorem refUnits_nan (x : Nat) (hn : isN x) (w : World) :
    Calls Try.prog 37 #[.float .f64 x] w fun e w' => e = .returned (tup2 0 21) ∧ w' = w := by
  have K := Lib.hid (fun w => none_yes x hn w)
  clear hn
  go_enter Try.func37, Try.ntmps37
  go_wp2_with fail
  refine (K.out _).mono ?_
  rintro e w ⟨rfl, rfl⟩
  go_wp2_with fail
  go_ret2
  exact ⟨rfl, rfl⟩
theorem refUnits_out (x : Nat) (hn : ¬ isN x) (h : key x < 0 ∨ 4607182418800017408 < key x) (w : World) :
    Calls Try.prog 37 #[.float .f64 x] w fun e w' => e = .returned (tup2 0 2) ∧ w' = w := by
  have K := Lib.hid (fun w => none_no x hn w)
  obtain ⟨z1, _, _, _⟩ := zero_cmp x hn
  have hc := one_cmp x hn
  rcases h with h | h
  · rw [decide_eq_true h] at z1
    clear hn hc h
    go_enter Try.func37, Try.ntmps37
    go_wp2_with fail
    refine (K.out _).mono ?_
    rintro e w ⟨rfl, rfl⟩
    go_wp2_with fail
    go_ret2
    exact ⟨rfl, rfl⟩
  · rw [decide_eq_false (by omega)] at z1
    rw [decide_eq_true h] at hc
    clear hn h
    go_enter Try.func37, Try.ntmps37
    go_wp2_with fail
    refine (K.out _).mono ?_
    rintro e w ⟨rfl, rfl⟩
    go_wp2_with fail
    go_ret2
    exact ⟨rfl, rfl⟩

set_option maxHeartbeats 2000000 in
theorem refUnits_core (x y z k : Nat) (b1 b2 : Bool) (w : World)
    (K : Hid (∀ w, Calls Try.prog 41 #[.float .f64 x] w fun e w' => e = .returned (.bool false) ∧ w' = w))
    (z1 : (FloatKind.f64.format.order x 0 == some .lt) = false) (hc : (FloatKind.f64.format.order x 4607182418800017408 == some .gt) = false)
    (hmul : ∀ w, (binOp .mul 34 (.float .f64 x) (.float .f64 4697254411347427328)).run Try.prog w = .ok (.float .f64 y) w)
    (hsub : ∀ w, (binOp .sub 34 (.float .f64 y) (.float .f64 (floatOfInt .f64 (k : Int)))).run Try.prog w = .ok (.float .f64 z) w)
    (hleq : Hid (∀ M : Nat, M < 9007199254740992 → (FloatKind.f64.format.order (floatOfInt .f64 (M : Int)) y == some .lt || FloatKind.f64.format.order (floatOfInt .f64 (M : Int)) y == some .eq) = decide (M ≤ k)))
    (hk : k ≤ 1048576) (g1 : (FloatKind.f64.format.order z 4602678819172646912 == some .gt) = b1) (g2 : (FloatKind.f64.format.order z 4602678819172646912 == some .eq) = b2) :
    Calls Try.prog 37 #[.float .f64 x] w fun e w' => e = .returned (tup2 ((k : Int) + if b1 = true ∨ b2 = true ∧ k % 2 = 1 then 1 else 0) 0) ∧ w' = w := by
  obtain ⟨r, hr⟩ : ∃ r : Int, r = (k : Int) + if b1 = true ∨ b2 = true ∧ k % 2 = 1 then 1 else 0 := ⟨_, rfl⟩
  rw [← hr]
  have HR := Lib.hid hr
  clear hr
  go_enter Try.func37, Try.ntmps37
  go_wp2_with fail
  refine (K.out _).mono ?_
  rintro e w ⟨rfl, rfl⟩
  go_wp2_with fail
  go_loop [5, 6] (fun v5 v6 => ∃ lo hi : Nat, v5 = .int .i64 lo ∧ v6 = .int .i64 hi ∧ lo ≤ k ∧ k < hi ∧ hi ≤ 1048577) (fun v5 v6 => (intOf v6 - intOf v5).toNat)
  case atStart => exact ⟨0, 1048577, rfl, rfl, by omega, by omega, by omega⟩
  case round =>
    obtain ⟨lo, hi, rfl, rfl, h1, h2, h3⟩ := hrel
    by_cases hd : lo + 1 < hi
    · have hM := hleq.out ((lo + hi) / 2) (by omega)
      rw [show (((lo + hi) / 2 : Nat) : Int) = ((lo : Int) + (hi : Int)) / 2 by omega] at hM
      by_cases hle : (lo + hi) / 2 ≤ k
      · rw [decide_eq_true hle] at hM
        go_wp2_with fail
        go_round
        case rel => exact ⟨(lo + hi) / 2, hi, by go_num, rfl, hle, h2, h3⟩
        case measure => simp [intOf]; omega
      · rw [decide_eq_false hle] at hM
        go_wp2_with fail
        go_round
        case rel => exact ⟨lo, (lo + hi) / 2, rfl, by go_num, h1, by omega, by omega⟩
        case measure => simp [intOf]; omega
    · obtain rfl : lo = k := by omega
      clear hleq
      cases b1
      · cases b2
        · go_wp2_with fail
          go_ret2
          exact ⟨by rw [HR.out]; simp [tup2], rfl⟩
        · by_cases hodd : lo % 2 = 1
          · have ho : ((lo : Int) % 2 == 1) = true := beq_iff_eq.2 (by omega)
            go_wp2_with fail
            go_ret2
            exact ⟨by rw [HR.out, if_pos (by simp [hodd])]; rfl, rfl⟩
          · have ho : ((lo : Int) % 2 == 1) = false := beq_eq_false_iff_ne.2 (by omega)
            go_wp2_with fail
            go_ret2
            exact ⟨by rw [HR.out, if_neg (by simp; omega)]; simp [tup2], rfl⟩
      · go_wp2_with fail
        go_ret2
        exact ⟨by rw [HR.out, if_pos (by simp)]; rfl, rfl⟩

set_option maxHeartbeats 2000000 in
theorem refUnits_in (x : Nat) (hn : ¬ isN x) (h0 : 0 ≤ key x) (h1 : key x ≤ 4607182418800017408) (hr : rung x ≤ 4607182418800017408) (hs : sgn x = false ∨ rung x = 0) (w : World) :
    Calls Try.prog 37 #[.float .f64 x] w fun e w' => e = .returned (tup2 (unitsOf x) 0) ∧ w' = w := by
  have K := Lib.hid (fun w => none_no x hn w)
  obtain ⟨z1, _, _, _⟩ := zero_cmp x hn
  have hc := one_cmp x hn
  rw [decide_eq_false (by omega)] at z1 hc
  obtain ⟨s, s1, s2, s3⟩ := times_whole x hr
  obtain ⟨w1, w2⟩ := rung_word (sgn x) s (by omega)
  have hmul : ∀ w, (binOp .mul 34 (.float .f64 x) (.float .f64 4697254411347427328)).run Try.prog w = .ok (.float .f64 (FloatKind.f64.format.word (sgn x) s)) w := fun w => run_float_arith w .mul _ .f64 _ _ _ s3
  have hsy : sgn (FloatKind.f64.format.word (sgn x) s) = false ∨ rung (FloatKind.f64.format.word (sgn x) s) = 0 := by
    rw [w1, w2]
    rcases hs with hs | hs
    · exact .inl hs
    · right
      rw [hs, V_zero, Nat.zero_mul] at s2
      exact V_inj (by rw [s2, V_zero])
  have hry : rung (FloatKind.f64.format.word (sgn x) s) < 9218868437227405312 := by omega
  have hq : V s / 2 ^ U ≤ 1048576 := by
    have h2 := V_le hr
    rw [V_one] at h2
    have h3 : V s ≤ 1048576 * 2 ^ U := by
      rw [s2, show (1048576 : Nat) = 2 ^ 20 by decide, Nat.mul_comm (2 ^ 20)]
      exact Nat.mul_le_mul_right _ h2
    have := Nat.div_le_div_right (c := 2 ^ U) h3
    rwa [Nat.mul_div_cancel _ (Nat.two_pow_pos _)] at this
  have hunits : unitsOf x = V s / 2 ^ U + if 2 ^ U < 2 * (V s % 2 ^ U) ∨ 2 ^ U = 2 * (V s % 2 ^ U) ∧ V s / 2 ^ U % 2 = 1 then 1 else 0 := by
    unfold unitsOf
    rw [← s2]
    rfl
  obtain ⟨t, t1, t2, t3⟩ := ofInt_exact (V s / 2 ^ U) (by omega)
  obtain ⟨sg, u, u1, u2, u3, u4⟩ := less_floor (FloatKind.f64.format.word (sgn x) s) t (V s / 2 ^ U) hry hsy t1 t2 (by rw [w1])
  rw [w1] at u2
  obtain ⟨g1, g2⟩ := half_cmp sg u _ u1 u3 u2
  have hsub : ∀ w, (binOp .sub 34 (.float .f64 (FloatKind.f64.format.word (sgn x) s)) (.float .f64 (floatOfInt .f64 ((V s / 2 ^ U : Nat) : Int)))).run Try.prog w = .ok (.float .f64 (FloatKind.f64.format.word sg u)) w := fun w => by
    rw [t3]
    exact run_float_arith w .sub _ .f64 _ _ _ u4
  have hleq := fun M hM => leq_whole (FloatKind.f64.format.word (sgn x) s) M hry hsy hM
  rw [w1] at hleq
  have C := refUnits_core x _ _ (V s / 2 ^ U) _ _ w K z1 hc hmul hsub (Lib.hid hleq) hq g1 g2
  have hcast : ((unitsOf x : Nat) : Int) = ((V s / 2 ^ U : Nat) : Int) + if decide (2 ^ U < 2 * (V s % 2 ^ U)) = true ∨ decide (2 ^ U = 2 * (V s % 2 ^ U)) = true ∧ V s / 2 ^ U % 2 = 1 then 1 else 0 := by
    rw [hunits]
    simp only [decide_eq_true_eq]
    split <;> rfl
  rw [hcast]
  exact C
end Go.Proofs.Ytcfogoepoghedaa
