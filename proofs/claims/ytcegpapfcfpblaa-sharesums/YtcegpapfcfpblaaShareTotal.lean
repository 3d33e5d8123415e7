/-
  Contracts of share.Total and of the reference's (sums whose NaNs are left open), and of the laws' own example.
-/
import Derived.Test.YtcegpapfcfpblaaShareOf
namespace Go.Proofs.Ytcegpapfcfpblaa
open Go.ChangeShapes Go.WideShapes Go.ChangeAt Go.RowKit Go.Joins
set_option linter.unusedVariables false

/-- A float that a sum may be: its bits, or a NaN where there is no sum. -/
def AddIs (x y r : Nat) : Prop := (FloatKind.f64.format.add x y = some r ∨ FloatKind.f64.format.add x y = none ∧ isN r) ∧ r < 18446744073709551616

theorem add_run (x y : Nat) (t : TypeId) (w : World) : ∃ r n, AddIs x y r ∧ (binOp .add t (.float .f64 x) (.float .f64 y)).run Try.prog w = .ok (.float .f64 r) (w.drewN n) := by
  cases h : FloatKind.f64.format.add x y with
  | some r =>
    refine ⟨r, 0, ⟨.inl h, ?_⟩, run_float_arith w .add t .f64 x y r h⟩
    have := FloatKind.f64.format.add_lt h
    exact this
  | none =>
    refine ⟨(w.tape w.drawn (.nanBits .f64 x y) % 2) * 2 ^ 63 + 0x7ff0000000000000 + 1 + (w.tape w.drawn (.nanBits .f64 x y) / 2) % (2 ^ 52 - 1), 1, ⟨.inr ⟨h, ?_⟩, ?_⟩, ?_⟩
    · unfold isN rung
      have e63 : (2 : Nat) ^ 63 = 9223372036854775808 := by decide
      have e52 : (2 : Nat) ^ 52 - 1 = 4503599627370495 := by decide
      rw [e63, e52]
      have h2 : w.tape w.drawn (.nanBits .f64 x y) / 2 % 4503599627370495 < 4503599627370495 := Nat.mod_lt _ (by omega)
      generalize w.tape w.drawn (.nanBits .f64 x y) / 2 % 4503599627370495 = a at *
      generalize w.tape w.drawn (.nanBits .f64 x y) = b at *
      omega
    · have e63 : (2 : Nat) ^ 63 = 9223372036854775808 := by decide
      have e52 : (2 : Nat) ^ 52 - 1 = 4503599627370495 := by decide
      rw [e63, e52]
      have h2 : w.tape w.drawn (.nanBits .f64 x y) / 2 % 4503599627370495 < 4503599627370495 := Nat.mod_lt _ (by omega)
      generalize w.tape w.drawn (.nanBits .f64 x y) / 2 % 4503599627370495 = a at *
      generalize w.tape w.drawn (.nanBits .f64 x y) = b at *
      omega
    · simp [binOp, Op.floatArith, h, Question.forced, Question.cut]
      rfl

theorem add_nan (x y : Nat) (h : isN x) : FloatKind.f64.format.add x y = none := by
  obtain ⟨t, e⟩ := read_nan x h
  unfold Ieee.Format.add
  rw [e]
  cases FloatKind.f64.format.read y <;> rfl

/-- What a sum of the first k may be. -/
def TotIs (X : Nat → Nat) : Nat → Nat → Prop
  | 0, r => r = 0
  | k + 1, r => ∃ r', TotIs X k r' ∧ AddIs r' (X k) r

theorem tot_same (X : Nat → Nat) : ∀ k r s, TotIs X k r → TotIs X k s → r = s ∨ isN r ∧ isN s
  | 0, r, s, h, g => .inl (by rw [show r = 0 from h, show s = 0 from g])
  | k + 1, r, s, ⟨r', h1, h2, _⟩, ⟨s', g1, g2, _⟩ => by
    rcases tot_same X k r' s' h1 g1 with e | ⟨n1, n2⟩
    · subst e
      rcases h2 with h2 | ⟨h2, h3⟩ <;> rcases g2 with g2 | ⟨g2, g3⟩
      · rw [h2] at g2; exact .inl (by injection g2)
      · rw [h2] at g2; cases g2
      · rw [h2] at g2; cases g2
      · exact .inr ⟨h3, g3⟩
    · rw [add_nan _ _ n1] at h2
      rw [add_nan _ _ n2] at g2
      rcases h2 with h2 | ⟨_, h3⟩
      · cases h2
      · rcases g2 with g2 | ⟨_, g3⟩
        · cases g2
        · exact .inr ⟨h3, g3⟩
theorem tot_lt (X : Nat → Nat) : ∀ k r, TotIs X k r → r < 18446744073709551616
  | 0, r, h => by rw [show r = 0 from h]; omega
  | k + 1, r, ⟨_, _, h⟩ => h.2

/-- The first n floats of a slice. -/
def FCells (w : World) (B : Nat) (A : Option Addr) (n : Nat) (X : Nat → Nat) : Prop :=
  ∀ i, i < n → ∃ b off, A = some ⟨b, off, none⟩ ∧ b < B ∧ w.cell? ⟨b, off + i, none⟩ = some (.float .f64 (X i))

def TotPost (X : Nat → Nat) (n : Nat) (w : World) (e : Ending) (w' : World) : Prop := ∃ r m, TotIs X n r ∧ e = .returned (.float .f64 r) ∧ w' = w.drewN m

set_option maxHeartbeats 1000000 in
theorem total_any (A : Option Addr) (n c : Nat) (X : Nat → Nat) (w : World) (hn : n ≤ 1000) (B : Nat) (hF : FCells w B A n X) :
    Calls Try.prog 43 #[.slice A n c] w (TotPost X n w) := by
  go_enter Try.func43, Try.ntmps43
  go_wp2
  go_loopw [3, 8] (fun v i wr => ∃ k r m : Nat, k ≤ n ∧ i = .int .i64 k ∧ v = .float .f64 r ∧ TotIs X k r ∧ wr = w.drewN m) (fun _ i _ => n - (intOf i).toNat)
  case atStart => exact ⟨0, 0, 0, Nat.zero_le _, rfl, rfl, rfl, rfl⟩
  case round =>
    obtain ⟨k, r, m, hk, rfl, rfl, ht, rfl⟩ := hrel
    have HT := Lib.hid ht
    clear ht
    by_cases hlt : k < n
    · obtain ⟨b, off, hA, hbB, hc⟩ := hF k hlt
      subst hA
      obtain ⟨r', d, hadd, hrun⟩ := add_run r (X k) 31 (w.drewN m)
      have HA := Lib.hid hadd
      clear hadd hF
      generalize hX : X k = xk at *
      have HX := Lib.hid hX
      clear hX
      go_wp2
      go_roundw
      case rel => exact ⟨k + 1, r', m + d, by omega, by go_num, rfl, ⟨r, HT.out, by rw [HX.out]; exact HA.out⟩, rfl⟩
      case measure => simp [intOf]; omega
    · obtain rfl : k = n := by omega
      go_wp2
      go_ret
      exact ⟨r, m, HT.out, rfl, rfl⟩

set_option maxHeartbeats 1000000 in
theorem refTotal_any (A : Option Addr) (n c : Nat) (X : Nat → Nat) (w : World) (hn : n ≤ 1000) (B : Nat) (hF : FCells w B A n X) :
    Calls Try.prog 44 #[.slice A n c] w (TotPost X n w) := by
  go_enter Try.func44, Try.ntmps44
  go_wp2
  go_loopw [3, 4] (fun v i wr => ∃ k r m : Nat, k ≤ n ∧ i = .int .i64 k ∧ v = .float .f64 r ∧ TotIs X k r ∧ wr = w.drewN m) (fun _ i _ => n - (intOf i).toNat)
  case atStart => exact ⟨0, 0, 0, Nat.zero_le _, rfl, rfl, rfl, rfl⟩
  case round =>
    obtain ⟨k, r, m, hk, rfl, rfl, ht, rfl⟩ := hrel
    have HT := Lib.hid ht
    clear ht
    by_cases hlt : k < n
    · obtain ⟨b, off, hA, hbB, hc⟩ := hF k hlt
      subst hA
      obtain ⟨r', d, hadd, hrun⟩ := add_run r (X k) 31 (w.drewN m)
      have HA := Lib.hid hadd
      clear hadd hF
      generalize hX : X k = xk at *
      have HX := Lib.hid hX
      clear hX
      go_wp2
      go_roundw
      case rel => exact ⟨k + 1, r', m + d, by omega, by go_num, rfl, ⟨r, HT.out, by rw [HX.out]; exact HA.out⟩, rfl⟩
      case measure => simp [intOf]; omega
    · obtain rfl : k = n := by omega
      go_wp2
      go_ret
      exact ⟨r, m, HT.out, rfl, rfl⟩

theorem inf_plus (w : World) : Calls Try.prog 59 #[.int .i64 1] w fun e w' => e = .returned (.float .f64 9218868437227405312) ∧ w' = w := by
  have hb := float_of_bits
  go_enter Try.func59, Try.ntmps59
  go_wp2
  go_ret
  exact ⟨rfl, rfl⟩
theorem inf_minus (w : World) : Calls Try.prog 59 #[.int .i64 (-1)] w fun e w' => e = .returned (.float .f64 18442240474082181120) ∧ w' = w := by
  have hb := float_of_bits
  go_enter Try.func59, Try.ntmps59
  go_wp2
  go_ret
  exact ⟨rfl, rfl⟩

def infs (i : Nat) : Nat := if i = 0 then 9218868437227405312 else 18442240474082181120
theorem infs_nan (r : Nat) (h : TotIs infs 2 r) : isN r := by
  obtain ⟨a, ⟨b, hb, hb1, _⟩, ha, _⟩ := h
  have hb0 : b = 0 := hb
  subst hb0
  have r1 : FloatKind.f64.format.read (infs 0) = .infinity false := read_inf _ (by decide)
  have r2 : FloatKind.f64.format.read (infs 1) = .infinity true := read_inf _ (by decide)
  have r0 : FloatKind.f64.format.read 0 = .number false 0 (-1074) := read_small 0 (by unfold rung; omega)
  have e1 : FloatKind.f64.format.add 0 (infs 0) = some 9218868437227405312 := by
    unfold Ieee.Format.add
    rw [r0, r1]
    show some (FloatKind.f64.format.word false FloatKind.f64.format.infRung) = _
    rw [fInf, word_eq]
    rfl
  rw [e1] at hb1
  rcases hb1 with hb1 | ⟨hb1, _⟩
  · injection hb1 with hb1
    subst hb1
    have e2 : FloatKind.f64.format.add 9218868437227405312 (infs 1) = none := by
      unfold Ieee.Format.add
      rw [show FloatKind.f64.format.read 9218868437227405312 = .infinity false from r1, r2]
      rfl
    rw [e2] at ha
    rcases ha with ha | ⟨_, ha⟩
    · cases ha
    · exact ha
  · cases hb1

theorem units_half : unitsOf 4602678819172646912 = 524288 := by
  unfold unitsOf
  rw [show rung 4602678819172646912 = 4602678819172646912 by unfold rung; omega, V_half]
  have e : 2 ^ (U - 1) * 2 ^ 20 = 524288 * 2 ^ U := by
    have hu := hU
    rw [show (524288 : Nat) = 2 ^ 19 by decide, ← Nat.pow_add, ← Nat.pow_add]
    congr 1
    omega
  rw [e, RE_whole]

set_option maxHeartbeats 1000000 in
theorem shareLives_any (w : World) :
    Calls Try.prog 39 #[] w fun e w' => e = .returned (.bool true) ∧ Below w.heap.size w w' := by
  have C1 := fun w => units_in 4602678819172646912 (by omega) (by unfold isN rung; omega) (by unfold key sgn rung; simp) (by unfold rung; omega) (.inl (by unfold sgn; rfl)) (.inr (.inr (by unfold kindOf sgn rung; simp))) w
  rw [units_half] at C1
  unfold tup2 at C1
  have D1 := Lib.hid C1
  have C2 := fun w => kind_any 9223372036854775808 (by omega) w
  rw [show kindOf 9223372036854775808 = 3 by unfold kindOf sgn rung; simp] at C2
  have D2 := Lib.hid C2
  clear C1 C2
  have hb := float_of_bits
  go_enter Try.func39, Try.ntmps39
  go_wp2_with fail
  refine (D1.out _).mono ?_
  rintro e w ⟨rfl, rfl⟩
  go_wp2_with fail
  refine (inf_plus _).mono ?_
  rintro e w ⟨rfl, rfl⟩
  go_wp2_with fail
  refine (inf_minus _).mono ?_
  rintro e w ⟨rfl, rfl⟩
  go_wp2_with fail
  refine (total_any _ _ _ infs _ (by omega) (w.heap.size + 1) ?_).mono ?_
  · intro i hi
    rcases (show i = 0 ∨ i = 1 by omega) with rfl | rfl
    · exact ⟨w.heap.size, 0, rfl, by omega, by simp [infs]⟩
    · exact ⟨w.heap.size, 0, rfl, by omega, by simp [infs]⟩
  · rintro e w1 ⟨r, m, ht, rfl, rfl⟩
    have hr := order_self_nan r (infs_nan r ht)
    clear ht
    go_wp2_with fail
    refine (D2.out _).mono ?_
    rintro e w1 ⟨rfl, hw1⟩
    subst hw1
    go_wp2_with fail
    go_ret
    exact ⟨rfl, (below_alloc1 w _).trans (below_draws _ _ _)⟩
end Go.Proofs.Ytcegpapfcfpblaa
