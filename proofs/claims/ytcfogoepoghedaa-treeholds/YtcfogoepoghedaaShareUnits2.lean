/-
  Contracts of share.Units and of the reference's Units (a search by halves).
-/
import Derived.Test.YtcfogoepoghedaaShareUnits
namespace Go.Proofs.Ytcfogoepoghedaa
open Go.ChangeShapes Go.WideShapes Go.ChangeAt Go.RowKit
set_option linter.unusedVariables false

def tup2 (u e : Int) : Value := .tuple #[.int .i64 u, .int .i64 e]

theorem units_nan (x : Nat) (h64 : x < 18446744073709551616) (hn : isN x) (w : World) :
    Calls Try.prog 49 #[.float .f64 x] w fun e w' => e = .returned (tup2 0 21) ∧ w' = w := by
  have K := fun w => kind_any x h64 w
  rw [kind_nan x hn] at K
  have K := Lib.hid K
  clear h64 hn
  go_enter Try.func49, Try.ntmps49
  go_wp2_with fail
  refine (K.out _).mono ?_
  rintro e w ⟨rfl, rfl⟩
  go_wp2_with fail
  go_ret2
  exact ⟨rfl, rfl⟩
theorem units_below (x : Nat) (h64 : x < 18446744073709551616) (hk : kindOf x = 1 ∨ kindOf x = 2) (w : World) :
    Calls Try.prog 49 #[.float .f64 x] w fun e w' => e = .returned (tup2 0 2) ∧ w' = w := by
  have K := fun w => kind_any x h64 w
  rcases hk with hk | hk
  all_goals
    rw [hk] at K
    have K := Lib.hid K
    clear h64 hk
    go_enter Try.func49, Try.ntmps49
    go_wp2_with fail
    refine (K.out _).mono ?_
    rintro e w ⟨rfl, rfl⟩
    go_wp2_with fail
    go_ret2
    exact ⟨rfl, rfl⟩
theorem units_above (x : Nat) (h64 : x < 18446744073709551616) (hn : ¬ isN x) (h1 : 4607182418800017408 < key x) (hk : kindOf x = 5 ∨ kindOf x = 6) (w : World) :
    Calls Try.prog 49 #[.float .f64 x] w fun e w' => e = .returned (tup2 0 2) ∧ w' = w := by
  have K := fun w => kind_any x h64 w
  have hc := one_cmp x hn
  rw [decide_eq_true h1] at hc
  rcases hk with hk | hk
  all_goals
    rw [hk] at K
    have K := Lib.hid K
    clear h64 hk hn h1
    go_enter Try.func49, Try.ntmps49
    go_wp2_with fail
    refine (K.out _).mono ?_
    rintro e w ⟨rfl, rfl⟩
    go_wp2_with fail
    go_ret2
    exact ⟨rfl, rfl⟩

theorem units_in (x : Nat) (h64 : x < 18446744073709551616) (hn : ¬ isN x) (h1 : key x ≤ 4607182418800017408) (hr : rung x ≤ 4607182418800017408) (hs : sgn x = false ∨ rung x = 0) (hk : kindOf x = 3 ∨ kindOf x = 4 ∨ kindOf x = 5) (w : World) :
    Calls Try.prog 49 #[.float .f64 x] w fun e w' => e = .returned (tup2 (unitsOf x) 0) ∧ w' = w := by
  have K := fun w => kind_any x h64 w
  have hc := one_cmp x hn
  rw [decide_eq_false (by omega)] at hc
  obtain ⟨s, s1, s2, s3⟩ := times_whole x hr
  obtain ⟨w1, w2⟩ := rung_word (sgn x) s (by omega)
  have hle := units_le x hr
  have hRE : RE (V (rung (FloatKind.f64.format.word (sgn x) s))) U = unitsOf x := by rw [w1, s2]; rfl
  obtain ⟨t, t1, t2, t3⟩ := round_word (FloatKind.f64.format.word (sgn x) s) (unitsOf x) (by omega) hRE (by omega)
  have hy : ¬ isN (FloatKind.f64.format.word (sgn x) s) := by unfold isN; omega
  have hround := round_run _ hy
  rw [t3, w2] at hround
  obtain ⟨v1, v2⟩ := rung_word (sgn x) t (by omega)
  have hz : sgn (FloatKind.f64.format.word (sgn x) t) = false ∨ unitsOf x = 0 := by
    rcases hs with hs | hs
    · left; rw [v2, hs]
    · right
      unfold unitsOf
      rw [hs, V_zero, Nat.zero_mul]
      have := RE_whole 0 U
      rwa [Nat.zero_mul] at this
  have hint := int_of (FloatKind.f64.format.word (sgn x) t) (unitsOf x) (by omega) (by rw [v1, t2]) hz (by omega)
  have hmul : ∀ w, (binOp .mul 34 (.float .f64 x) (.float .f64 4697254411347427328)).run Try.prog w = .ok (.float .f64 (FloatKind.f64.format.word (sgn x) s)) w := fun w => run_float_arith w .mul _ .f64 _ _ _ s3
  have hcv : ∀ w, (convert 34 3 (.float .f64 (FloatKind.f64.format.word (sgn x) t))).run Try.prog w = .ok (.int .i64 (unitsOf x)) w := fun w => run_convert_float_int w _ _ .f64 .i64 _ _ (by rw [Try.underlying34]; rfl) Try.underlying3 hint
  generalize FloatKind.f64.format.word (sgn x) s = y at *
  generalize FloatKind.f64.format.word (sgn x) t = z at *
  generalize unitsOf x = u at *
  clear s1 s2 s3 w1 w2 hRE t1 t2 t3 hy v1 v2 hz hint h64 hn h1 hr hs hle
  rcases hk with hk | hk | hk
  all_goals
    rw [hk] at K
    have K := Lib.hid K
    clear hk
    go_enter Try.func49, Try.ntmps49
    go_wp2_with fail
    refine (K.out _).mono ?_
    rintro e w ⟨rfl, rfl⟩
    go_wp2_with fail
    go_ret2
    exact ⟨rfl, rfl⟩
end Go.Proofs.Ytcfogoepoghedaa
