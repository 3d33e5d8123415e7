/-
  Contracts of share.Same and Less and of the reference's.
-/
import Derived.Test.YtcfogoepoghedaaShareKind
namespace Go.Proofs.Ytcfogoepoghedaa
open Go.ChangeShapes Go.WideShapes Go.ChangeAt Go.RowKit
set_option linter.unusedVariables false

def isNb (x : Nat) : Bool := decide (9218868437227405312 < rung x)
theorem isNb_yes {x : Nat} (h : isN x) : isNb x = true := decide_eq_true h
theorem isNb_no {x : Nat} (h : ¬ isN x) : isNb x = false := decide_eq_false h
def sameOf (x y : Nat) : Bool := (isNb x && isNb y) || decide (x = y)

theorem isNaN_any (x : Nat) (w : World) :
    Calls Try.prog 44 #[.float .f64 x] w fun e w' => e = .returned (.bool (isNb x)) ∧ w' = w := by
  by_cases h : isN x
  · rw [isNb_yes h]; exact isNaN_yes x h w
  · rw [isNb_no h]; exact isNaN_no x h w
theorem none_any (x : Nat) (w : World) :
    Calls Try.prog 41 #[.float .f64 x] w fun e w' => e = .returned (.bool (isNb x)) ∧ w' = w := by
  by_cases h : isN x
  · rw [isNb_yes h]; exact none_yes x h w
  · rw [isNb_no h]; exact none_no x h w

theorem eq_of_key {x y : Nat} (hx : x < 18446744073709551616) (hy : y < 18446744073709551616) (hk : key x = key y) (hs : sgn x = sgn y) : x = y := by
  rw [word_of x hx, word_of y hy, hs]
  have : rung x = rung y := by
    unfold key at hk
    rw [hs] at hk
    split at hk <;> omega
  rw [this]

theorem refSame_any (x y : Nat) (hx : x < 18446744073709551616) (hy : y < 18446744073709551616) (w : World) :
    Calls Try.prog 33 #[.float .f64 x, .float .f64 y] w fun e w' => e = .returned (.bool (sameOf x y)) ∧ w' = w := by
  have C1 := Lib.hid (fun w => none_any x w)
  have C2 := Lib.hid (fun w => none_any y w)
  by_cases h : isN x
  · have hs : sameOf x y = isNb y := by
      unfold sameOf
      rw [isNb_yes h, Bool.true_and]
      by_cases hy : isNb y = true
      · rw [hy]; rfl
      · have : x ≠ y := fun e => hy (by rw [← e]; exact isNb_yes h)
        rw [decide_eq_false this, Bool.or_false]
    rw [hs]
    rw [isNb_yes h] at C1
    clear h hs hx hy
    go_enter Try.func33, Try.ntmps33
    go_wp2_with fail
    refine (C1.out _).mono ?_
    rintro e w ⟨rfl, rfl⟩
    go_wp2_with fail
    refine (C1.out _).mono ?_
    rintro e w ⟨rfl, rfl⟩
    go_wp2_with fail
    refine (C2.out _).mono ?_
    rintro e w ⟨rfl, rfl⟩
    go_wp2_with fail
    go_ret
    exact ⟨rfl, rfl⟩
  · rw [isNb_no h] at C1
    by_cases h2 : isN y
    · have hs : sameOf x y = false := by
        unfold sameOf
        rw [isNb_no h, Bool.false_and, Bool.false_or]
        exact decide_eq_false fun e => h (by rw [e]; exact h2)
      rw [hs]
      rw [isNb_yes h2] at C2
      clear h hs hx hy h2
      go_enter Try.func33, Try.ntmps33
      go_wp2_with fail
      refine (C1.out _).mono ?_
      rintro e w ⟨rfl, rfl⟩
      go_wp2_with fail
      refine (C2.out _).mono ?_
      rintro e w ⟨rfl, rfl⟩
      go_wp2_with fail
      refine (C1.out _).mono ?_
      rintro e w ⟨rfl, rfl⟩
      go_wp2_with fail
      go_ret
      exact ⟨rfl, rfl⟩
    · rw [isNb_no h2] at C2
      have B1 := Lib.hid (fun w => below_any x h w)
      have B2 := Lib.hid (fun w => below_any y h2 w)
      have ho : (FloatKind.f64.format.order x y == some .eq) = decide (key x = key y) := by
        rw [order_num x y h h2]
        rcases Int.lt_trichotomy (key x) (key y) with g | g | g
        · rw [cmp_lt g, decide_eq_false (by omega)]; rfl
        · rw [cmp_eq g, decide_eq_true g]; rfl
        · rw [cmp_gt g, decide_eq_false (by omega)]; rfl
      have hs : sameOf x y = (decide (key x = key y) && (sgn x == sgn y)) := by
        unfold sameOf
        rw [isNb_no h, Bool.false_and, Bool.false_or, Bool.eq_iff_iff, Bool.and_eq_true, decide_eq_true_iff, decide_eq_true_iff, beq_iff_eq]
        exact ⟨fun e => by rw [e]; exact ⟨rfl, rfl⟩, fun ⟨a, b⟩ => eq_of_key hx hy a b⟩
      have HS := Lib.hid hs
      clear h hs hx hy h2
      generalize sameOf x y = r at *
      generalize decide (key x = key y) = k at *
      generalize sgn x = s at *
      generalize sgn y = t at *
      cases k
      · go_enter Try.func33, Try.ntmps33
        go_wp2_with fail
        refine (C1.out _).mono ?_
        rintro e w ⟨rfl, rfl⟩
        go_wp2_with fail
        refine (C2.out _).mono ?_
        rintro e w ⟨rfl, rfl⟩
        go_wp2_with fail
        go_ret
        exact ⟨ret_bool (by rw [HS.out]; rfl), rfl⟩
      · cases s <;> cases t
        all_goals
          go_enter Try.func33, Try.ntmps33
          go_wp2_with fail
          refine (C1.out _).mono ?_
          rintro e w ⟨rfl, rfl⟩
          go_wp2_with fail
          refine (C2.out _).mono ?_
          rintro e w ⟨rfl, rfl⟩
          go_wp2_with fail
          refine (B1.out _).mono ?_
          rintro e w ⟨rfl, rfl⟩
          go_wp2_with fail
          refine (B2.out _).mono ?_
          rintro e w ⟨rfl, rfl⟩
          go_wp2_with fail
          go_ret
          exact ⟨ret_bool (by rw [HS.out]; rfl), rfl⟩

/-! ### Which stands ahead -/
def key' (x : Nat) : Int := if kindOf x = 2 ∨ kindOf x = 5 then key x else 0
def lessOf (x y : Nat) : Bool := decide (kindOf x < kindOf y ∨ kindOf x = kindOf y ∧ key' x < key' y)

/-- Of two of one kind the float order says just that. -/
theorem order_kind (x y : Nat) (hx : x < 18446744073709551616) (hy : y < 18446744073709551616) (h : kindOf x = kindOf y) : (FloatKind.f64.format.order x y == some .lt) = decide (key' x < key' y) := by
  by_cases hn : isN x ∨ isN y
  · rw [order_nan x y hn]
    have hk : kindOf x = 0 ∧ kindOf y = 0 := by
      rcases hn with hn | hn
      · have := kind_nan x hn; omega
      · have := kind_nan y hn; omega
    unfold key'
    rw [if_neg (by omega), if_neg (by omega)]
    rfl
  · have hn1 : ¬ isN x := fun g => hn (.inl g)
    have hn2 : ¬ isN y := fun g => hn (.inr g)
    have ho : (FloatKind.f64.format.order x y == some .lt) = decide (key x < key y) := by
      rw [order_num x y hn1 hn2]
      rcases Int.lt_trichotomy (key x) (key y) with g | g | g
      · rw [cmp_lt g, decide_eq_true g]; rfl
      · rw [cmp_eq g, decide_eq_false (by omega)]; rfl
      · rw [cmp_gt g, decide_eq_false (by omega)]; rfl
    rw [ho]
    unfold key'
    by_cases hk : kindOf x = 2 ∨ kindOf x = 5
    · rw [if_pos hk, if_pos (by omega)]
    · rw [if_neg hk, if_neg (by omega)]
      refine (decide_eq_false ?_).trans (decide_eq_false (by omega)).symm
      rcases kind_ways x hx with ⟨g, _⟩ | ⟨_, a1, a2, a3⟩ | ⟨_, a1, a2, a3⟩ | ⟨_, a1, a2, a3⟩ | ⟨_, a1, a2, a3⟩ | ⟨_, _, _, _, a3⟩ | ⟨_, _, _, _, a3⟩
      · exact absurd g hn1
      all_goals
        first
          | omega
          | (rcases kind_ways y hy with ⟨g, _⟩ | ⟨_, b1, b2, b3⟩ | ⟨_, b1, b2, b3⟩ | ⟨_, b1, b2, b3⟩ | ⟨_, b1, b2, b3⟩ | ⟨_, _, _, _, b3⟩ | ⟨_, _, _, _, b3⟩
             · exact absurd g hn2
             all_goals
               first
                 | (exfalso; omega)
                 | (unfold key; rw [a1, a2, b1, b2]; omega))

end Go.Proofs.Ytcfogoepoghedaa
