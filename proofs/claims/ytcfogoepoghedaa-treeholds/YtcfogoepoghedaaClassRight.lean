/-
  The contract of class.Right (layer 17).
-/
import Derived.Test.YtcfogoepoghedaaClass
namespace Go.Proofs.Ytcfogoepoghedaa
open Go.ChangeShapes Go.WideShapes Go.ChangeAt Go.RowKit Go.Joins Go.Deep
set_option linter.unusedVariables false

def rightB (b1 b2 r n z b3 b4 b5 b6 b7 b8 : Bool) : Int :=
  if b1 = false then 2 else if b2 = false then 2 else if r = true then 11 else if n = true then 21 else if z = true then 13 else if b3 = false then 14 else if b4 = false then 16 else if b5 = false then 16 else if b6 = false then 2 else if b7 = false then 2 else if b8 = false then 2 else 0
set_option maxHeartbeats 4000000 in
theorem right_core (c : Cl) (b1 b2 r n z b3 b4 b5 b6 b7 b8 : Bool) (u : Int) (w : World) (hr : (c.parent == c.id) = r) (hz : (u == 0) = z)
    (W1 : Hid (∀ w, Calls Try.prog 43 #[.int .i64 c.id, .int .i64 1, .int .i64 65535] w fun e w' => e = .returned (.bool b1) ∧ w' = w))
    (W2 : Hid (∀ w, Calls Try.prog 43 #[.int .i64 c.parent, .int .i64 0, .int .i64 65535] w fun e w' => e = .returned (.bool b2) ∧ w' = w))
    (W3 : Hid (∀ w, Calls Try.prog 43 #[.int .i64 c.prio, .int .i64 0, .int .i64 7] w fun e w' => e = .returned (.bool b3) ∧ w' = w))
    (W4 : Hid (∀ w, Calls Try.prog 43 #[.int .i64 c.quantum, .int .i64 1, .int .i64 65536] w fun e w' => e = .returned (.bool b4) ∧ w' = w))
    (W5 : Hid (∀ w, Calls Try.prog 43 #[.int .i64 c.limit, .int .i64 1, .int .i64 1024] w fun e w' => e = .returned (.bool b5) ∧ w' = w))
    (W6 : Hid (∀ w, Calls Try.prog 43 #[.int .i64 c.weight, .int .i64 0, .int .i64 16] w fun e w' => e = .returned (.bool b6) ∧ w' = w))
    (W7 : Hid (∀ w, Calls Try.prog 43 #[.int .i64 c.minIdle, .int .i64 (-1099511627776), .int .i64 0] w fun e w' => e = .returned (.bool b7) ∧ w' = w))
    (W8 : Hid (∀ w, Calls Try.prog 43 #[.int .i64 c.maxIdle, .int .i64 0, .int .i64 1099511627776] w fun e w' => e = .returned (.bool b8) ∧ w' = w))
    (WN : Hid (∀ w, Calls Try.prog 44 #[.float .f64 c.share] w fun e w' => e = .returned (.bool n) ∧ w' = w))
    (WU : Hid (∀ w, Calls Try.prog 45 #[.agg c.cells] w fun e w' => e = .returned (.int .i64 u) ∧ Touch [] w w')) :
    Calls Try.prog 35 #[.agg c.cells] w fun e w' => e = .returned (.int .i64 (rightB b1 b2 r n z b3 b4 b5 b6 b7 b8)) ∧ Touch [] w w' := by
  unfold Cl.cells at *
  rcases Bool.eq_false_or_eq_true b1 with rfl | rfl
  rotate_left
  · go_enter Try.func35, Try.ntmps35
    go_wp2_with fail
    refine (W1.out _).mono ?_
    rintro e w' ⟨rfl, rfl⟩
    go_wp2_with fail
    go_ret
    exact ⟨rfl, (Touch.refl _ _).alloc _⟩
  rcases Bool.eq_false_or_eq_true b2 with rfl | rfl
  rotate_left
  · go_enter Try.func35, Try.ntmps35
    go_wp2_with fail
    refine (W1.out _).mono ?_
    rintro e w' ⟨rfl, rfl⟩
    go_wp2_with fail
    refine (W2.out _).mono ?_
    rintro e w' ⟨rfl, rfl⟩
    go_wp2_with fail
    go_ret
    exact ⟨rfl, (Touch.refl _ _).alloc _⟩
  rcases Bool.eq_false_or_eq_true r with rfl | rfl
  · go_enter Try.func35, Try.ntmps35
    go_wp2_with fail
    refine (W1.out _).mono ?_
    rintro e w' ⟨rfl, rfl⟩
    go_wp2_with fail
    refine (W2.out _).mono ?_
    rintro e w' ⟨rfl, rfl⟩
    go_wp2_with fail
    go_ret
    exact ⟨rfl, (Touch.refl _ _).alloc _⟩
  rcases Bool.eq_false_or_eq_true n with rfl | rfl
  · go_enter Try.func35, Try.ntmps35
    go_wp2_with fail
    refine (W1.out _).mono ?_
    rintro e w' ⟨rfl, rfl⟩
    go_wp2_with fail
    refine (W2.out _).mono ?_
    rintro e w' ⟨rfl, rfl⟩
    go_wp2_with fail
    refine (WN.out _).mono ?_
    rintro e w' ⟨rfl, rfl⟩
    go_wp2_with fail
    go_ret
    exact ⟨rfl, (Touch.refl _ _).alloc _⟩
  rcases Bool.eq_false_or_eq_true z with rfl | rfl
  · go_enter Try.func35, Try.ntmps35
    go_wp2_with fail
    refine (W1.out _).mono ?_
    rintro e w' ⟨rfl, rfl⟩
    go_wp2_with fail
    refine (W2.out _).mono ?_
    rintro e w' ⟨rfl, rfl⟩
    go_wp2_with fail
    refine (WN.out _).mono ?_
    rintro e w' ⟨rfl, rfl⟩
    go_wp2_with fail
    refine (WU.out _).mono ?_
    rintro e w2 ⟨rfl, t⟩
    have k3 := kept t 3 _ rfl
    have k4 := kept t 4 _ rfl
    have k5 := kept t 5 _ rfl
    have k6 := kept t 6 _ rfl
    have k7 := kept t 7 _ rfl
    have k8 := kept t 8 _ rfl
    have lt2 := kept_lt t
    have T := Lib.hid t
    clear t
    go_wp2_with fail
    go_ret
    exact ⟨rfl, ((Touch.refl _ _).alloc _).trans T.out (by simp)⟩
  rcases Bool.eq_false_or_eq_true b3 with rfl | rfl
  rotate_left
  · go_enter Try.func35, Try.ntmps35
    go_wp2_with fail
    refine (W1.out _).mono ?_
    rintro e w' ⟨rfl, rfl⟩
    go_wp2_with fail
    refine (W2.out _).mono ?_
    rintro e w' ⟨rfl, rfl⟩
    go_wp2_with fail
    refine (WN.out _).mono ?_
    rintro e w' ⟨rfl, rfl⟩
    go_wp2_with fail
    refine (WU.out _).mono ?_
    rintro e w2 ⟨rfl, t⟩
    have k3 := kept t 3 _ rfl
    have k4 := kept t 4 _ rfl
    have k5 := kept t 5 _ rfl
    have k6 := kept t 6 _ rfl
    have k7 := kept t 7 _ rfl
    have k8 := kept t 8 _ rfl
    have lt2 := kept_lt t
    have T := Lib.hid t
    clear t
    go_wp2_with fail
    refine (W3.out _).mono ?_
    rintro e w' ⟨rfl, rfl⟩
    go_wp2_with fail
    go_ret
    exact ⟨rfl, ((Touch.refl _ _).alloc _).trans T.out (by simp)⟩
  rcases Bool.eq_false_or_eq_true b4 with rfl | rfl
  rotate_left
  · go_enter Try.func35, Try.ntmps35
    go_wp2_with fail
    refine (W1.out _).mono ?_
    rintro e w' ⟨rfl, rfl⟩
    go_wp2_with fail
    refine (W2.out _).mono ?_
    rintro e w' ⟨rfl, rfl⟩
    go_wp2_with fail
    refine (WN.out _).mono ?_
    rintro e w' ⟨rfl, rfl⟩
    go_wp2_with fail
    refine (WU.out _).mono ?_
    rintro e w2 ⟨rfl, t⟩
    have k3 := kept t 3 _ rfl
    have k4 := kept t 4 _ rfl
    have k5 := kept t 5 _ rfl
    have k6 := kept t 6 _ rfl
    have k7 := kept t 7 _ rfl
    have k8 := kept t 8 _ rfl
    have lt2 := kept_lt t
    have T := Lib.hid t
    clear t
    go_wp2_with fail
    refine (W3.out _).mono ?_
    rintro e w' ⟨rfl, rfl⟩
    go_wp2_with fail
    refine (W4.out _).mono ?_
    rintro e w' ⟨rfl, rfl⟩
    go_wp2_with fail
    go_ret
    exact ⟨rfl, ((Touch.refl _ _).alloc _).trans T.out (by simp)⟩
  rcases Bool.eq_false_or_eq_true b5 with rfl | rfl
  rotate_left
  · go_enter Try.func35, Try.ntmps35
    go_wp2_with fail
    refine (W1.out _).mono ?_
    rintro e w' ⟨rfl, rfl⟩
    go_wp2_with fail
    refine (W2.out _).mono ?_
    rintro e w' ⟨rfl, rfl⟩
    go_wp2_with fail
    refine (WN.out _).mono ?_
    rintro e w' ⟨rfl, rfl⟩
    go_wp2_with fail
    refine (WU.out _).mono ?_
    rintro e w2 ⟨rfl, t⟩
    have k3 := kept t 3 _ rfl
    have k4 := kept t 4 _ rfl
    have k5 := kept t 5 _ rfl
    have k6 := kept t 6 _ rfl
    have k7 := kept t 7 _ rfl
    have k8 := kept t 8 _ rfl
    have lt2 := kept_lt t
    have T := Lib.hid t
    clear t
    go_wp2_with fail
    refine (W3.out _).mono ?_
    rintro e w' ⟨rfl, rfl⟩
    go_wp2_with fail
    refine (W4.out _).mono ?_
    rintro e w' ⟨rfl, rfl⟩
    go_wp2_with fail
    refine (W5.out _).mono ?_
    rintro e w' ⟨rfl, rfl⟩
    go_wp2_with fail
    go_ret
    exact ⟨rfl, ((Touch.refl _ _).alloc _).trans T.out (by simp)⟩
  rcases Bool.eq_false_or_eq_true b6 with rfl | rfl
  rotate_left
  · go_enter Try.func35, Try.ntmps35
    go_wp2_with fail
    refine (W1.out _).mono ?_
    rintro e w' ⟨rfl, rfl⟩
    go_wp2_with fail
    refine (W2.out _).mono ?_
    rintro e w' ⟨rfl, rfl⟩
    go_wp2_with fail
    refine (WN.out _).mono ?_
    rintro e w' ⟨rfl, rfl⟩
    go_wp2_with fail
    refine (WU.out _).mono ?_
    rintro e w2 ⟨rfl, t⟩
    have k3 := kept t 3 _ rfl
    have k4 := kept t 4 _ rfl
    have k5 := kept t 5 _ rfl
    have k6 := kept t 6 _ rfl
    have k7 := kept t 7 _ rfl
    have k8 := kept t 8 _ rfl
    have lt2 := kept_lt t
    have T := Lib.hid t
    clear t
    go_wp2_with fail
    refine (W3.out _).mono ?_
    rintro e w' ⟨rfl, rfl⟩
    go_wp2_with fail
    refine (W4.out _).mono ?_
    rintro e w' ⟨rfl, rfl⟩
    go_wp2_with fail
    refine (W5.out _).mono ?_
    rintro e w' ⟨rfl, rfl⟩
    go_wp2_with fail
    refine (W6.out _).mono ?_
    rintro e w' ⟨rfl, rfl⟩
    go_wp2_with fail
    go_ret
    exact ⟨rfl, ((Touch.refl _ _).alloc _).trans T.out (by simp)⟩
  rcases Bool.eq_false_or_eq_true b7 with rfl | rfl
  rotate_left
  · go_enter Try.func35, Try.ntmps35
    go_wp2_with fail
    refine (W1.out _).mono ?_
    rintro e w' ⟨rfl, rfl⟩
    go_wp2_with fail
    refine (W2.out _).mono ?_
    rintro e w' ⟨rfl, rfl⟩
    go_wp2_with fail
    refine (WN.out _).mono ?_
    rintro e w' ⟨rfl, rfl⟩
    go_wp2_with fail
    refine (WU.out _).mono ?_
    rintro e w2 ⟨rfl, t⟩
    have k3 := kept t 3 _ rfl
    have k4 := kept t 4 _ rfl
    have k5 := kept t 5 _ rfl
    have k6 := kept t 6 _ rfl
    have k7 := kept t 7 _ rfl
    have k8 := kept t 8 _ rfl
    have lt2 := kept_lt t
    have T := Lib.hid t
    clear t
    go_wp2_with fail
    refine (W3.out _).mono ?_
    rintro e w' ⟨rfl, rfl⟩
    go_wp2_with fail
    refine (W4.out _).mono ?_
    rintro e w' ⟨rfl, rfl⟩
    go_wp2_with fail
    refine (W5.out _).mono ?_
    rintro e w' ⟨rfl, rfl⟩
    go_wp2_with fail
    refine (W6.out _).mono ?_
    rintro e w' ⟨rfl, rfl⟩
    go_wp2_with fail
    refine (W7.out _).mono ?_
    rintro e w' ⟨rfl, rfl⟩
    go_wp2_with fail
    go_ret
    exact ⟨rfl, ((Touch.refl _ _).alloc _).trans T.out (by simp)⟩
  rcases Bool.eq_false_or_eq_true b8 with rfl | rfl
  rotate_left
  · go_enter Try.func35, Try.ntmps35
    go_wp2_with fail
    refine (W1.out _).mono ?_
    rintro e w' ⟨rfl, rfl⟩
    go_wp2_with fail
    refine (W2.out _).mono ?_
    rintro e w' ⟨rfl, rfl⟩
    go_wp2_with fail
    refine (WN.out _).mono ?_
    rintro e w' ⟨rfl, rfl⟩
    go_wp2_with fail
    refine (WU.out _).mono ?_
    rintro e w2 ⟨rfl, t⟩
    have k3 := kept t 3 _ rfl
    have k4 := kept t 4 _ rfl
    have k5 := kept t 5 _ rfl
    have k6 := kept t 6 _ rfl
    have k7 := kept t 7 _ rfl
    have k8 := kept t 8 _ rfl
    have lt2 := kept_lt t
    have T := Lib.hid t
    clear t
    go_wp2_with fail
    refine (W3.out _).mono ?_
    rintro e w' ⟨rfl, rfl⟩
    go_wp2_with fail
    refine (W4.out _).mono ?_
    rintro e w' ⟨rfl, rfl⟩
    go_wp2_with fail
    refine (W5.out _).mono ?_
    rintro e w' ⟨rfl, rfl⟩
    go_wp2_with fail
    refine (W6.out _).mono ?_
    rintro e w' ⟨rfl, rfl⟩
    go_wp2_with fail
    refine (W7.out _).mono ?_
    rintro e w' ⟨rfl, rfl⟩
    go_wp2_with fail
    refine (W8.out _).mono ?_
    rintro e w' ⟨rfl, rfl⟩
    go_wp2_with fail
    go_ret
    exact ⟨rfl, ((Touch.refl _ _).alloc _).trans T.out (by simp)⟩
  go_enter Try.func35, Try.ntmps35
  go_wp2_with fail
  refine (W1.out _).mono ?_
  rintro e w' ⟨rfl, rfl⟩
  go_wp2_with fail
  refine (W2.out _).mono ?_
  rintro e w' ⟨rfl, rfl⟩
  go_wp2_with fail
  refine (WN.out _).mono ?_
  rintro e w' ⟨rfl, rfl⟩
  go_wp2_with fail
  refine (WU.out _).mono ?_
  rintro e w2 ⟨rfl, t⟩
  have k3 := kept t 3 _ rfl
  have k4 := kept t 4 _ rfl
  have k5 := kept t 5 _ rfl
  have k6 := kept t 6 _ rfl
  have k7 := kept t 7 _ rfl
  have k8 := kept t 8 _ rfl
  have lt2 := kept_lt t
  have T := Lib.hid t
  clear t
  go_wp2_with fail
  refine (W3.out _).mono ?_
  rintro e w' ⟨rfl, rfl⟩
  go_wp2_with fail
  refine (W4.out _).mono ?_
  rintro e w' ⟨rfl, rfl⟩
  go_wp2_with fail
  refine (W5.out _).mono ?_
  rintro e w' ⟨rfl, rfl⟩
  go_wp2_with fail
  refine (W6.out _).mono ?_
  rintro e w' ⟨rfl, rfl⟩
  go_wp2_with fail
  refine (W7.out _).mono ?_
  rintro e w' ⟨rfl, rfl⟩
  go_wp2_with fail
  refine (W8.out _).mono ?_
  rintro e w' ⟨rfl, rfl⟩
  go_wp2_with fail
  go_ret
  exact ⟨rfl, ((Touch.refl _ _).alloc _).trans T.out (by simp)⟩

theorem two_ifs (p q : Prop) [Decidable p] [Decidable q] (x y : Int) : (if ¬ p then x else if ¬ q then x else y) = if ¬ (p ∧ q) then x else y := by
  by_cases hp : p <;> by_cases hq : q <;> simp [hp, hq]
theorem right_any (c : Cl) (h64 : c.share < 18446744073709551616) (w : World) : Calls Try.prog 35 #[.agg c.cells] w fun e w' => e = .returned (.int .i64 (rightV c)) ∧ Touch [] w w' := by
  have hb := unit_bd c.share h64
  have C := right_core c _ _ _ _ _ _ _ _ _ _ _ _ w rfl rfl (Lib.hid (fun w => within_any _ _ _ w)) (Lib.hid (fun w => within_any _ _ _ w)) (Lib.hid (fun w => within_any _ _ _ w)) (Lib.hid (fun w => within_any _ _ _ w))
    (Lib.hid (fun w => within_any _ _ _ w)) (Lib.hid (fun w => within_any _ _ _ w)) (Lib.hid (fun w => within_any _ _ _ w)) (Lib.hid (fun w => within_any _ _ _ w)) (Lib.hid (fun w => isNaN_any c.share w)) (Lib.hid (fun w => classUnits c h64 w))
  have e : rightV c = rightB (inn c.id 1 65535) (inn c.parent 0 65535) (c.parent == c.id) (isNb c.share) (unitU c.share == 0) (inn c.prio 0 7) (inn c.quantum 1 65536) (inn c.limit 1 1024) (inn c.weight 0 16) (inn c.minIdle (-1099511627776) 0) (inn c.maxIdle 0 1099511627776) := by
    have hn : isNb c.share = decide (unitE c.share = 21) := by unfold isNb; exact decide_eq_decide.2 hb.2.2.1
    rw [hn]
    unfold rightV rightB inn
    simp only [decide_eq_false_iff_not, decide_eq_true_eq, beq_iff_eq, two_ifs, and_assoc]
  rw [e]
  exact C
end Go.Proofs.Ytcfogoepoghedaa
