/-
  Contracts of layer 17 (class): Same, Borrows; the reference's Same; the law's Of.
-/
import Derived.Test.YtinbicpefhnmnaaClassOpen
import Derived.Test.YtinbicpefhnmnaaBoxV
namespace Go.Proofs.Ytinbicpefhnmnaa
open Go.ChangeShapes Go.WideShapes Go.ChangeAt Go.RowKit Go.Joins Go.Deep
set_option linter.unusedVariables false

def sameC (a b : Cl) : Bool := sameOf a.share b.share && decide (a.id = b.id ∧ a.parent = b.parent ∧ a.prio = b.prio ∧ a.quantum = b.quantum ∧ a.limit = b.limit ∧ a.weight = b.weight ∧ a.minIdle = b.minIdle ∧ a.maxIdle = b.maxIdle ∧ a.bounded = b.bounded ∧ a.isolated = b.isolated)

theorem borrows_any (c : Cl) (w : World) : Calls Try.prog 15 #[.agg c.cells] w fun e w' => e = .returned (.bool (!c.bounded && !c.isolated)) ∧ Touch [] w w' := by
  unfold Cl.cells
  cases c.bounded <;> cases c.isolated
  all_goals
    go_enter Try.func15, Try.ntmps15
    go_wp2_with fail
    go_ret
    exact ⟨rfl, (Touch.refl _ _).alloc _⟩

theorem lawOf (c : Cl) (x : Nat) (w : World) : Calls Try.prog 8 #[.agg c.cells, .int .u64 (x : Int)] w fun e w' => e = .returned (.agg ({ c with share := x } : Cl).cells) ∧ Touch [] w w' := by
  have hb : ∀ w, (callFunc 34 #[.int .u64 (x : Int)]).run Try.prog w = .ok (.value (.float .f64 x)) w := fun w => by
    have := float_of_bits (x : Int) w
    rwa [Int.toNat_natCast] at this
  have sf : ∀ (w : World) (a : Addr) (b : Nat), (store a (.float .f64 b)).run Try.prog w = stored Try.prog w a (.float .f64 b) .plain := fun w a b => run_store _ w a _ _ rfl
  unfold Cl.cells
  go_enter Try.func8, Try.ntmps8
  go_wp2_with fail
  refine bodyPost_ret (ret_box rfl rfl BoxV.at1 Try.underlying24 rfl (by kernel_rfl)) rfl ⟨rfl, ((Touch.refl _ _).alloc _).alloc _⟩

set_option maxHeartbeats 2000000 in
theorem classSame (a b : Cl) (w : World) : Calls Try.prog 13 #[.agg a.cells, .agg b.cells] w fun e w' => e = .returned (.bool (sameC a b)) ∧ Touch [] w w' := by
  have K := Lib.hid (fun w => same_any a.share b.share w)
  have HQ := Lib.hid (show sameOf a.share b.share = sameOf a.share b.share from rfl)
  have sf : ∀ (w : World) (a : Addr) (b : Nat), (store a (.float .f64 b)).run Try.prog w = stored Try.prog w a (.float .f64 b) .plain := fun w a b => run_store _ w a _ _ rfl
  have fo : ∀ w : World, (Op.equalIn 9999 22 (.float .f64 0) (.float .f64 0)).run Try.prog w = .ok true w := fun w => by kernel_rfl
  have es : sameC a b = (sameOf a.share b.share && decide (a.id = b.id ∧ a.parent = b.parent ∧ a.prio = b.prio ∧ a.quantum = b.quantum ∧ a.limit = b.limit ∧ a.weight = b.weight ∧ a.minIdle = b.minIdle ∧ a.maxIdle = b.maxIdle ∧ a.bounded = b.bounded ∧ a.isolated = b.isolated)) := rfl
  rw [es]
  generalize sameOf a.share b.share = q at *
  unfold Cl.cells
  clear es HQ
  cases q with
  | false =>
    go_enter Try.func13, Try.ntmps13
    go_wp2_with fail
    refine (K.out _).mono ?_
    rintro e w' ⟨rfl, rfl⟩
    go_wp2_with fail
    go_ret
    exact ⟨rfl, ((Touch.refl _ _).alloc _).alloc _⟩
  | true =>
    go_enter Try.func13, Try.ntmps13
    go_wp2_with fail
    refine (K.out _).mono ?_
    rintro e w' ⟨rfl, rfl⟩
    go_wp2_with fail
    all_goals
      go_ret
      exact ⟨ret_bool (by simp_all), ((Touch.refl _ _).alloc _).alloc _⟩

set_option maxHeartbeats 4000000 in
theorem refClassSame (a b : Cl) (ha : a.share < 18446744073709551616) (hb : b.share < 18446744073709551616) (w : World) : Calls Try.prog 14 #[.agg a.cells, .agg b.cells] w fun e w' => e = .returned (.bool (sameC a b)) ∧ Touch [] w w' := by
  have K := Lib.hid (fun w => refSame_any a.share b.share ha hb w)
  obtain ⟨q, hq⟩ : ∃ q, sameOf a.share b.share = q := ⟨_, rfl⟩
  have HQ := Lib.hid hq
  rw [hq] at K
  unfold Cl.cells
  clear hq ha hb
  cases hid : (a.id != b.id) with
  | true =>
    have e : sameC a b = false := by
      unfold sameC
      rw [HQ.out]
      simp_all
    rw [e]
    clear e HQ
    go_enter Try.func14, Try.ntmps14
    go_wp2_with fail
    go_ret
    exact ⟨rfl, ((Touch.refl _ _).alloc _).alloc _⟩
  | false =>
    cases hparent : (a.parent != b.parent) with
    | true =>
      have e : sameC a b = false := by
        unfold sameC
        rw [HQ.out]
        simp_all
      rw [e]
      clear e HQ
      go_enter Try.func14, Try.ntmps14
      go_wp2_with fail
      go_ret
      exact ⟨rfl, ((Touch.refl _ _).alloc _).alloc _⟩
    | false =>
      cases q with
      | false =>
        have e : sameC a b = false := by
          unfold sameC
          rw [HQ.out]
          simp_all
        rw [e]
        clear e HQ
        go_enter Try.func14, Try.ntmps14
        go_wp2_with fail
        refine (K.out _).mono ?_
        rintro e w' ⟨rfl, rfl⟩
        go_wp2_with fail
        go_ret
        exact ⟨rfl, ((Touch.refl _ _).alloc _).alloc _⟩
      | true =>
        cases hprio : (a.prio != b.prio) with
        | true =>
          have e : sameC a b = false := by
            unfold sameC
            rw [HQ.out]
            simp_all
          rw [e]
          clear e HQ
          go_enter Try.func14, Try.ntmps14
          go_wp2_with fail
          refine (K.out _).mono ?_
          rintro e w' ⟨rfl, rfl⟩
          go_wp2_with fail
          go_ret
          exact ⟨rfl, ((Touch.refl _ _).alloc _).alloc _⟩
        | false =>
          cases hquantum : (a.quantum != b.quantum) with
          | true =>
            have e : sameC a b = false := by
              unfold sameC
              rw [HQ.out]
              simp_all
            rw [e]
            clear e HQ
            go_enter Try.func14, Try.ntmps14
            go_wp2_with fail
            refine (K.out _).mono ?_
            rintro e w' ⟨rfl, rfl⟩
            go_wp2_with fail
            go_ret
            exact ⟨rfl, ((Touch.refl _ _).alloc _).alloc _⟩
          | false =>
            cases hlimit : (a.limit != b.limit) with
            | true =>
              have e : sameC a b = false := by
                unfold sameC
                rw [HQ.out]
                simp_all
              rw [e]
              clear e HQ
              go_enter Try.func14, Try.ntmps14
              go_wp2_with fail
              refine (K.out _).mono ?_
              rintro e w' ⟨rfl, rfl⟩
              go_wp2_with fail
              go_ret
              exact ⟨rfl, ((Touch.refl _ _).alloc _).alloc _⟩
            | false =>
              cases hweight : (a.weight != b.weight) with
              | true =>
                have e : sameC a b = false := by
                  unfold sameC
                  rw [HQ.out]
                  simp_all
                rw [e]
                clear e HQ
                go_enter Try.func14, Try.ntmps14
                go_wp2_with fail
                refine (K.out _).mono ?_
                rintro e w' ⟨rfl, rfl⟩
                go_wp2_with fail
                go_ret
                exact ⟨rfl, ((Touch.refl _ _).alloc _).alloc _⟩
              | false =>
                cases hminIdle : (a.minIdle == b.minIdle) with
                | false =>
                  have e : sameC a b = false := by
                    unfold sameC
                    rw [HQ.out]
                    simp_all
                  rw [e]
                  clear e HQ
                  go_enter Try.func14, Try.ntmps14
                  go_wp2_with fail
                  refine (K.out _).mono ?_
                  rintro e w' ⟨rfl, rfl⟩
                  go_wp2_with fail
                  go_ret
                  exact ⟨rfl, ((Touch.refl _ _).alloc _).alloc _⟩
                | true =>
                  cases hmaxIdle : (a.maxIdle == b.maxIdle) with
                  | false =>
                    have e : sameC a b = false := by
                      unfold sameC
                      rw [HQ.out]
                      simp_all
                    rw [e]
                    clear e HQ
                    go_enter Try.func14, Try.ntmps14
                    go_wp2_with fail
                    refine (K.out _).mono ?_
                    rintro e w' ⟨rfl, rfl⟩
                    go_wp2_with fail
                    go_ret
                    exact ⟨rfl, ((Touch.refl _ _).alloc _).alloc _⟩
                  | true =>
                    cases hbounded : (a.bounded == b.bounded) with
                    | false =>
                      have e : sameC a b = false := by
                        unfold sameC
                        rw [HQ.out]
                        simp_all
                      rw [e]
                      clear e HQ
                      go_enter Try.func14, Try.ntmps14
                      go_wp2_with fail
                      refine (K.out _).mono ?_
                      rintro e w' ⟨rfl, rfl⟩
                      go_wp2_with fail
                      go_ret
                      exact ⟨rfl, ((Touch.refl _ _).alloc _).alloc _⟩
                    | true =>
                      cases hisolated : (a.isolated == b.isolated) with
                      | false =>
                        have e : sameC a b = false := by
                          unfold sameC
                          rw [HQ.out]
                          simp_all
                        rw [e]
                        clear e HQ
                        go_enter Try.func14, Try.ntmps14
                        go_wp2_with fail
                        refine (K.out _).mono ?_
                        rintro e w' ⟨rfl, rfl⟩
                        go_wp2_with fail
                        go_ret
                        exact ⟨rfl, ((Touch.refl _ _).alloc _).alloc _⟩
                      | true =>
                        have e : sameC a b = true := by
                          unfold sameC
                          rw [HQ.out]
                          simp_all
                        rw [e]
                        clear e HQ
                        go_enter Try.func14, Try.ntmps14
                        go_wp2_with fail
                        refine (K.out _).mono ?_
                        rintro e w' ⟨rfl, rfl⟩
                        go_wp2_with fail
                        go_ret
                        exact ⟨rfl, ((Touch.refl _ _).alloc _).alloc _⟩
end Go.Proofs.Ytinbicpefhnmnaa
