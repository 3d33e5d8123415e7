/-
  Layer 34 (ledger): a ledger that isn't there.
-/
import Derived.Test.YtbppccmkmpgibaaLedger16
namespace Go.Proofs.Ytbppccmkmpgibaa
open Go.ChangeShapes Go.WideShapes Go.ChangeAt Go.RowKit Go.Deep Go.Maps
set_option linter.unusedVariables false
set_option linter.unusedSimpArgs false
theorem enter_nil (i : Int) (f : Value) (w : World) : Calls Try.prog 28 #[.pointer none, .int .i64 i, f] w fun e w' => e = .returned (.tuple #[]) ∧ Touch [] w w' := by
  go_enter Try.func28, Try.ntmps28
  go_wp2_with fail
  first
  | (go_end0; exact ⟨rfl, Touch.refl _ _⟩)
  | (refine bodyPost_ret (results_none rfl _ _ _) rfl ?_; exact ⟨rfl, Touch.refl _ _⟩)
theorem got_nil (i n : Int) (w : World) : Calls Try.prog 16 #[.pointer none, .int .i64 i, .int .i64 n] w fun e w' => e = .returned (.tuple #[]) ∧ Touch [] w w' := by
  have E := Lib.hid (fun f w => enter_nil i f w)
  have T := Lib.hid ((Touch.refl [] w).alloc (.cells #[.int .i64 n] 3))
  go_enter Try.func16, Try.ntmps16
  go_wp2_with fail
  refine (E.out _ _).mono ?_
  rintro e w2 ⟨rfl, t2⟩
  have T2 := Lib.hid (T.out.trans t2 (by simp))
  clear t2
  go_wp2_with fail
  go_end0
  exact ⟨rfl, T2.out⟩
theorem sent_nil (i n : Int) (w : World) : Calls Try.prog 17 #[.pointer none, .int .i64 i, .int .i64 n] w fun e w' => e = .returned (.tuple #[]) ∧ Touch [] w w' := by
  have E := Lib.hid (fun f w => enter_nil i f w)
  have T := Lib.hid ((Touch.refl [] w).alloc (.cells #[.int .i64 n] 3))
  go_enter Try.func17, Try.ntmps17
  go_wp2_with fail
  refine (E.out _ _).mono ?_
  rintro e w2 ⟨rfl, t2⟩
  have T2 := Lib.hid (T.out.trans t2 (by simp))
  clear t2
  go_wp2_with fail
  go_end0
  exact ⟨rfl, T2.out⟩
set_option maxRecDepth 100000 in
theorem lost_nil (i : Int) (w : World) : Calls Try.prog 18 #[.pointer none, .int .i64 i, .int .i64 1] w fun e w' => e = .returned (.tuple #[]) ∧ Touch [] w w' := by
  have E := Lib.hid (fun f w => enter_nil i f w)
  have T := Lib.hid ((Touch.refl [] w).alloc (.cells #[.int .i64 1] 3))
  have hz := Box1.new w 3 (.int .i64 1)
  have c0 := hz.c0
  have lz := hz.lt
  have I := Lib.hid (isReason_any 1 (w.alloc (.cells #[.int .i64 1] 3)))
  rw [show decide (0 < (1 : Int) ∧ (1 : Int) < 6) = true by decide] at I
  clear hz
  go_enter Try.func18, Try.ntmps18
  go_wp2_with fail
  refine (I.out).mono ?_
  rintro e w1 ⟨rfl, hw⟩
  rw [hw]
  clear hw w1
  go_wp2_with fail
  refine (E.out _ _).mono ?_
  rintro e w2 ⟨rfl, t2⟩
  have T2 := Lib.hid (T.out.trans t2 (by simp))
  clear t2
  go_wp2_with fail
  go_end0
  exact ⟨rfl, T2.out⟩
def zeroV : Value := .agg #[.int .i64 0, .int .i64 0, .int .i64 0, .int .i64 0, .int .i64 0, .int .i64 0]
set_option maxRecDepth 100000 in
theorem of_nil (i : Int) (w : World) : Calls Try.prog 7 #[.pointer none, .int .i64 i] w fun e w' => e = .returned zeroV ∧ Touch [] w w' := by
  have T := Lib.hid ((Touch.refl [] w).alloc (.cells #[.int .i64 0, .int .i64 0, .int .i64 0, .int .i64 0, .int .i64 0, .int .i64 0] 27))
  have R := Lib.hid (BoxV.new w 27 #[.int .i64 0, .int .i64 0, .int .i64 0, .int .i64 0, .int .i64 0, .int .i64 0])
  have r0 := R.out.cell 0
  have r1 := R.out.cell 1
  have r2 := R.out.cell 2
  have r3 := R.out.cell 3
  have r4 := R.out.cell 4
  have r5 := R.out.cell 5
  have fr := R.out.fr
  have lr := R.out.lt
  simp only [List.getElem?_toArray, List.getElem?_cons_zero, List.getElem?_cons_succ] at r0 r1 r2 r3 r4 r5
  have Z := Lib.hid ((((((R.out.set 0 (.int .i64 0)).set 1 (.int .i64 0)).set 2 (.int .i64 0)).set 3 (.int .i64 0)).set 4 (.int .i64 0)).set 5 (.int .i64 0))
  go_enter Try.func7, Try.ntmps7
  go_upto_region 1 with fail
  generalize w.alloc (.cells #[.int .i64 0, .int .i64 0, .int .i64 0, .int .i64 0, .int .i64 0, .int .i64 0] 27) = w1 at *
  generalize eg : w.heap.size = g at *
  have lg := Nat.le_of_eq eg
  go_wp2_with fail
  refine bodyPost_ret (ret_box rfl rfl (show BoxV _ _ 27 #[.int .i64 0, .int .i64 0, .int .i64 0, .int .i64 0, .int .i64 0, .int .i64 0] from Z.out) Try.underlying27 rfl (by kernel_rfl)) rfl ⟨rfl, ?_⟩
  exact (((((T.out.setCell (.inr lg) _).setCell (.inr lg) _).setCell (.inr lg) _).setCell (.inr lg) _).setCell (.inr lg) _).setCell (.inr lg) _
theorem reason_nil (i r : Int) (w : World) : Calls Try.prog 9 #[.pointer none, .int .i64 i, .int .i64 r] w fun e w' => e = .returned (.int .i64 0) ∧ w' = w := by
  go_enter Try.func9, Try.ntmps9
  go_wp2_with fail
  go_ret
  exact ⟨rfl, rfl⟩
theorem ids_nil (w : World) : Calls Try.prog 12 #[.pointer none] w fun e w' => e = .returned (.slice none 0 0) ∧ w' = w := by
  go_enter Try.func12, Try.ntmps12
  go_wp2_with fail
  go_ret
  exact ⟨rfl, rfl⟩
theorem keep_nil (v : Value) (w : World) : Calls Try.prog 19 #[.pointer none, v] w fun e w' => e = .returned (.pointer none) ∧ w' = w := by
  go_enter Try.func19, Try.ntmps19
  go_wp2_with fail
  go_ret
  exact ⟨rfl, rfl⟩
theorem copy_nil (w : World) : Calls Try.prog 20 #[.pointer none] w fun e w' => e = .returned (.pointer none) ∧ w' = w := by
  go_enter Try.func20, Try.ntmps20
  go_wp2_with fail
  go_ret
  exact ⟨rfl, rfl⟩
set_option maxRecDepth 100000 in
theorem total_nil (w : World) : Calls Try.prog 14 #[.pointer none] w fun e w' => e = .returned zeroV ∧ Touch [] w w' := by
  have I := Lib.hid (fun w => ids_nil w)
  have T := Lib.hid (((Touch.refl [] w).alloc (.cells #[.int .i64 0, .int .i64 0, .int .i64 0, .int .i64 0, .int .i64 0, .int .i64 0] 27)).alloc (.cells #[.int .i64 0, .int .i64 0, .int .i64 0, .int .i64 0, .int .i64 0, .int .i64 0] 27))
  have R := Lib.hid (show BoxV ((w.alloc (.cells #[.int .i64 0, .int .i64 0, .int .i64 0, .int .i64 0, .int .i64 0, .int .i64 0] 27)).alloc (.cells #[.int .i64 0, .int .i64 0, .int .i64 0, .int .i64 0, .int .i64 0, .int .i64 0] 27)) w.heap.size 27 #[.int .i64 0, .int .i64 0, .int .i64 0, .int .i64 0, .int .i64 0, .int .i64 0] from (BoxV.new w 27 #[.int .i64 0, .int .i64 0, .int .i64 0, .int .i64 0, .int .i64 0, .int .i64 0]).carry ((Touch.refl [] _).alloc _) (by simp))
  have hr := BoxV.new (w.alloc (.cells #[.int .i64 0, .int .i64 0, .int .i64 0, .int .i64 0, .int .i64 0, .int .i64 0] 27)) 27 #[.int .i64 0, .int .i64 0, .int .i64 0, .int .i64 0, .int .i64 0, .int .i64 0]
  rw [show (w.alloc (.cells #[.int .i64 0, .int .i64 0, .int .i64 0, .int .i64 0, .int .i64 0, .int .i64 0] 27)).heap.size = w.heap.size + 1 by simp] at hr
  have Q := Lib.hid hr
  clear hr
  go_enter Try.func14, Try.ntmps14
  go_wp2_with fail
  generalize (w.alloc (.cells #[.int .i64 0, .int .i64 0, .int .i64 0, .int .i64 0, .int .i64 0, .int .i64 0] 27)).alloc (.cells #[.int .i64 0, .int .i64 0, .int .i64 0, .int .i64 0, .int .i64 0, .int .i64 0] 27) = w1 at *
  refine (I.out _).mono ?_
  rintro e w2 ⟨rfl, hw⟩
  rw [hw]
  clear hw w2 I
  have r0 := R.out.cell 0
  have r1 := R.out.cell 1
  have r2 := R.out.cell 2
  have r3 := R.out.cell 3
  have r4 := R.out.cell 4
  have r5 := R.out.cell 5
  have fr := R.out.fr
  have lr := R.out.lt
  have q0 := Q.out.cell 0
  have q1 := Q.out.cell 1
  have q2 := Q.out.cell 2
  have q3 := Q.out.cell 3
  have q4 := Q.out.cell 4
  have q5 := Q.out.cell 5
  have lq := Q.out.lt
  simp only [List.getElem?_toArray, List.getElem?_cons_zero, List.getElem?_cons_succ] at r0 r1 r2 r3 r4 r5 q0 q1 q2 q3 q4 q5
  have Z := Lib.hid ((((((R.out.set 0 (.int .i64 0)).set 1 (.int .i64 0)).set 2 (.int .i64 0)).set 3 (.int .i64 0)).set 4 (.int .i64 0)).set 5 (.int .i64 0))
  go_wp2_with fail
  refine wp_loop_rounds 1 ?_
  rw [rounds_succ]
  go_wp2_with fail
  refine bodyPost_ret (ret_box rfl rfl (show BoxV _ _ 27 #[.int .i64 0, .int .i64 0, .int .i64 0, .int .i64 0, .int .i64 0, .int .i64 0] from Z.out) Try.underlying27 rfl (by kernel_rfl)) rfl ⟨rfl, ?_⟩
  exact (((((T.out.setCell (.inr (by simp)) _).setCell (.inr (by simp)) _).setCell (.inr (by simp)) _).setCell (.inr (by simp)) _).setCell (.inr (by simp)) _).setCell (.inr (by simp)) _
end Go.Proofs.Ytbppccmkmpgibaa
