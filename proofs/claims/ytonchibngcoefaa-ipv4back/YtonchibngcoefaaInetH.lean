/-
  The reference of layer 10 (inet): Of; inet's Mask at the law's example.
-/
import Derived.Test.YtonchibngcoefaaInetG
namespace Go.Proofs.Ytonchibngcoefaa
open Go.ChangeShapes Go.WideShapes Go.ChangeAt Go.RowKit Go.Deep
set_option linter.unusedVariables false
set_option linter.unusedSimpArgs false

set_option maxRecDepth 100000 in
set_option maxHeartbeats 2000000 in
theorem refOf10 (l : List UInt8) (hl : l.length ≤ 1000000000) (w : World) :
    Calls Try.prog 17 #[.string (S l)] w fun e w' => e = .returned (.tuple #[av (hiA l) (loA l), .int .i64 (verA l), .bool (okA l)]) ∧ Touch [] w w' := by
  have hss : (S l).size = l.length := S_size l
  have BR := Lib.hid (BoxV.new w 44 #[.int .u64 0, .int .u64 0])
  have T0 := Lib.hid ((Touch.refl [] w).alloc (.cells #[.int .u64 0, .int .u64 0] 44))
  by_cases h4 : l.length = 4
  · have N := Lib.hid (fun w => number10 l (by omega) w)
    have e1 : hiA l = 0 := by unfold hiA; rw [if_neg (by omega)]
    have e2 : loA l = num l := by unfold loA; rw [if_pos h4]
    have e3 : verA l = 4 := by unfold verA; rw [if_pos h4]
    have e4 : okA l = true := by unfold okA; simp [h4]
    rw [e1, e2, e3, e4]
    rw [h4] at hss
    generalize num l = x at *
    clear e1 e2 e3 e4 h4
    unfold av
    go_enter Try.func17, Try.ntmps17
    go_wp2_with fail
    refine (N.out _).mono ?_
    rintro e w1 ⟨rfl, t1⟩
    have x1 := BR.out.carry t1 (by simp)
    have c0 := x1.cell 0
    have c1 := x1.cell 1
    have fz := x1.fr
    have lt1 := x1.lt
    have X1 := Lib.hid x1
    have T1 := Lib.hid (T0.out.trans t1 (by simp))
    clear t1 x1
    go_wp2_with fail
    have D := (X1.out.set 0 (.int .u64 0)).set 1 (.int .u64 (x : Int))
    have d0 := D.cell 0
    have d1 := D.cell 1
    refine bodyPost_ret (v := .tuple #[.agg #[.int .u64 0, .int .u64 (x : Int)], .int .i64 4, .bool true]) (by simp [results, Try.results17, go_sem, d0, d1]) rfl ⟨rfl, ?_⟩
    exact (T1.out.setCell (by simp) _).setCell (by simp) _
  · by_cases h16 : l.length = 16
    · have N1 := Lib.hid (fun w => number10 (l.take 8) (by rw [List.length_take]; omega) w)
      have N2 := Lib.hid (fun w => number10 (l.drop 8) (by rw [List.length_drop]; omega) w)
      have e1 : hiA l = num (l.take 8) := by unfold hiA; rw [if_pos h16]
      have e2 : loA l = num (l.drop 8) := by unfold loA; rw [if_neg h4, if_pos h16]
      have e3 : verA l = 6 := by unfold verA; rw [if_neg h4, if_pos h16]
      have e4 : okA l = true := by unfold okA; simp [h16]
      rw [e1, e2, e3, e4]
      have s1 : (S l).extract 0 8 = S (l.take 8) := S_take l 8
      have s2 : (S l).extract 8 16 = S (l.drop 8) := by have := S_drop l 8; rwa [h16] at this
      rw [h16] at hss
      generalize num (l.take 8) = x at *
      generalize num (l.drop 8) = y at *
      clear e1 e2 e3 e4 h4 h16
      unfold av
      go_enter Try.func17, Try.ntmps17
      go_upto_region 4 with fail
      generalize w.alloc (.cells #[.int .u64 0, .int .u64 0] 44) = w1 at *
      refine wp_region_tail (wd := w1) 7 (by kernel_rfl) (by kernel_rfl) ((Touch.refl _ _).drew) ?_
      simp only [List.take_succ_cons, List.take_zero, List.drop_succ_cons, List.drop_zero]
      repeat (first | go_big_quiet_step ((go_at_call 51; first | with_reducible exact Calls.cls_at (N1.out _) | with_reducible exact Calls.cls_at (N2.out _))) | quiet_step ((go_at_call 51; first | with_reducible exact Calls.cls_at (N1.out _) | with_reducible exact Calls.cls_at (N2.out _))))
      refine wpQuiet_nil ?_
      intro z
      have x1 := BR.out.carry z.property (by simp)
      have c0 := x1.cell 0
      have c1 := x1.cell 1
      have fz := x1.fr
      have lt1 := x1.lt
      have X1 := Lib.hid x1
      have T1 := Lib.hid (T0.out.trans z.property (by simp))
      clear x1
      go_wp2_with fail
      have D := (X1.out.set 0 (.int .u64 (x : Int))).set 1 (.int .u64 (y : Int))
      have d0 := D.cell 0
      have d1 := D.cell 1
      refine bodyPost_ret (v := .tuple #[.agg #[.int .u64 (x : Int), .int .u64 (y : Int)], .int .i64 6, .bool true]) (by simp [results, Try.results17, go_sem, d0, d1]) rfl ⟨rfl, ?_⟩
      exact (T1.out.setCell (by simp) _).setCell (by simp) _
    · have e1 : hiA l = 0 := by unfold hiA; rw [if_neg h16]
      have e2 : loA l = 0 := by unfold loA; rw [if_neg h4, if_neg h16]
      have e3 : verA l = 0 := by unfold verA; rw [if_neg h4, if_neg h16]
      have e4 : okA l = false := by unfold okA; simp [h4, h16]
      rw [e1, e2, e3, e4]
      have b4 : ((l.length : Int) == 4) = false := by simp; omega
      have b16 : ((l.length : Int) == 16) = false := by simp; omega
      clear e1 e2 e3 e4 BR T0 h4 h16
      unfold av
      go_enter Try.func17, Try.ntmps17
      go_wp2_with fail
      refine bodyPost_ret (v := .tuple #[.agg #[.int .u64 0, .int .u64 0], .int .i64 0, .bool false]) (by simp [results, Try.results17, go_sem]) rfl ⟨rfl, ?_⟩
      exact (Touch.refl _ _).alloc _

theorem lead0 (w : World) : Calls Try.prog 69 #[.int .u64 0, .int .i64 120] w fun e w' => e = .returned (.int .u64 0) ∧ Touch [] w w' := by
  go_enter Try.func69, Try.ntmps69
  go_wp2_with fail
  go_ret
  exact ⟨rfl, Touch.refl _ _⟩
theorem lead1 (w : World) : Calls Try.prog 69 #[.int .u64 3232235853, .int .i64 56] w fun e w' => e = .returned (.int .u64 3232235776) ∧ Touch [] w w' := by
  go_enter Try.func69, Try.ntmps69
  go_wp2_with fail
  go_ret
  exact ⟨rfl, Touch.refl _ _⟩

set_option maxHeartbeats 1000000 in
theorem inetLives (w : World) : Calls Try.prog 15 #[] w fun e w' => e = .returned (.bool true) ∧ Touch [] w w' := by
  have M : ∀ w, Calls Try.prog 48 #[.int .i64 4, av 0 3232235853, .int .i64 24] w fun e w' => e = .returned (av 0 3232235776) ∧ Touch [] w w' := by
    intro w
    have R := Lib.hid (fun w => right10 4 0 3232235853 w)
    rw [show rightA 4 0 3232235853 = true by unfold rightA; simp] at R
    have A := Lib.hid (fun w => ahead10 4 w)
    rw [show (128 : Int) - sizeV 4 = 96 from rfl] at A
    have B := Lib.hid (fun w => bits10 4 w)
    rw [show sizeV 4 = 32 from rfl] at B
    have L0 := Lib.hid lead0
    have L1 := Lib.hid lead1
    unfold av at *
    go_enter Try.func48, Try.ntmps48
    go_wp2_with fail
    refine (R.out _).mono ?_
    rintro e w2 ⟨rfl, t⟩
    have X0 := Lib.hid (BoxV.of2.carry t (by simp))
    have X1 := Lib.hid (BoxV.at1.carry t (by simp))
    have T := Lib.hid (((Touch.refl [] _).alloc _).alloc _ |>.trans t (by simp))
    clear t
    go_wp2_with fail
    refine (A.out _).mono ?_
    rintro e w2' ⟨rfl, rfl⟩
    go_wp2_with fail
    refine (B.out _).mono ?_
    rintro e w2' ⟨rfl, rfl⟩
    go_upto_region 4 with fail
    have c0 : ∀ x : Cls w2', x.val.cell? ⟨w.heap.size, 0, none⟩ = some (.int .u64 0) := fun x => (X0.out.carry x.property (by simp)).cell 0
    have c1 : ∀ x : Cls w2', x.val.cell? ⟨w.heap.size, 1, none⟩ = some (.int .u64 3232235853) := fun x => (X0.out.carry x.property (by simp)).cell 1
    refine wp_region_tail (wd := w2') 10 (by kernel_rfl) (by kernel_rfl) ((Touch.refl _ _).drew) ?_
    simp only [List.take_succ_cons, List.take_zero, List.drop_succ_cons, List.drop_zero]
    repeat (first | go_big_quiet_step ((go_at_call 69; first | with_reducible exact Calls.cls_at (L0.out _) | with_reducible exact Calls.cls_at (L1.out _))) | quiet_step ((go_at_call 69; first | with_reducible exact Calls.cls_at (L0.out _) | with_reducible exact Calls.cls_at (L1.out _))))
    refine wpQuiet_nil ?_
    intro x
    have y := X1.out.carry x.property (by simp)
    have fz := y.fr
    have y0 := y.cell 0
    have y1 := y.cell 1
    have lty := y.lt
    have Y := Lib.hid y
    clear y c0 c1
    go_wp2_with fail
    have Z : BoxV _ _ 44 #[.int .u64 0, .int .u64 3232235776] := (Y.out.set 0 (.int .u64 0)).set 1 (.int .u64 3232235776)
    refine bodyPost_ret (ret_box rfl rfl Z Try.underlying44 rfl (by kernel_rfl)) rfl ⟨rfl, ?_⟩
    exact ((T.out.trans x.property (by simp)).setCell (by simp) _).setCell (by simp) _
  have M := Lib.hid M
  unfold av at M
  go_enter Try.func15, Try.ntmps15
  go_wp2_with fail
  refine (M.out _).mono ?_
  rintro e w2 ⟨rfl, t⟩
  have T := Lib.hid t
  clear t
  go_wp2_with fail
  go_ret
  exact ⟨rfl, T.out⟩
end Go.Proofs.Ytonchibngcoefaa
