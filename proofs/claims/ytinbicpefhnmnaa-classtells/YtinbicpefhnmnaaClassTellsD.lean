/-
  ClassTells, where the first class is not bounded and valid.
-/
import Derived.Test.YtinbicpefhnmnaaClassLives
namespace Go.Proofs.Ytinbicpefhnmnaa
open Go.ChangeShapes Go.WideShapes Go.ChangeAt Go.RowKit Go.Joins Go.Deep
set_option linter.unusedVariables false

set_option maxHeartbeats 4000000 in
theorem classTells_D (a b : Cl) (m n : Nat) (hbo : a.bounded = false) (hr : (rightV ({ a with share := m } : Cl) != 0) = false) (hm : m < 18446744073709551616) (hn : n < 18446744073709551616) (w : World) :
    Calls Try.prog 3 #[.agg a.cells, .agg b.cells, .agg #[.int .u64 (m : Int), .int .u64 (n : Int)]] w fun e w' => e = .returned (.bool true) ∧ Below w.heap.size w w' := by
  have LV := Lib.hid (fun w => classLives w)
  have O1 := Lib.hid (fun w => lawOf a m w)
  have O2 := Lib.hid (fun w => lawOf b n w)
  obtain ⟨x, hx⟩ : ∃ x : Cl, ({ a with share := m } : Cl) = x := ⟨_, rfl⟩
  obtain ⟨y, hy⟩ : ∃ y : Cl, ({ b with share := n } : Cl) = y := ⟨_, rfl⟩
  have hxs : x.share < 18446744073709551616 := by rw [← hx]; exact hm
  have hys : y.share < 18446744073709551616 := by rw [← hy]; exact hn
  rw [hx] at O1 hr
  have hb2 : x.bounded = a.bounded := by rw [← hx]
  rw [hbo] at hb2
  rw [hy] at O2
  have RI := Lib.hid (fun w => right_any x hxs w)
  have RR := Lib.hid (fun w => refRight_any x hxs w)
  have UN := Lib.hid (fun w => classUnits x hxs w)
  have RU := Lib.hid (fun w => refClassUnits x hxs w)
  have SA := Lib.hid (fun w => classSame x y w)
  have RS := Lib.hid (fun w => refClassSame x y hxs hys w)
  have SX := Lib.hid (fun w => classSame x x w)
  have BO := Lib.hid (fun w => borrows_any x w)
  rw [show sameC x x = true by unfold sameC sameOf; simp] at SX
  have hub := unit_bd x.share hxs
  have hways : (rightV x != 0) = true ∨ ((rightV x != 0) = false ∧ decide (1 ≤ unitU x.share) = true ∧ decide (unitU x.share ≤ 1048576) = true) := by
    by_cases h : rightV x = 0
    · right
      refine ⟨by simpa using h, ?_, by simpa using hub.2.1⟩
      have : unitU x.share ≠ 0 := by
        intro h0
        unfold rightV at h
        rw [h0] at h
        repeat' split at h
        all_goals first | omega | simp_all
      simp
      omega
    · left
      simpa using h
  obtain ⟨d1, d2, d3⟩ : (rightV x != 0) = false ∧ decide (1 ≤ unitU x.share) = true ∧ decide (unitU x.share ≤ 1048576) = true := by
    rcases hways with h | h
    · rw [h] at hr; cases hr
    · exact h
  clear hways hr
  generalize rightV x = r at *
  generalize unitU x.share = u at *
  generalize sameC x y = q at *
  obtain ⟨x0, x1, x2, x3, x4, x5, x6, x7, x8, bo, is⟩ := x
  obtain rfl : bo = false := hb2
  obtain ⟨y0, y1, y2, y3, y4, y5, y6, y7, y8, yo, yi⟩ := y
  dsimp only [Cl.cells] at RI RR UN RU SA RS SX BO O1 O2 ⊢
  clear hx hy hxs hys hub hm hn hbo
  have sf : ∀ (w : World) (a : Addr) (b : Nat), (store a (.float .f64 b)).run Try.prog w = stored Try.prog w a (.float .f64 b) .plain := fun w a b => run_store _ w a _ _ rfl
  go_enter Try.func3, Try.ntmps3
  go_upto_region 1 with fail
  have X0 := Lib.hid (BoxV.of3 (w := w) (cs := #[.int .i64 a.id, .int .i64 a.parent, .float .f64 a.share, .int .i64 a.prio, .int .i64 a.quantum, .int .i64 a.limit, .int .i64 a.weight, .int .i64 a.minIdle, .int .i64 a.maxIdle, .bool a.bounded, .bool a.isolated]) (T := 24) (o := .cells #[.int .i64 b.id, .int .i64 b.parent, .float .f64 b.share, .int .i64 b.prio, .int .i64 b.quantum, .int .i64 b.limit, .int .i64 b.weight, .int .i64 b.minIdle, .int .i64 b.maxIdle, .bool b.bounded, .bool b.isolated] 24) (o' := .cells #[.int .u64 (m : Int), .int .u64 (n : Int)] 26))
  have X1 := Lib.hid (BoxV.at1of3 (w := w) (o := .cells #[.int .i64 a.id, .int .i64 a.parent, .float .f64 a.share, .int .i64 a.prio, .int .i64 a.quantum, .int .i64 a.limit, .int .i64 a.weight, .int .i64 a.minIdle, .int .i64 a.maxIdle, .bool a.bounded, .bool a.isolated] 24) (cs := #[.int .i64 b.id, .int .i64 b.parent, .float .f64 b.share, .int .i64 b.prio, .int .i64 b.quantum, .int .i64 b.limit, .int .i64 b.weight, .int .i64 b.minIdle, .int .i64 b.maxIdle, .bool b.bounded, .bool b.isolated]) (T := 24) (o' := .cells #[.int .u64 (m : Int), .int .u64 (n : Int)] 26))
  have X2 := Lib.hid (BoxV.at2 (w := w) (o := .cells #[.int .i64 a.id, .int .i64 a.parent, .float .f64 a.share, .int .i64 a.prio, .int .i64 a.quantum, .int .i64 a.limit, .int .i64 a.weight, .int .i64 a.minIdle, .int .i64 a.maxIdle, .bool a.bounded, .bool a.isolated] 24) (o' := .cells #[.int .i64 b.id, .int .i64 b.parent, .float .f64 b.share, .int .i64 b.prio, .int .i64 b.quantum, .int .i64 b.limit, .int .i64 b.weight, .int .i64 b.minIdle, .int .i64 b.maxIdle, .bool b.bounded, .bool b.isolated] 24) (cs := #[.int .u64 (m : Int), .int .u64 (n : Int)]) (T := 26))
  have T := Lib.hid ((((Touch.refl [] w).alloc (.cells #[.int .i64 a.id, .int .i64 a.parent, .float .f64 a.share, .int .i64 a.prio, .int .i64 a.quantum, .int .i64 a.limit, .int .i64 a.weight, .int .i64 a.minIdle, .int .i64 a.maxIdle, .bool a.bounded, .bool a.isolated] 24)).alloc (.cells #[.int .i64 b.id, .int .i64 b.parent, .float .f64 b.share, .int .i64 b.prio, .int .i64 b.quantum, .int .i64 b.limit, .int .i64 b.weight, .int .i64 b.minIdle, .int .i64 b.maxIdle, .bool b.bounded, .bool b.isolated] 24)).alloc (.cells #[.int .u64 (m : Int), .int .u64 (n : Int)] 26))
  generalize ((w.alloc (.cells #[.int .i64 a.id, .int .i64 a.parent, .float .f64 a.share, .int .i64 a.prio, .int .i64 a.quantum, .int .i64 a.limit, .int .i64 a.weight, .int .i64 a.minIdle, .int .i64 a.maxIdle, .bool a.bounded, .bool a.isolated] 24)).alloc (.cells #[.int .i64 b.id, .int .i64 b.parent, .float .f64 b.share, .int .i64 b.prio, .int .i64 b.quantum, .int .i64 b.limit, .int .i64 b.weight, .int .i64 b.minIdle, .int .i64 b.maxIdle, .bool b.bounded, .bool b.isolated] 24)).alloc (.cells #[.int .u64 (m : Int), .int .u64 (n : Int)] 26) = w1 at *
  refine wp_region_fresh2 (wd := w1) 8 7 24 #[.int .i64 0, .int .i64 0, .float .f64 0, .int .i64 0, .int .i64 0, .int .i64 0, .int .i64 0, .int .i64 0, .int .i64 0, .bool false, .bool false] 8 24 #[.int .i64 0, .int .i64 0, .float .f64 0, .int .i64 0, .int .i64 0, .int .i64 0, .int .i64 0, .int .i64 0, .int .i64 0, .bool false, .bool false] ?aF (by kernel_rfl) (by kernel_rfl) ((Touch.refl _ _).drew) ⟨_, rfl, rfl, fun a w => rfl⟩ ⟨_, rfl, rfl, fun a w => rfl⟩ ?hwalk ?hend
  case hwalk =>
    intro wd ht
    simp only [List.take_succ_cons, List.take_zero]
    have k0 : ∀ x : Cls wd, x.val.cell? ⟨w.heap.size, 0, none⟩ = some (.int .i64 a.id) := fun x => ((X0.out.carry ht (by simp)).carry x.property (by simp)).cell 0
    have k1 : ∀ x : Cls wd, x.val.cell? ⟨w.heap.size, 1, none⟩ = some (.int .i64 a.parent) := fun x => ((X0.out.carry ht (by simp)).carry x.property (by simp)).cell 1
    have k2 : ∀ x : Cls wd, x.val.cell? ⟨w.heap.size, 2, none⟩ = some (.float .f64 a.share) := fun x => ((X0.out.carry ht (by simp)).carry x.property (by simp)).cell 2
    have k3 : ∀ x : Cls wd, x.val.cell? ⟨w.heap.size, 3, none⟩ = some (.int .i64 a.prio) := fun x => ((X0.out.carry ht (by simp)).carry x.property (by simp)).cell 3
    have k4 : ∀ x : Cls wd, x.val.cell? ⟨w.heap.size, 4, none⟩ = some (.int .i64 a.quantum) := fun x => ((X0.out.carry ht (by simp)).carry x.property (by simp)).cell 4
    have k5 : ∀ x : Cls wd, x.val.cell? ⟨w.heap.size, 5, none⟩ = some (.int .i64 a.limit) := fun x => ((X0.out.carry ht (by simp)).carry x.property (by simp)).cell 5
    have k6 : ∀ x : Cls wd, x.val.cell? ⟨w.heap.size, 6, none⟩ = some (.int .i64 a.weight) := fun x => ((X0.out.carry ht (by simp)).carry x.property (by simp)).cell 6
    have k7 : ∀ x : Cls wd, x.val.cell? ⟨w.heap.size, 7, none⟩ = some (.int .i64 a.minIdle) := fun x => ((X0.out.carry ht (by simp)).carry x.property (by simp)).cell 7
    have k8 : ∀ x : Cls wd, x.val.cell? ⟨w.heap.size, 8, none⟩ = some (.int .i64 a.maxIdle) := fun x => ((X0.out.carry ht (by simp)).carry x.property (by simp)).cell 8
    have k9 : ∀ x : Cls wd, x.val.cell? ⟨w.heap.size, 9, none⟩ = some (.bool a.bounded) := fun x => ((X0.out.carry ht (by simp)).carry x.property (by simp)).cell 9
    have k10 : ∀ x : Cls wd, x.val.cell? ⟨w.heap.size, 10, none⟩ = some (.bool a.isolated) := fun x => ((X0.out.carry ht (by simp)).carry x.property (by simp)).cell 10
    have l0 : ∀ x : Cls wd, x.val.cell? ⟨w.heap.size + 1, 0, none⟩ = some (.int .i64 b.id) := fun x => ((X1.out.carry ht (by simp)).carry x.property (by simp)).cell 0
    have l1 : ∀ x : Cls wd, x.val.cell? ⟨w.heap.size + 1, 1, none⟩ = some (.int .i64 b.parent) := fun x => ((X1.out.carry ht (by simp)).carry x.property (by simp)).cell 1
    have l2 : ∀ x : Cls wd, x.val.cell? ⟨w.heap.size + 1, 2, none⟩ = some (.float .f64 b.share) := fun x => ((X1.out.carry ht (by simp)).carry x.property (by simp)).cell 2
    have l3 : ∀ x : Cls wd, x.val.cell? ⟨w.heap.size + 1, 3, none⟩ = some (.int .i64 b.prio) := fun x => ((X1.out.carry ht (by simp)).carry x.property (by simp)).cell 3
    have l4 : ∀ x : Cls wd, x.val.cell? ⟨w.heap.size + 1, 4, none⟩ = some (.int .i64 b.quantum) := fun x => ((X1.out.carry ht (by simp)).carry x.property (by simp)).cell 4
    have l5 : ∀ x : Cls wd, x.val.cell? ⟨w.heap.size + 1, 5, none⟩ = some (.int .i64 b.limit) := fun x => ((X1.out.carry ht (by simp)).carry x.property (by simp)).cell 5
    have l6 : ∀ x : Cls wd, x.val.cell? ⟨w.heap.size + 1, 6, none⟩ = some (.int .i64 b.weight) := fun x => ((X1.out.carry ht (by simp)).carry x.property (by simp)).cell 6
    have l7 : ∀ x : Cls wd, x.val.cell? ⟨w.heap.size + 1, 7, none⟩ = some (.int .i64 b.minIdle) := fun x => ((X1.out.carry ht (by simp)).carry x.property (by simp)).cell 7
    have l8 : ∀ x : Cls wd, x.val.cell? ⟨w.heap.size + 1, 8, none⟩ = some (.int .i64 b.maxIdle) := fun x => ((X1.out.carry ht (by simp)).carry x.property (by simp)).cell 8
    have l9 : ∀ x : Cls wd, x.val.cell? ⟨w.heap.size + 1, 9, none⟩ = some (.bool b.bounded) := fun x => ((X1.out.carry ht (by simp)).carry x.property (by simp)).cell 9
    have l10 : ∀ x : Cls wd, x.val.cell? ⟨w.heap.size + 1, 10, none⟩ = some (.bool b.isolated) := fun x => ((X1.out.carry ht (by simp)).carry x.property (by simp)).cell 10
    have i0 : ∀ x : Cls wd, x.val.cell? ⟨w.heap.size + 2, 0, none⟩ = some (.int .u64 (m : Int)) := fun x => ((X2.out.carry ht (by simp)).carry x.property (by simp)).cell 0
    have i1 : ∀ x : Cls wd, x.val.cell? ⟨w.heap.size + 2, 1, none⟩ = some (.int .u64 (n : Int)) := fun x => ((X2.out.carry ht (by simp)).carry x.property (by simp)).cell 1
    repeat (first | go_big_quiet_step ((first | (go_at_call 8; first | with_reducible exact Calls.cls_at (O1.out _) | with_reducible exact Calls.cls_at (O2.out _)))) | quiet_step ((first | (go_at_call 8; first | with_reducible exact Calls.cls_at (O1.out _) | with_reducible exact Calls.cls_at (O2.out _)))))
    refine wpQuiet_nil ?_
    rfl
  case hend =>
    intro b1 b2 w2 t2 z1 l1 z2 l2 hne
    have f1 := z1.fr
    have f2 := z2.fr
    have p0 := z1.cell 0
    have p1 := z1.cell 1
    have p2 := z1.cell 2
    have p3 := z1.cell 3
    have p4 := z1.cell 4
    have p5 := z1.cell 5
    have p6 := z1.cell 6
    have p7 := z1.cell 7
    have p8 := z1.cell 8
    have p9 := z1.cell 9
    have p10 := z1.cell 10
    have q0 := z2.cell 0
    have q1 := z2.cell 1
    have q2 := z2.cell 2
    have q3 := z2.cell 3
    have q4 := z2.cell 4
    have q5 := z2.cell 5
    have q6 := z2.cell 6
    have q7 := z2.cell 7
    have q8 := z2.cell 8
    have q9 := z2.cell 9
    have q10 := z2.cell 10
    have g1 := z1.lt
    have g2 := z2.lt
    have Y1 := Lib.hid z1
    have Y2 := Lib.hid z2
    have T2 := Lib.hid (T.out.trans t2 (by simp))
    have L1 := Lib.hid (Nat.le_trans T.out.size l1)
    have L2 := Lib.hid (Nat.le_trans T.out.size l2)
    have hne' : b2 ≠ b1 := Ne.symm hne
    clear z1 z2 t2 l1 l2 X0 X1 X2 T
    simp only [List.drop_succ_cons, List.drop_zero]
    go_upto_region 2 with fail
    have HW : (((((((((((((((((((((((w2).setCell ⟨b1, 0, none⟩ (.int .i64 x0)).setCell ⟨b1, 1, none⟩ (.int .i64 x1)).setCell ⟨b1, 2, none⟩ (.float .f64 x2)).setCell ⟨b1, 3, none⟩ (.int .i64 x3)).setCell ⟨b1, 4, none⟩ (.int .i64 x4)).setCell ⟨b1, 5, none⟩ (.int .i64 x5)).setCell ⟨b1, 6, none⟩ (.int .i64 x6)).setCell ⟨b1, 7, none⟩ (.int .i64 x7)).setCell ⟨b1, 8, none⟩ (.int .i64 x8)).setCell ⟨b1, 9, none⟩ (.bool false)).setCell ⟨b1, 10, none⟩ (.bool is))).setCell ⟨b2, 0, none⟩ (.int .i64 y0)).setCell ⟨b2, 1, none⟩ (.int .i64 y1)).setCell ⟨b2, 2, none⟩ (.float .f64 y2)).setCell ⟨b2, 3, none⟩ (.int .i64 y3)).setCell ⟨b2, 4, none⟩ (.int .i64 y4)).setCell ⟨b2, 5, none⟩ (.int .i64 y5)).setCell ⟨b2, 6, none⟩ (.int .i64 y6)).setCell ⟨b2, 7, none⟩ (.int .i64 y7)).setCell ⟨b2, 8, none⟩ (.int .i64 y8)).setCell ⟨b2, 9, none⟩ (.bool yo)).setCell ⟨b2, 10, none⟩ (.bool yi) = fill11 (fill11 w2 b1 (.int .i64 x0) (.int .i64 x1) (.float .f64 x2) (.int .i64 x3) (.int .i64 x4) (.int .i64 x5) (.int .i64 x6) (.int .i64 x7) (.int .i64 x8) (.bool false) (.bool is)) b2 (.int .i64 y0) (.int .i64 y1) (.float .f64 y2) (.int .i64 y3) (.int .i64 y4) (.int .i64 y5) (.int .i64 y6) (.int .i64 y7) (.int .i64 y8) (.bool yo) (.bool yi) := rfl
    have TA := touch_fill11 (w := w2) (b := b1) (.int .i64 x0) (.int .i64 x1) (.float .f64 x2) (.int .i64 x3) (.int .i64 x4) (.int .i64 x5) (.int .i64 x6) (.int .i64 x7) (.int .i64 x8) (.bool false) (.bool is)
    have TB := touch_fill11 (w := fill11 w2 b1 (.int .i64 x0) (.int .i64 x1) (.float .f64 x2) (.int .i64 x3) (.int .i64 x4) (.int .i64 x5) (.int .i64 x6) (.int .i64 x7) (.int .i64 x8) (.bool false) (.bool is)) (b := b2) (.int .i64 y0) (.int .i64 y1) (.float .f64 y2) (.int .i64 y3) (.int .i64 y4) (.int .i64 y5) (.int .i64 y6) (.int .i64 y7) (.int .i64 y8) (.bool yo) (.bool yi)
    have B1 := Lib.hid ((Y1.out.fill11 (.int .i64 x0) (.int .i64 x1) (.float .f64 x2) (.int .i64 x3) (.int .i64 x4) (.int .i64 x5) (.int .i64 x6) (.int .i64 x7) (.int .i64 x8) (.bool false) (.bool is)).carry TB (by simpa using hne))
    have B2 := Lib.hid ((Y2.out.carry TA (by simpa using hne')).fill11 (.int .i64 y0) (.int .i64 y1) (.float .f64 y2) (.int .i64 y3) (.int .i64 y4) (.int .i64 y5) (.int .i64 y6) (.int .i64 y7) (.int .i64 y8) (.bool yo) (.bool yi))
    have TAB : Touch [b1, b2] w2 _ := (TA.mono (S' := [b1, b2]) (by simp)).trans TB (by simp)
    have TZ := Lib.hid (T2.out.trans TAB (by have := L1.out; have := L2.out; intro b hb; right; simp at hb; rcases hb with rfl | rfl <;> omega))
    clear TA TB TAB hne hne' f1 f2 p0 p1 p2 p3 p4 p5 p6 p7 p8 p9 p10 q0 q1 q2 q3 q4 q5 q6 q7 q8 q9 q10 g1 g2
    rw [HW]
    clear HW
    generalize fill11 (fill11 w2 b1 (.int .i64 x0) (.int .i64 x1) (.float .f64 x2) (.int .i64 x3) (.int .i64 x4) (.int .i64 x5) (.int .i64 x6) (.int .i64 x7) (.int .i64 x8) (.bool false) (.bool is)) b2 (.int .i64 y0) (.int .i64 y1) (.float .f64 y2) (.int .i64 y3) (.int .i64 y4) (.int .i64 y5) (.int .i64 y6) (.int .i64 y7) (.int .i64 y8) (.bool yo) (.bool yi) = w3 at *
    have k0 : ∀ x : Cls w3, x.val.cell? ⟨b1, 0, none⟩ = some (.int .i64 x0) := fun x => (B1.out.carry x.property (by simp)).cell 0
    have k1 : ∀ x : Cls w3, x.val.cell? ⟨b1, 1, none⟩ = some (.int .i64 x1) := fun x => (B1.out.carry x.property (by simp)).cell 1
    have k2 : ∀ x : Cls w3, x.val.cell? ⟨b1, 2, none⟩ = some (.float .f64 x2) := fun x => (B1.out.carry x.property (by simp)).cell 2
    have k3 : ∀ x : Cls w3, x.val.cell? ⟨b1, 3, none⟩ = some (.int .i64 x3) := fun x => (B1.out.carry x.property (by simp)).cell 3
    have k4 : ∀ x : Cls w3, x.val.cell? ⟨b1, 4, none⟩ = some (.int .i64 x4) := fun x => (B1.out.carry x.property (by simp)).cell 4
    have k5 : ∀ x : Cls w3, x.val.cell? ⟨b1, 5, none⟩ = some (.int .i64 x5) := fun x => (B1.out.carry x.property (by simp)).cell 5
    have k6 : ∀ x : Cls w3, x.val.cell? ⟨b1, 6, none⟩ = some (.int .i64 x6) := fun x => (B1.out.carry x.property (by simp)).cell 6
    have k7 : ∀ x : Cls w3, x.val.cell? ⟨b1, 7, none⟩ = some (.int .i64 x7) := fun x => (B1.out.carry x.property (by simp)).cell 7
    have k8 : ∀ x : Cls w3, x.val.cell? ⟨b1, 8, none⟩ = some (.int .i64 x8) := fun x => (B1.out.carry x.property (by simp)).cell 8
    have k9 : ∀ x : Cls w3, x.val.cell? ⟨b1, 9, none⟩ = some (.bool false) := fun x => (B1.out.carry x.property (by simp)).cell 9
    have k10 : ∀ x : Cls w3, x.val.cell? ⟨b1, 10, none⟩ = some (.bool is) := fun x => (B1.out.carry x.property (by simp)).cell 10
    have l0 : ∀ x : Cls w3, x.val.cell? ⟨b2, 0, none⟩ = some (.int .i64 y0) := fun x => (B2.out.carry x.property (by simp)).cell 0
    have l1 : ∀ x : Cls w3, x.val.cell? ⟨b2, 1, none⟩ = some (.int .i64 y1) := fun x => (B2.out.carry x.property (by simp)).cell 1
    have l2 : ∀ x : Cls w3, x.val.cell? ⟨b2, 2, none⟩ = some (.float .f64 y2) := fun x => (B2.out.carry x.property (by simp)).cell 2
    have l3 : ∀ x : Cls w3, x.val.cell? ⟨b2, 3, none⟩ = some (.int .i64 y3) := fun x => (B2.out.carry x.property (by simp)).cell 3
    have l4 : ∀ x : Cls w3, x.val.cell? ⟨b2, 4, none⟩ = some (.int .i64 y4) := fun x => (B2.out.carry x.property (by simp)).cell 4
    have l5 : ∀ x : Cls w3, x.val.cell? ⟨b2, 5, none⟩ = some (.int .i64 y5) := fun x => (B2.out.carry x.property (by simp)).cell 5
    have l6 : ∀ x : Cls w3, x.val.cell? ⟨b2, 6, none⟩ = some (.int .i64 y6) := fun x => (B2.out.carry x.property (by simp)).cell 6
    have l7 : ∀ x : Cls w3, x.val.cell? ⟨b2, 7, none⟩ = some (.int .i64 y7) := fun x => (B2.out.carry x.property (by simp)).cell 7
    have l8 : ∀ x : Cls w3, x.val.cell? ⟨b2, 8, none⟩ = some (.int .i64 y8) := fun x => (B2.out.carry x.property (by simp)).cell 8
    have l9 : ∀ x : Cls w3, x.val.cell? ⟨b2, 9, none⟩ = some (.bool yo) := fun x => (B2.out.carry x.property (by simp)).cell 9
    have l10 : ∀ x : Cls w3, x.val.cell? ⟨b2, 10, none⟩ = some (.bool yi) := fun x => (B2.out.carry x.property (by simp)).cell 10
    refine wp_region_cls (wd := w3) (by kernel_rfl) (by kernel_rfl) ((Touch.refl _ _).drew) ?_
    repeat (first | go_big_quiet_step ((first | (go_at_call 9; first | with_reducible exact Calls.cls_at (RI.out _)) | (go_at_call 10; first | with_reducible exact Calls.cls_at (RR.out _)) | (go_at_call 11; first | with_reducible exact Calls.cls_at (UN.out _)) | (go_at_call 12; first | with_reducible exact Calls.cls_at (RU.out _)) | (go_at_call 13; first | with_reducible exact Calls.cls_at (SA.out _) | with_reducible exact Calls.cls_at (SX.out _)) | (go_at_call 14; first | with_reducible exact Calls.cls_at (RS.out _)) | (go_at_call 15; first | with_reducible exact Calls.cls_at (BO.out _)) | (go_at_call 16; first | with_reducible exact Calls.cls_at (LV.out _)))) | quiet_step ((first | (go_at_call 9; first | with_reducible exact Calls.cls_at (RI.out _)) | (go_at_call 10; first | with_reducible exact Calls.cls_at (RR.out _)) | (go_at_call 11; first | with_reducible exact Calls.cls_at (UN.out _)) | (go_at_call 12; first | with_reducible exact Calls.cls_at (RU.out _)) | (go_at_call 13; first | with_reducible exact Calls.cls_at (SA.out _) | with_reducible exact Calls.cls_at (SX.out _)) | (go_at_call 14; first | with_reducible exact Calls.cls_at (RS.out _)) | (go_at_call 15; first | with_reducible exact Calls.cls_at (BO.out _)) | (go_at_call 16; first | with_reducible exact Calls.cls_at (LV.out _)))))
    refine wpQuiet_nil ?_
    rintro _ ⟨y, rfl⟩
    go_wp2_with fail
    go_ret
    exact ⟨rfl, (TZ.out.trans y.property (by simp)).below (by simp) (Nat.le_refl _)⟩
end Go.Proofs.Ytinbicpefhnmnaa
