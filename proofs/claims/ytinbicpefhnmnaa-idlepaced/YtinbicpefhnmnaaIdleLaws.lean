/-
  What the three laws of layer 25 (idle) share: a state that came in by value, and their example.
-/
import Derived.Test.YtinbicpefhnmnaaIdleRef2
import Derived.Test.YtinbicpefhnmnaaClassOpen
import Derived.Test.YtinbicpefhnmnaaFresh2
namespace Go.Proofs.Ytinbicpefhnmnaa
open Go.ChangeShapes Go.WideShapes Go.ChangeAt Go.RowKit Go.Joins Go.Deep
set_option linter.unusedVariables false

section
variable {H : Type} {enc : TypeId × Value → H} {P : Program} {w : World} {base : Nat} {sp : Nat → Bool}
set_option maxRecDepth 100000 in
theorem open_state {v : Value} {d : DataW H} {p : List MemPlace} {r : Reach} {b0 : Nat} (hv : Value.okWide Try.prog w r b0 41 v) (h : DataW.Trod enc Try.prog w base sp true 41 v d p) :
    ∃ s : St, v = .agg s.cells ∧ In64 s.last ∧ In64 s.avg ∧ In64 s.till := by
  obtain ⟨v0, v1, v2, y0, y1, y2, n, rfl, _, _, h0, h1, h2⟩ := open_agg3 Try.underlying41 (by kernel_rfl) (by kernel_rfl) hv h
  obtain ⟨b0, rfl, w0⟩ := cell_int Try.underlying3 h0
  obtain ⟨b1, rfl, w1⟩ := cell_int Try.underlying3 h1
  obtain ⟨b2, rfl, w2⟩ := cell_int Try.underlying3 h2
  exact ⟨⟨b0, b1, b2⟩, rfl, i64_in w0, i64_in w1, i64_in w2⟩
end

/-- The class of the example. -/
def exC : Cl := ⟨1, 0, 4607182418800017408, 0, 1, 1, 1, -100, 0, false, false⟩
theorem units_one : unitsOf 4607182418800017408 = 1048576 := by
  unfold unitsOf
  rw [show rung 4607182418800017408 = 4607182418800017408 by unfold rung; omega, V_one]
  have e : 2 ^ U * 2 ^ 20 = 1048576 * 2 ^ U := by rw [Nat.mul_comm]
  rw [e, RE_whole]
theorem exC_unit : unitE 4607182418800017408 = 0 ∧ unitU 4607182418800017408 = 1048576 := by
  have := unit_in (x := 4607182418800017408) isN_one (by rw [key_one]; omega)
  rw [units_one] at this
  exact this
theorem exC_right : rightV exC = 0 := by
  have h := exC_unit
  unfold rightV exC
  simp only [h.1, h.2]
  decide
theorem ex_new : newV exC 0 = ⟨0, 0, 0⟩ := by
  unfold newV
  rw [if_pos exC_right]
  rfl
theorem ex_sent : sentV exC ⟨0, 0, 0⟩ 10 0 = ⟨0, -5, 15⟩ := by
  unfold sentV
  rw [if_pos exC_right]
  rfl

set_option maxHeartbeats 1000000 in
theorem idleLives (w : World) : Calls Try.prog 32 #[] w fun e w' => e = .returned (.bool true) ∧ Touch [] w w' := by
  have h64 : exC.share < 18446744073709551616 := by unfold exC; simp
  have NW := Lib.hid (fun w => idleNew exC h64 0 w)
  have SE := Lib.hid (fun w => idleSent exC h64 ⟨0, 0, 0⟩ 10 0 w)
  rw [ex_new] at NW
  rw [ex_sent] at SE
  dsimp only [Cl.cells, St.cells, exC] at NW SE
  clear h64
  have sf : ∀ (w : World) (a : Addr) (b : Nat), (store a (.float .f64 b)).run Try.prog w = stored Try.prog w a (.float .f64 b) .plain := fun w a b => run_store _ w a _ _ rfl
  go_enter Try.func32, Try.ntmps32
  go_upto_region 2 with fail
  have X := Lib.hid (BoxV.new w 24 #[.int .i64 1, .int .i64 0, .float .f64 4607182418800017408, .int .i64 0, .int .i64 1, .int .i64 1, .int .i64 1, .int .i64 (-100), .int .i64 0, .bool false, .bool false])
  have T := Lib.hid ((Touch.refl [] w).alloc (.cells #[.int .i64 1, .int .i64 0, .float .f64 4607182418800017408, .int .i64 0, .int .i64 1, .int .i64 1, .int .i64 1, .int .i64 (-100), .int .i64 0, .bool false, .bool false] 24))
  generalize w.alloc (.cells #[.int .i64 1, .int .i64 0, .float .f64 4607182418800017408, .int .i64 0, .int .i64 1, .int .i64 1, .int .i64 1, .int .i64 (-100), .int .i64 0, .bool false, .bool false] 24) = w1 at *
  refine wp_region_fresh1 (wd := w1) 4 2 41 #[.int .i64 0, .int .i64 0, .int .i64 0] ?aF (by kernel_rfl) (by kernel_rfl) ((Touch.refl _ _).drew) ⟨_, rfl, rfl, fun a w => rfl⟩ ?hwalk ?hend
  case hwalk =>
    intro wd ht
    simp only [List.take_succ_cons, List.take_zero]
    have k0 : ∀ x : Cls wd, x.val.cell? ⟨w.heap.size, 0, none⟩ = some (.int .i64 1) := fun x => ((X.out.carry ht (by simp)).carry x.property (by simp)).cell 0
    have k1 : ∀ x : Cls wd, x.val.cell? ⟨w.heap.size, 1, none⟩ = some (.int .i64 0) := fun x => ((X.out.carry ht (by simp)).carry x.property (by simp)).cell 1
    have k2 : ∀ x : Cls wd, x.val.cell? ⟨w.heap.size, 2, none⟩ = some (.float .f64 4607182418800017408) := fun x => ((X.out.carry ht (by simp)).carry x.property (by simp)).cell 2
    have k3 : ∀ x : Cls wd, x.val.cell? ⟨w.heap.size, 3, none⟩ = some (.int .i64 0) := fun x => ((X.out.carry ht (by simp)).carry x.property (by simp)).cell 3
    have k4 : ∀ x : Cls wd, x.val.cell? ⟨w.heap.size, 4, none⟩ = some (.int .i64 1) := fun x => ((X.out.carry ht (by simp)).carry x.property (by simp)).cell 4
    have k5 : ∀ x : Cls wd, x.val.cell? ⟨w.heap.size, 5, none⟩ = some (.int .i64 1) := fun x => ((X.out.carry ht (by simp)).carry x.property (by simp)).cell 5
    have k6 : ∀ x : Cls wd, x.val.cell? ⟨w.heap.size, 6, none⟩ = some (.int .i64 1) := fun x => ((X.out.carry ht (by simp)).carry x.property (by simp)).cell 6
    have k7 : ∀ x : Cls wd, x.val.cell? ⟨w.heap.size, 7, none⟩ = some (.int .i64 (-100)) := fun x => ((X.out.carry ht (by simp)).carry x.property (by simp)).cell 7
    have k8 : ∀ x : Cls wd, x.val.cell? ⟨w.heap.size, 8, none⟩ = some (.int .i64 0) := fun x => ((X.out.carry ht (by simp)).carry x.property (by simp)).cell 8
    have k9 : ∀ x : Cls wd, x.val.cell? ⟨w.heap.size, 9, none⟩ = some (.bool false) := fun x => ((X.out.carry ht (by simp)).carry x.property (by simp)).cell 9
    have k10 : ∀ x : Cls wd, x.val.cell? ⟨w.heap.size, 10, none⟩ = some (.bool false) := fun x => ((X.out.carry ht (by simp)).carry x.property (by simp)).cell 10
    repeat (first | go_big_quiet_step ((first | (go_at_call 24; exact Calls.cls_at (NW.out _)) | (go_at_call 22; exact Calls.cls_at (SE.out _)))) | quiet_step ((first | (go_at_call 24; exact Calls.cls_at (NW.out _)) | (go_at_call 22; exact Calls.cls_at (SE.out _)))))
    refine wpQuiet_nil ?_
    rfl
  case hend =>
    intro b w2 t2 y ly
    have fz := y.fr
    have y0 := y.cell 0
    have y1 := y.cell 1
    have y2 := y.cell 2
    have lty := y.lt
    have Y := Lib.hid y
    have T2 := Lib.hid (T.out.trans t2 (by simp))
    have LB := Lib.hid ly
    have TS := Lib.hid T.out.size
    clear y t2 ly
    simp only [List.drop_succ_cons, List.drop_zero]
    go_wp2_with fail
    go_ret
    exact ⟨rfl, ((T2.out.setCell (by simp; have := LB.out; have := TS.out; omega) _).setCell (by simp; have := LB.out; have := TS.out; omega) _).setCell (by simp; have := LB.out; have := TS.out; omega) _⟩
end Go.Proofs.Ytinbicpefhnmnaa
