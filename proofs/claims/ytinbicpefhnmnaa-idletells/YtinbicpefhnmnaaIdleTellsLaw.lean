/-
  IdleTells: for every state, every class and all times the law on idle's Sent, New, Carry, Over and Left returns true. No conditions.
-/
import Derived.Test.YtinbicpefhnmnaaIdleLaws
import Derived.Test.YtinbicpefhnmnaaInts
namespace Go.Proofs.Ytinbicpefhnmnaa
open Go.ChangeShapes Go.WideShapes Go.ChangeAt Go.RowKit Go.Joins Go.Deep
set_option linter.unusedVariables false

set_option maxHeartbeats 4000000 in
theorem idleTells_walk (s : St) (c : Cl) (h64 : c.share < 18446744073709551616) (x0 x1 : Int) (w : World) :
    Calls Try.prog 5 #[.agg s.cells, .agg c.cells, .agg #[.int .i64 x0, .int .i64 x1]] w fun e w' => e = .returned (.bool true) ∧ Below w.heap.size w w' := by
  have SE := Lib.hid (fun w => idleSent c h64 s x0 x1 w)
  have RS := Lib.hid (fun w => refSent25 c h64 s x0 x1 w)
  have NW := Lib.hid (fun w => idleNew c h64 x1 w)
  have RN := Lib.hid (fun w => refNew25 c h64 x1 w)
  have CA := Lib.hid (fun w => idleCarry c h64 s w)
  have RC := Lib.hid (fun w => refCarry25 c h64 s w)
  have OV := Lib.hid (fun w => idleOver s x1 w)
  have RO := Lib.hid (fun w => refOver25 s x1 w)
  have LE := Lib.hid (fun w => idleLeft s x1 w)
  have RL := Lib.hid (fun w => refLeft25 s x1 w)
  have LV := Lib.hid (fun w => idleLives w)
  generalize sentV c s x0 x1 = r1 at *
  generalize newV c x1 = r2 at *
  generalize carryV c s = r3 at *
  generalize overV s x1 = r4 at *
  generalize leftV s x1 = r5 at *
  unfold Cl.cells St.cells at *
  clear h64
  go_enter Try.func5, Try.ntmps5
  go_upto_region 1 with fail
  have X0 := Lib.hid (BoxV.of3 (w := w) (cs := #[.int .i64 s.last, .int .i64 s.avg, .int .i64 s.till]) (T := 41) (o := .cells #[.int .i64 c.id, .int .i64 c.parent, .float .f64 c.share, .int .i64 c.prio, .int .i64 c.quantum, .int .i64 c.limit, .int .i64 c.weight, .int .i64 c.minIdle, .int .i64 c.maxIdle, .bool c.bounded, .bool c.isolated] 24) (o' := .cells #[.int .i64 x0, .int .i64 x1] 42))
  have X1 := Lib.hid (BoxV.at1of3 (w := w) (o := .cells #[.int .i64 s.last, .int .i64 s.avg, .int .i64 s.till] 41) (cs := #[.int .i64 c.id, .int .i64 c.parent, .float .f64 c.share, .int .i64 c.prio, .int .i64 c.quantum, .int .i64 c.limit, .int .i64 c.weight, .int .i64 c.minIdle, .int .i64 c.maxIdle, .bool c.bounded, .bool c.isolated]) (T := 24) (o' := .cells #[.int .i64 x0, .int .i64 x1] 42))
  have X2 := Lib.hid (BoxV.at2 (w := w) (o := .cells #[.int .i64 s.last, .int .i64 s.avg, .int .i64 s.till] 41) (o' := .cells #[.int .i64 c.id, .int .i64 c.parent, .float .f64 c.share, .int .i64 c.prio, .int .i64 c.quantum, .int .i64 c.limit, .int .i64 c.weight, .int .i64 c.minIdle, .int .i64 c.maxIdle, .bool c.bounded, .bool c.isolated] 24) (cs := #[.int .i64 x0, .int .i64 x1]) (T := 42))
  have T := Lib.hid ((((Touch.refl [] w).alloc (.cells #[.int .i64 s.last, .int .i64 s.avg, .int .i64 s.till] 41)).alloc (.cells #[.int .i64 c.id, .int .i64 c.parent, .float .f64 c.share, .int .i64 c.prio, .int .i64 c.quantum, .int .i64 c.limit, .int .i64 c.weight, .int .i64 c.minIdle, .int .i64 c.maxIdle, .bool c.bounded, .bool c.isolated] 24)).alloc (.cells #[.int .i64 x0, .int .i64 x1] 42))
  generalize ((w.alloc (.cells #[.int .i64 s.last, .int .i64 s.avg, .int .i64 s.till] 41)).alloc (.cells #[.int .i64 c.id, .int .i64 c.parent, .float .f64 c.share, .int .i64 c.prio, .int .i64 c.quantum, .int .i64 c.limit, .int .i64 c.weight, .int .i64 c.minIdle, .int .i64 c.maxIdle, .bool c.bounded, .bool c.isolated] 24)).alloc (.cells #[.int .i64 x0, .int .i64 x1] 42) = w1 at *
  refine wp_region_fresh2 (wd := w1) 14 7 41 #[.int .i64 0, .int .i64 0, .int .i64 0] 8 44 #[.int .i64 0, .int .i64 0, .int .i64 0] ?aF (by kernel_rfl) (by kernel_rfl) ((Touch.refl _ _).drew) ⟨_, rfl, rfl, fun a w => rfl⟩ ⟨_, rfl, rfl, fun a w => rfl⟩ ?hwalk ?hend
  case hwalk =>
    intro wd ht
    simp only [List.take_succ_cons, List.take_zero]
    have a0 : ∀ x : Cls wd, x.val.cell? ⟨w.heap.size, 0, none⟩ = some (.int .i64 s.last) := fun x => ((X0.out.carry ht (by simp)).carry x.property (by simp)).cell 0
    have a1 : ∀ x : Cls wd, x.val.cell? ⟨w.heap.size, 1, none⟩ = some (.int .i64 s.avg) := fun x => ((X0.out.carry ht (by simp)).carry x.property (by simp)).cell 1
    have a2 : ∀ x : Cls wd, x.val.cell? ⟨w.heap.size, 2, none⟩ = some (.int .i64 s.till) := fun x => ((X0.out.carry ht (by simp)).carry x.property (by simp)).cell 2
    have k0 : ∀ x : Cls wd, x.val.cell? ⟨w.heap.size + 1, 0, none⟩ = some (.int .i64 c.id) := fun x => ((X1.out.carry ht (by simp)).carry x.property (by simp)).cell 0
    have k1 : ∀ x : Cls wd, x.val.cell? ⟨w.heap.size + 1, 1, none⟩ = some (.int .i64 c.parent) := fun x => ((X1.out.carry ht (by simp)).carry x.property (by simp)).cell 1
    have k2 : ∀ x : Cls wd, x.val.cell? ⟨w.heap.size + 1, 2, none⟩ = some (.float .f64 c.share) := fun x => ((X1.out.carry ht (by simp)).carry x.property (by simp)).cell 2
    have k3 : ∀ x : Cls wd, x.val.cell? ⟨w.heap.size + 1, 3, none⟩ = some (.int .i64 c.prio) := fun x => ((X1.out.carry ht (by simp)).carry x.property (by simp)).cell 3
    have k4 : ∀ x : Cls wd, x.val.cell? ⟨w.heap.size + 1, 4, none⟩ = some (.int .i64 c.quantum) := fun x => ((X1.out.carry ht (by simp)).carry x.property (by simp)).cell 4
    have k5 : ∀ x : Cls wd, x.val.cell? ⟨w.heap.size + 1, 5, none⟩ = some (.int .i64 c.limit) := fun x => ((X1.out.carry ht (by simp)).carry x.property (by simp)).cell 5
    have k6 : ∀ x : Cls wd, x.val.cell? ⟨w.heap.size + 1, 6, none⟩ = some (.int .i64 c.weight) := fun x => ((X1.out.carry ht (by simp)).carry x.property (by simp)).cell 6
    have k7 : ∀ x : Cls wd, x.val.cell? ⟨w.heap.size + 1, 7, none⟩ = some (.int .i64 c.minIdle) := fun x => ((X1.out.carry ht (by simp)).carry x.property (by simp)).cell 7
    have k8 : ∀ x : Cls wd, x.val.cell? ⟨w.heap.size + 1, 8, none⟩ = some (.int .i64 c.maxIdle) := fun x => ((X1.out.carry ht (by simp)).carry x.property (by simp)).cell 8
    have k9 : ∀ x : Cls wd, x.val.cell? ⟨w.heap.size + 1, 9, none⟩ = some (.bool c.bounded) := fun x => ((X1.out.carry ht (by simp)).carry x.property (by simp)).cell 9
    have k10 : ∀ x : Cls wd, x.val.cell? ⟨w.heap.size + 1, 10, none⟩ = some (.bool c.isolated) := fun x => ((X1.out.carry ht (by simp)).carry x.property (by simp)).cell 10
    have i0 : ∀ x : Cls wd, x.val.cell? ⟨w.heap.size + 2, 0, none⟩ = some (.int .i64 x0) := fun x => ((X2.out.carry ht (by simp)).carry x.property (by simp)).cell 0
    have i1 : ∀ x : Cls wd, x.val.cell? ⟨w.heap.size + 2, 1, none⟩ = some (.int .i64 x1) := fun x => ((X2.out.carry ht (by simp)).carry x.property (by simp)).cell 1
    repeat (first | go_big_quiet_step ((first | (go_at_call 22; exact Calls.cls_at (SE.out _)) | (go_at_call 23; exact Calls.cls_at (RS.out _)))) | quiet_step ((first | (go_at_call 22; exact Calls.cls_at (SE.out _)) | (go_at_call 23; exact Calls.cls_at (RS.out _)))))
    refine wpQuiet_nil ?_
    rfl
  case hend =>
    intro b1 b2 w2 t2 y1 l1 y2 l2 hne
    have X0' := Lib.hid (X0.out.carry t2 (by simp))
    have X1' := Lib.hid (X1.out.carry t2 (by simp))
    have X2' := Lib.hid (X2.out.carry t2 (by simp))
    have lt0 := X0.out.lt
    have lt1 := X1.out.lt
    have lt2 := X2.out.lt
    have f1 := y1.fr
    have f2 := y2.fr
    have p0 := y1.cell 0
    have p1 := y1.cell 1
    have p2 := y1.cell 2
    have q0 := y2.cell 0
    have q1 := y2.cell 1
    have q2 := y2.cell 2
    have z1 := y1.lt
    have z2 := y2.lt
    have Y1 := Lib.hid y1
    have Y2 := Lib.hid y2
    have T2 := Lib.hid (T.out.trans t2 (by simp))
    have NE := Lib.hid hne
    have LS := Lib.hid T.out.size
    have L1 := Lib.hid l1
    have L2 := Lib.hid l2
    have hne' : b2 ≠ b1 := Ne.symm hne
    clear y1 y2 t2 l1 l2 X0 X1 X2
    simp only [List.drop_succ_cons, List.drop_zero]
    go_upto_region 2 with fail
    have A1 : BoxV _ b1 41 #[.int .i64 r1.last, .int .i64 r1.avg, .int .i64 r1.till] := ((Y1.out.set 0 (.int .i64 r1.last)).set 1 (.int .i64 r1.avg)).set 2 (.int .i64 r1.till)
    have TA := ((Touch.refl [b1] w2).setCell (a := ⟨b1, 0, none⟩) (by simp) (.int .i64 r1.last)).setCell (a := ⟨b1, 1, none⟩) (by simp) (.int .i64 r1.avg) |>.setCell (a := ⟨b1, 2, none⟩) (by simp) (.int .i64 r1.till)
    have A2 : BoxV _ b2 44 #[.int .i64 r1.last, .int .i64 r1.avg, .int .i64 r1.till] := (((Y2.out.carry TA (by simpa using hne')).set 0 (.int .i64 r1.last)).set 1 (.int .i64 r1.avg)).set 2 (.int .i64 r1.till)
    have TB := ((Touch.refl [b2] ((((w2.setCell ⟨b1, 0, none⟩ (.int .i64 r1.last)).setCell ⟨b1, 1, none⟩ (.int .i64 r1.avg)).setCell ⟨b1, 2, none⟩ (.int .i64 r1.till)))).setCell (a := ⟨b2, 0, none⟩) (by simp) (.int .i64 r1.last)).setCell (a := ⟨b2, 1, none⟩) (by simp) (.int .i64 r1.avg) |>.setCell (a := ⟨b2, 2, none⟩) (by simp) (.int .i64 r1.till)
    have B1 := Lib.hid (A1.carry TB (by simpa using hne))
    have B2 := Lib.hid A2
    have TAB : Touch [b1, b2] w2 _ := (TA.mono (S' := [b1, b2]) (by simp)).trans TB (by simp)
    have n0 : w.heap.size ∉ [b1, b2] := by have := L1.out; have := L2.out; simp; omega
    have n1 : w.heap.size + 1 ∉ [b1, b2] := by have := L1.out; have := L2.out; simp; omega
    have n2 : w.heap.size + 2 ∉ [b1, b2] := by have := L1.out; have := L2.out; simp; omega
    have C0 := Lib.hid (X0'.out.carry TAB n0)
    have C1 := Lib.hid (X1'.out.carry TAB n1)
    have C2 := Lib.hid (X2'.out.carry TAB n2)
    have TZ := Lib.hid (T2.out.trans TAB (by have := L1.out; have := L2.out; have := LS.out; intro b hb; right; simp at hb; rcases hb with rfl | rfl <;> omega))
    clear A1 TA A2 TB TAB n0 n1 n2 hne hne' f1 f2 p0 p1 p2 q0 q1 q2 z1 z2 lt0 lt1 lt2
    generalize (((((w2.setCell ⟨b1, 0, none⟩ (.int .i64 r1.last)).setCell ⟨b1, 1, none⟩ (.int .i64 r1.avg)).setCell ⟨b1, 2, none⟩ (.int .i64 r1.till)).setCell ⟨b2, 0, none⟩ (.int .i64 r1.last)).setCell ⟨b2, 1, none⟩ (.int .i64 r1.avg)).setCell ⟨b2, 2, none⟩ (.int .i64 r1.till) = w3 at *
    have u0 : ∀ x : Cls w3, x.val.cell? ⟨b1, 0, none⟩ = some (.int .i64 r1.last) := fun x => (B1.out.carry x.property (by simp)).cell 0
    have u1 : ∀ x : Cls w3, x.val.cell? ⟨b1, 1, none⟩ = some (.int .i64 r1.avg) := fun x => (B1.out.carry x.property (by simp)).cell 1
    have u2 : ∀ x : Cls w3, x.val.cell? ⟨b1, 2, none⟩ = some (.int .i64 r1.till) := fun x => (B1.out.carry x.property (by simp)).cell 2
    have v0 : ∀ x : Cls w3, x.val.cell? ⟨b2, 0, none⟩ = some (.int .i64 r1.last) := fun x => (B2.out.carry x.property (by simp)).cell 0
    have v1 : ∀ x : Cls w3, x.val.cell? ⟨b2, 1, none⟩ = some (.int .i64 r1.avg) := fun x => (B2.out.carry x.property (by simp)).cell 1
    have v2 : ∀ x : Cls w3, x.val.cell? ⟨b2, 2, none⟩ = some (.int .i64 r1.till) := fun x => (B2.out.carry x.property (by simp)).cell 2
    have a0 : ∀ x : Cls w3, x.val.cell? ⟨w.heap.size, 0, none⟩ = some (.int .i64 s.last) := fun x => (C0.out.carry x.property (by simp)).cell 0
    have a1 : ∀ x : Cls w3, x.val.cell? ⟨w.heap.size, 1, none⟩ = some (.int .i64 s.avg) := fun x => (C0.out.carry x.property (by simp)).cell 1
    have a2 : ∀ x : Cls w3, x.val.cell? ⟨w.heap.size, 2, none⟩ = some (.int .i64 s.till) := fun x => (C0.out.carry x.property (by simp)).cell 2
    have k0 : ∀ x : Cls w3, x.val.cell? ⟨w.heap.size + 1, 0, none⟩ = some (.int .i64 c.id) := fun x => (C1.out.carry x.property (by simp)).cell 0
    have k1 : ∀ x : Cls w3, x.val.cell? ⟨w.heap.size + 1, 1, none⟩ = some (.int .i64 c.parent) := fun x => (C1.out.carry x.property (by simp)).cell 1
    have k2 : ∀ x : Cls w3, x.val.cell? ⟨w.heap.size + 1, 2, none⟩ = some (.float .f64 c.share) := fun x => (C1.out.carry x.property (by simp)).cell 2
    have k3 : ∀ x : Cls w3, x.val.cell? ⟨w.heap.size + 1, 3, none⟩ = some (.int .i64 c.prio) := fun x => (C1.out.carry x.property (by simp)).cell 3
    have k4 : ∀ x : Cls w3, x.val.cell? ⟨w.heap.size + 1, 4, none⟩ = some (.int .i64 c.quantum) := fun x => (C1.out.carry x.property (by simp)).cell 4
    have k5 : ∀ x : Cls w3, x.val.cell? ⟨w.heap.size + 1, 5, none⟩ = some (.int .i64 c.limit) := fun x => (C1.out.carry x.property (by simp)).cell 5
    have k6 : ∀ x : Cls w3, x.val.cell? ⟨w.heap.size + 1, 6, none⟩ = some (.int .i64 c.weight) := fun x => (C1.out.carry x.property (by simp)).cell 6
    have k7 : ∀ x : Cls w3, x.val.cell? ⟨w.heap.size + 1, 7, none⟩ = some (.int .i64 c.minIdle) := fun x => (C1.out.carry x.property (by simp)).cell 7
    have k8 : ∀ x : Cls w3, x.val.cell? ⟨w.heap.size + 1, 8, none⟩ = some (.int .i64 c.maxIdle) := fun x => (C1.out.carry x.property (by simp)).cell 8
    have k9 : ∀ x : Cls w3, x.val.cell? ⟨w.heap.size + 1, 9, none⟩ = some (.bool c.bounded) := fun x => (C1.out.carry x.property (by simp)).cell 9
    have k10 : ∀ x : Cls w3, x.val.cell? ⟨w.heap.size + 1, 10, none⟩ = some (.bool c.isolated) := fun x => (C1.out.carry x.property (by simp)).cell 10
    have i0 : ∀ x : Cls w3, x.val.cell? ⟨w.heap.size + 2, 0, none⟩ = some (.int .i64 x0) := fun x => (C2.out.carry x.property (by simp)).cell 0
    have i1 : ∀ x : Cls w3, x.val.cell? ⟨w.heap.size + 2, 1, none⟩ = some (.int .i64 x1) := fun x => (C2.out.carry x.property (by simp)).cell 1
    refine wp_region_cls (wd := w3) (by kernel_rfl) (by kernel_rfl) ((Touch.refl _ _).drew) ?_
    repeat (first | go_big_quiet_step ((first | (go_at_call 24; exact Calls.cls_at (NW.out _)) | (go_at_call 25; exact Calls.cls_at (RN.out _)) | (go_at_call 26; exact Calls.cls_at (CA.out _)) | (go_at_call 27; exact Calls.cls_at (RC.out _)) | (go_at_call 28; exact Calls.cls_at (OV.out _)) | (go_at_call 29; exact Calls.cls_at (RO.out _)) | (go_at_call 30; exact Calls.cls_at (LE.out _)) | (go_at_call 31; exact Calls.cls_at (RL.out _)) | (go_at_call 32; exact Calls.cls_at (LV.out _)))) | quiet_step ((first | (go_at_call 24; exact Calls.cls_at (NW.out _)) | (go_at_call 25; exact Calls.cls_at (RN.out _)) | (go_at_call 26; exact Calls.cls_at (CA.out _)) | (go_at_call 27; exact Calls.cls_at (RC.out _)) | (go_at_call 28; exact Calls.cls_at (OV.out _)) | (go_at_call 29; exact Calls.cls_at (RO.out _)) | (go_at_call 30; exact Calls.cls_at (LE.out _)) | (go_at_call 31; exact Calls.cls_at (RL.out _)) | (go_at_call 32; exact Calls.cls_at (LV.out _)))))
    refine wpQuiet_nil ?_
    rintro _ ⟨y, rfl⟩
    go_wp2_with fail
    go_ret
    exact ⟨rfl, (TZ.out.trans y.property (by simp)).below (by simp) (Nat.le_refl _)⟩

set_option maxRecDepth 100000 in
theorem idleTells_calls : LawCalls Try.prog 5 Try.f5 := by
  intro H enc W base args ds p hval hA hlt
  rw [Try.params5] at hA hval
  obtain ⟨v0, vs0, d0, ds0, p0, q0, hargs, rfl, rfl, h0, r0⟩ := trodAll_cons hA
  obtain ⟨v1, vs1, d1, ds1, p1, q1, rfl, rfl, rfl, h1, r1⟩ := trodAll_cons r0
  obtain ⟨v2, vs2, d2, ds2, p2, q2, rfl, rfl, rfl, h2, r2⟩ := trodAll_cons r1
  obtain ⟨rfl, rfl, rfl⟩ := trodAll_nil r2
  obtain rfl : args = #[v0, v1, v2] := by cases args; simp_all
  obtain ⟨s, rfl, _⟩ := open_state (hval 0 41 v0 rfl rfl) h0
  obtain ⟨c, rfl, hc⟩ := open_class (hval 1 24 v1 rfl rfl) h1
  obtain ⟨cs, rfl, hsz, hi⟩ := open_ints_array Try.underlying42 Try.underlying3 (by kernel_rfl) (hval 2 42 v2 rfl rfl) h2
  obtain ⟨x0, e0, _⟩ := hi 0 (by omega)
  obtain ⟨x1, e1, _⟩ := hi 1 (by omega)
  obtain rfl : cs = #[.int .i64 x0, .int .i64 x1] := by
    have hs : cs.size = 2 := hsz.trans (by kernel_rfl)
    obtain ⟨l⟩ := cs
    match l, hs with
    | [a, b], _ => simp at e0 e1; rw [e0, e1]
  exact idleTells_walk s c hc.2.2.1 x0 x1 W

set_option maxRecDepth 100000 in
theorem idleTells_lifted (os : Os) (started : os.Started) (H : Type) (enc : TypeId × Value → H) :
    ReturnsInHanded {} Try.checked os 5 .any (Rows.idleTellsSpec.pre6 enc Try.prog Try.f5 Rows.idleTellsRow.domain false) (Rows.idleTellsSpec.post enc Try.prog Try.f5 false true false false) := by
  refine returnsInHanded_of_change (C := Try.checked) own started (by kernel_rfl) Try.func5
    (ChangeSpec.witness6 (enc := enc) (C := Try.checked) false ⟨#[], #[.agg #[.int .i64 0, .int .i64 0, .int .i64 0], .agg #[.int .i64 0, .int .i64 0, .float .f64 0, .int .i64 0, .int .i64 0, .int .i64 0, .int .i64 0, .int .i64 0, .int .i64 0, .bool false, .bool false], .agg #[.int .i64 0, .int .i64 0]], []⟩ 8 (by kernel_rfl) (by kernel_rfl) (by kernel_rfl) (by kernel_rfl)) ?_
  intro W base args ds gs before hval hW _ _
  exact law_contract laidOut (by kernel_rfl) rfl rfl boolType (fun ds h => by match ds, h with | [_, _, _], _ => rfl) idleTells_calls W base args ds gs before hval hW

theorem idleTells_holds : Rows.IdleTellsSaid :=
  OpenClaim.holds_of_wide 5 Try.f5 rfl rfl rfl rfl rfl rfl rfl ⟨rfl, rfl, rfl, rfl, rfl⟩ rfl rfl rfl rfl rfl (by kernel_rfl) Try.func5 (by kernel_rfl)
    (of_decide_eq_true (by kernel_rfl)) (by unfold Func.isWrapper; first | (rw [if_pos (by decide +kernel)]; kernel_rfl) | (rw [if_neg (by decide +kernel)]; exact ⟨rfl, rfl⟩))
    (fun os started H enc _ => idleTells_lifted os started H enc)
#print axioms idleTells_holds
end Go.Proofs.Ytinbicpefhnmnaa
