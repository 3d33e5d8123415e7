/-
  IdlePaced: for every class, every time and all times of packets the law on idle's Paced returns true. No conditions.
-/
import Derived.Test.YtinbicpefhnmnaaIdlePace
namespace Go.Proofs.Ytinbicpefhnmnaa
open Go.ChangeShapes Go.WideShapes Go.ChangeAt Go.RowKit Go.Joins Go.Deep
set_option linter.unusedVariables false

theorem IntCells.on {w w' : World} {A : Option Addr} {n : Nat} {X : Nat → Int} (h : IntCells w w.heap.size A n X) (t : Touch [] w w') : IntCells w' w'.heap.size A n X := (h.below (t.below (by simp) (Nat.le_refl _))).mono t.size

def RefAt (c : Cl) (time : Int) (X : Nat → Int) (s : St) (n B : Nat) (w3 : World) (i : Value) (wr : World) : Prop :=
  ∃ k : Nat, k ≤ n ∧ i = .int .i64 k ∧ BoxV wr B 44 #[.int .i64 (paceV c time X s k).last, .int .i64 (paceV c time X s k).avg, .int .i64 (paceV c time X s k).till] ∧ Touch [B] w3 wr

set_option maxHeartbeats 2000000 in
theorem idlePaced_walk (c : Cl) (h64 : c.share < 18446744073709551616) (time : Int) (A : Option Addr) (n cap : Nat) (X : Nat → Int) (w : World) (hX : IntCells w w.heap.size A n X) (hm : n ≤ 9223372036854775807) :
    Calls Try.prog 6 #[.agg c.cells, .int .i64 time, .slice A n cap] w fun e w' => e = .returned (.bool true) ∧ Below w.heap.size w w' := by
  have LV := Lib.hid (fun w => idleLives w)
  by_cases hn : n ≤ 50
  · have NW := Lib.hid (fun w => idleNew c h64 0 w)
    have RN := Lib.hid (fun w => refNew25 c h64 0 w)
    have RS := Lib.hid (fun p now w => refSent25 c h64 p time now w)
    generalize newV c 0 = s at *
    have PA := Lib.hid (fun w' (t : Touch [] w w') => idlePaced c h64 s time A n cap X w' (hX.on t) hn)
    have HX := Lib.hid hX
    have X0 := Lib.hid (BoxV.new w 24 #[.int .i64 c.id, .int .i64 c.parent, .float .f64 c.share, .int .i64 c.prio, .int .i64 c.quantum, .int .i64 c.limit, .int .i64 c.weight, .int .i64 c.minIdle, .int .i64 c.maxIdle, .bool c.bounded, .bool c.isolated])
    have T := Lib.hid ((Touch.refl [] w).alloc (.cells #[.int .i64 c.id, .int .i64 c.parent, .float .f64 c.share, .int .i64 c.prio, .int .i64 c.quantum, .int .i64 c.limit, .int .i64 c.weight, .int .i64 c.minIdle, .int .i64 c.maxIdle, .bool c.bounded, .bool c.isolated] 24))
    unfold Cl.cells St.cells at *
    have dn : decide (50 < (n : Int)) = false := by simp; omega
    clear hX h64
    go_enter Try.func6, Try.ntmps6
    go_upto_region 3 with fail
    generalize w.alloc (.cells #[.int .i64 c.id, .int .i64 c.parent, .float .f64 c.share, .int .i64 c.prio, .int .i64 c.quantum, .int .i64 c.limit, .int .i64 c.weight, .int .i64 c.minIdle, .int .i64 c.maxIdle, .bool c.bounded, .bool c.isolated] 24) = w1 at *
    refine wp_region_fresh2 (wd := w1) 4 7 41 #[.int .i64 0, .int .i64 0, .int .i64 0] 8 44 #[.int .i64 0, .int .i64 0, .int .i64 0] ?aF (by kernel_rfl) (by kernel_rfl) ((Touch.refl _ _).drew) ⟨_, rfl, rfl, fun a w => rfl⟩ ⟨_, rfl, rfl, fun a w => rfl⟩ ?hwalk ?hend
    case hwalk =>
      intro wd ht
      simp only [List.take_succ_cons, List.take_zero]
      have k0 : ∀ x : Cls wd, x.val.cell? ⟨w.heap.size, 0, none⟩ = some (.int .i64 c.id) := fun x => ((X0.out.carry ht (by simp)).carry x.property (by simp)).cell 0
      have k1 : ∀ x : Cls wd, x.val.cell? ⟨w.heap.size, 1, none⟩ = some (.int .i64 c.parent) := fun x => ((X0.out.carry ht (by simp)).carry x.property (by simp)).cell 1
      have k2 : ∀ x : Cls wd, x.val.cell? ⟨w.heap.size, 2, none⟩ = some (.float .f64 c.share) := fun x => ((X0.out.carry ht (by simp)).carry x.property (by simp)).cell 2
      have k3 : ∀ x : Cls wd, x.val.cell? ⟨w.heap.size, 3, none⟩ = some (.int .i64 c.prio) := fun x => ((X0.out.carry ht (by simp)).carry x.property (by simp)).cell 3
      have k4 : ∀ x : Cls wd, x.val.cell? ⟨w.heap.size, 4, none⟩ = some (.int .i64 c.quantum) := fun x => ((X0.out.carry ht (by simp)).carry x.property (by simp)).cell 4
      have k5 : ∀ x : Cls wd, x.val.cell? ⟨w.heap.size, 5, none⟩ = some (.int .i64 c.limit) := fun x => ((X0.out.carry ht (by simp)).carry x.property (by simp)).cell 5
      have k6 : ∀ x : Cls wd, x.val.cell? ⟨w.heap.size, 6, none⟩ = some (.int .i64 c.weight) := fun x => ((X0.out.carry ht (by simp)).carry x.property (by simp)).cell 6
      have k7 : ∀ x : Cls wd, x.val.cell? ⟨w.heap.size, 7, none⟩ = some (.int .i64 c.minIdle) := fun x => ((X0.out.carry ht (by simp)).carry x.property (by simp)).cell 7
      have k8 : ∀ x : Cls wd, x.val.cell? ⟨w.heap.size, 8, none⟩ = some (.int .i64 c.maxIdle) := fun x => ((X0.out.carry ht (by simp)).carry x.property (by simp)).cell 8
      have k9 : ∀ x : Cls wd, x.val.cell? ⟨w.heap.size, 9, none⟩ = some (.bool c.bounded) := fun x => ((X0.out.carry ht (by simp)).carry x.property (by simp)).cell 9
      have k10 : ∀ x : Cls wd, x.val.cell? ⟨w.heap.size, 10, none⟩ = some (.bool c.isolated) := fun x => ((X0.out.carry ht (by simp)).carry x.property (by simp)).cell 10
      repeat (first | go_big_quiet_step ((first | (go_at_call 24; exact Calls.cls_at (NW.out _)) | (go_at_call 25; exact Calls.cls_at (RN.out _)))) | quiet_step ((first | (go_at_call 24; exact Calls.cls_at (NW.out _)) | (go_at_call 25; exact Calls.cls_at (RN.out _)))))
      refine wpQuiet_nil ?_
      rfl
    case hend =>
      intro b1 b2 w2 t2 y1 l1 y2 l2 hne
      have XC := Lib.hid (X0.out.carry t2 (by simp))
      have f1 := y1.fr
      have f2 := y2.fr
      have p0 := y1.cell 0
      have p1 := y1.cell 1
      have p2 := y1.cell 2
      have q0 := y2.cell 0
      have q1 := y2.cell 1
      have q2 := y2.cell 2
      have z1 := y1.lt
      have z2 := y2.lt
      have Y1 := Lib.hid y1
      have Y2 := Lib.hid y2
      have T2 := Lib.hid (T.out.trans t2 (by simp))
      have LC := Lib.hid X0.out.lt
      have L0 := Lib.hid T.out.size
      have L1 := Lib.hid l1
      have L2 := Lib.hid l2
      have hne' : b2 ≠ b1 := Ne.symm hne
      clear y1 y2 t2 l1 l2 X0
      simp only [List.drop_succ_cons, List.drop_zero]
      go_upto_region 4 with fail
      have A1 : BoxV _ b1 41 #[.int .i64 s.last, .int .i64 s.avg, .int .i64 s.till] := ((Y1.out.set 0 (.int .i64 s.last)).set 1 (.int .i64 s.avg)).set 2 (.int .i64 s.till)
      have TA := ((Touch.refl [b1] w2).setCell (a := ⟨b1, 0, none⟩) (by simp) (.int .i64 s.last)).setCell (a := ⟨b1, 1, none⟩) (by simp) (.int .i64 s.avg) |>.setCell (a := ⟨b1, 2, none⟩) (by simp) (.int .i64 s.till)
      have A2 : BoxV _ b2 44 #[.int .i64 s.last, .int .i64 s.avg, .int .i64 s.till] := (((Y2.out.carry TA (by simpa using hne')).set 0 (.int .i64 s.last)).set 1 (.int .i64 s.avg)).set 2 (.int .i64 s.till)
      have TB := ((Touch.refl [b2] ((((w2.setCell ⟨b1, 0, none⟩ (.int .i64 s.last)).setCell ⟨b1, 1, none⟩ (.int .i64 s.avg)).setCell ⟨b1, 2, none⟩ (.int .i64 s.till)))).setCell (a := ⟨b2, 0, none⟩) (by simp) (.int .i64 s.last)).setCell (a := ⟨b2, 1, none⟩) (by simp) (.int .i64 s.avg) |>.setCell (a := ⟨b2, 2, none⟩) (by simp) (.int .i64 s.till)
      have B1 := Lib.hid (A1.carry TB (by simpa using hne))
      have B2 := Lib.hid A2
      have TAB : Touch [b1, b2] w2 _ := (TA.mono (S' := [b1, b2]) (by simp)).trans TB (by simp)
      have n0 : w.heap.size ∉ [b1, b2] := by have := L1.out; have := L2.out; have := LC.out; simp; omega
      have C0 := Lib.hid (XC.out.carry TAB n0)
      have TZ := Lib.hid (T2.out.trans TAB (by have := L1.out; have := L2.out; have := L0.out; intro b hb; right; simp at hb; rcases hb with rfl | rfl <;> omega))
      have NC := Lib.hid (show w.heap.size ≠ b2 by have := L2.out; have := LC.out; omega)
      have NB := Lib.hid hne
      have WB := Lib.hid (show w.heap.size ≤ b2 by have := L2.out; have := L0.out; omega)
      clear A1 TA A2 TB TAB n0 hne hne' f1 f2 p0 p1 p2 q0 q1 q2 z1 z2
      generalize (((((w2.setCell ⟨b1, 0, none⟩ (.int .i64 s.last)).setCell ⟨b1, 1, none⟩ (.int .i64 s.avg)).setCell ⟨b1, 2, none⟩ (.int .i64 s.till)).setCell ⟨b2, 0, none⟩ (.int .i64 s.last)).setCell ⟨b2, 1, none⟩ (.int .i64 s.avg)).setCell ⟨b2, 2, none⟩ (.int .i64 s.till) = w3 at *
      go_wp2_with fail
      go_loopw [21] (fun i wr => RefAt c time X s n b2 w3 i wr) (fun i _ => n - (intOf i).toNat)
      case atStart => exact ⟨0, Nat.zero_le _, rfl, B2.out, Touch.refl _ _⟩
      case round =>
        obtain ⟨k, hk, rfl, hb, tr⟩ := hrel
        have BC := C0.out.carry tr (by have := NC.out; simpa using this)
        by_cases hlt : k < n
        · obtain ⟨bl, off, hA, hbB, hc⟩ := HX.out k hlt
          have hcell := ((TZ.out.trans tr (by have := WB.out; simpa using this)).cell (a := ⟨bl, off + k, none⟩) hbB (by simp)).trans hc
          have hbl : bl ≠ b2 := by have := WB.out; omega
          have ltb : bl < wr.heap.size := Nat.lt_of_lt_of_le hbB (TZ.out.trans tr (by have := WB.out; simpa using this)).size
          subst hA
          generalize hp : paceV c time X s k = p at *
          have HP := Lib.hid hp
          have SE := Lib.hid (fun w => RS.out p (X k) w)
          generalize hr : sentV c p time (X k) = r at *
          have HR := Lib.hid hr
          have k0 := BC.cell 0
          have k1 := BC.cell 1
          have k2 := BC.cell 2
          have k3 := BC.cell 3
          have k4 := BC.cell 4
          have k5 := BC.cell 5
          have k6 := BC.cell 6
          have k7 := BC.cell 7
          have k8 := BC.cell 8
          have k9 := BC.cell 9
          have k10 := BC.cell 10
          have v0 := hb.cell 0
          have v1 := hb.cell 1
          have v2 := hb.cell 2
          have ltc := BC.lt
          have lts := hb.lt
          have HB := Lib.hid hb
          have TR := Lib.hid tr
          clear hp hr hb tr hc BC
          go_wp2_with fail
          refine (SE.out _).mono ?_
          rintro e w4 ⟨rfl, t4⟩
          clear k0 k1 k2 k3 k4 k5 k6 k7 k8 k9 k10 v0 v1 v2 ltc lts
          have CS := HB.out.carry t4 (by simp)
          have fz := CS.fr
          have v0 := CS.cell 0
          have v1 := CS.cell 1
          have v2 := CS.cell 2
          have lt4 := CS.lt
          have HS := Lib.hid CS
          have TT := Lib.hid (TR.out.trans t4 (by simp))
          clear CS t4
          go_wp2_with fail
          go_round
          case rel =>
            refine ⟨k + 1, by omega, by go_num, ?_, ((TT.out.setCell (by simp) _).setCell (by simp) _).setCell (by simp) _⟩
            rw [show paceV c time X s (k + 1) = r from by show sentV c (paceV c time X s k) time (X k) = r; rw [HP.out, HR.out]]
            exact ((HS.out.set 0 (.int .i64 r.last)).set 1 (.int .i64 r.avg)).set 2 (.int .i64 r.till)
          case measure => simp [intOf]; omega
        · obtain rfl : k = n := by omega
          have TW := Lib.hid (TZ.out.trans tr (by have := WB.out; simpa using this))
          have D1 := Lib.hid (B1.out.carry tr (by have := NB.out; simpa using this))
          have D2 := Lib.hid hb
          have DC := Lib.hid BC
          have PB := Lib.hid (fun x : Cls wr => PA.out x.val (TW.out.trans x.property (by simp)))
          clear hb tr BC
          generalize paceV c time X s k = fin at *
          go_upto_region 9 with fail
          have u0 : ∀ x : Cls wr, x.val.cell? ⟨b1, 0, none⟩ = some (.int .i64 s.last) := fun x => (D1.out.carry x.property (by simp)).cell 0
          have u1 : ∀ x : Cls wr, x.val.cell? ⟨b1, 1, none⟩ = some (.int .i64 s.avg) := fun x => (D1.out.carry x.property (by simp)).cell 1
          have u2 : ∀ x : Cls wr, x.val.cell? ⟨b1, 2, none⟩ = some (.int .i64 s.till) := fun x => (D1.out.carry x.property (by simp)).cell 2
          have v0 : ∀ x : Cls wr, x.val.cell? ⟨b2, 0, none⟩ = some (.int .i64 fin.last) := fun x => (D2.out.carry x.property (by simp)).cell 0
          have v1 : ∀ x : Cls wr, x.val.cell? ⟨b2, 1, none⟩ = some (.int .i64 fin.avg) := fun x => (D2.out.carry x.property (by simp)).cell 1
          have v2 : ∀ x : Cls wr, x.val.cell? ⟨b2, 2, none⟩ = some (.int .i64 fin.till) := fun x => (D2.out.carry x.property (by simp)).cell 2
          have k0 : ∀ x : Cls wr, x.val.cell? ⟨w.heap.size, 0, none⟩ = some (.int .i64 c.id) := fun x => (DC.out.carry x.property (by simp)).cell 0
          have k1 : ∀ x : Cls wr, x.val.cell? ⟨w.heap.size, 1, none⟩ = some (.int .i64 c.parent) := fun x => (DC.out.carry x.property (by simp)).cell 1
          have k2 : ∀ x : Cls wr, x.val.cell? ⟨w.heap.size, 2, none⟩ = some (.float .f64 c.share) := fun x => (DC.out.carry x.property (by simp)).cell 2
          have k3 : ∀ x : Cls wr, x.val.cell? ⟨w.heap.size, 3, none⟩ = some (.int .i64 c.prio) := fun x => (DC.out.carry x.property (by simp)).cell 3
          have k4 : ∀ x : Cls wr, x.val.cell? ⟨w.heap.size, 4, none⟩ = some (.int .i64 c.quantum) := fun x => (DC.out.carry x.property (by simp)).cell 4
          have k5 : ∀ x : Cls wr, x.val.cell? ⟨w.heap.size, 5, none⟩ = some (.int .i64 c.limit) := fun x => (DC.out.carry x.property (by simp)).cell 5
          have k6 : ∀ x : Cls wr, x.val.cell? ⟨w.heap.size, 6, none⟩ = some (.int .i64 c.weight) := fun x => (DC.out.carry x.property (by simp)).cell 6
          have k7 : ∀ x : Cls wr, x.val.cell? ⟨w.heap.size, 7, none⟩ = some (.int .i64 c.minIdle) := fun x => (DC.out.carry x.property (by simp)).cell 7
          have k8 : ∀ x : Cls wr, x.val.cell? ⟨w.heap.size, 8, none⟩ = some (.int .i64 c.maxIdle) := fun x => (DC.out.carry x.property (by simp)).cell 8
          have k9 : ∀ x : Cls wr, x.val.cell? ⟨w.heap.size, 9, none⟩ = some (.bool c.bounded) := fun x => (DC.out.carry x.property (by simp)).cell 9
          have k10 : ∀ x : Cls wr, x.val.cell? ⟨w.heap.size, 10, none⟩ = some (.bool c.isolated) := fun x => (DC.out.carry x.property (by simp)).cell 10
          refine wp_region_cls (wd := wr) (by kernel_rfl) (by kernel_rfl) ((Touch.refl _ _).drew) ?_
          repeat (first | go_big_quiet_step ((first | (go_at_call 33; exact Calls.cls_at (PB.out _)) | (go_at_call 32; exact Calls.cls_at (LV.out _)))) | quiet_step ((first | (go_at_call 33; exact Calls.cls_at (PB.out _)) | (go_at_call 32; exact Calls.cls_at (LV.out _)))))
          refine wpQuiet_nil ?_
          rintro _ ⟨y, rfl⟩
          go_wp2_with fail
          go_ret
          exact ⟨rfl, (TW.out.trans y.property (by simp)).below (by simp) (Nat.le_refl _)⟩
  · have dn : decide (50 < (n : Int)) = true := by simp; omega
    unfold Cl.cells
    clear hX h64
    go_enter Try.func6, Try.ntmps6
    go_wp2_with fail
    refine (LV.out _).mono ?_
    rintro e w9 ⟨rfl, t⟩
    have TZ := Lib.hid (((Touch.refl [] w).alloc _).trans t (by simp))
    clear t
    go_wp2_with fail
    go_ret
    exact ⟨rfl, TZ.out.below (by simp) (Nat.le_refl _)⟩

set_option maxRecDepth 100000 in
theorem idlePaced_calls : LawCalls Try.prog 6 Try.f6 := by
  intro H enc W base args ds p hval hA hlt
  rw [Try.params6] at hA hval
  obtain ⟨v0, vs0, d0, ds0, p0, q0, hargs, rfl, rfl, h0, r0⟩ := trodAll_cons hA
  obtain ⟨v1, vs1, d1, ds1, p1, q1, rfl, rfl, rfl, h1, r1⟩ := trodAll_cons r0
  obtain ⟨v2, vs2, d2, ds2, p2, q2, rfl, rfl, rfl, h2, r2⟩ := trodAll_cons r1
  obtain ⟨rfl, rfl, rfl⟩ := trodAll_nil r2
  obtain rfl : args = #[v0, v1, v2] := by cases args; simp_all
  obtain ⟨c, rfl, hc⟩ := open_class (hval 0 24 v0 rfl rfl) h0
  obtain ⟨time, rfl, rfl, rfl, wl⟩ := open_int Try.underlying3 (hval 1 3 v1 rfl rfl) h1
  obtain ⟨A, n, cap, X, rfl, hl, hm, hX, _⟩ := int_cells (hval 2 55 v2 rfl rfl) h2
  exact idlePaced_walk c hc.2.2.1 time A n cap X W hX (by omega)

set_option maxRecDepth 100000 in
theorem idlePaced_lifted (os : Os) (started : os.Started) (H : Type) (enc : TypeId × Value → H) :
    ReturnsInHanded {} Try.checked os 6 .any (Rows.idlePacedSpec.pre6 enc Try.prog Try.f6 Rows.idlePacedRow.domain false) (Rows.idlePacedSpec.post enc Try.prog Try.f6 false true false false) := by
  refine returnsInHanded_of_change (C := Try.checked) own started (by kernel_rfl) Try.func6
    (ChangeSpec.witness6 (enc := enc) (C := Try.checked) false ⟨#[], #[.agg #[.int .i64 0, .int .i64 0, .float .f64 0, .int .i64 0, .int .i64 0, .int .i64 0, .int .i64 0, .int .i64 0, .int .i64 0, .bool false, .bool false], .int .i64 0, .slice none 0 0], []⟩ 8 (by kernel_rfl) (by kernel_rfl) (by kernel_rfl) (by kernel_rfl)) ?_
  intro W base args ds gs before hval hW _ _
  exact law_contract laidOut (by kernel_rfl) rfl rfl boolType (fun ds h => by match ds, h with | [_, _, _], _ => rfl) idlePaced_calls W base args ds gs before hval hW

theorem idlePaced_holds : Rows.IdlePacedSaid :=
  OpenClaim.holds_of_wide 6 Try.f6 rfl rfl rfl rfl rfl rfl rfl ⟨rfl, rfl, rfl, rfl, rfl⟩ rfl rfl rfl rfl rfl (by kernel_rfl) Try.func6 (by kernel_rfl)
    (of_decide_eq_true (by kernel_rfl)) (by unfold Func.isWrapper; first | (rw [if_pos (by decide +kernel)]; kernel_rfl) | (rw [if_neg (by decide +kernel)]; exact ⟨rfl, rfl⟩))
    (fun os started H enc _ => idlePaced_lifted os started H enc)
#print axioms idlePaced_holds
end Go.Proofs.Ytinbicpefhnmnaa
