/-
  IdleWaits: for every class and all times the law on waiting returns true. No conditions.
-/
import Derived.Test.YtinbicpefhnmnaaIdleMath
namespace Go.Proofs.Ytinbicpefhnmnaa
open Go.ChangeShapes Go.WideShapes Go.ChangeAt Go.RowKit Go.Joins Go.Deep
set_option linter.unusedVariables false

def small (x : Int) : Prop := 0 ≤ x ∧ x ≤ 1099511627776
def at3 (x0 x1 x2 : Int) (k : Nat) : Int := if k = 0 then x0 else if k = 1 then x1 else x2

set_option maxHeartbeats 2000000 in
theorem idleWaits_walk (c : Cl) (h64 : c.share < 18446744073709551616) (x0 x1 x2 late : Int) (w : World) :
    Calls Try.prog 7 #[.agg c.cells, .agg #[.int .i64 x0, .int .i64 x1, .int .i64 x2], .int .i64 late] w fun e w' => e = .returned (.bool true) ∧ Below w.heap.size w w' := by
  have LV := Lib.hid (fun w => idleLives w)
  have R := Lib.hid (fun w => right_any c h64 w)
  unfold Cl.cells at *
  have X0 := Lib.hid (BoxV.of2 (w := w) (cs := #[.int .i64 c.id, .int .i64 c.parent, .float .f64 c.share, .int .i64 c.prio, .int .i64 c.quantum, .int .i64 c.limit, .int .i64 c.weight, .int .i64 c.minIdle, .int .i64 c.maxIdle, .bool c.bounded, .bool c.isolated]) (T := 24) (o := .cells #[.int .i64 x0, .int .i64 x1, .int .i64 x2] 58))
  have X1 := Lib.hid (BoxV.at1 (w := w) (o := .cells #[.int .i64 c.id, .int .i64 c.parent, .float .f64 c.share, .int .i64 c.prio, .int .i64 c.quantum, .int .i64 c.limit, .int .i64 c.weight, .int .i64 c.minIdle, .int .i64 c.maxIdle, .bool c.bounded, .bool c.isolated] 24) (cs := #[.int .i64 x0, .int .i64 x1, .int .i64 x2]) (T := 58))
  have T := Lib.hid (((Touch.refl [] w).alloc (.cells #[.int .i64 c.id, .int .i64 c.parent, .float .f64 c.share, .int .i64 c.prio, .int .i64 c.quantum, .int .i64 c.limit, .int .i64 c.weight, .int .i64 c.minIdle, .int .i64 c.maxIdle, .bool c.bounded, .bool c.isolated] 24)).alloc (.cells #[.int .i64 x0, .int .i64 x1, .int .i64 x2] 58))
  go_enter Try.func7, Try.ntmps7
  go_wp2_with fail
  generalize (w.alloc (.cells #[.int .i64 c.id, .int .i64 c.parent, .float .f64 c.share, .int .i64 c.prio, .int .i64 c.quantum, .int .i64 c.limit, .int .i64 c.weight, .int .i64 c.minIdle, .int .i64 c.maxIdle, .bool c.bounded, .bool c.isolated] 24)).alloc (.cells #[.int .i64 x0, .int .i64 x1, .int .i64 x2] 58) = w1 at *
  go_loop [13] (fun i => ∃ k : Nat, k ≤ 3 ∧ i = .int .i64 k ∧ ∀ j, j < k → small (at3 x0 x1 x2 j)) (fun i => 3 - (intOf i).toNat)
  case atStart => exact ⟨0, by omega, rfl, fun j hj => by omega⟩
  case round =>
    obtain ⟨k, hk, rfl, hs⟩ := hrel
    by_cases hlt : k < 3
    · rcases (show k = 0 ∨ k = 1 ∨ k = 2 by omega) with rfl | rfl | rfl
      · have hix : ∀ w : World, (Instr.index 58 (.agg #[.int .i64 x0, .int .i64 x1, .int .i64 x2]) (.int .i64 0)).run Try.prog w = .ok (.int .i64 x0) w := fun w => by kernel_rfl
        by_cases g1 : x0 < 0
        · have d1 : decide (x0 < 0) = true := by simpa using g1
          clear hs
          go_wp2_with fail
          refine (LV.out _).mono ?_
          rintro e w9 ⟨rfl, t⟩
          have TZ := Lib.hid (T.out.trans t (by simp))
          clear t
          go_wp2_with fail
          go_ret
          exact ⟨rfl, TZ.out.below (by simp) (Nat.le_refl _)⟩
        · have d1 : decide (x0 < 0) = false := by simpa using g1
          by_cases g2 : 1099511627776 < x0
          · have d2 : decide (1099511627776 < x0) = true := by simpa using g2
            clear hs
            go_wp2_with fail
            refine (LV.out _).mono ?_
            rintro e w9 ⟨rfl, t⟩
            have TZ := Lib.hid (T.out.trans t (by simp))
            clear t
            go_wp2_with fail
            go_ret
            exact ⟨rfl, TZ.out.below (by simp) (Nat.le_refl _)⟩
          · have d2 : decide (1099511627776 < x0) = false := by simpa using g2
            have HS := Lib.hid hs
            clear hs
            go_wp2_with fail
            go_round
            case rel =>
              refine ⟨1, by omega, by go_num, fun j hj => ?_⟩
              rcases (show j = 0 ∨ j < 0 by omega) with rfl | hj'
              · unfold at3 small; simp; omega
              · exact HS.out j hj'
            case measure => simp [intOf]
      · have hix : ∀ w : World, (Instr.index 58 (.agg #[.int .i64 x0, .int .i64 x1, .int .i64 x2]) (.int .i64 1)).run Try.prog w = .ok (.int .i64 x1) w := fun w => by kernel_rfl
        by_cases g1 : x1 < 0
        · have d1 : decide (x1 < 0) = true := by simpa using g1
          clear hs
          go_wp2_with fail
          refine (LV.out _).mono ?_
          rintro e w9 ⟨rfl, t⟩
          have TZ := Lib.hid (T.out.trans t (by simp))
          clear t
          go_wp2_with fail
          go_ret
          exact ⟨rfl, TZ.out.below (by simp) (Nat.le_refl _)⟩
        · have d1 : decide (x1 < 0) = false := by simpa using g1
          by_cases g2 : 1099511627776 < x1
          · have d2 : decide (1099511627776 < x1) = true := by simpa using g2
            clear hs
            go_wp2_with fail
            refine (LV.out _).mono ?_
            rintro e w9 ⟨rfl, t⟩
            have TZ := Lib.hid (T.out.trans t (by simp))
            clear t
            go_wp2_with fail
            go_ret
            exact ⟨rfl, TZ.out.below (by simp) (Nat.le_refl _)⟩
          · have d2 : decide (1099511627776 < x1) = false := by simpa using g2
            have HS := Lib.hid hs
            clear hs
            go_wp2_with fail
            go_round
            case rel =>
              refine ⟨2, by omega, by go_num, fun j hj => ?_⟩
              rcases (show j = 1 ∨ j < 1 by omega) with rfl | hj'
              · unfold at3 small; simp; omega
              · exact HS.out j hj'
            case measure => simp [intOf]
      · have hix : ∀ w : World, (Instr.index 58 (.agg #[.int .i64 x0, .int .i64 x1, .int .i64 x2]) (.int .i64 2)).run Try.prog w = .ok (.int .i64 x2) w := fun w => by kernel_rfl
        by_cases g1 : x2 < 0
        · have d1 : decide (x2 < 0) = true := by simpa using g1
          clear hs
          go_wp2_with fail
          refine (LV.out _).mono ?_
          rintro e w9 ⟨rfl, t⟩
          have TZ := Lib.hid (T.out.trans t (by simp))
          clear t
          go_wp2_with fail
          go_ret
          exact ⟨rfl, TZ.out.below (by simp) (Nat.le_refl _)⟩
        · have d1 : decide (x2 < 0) = false := by simpa using g1
          by_cases g2 : 1099511627776 < x2
          · have d2 : decide (1099511627776 < x2) = true := by simpa using g2
            clear hs
            go_wp2_with fail
            refine (LV.out _).mono ?_
            rintro e w9 ⟨rfl, t⟩
            have TZ := Lib.hid (T.out.trans t (by simp))
            clear t
            go_wp2_with fail
            go_ret
            exact ⟨rfl, TZ.out.below (by simp) (Nat.le_refl _)⟩
          · have d2 : decide (1099511627776 < x2) = false := by simpa using g2
            have HS := Lib.hid hs
            clear hs
            go_wp2_with fail
            go_round
            case rel =>
              refine ⟨3, by omega, by go_num, fun j hj => ?_⟩
              rcases (show j = 2 ∨ j < 2 by omega) with rfl | hj'
              · unfold at3 small; simp; omega
              · exact HS.out j hj'
            case measure => simp [intOf]
    · obtain rfl : k = 3 := by omega
      have s0 : small x0 := hs 0 (by omega)
      have s1 : small x1 := hs 1 (by omega)
      have s2 : small x2 := hs 2 (by omega)
      clear hs hlt hk
      by_cases hr : rightV c = 0
      · by_cases g1 : late < 0
        · have d1 : decide (late < 0) = true := by simpa using g1
          rw [hr] at R
          clear s0 s1 s2
          have k0 := X0.out.cell 0
          have k1 := X0.out.cell 1
          have k2 := X0.out.cell 2
          have k3 := X0.out.cell 3
          have k4 := X0.out.cell 4
          have k5 := X0.out.cell 5
          have k6 := X0.out.cell 6
          have k7 := X0.out.cell 7
          have k8 := X0.out.cell 8
          have k9 := X0.out.cell 9
          have k10 := X0.out.cell 10
          have ltk := X0.out.lt
          go_wp2_with fail
          refine (R.out _).mono ?_
          rintro e w2 ⟨rfl, t⟩
          have T2 := Lib.hid (T.out.trans t (by simp))
          have XC := Lib.hid (X0.out.carry t (by simp))
          have XA := Lib.hid (X1.out.carry t (by simp))
          clear t ltk k0 k1 k2 k3 k4 k5 k6 k7 k8 k9 k10
          go_wp2_with fail
          refine (LV.out _).mono ?_
          rintro e w9 ⟨rfl, t⟩
          have TZ := Lib.hid (T2.out.trans t (by simp))
          clear t
          go_wp2_with fail
          go_ret
          exact ⟨rfl, TZ.out.below (by simp) (Nat.le_refl _)⟩
        by_cases g2 : 1099511627776 < late
        · have d1 : decide (late < 0) = false := by simpa using g1
          have d2 : decide (1099511627776 < late) = true := by simpa using g2
          rw [hr] at R
          clear s0 s1 s2
          have k0 := X0.out.cell 0
          have k1 := X0.out.cell 1
          have k2 := X0.out.cell 2
          have k3 := X0.out.cell 3
          have k4 := X0.out.cell 4
          have k5 := X0.out.cell 5
          have k6 := X0.out.cell 6
          have k7 := X0.out.cell 7
          have k8 := X0.out.cell 8
          have k9 := X0.out.cell 9
          have k10 := X0.out.cell 10
          have ltk := X0.out.lt
          go_wp2_with fail
          refine (R.out _).mono ?_
          rintro e w2 ⟨rfl, t⟩
          have T2 := Lib.hid (T.out.trans t (by simp))
          have XC := Lib.hid (X0.out.carry t (by simp))
          have XA := Lib.hid (X1.out.carry t (by simp))
          clear t ltk k0 k1 k2 k3 k4 k5 k6 k7 k8 k9 k10
          go_wp2_with fail
          refine (LV.out _).mono ?_
          rintro e w9 ⟨rfl, t⟩
          have TZ := Lib.hid (T2.out.trans t (by simp))
          clear t
          go_wp2_with fail
          go_ret
          exact ⟨rfl, TZ.out.below (by simp) (Nat.le_refl _)⟩
        have d1 : decide (late < 0) = false := by simpa using g1
        have d2 : decide (1099511627776 < late) = false := by simpa using g2
        obtain ⟨s, es, el, em, eM, ez, en⟩ := first_sent hr s0 s1 s2
        have hz := right_zero hr
        have NW := Lib.hid (fun w => idleNew c h64 x0 w)
        have SE := Lib.hid (fun w => idleSent c h64 (newV c x0) x1 (x0 + x2) w)
        rw [es] at SE
        clear es
        have OV := Lib.hid (fun w => idleOver s s.last w)
        unfold small at s0 s1 s2
        obtain ⟨p0, p0'⟩ := s0
        obtain ⟨p1, p1'⟩ := s1
        obtain ⟨p2, p2'⟩ := s2
        have hadd : -9223372036854775808 ≤ x0 + x2 ∧ x0 + x2 ≤ 9223372036854775807 := by omega
        have c1 : decide (s.avg < c.minIdle) = false := by simp; omega
        have c2 : decide (c.maxIdle < s.avg) = false := by simp; omega
        have EL := Lib.hid el
        by_cases hneg : s.avg < 0
        · obtain ⟨q1, q2⟩ := en hneg
          have hw := awayV_bd (avg := s.avg) (k := c.weight.toNat) (by omega) (by omega) (by omega)
          obtain ⟨t, et, tl, tp, tz, tu⟩ := next_sent (s := s) (x1 := x1) (d := late) hr (by omega) (by omega) em hneg (by omega) (by omega)
          obtain ⟨u, eu, ul, up, uu, uz⟩ := next_sent (s := s) (x1 := x1) (d := -1) hr (by omega) (by omega) em hneg (by omega) (by omega)
          have SN := Lib.hid (fun w => idleSent c h64 s x1 (s.till + late) w)
          have SU := Lib.hid (fun w => idleSent c h64 s x1 (s.till - 1) w)
          rw [et] at SN
          rw [Int.sub_eq_add_neg, eu] at SU
          have OT := Lib.hid (fun w => idleOver t t.last w)
          obtain ⟨tz1, tz2⟩ := tz (by omega)
          obtain ⟨uz1, uz2⟩ := uz rfl
          have ot : overV t t.last = false := by unfold overV; simp; omega
          have ov : overV s s.last = true := by unfold overV; simp; omega
          rw [ov] at OV
          rw [ot] at OT
          have c3 : decide (s.avg < 0) = true := by simpa using hneg
          have c4 : decide (0 ≤ s.avg) = false := by simp; omega
          have c5 : decide (0 < s.till) = true := by simp; omega
          have e1 : decide (t.avg < 0) = false := by simp; omega
          have e2 : decide (u.avg < 0) = true := by simp; omega
          have e3 : decide (0 < u.till) = true := by simp; omega
          have hb1 : -9223372036854775808 ≤ s.till + late ∧ s.till + late ≤ 9223372036854775807 := by omega
          have hb2 : -9223372036854775808 ≤ s.till - 1 ∧ s.till - 1 ≤ 9223372036854775807 := by omega
          rw [← Int.sub_eq_add_neg] at SU
          generalize newV c x0 = r0 at *
          unfold Cl.cells St.cells at *
          rw [hr] at R
          clear ov ot ez en hneg g1 g2 hz el q1 q2 hw et eu tl tp tz1 tz2 uz1 uz2 uz tz em eM hr h64 tu ul up uu
          have k0 := X0.out.cell 0
          have k1 := X0.out.cell 1
          have k2 := X0.out.cell 2
          have k3 := X0.out.cell 3
          have k4 := X0.out.cell 4
          have k5 := X0.out.cell 5
          have k6 := X0.out.cell 6
          have k7 := X0.out.cell 7
          have k8 := X0.out.cell 8
          have k9 := X0.out.cell 9
          have k10 := X0.out.cell 10
          have ltk := X0.out.lt
          go_wp2_with fail
          refine (R.out _).mono ?_
          rintro e w2 ⟨rfl, t⟩
          have T2 := Lib.hid (T.out.trans t (by simp))
          have XC := Lib.hid (X0.out.carry t (by simp))
          have XA := Lib.hid (X1.out.carry t (by simp))
          clear t ltk k0 k1 k2 k3 k4 k5 k6 k7 k8 k9 k10
          go_upto_region 9 with fail
          refine wp_region_fresh1 (wd := w2) 13 9 41 #[.int .i64 0, .int .i64 0, .int .i64 0] ?aF (by kernel_rfl) (by kernel_rfl) ((Touch.refl _ _).drew) ⟨_, rfl, rfl, fun a w => rfl⟩ ?hwalk ?hend
          case hwalk =>
            intro wd ht
            simp only [List.take_succ_cons, List.take_zero]
            have k0 : ∀ x : Cls wd, x.val.cell? ⟨w.heap.size, 0, none⟩ = some (.int .i64 c.id) := fun x => ((XC.out.carry ht (by simp)).carry x.property (by simp)).cell 0
            have k1 : ∀ x : Cls wd, x.val.cell? ⟨w.heap.size, 1, none⟩ = some (.int .i64 c.parent) := fun x => ((XC.out.carry ht (by simp)).carry x.property (by simp)).cell 1
            have k2 : ∀ x : Cls wd, x.val.cell? ⟨w.heap.size, 2, none⟩ = some (.float .f64 c.share) := fun x => ((XC.out.carry ht (by simp)).carry x.property (by simp)).cell 2
            have k3 : ∀ x : Cls wd, x.val.cell? ⟨w.heap.size, 3, none⟩ = some (.int .i64 c.prio) := fun x => ((XC.out.carry ht (by simp)).carry x.property (by simp)).cell 3
            have k4 : ∀ x : Cls wd, x.val.cell? ⟨w.heap.size, 4, none⟩ = some (.int .i64 c.quantum) := fun x => ((XC.out.carry ht (by simp)).carry x.property (by simp)).cell 4
            have k5 : ∀ x : Cls wd, x.val.cell? ⟨w.heap.size, 5, none⟩ = some (.int .i64 c.limit) := fun x => ((XC.out.carry ht (by simp)).carry x.property (by simp)).cell 5
            have k6 : ∀ x : Cls wd, x.val.cell? ⟨w.heap.size, 6, none⟩ = some (.int .i64 c.weight) := fun x => ((XC.out.carry ht (by simp)).carry x.property (by simp)).cell 6
            have k7 : ∀ x : Cls wd, x.val.cell? ⟨w.heap.size, 7, none⟩ = some (.int .i64 c.minIdle) := fun x => ((XC.out.carry ht (by simp)).carry x.property (by simp)).cell 7
            have k8 : ∀ x : Cls wd, x.val.cell? ⟨w.heap.size, 8, none⟩ = some (.int .i64 c.maxIdle) := fun x => ((XC.out.carry ht (by simp)).carry x.property (by simp)).cell 8
            have k9 : ∀ x : Cls wd, x.val.cell? ⟨w.heap.size, 9, none⟩ = some (.bool c.bounded) := fun x => ((XC.out.carry ht (by simp)).carry x.property (by simp)).cell 9
            have k10 : ∀ x : Cls wd, x.val.cell? ⟨w.heap.size, 10, none⟩ = some (.bool c.isolated) := fun x => ((XC.out.carry ht (by simp)).carry x.property (by simp)).cell 10
            have i0 : ∀ x : Cls wd, x.val.cell? ⟨w.heap.size + 1, 0, none⟩ = some (.int .i64 x0) := fun x => ((XA.out.carry ht (by simp)).carry x.property (by simp)).cell 0
            have i1 : ∀ x : Cls wd, x.val.cell? ⟨w.heap.size + 1, 1, none⟩ = some (.int .i64 x1) := fun x => ((XA.out.carry ht (by simp)).carry x.property (by simp)).cell 1
            have i2 : ∀ x : Cls wd, x.val.cell? ⟨w.heap.size + 1, 2, none⟩ = some (.int .i64 x2) := fun x => ((XA.out.carry ht (by simp)).carry x.property (by simp)).cell 2
            repeat (first | go_big_quiet_step ((first | (go_at_call 24; exact Calls.cls_at (NW.out _)) | (go_at_call 22; exact Calls.cls_at (SE.out _)))) | quiet_step ((first | (go_at_call 24; exact Calls.cls_at (NW.out _)) | (go_at_call 22; exact Calls.cls_at (SE.out _)))))
            refine wpQuiet_nil ?_
            rfl
          case hend =>
            intro b w3 t3 y ly
            have YC := Lib.hid (XC.out.carry t3 (by simp))
            have YA := Lib.hid (XA.out.carry t3 (by simp))
            have nb : w.heap.size ∉ [b] := by have := XC.out.lt; simp; omega
            have na : w.heap.size + 1 ∉ [b] := by have := XA.out.lt; simp; omega
            have T3 := Lib.hid (T2.out.trans t3 (by simp))
            have LB := Lib.hid (Nat.le_trans T2.out.size ly)
            have fz := y.fr
            have y0 := y.cell 0
            have y1 := y.cell 1
            have y2 := y.cell 2
            have lty := y.lt
            have Y := Lib.hid y
            clear y t3 ly
            simp only [List.drop_succ_cons, List.drop_zero]
            go_upto_region 10 with fail
            have ZS : BoxV _ b 41 #[.int .i64 s.last, .int .i64 s.avg, .int .i64 s.till] := ((Y.out.set 0 (.int .i64 s.last)).set 1 (.int .i64 s.avg)).set 2 (.int .i64 s.till)
            have TB := ((Touch.refl [b] w3).setCell (a := ⟨b, 0, none⟩) (by simp) (.int .i64 s.last)).setCell (a := ⟨b, 1, none⟩) (by simp) (.int .i64 s.avg) |>.setCell (a := ⟨b, 2, none⟩) (by simp) (.int .i64 s.till)
            have ZC := Lib.hid (YC.out.carry TB nb)
            have ZA := Lib.hid (YA.out.carry TB na)
            have TZ := Lib.hid (T3.out.trans TB (by have := LB.out; intro q hq; right; simp at hq; omega))
            have ZS := Lib.hid ZS
            clear fz y0 y1 y2 lty TB nb na
            generalize ((w3.setCell ⟨b, 0, none⟩ (.int .i64 s.last)).setCell ⟨b, 1, none⟩ (.int .i64 s.avg)).setCell ⟨b, 2, none⟩ (.int .i64 s.till) = w4 at *
            have k0 : ∀ x : Cls w4, x.val.cell? ⟨w.heap.size, 0, none⟩ = some (.int .i64 c.id) := fun x => (ZC.out.carry x.property (by simp)).cell 0
            have k1 : ∀ x : Cls w4, x.val.cell? ⟨w.heap.size, 1, none⟩ = some (.int .i64 c.parent) := fun x => (ZC.out.carry x.property (by simp)).cell 1
            have k2 : ∀ x : Cls w4, x.val.cell? ⟨w.heap.size, 2, none⟩ = some (.float .f64 c.share) := fun x => (ZC.out.carry x.property (by simp)).cell 2
            have k3 : ∀ x : Cls w4, x.val.cell? ⟨w.heap.size, 3, none⟩ = some (.int .i64 c.prio) := fun x => (ZC.out.carry x.property (by simp)).cell 3
            have k4 : ∀ x : Cls w4, x.val.cell? ⟨w.heap.size, 4, none⟩ = some (.int .i64 c.quantum) := fun x => (ZC.out.carry x.property (by simp)).cell 4
            have k5 : ∀ x : Cls w4, x.val.cell? ⟨w.heap.size, 5, none⟩ = some (.int .i64 c.limit) := fun x => (ZC.out.carry x.property (by simp)).cell 5
            have k6 : ∀ x : Cls w4, x.val.cell? ⟨w.heap.size, 6, none⟩ = some (.int .i64 c.weight) := fun x => (ZC.out.carry x.property (by simp)).cell 6
            have k7 : ∀ x : Cls w4, x.val.cell? ⟨w.heap.size, 7, none⟩ = some (.int .i64 c.minIdle) := fun x => (ZC.out.carry x.property (by simp)).cell 7
            have k8 : ∀ x : Cls w4, x.val.cell? ⟨w.heap.size, 8, none⟩ = some (.int .i64 c.maxIdle) := fun x => (ZC.out.carry x.property (by simp)).cell 8
            have k9 : ∀ x : Cls w4, x.val.cell? ⟨w.heap.size, 9, none⟩ = some (.bool c.bounded) := fun x => (ZC.out.carry x.property (by simp)).cell 9
            have k10 : ∀ x : Cls w4, x.val.cell? ⟨w.heap.size, 10, none⟩ = some (.bool c.isolated) := fun x => (ZC.out.carry x.property (by simp)).cell 10
            have v0 : ∀ x : Cls w4, x.val.cell? ⟨b, 0, none⟩ = some (.int .i64 s.last) := fun x => (ZS.out.carry x.property (by simp)).cell 0
            have v1 : ∀ x : Cls w4, x.val.cell? ⟨b, 1, none⟩ = some (.int .i64 s.avg) := fun x => (ZS.out.carry x.property (by simp)).cell 1
            have v2 : ∀ x : Cls w4, x.val.cell? ⟨b, 2, none⟩ = some (.int .i64 s.till) := fun x => (ZS.out.carry x.property (by simp)).cell 2
            refine wp_region_cls (wd := w4) (by kernel_rfl) (by kernel_rfl) ((Touch.refl _ _).drew) ?_
            repeat (first | go_big_quiet_step ((first | (go_at_call 28; exact Calls.cls_at (OV.out _)))) | quiet_step ((first | (go_at_call 28; exact Calls.cls_at (OV.out _)))))
            refine wpQuiet_nil ?_
            rintro _ ⟨q, rfl⟩
            clear v0 v1 v2 k0 k1 k2 k3 k4 k5 k6 k7 k8 k9 k10
            have TQ := Lib.hid (TZ.out.trans q.property (by simp))
            have QS := Lib.hid (ZS.out.carry q.property (by simp))
            have QC := Lib.hid (ZC.out.carry q.property (by simp))
            have QA := Lib.hid (ZA.out.carry q.property (by simp))
            clear ZS ZC ZA TZ
            generalize q.val = w5 at *
            have k0 := QC.out.cell 0
            have k1 := QC.out.cell 1
            have k2 := QC.out.cell 2
            have k3 := QC.out.cell 3
            have k4 := QC.out.cell 4
            have k5 := QC.out.cell 5
            have k6 := QC.out.cell 6
            have k7 := QC.out.cell 7
            have k8 := QC.out.cell 8
            have k9 := QC.out.cell 9
            have k10 := QC.out.cell 10
            have v0 := QS.out.cell 0
            have v1 := QS.out.cell 1
            have v2 := QS.out.cell 2
            have a1 := QA.out.cell 1
            have ltc := QC.out.lt
            have lts := QS.out.lt
            have lta := QA.out.lt
            go_wp2_with fail
            refine (SN.out _).mono ?_
            rintro e w6 ⟨rfl, t6⟩
            clear v0 v1 v2 k0 k1 k2 k3 k4 k5 k6 k7 k8 k9 k10 a1 ltc lts lta
            have TR := Lib.hid ((TQ.out.trans t6 (by simp)).alloc (.cells #[.int .i64 t.last, .int .i64 t.avg, .int .i64 t.till] 41))
            have RS := Lib.hid (QS.out.carry (t6.alloc (.cells #[.int .i64 t.last, .int .i64 t.avg, .int .i64 t.till] 41)) (by simp))
            have RC := Lib.hid (QC.out.carry (t6.alloc (.cells #[.int .i64 t.last, .int .i64 t.avg, .int .i64 t.till] 41)) (by simp))
            have RA := Lib.hid (QA.out.carry (t6.alloc (.cells #[.int .i64 t.last, .int .i64 t.avg, .int .i64 t.till] 41)) (by simp))
            clear t6 QS QC QA TQ
            go_wp2_with fail
            refine (OT.out _).mono ?_
            rintro e w7 ⟨rfl, t7⟩
            have TU := Lib.hid (TR.out.trans t7 (by simp))
            have US := RS.out.carry t7 (by simp)
            have UC := RC.out.carry t7 (by simp)
            have UA := RA.out.carry t7 (by simp)
            have k0 := UC.cell 0
            have k1 := UC.cell 1
            have k2 := UC.cell 2
            have k3 := UC.cell 3
            have k4 := UC.cell 4
            have k5 := UC.cell 5
            have k6 := UC.cell 6
            have k7 := UC.cell 7
            have k8 := UC.cell 8
            have k9 := UC.cell 9
            have k10 := UC.cell 10
            have v0 := US.cell 0
            have v1 := US.cell 1
            have v2 := US.cell 2
            have a1 := UA.cell 1
            have ltc := UC.lt
            have lts := US.lt
            have lta := UA.lt
            clear t7 RS RC RA TR UC US UA
            go_wp2_with fail
            refine (SU.out _).mono ?_
            rintro e w8 ⟨rfl, t8⟩
            clear v0 v1 v2 k0 k1 k2 k3 k4 k5 k6 k7 k8 k9 k10 a1 ltc lts lta
            have TV := Lib.hid ((TU.out.trans t8 (by simp)).alloc (.cells #[.int .i64 u.last, .int .i64 u.avg, .int .i64 u.till] 41))
            clear t8 TU
            go_wp2_with fail
            refine (LV.out _).mono ?_
            rintro e w9 ⟨rfl, t⟩
            have TZ := Lib.hid (TV.out.trans t (by simp))
            clear t
            go_wp2_with fail
            go_ret
            exact ⟨rfl, TZ.out.below (by simp) (Nat.le_refl _)⟩
        · have ht0 : s.till = 0 := ez (by omega)
          have c3 : decide (s.avg < 0) = false := by simpa using hneg
          have c4 : decide (0 ≤ s.avg) = true := by simp; omega
          have ov : overV s s.last = false := by unfold overV; simp; omega
          rw [ov] at OV
          generalize newV c x0 = r0 at *
          unfold Cl.cells St.cells at *
          rw [ht0] at SE OV
          rw [hr] at R
          clear ov ez en hneg g1 g2 hz el ht0
          have k0 := X0.out.cell 0
          have k1 := X0.out.cell 1
          have k2 := X0.out.cell 2
          have k3 := X0.out.cell 3
          have k4 := X0.out.cell 4
          have k5 := X0.out.cell 5
          have k6 := X0.out.cell 6
          have k7 := X0.out.cell 7
          have k8 := X0.out.cell 8
          have k9 := X0.out.cell 9
          have k10 := X0.out.cell 10
          have ltk := X0.out.lt
          go_wp2_with fail
          refine (R.out _).mono ?_
          rintro e w2 ⟨rfl, t⟩
          have T2 := Lib.hid (T.out.trans t (by simp))
          have XC := Lib.hid (X0.out.carry t (by simp))
          have XA := Lib.hid (X1.out.carry t (by simp))
          clear t ltk k0 k1 k2 k3 k4 k5 k6 k7 k8 k9 k10
          go_upto_region 9 with fail
          refine wp_region_fresh1 (wd := w2) 13 9 41 #[.int .i64 0, .int .i64 0, .int .i64 0] ?aF2 (by kernel_rfl) (by kernel_rfl) ((Touch.refl _ _).drew) ⟨_, rfl, rfl, fun a w => rfl⟩ ?hwalk2 ?hend2
          case hwalk2 =>
            intro wd ht
            simp only [List.take_succ_cons, List.take_zero]
            have k0 : ∀ x : Cls wd, x.val.cell? ⟨w.heap.size, 0, none⟩ = some (.int .i64 c.id) := fun x => ((XC.out.carry ht (by simp)).carry x.property (by simp)).cell 0
            have k1 : ∀ x : Cls wd, x.val.cell? ⟨w.heap.size, 1, none⟩ = some (.int .i64 c.parent) := fun x => ((XC.out.carry ht (by simp)).carry x.property (by simp)).cell 1
            have k2 : ∀ x : Cls wd, x.val.cell? ⟨w.heap.size, 2, none⟩ = some (.float .f64 c.share) := fun x => ((XC.out.carry ht (by simp)).carry x.property (by simp)).cell 2
            have k3 : ∀ x : Cls wd, x.val.cell? ⟨w.heap.size, 3, none⟩ = some (.int .i64 c.prio) := fun x => ((XC.out.carry ht (by simp)).carry x.property (by simp)).cell 3
            have k4 : ∀ x : Cls wd, x.val.cell? ⟨w.heap.size, 4, none⟩ = some (.int .i64 c.quantum) := fun x => ((XC.out.carry ht (by simp)).carry x.property (by simp)).cell 4
            have k5 : ∀ x : Cls wd, x.val.cell? ⟨w.heap.size, 5, none⟩ = some (.int .i64 c.limit) := fun x => ((XC.out.carry ht (by simp)).carry x.property (by simp)).cell 5
            have k6 : ∀ x : Cls wd, x.val.cell? ⟨w.heap.size, 6, none⟩ = some (.int .i64 c.weight) := fun x => ((XC.out.carry ht (by simp)).carry x.property (by simp)).cell 6
            have k7 : ∀ x : Cls wd, x.val.cell? ⟨w.heap.size, 7, none⟩ = some (.int .i64 c.minIdle) := fun x => ((XC.out.carry ht (by simp)).carry x.property (by simp)).cell 7
            have k8 : ∀ x : Cls wd, x.val.cell? ⟨w.heap.size, 8, none⟩ = some (.int .i64 c.maxIdle) := fun x => ((XC.out.carry ht (by simp)).carry x.property (by simp)).cell 8
            have k9 : ∀ x : Cls wd, x.val.cell? ⟨w.heap.size, 9, none⟩ = some (.bool c.bounded) := fun x => ((XC.out.carry ht (by simp)).carry x.property (by simp)).cell 9
            have k10 : ∀ x : Cls wd, x.val.cell? ⟨w.heap.size, 10, none⟩ = some (.bool c.isolated) := fun x => ((XC.out.carry ht (by simp)).carry x.property (by simp)).cell 10
            have i0 : ∀ x : Cls wd, x.val.cell? ⟨w.heap.size + 1, 0, none⟩ = some (.int .i64 x0) := fun x => ((XA.out.carry ht (by simp)).carry x.property (by simp)).cell 0
            have i1 : ∀ x : Cls wd, x.val.cell? ⟨w.heap.size + 1, 1, none⟩ = some (.int .i64 x1) := fun x => ((XA.out.carry ht (by simp)).carry x.property (by simp)).cell 1
            have i2 : ∀ x : Cls wd, x.val.cell? ⟨w.heap.size + 1, 2, none⟩ = some (.int .i64 x2) := fun x => ((XA.out.carry ht (by simp)).carry x.property (by simp)).cell 2
            repeat (first | go_big_quiet_step ((first | (go_at_call 24; exact Calls.cls_at (NW.out _)) | (go_at_call 22; exact Calls.cls_at (SE.out _)))) | quiet_step ((first | (go_at_call 24; exact Calls.cls_at (NW.out _)) | (go_at_call 22; exact Calls.cls_at (SE.out _)))))
            refine wpQuiet_nil ?_
            rfl
          case hend2 =>
            intro b w3 t3 y ly
            have YC := Lib.hid (XC.out.carry t3 (by simp))
            have YA := Lib.hid (XA.out.carry t3 (by simp))
            have nb : w.heap.size ∉ [b] := by have := XC.out.lt; simp; omega
            have T3 := Lib.hid (T2.out.trans t3 (by simp))
            have LB := Lib.hid (Nat.le_trans T2.out.size ly)
            have fz := y.fr
            have y0 := y.cell 0
            have y1 := y.cell 1
            have y2 := y.cell 2
            have lty := y.lt
            have Y := Lib.hid y
            clear y t3 ly
            simp only [List.drop_succ_cons, List.drop_zero]
            go_upto_region 10 with fail
            have ZS : BoxV _ b 41 #[.int .i64 s.last, .int .i64 s.avg, .int .i64 0] := ((Y.out.set 0 (.int .i64 s.last)).set 1 (.int .i64 s.avg)).set 2 (.int .i64 0)
            have TB := ((Touch.refl [b] w3).setCell (a := ⟨b, 0, none⟩) (by simp) (.int .i64 s.last)).setCell (a := ⟨b, 1, none⟩) (by simp) (.int .i64 s.avg) |>.setCell (a := ⟨b, 2, none⟩) (by simp) (.int .i64 0)
            have ZC := Lib.hid (YC.out.carry TB nb)
            have TZ := Lib.hid (T3.out.trans TB (by have := LB.out; intro q hq; right; simp at hq; omega))
            have ZS := Lib.hid ZS
            clear fz y0 y1 y2 lty TB nb
            generalize ((w3.setCell ⟨b, 0, none⟩ (.int .i64 s.last)).setCell ⟨b, 1, none⟩ (.int .i64 s.avg)).setCell ⟨b, 2, none⟩ (.int .i64 0) = w4 at *
            have k0 : ∀ x : Cls w4, x.val.cell? ⟨w.heap.size, 0, none⟩ = some (.int .i64 c.id) := fun x => (ZC.out.carry x.property (by simp)).cell 0
            have k1 : ∀ x : Cls w4, x.val.cell? ⟨w.heap.size, 1, none⟩ = some (.int .i64 c.parent) := fun x => (ZC.out.carry x.property (by simp)).cell 1
            have k2 : ∀ x : Cls w4, x.val.cell? ⟨w.heap.size, 2, none⟩ = some (.float .f64 c.share) := fun x => (ZC.out.carry x.property (by simp)).cell 2
            have k3 : ∀ x : Cls w4, x.val.cell? ⟨w.heap.size, 3, none⟩ = some (.int .i64 c.prio) := fun x => (ZC.out.carry x.property (by simp)).cell 3
            have k4 : ∀ x : Cls w4, x.val.cell? ⟨w.heap.size, 4, none⟩ = some (.int .i64 c.quantum) := fun x => (ZC.out.carry x.property (by simp)).cell 4
            have k5 : ∀ x : Cls w4, x.val.cell? ⟨w.heap.size, 5, none⟩ = some (.int .i64 c.limit) := fun x => (ZC.out.carry x.property (by simp)).cell 5
            have k6 : ∀ x : Cls w4, x.val.cell? ⟨w.heap.size, 6, none⟩ = some (.int .i64 c.weight) := fun x => (ZC.out.carry x.property (by simp)).cell 6
            have k7 : ∀ x : Cls w4, x.val.cell? ⟨w.heap.size, 7, none⟩ = some (.int .i64 c.minIdle) := fun x => (ZC.out.carry x.property (by simp)).cell 7
            have k8 : ∀ x : Cls w4, x.val.cell? ⟨w.heap.size, 8, none⟩ = some (.int .i64 c.maxIdle) := fun x => (ZC.out.carry x.property (by simp)).cell 8
            have k9 : ∀ x : Cls w4, x.val.cell? ⟨w.heap.size, 9, none⟩ = some (.bool c.bounded) := fun x => (ZC.out.carry x.property (by simp)).cell 9
            have k10 : ∀ x : Cls w4, x.val.cell? ⟨w.heap.size, 10, none⟩ = some (.bool c.isolated) := fun x => (ZC.out.carry x.property (by simp)).cell 10
            have v0 : ∀ x : Cls w4, x.val.cell? ⟨b, 0, none⟩ = some (.int .i64 s.last) := fun x => (ZS.out.carry x.property (by simp)).cell 0
            have v1 : ∀ x : Cls w4, x.val.cell? ⟨b, 1, none⟩ = some (.int .i64 s.avg) := fun x => (ZS.out.carry x.property (by simp)).cell 1
            have v2 : ∀ x : Cls w4, x.val.cell? ⟨b, 2, none⟩ = some (.int .i64 0) := fun x => (ZS.out.carry x.property (by simp)).cell 2
            refine wp_region_cls (wd := w4) (by kernel_rfl) (by kernel_rfl) ((Touch.refl _ _).drew) ?_
            repeat (first | go_big_quiet_step ((first | (go_at_call 28; exact Calls.cls_at (OV.out _)))) | quiet_step ((first | (go_at_call 28; exact Calls.cls_at (OV.out _)))))
            refine wpQuiet_nil ?_
            rintro _ ⟨q, rfl⟩
            have v1' := v1 q
            have v2' := v2 q
            have ltb := (ZS.out.carry q.property (by simp)).lt
            have TQ := Lib.hid (TZ.out.trans q.property (by simp))
            clear v0 v1 v2 k0 k1 k2 k3 k4 k5 k6 k7 k8 k9 k10
            go_wp2_with fail
            refine (LV.out _).mono ?_
            rintro e w9 ⟨rfl, t⟩
            have TZ := Lib.hid (TQ.out.trans t (by simp))
            clear t
            go_wp2_with fail
            go_ret
            exact ⟨rfl, TZ.out.below (by simp) (Nat.le_refl _)⟩
      · have d1 : (rightV c != 0) = true := by simpa using hr
        generalize rightV c = rv at *
        clear s0 s1 s2
        have k0 := X0.out.cell 0
        have k1 := X0.out.cell 1
        have k2 := X0.out.cell 2
        have k3 := X0.out.cell 3
        have k4 := X0.out.cell 4
        have k5 := X0.out.cell 5
        have k6 := X0.out.cell 6
        have k7 := X0.out.cell 7
        have k8 := X0.out.cell 8
        have k9 := X0.out.cell 9
        have k10 := X0.out.cell 10
        have ltk := X0.out.lt
        go_wp2_with fail
        refine (R.out _).mono ?_
        rintro e w2 ⟨rfl, t⟩
        have T2 := Lib.hid (T.out.trans t (by simp))
        have XC := Lib.hid (X0.out.carry t (by simp))
        have XA := Lib.hid (X1.out.carry t (by simp))
        clear t ltk k0 k1 k2 k3 k4 k5 k6 k7 k8 k9 k10
        go_wp2_with fail
        refine (LV.out _).mono ?_
        rintro e w9 ⟨rfl, t⟩
        have TZ := Lib.hid (T2.out.trans t (by simp))
        clear t
        go_wp2_with fail
        go_ret
        exact ⟨rfl, TZ.out.below (by simp) (Nat.le_refl _)⟩

set_option maxRecDepth 100000 in
theorem idleWaits_calls : LawCalls Try.prog 7 Try.f7 := by
  intro H enc W base args ds p hval hA hlt
  rw [Try.params7] at hA hval
  obtain ⟨v0, vs0, d0, ds0, p0, q0, hargs, rfl, rfl, h0, r0⟩ := trodAll_cons hA
  obtain ⟨v1, vs1, d1, ds1, p1, q1, rfl, rfl, rfl, h1, r1⟩ := trodAll_cons r0
  obtain ⟨v2, vs2, d2, ds2, p2, q2, rfl, rfl, rfl, h2, r2⟩ := trodAll_cons r1
  obtain ⟨rfl, rfl, rfl⟩ := trodAll_nil r2
  obtain rfl : args = #[v0, v1, v2] := by cases args; simp_all
  obtain ⟨c, rfl, hc⟩ := open_class (hval 0 24 v0 rfl rfl) h0
  obtain ⟨cs, rfl, hsz, hi⟩ := open_ints_array Try.underlying58 Try.underlying3 (by kernel_rfl) (hval 1 58 v1 rfl rfl) h1
  obtain ⟨late, rfl, rfl, rfl, wl⟩ := open_int Try.underlying3 (hval 2 3 v2 rfl rfl) h2
  obtain ⟨x0, e0, _⟩ := hi 0 (by omega)
  obtain ⟨x1, e1, _⟩ := hi 1 (by omega)
  obtain ⟨x2, e2, _⟩ := hi 2 (by omega)
  obtain rfl : cs = #[.int .i64 x0, .int .i64 x1, .int .i64 x2] := by
    have hs : cs.size = 3 := hsz.trans (by kernel_rfl)
    obtain ⟨l⟩ := cs
    match l, hs with
    | [a, b, c], _ => simp at e0 e1 e2; rw [e0, e1, e2]
  exact idleWaits_walk c hc.2.2.1 x0 x1 x2 late W

set_option maxRecDepth 100000 in
theorem idleWaits_lifted (os : Os) (started : os.Started) (H : Type) (enc : TypeId × Value → H) :
    ReturnsInHanded {} Try.checked os 7 .any (Rows.idleWaitsSpec.pre6 enc Try.prog Try.f7 Rows.idleWaitsRow.domain false) (Rows.idleWaitsSpec.post enc Try.prog Try.f7 false true false false) := by
  refine returnsInHanded_of_change (C := Try.checked) own started (by kernel_rfl) Try.func7
    (ChangeSpec.witness6 (enc := enc) (C := Try.checked) false ⟨#[], #[.agg #[.int .i64 0, .int .i64 0, .float .f64 0, .int .i64 0, .int .i64 0, .int .i64 0, .int .i64 0, .int .i64 0, .int .i64 0, .bool false, .bool false], .agg #[.int .i64 0, .int .i64 0, .int .i64 0], .int .i64 0], []⟩ 8 (by kernel_rfl) (by kernel_rfl) (by kernel_rfl) (by kernel_rfl)) ?_
  intro W base args ds gs before hval hW _ _
  exact law_contract laidOut (by kernel_rfl) rfl rfl boolType (fun ds h => by match ds, h with | [_, _, _], _ => rfl) idleWaits_calls W base args ds gs before hval hW

theorem idleWaits_holds : Rows.IdleWaitsSaid :=
  OpenClaim.holds_of_wide 7 Try.f7 rfl rfl rfl rfl rfl rfl rfl ⟨rfl, rfl, rfl, rfl, rfl⟩ rfl rfl rfl rfl rfl (by kernel_rfl) Try.func7 (by kernel_rfl)
    (of_decide_eq_true (by kernel_rfl)) (by unfold Func.isWrapper; first | (rw [if_pos (by decide +kernel)]; kernel_rfl) | (rw [if_neg (by decide +kernel)]; exact ⟨rfl, rfl⟩))
    (fun os started H enc _ => idleWaits_lifted os started H enc)
#print axioms idleWaits_holds
end Go.Proofs.Ytinbicpefhnmnaa
