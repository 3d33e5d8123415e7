/-
  Layer 34 (ledger): stat.
-/
import Derived.Test.YtbppccmkmpgibaaLedger3
import Derived.Test.YtbppccmkmpgibaaFresh2
import Derived.Test.YtbppccmkmpgibaaWhole
namespace Go.Proofs.Ytbppccmkmpgibaa
open Go.ChangeShapes Go.WideShapes Go.ChangeAt Go.RowKit Go.Deep Go.Maps
set_option linter.unusedVariables false
set_option linter.unusedSimpArgs false
def st6 (a b c d e f : Int) : Array Value := #[.int .i64 a, .int .i64 b, .int .i64 c, .int .i64 d, .int .i64 e, .int .i64 f]
/-- What was lost for the first k reasons. -/
def lostTo (B : Bk) : Nat → Int
  | 0 => 0
  | k + 1 => lostTo B k + B (4 + k)
def waitB (B : Bk) : Int := if B 0 - B 2 < 0 then 0 else B 0 - B 2
theorem lostTo_le {B : Bk} (hB : Few B 100000000) : ∀ k, k ≤ 6 → 0 ≤ lostTo B k ∧ lostTo B k ≤ 100000000 * k
  | 0, _ => by unfold lostTo; omega
  | k + 1, h => by
    have := lostTo_le hB k (by omega)
    have := hB (4 + k) (by omega)
    unfold lostTo
    omega
/-- A book's Stat. -/
def statV (B : Bk) : Array Value := st6 (B 0) (B 1) (B 2) (B 3) (lostTo B 6) (waitB B)
theorem st6_all (a b c d e f : Int) : (st6 a b c d e f).all (·.oneCell') = true :=
  all_oneCell_toArray (cs := [.int .i64 a, .int .i64 b, .int .i64 c, .int .i64 d, .int .i64 e, .int .i64 f]) (by intro u hu; simp at hu; rcases hu with rfl | rfl | rfl | rfl | rfl | rfl <;> rfl)
theorem lost_at (B : Bk) {k : Nat} (h : k < 6) (w : World) : (Instr.index 47 (.agg #[.int .i64 (B 4), .int .i64 (B 5), .int .i64 (B 6), .int .i64 (B 7), .int .i64 (B 8), .int .i64 (B 9)]) (.int .i64 (k : Int))).run Try.prog w = .ok (.int .i64 (B (4 + k))) w := by
  rcases (show k = 0 ∨ k = 1 ∨ k = 2 ∨ k = 3 ∨ k = 4 ∨ k = 5 by omega) with rfl | rfl | rfl | rfl | rfl | rfl <;> kernel_rfl
theorem satSub_few {a b : Int} (ha : 0 ≤ a ∧ a ≤ 1000000000) (hb : 0 ≤ b ∧ b ≤ 1000000000) : satSub a b = a - b := by
  unfold satSub
  rw [hold_in (x := a) (by omega) (by omega), hold_in (x := b) (by omega) (by omega), hold_in (by omega) (by omega)]
set_option maxRecDepth 100000 in
set_option maxHeartbeats 16000000 in
theorem stat_any (B : Bk) (hB : Few B 100000000) (w : World) :
    Calls Try.prog 22 #[.agg (bk B)] w fun e w' => e = .returned (.agg (statV B)) ∧ Touch [] w w' := by
  have b0 := hB 0 (by omega)
  have b2 := hB 2 (by omega)
  have S0 := fun w => sub_any' (B 0) (B 2) w
  obtain ⟨v, ev⟩ : ∃ v, v = B 0 - B 2 := ⟨_, rfl⟩
  rw [satSub_few (by omega) (by omega), ← ev] at S0
  have S := Lib.hid (fun w => (S0 w).mono fun e w' h => (⟨h.1, h.2 ▸ Touch.refl [] w⟩ : e = .returned (.int .i64 v) ∧ Touch [] w w'))
  clear S0
  have AD := Lib.hid (fun (a b : Int) (w : World) => add_any' a b w)
  have t1 : Touch [] w ((w.alloc (.cells (bk B) 49)).alloc (.cells (st6 0 0 0 0 0 0) 27)) := ((Touch.refl [] w).alloc _).alloc _
  have X := Lib.hid (show BoxV ((w.alloc (.cells (bk B) 49)).alloc (.cells (st6 0 0 0 0 0 0) 27)) w.heap.size 49 (bk B) from (BoxV.new w 49 (bk B)).carry ((Touch.refl [] _).alloc _) (by simp))
  have hr := BoxV.new (w.alloc (.cells (bk B) 49)) 27 (st6 0 0 0 0 0 0)
  rw [show (w.alloc (.cells (bk B) 49)).heap.size = w.heap.size + 1 by simp] at hr
  have R := Lib.hid hr
  have T := Lib.hid t1
  have HL := Lib.hid (lostTo_le hB)
  have HB := Lib.hid hB
  clear t1 hr hB
  go_enter Try.func22, Try.ntmps22
  unfold bk st6 at *
  go_upto_region 2 with fail
  generalize (w.alloc (.cells #[.int .i64 (B 0), .int .i64 (B 1), .int .i64 (B 2), .int .i64 (B 3), .int .i64 (B 4), .int .i64 (B 5), .int .i64 (B 6), .int .i64 (B 7), .int .i64 (B 8), .int .i64 (B 9)] 49)).alloc (.cells #[.int .i64 0, .int .i64 0, .int .i64 0, .int .i64 0, .int .i64 0, .int .i64 0] 27) = w1 at *
  by_cases hn : 0 < v
  · have wb : waitB B = v := by unfold waitB; rw [← ev, if_neg (by omega)]
    have d : decide (0 < v) = true := by simpa using hn
    clear ev
    refine wp_region_fresh1 (wd := w1) 21 3 27 #[.int .i64 0, .int .i64 0, .int .i64 0, .int .i64 0, .int .i64 0, .int .i64 0] ?aF1 (by kernel_rfl) (by kernel_rfl) ((Touch.refl _ _).drew) ⟨_, rfl, rfl, fun a w => rfl⟩ ?hwalk1 ?hend1
    case hwalk1 =>
      intro wd ht
      simp only [List.take_succ_cons, List.take_zero]
      have k0 : ∀ x : Cls wd, x.val.cell? ⟨w.heap.size, 0, none⟩ = some (.int .i64 (B 0)) := fun x => ((X.out.carry ht (by simp)).carry x.property (by simp)).cell 0
      have k1 : ∀ x : Cls wd, x.val.cell? ⟨w.heap.size, 1, none⟩ = some (.int .i64 (B 1)) := fun x => ((X.out.carry ht (by simp)).carry x.property (by simp)).cell 1
      have k2 : ∀ x : Cls wd, x.val.cell? ⟨w.heap.size, 2, none⟩ = some (.int .i64 (B 2)) := fun x => ((X.out.carry ht (by simp)).carry x.property (by simp)).cell 2
      have k3 : ∀ x : Cls wd, x.val.cell? ⟨w.heap.size, 3, none⟩ = some (.int .i64 (B 3)) := fun x => ((X.out.carry ht (by simp)).carry x.property (by simp)).cell 3
      repeat (first | go_big_quiet_step ((go_at_call 35; with_reducible exact Calls.cls_at (S.out _))) | quiet_step ((go_at_call 35; with_reducible exact Calls.cls_at (S.out _))))
      refine wpQuiet_nil ?_
      rfl
    case hend1 =>
      intro b w2 t2 y ly
      clear hn d b0 b2
      have y0 := y.cell 0
      have y1 := y.cell 1
      have y2 := y.cell 2
      have y3 := y.cell 3
      have y4 := y.cell 4
      have y5 := y.cell 5
      have ly' := y.lt
      have fy := y.fr
      simp only [List.getElem?_toArray, List.getElem?_cons_zero, List.getElem?_cons_succ] at y0 y1 y2 y3 y4 y5
      have a2 : Touch [b] w2 ((((((w2.setCell ⟨b, 0, none⟩ (.int .i64 (B 0))).setCell ⟨b, 1, none⟩ (.int .i64 (B 1))).setCell ⟨b, 2, none⟩ (.int .i64 (B 2))).setCell ⟨b, 3, none⟩ (.int .i64 (B 3))).setCell ⟨b, 4, none⟩ (.int .i64 0)).setCell ⟨b, 5, none⟩ (.int .i64 v)) := (((((((Touch.refl [b] w2).setCell (a := ⟨b, 0, none⟩) (.inl (by simp)) _).setCell (a := ⟨b, 1, none⟩) (.inl (by simp)) _).setCell (a := ⟨b, 2, none⟩) (.inl (by simp)) _).setCell (a := ⟨b, 3, none⟩) (.inl (by simp)) _).setCell (a := ⟨b, 4, none⟩) (.inl (by simp)) _).setCell (a := ⟨b, 5, none⟩) (.inl (by simp)) _)
      have lX := X.out.lt
      have lR := R.out.lt
      have nX : w.heap.size ≠ b := by omega
      have nR : w.heap.size + 1 ≠ b := by omega
      have lw : w.heap.size ≤ b := by omega
      have X1 := Lib.hid ((X.out.carry t2 (by simp)).carry a2 (by simp; omega))
      have R1 := Lib.hid ((R.out.carry t2 (by simp)).carry a2 (by simp; omega))
      have Y1 := Lib.hid (show BoxV ((((((w2.setCell ⟨b, 0, none⟩ (.int .i64 (B 0))).setCell ⟨b, 1, none⟩ (.int .i64 (B 1))).setCell ⟨b, 2, none⟩ (.int .i64 (B 2))).setCell ⟨b, 3, none⟩ (.int .i64 (B 3))).setCell ⟨b, 4, none⟩ (.int .i64 0)).setCell ⟨b, 5, none⟩ (.int .i64 v)) b 27 #[.int .i64 (B 0), .int .i64 (B 1), .int .i64 (B 2), .int .i64 (B 3), .int .i64 0, .int .i64 v] from ((((((y.set 0 (.int .i64 (B 0))).set 1 (.int .i64 (B 1))).set 2 (.int .i64 (B 2))).set 3 (.int .i64 (B 3))).set 4 (.int .i64 0)).set 5 (.int .i64 v)))
      have T1 := Lib.hid ((T.out.trans t2 (by simp)).trans a2 (by simp; omega))
      clear t2 a2 X R T y S lX lR ly
      simp only [List.drop_succ_cons, List.drop_zero]
      go_upto_region 2 with fail
      generalize ((((((w2.setCell ⟨b, 0, none⟩ (.int .i64 (B 0))).setCell ⟨b, 1, none⟩ (.int .i64 (B 1))).setCell ⟨b, 2, none⟩ (.int .i64 (B 2))).setCell ⟨b, 3, none⟩ (.int .i64 (B 3))).setCell ⟨b, 4, none⟩ (.int .i64 0)).setCell ⟨b, 5, none⟩ (.int .i64 v)) = W at *
      clear ly' fy y0 y1 y2 y3 y4 y5
      have x4 := X1.out.cell 4
      have x5 := X1.out.cell 5
      have x6 := X1.out.cell 6
      have x7 := X1.out.cell 7
      have x8 := X1.out.cell 8
      have x9 := X1.out.cell 9
      have lx := X1.out.lt
      have fx := X1.out.fr
      simp only [List.getElem?_toArray, List.getElem?_cons_zero, List.getElem?_cons_succ] at x4 x5 x6 x7 x8 x9
      go_wp2_with fail
      clear x4 x5 x6 x7 x8 x9 lx fx
      go_loopw [29] (fun i wr => ∃ k : Nat, k ≤ 6 ∧ i = .int .i64 k ∧ BoxV wr b 27 #[.int .i64 (B 0), .int .i64 (B 1), .int .i64 (B 2), .int .i64 (B 3), .int .i64 (lostTo B k), .int .i64 v] ∧ BoxV wr (w.heap.size + 1) 27 #[.int .i64 0, .int .i64 0, .int .i64 0, .int .i64 0, .int .i64 0, .int .i64 0] ∧ Touch [] w wr) (fun i _ => 6 - (intOf i).toNat)
      case atStart => exact ⟨0, by omega, rfl, Y1.out, R1.out, T1.out⟩
      case round =>
        obtain ⟨k, hk, rfl, hy, hr, ht⟩ := hrel
        have Y2 := Lib.hid hy
        have R2 := Lib.hid hr
        have T2 := Lib.hid ht
        clear hr ht
        by_cases hlt : k < 6
        · have hlk := HL.out k hk
          have hbk := HB.out (4 + k) (by omega)
          have A0 := Lib.hid (fun w => AD.out (lostTo B k) (B (4 + k)) w)
          rw [satAdd_few (by omega) (by omega)] at A0
          have la := fun w => lost_at B hlt w
          have y4 := hy.cell 4
          have fy := hy.fr
          have ly := hy.lt
          have hset := hy.set 4 (.int .i64 (lostTo B k + B (4 + k)))
          have Y3 := Lib.hid hset
          simp only [List.getElem?_toArray, List.getElem?_cons_zero, List.getElem?_cons_succ] at y4
          clear hy hset AD
          go_wp2_with fail
          refine (A0.out _).mono ?_
          rintro e w3 ⟨rfl, hw⟩
          rw [← hw]
          clear hw w3
          go_wp2_with fail
          go_roundw
          case rel => exact ⟨k + 1, by omega, by go_num, Y3.out, R2.out.carry ((Touch.refl [b] wr).setCell (a := ⟨b, 4, none⟩) (.inl (by simp)) _) (by simp; omega), T2.out.setCell (.inr lw) _⟩
          case measure => simp [intOf]; omega
        · obtain rfl : k = 6 := by omega
          have y0 := hy.cell 0
          have y1 := hy.cell 1
          have y2 := hy.cell 2
          have y3 := hy.cell 3
          have y4 := hy.cell 4
          have y5 := hy.cell 5
          have fy := hy.fr
          have ly := hy.lt
          have r0 := R2.out.cell 0
          have r1 := R2.out.cell 1
          have r2 := R2.out.cell 2
          have r3 := R2.out.cell 3
          have r4 := R2.out.cell 4
          have r5 := R2.out.cell 5
          have fr := R2.out.fr
          have lr := R2.out.lt
          simp only [List.getElem?_toArray, List.getElem?_cons_zero, List.getElem?_cons_succ] at y0 y1 y2 y3 y4 y5 r0 r1 r2 r3 r4 r5
          clear hy
          have hz := ((((((R2.out.set 0 (.int .i64 (B 0))).set 1 (.int .i64 (B 1))).set 2 (.int .i64 (B 2))).set 3 (.int .i64 (B 3))).set 4 (.int .i64 (lostTo B 6))).set 5 (.int .i64 v))
          have Z := Lib.hid hz
          clear hz
          go_wp2_with fail
          refine bodyPost_ret (ret_box rfl rfl (show BoxV _ _ 27 #[.int .i64 (B 0), .int .i64 (B 1), .int .i64 (B 2), .int .i64 (B 3), .int .i64 (lostTo B 6), .int .i64 v] from Z.out) Try.underlying27 rfl (by kernel_rfl)) rfl ⟨by unfold statV st6; rw [wb], ?_⟩
          exact (((((T2.out.setCell (.inr (by simp)) _).setCell (.inr (by simp)) _).setCell (.inr (by simp)) _).setCell (.inr (by simp)) _).setCell (.inr (by simp)) _).setCell (.inr (by simp)) _
  · have wb : waitB B = 0 := by unfold waitB; rw [← ev]; split <;> omega
    have d : decide (0 < v) = false := by simpa using hn
    have d2 : v < 1 := by omega
    clear ev
    refine wp_region_fresh1 (wd := w1) 21 3 27 #[.int .i64 0, .int .i64 0, .int .i64 0, .int .i64 0, .int .i64 0, .int .i64 0] ?aF2 (by kernel_rfl) (by kernel_rfl) ((Touch.refl _ _).drew) ⟨_, rfl, rfl, fun a w => rfl⟩ ?hwalk2 ?hend2
    case hwalk2 =>
      intro wd ht
      simp only [List.take_succ_cons, List.take_zero]
      have k0 : ∀ x : Cls wd, x.val.cell? ⟨w.heap.size, 0, none⟩ = some (.int .i64 (B 0)) := fun x => ((X.out.carry ht (by simp)).carry x.property (by simp)).cell 0
      have k1 : ∀ x : Cls wd, x.val.cell? ⟨w.heap.size, 1, none⟩ = some (.int .i64 (B 1)) := fun x => ((X.out.carry ht (by simp)).carry x.property (by simp)).cell 1
      have k2 : ∀ x : Cls wd, x.val.cell? ⟨w.heap.size, 2, none⟩ = some (.int .i64 (B 2)) := fun x => ((X.out.carry ht (by simp)).carry x.property (by simp)).cell 2
      have k3 : ∀ x : Cls wd, x.val.cell? ⟨w.heap.size, 3, none⟩ = some (.int .i64 (B 3)) := fun x => ((X.out.carry ht (by simp)).carry x.property (by simp)).cell 3
      repeat (first | go_big_quiet_step ((go_at_call 35; with_reducible exact Calls.cls_at (S.out _))) | quiet_step ((go_at_call 35; with_reducible exact Calls.cls_at (S.out _))))
      refine wpQuiet_nil ?_
      rfl
    case hend2 =>
      intro b w2 t2 y ly
      clear hn d d2 b0 b2
      have y0 := y.cell 0
      have y1 := y.cell 1
      have y2 := y.cell 2
      have y3 := y.cell 3
      have y4 := y.cell 4
      have y5 := y.cell 5
      have ly' := y.lt
      have fy := y.fr
      simp only [List.getElem?_toArray, List.getElem?_cons_zero, List.getElem?_cons_succ] at y0 y1 y2 y3 y4 y5
      have a2 : Touch [b] w2 ((((((w2.setCell ⟨b, 0, none⟩ (.int .i64 (B 0))).setCell ⟨b, 1, none⟩ (.int .i64 (B 1))).setCell ⟨b, 2, none⟩ (.int .i64 (B 2))).setCell ⟨b, 3, none⟩ (.int .i64 (B 3))).setCell ⟨b, 4, none⟩ (.int .i64 0)).setCell ⟨b, 5, none⟩ (.int .i64 0)) := (((((((Touch.refl [b] w2).setCell (a := ⟨b, 0, none⟩) (.inl (by simp)) _).setCell (a := ⟨b, 1, none⟩) (.inl (by simp)) _).setCell (a := ⟨b, 2, none⟩) (.inl (by simp)) _).setCell (a := ⟨b, 3, none⟩) (.inl (by simp)) _).setCell (a := ⟨b, 4, none⟩) (.inl (by simp)) _).setCell (a := ⟨b, 5, none⟩) (.inl (by simp)) _)
      have lX := X.out.lt
      have lR := R.out.lt
      have nX : w.heap.size ≠ b := by omega
      have nR : w.heap.size + 1 ≠ b := by omega
      have lw : w.heap.size ≤ b := by omega
      have X1 := Lib.hid ((X.out.carry t2 (by simp)).carry a2 (by simp; omega))
      have R1 := Lib.hid ((R.out.carry t2 (by simp)).carry a2 (by simp; omega))
      have Y1 := Lib.hid (show BoxV ((((((w2.setCell ⟨b, 0, none⟩ (.int .i64 (B 0))).setCell ⟨b, 1, none⟩ (.int .i64 (B 1))).setCell ⟨b, 2, none⟩ (.int .i64 (B 2))).setCell ⟨b, 3, none⟩ (.int .i64 (B 3))).setCell ⟨b, 4, none⟩ (.int .i64 0)).setCell ⟨b, 5, none⟩ (.int .i64 0)) b 27 #[.int .i64 (B 0), .int .i64 (B 1), .int .i64 (B 2), .int .i64 (B 3), .int .i64 0, .int .i64 0] from ((((((y.set 0 (.int .i64 (B 0))).set 1 (.int .i64 (B 1))).set 2 (.int .i64 (B 2))).set 3 (.int .i64 (B 3))).set 4 (.int .i64 0)).set 5 (.int .i64 0)))
      have T1 := Lib.hid ((T.out.trans t2 (by simp)).trans a2 (by simp; omega))
      clear t2 a2 X R T y S lX lR ly
      simp only [List.drop_succ_cons, List.drop_zero]
      go_upto_region 2 with fail
      generalize ((((((w2.setCell ⟨b, 0, none⟩ (.int .i64 (B 0))).setCell ⟨b, 1, none⟩ (.int .i64 (B 1))).setCell ⟨b, 2, none⟩ (.int .i64 (B 2))).setCell ⟨b, 3, none⟩ (.int .i64 (B 3))).setCell ⟨b, 4, none⟩ (.int .i64 0)).setCell ⟨b, 5, none⟩ (.int .i64 0)) = W at *
      clear ly' fy y0 y1 y2 y3 y4 y5
      have x4 := X1.out.cell 4
      have x5 := X1.out.cell 5
      have x6 := X1.out.cell 6
      have x7 := X1.out.cell 7
      have x8 := X1.out.cell 8
      have x9 := X1.out.cell 9
      have lx := X1.out.lt
      have fx := X1.out.fr
      simp only [List.getElem?_toArray, List.getElem?_cons_zero, List.getElem?_cons_succ] at x4 x5 x6 x7 x8 x9
      go_wp2_with fail
      clear x4 x5 x6 x7 x8 x9 lx fx
      go_loopw [29] (fun i wr => ∃ k : Nat, k ≤ 6 ∧ i = .int .i64 k ∧ BoxV wr b 27 #[.int .i64 (B 0), .int .i64 (B 1), .int .i64 (B 2), .int .i64 (B 3), .int .i64 (lostTo B k), .int .i64 0] ∧ BoxV wr (w.heap.size + 1) 27 #[.int .i64 0, .int .i64 0, .int .i64 0, .int .i64 0, .int .i64 0, .int .i64 0] ∧ Touch [] w wr) (fun i _ => 6 - (intOf i).toNat)
      case atStart => exact ⟨0, by omega, rfl, Y1.out, R1.out, T1.out⟩
      case round =>
        obtain ⟨k, hk, rfl, hy, hr, ht⟩ := hrel
        have Y2 := Lib.hid hy
        have R2 := Lib.hid hr
        have T2 := Lib.hid ht
        clear hr ht
        by_cases hlt : k < 6
        · have hlk := HL.out k hk
          have hbk := HB.out (4 + k) (by omega)
          have A0 := Lib.hid (fun w => AD.out (lostTo B k) (B (4 + k)) w)
          rw [satAdd_few (by omega) (by omega)] at A0
          have la := fun w => lost_at B hlt w
          have y4 := hy.cell 4
          have fy := hy.fr
          have ly := hy.lt
          have hset := hy.set 4 (.int .i64 (lostTo B k + B (4 + k)))
          have Y3 := Lib.hid hset
          simp only [List.getElem?_toArray, List.getElem?_cons_zero, List.getElem?_cons_succ] at y4
          clear hy hset AD
          go_wp2_with fail
          refine (A0.out _).mono ?_
          rintro e w3 ⟨rfl, hw⟩
          rw [← hw]
          clear hw w3
          go_wp2_with fail
          go_roundw
          case rel => exact ⟨k + 1, by omega, by go_num, Y3.out, R2.out.carry ((Touch.refl [b] wr).setCell (a := ⟨b, 4, none⟩) (.inl (by simp)) _) (by simp; omega), T2.out.setCell (.inr lw) _⟩
          case measure => simp [intOf]; omega
        · obtain rfl : k = 6 := by omega
          have y0 := hy.cell 0
          have y1 := hy.cell 1
          have y2 := hy.cell 2
          have y3 := hy.cell 3
          have y4 := hy.cell 4
          have y5 := hy.cell 5
          have fy := hy.fr
          have ly := hy.lt
          have r0 := R2.out.cell 0
          have r1 := R2.out.cell 1
          have r2 := R2.out.cell 2
          have r3 := R2.out.cell 3
          have r4 := R2.out.cell 4
          have r5 := R2.out.cell 5
          have fr := R2.out.fr
          have lr := R2.out.lt
          simp only [List.getElem?_toArray, List.getElem?_cons_zero, List.getElem?_cons_succ] at y0 y1 y2 y3 y4 y5 r0 r1 r2 r3 r4 r5
          clear hy
          have hz := ((((((R2.out.set 0 (.int .i64 (B 0))).set 1 (.int .i64 (B 1))).set 2 (.int .i64 (B 2))).set 3 (.int .i64 (B 3))).set 4 (.int .i64 (lostTo B 6))).set 5 (.int .i64 0))
          have Z := Lib.hid hz
          clear hz
          go_wp2_with fail
          refine bodyPost_ret (ret_box rfl rfl (show BoxV _ _ 27 #[.int .i64 (B 0), .int .i64 (B 1), .int .i64 (B 2), .int .i64 (B 3), .int .i64 (lostTo B 6), .int .i64 0] from Z.out) Try.underlying27 rfl (by kernel_rfl)) rfl ⟨by unfold statV st6; rw [wb], ?_⟩
          exact (((((T2.out.setCell (.inr (by simp)) _).setCell (.inr (by simp)) _).setCell (.inr (by simp)) _).setCell (.inr (by simp)) _).setCell (.inr (by simp)) _).setCell (.inr (by simp)) _
end Go.Proofs.Ytbppccmkmpgibaa
