/-
  Layer 34 (ledger): Of, Reason.
-/
import Derived.Test.YtbppccmkmpgibaaLedger4
namespace Go.Proofs.Ytbppccmkmpgibaa
open Go.ChangeShapes Go.WideShapes Go.ChangeAt Go.RowKit Go.Deep Go.Maps
set_option linter.unusedVariables false
set_option linter.unusedSimpArgs false
section
variable {w w' : World} {p b s : Nat} {M : Int → Option Bk}
set_option maxRecDepth 100000 in
set_option maxHeartbeats 1600000 in
theorem of_any (h : LgAt w p b s M) (id : Int) (hi : i64k id) (hB : Few (bookOf M id) 100000000) :
    Calls Try.prog 7 #[.pointer (some ⟨p, 0, none⟩), .int .i64 id] w fun e w' => e = .returned (.agg (statV (bookOf M id))) ∧ Touch [] w w' := by
  have t1 : Touch [] w (w.alloc (.cells #[.int .i64 0, .int .i64 0, .int .i64 0, .int .i64 0, .int .i64 0, .int .i64 0] 27)) := (Touch.refl [] w).alloc _
  have h1 := h.new t1
  have kL := h1.look id hi
  have c0 := h1.box.c0
  have lp := h1.box.lt
  have lb := h1.map.lt
  have R := Lib.hid (BoxV.new w 27 #[.int .i64 0, .int .i64 0, .int .i64 0, .int .i64 0, .int .i64 0, .int .i64 0])
  have S0 := stat_any (bookOf M id) hB
  generalize bookOf M id = B at *
  unfold bk at kL S0
  have S := Lib.hid S0
  have T1 := Lib.hid t1
  clear h h1 t1 S0 hB
  go_enter Try.func7, Try.ntmps7
  go_wp2_with fail
  refine (S.out _).mono ?_
  rintro e w2 ⟨rfl, t2⟩
  have R2 := Lib.hid (R.out.carry t2 (by simp))
  have T2 := Lib.hid (T1.out.trans t2 (by simp))
  have r0 := R2.out.cell 0
  have r1 := R2.out.cell 1
  have r2 := R2.out.cell 2
  have r3 := R2.out.cell 3
  have r4 := R2.out.cell 4
  have r5 := R2.out.cell 5
  have fr := R2.out.fr
  have lr := R2.out.lt
  simp only [List.getElem?_toArray, List.getElem?_cons_zero, List.getElem?_cons_succ] at r0 r1 r2 r3 r4 r5
  have hz := ((((((R2.out.set 0 (.int .i64 (B 0))).set 1 (.int .i64 (B 1))).set 2 (.int .i64 (B 2))).set 3 (.int .i64 (B 3))).set 4 (.int .i64 (lostTo B 6))).set 5 (.int .i64 (waitB B)))
  have Z := Lib.hid hz
  clear hz t2 kL c0
  unfold statV st6
  go_wp2_with fail
  refine bodyPost_ret (ret_box rfl rfl (show BoxV _ _ 27 #[.int .i64 (B 0), .int .i64 (B 1), .int .i64 (B 2), .int .i64 (B 3), .int .i64 (lostTo B 6), .int .i64 (waitB B)] from Z.out) Try.underlying27 rfl (by kernel_rfl)) rfl ⟨rfl, ?_⟩
  exact (((((T2.out.setCell (.inr (by simp)) _).setCell (.inr (by simp)) _).setCell (.inr (by simp)) _).setCell (.inr (by simp)) _).setCell (.inr (by simp)) _).setCell (.inr (by simp)) _
set_option maxRecDepth 100000 in
theorem reason_yes (h : LgAt w p b s M) (id : Int) (hi : i64k id) (r : Nat) (h1 : 1 ≤ r) (h6 : r < 6) :
    Calls Try.prog 9 #[.pointer (some ⟨p, 0, none⟩), .int .i64 id, .int .i64 (r : Int)] w fun e w' => e = .returned (.int .i64 (bookOf M id (4 + r))) ∧ w' = w := by
  have kL := h.look id hi
  have c0 := h.box.c0
  have lp := h.box.lt
  generalize bookOf M id = B at *
  unfold bk at kL
  have la := fun w => lost_at B h6 w
  have fl : ∀ w, (Instr.field 49 (.agg #[.int .i64 (B 0), .int .i64 (B 1), .int .i64 (B 2), .int .i64 (B 3), .int .i64 (B 4), .int .i64 (B 5), .int .i64 (B 6), .int .i64 (B 7), .int .i64 (B 8), .int .i64 (B 9)]) 2).run Try.prog w = .ok (.agg #[.int .i64 (B 4), .int .i64 (B 5), .int .i64 (B 6), .int .i64 (B 7), .int .i64 (B 8), .int .i64 (B 9)]) w := fun w => by kernel_rfl
  have I := Lib.hid (isReason_any (r : Int) w)
  rw [show decide (0 < (r : Int) ∧ (r : Int) < 6) = true by simp; omega] at I
  clear h
  go_enter Try.func9, Try.ntmps9
  go_wp2_with fail
  refine (I.out).mono ?_
  rintro e w1 ⟨rfl, hw⟩
  rw [hw]
  clear hw w1
  go_wp2_with fail
  go_ret
  exact ⟨rfl, rfl⟩
set_option maxRecDepth 100000 in
theorem reason_no (q : Addr) (id n : Int) (hn : n < 1 ∨ 6 ≤ n) (w : World) :
    Calls Try.prog 9 #[.pointer (some q), .int .i64 id, .int .i64 n] w fun e w' => e = .returned (.int .i64 0) ∧ w' = w := by
  have I := Lib.hid (isReason_any n w)
  rw [show decide (0 < n ∧ n < 6) = false by simp; omega] at I
  go_enter Try.func9, Try.ntmps9
  go_wp2_with fail
  refine (I.out).mono ?_
  rintro e w1 ⟨rfl, hw⟩
  rw [hw]
  clear hw w1
  go_wp2_with fail
  go_ret
  exact ⟨rfl, rfl⟩
end
end Go.Proofs.Ytbppccmkmpgibaa
