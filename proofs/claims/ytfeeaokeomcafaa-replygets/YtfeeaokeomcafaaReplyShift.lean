/-
  reply's shift and Shift (layer 39).
-/
import Derived.Test.YtfeeaokeomcafaaReplyGet2
namespace Go.Proofs.Ytfeeaokeomcafaa
open Go.ChangeShapes Go.WideShapes Go.ChangeAt Go.RowKit Go.Deep
set_option linter.unusedVariables false
set_option linter.unusedSimpArgs false

def canShift (v y : Int) : Prop := 1 ≤ v ∧ v ≤ 2147483648 ∧ -2147483648 ≤ y ∧ y ≤ 2147483648
instance (v y : Int) : Decidable (canShift v y) := by unfold canShift; infer_instance
def Rep.by (r : Rep) (y : Int) : Rep := ⟨r.op, r.err, r.ver + y, r.cnt, r.sum, r.st⟩
def shiftR (r : Rep) (y : Int) : Rep := if canShift r.ver y then r.by y else r

set_option maxHeartbeats 2000000 in
set_option maxRecDepth 100000 in
theorem shift_any (R : Rep) (y : Int) (hR : R.Ok) (w : World) :
    Calls Try.prog 99 #[.agg R.cells, .int .i64 y] w fun e w' => e = .returned (.agg (shiftR R y).cells) ∧ Touch [] w w' := by
  have hv := hR.ver
  unfold fitI at hv
  clear hR
  unfold shiftR
  by_cases hc : canShift R.ver y
  · rw [if_pos hc]
    unfold canShift at hc
    unfold Rep.by Rep.cells
    simp only
    have fw : IntKind.i64.wrap (R.ver + y) = R.ver + y := by rw [IntKind.wrap_i64]; omega
    have d1 : decide (R.ver < 1) = false := by simp; omega
    have d2 : decide (2147483648 < R.ver) = false := by simp; omega
    have d3 : decide (y < -2147483648) = false := by simp; omega
    have d4 : decide (2147483648 < y) = false := by simp; omega
    clear hc
    have T1 := Lib.hid (((Touch.refl [] w).alloc (.cells #[.int .i64 R.op, .int .i64 R.err, .int .i64 (R.ver + y), .int .i64 R.cnt, .int .u32 (R.sum : Int), .int .i64 (R.st 0), .int .i64 (R.st 1), .int .i64 (R.st 2), .int .i64 (R.st 3), .int .i64 (R.st 4), .int .i64 (R.st 5)] 78)).alloc (.cells #[.int .i64 R.op, .int .i64 R.err, .int .i64 (R.ver + y), .int .i64 R.cnt, .int .u32 (R.sum : Int), .int .i64 (R.st 0), .int .i64 (R.st 1), .int .i64 (R.st 2), .int .i64 (R.st 3), .int .i64 (R.st 4), .int .i64 (R.st 5)] 78))
    go_enter Try.func99, Try.ntmps99
    go_wp2_with fail
    refine bodyPost_ret (v := .agg #[.int .i64 R.op, .int .i64 R.err, .int .i64 (R.ver + y), .int .i64 R.cnt, .int .u32 (R.sum : Int), .int .i64 (R.st 0), .int .i64 (R.st 1), .int .i64 (R.st 2), .int .i64 (R.st 3), .int .i64 (R.st 4), .int .i64 (R.st 5)]) (by simp [results, Try.results99, go_sem]) rfl ?_
    exact ⟨rfl, T1.out⟩
  · rw [if_neg hc]
    unfold canShift at hc
    unfold Rep.cells
    have T1 := Lib.hid (((Touch.refl [] w).alloc (.cells #[.int .i64 R.op, .int .i64 R.err, .int .i64 R.ver, .int .i64 R.cnt, .int .u32 (R.sum : Int), .int .i64 (R.st 0), .int .i64 (R.st 1), .int .i64 (R.st 2), .int .i64 (R.st 3), .int .i64 (R.st 4), .int .i64 (R.st 5)] 78)).alloc (.cells #[.int .i64 R.op, .int .i64 R.err, .int .i64 R.ver, .int .i64 R.cnt, .int .u32 (R.sum : Int), .int .i64 (R.st 0), .int .i64 (R.st 1), .int .i64 (R.st 2), .int .i64 (R.st 3), .int .i64 (R.st 4), .int .i64 (R.st 5)] 78))
    have ways : decide (R.ver < 1) = true ∨ (decide (R.ver < 1) = false ∧ decide (2147483648 < R.ver) = true) ∨ (decide (R.ver < 1) = false ∧ decide (2147483648 < R.ver) = false ∧ decide (y < -2147483648) = true) ∨
        (decide (R.ver < 1) = false ∧ decide (2147483648 < R.ver) = false ∧ decide (y < -2147483648) = false ∧ decide (2147483648 < y) = true) := by
      simp only [decide_eq_true_eq, decide_eq_false_iff_not]
      omega
    clear hc
    rcases ways with d1 | ⟨d1, d2⟩ | ⟨d1, d2, d3⟩ | ⟨d1, d2, d3, d4⟩
    all_goals
      go_enter Try.func99, Try.ntmps99
      go_wp2_with fail
      refine bodyPost_ret (v := .agg #[.int .i64 R.op, .int .i64 R.err, .int .i64 R.ver, .int .i64 R.cnt, .int .u32 (R.sum : Int), .int .i64 (R.st 0), .int .i64 (R.st 1), .int .i64 (R.st 2), .int .i64 (R.st 3), .int .i64 (R.st 4), .int .i64 (R.st 5)]) (by simp [results, Try.results99, go_sem]) rfl ?_
      exact ⟨rfl, T1.out⟩

/-- What Shift answers. -/
def shiftB (l : List UInt8) (y : Int) : List UInt8 := if canShift (getR l).ver y ∧ y ≠ 0 then ((getR l).by y).bytes else l
theorem by_ok (r : Rep) (h : r.Ok) (y : Int) (hc : canShift r.ver y) : (r.by y).Ok := by
  unfold canShift at hc
  exact ⟨h.op, h.err, by unfold fitI Rep.by; simp only; omega, h.cnt, h.sum, h.st⟩
set_option maxHeartbeats 2000000 in
set_option maxRecDepth 100000 in
theorem replyShift (l : List UInt8) (hl : l.length ≤ 1000000000) (y : Int) (w : World) :
    Calls Try.prog 56 #[.string (S l), .int .i64 y] w fun e w' => e = .returned (.string (S (shiftB l y))) ∧ Touch [] w w' := by
  have G := Lib.hid (fun w => replyGet l hl w)
  have hR := getR_ok l
  have H := Lib.hid (fun w => shift_any (getR l) y hR w)
  have P := fun (hc : canShift (getR l).ver y) w => replyPut ((getR l).by y) (by_ok _ hR y hc) w
  unfold shiftB
  generalize getR l = R at *
  generalize getE l = E at *
  unfold shiftR at H
  by_cases hc : canShift R.ver y
  · rw [if_pos hc] at H
    have P' := Lib.hid (P hc)
    clear P
    by_cases hy : y = 0
    · subst hy
      rw [if_neg (fun h => h.2 rfl)]
      have e0 : R.ver + 0 = R.ver := by omega
      unfold Rep.by Rep.cells at *
      simp only [e0] at H
      clear P'
      go_enter Try.func56, Try.ntmps56
      go_wp2_with fail
      refine (G.out _).mono ?_
      rintro e w1 ⟨rfl, t1⟩
      have T1 := Lib.hid (t1.alloc (.cells #[.int .i64 R.op, .int .i64 R.err, .int .i64 R.ver, .int .i64 R.cnt, .int .u32 (R.sum : Int), .int .i64 (R.st 0), .int .i64 (R.st 1), .int .i64 (R.st 2), .int .i64 (R.st 3), .int .i64 (R.st 4), .int .i64 (R.st 5)] 78))
      clear t1
      go_wp2_with fail
      refine (H.out _).mono ?_
      rintro e w2 ⟨rfl, t2⟩
      have x2 := (BoxV.new w1 78 #[.int .i64 R.op, .int .i64 R.err, .int .i64 R.ver, .int .i64 R.cnt, .int .u32 (R.sum : Int), .int .i64 (R.st 0), .int .i64 (R.st 1), .int .i64 (R.st 2), .int .i64 (R.st 3), .int .i64 (R.st 4), .int .i64 (R.st 5)]).carry t2 (by simp)
      have lt2 := x2.lt
      have c0 := x2.cell 0
      have c1 := x2.cell 1
      have c2 := x2.cell 2
      have c3 := x2.cell 3
      have c4 := x2.cell 4
      have c5 := x2.cell 5
      have c6 := x2.cell 6
      have c7 := x2.cell 7
      have c8 := x2.cell 8
      have c9 := x2.cell 9
      have c10 := x2.cell 10
      have T2 := Lib.hid ((T1.out.trans t2 (by simp)).alloc (.cells #[.int .i64 R.op, .int .i64 R.err, .int .i64 R.ver, .int .i64 R.cnt, .int .u32 (R.sum : Int), .int .i64 (R.st 0), .int .i64 (R.st 1), .int .i64 (R.st 2), .int .i64 (R.st 3), .int .i64 (R.st 4), .int .i64 (R.st 5)] 78))
      clear t2 T1 x2 H G
      go_wp2_with fail
      go_ret
      exact ⟨rfl, T2.out⟩
    · rw [if_pos ⟨hc, hy⟩]
      have e1 : (R.ver + y == R.ver) = false := by simp; omega
      have e2 : (y == 0) = false := by simpa using hy
      have HY := Lib.hid hy
      clear hc hy
      unfold Rep.by Rep.cells at *
      simp only at H P'
      go_enter Try.func56, Try.ntmps56
      go_wp2_with fail
      refine (G.out _).mono ?_
      rintro e w1 ⟨rfl, t1⟩
      have T1 := Lib.hid (t1.alloc (.cells #[.int .i64 R.op, .int .i64 R.err, .int .i64 R.ver, .int .i64 R.cnt, .int .u32 (R.sum : Int), .int .i64 (R.st 0), .int .i64 (R.st 1), .int .i64 (R.st 2), .int .i64 (R.st 3), .int .i64 (R.st 4), .int .i64 (R.st 5)] 78))
      clear t1
      go_wp2_with fail
      refine (H.out _).mono ?_
      rintro e w2 ⟨rfl, t2⟩
      have x2 := (BoxV.new w1 78 #[.int .i64 R.op, .int .i64 R.err, .int .i64 R.ver, .int .i64 R.cnt, .int .u32 (R.sum : Int), .int .i64 (R.st 0), .int .i64 (R.st 1), .int .i64 (R.st 2), .int .i64 (R.st 3), .int .i64 (R.st 4), .int .i64 (R.st 5)]).carry t2 (by simp)
      have lt2 := x2.lt
      have c0 := x2.cell 0
      have c1 := x2.cell 1
      have c2 := x2.cell 2
      have c3 := x2.cell 3
      have c4 := x2.cell 4
      have c5 := x2.cell 5
      have c6 := x2.cell 6
      have c7 := x2.cell 7
      have c8 := x2.cell 8
      have c9 := x2.cell 9
      have c10 := x2.cell 10
      have T2 := Lib.hid ((T1.out.trans t2 (by simp)).alloc (.cells #[.int .i64 R.op, .int .i64 R.err, .int .i64 (R.ver + y), .int .i64 R.cnt, .int .u32 (R.sum : Int), .int .i64 (R.st 0), .int .i64 (R.st 1), .int .i64 (R.st 2), .int .i64 (R.st 3), .int .i64 (R.st 4), .int .i64 (R.st 5)] 78))
      clear t2 T1 x2 H G
      go_wp2_with fail
      refine (P'.out _).mono ?_
      rintro e w3 ⟨rfl, t3⟩
      have T3 := Lib.hid (T2.out.trans t3 (by simp))
      clear t3
      go_wp2_with fail
      go_ret
      exact ⟨rfl, T3.out⟩
  · rw [if_neg hc] at H
    rw [if_neg (fun h => hc h.1)]
    clear P hc
    unfold Rep.cells at *
    go_enter Try.func56, Try.ntmps56
    go_wp2_with fail
    refine (G.out _).mono ?_
    rintro e w1 ⟨rfl, t1⟩
    have T1 := Lib.hid (t1.alloc (.cells #[.int .i64 R.op, .int .i64 R.err, .int .i64 R.ver, .int .i64 R.cnt, .int .u32 (R.sum : Int), .int .i64 (R.st 0), .int .i64 (R.st 1), .int .i64 (R.st 2), .int .i64 (R.st 3), .int .i64 (R.st 4), .int .i64 (R.st 5)] 78))
    clear t1
    go_wp2_with fail
    refine (H.out _).mono ?_
    rintro e w2 ⟨rfl, t2⟩
    have x2 := (BoxV.new w1 78 #[.int .i64 R.op, .int .i64 R.err, .int .i64 R.ver, .int .i64 R.cnt, .int .u32 (R.sum : Int), .int .i64 (R.st 0), .int .i64 (R.st 1), .int .i64 (R.st 2), .int .i64 (R.st 3), .int .i64 (R.st 4), .int .i64 (R.st 5)]).carry t2 (by simp)
    have lt2 := x2.lt
    have c0 := x2.cell 0
    have c1 := x2.cell 1
    have c2 := x2.cell 2
    have c3 := x2.cell 3
    have c4 := x2.cell 4
    have c5 := x2.cell 5
    have c6 := x2.cell 6
    have c7 := x2.cell 7
    have c8 := x2.cell 8
    have c9 := x2.cell 9
    have c10 := x2.cell 10
    have T2 := Lib.hid ((T1.out.trans t2 (by simp)).alloc (.cells #[.int .i64 R.op, .int .i64 R.err, .int .i64 R.ver, .int .i64 R.cnt, .int .u32 (R.sum : Int), .int .i64 (R.st 0), .int .i64 (R.st 1), .int .i64 (R.st 2), .int .i64 (R.st 3), .int .i64 (R.st 4), .int .i64 (R.st 5)] 78))
    clear t2 T1 x2 H G
    go_wp2_with fail
    go_ret
    exact ⟨rfl, T2.out⟩
end Go.Proofs.Ytfeeaokeomcafaa
