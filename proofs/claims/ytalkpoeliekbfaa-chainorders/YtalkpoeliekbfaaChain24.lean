/-
  Layer 7 (chain): lists that aren't there, whose nodes are asked for.
-/
import Derived.Test.YtalkpoeliekbfaaChain23
namespace Go.Proofs.Ytalkpoeliekbfaa
open Go.ChangeShapes Go.WideShapes Go.ChangeAt Go.RowKit Go.Deep
set_option linter.unusedVariables false
set_option linter.unusedSimpArgs false
theorem allNil (l : Int) (w : World) : Calls Try.prog 22 #[.pointer none, .int .i64 l] w fun e w' => (∃ A c, e = .returned (.slice A 0 c)) ∧ Touch [] w w' := by
  refine (all_any (L := []) none l (by simp) (Lib.hid fun w1 t => nodes_none _ _ w1 (Lib.hid (first_of_none _ l w1 (Lib.hid (len_nil l w1)))))).mono ?_
  rintro e w' ⟨u, rfl, ho, t⟩
  obtain ⟨A, c, rfl⟩ := own_form ho
  exact ⟨⟨A, c, rfl⟩, t⟩
set_option maxHeartbeats 1600000 in
set_option maxRecDepth 100000 in
theorem orders_long (A : Option Addr) (n c : Nat) (most : Int) (w : World) (h60 : 60 < n) :
    Calls Try.prog 4 #[.slice A n c, .int .i64 most] w fun e w' => e = .returned (.bool true) ∧ Touch [] w w' := by
  have HB := Lib.hid (Box1.new w 3 (.int .i64 most))
  have t1 : Touch [] w (w.alloc (.cells #[.int .i64 most] 3)) := (Touch.refl [] w).alloc _
  have T1 := Lib.hid t1
  have y0 : decide (60 < (n : Int)) = true := by simp; omega
  clear t1 h60
  go_enter Try.func4, Try.ntmps4
  go_upto_region 2 with fail
  generalize w.alloc (.cells #[.int .i64 most] 3) = w1 at *
  generalize hbm : w.heap.size = bm at *
  have H1 := Lib.hid (pop_nil 0 w1)
  unfold firstTold at H1
  go_wp2_with fail
  refine (H1.out).mono ?_
  rintro e w2 ⟨rfl, rfl⟩
  have H2 := Lib.hid (push_nil 0 0 w2)
  go_wp2_with fail
  refine (H2.out).mono ?_
  rintro e w3 ⟨rfl, rfl⟩
  have H3 := Lib.hid (join_nil 0 1 w3)
  go_wp2_with fail
  refine (H3.out).mono ?_
  rintro e w4 ⟨rfl, t4⟩
  have H4 := Lib.hid (len_nil 0 w4)
  go_wp2_with fail
  refine (H4.out).mono ?_
  rintro e w5 ⟨rfl, rfl⟩
  have H5 := Lib.hid (copyC_nil w5)
  go_wp2_with fail
  refine (H5.out).mono ?_
  rintro e w6 ⟨rfl, rfl⟩
  have H6 := Lib.hid (allNil 0 w6)
  go_wp2_with fail
  refine (H6.out).mono ?_
  rintro e w7 ⟨⟨A7, c7, rfl⟩, t7⟩
  have H7 := Lib.hid (where_nil 0 w7)
  unfold firstTold at H7
  go_wp2_with fail
  refine (H7.out).mono ?_
  rintro e w8 ⟨rfl, rfl⟩
  go_wp2_with fail
  refine (chainLives_any w8).mono ?_
  rintro e w9 ⟨rfl, t9⟩
  have T9 := Lib.hid (((T1.out.trans t4 (by simp)).trans t7 (by simp)).trans t9 (by simp))
  clear t4 t7 t9 H1 H2 H3 H4 H5 H6 H7 T1 HB
  go_wp2_with fail
  go_ret
  exact ⟨rfl, T9.out⟩
end Go.Proofs.Ytalkpoeliekbfaa
