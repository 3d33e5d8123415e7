/-
  The example of layer 8's laws.
-/
import Derived.Test.YtkbjkijcabmbpaaPoolInv
namespace Go.Proofs.Ytkbjkijcabmbpaa
open Go.ChangeShapes Go.WideShapes Go.ChangeAt Go.RowKit Go.Deep Go.Maps
set_option linter.unusedVariables false
set_option linter.unusedSimpArgs false

section
variable {w w' : World} {q p g k n ns m c : Nat} {S K : Nat → Int} {mb s : Nat} {M : Pks} {bytes room : Int}
theorem put_yes_lit (h : PoolAt w q p g k n ns (m + 1) c S K mb s M bytes room) (x : Pk) (a : Nat) (hK : K m = a) (ha : a < n) (hn : n ≤ 4096) (hb : 0 ≤ bytes ∧ bytes ≤ 4194304) (hr : 0 ≤ room ∧ room ≤ 4194304) (hf : fitsV (m + 1) bytes room x.size = 0) (hs : s < 5000) (hM : M a = none) :
    Calls Try.prog 30 #[.pointer (some ⟨q, 0, none⟩), .agg x.cells] w fun e w' => ∃ u v : Int, e = .returned (.tuple #[.agg #[.int .i64 u, .int .i64 v], .int .i64 0]) ∧ PoolAt w' q p g k n ns m c (upd S (a * 2) 1) K mb (s + 1) (putP M a (some x)) (bytes + x.size) room ∧ Touch [q, p, g, mb] w w' :=
  (put_yes h x a hK ha hn hb hr hf hs hM).mono fun e w' h => ⟨_, _, h⟩
theorem put_no_lit (h : PoolAt w q p g k n ns m c S K mb s M bytes room) (x : Pk) (y : Int) (hb : 0 ≤ bytes ∧ bytes ≤ 4194304) (hr : 0 ≤ room ∧ room ≤ 4194304) (hf : fitsV m bytes room x.size = y) (hy : y ≠ 0) :
    Calls Try.prog 30 #[.pointer (some ⟨q, 0, none⟩), .agg x.cells] w fun e w' => e = .returned (.tuple #[.agg #[.int .i64 0, .int .i64 0], .int .i64 y]) ∧ Touch [] w w' := by
  subst hf
  exact put_no h x hb hr hy
end
set_option maxRecDepth 100000 in
set_option maxHeartbeats 3200000 in
theorem poolLives_any (w : World) :
    Calls Try.prog 26 #[] w fun e w' => e = .returned (.bool true) ∧ Touch [] w w' := by
  have H := Lib.hid (poolNew_yes 2 100 w (by omega) (by omega) (by omega) (by omega))
  go_enter Try.func26, Try.ntmps26
  go_wp2_with fail
  refine (H.out).mono ?_
  rintro e w1 ⟨q, p, g, k, mb, rfl, hp1, t1, lq, lp, lg, lk, lm⟩
  have HL := Lib.hid (show w.heap.size ≤ q ∧ w.heap.size ≤ p ∧ w.heap.size ≤ g ∧ w.heap.size ≤ mb from ⟨lq, lp, lg, lm⟩)
  have H1 := Lib.hid (put_yes_lit (m := 1) hp1 ⟨0, 60, 0, 0, 0, 0, 0, 0, 0, 0⟩ 0 (by simp) (by omega) (by omega) (by omega) (by omega) (by decide) (by omega) rfl)
  have T1 := Lib.hid t1
  clear hp1 t1 H lq lp lg lk lm
  go_wp2_with fail
  refine (H1.out).mono ?_
  rintro e w2 ⟨u1, v1, rfl, hp2, t2⟩
  have a2 : Touch [] w2 (w2.alloc (.cells #[.int .i64 u1, .int .i64 v1] 68)) := (Touch.refl [] w2).alloc _
  have H2 := Lib.hid (put_no_lit (hp2.new a2) ⟨0, 50, 0, 0, 0, 0, 0, 0, 0, 0⟩ 5 (by simp) (by omega) (by decide) (by omega))
  have HP := Lib.hid (hp2.new a2)
  have T2 := Lib.hid ((T1.out.trans t2 (fun b hb => .inr (by have := HL.out; simp at hb; omega))).trans a2 (by simp))
  clear hp2 t2 a2 H1 T1
  go_wp2_with fail
  refine (H2.out).mono ?_
  rintro e w3 ⟨rfl, t3⟩
  generalize w2.alloc (.cells #[.int .i64 u1, .int .i64 v1] 68) = w2' at *
  have a3 : Touch [] w3 (w3.alloc (.cells #[.int .i64 0, .int .i64 0] 68)) := (Touch.refl [] w3).alloc _
  have hp3 := (HP.out.new t3).new a3
  have H3 := Lib.hid (put_yes_lit (m := 0) hp3 ⟨0, 40, 0, 0, 0, 0, 0, 0, 0, 0⟩ 1 (by simp) (by omega) (by omega) (by simp) (by omega) (by decide) (by omega) (by simp [putP]))
  have T3 := Lib.hid ((T2.out.trans t3 (by simp)).trans a3 (by simp))
  clear hp3 t3 a3 HP H2 T2
  go_wp2_with fail
  refine (H3.out).mono ?_
  rintro e w4 ⟨u3, v3, rfl, hp4, t4⟩
  generalize w3.alloc (.cells #[.int .i64 0, .int .i64 0] 68) = w3' at *
  have a4 : Touch [] w4 (w4.alloc (.cells #[.int .i64 u3, .int .i64 v3] 68)) := (Touch.refl [] w4).alloc _
  have H4 := Lib.hid (put_no_lit (hp4.new a4) ⟨0, 1, 0, 0, 0, 0, 0, 0, 0, 0⟩ 4 (by simp) (by omega) (by decide) (by omega))
  have T4 := Lib.hid ((T3.out.trans t4 (fun b hb => .inr (by have := HL.out; simp at hb; omega))).trans a4 (by simp))
  clear hp4 t4 a4 H3 T3
  go_wp2_with fail
  refine (H4.out).mono ?_
  rintro e w5 ⟨rfl, t5⟩
  generalize w4.alloc (.cells #[.int .i64 u3, .int .i64 v3] 68) = w4' at *
  have T5 := Lib.hid ((T4.out.trans t5 (by simp)).alloc (.cells #[.int .i64 0, .int .i64 0] 68))
  clear t5 H4 T4
  go_wp2_with fail
  go_ret
  exact ⟨rfl, T5.out⟩
end Go.Proofs.Ytkbjkijcabmbpaa
