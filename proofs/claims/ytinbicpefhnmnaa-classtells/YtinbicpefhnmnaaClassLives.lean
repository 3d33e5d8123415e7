/-
  The example of the laws of layer 17 (class).
-/
import Derived.Test.YtinbicpefhnmnaaClassSame
import Derived.Test.YtinbicpefhnmnaaClassRight
import Derived.Test.YtinbicpefhnmnaaClassRef
import Derived.Test.YtinbicpefhnmnaaFresh2
import Derived.Test.YtinbicpefhnmnaaInts
import Derived.Test.YtinbicpefhnmnaaFill
import Derived.Deep.Cut
namespace Go.Proofs.Ytinbicpefhnmnaa
open Go.ChangeShapes Go.WideShapes Go.ChangeAt Go.RowKit Go.Joins Go.Deep
set_option linter.unusedVariables false

/-- The classes of the example. -/
def exL (sh : Nat) : Cl := ⟨1, 0, sh, 0, 1, 1, 0, 0, 0, false, false⟩
theorem exL_two : rightV (exL 4611686018427387904) = 13 := by
  have h := unit_out (x := 4611686018427387904) (by unfold isN rung; omega) (.inr (by unfold key sgn rung; simp))
  unfold rightV exL
  simp only [h.1, h.2]
  decide
theorem exL_one : rightV (exL 4607182418800017408) = 0 := by
  have h := unit_in (x := 4607182418800017408) isN_one (by rw [key_one]; omega)
  have hu : unitsOf 4607182418800017408 = 1048576 := by
    unfold unitsOf
    rw [show rung 4607182418800017408 = 4607182418800017408 by unfold rung; omega, V_one]
    have e : 2 ^ U * 2 ^ 20 = 1048576 * 2 ^ U := by rw [Nat.mul_comm]
    rw [e, RE_whole]
  rw [hu] at h
  unfold rightV exL
  simp only [h.1, h.2]
  decide
theorem exL_nan : rightV (exL 9221120237041090560) = 21 := by
  have h := unit_nan (x := 9221120237041090560) (by unfold isN rung; omega)
  unfold rightV exL
  simp only [h.1, h.2]
  decide

set_option maxHeartbeats 1000000 in
theorem classLives (w : World) : Calls Try.prog 16 #[] w fun e w' => e = .returned (.bool true) ∧ Touch [] w w' := by
  have R1 := Lib.hid (fun w => right_any (exL 4611686018427387904) (by unfold exL; simp) w)
  have R2 := Lib.hid (fun w => right_any (exL 4607182418800017408) (by unfold exL; simp) w)
  have R3 := Lib.hid (fun w => right_any (exL 9221120237041090560) (by unfold exL; simp) w)
  have OF := Lib.hid (fun w => lawOf (exL 4607182418800017408) 9221120237041090560 w)
  rw [exL_two] at R1
  rw [exL_one] at R2
  rw [exL_nan] at R3
  dsimp only [Cl.cells, exL] at R1 R2 R3 OF
  have sf : ∀ (w : World) (a : Addr) (b : Nat), (store a (.float .f64 b)).run Try.prog w = stored Try.prog w a (.float .f64 b) .plain := fun w a b => run_store _ w a _ _ rfl
  go_enter Try.func16, Try.ntmps16
  go_wp2_with fail
  refine (R1.out _).mono ?_
  rintro e w1 ⟨rfl, t1⟩
  have X := (BoxV.new w 24 #[.int .i64 1, .int .i64 0, .float .f64 4611686018427387904, .int .i64 0, .int .i64 1, .int .i64 1, .int .i64 0, .int .i64 0, .int .i64 0, .bool false, .bool false]).carry t1 (by simp)
  have T1 := Lib.hid (((Touch.refl [] w).alloc (.cells #[.int .i64 1, .int .i64 0, .float .f64 4611686018427387904, .int .i64 0, .int .i64 1, .int .i64 1, .int .i64 0, .int .i64 0, .int .i64 0, .bool false, .bool false] 24)).trans t1 (by simp))
  have k0 := X.cell 0
  have k1 := X.cell 1
  have k2 := X.cell 2
  have k3 := X.cell 3
  have k4 := X.cell 4
  have k5 := X.cell 5
  have k6 := X.cell 6
  have k7 := X.cell 7
  have k8 := X.cell 8
  have k9 := X.cell 9
  have k10 := X.cell 10
  have lt1 := X.lt
  have fz := X.fr
  have Y : BoxV _ w.heap.size 24 #[.int .i64 1, .int .i64 0, .float .f64 4607182418800017408, .int .i64 0, .int .i64 1, .int .i64 1, .int .i64 0, .int .i64 0, .int .i64 0, .bool false, .bool false] := X.set 2 (.float .f64 4607182418800017408)
  have HY := Lib.hid Y
  have T2 := Lib.hid (T1.out.setCell (a := ⟨w.heap.size, 2, none⟩) (by simp) (.float .f64 4607182418800017408))
  clear t1 X Y T1
  go_wp2_with fail
  refine (R2.out _).mono ?_
  rintro e w2 ⟨rfl, t2⟩
  have Y2 := HY.out.carry t2 (by simp)
  have T3 := Lib.hid (T2.out.trans t2 (by simp))
  clear k0 k1 k2 k3 k4 k5 k6 k7 k8 k9 k10 lt1 fz t2 T2
  have k0 := Y2.cell 0
  have k1 := Y2.cell 1
  have k2 := Y2.cell 2
  have k3 := Y2.cell 3
  have k4 := Y2.cell 4
  have k5 := Y2.cell 5
  have k6 := Y2.cell 6
  have k7 := Y2.cell 7
  have k8 := Y2.cell 8
  have k9 := Y2.cell 9
  have k10 := Y2.cell 10
  have lt1 := Y2.lt
  clear Y2
  go_wp2_with fail
  refine (OF.out _).mono ?_
  rintro e w3 ⟨rfl, t3⟩
  have T4 := Lib.hid (T3.out.trans t3 (by simp))
  clear k0 k1 k2 k3 k4 k5 k6 k7 k8 k9 k10 lt1 t3 T3
  go_wp2_with fail
  refine (R3.out _).mono ?_
  rintro e w4 ⟨rfl, t4⟩
  have T5 := Lib.hid (T4.out.trans t4 (by simp))
  clear t4 T4
  go_wp2_with fail
  go_ret
  exact ⟨rfl, T5.out⟩


section
variable {H : Type} {enc : TypeId × Value → H} {w : World} {base : Nat} {sp : Nat → Bool}
/-- Two numbers of 64 bits that came in by value. -/
theorem open_bits2 {v : Value} {d : DataW H} {p : List MemPlace} {r : Reach} {b0 : Nat} (hv : Value.okWide Try.prog w r b0 26 v) (h : DataW.Trod enc Try.prog w base sp true 26 v d p) :
    ∃ m n : Nat, v = .agg #[.int .u64 (m : Int), .int .u64 (n : Int)] ∧ m < 18446744073709551616 ∧ n < 18446744073709551616 := by
  have hC : Try.prog.cellsOf 25 = 1 := by kernel_rfl
  obtain ⟨cs, rfl, hsz⟩ := okWide_array Try.underlying26 hv
  have hs : cs.size = 2 := hsz.trans (by kernel_rfl)
  obtain ⟨fuel, hf⟩ := h
  obtain ⟨xs, k, _, _, hlen, hn, hi⟩ := DataW.trod_array Try.underlying26 hf
  obtain ⟨l⟩ := cs
  match l, hs with
  | [a, b], _ =>
    have g0 := hi 0 (by omega)
    have g1 := hi 1 (by omega)
    rw [List.getElem?_eq_getElem (by omega), hC] at g0 g1
    simp [Value.cells] at g0 g1
    obtain ⟨x, rfl, wx⟩ := cell_int Try.underlying25 g0
    obtain ⟨y, rfl, wy⟩ := cell_int Try.underlying25 g1
    have bx := u64_in wx
    have by' := u64_in wy
    obtain ⟨m, rfl⟩ := Int.eq_ofNat_of_zero_le bx.1
    obtain ⟨n, rfl⟩ := Int.eq_ofNat_of_zero_le by'.1
    exact ⟨m, n, rfl, by omega, by omega⟩
end
end Go.Proofs.Ytinbicpefhnmnaa
