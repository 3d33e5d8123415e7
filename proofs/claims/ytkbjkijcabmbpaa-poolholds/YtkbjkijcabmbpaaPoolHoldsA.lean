/-
  PoolHolds: more than forty packets.
-/
import Derived.Test.YtkbjkijcabmbpaaPoolLives
import Derived.Test.YtkbjkijcabmbpaaPool5
namespace Go.Proofs.Ytkbjkijcabmbpaa
open Go.ChangeShapes Go.WideShapes Go.ChangeAt Go.RowKit Go.Deep Go.Maps
set_option linter.unusedVariables false
set_option linter.unusedSimpArgs false

set_option maxRecDepth 100000 in
set_option maxHeartbeats 3200000 in
theorem holds_long (sl rm : Int) (A : Option Addr) (n c : Nat) (w : World) (hn : 40 < n) :
    Calls Try.prog 6 #[.int .u8 sl, .int .u16 rm, .slice A n c] w fun e w' => e = .returned (.bool true) ∧ Touch [] w w' := by
  have g1 : (n : Int) > 40 := by omega
  have N1 := Lib.hid (fun w => put_nil ⟨0, 1, 0, 0, 0, 0, 0, 0, 0, 0⟩ w)
  have N2 := Lib.hid (fun w => get_nil 0 0 w)
  have N3 := Lib.hid (fun w => free_nil 0 0 w)
  have N4 := Lib.hid (fun w => fits_nil 1 w)
  have N5 := Lib.hid (fun w => slots_nil w)
  have N6 := Lib.hid (fun w => bytes_nil w)
  have N7 := Lib.hid (fun w => poolCopy_nil w)
  have N8 := Lib.hid (fun w => poolLives_any w)
  unfold GetPost zeroPk zeroH Pk.cells at *
  go_enter Try.func6, Try.ntmps6
  go_wp2_with fail
  refine (N1.out _).mono ?_
  rintro e w1 ⟨rfl, t1⟩
  have T1 := Lib.hid (t1.alloc (.cells #[.int .i64 0, .int .i64 0] 68))
  clear t1 N1
  go_wp2_with fail
  refine (N2.out _).mono ?_
  rintro e w2 ⟨rfl, t2⟩
  have T2 := Lib.hid ((T1.out.trans t2 (by simp)).alloc (.cells #[.int .i64 0, .int .i64 0, .int .i64 0, .int .u64 0, .int .u64 0, .int .u64 0, .int .u64 0, .int .i64 0, .int .i64 0, .int .i64 0] 66))
  clear T1 t2 N2
  go_wp2_with fail
  refine (N3.out _).mono ?_
  rintro e w3 ⟨rfl, t3⟩
  have T3 := Lib.hid ((T2.out.trans t3 (by simp)).alloc (.cells #[.int .i64 0, .int .i64 0, .int .i64 0, .int .u64 0, .int .u64 0, .int .u64 0, .int .u64 0, .int .i64 0, .int .i64 0, .int .i64 0] 66))
  clear T2 t3 N3
  go_wp2_with fail
  refine (N4.out _).mono ?_
  rintro e w4 ⟨rfl, rfl⟩
  go_wp2_with fail
  refine (N5.out _).mono ?_
  rintro e w5 ⟨rfl, rfl⟩
  go_wp2_with fail
  refine (N6.out _).mono ?_
  rintro e w6 ⟨rfl, rfl⟩
  go_wp2_with fail
  refine (N7.out _).mono ?_
  rintro e w7 ⟨rfl, rfl⟩
  generalize w3.alloc (.cells #[.int .i64 0, .int .i64 0, .int .i64 0, .int .u64 0, .int .u64 0, .int .u64 0, .int .u64 0, .int .i64 0, .int .i64 0, .int .i64 0] 66) = w4 at *
  clear N4 N5 N6 N7
  go_wp2_with fail
  refine (N8.out _).mono ?_
  rintro e w8 ⟨rfl, t8⟩
  have T8 := Lib.hid (T3.out.trans t8 (by simp))
  clear t8 N8 T3
  go_wp2_with fail
  go_ret
  exact ⟨rfl, T8.out⟩
end Go.Proofs.Ytkbjkijcabmbpaa
