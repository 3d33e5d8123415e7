/-
  The reference's readers of bytes (layer 9): Take, Num, Signed.
-/
import Derived.Test.YtpmnnaghadpnnaaVarBack
import Derived.Deep.Cut
import Derived.Deep.RegionWith
namespace Go.Proofs.Ytpmnnaghadpnnaa
open Go.ChangeShapes Go.WideShapes Go.ChangeAt Go.RowKit Go.Deep
set_option linter.unusedVariables false
set_option linter.unusedSimpArgs false

/-- A reader of the reference: what is left, and the error's number. -/
def rv (l : List UInt8) (k : Int) : Value := .agg #[.string (S l), .int .i64 k]
def emptyS : ByteArray := ⟨#[]⟩
theorem t2w (w : World) (a b : Obj) : Touch [] w ((w.alloc a).alloc b) := ((Touch.refl [] w).alloc a).alloc b

set_option maxRecDepth 100000 in
theorem refTake_err (l : List UInt8) (k n : Int) (hk : k ≠ 0) (w : World) :
    Calls Try.prog 28 #[rv l k, .int .i64 n] w fun e w' => e = .returned (.tuple #[rv l k, .string (S [])]) ∧ Touch [] w w' := by
  have b1 : (k != 0) = true := by simpa using hk
  unfold rv
  go_enter Try.func28, Try.ntmps28
  go_wp2_with fail
  refine bodyPost_ret (v := .tuple #[.agg #[.string (S l), .int .i64 k], .string (S [])]) (by simp [results, Try.results28, go_sem]; rfl) rfl ?_
  exact ⟨rfl, t2w _ _ _⟩
set_option maxRecDepth 100000 in
theorem refTake_neg (l : List UInt8) (n : Int) (hn : n < 0) (w : World) :
    Calls Try.prog 28 #[rv l 0, .int .i64 n] w fun e w' => e = .returned (.tuple #[rv l 2, .string (S [])]) ∧ Touch [] w w' := by
  unfold rv
  go_enter Try.func28, Try.ntmps28
  go_wp2_with fail
  refine bodyPost_ret (v := .tuple #[.agg #[.string (S l), .int .i64 2], .string (S [])]) (by simp [results, Try.results28, go_sem]; rfl) rfl ?_
  exact ⟨rfl, t2w _ _ _⟩
set_option maxRecDepth 100000 in
theorem refTake_short (l : List UInt8) (n : Int) (hn : (l.length : Int) < n) (w : World) :
    Calls Try.prog 28 #[rv l 0, .int .i64 n] w fun e w' => e = .returned (.tuple #[rv l 5, .string (S [])]) ∧ Touch [] w w' := by
  have hz := S_size l
  have h0 : ¬ (n < 0) := by omega
  unfold rv
  go_enter Try.func28, Try.ntmps28
  go_wp2_with fail
  refine bodyPost_ret (v := .tuple #[.agg #[.string (S l), .int .i64 5], .string (S [])]) (by simp [results, Try.results28, go_sem]; rfl) rfl ?_
  exact ⟨rfl, t2w _ _ _⟩
set_option maxHeartbeats 1000000 in
set_option maxRecDepth 100000 in
theorem refTake_ok (l : List UInt8) (n : Nat) (hn : n ≤ l.length) (hl : l.length ≤ 1000000000) (w : World) :
    Calls Try.prog 28 #[rv l 0, .int .i64 (n : Int)] w fun e w' => e = .returned (.tuple #[rv (l.drop n) 0, .string (S (l.take n))]) ∧ Touch [] w w' := by
  have hz := S_size l
  have h1 : ¬ ((l.length : Int) < (n : Int)) := by omega
  have s1 := S_take l n
  have s2 := S_drop l n
  have hx : (n : Int) ≤ (l.length : Int) := by omega
  unfold rv
  go_enter Try.func28, Try.ntmps28
  go_upto_region 7 with fail
  go_region
  all_goals go_wp2_with fail
  all_goals refine bodyPost_ret (v := .tuple #[.agg #[.string (S (l.drop n)), .int .i64 0], .string (S (l.take n))]) (by simp [results, Try.results28, go_sem]) rfl ?_
  all_goals exact ⟨rfl, by first | exact (t2w _ _ _).drew | exact t2w _ _ _⟩

theorem refSigned (x : Nat) (hx : x < 18446744073709551616) (w : World) : Calls Try.prog 36 #[.int .u64 (x : Int)] w fun e w' => e = .returned (.int .i64 (unzz x)) ∧ w' = w := by
  have ew : wrap64 ((x : Int) / 2) = (x : Int) / 2 := by unfold wrap64; omega
  have ew' : IntKind.i64.wrap ((x : Int) / 2) = (x : Int) / 2 := by rw [IntKind.wrap_i64]; omega
  by_cases h : x % 2 = 0
  · have q : unzz x = (x : Int) / 2 := by unfold unzz; rw [if_pos h]; omega
    rw [q]
    have b1 : ((x : Int) % 2 == 0) = true := by simp; omega
    have b2 : ((x : Int).tmod 2 == 0) = true := by rw [Int.tmod_eq_emod_of_nonneg (by omega)]; exact b1
    go_enter Try.func36, Try.ntmps36
    go_wp2_with fail
    go_ret
    exact ⟨rfl, rfl⟩
  · have q : unzz x = -((x : Int) / 2) - 1 := by unfold unzz; rw [if_neg h]; omega
    rw [q]
    have b1 : ((x : Int) % 2 == 0) = false := by simp; omega
    have b2 : ((x : Int).tmod 2 == 0) = false := by rw [Int.tmod_eq_emod_of_nonneg (by omega)]; exact b1
    go_enter Try.func36, Try.ntmps36
    go_wp2_with fail
    go_ret
    exact ⟨rfl, rfl⟩
end Go.Proofs.Ytpmnnaghadpnnaa
