/-
  ClassTells: for every two classes and all bits of their shares the law on class's Right, Units, Same and Borrows returns true. No conditions.
-/
import Derived.Test.YtinbicpefhnmnaaClassTellsA
import Derived.Test.YtinbicpefhnmnaaClassTellsB
import Derived.Test.YtinbicpefhnmnaaClassTellsC
import Derived.Test.YtinbicpefhnmnaaClassTellsD
namespace Go.Proofs.Ytinbicpefhnmnaa
open Go.ChangeShapes Go.WideShapes Go.ChangeAt Go.RowKit Go.Joins Go.Deep
set_option linter.unusedVariables false

theorem classTells_walk (a b : Cl) (m n : Nat) (hm : m < 18446744073709551616) (hn : n < 18446744073709551616) (w : World) :
    Calls Try.prog 3 #[.agg a.cells, .agg b.cells, .agg #[.int .u64 (m : Int), .int .u64 (n : Int)]] w fun e w' => e = .returned (.bool true) ∧ Below w.heap.size w w' := by
  cases hb : a.bounded <;> cases hr : (rightV ({ a with share := m } : Cl) != 0)
  · exact classTells_D a b m n hb hr hm hn w
  · exact classTells_C a b m n hb hr hm hn w
  · exact classTells_B a b m n hb hr hm hn w
  · exact classTells_A a b m n hb hr hm hn w

set_option maxRecDepth 100000 in
theorem classTells_calls : LawCalls Try.prog 3 Try.f3 := by
  intro H enc W base args ds p hval hA hlt
  rw [Try.params3] at hA hval
  obtain ⟨v0, vs0, d0, ds0, p0, q0, hargs, rfl, rfl, h0, r0⟩ := trodAll_cons hA
  obtain ⟨v1, vs1, d1, ds1, p1, q1, rfl, rfl, rfl, h1, r1⟩ := trodAll_cons r0
  obtain ⟨v2, vs2, d2, ds2, p2, q2, rfl, rfl, rfl, h2, r2⟩ := trodAll_cons r1
  obtain ⟨rfl, rfl, rfl⟩ := trodAll_nil r2
  obtain rfl : args = #[v0, v1, v2] := by cases args; simp_all
  obtain ⟨a, rfl, ha⟩ := open_class (hval 0 24 v0 rfl rfl) h0
  obtain ⟨b, rfl, hb⟩ := open_class (hval 1 24 v1 rfl rfl) h1
  obtain ⟨m, n, rfl, hm, hn⟩ := open_bits2 (hval 2 26 v2 rfl rfl) h2
  exact classTells_walk a b m n hm hn W

set_option maxRecDepth 100000 in
theorem classTells_lifted (os : Os) (started : os.Started) (H : Type) (enc : TypeId × Value → H) :
    ReturnsInHanded {} Try.checked os 3 .any (Rows.classTellsSpec.pre6 enc Try.prog Try.f3 Rows.classTellsRow.domain false) (Rows.classTellsSpec.post enc Try.prog Try.f3 false true false false) := by
  refine returnsInHanded_of_change (C := Try.checked) own started (by kernel_rfl) Try.func3
    (ChangeSpec.witness6 (enc := enc) (C := Try.checked) false ⟨#[], #[.agg #[.int .i64 0, .int .i64 0, .float .f64 0, .int .i64 0, .int .i64 0, .int .i64 0, .int .i64 0, .int .i64 0, .int .i64 0, .bool false, .bool false], .agg #[.int .i64 0, .int .i64 0, .float .f64 0, .int .i64 0, .int .i64 0, .int .i64 0, .int .i64 0, .int .i64 0, .int .i64 0, .bool false, .bool false], .agg #[.int .u64 0, .int .u64 0]], []⟩ 8 (by kernel_rfl) (by kernel_rfl) (by kernel_rfl) (by kernel_rfl)) ?_
  intro W base args ds gs before hval hW _ _
  exact law_contract laidOut (by kernel_rfl) rfl rfl boolType (fun ds h => by match ds, h with | [_, _, _], _ => rfl) classTells_calls W base args ds gs before hval hW

theorem classTells_holds : Rows.ClassTellsSaid :=
  OpenClaim.holds_of_wide 3 Try.f3 rfl rfl rfl rfl rfl rfl rfl ⟨rfl, rfl, rfl, rfl, rfl⟩ rfl rfl rfl rfl rfl (by kernel_rfl) Try.func3 (by kernel_rfl)
    (of_decide_eq_true (by kernel_rfl)) (by unfold Func.isWrapper; first | (rw [if_pos (by decide +kernel)]; kernel_rfl) | (rw [if_neg (by decide +kernel)]; exact ⟨rfl, rfl⟩))
    (fun os started H enc _ => classTells_lifted os started H enc)
#print axioms classTells_holds
end Go.Proofs.Ytinbicpefhnmnaa
