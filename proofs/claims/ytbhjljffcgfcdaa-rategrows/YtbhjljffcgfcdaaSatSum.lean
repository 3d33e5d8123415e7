/-
  Contracts of sat.Sum, sat.Diff and of their references.
-/
import Derived.Test.YtbhjljffcgfcdaaSat
namespace Go.Proofs.Ytbhjljffcgfcdaa
open Go.ChangeShapes Go.WideShapes Go.ChangeAt Go.RowKit
set_option linter.unusedVariables false

def fits (x : Int) : Prop := -9223372036854775808 ≤ x ∧ x ≤ 9223372036854775807
theorem wrap_over {x : Int} (h : 9223372036854775807 < x) (h' : x < 18446744073709551616) : wrap64 x = x - 18446744073709551616 := by unfold wrap64; omega
theorem wrap_under {x : Int} (h : x < -9223372036854775808) (h' : -18446744073709551617 < x) : wrap64 x = x + 18446744073709551616 := by unfold wrap64; omega

def tup (x : Int) (b : Bool) : Value := .tuple #[.int .i64 x, .bool b]

end Go.Proofs.Ytbhjljffcgfcdaa
