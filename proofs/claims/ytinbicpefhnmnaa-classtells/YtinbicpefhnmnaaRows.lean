/-
  No cell of these rows narrows 'for every input' (looked for: loops, veiled, ifaces, maps, wideKeys, modest, calm, conditions, laid).
  DERIVED. THE GIVEN ROWS OF THIS SEAT. 5 by the template 'for every input the law returns true; each argument reads behind the call as it read before'; 0 by the template 'total and deterministic' (their statements: YtinbicpefhnmnaaTotals.lean).
  GIVEN WITH THE SEED: the statements are not yours to turn. If you find one false, say at which input.
  Laid BY PROGRAM, IN A SANDBOX (cutbox-rows.mjs): the forced cells as the released guide's own fill.sh prints them over the translation 34e28b9a2fb0cb72… (all of the seat's roots in one cut). By AI agents, Wed Nov 11 2026. No macro, syntax, notation, axiom, sorry.
-/
import Derived.Test.YtinbicpefhnmnaaChecked
import GoSem.Claim
import GoSem.ClaimJoined
import GoSem.ClaimMapViews
import Derived.JoinedTies
import Derived.KernelRfl
namespace Go.Proofs.Ytinbicpefhnmnaa
/- THE CELL 'sum', in the pinned program and in every row, IS THE sha256 OF THE DUMP (.gsa) THAT YtinbicpefhnmnaaProg.lean LOADS. Nothing in Lean hashes anything: it is a label: what it is worth is what the hold of that sum in a sandbox is worth. -/
noncomputable def Try.pinned : Pinned := { name := "ytinbicpefhnmnaa", sum := "34e28b9a2fb0cb7276d110247c7e06b491eb3f98a09cc8408eb422646ab3b5d7", checked := Try.checked }
namespace Rows
def none {H : Type} : Left H := { results := [], args := [] }

/-- 'flashlocklaw17.ClassTells': WHATEVER THE INPUT: true; the input reads as it did. -/
def classTellsSpec : ChangeSpec := { name := "classTells", fn := fun _ => fun
  | [d1, d2, d3] => { results := [.lit (.bool true)], args := [d1, d2, d3] }
  | _ => none }
def classTellsRow : OpenClaim := { program := "ytinbicpefhnmnaa", sum := "34e28b9a2fb0cb7276d110247c7e06b491eb3f98a09cc8408eb422646ab3b5d7", func := "flashlock/flashlocklaw17.ClassTells", spec := "classTells", inPlace := ["math.Float64frombits", "math.Float64bits", "math.RoundToEven"], apart := false }
def ClassTellsSaid : Prop := classTellsRow.holds Try.pinned (OpenSpec.ofChange classTellsSpec)

/-- ITS FALSE NEIGHBOUR: 'it returns false'. Refute it at one input. -/
def classTellsWrong : ChangeSpec := { name := "classTells", fn := fun _ => fun
  | [d1, d2, d3] => { results := [.lit (.bool false)], args := [d1, d2, d3] }
  | _ => none }
def ClassTellsWrongFalsely : Prop := classTellsRow.holds Try.pinned (OpenSpec.ofChange classTellsWrong)

/-- 'flashlocklaw17.ClassSorts': WHATEVER THE INPUT: true; the input reads as it did. -/
def classSortsSpec : ChangeSpec := { name := "classSorts", fn := fun _ => fun
  | [d1, d2] => { results := [.lit (.bool true)], args := [d1, d2] }
  | _ => none }
def classSortsRow : OpenClaim := { program := "ytinbicpefhnmnaa", sum := "34e28b9a2fb0cb7276d110247c7e06b491eb3f98a09cc8408eb422646ab3b5d7", func := "flashlock/flashlocklaw17.ClassSorts", spec := "classSorts", inPlace := ["math.Float64bits", "math.Float64frombits", "math.RoundToEven"], unfollowed := true, recurses := true, apart := false }
def ClassSortsSaid : Prop := classSortsRow.holds Try.pinned (OpenSpec.ofChange classSortsSpec)

/-- ITS FALSE NEIGHBOUR: 'it returns false'. Refute it at one input. -/
def classSortsWrong : ChangeSpec := { name := "classSorts", fn := fun _ => fun
  | [d1, d2] => { results := [.lit (.bool false)], args := [d1, d2] }
  | _ => none }
def ClassSortsWrongFalsely : Prop := classSortsRow.holds Try.pinned (OpenSpec.ofChange classSortsWrong)

/-- 'flashlocklaw25.IdleTells': WHATEVER THE INPUT: true; the input reads as it did. -/
def idleTellsSpec : ChangeSpec := { name := "idleTells", fn := fun _ => fun
  | [d1, d2, d3] => { results := [.lit (.bool true)], args := [d1, d2, d3] }
  | _ => none }
def idleTellsRow : OpenClaim := { program := "ytinbicpefhnmnaa", sum := "34e28b9a2fb0cb7276d110247c7e06b491eb3f98a09cc8408eb422646ab3b5d7", func := "flashlock/flashlocklaw25.IdleTells", spec := "idleTells", inPlace := ["math.Float64bits", "math.Float64frombits", "math.RoundToEven"], apart := false }
def IdleTellsSaid : Prop := idleTellsRow.holds Try.pinned (OpenSpec.ofChange idleTellsSpec)

/-- ITS FALSE NEIGHBOUR: 'it returns false'. Refute it at one input. -/
def idleTellsWrong : ChangeSpec := { name := "idleTells", fn := fun _ => fun
  | [d1, d2, d3] => { results := [.lit (.bool false)], args := [d1, d2, d3] }
  | _ => none }
def IdleTellsWrongFalsely : Prop := idleTellsRow.holds Try.pinned (OpenSpec.ofChange idleTellsWrong)

/-- 'flashlocklaw25.IdlePaced': WHATEVER THE INPUT: true; the input reads as it did. -/
def idlePacedSpec : ChangeSpec := { name := "idlePaced", fn := fun _ => fun
  | [d1, d2, d3] => { results := [.lit (.bool true)], args := [d1, d2, d3] }
  | _ => none }
def idlePacedRow : OpenClaim := { program := "ytinbicpefhnmnaa", sum := "34e28b9a2fb0cb7276d110247c7e06b491eb3f98a09cc8408eb422646ab3b5d7", func := "flashlock/flashlocklaw25.IdlePaced", spec := "idlePaced", inPlace := ["math.Float64bits", "math.Float64frombits", "math.RoundToEven"], apart := false }
def IdlePacedSaid : Prop := idlePacedRow.holds Try.pinned (OpenSpec.ofChange idlePacedSpec)

/-- ITS FALSE NEIGHBOUR: 'it returns false'. Refute it at one input. -/
def idlePacedWrong : ChangeSpec := { name := "idlePaced", fn := fun _ => fun
  | [d1, d2, d3] => { results := [.lit (.bool false)], args := [d1, d2, d3] }
  | _ => none }
def IdlePacedWrongFalsely : Prop := idlePacedRow.holds Try.pinned (OpenSpec.ofChange idlePacedWrong)

/-- 'flashlocklaw25.IdleWaits': WHATEVER THE INPUT: true; the input reads as it did. -/
def idleWaitsSpec : ChangeSpec := { name := "idleWaits", fn := fun _ => fun
  | [d1, d2, d3] => { results := [.lit (.bool true)], args := [d1, d2, d3] }
  | _ => none }
def idleWaitsRow : OpenClaim := { program := "ytinbicpefhnmnaa", sum := "34e28b9a2fb0cb7276d110247c7e06b491eb3f98a09cc8408eb422646ab3b5d7", func := "flashlock/flashlocklaw25.IdleWaits", spec := "idleWaits", inPlace := ["math.Float64bits", "math.Float64frombits", "math.RoundToEven"], apart := false }
def IdleWaitsSaid : Prop := idleWaitsRow.holds Try.pinned (OpenSpec.ofChange idleWaitsSpec)

/-- ITS FALSE NEIGHBOUR: 'it returns false'. Refute it at one input. -/
def idleWaitsWrong : ChangeSpec := { name := "idleWaits", fn := fun _ => fun
  | [d1, d2, d3] => { results := [.lit (.bool false)], args := [d1, d2, d3] }
  | _ => none }
def IdleWaitsWrongFalsely : Prop := idleWaitsRow.holds Try.pinned (OpenSpec.ofChange idleWaitsWrong)

/- THE SECOND FORM. 'bulk': how many values and letters a reading holds, each counted each time it is reached (what is shared counts as often as it is met; a slice's spare places count too). A statement '..UptoSaid' is the law's where the arguments, and the package variables that the reading takes, are together of bulk at most 1048576: NARROWER than '..Said'. Prove '..Said' where nothing that the law and all that it calls make is longer than what came in: it says more and counts as full. Else prove '..UptoSaid'. A law counts once. -/
mutual
def uptoBulk {H : Type} : DataW H → Nat
  | .lit (.string bytes) => bytes.length + 1
  | .lit _ => 1
  | .nil => 1
  | .ptr d => uptoBulk d + 1
  | .slice elems spare => uptoBulkAll elems + uptoBulkAll spare + 1
  | .agg parts => uptoBulkAll parts + 1
  | .iface _ d => uptoBulk d + 1
  | .map entries => uptoBulkEntries entries + 1
  | .held _ => 1
def uptoBulkAll {H : Type} : List (DataW H) → Nat
  | [] => 0
  | d :: r => uptoBulk d + uptoBulkAll r
def uptoBulkEntries {H : Type} : List (Lit × DataW H) → Nat
  | [] => 0
  | x :: r => uptoBulkEntry x + uptoBulkEntries r
def uptoBulkEntry {H : Type} : Lit × DataW H → Nat
  | (.string bytes, d) => bytes.length + uptoBulk d + 1
  | (_, d) => uptoBulk d + 1
 end
def uptoSmall : (H : Type) → List (DataW H) → Bool := fun _ ds => decide (uptoBulkAll ds ≤ 1048576)
def OpenSpec.upto (s : _root_.Go.ChangeSpec) : _root_.Go.OpenSpec := { _root_.Go.OpenSpec.ofChange s with cond := some uptoSmall }

/-- 'flashlocklaw17.ClassTells', WHERE WHAT IT READS IS OF BULK AT MOST 1048576: true; the input reads as it did. -/
def classTellsUptoRow : OpenClaim := { program := "ytinbicpefhnmnaa", sum := "34e28b9a2fb0cb7276d110247c7e06b491eb3f98a09cc8408eb422646ab3b5d7", func := "flashlock/flashlocklaw17.ClassTells", spec := "classTells", inPlace := ["math.Float64frombits", "math.Float64bits", "math.RoundToEven"], apart := false, narrowed := true }
def ClassTellsUptoSaid : Prop := classTellsUptoRow.holds Try.pinned (OpenSpec.upto classTellsSpec)

/-- 'flashlocklaw17.ClassSorts', WHERE WHAT IT READS IS OF BULK AT MOST 1048576: true; the input reads as it did. -/
def classSortsUptoRow : OpenClaim := { program := "ytinbicpefhnmnaa", sum := "34e28b9a2fb0cb7276d110247c7e06b491eb3f98a09cc8408eb422646ab3b5d7", func := "flashlock/flashlocklaw17.ClassSorts", spec := "classSorts", inPlace := ["math.Float64bits", "math.Float64frombits", "math.RoundToEven"], unfollowed := true, recurses := true, apart := false, narrowed := true }
def ClassSortsUptoSaid : Prop := classSortsUptoRow.holds Try.pinned (OpenSpec.upto classSortsSpec)

/-- 'flashlocklaw25.IdleTells', WHERE WHAT IT READS IS OF BULK AT MOST 1048576: true; the input reads as it did. -/
def idleTellsUptoRow : OpenClaim := { program := "ytinbicpefhnmnaa", sum := "34e28b9a2fb0cb7276d110247c7e06b491eb3f98a09cc8408eb422646ab3b5d7", func := "flashlock/flashlocklaw25.IdleTells", spec := "idleTells", inPlace := ["math.Float64bits", "math.Float64frombits", "math.RoundToEven"], apart := false, narrowed := true }
def IdleTellsUptoSaid : Prop := idleTellsUptoRow.holds Try.pinned (OpenSpec.upto idleTellsSpec)

/-- 'flashlocklaw25.IdlePaced', WHERE WHAT IT READS IS OF BULK AT MOST 1048576: true; the input reads as it did. -/
def idlePacedUptoRow : OpenClaim := { program := "ytinbicpefhnmnaa", sum := "34e28b9a2fb0cb7276d110247c7e06b491eb3f98a09cc8408eb422646ab3b5d7", func := "flashlock/flashlocklaw25.IdlePaced", spec := "idlePaced", inPlace := ["math.Float64bits", "math.Float64frombits", "math.RoundToEven"], apart := false, narrowed := true }
def IdlePacedUptoSaid : Prop := idlePacedUptoRow.holds Try.pinned (OpenSpec.upto idlePacedSpec)

/-- 'flashlocklaw25.IdleWaits', WHERE WHAT IT READS IS OF BULK AT MOST 1048576: true; the input reads as it did. -/
def idleWaitsUptoRow : OpenClaim := { program := "ytinbicpefhnmnaa", sum := "34e28b9a2fb0cb7276d110247c7e06b491eb3f98a09cc8408eb422646ab3b5d7", func := "flashlock/flashlocklaw25.IdleWaits", spec := "idleWaits", inPlace := ["math.Float64bits", "math.Float64frombits", "math.RoundToEven"], apart := false, narrowed := true }
def IdleWaitsUptoSaid : Prop := idleWaitsUptoRow.holds Try.pinned (OpenSpec.upto idleWaitsSpec)

end Rows
end Go.Proofs.Ytinbicpefhnmnaa
