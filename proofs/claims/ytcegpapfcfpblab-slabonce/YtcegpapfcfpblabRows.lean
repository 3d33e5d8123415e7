/-
  No cell of these rows narrows 'for every input' (looked for: loops, veiled, ifaces, maps, wideKeys, modest, calm, conditions, laid).
  DERIVED. THE GIVEN ROWS OF THIS SEAT. 6 by the template 'for every input the law returns true; each argument reads behind the call as it read before'; 0 by the template 'total and deterministic' (their statements: YtcegpapfcfpblabTotals.lean).
  GIVEN WITH THE SEED: the statements are not yours to turn. If you find one false, say at which input.
  Laid BY PROGRAM, IN A SANDBOX (cutbox-rows.mjs): the forced cells as the released guide's own fill.sh prints them over the translation 7bd53c2e31f2a2dc… (all of the seat's roots in one cut). By AI agents, Wed Nov 11 2026. No macro, syntax, notation, axiom, sorry.
-/
import Derived.Test.YtcegpapfcfpblabChecked
import GoSem.Claim
import GoSem.ClaimJoined
import GoSem.ClaimMapViews
import Derived.JoinedTies
import Derived.KernelRfl
namespace Go.Proofs.Ytcegpapfcfpblab
/- THE CELL 'sum', in the pinned program and in every row, IS THE sha256 OF THE DUMP (.gsa) THAT YtcegpapfcfpblabProg.lean LOADS. Nothing in Lean hashes anything: it is a label: what it is worth is what the hold of that sum in a sandbox is worth. -/
noncomputable def Try.pinned : Pinned := { name := "ytcegpapfcfpblab", sum := "7bd53c2e31f2a2dc472020326d94c6b438c9edc7f891e0d1fae8b11cf3a899aa", checked := Try.checked }
namespace Rows
def none {H : Type} : Left H := { results := [], args := [] }

/-- 'flashlocklaw06.SlabPlays': WHATEVER THE INPUT: true; the input reads as it did. -/
def slabPlaysSpec : ChangeSpec := { name := "slabPlays", fn := fun _ => fun
  | [d1, d2] => { results := [.lit (.bool true)], args := [d1, d2] }
  | _ => none }
def slabPlaysRow : OpenClaim := { program := "ytcegpapfcfpblab", sum := "7bd53c2e31f2a2dc472020326d94c6b438c9edc7f891e0d1fae8b11cf3a899aa", func := "flashlock/flashlocklaw06.SlabPlays", spec := "slabPlays", apart := false }
def SlabPlaysSaid : Prop := slabPlaysRow.holds Try.pinned (OpenSpec.ofChange slabPlaysSpec)

/-- ITS FALSE NEIGHBOUR: 'it returns false'. Refute it at one input. -/
def slabPlaysWrong : ChangeSpec := { name := "slabPlays", fn := fun _ => fun
  | [d1, d2] => { results := [.lit (.bool false)], args := [d1, d2] }
  | _ => none }
def SlabPlaysWrongFalsely : Prop := slabPlaysRow.holds Try.pinned (OpenSpec.ofChange slabPlaysWrong)

/-- 'flashlocklaw06.SlabOnce': WHATEVER THE INPUT: true; the input reads as it did. -/
def slabOnceSpec : ChangeSpec := { name := "slabOnce", fn := fun _ => fun
  | [d1, d2] => { results := [.lit (.bool true)], args := [d1, d2] }
  | _ => none }
def slabOnceRow : OpenClaim := { program := "ytcegpapfcfpblab", sum := "7bd53c2e31f2a2dc472020326d94c6b438c9edc7f891e0d1fae8b11cf3a899aa", func := "flashlock/flashlocklaw06.SlabOnce", spec := "slabOnce", apart := false }
def SlabOnceSaid : Prop := slabOnceRow.holds Try.pinned (OpenSpec.ofChange slabOnceSpec)

/-- ITS FALSE NEIGHBOUR: 'it returns false'. Refute it at one input. -/
def slabOnceWrong : ChangeSpec := { name := "slabOnce", fn := fun _ => fun
  | [d1, d2] => { results := [.lit (.bool false)], args := [d1, d2] }
  | _ => none }
def SlabOnceWrongFalsely : Prop := slabOnceRow.holds Try.pinned (OpenSpec.ofChange slabOnceWrong)

/-- 'flashlocklaw07.ChainPlays': WHATEVER THE INPUT: true; the input reads as it did. -/
def chainPlaysSpec : ChangeSpec := { name := "chainPlays", fn := fun _ => fun
  | [d1, d2, d3] => { results := [.lit (.bool true)], args := [d1, d2, d3] }
  | _ => none }
def chainPlaysRow : OpenClaim := { program := "ytcegpapfcfpblab", sum := "7bd53c2e31f2a2dc472020326d94c6b438c9edc7f891e0d1fae8b11cf3a899aa", func := "flashlock/flashlocklaw07.ChainPlays", spec := "chainPlays", unfollowed := true, recurses := true, apart := false }
def ChainPlaysSaid : Prop := chainPlaysRow.holds Try.pinned (OpenSpec.ofChange chainPlaysSpec)

/-- ITS FALSE NEIGHBOUR: 'it returns false'. Refute it at one input. -/
def chainPlaysWrong : ChangeSpec := { name := "chainPlays", fn := fun _ => fun
  | [d1, d2, d3] => { results := [.lit (.bool false)], args := [d1, d2, d3] }
  | _ => none }
def ChainPlaysWrongFalsely : Prop := chainPlaysRow.holds Try.pinned (OpenSpec.ofChange chainPlaysWrong)

/-- 'flashlocklaw07.ChainOrders': WHATEVER THE INPUT: true; the input reads as it did. -/
def chainOrdersSpec : ChangeSpec := { name := "chainOrders", fn := fun _ => fun
  | [d1, d2] => { results := [.lit (.bool true)], args := [d1, d2] }
  | _ => none }
def chainOrdersRow : OpenClaim := { program := "ytcegpapfcfpblab", sum := "7bd53c2e31f2a2dc472020326d94c6b438c9edc7f891e0d1fae8b11cf3a899aa", func := "flashlock/flashlocklaw07.ChainOrders", spec := "chainOrders", unfollowed := true, recurses := true, apart := false }
def ChainOrdersSaid : Prop := chainOrdersRow.holds Try.pinned (OpenSpec.ofChange chainOrdersSpec)

/-- ITS FALSE NEIGHBOUR: 'it returns false'. Refute it at one input. -/
def chainOrdersWrong : ChangeSpec := { name := "chainOrders", fn := fun _ => fun
  | [d1, d2] => { results := [.lit (.bool false)], args := [d1, d2] }
  | _ => none }
def ChainOrdersWrongFalsely : Prop := chainOrdersRow.holds Try.pinned (OpenSpec.ofChange chainOrdersWrong)

/-- 'flashlocklaw28.CutoffRuns': WHATEVER THE INPUT: true; the input reads as it did. -/
def cutoffRunsSpec : ChangeSpec := { name := "cutoffRuns", fn := fun _ => fun
  | [d1, d2] => { results := [.lit (.bool true)], args := [d1, d2] }
  | _ => none }
def cutoffRunsRow : OpenClaim := { program := "ytcegpapfcfpblab", sum := "7bd53c2e31f2a2dc472020326d94c6b438c9edc7f891e0d1fae8b11cf3a899aa", func := "flashlock/flashlocklaw28.CutoffRuns", spec := "cutoffRuns", apart := false }
def CutoffRunsSaid : Prop := cutoffRunsRow.holds Try.pinned (OpenSpec.ofChange cutoffRunsSpec)

/-- ITS FALSE NEIGHBOUR: 'it returns false'. Refute it at one input. -/
def cutoffRunsWrong : ChangeSpec := { name := "cutoffRuns", fn := fun _ => fun
  | [d1, d2] => { results := [.lit (.bool false)], args := [d1, d2] }
  | _ => none }
def CutoffRunsWrongFalsely : Prop := cutoffRunsRow.holds Try.pinned (OpenSpec.ofChange cutoffRunsWrong)

/-- 'flashlocklaw28.CutoffStays': WHATEVER THE INPUT: true; the input reads as it did. -/
def cutoffStaysSpec : ChangeSpec := { name := "cutoffStays", fn := fun _ => fun
  | [d1, d2] => { results := [.lit (.bool true)], args := [d1, d2] }
  | _ => none }
def cutoffStaysRow : OpenClaim := { program := "ytcegpapfcfpblab", sum := "7bd53c2e31f2a2dc472020326d94c6b438c9edc7f891e0d1fae8b11cf3a899aa", func := "flashlock/flashlocklaw28.CutoffStays", spec := "cutoffStays", apart := false }
def CutoffStaysSaid : Prop := cutoffStaysRow.holds Try.pinned (OpenSpec.ofChange cutoffStaysSpec)

/-- ITS FALSE NEIGHBOUR: 'it returns false'. Refute it at one input. -/
def cutoffStaysWrong : ChangeSpec := { name := "cutoffStays", fn := fun _ => fun
  | [d1, d2] => { results := [.lit (.bool false)], args := [d1, d2] }
  | _ => none }
def CutoffStaysWrongFalsely : Prop := cutoffStaysRow.holds Try.pinned (OpenSpec.ofChange cutoffStaysWrong)

/- THE SECOND FORM. 'bulk': how many values and letters a reading holds, each counted each time it is reached (what is shared counts as often as it is met; a slice's spare places count too). A statement '..UptoSaid' is the law's where the arguments, and the package variables that the reading takes, are together of bulk at most 1048576: NARROWER than '..Said'. Prove '..Said' where nothing that the law and all that it calls make is longer than what came in: it says more and counts as full. Else prove '..UptoSaid'. A law counts once. -/
mutual
def uptoBulk {H : Type} : DataW H → Nat
  | .lit (.string bytes) => bytes.length + 1
  | .lit _ => 1
  | .nil => 1
  | .ptr d => uptoBulk d + 1
  | .slice elems spare => uptoBulkAll elems + uptoBulkAll spare + 1
  | .agg parts => uptoBulkAll parts + 1
  | .iface _ d => uptoBulk d + 1
  | .map entries => uptoBulkEntries entries + 1
  | .held _ => 1
def uptoBulkAll {H : Type} : List (DataW H) → Nat
  | [] => 0
  | d :: r => uptoBulk d + uptoBulkAll r
def uptoBulkEntries {H : Type} : List (Lit × DataW H) → Nat
  | [] => 0
  | x :: r => uptoBulkEntry x + uptoBulkEntries r
def uptoBulkEntry {H : Type} : Lit × DataW H → Nat
  | (.string bytes, d) => bytes.length + uptoBulk d + 1
  | (_, d) => uptoBulk d + 1
 end
def uptoSmall : (H : Type) → List (DataW H) → Bool := fun _ ds => decide (uptoBulkAll ds ≤ 1048576)
def OpenSpec.upto (s : _root_.Go.ChangeSpec) : _root_.Go.OpenSpec := { _root_.Go.OpenSpec.ofChange s with cond := some uptoSmall }

/-- 'flashlocklaw06.SlabPlays', WHERE WHAT IT READS IS OF BULK AT MOST 1048576: true; the input reads as it did. -/
def slabPlaysUptoRow : OpenClaim := { program := "ytcegpapfcfpblab", sum := "7bd53c2e31f2a2dc472020326d94c6b438c9edc7f891e0d1fae8b11cf3a899aa", func := "flashlock/flashlocklaw06.SlabPlays", spec := "slabPlays", apart := false, narrowed := true }
def SlabPlaysUptoSaid : Prop := slabPlaysUptoRow.holds Try.pinned (OpenSpec.upto slabPlaysSpec)

/-- 'flashlocklaw06.SlabOnce', WHERE WHAT IT READS IS OF BULK AT MOST 1048576: true; the input reads as it did. -/
def slabOnceUptoRow : OpenClaim := { program := "ytcegpapfcfpblab", sum := "7bd53c2e31f2a2dc472020326d94c6b438c9edc7f891e0d1fae8b11cf3a899aa", func := "flashlock/flashlocklaw06.SlabOnce", spec := "slabOnce", apart := false, narrowed := true }
def SlabOnceUptoSaid : Prop := slabOnceUptoRow.holds Try.pinned (OpenSpec.upto slabOnceSpec)

/-- 'flashlocklaw07.ChainPlays', WHERE WHAT IT READS IS OF BULK AT MOST 1048576: true; the input reads as it did. -/
def chainPlaysUptoRow : OpenClaim := { program := "ytcegpapfcfpblab", sum := "7bd53c2e31f2a2dc472020326d94c6b438c9edc7f891e0d1fae8b11cf3a899aa", func := "flashlock/flashlocklaw07.ChainPlays", spec := "chainPlays", unfollowed := true, recurses := true, apart := false, narrowed := true }
def ChainPlaysUptoSaid : Prop := chainPlaysUptoRow.holds Try.pinned (OpenSpec.upto chainPlaysSpec)

/-- 'flashlocklaw07.ChainOrders', WHERE WHAT IT READS IS OF BULK AT MOST 1048576: true; the input reads as it did. -/
def chainOrdersUptoRow : OpenClaim := { program := "ytcegpapfcfpblab", sum := "7bd53c2e31f2a2dc472020326d94c6b438c9edc7f891e0d1fae8b11cf3a899aa", func := "flashlock/flashlocklaw07.ChainOrders", spec := "chainOrders", unfollowed := true, recurses := true, apart := false, narrowed := true }
def ChainOrdersUptoSaid : Prop := chainOrdersUptoRow.holds Try.pinned (OpenSpec.upto chainOrdersSpec)

/-- 'flashlocklaw28.CutoffRuns', WHERE WHAT IT READS IS OF BULK AT MOST 1048576: true; the input reads as it did. -/
def cutoffRunsUptoRow : OpenClaim := { program := "ytcegpapfcfpblab", sum := "7bd53c2e31f2a2dc472020326d94c6b438c9edc7f891e0d1fae8b11cf3a899aa", func := "flashlock/flashlocklaw28.CutoffRuns", spec := "cutoffRuns", apart := false, narrowed := true }
def CutoffRunsUptoSaid : Prop := cutoffRunsUptoRow.holds Try.pinned (OpenSpec.upto cutoffRunsSpec)

/-- 'flashlocklaw28.CutoffStays', WHERE WHAT IT READS IS OF BULK AT MOST 1048576: true; the input reads as it did. -/
def cutoffStaysUptoRow : OpenClaim := { program := "ytcegpapfcfpblab", sum := "7bd53c2e31f2a2dc472020326d94c6b438c9edc7f891e0d1fae8b11cf3a899aa", func := "flashlock/flashlocklaw28.CutoffStays", spec := "cutoffStays", apart := false, narrowed := true }
def CutoffStaysUptoSaid : Prop := cutoffStaysUptoRow.holds Try.pinned (OpenSpec.upto cutoffStaysSpec)

end Rows
end Go.Proofs.Ytcegpapfcfpblab
