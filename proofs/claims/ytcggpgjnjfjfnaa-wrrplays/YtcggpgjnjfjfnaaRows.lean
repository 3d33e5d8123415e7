/-
  No cell of these rows narrows 'for every input' (looked for: loops, veiled, ifaces, maps, wideKeys, modest, calm, conditions, laid).
  DERIVED. THE GIVEN ROWS OF THIS SEAT. 4 by the template 'for every input the law returns true; each argument reads behind the call as it read before'; 0 by the template 'total and deterministic' (their statements: YtcggpgjnjfjfnaaTotals.lean).
  GIVEN WITH THE SEED: the statements are not yours to turn. If you find one false, say at which input.
  Laid BY PROGRAM, IN A SANDBOX (cutbox-rows.mjs): the forced cells as the released guide's own fill.sh prints them over the translation fd437e76dfc31d5e… (all of the seat's roots in one cut). By AI agents, Wed Nov 11 2026. No macro, syntax, notation, axiom, sorry.
-/
import Derived.Test.YtcggpgjnjfjfnaaChecked
import GoSem.Claim
import GoSem.ClaimJoined
import GoSem.ClaimMapViews
import Derived.JoinedTies
import Derived.KernelRfl
namespace Go.Proofs.Ytcggpgjnjfjfnaa
/- THE CELL 'sum', in the pinned program and in every row, IS THE sha256 OF THE DUMP (.gsa) THAT YtcggpgjnjfjfnaaProg.lean LOADS. Nothing in Lean hashes anything: it is a label: what it is worth is what the hold of that sum in a sandbox is worth. -/
noncomputable def Try.pinned : Pinned := { name := "ytcggpgjnjfjfnaa", sum := "fd437e76dfc31d5e7404dbdeaa60bac9c981fa1531fb807f7ad23c1b80a28e93", checked := Try.checked }
namespace Rows
def none {H : Type} : Left H := { results := [], args := [] }

/-- 'flashlocklaw31.WrrPlays': WHATEVER THE INPUT: true; the input reads as it did. -/
def wrrPlaysSpec : ChangeSpec := { name := "wrrPlays", fn := fun _ => fun
  | [d] => { results := [.lit (.bool true)], args := [d] }
  | _ => none }
def wrrPlaysRow : OpenClaim := { program := "ytcggpgjnjfjfnaa", sum := "fd437e76dfc31d5e7404dbdeaa60bac9c981fa1531fb807f7ad23c1b80a28e93", func := "flashlock/flashlocklaw31.WrrPlays", spec := "wrrPlays", inPlace := ["maps.clone"], unfollowed := true, recurses := true, apart := false }
def WrrPlaysSaid : Prop := wrrPlaysRow.holds Try.pinned (OpenSpec.ofChange wrrPlaysSpec)

/-- ITS FALSE NEIGHBOUR: 'it returns false'. Refute it at one input. -/
def wrrPlaysWrong : ChangeSpec := { name := "wrrPlays", fn := fun _ => fun
  | [d] => { results := [.lit (.bool false)], args := [d] }
  | _ => none }
def WrrPlaysWrongFalsely : Prop := wrrPlaysRow.holds Try.pinned (OpenSpec.ofChange wrrPlaysWrong)

/-- 'flashlocklaw31.WrrServes': WHATEVER THE INPUT: true; the input reads as it did. -/
def wrrServesSpec : ChangeSpec := { name := "wrrServes", fn := fun _ => fun
  | [d1, d2, d3] => { results := [.lit (.bool true)], args := [d1, d2, d3] }
  | _ => none }
def wrrServesRow : OpenClaim := { program := "ytcggpgjnjfjfnaa", sum := "fd437e76dfc31d5e7404dbdeaa60bac9c981fa1531fb807f7ad23c1b80a28e93", func := "flashlock/flashlocklaw31.WrrServes", spec := "wrrServes", apart := false }
def WrrServesSaid : Prop := wrrServesRow.holds Try.pinned (OpenSpec.ofChange wrrServesSpec)

/-- ITS FALSE NEIGHBOUR: 'it returns false'. Refute it at one input. -/
def wrrServesWrong : ChangeSpec := { name := "wrrServes", fn := fun _ => fun
  | [d1, d2, d3] => { results := [.lit (.bool false)], args := [d1, d2, d3] }
  | _ => none }
def WrrServesWrongFalsely : Prop := wrrServesRow.holds Try.pinned (OpenSpec.ofChange wrrServesWrong)

/-- 'flashlocklaw31.WrrNone': WHATEVER THE INPUT: true; the input reads as it did. -/
def wrrNoneSpec : ChangeSpec := { name := "wrrNone", fn := fun _ => fun
  | [d1, d2, d3] => { results := [.lit (.bool true)], args := [d1, d2, d3] }
  | _ => none }
def wrrNoneRow : OpenClaim := { program := "ytcggpgjnjfjfnaa", sum := "fd437e76dfc31d5e7404dbdeaa60bac9c981fa1531fb807f7ad23c1b80a28e93", func := "flashlock/flashlocklaw31.WrrNone", spec := "wrrNone", inPlace := ["maps.clone"], unfollowed := true, recurses := true, apart := false }
def WrrNoneSaid : Prop := wrrNoneRow.holds Try.pinned (OpenSpec.ofChange wrrNoneSpec)

/-- ITS FALSE NEIGHBOUR: 'it returns false'. Refute it at one input. -/
def wrrNoneWrong : ChangeSpec := { name := "wrrNone", fn := fun _ => fun
  | [d1, d2, d3] => { results := [.lit (.bool false)], args := [d1, d2, d3] }
  | _ => none }
def WrrNoneWrongFalsely : Prop := wrrNoneRow.holds Try.pinned (OpenSpec.ofChange wrrNoneWrong)

/-- 'flashlocklaw29.RingPlays': WHATEVER THE INPUT: true; the input reads as it did. -/
def ringPlaysSpec : ChangeSpec := { name := "ringPlays", fn := fun _ => fun
  | [d1, d2] => { results := [.lit (.bool true)], args := [d1, d2] }
  | _ => none }
def ringPlaysRow : OpenClaim := { program := "ytcggpgjnjfjfnaa", sum := "fd437e76dfc31d5e7404dbdeaa60bac9c981fa1531fb807f7ad23c1b80a28e93", func := "flashlock/flashlocklaw29.RingPlays", spec := "ringPlays", unfollowed := true, recurses := true, apart := false }
def RingPlaysSaid : Prop := ringPlaysRow.holds Try.pinned (OpenSpec.ofChange ringPlaysSpec)

/-- ITS FALSE NEIGHBOUR: 'it returns false'. Refute it at one input. -/
def ringPlaysWrong : ChangeSpec := { name := "ringPlays", fn := fun _ => fun
  | [d1, d2] => { results := [.lit (.bool false)], args := [d1, d2] }
  | _ => none }
def RingPlaysWrongFalsely : Prop := ringPlaysRow.holds Try.pinned (OpenSpec.ofChange ringPlaysWrong)

/- THE SECOND FORM. 'bulk': how many values and letters a reading holds, each counted each time it is reached (what is shared counts as often as it is met; a slice's spare places count too). A statement '..UptoSaid' is the law's where the arguments, and the package variables that the reading takes, are together of bulk at most 1048576: NARROWER than '..Said'. Prove '..Said' where nothing that the law and all that it calls make is longer than what came in: it says more and counts as full. Else prove '..UptoSaid'. A law counts once. -/
mutual
def uptoBulk {H : Type} : DataW H → Nat
  | .lit (.string bytes) => bytes.length + 1
  | .lit _ => 1
  | .nil => 1
  | .ptr d => uptoBulk d + 1
  | .slice elems spare => uptoBulkAll elems + uptoBulkAll spare + 1
  | .agg parts => uptoBulkAll parts + 1
  | .iface _ d => uptoBulk d + 1
  | .map entries => uptoBulkEntries entries + 1
  | .held _ => 1
def uptoBulkAll {H : Type} : List (DataW H) → Nat
  | [] => 0
  | d :: r => uptoBulk d + uptoBulkAll r
def uptoBulkEntries {H : Type} : List (Lit × DataW H) → Nat
  | [] => 0
  | x :: r => uptoBulkEntry x + uptoBulkEntries r
def uptoBulkEntry {H : Type} : Lit × DataW H → Nat
  | (.string bytes, d) => bytes.length + uptoBulk d + 1
  | (_, d) => uptoBulk d + 1
 end
def uptoSmall : (H : Type) → List (DataW H) → Bool := fun _ ds => decide (uptoBulkAll ds ≤ 1048576)
def OpenSpec.upto (s : _root_.Go.ChangeSpec) : _root_.Go.OpenSpec := { _root_.Go.OpenSpec.ofChange s with cond := some uptoSmall }

/-- 'flashlocklaw31.WrrPlays', WHERE WHAT IT READS IS OF BULK AT MOST 1048576: true; the input reads as it did. -/
def wrrPlaysUptoRow : OpenClaim := { program := "ytcggpgjnjfjfnaa", sum := "fd437e76dfc31d5e7404dbdeaa60bac9c981fa1531fb807f7ad23c1b80a28e93", func := "flashlock/flashlocklaw31.WrrPlays", spec := "wrrPlays", inPlace := ["maps.clone"], unfollowed := true, recurses := true, apart := false, narrowed := true }
def WrrPlaysUptoSaid : Prop := wrrPlaysUptoRow.holds Try.pinned (OpenSpec.upto wrrPlaysSpec)

/-- 'flashlocklaw31.WrrServes', WHERE WHAT IT READS IS OF BULK AT MOST 1048576: true; the input reads as it did. -/
def wrrServesUptoRow : OpenClaim := { program := "ytcggpgjnjfjfnaa", sum := "fd437e76dfc31d5e7404dbdeaa60bac9c981fa1531fb807f7ad23c1b80a28e93", func := "flashlock/flashlocklaw31.WrrServes", spec := "wrrServes", apart := false, narrowed := true }
def WrrServesUptoSaid : Prop := wrrServesUptoRow.holds Try.pinned (OpenSpec.upto wrrServesSpec)

/-- 'flashlocklaw31.WrrNone', WHERE WHAT IT READS IS OF BULK AT MOST 1048576: true; the input reads as it did. -/
def wrrNoneUptoRow : OpenClaim := { program := "ytcggpgjnjfjfnaa", sum := "fd437e76dfc31d5e7404dbdeaa60bac9c981fa1531fb807f7ad23c1b80a28e93", func := "flashlock/flashlocklaw31.WrrNone", spec := "wrrNone", inPlace := ["maps.clone"], unfollowed := true, recurses := true, apart := false, narrowed := true }
def WrrNoneUptoSaid : Prop := wrrNoneUptoRow.holds Try.pinned (OpenSpec.upto wrrNoneSpec)

/-- 'flashlocklaw29.RingPlays', WHERE WHAT IT READS IS OF BULK AT MOST 1048576: true; the input reads as it did. -/
def ringPlaysUptoRow : OpenClaim := { program := "ytcggpgjnjfjfnaa", sum := "fd437e76dfc31d5e7404dbdeaa60bac9c981fa1531fb807f7ad23c1b80a28e93", func := "flashlock/flashlocklaw29.RingPlays", spec := "ringPlays", unfollowed := true, recurses := true, apart := false, narrowed := true }
def RingPlaysUptoSaid : Prop := ringPlaysUptoRow.holds Try.pinned (OpenSpec.upto ringPlaysSpec)

end Rows
end Go.Proofs.Ytcggpgjnjfjfnaa
