/-
  No cell of these rows narrows 'for every input' (looked for: loops, veiled, ifaces, maps, wideKeys, modest, calm, conditions, laid).
  DERIVED. THE GIVEN ROWS OF THIS SEAT. 5 by the template 'for every input the law returns true; each argument reads behind the call as it read before'; 0 by the template 'total and deterministic' (their statements: YtonchibngcoefaaTotals.lean).
  GIVEN WITH THE SEED: the statements are not yours to turn. If you find one false, say at which input.
  Laid BY PROGRAM, IN A SANDBOX (cutbox-rows.mjs): the forced cells as the released guide's own fill.sh prints them over the translation d378c70bf67d7dea… (all of the seat's roots in one cut). By AI agents, Wed Nov 11 2026. No macro, syntax, notation, axiom, sorry.
-/
import Derived.Test.YtonchibngcoefaaChecked
import GoSem.Claim
import GoSem.ClaimJoined
import GoSem.ClaimMapViews
import Derived.JoinedTies
import Derived.KernelRfl
namespace Go.Proofs.Ytonchibngcoefaa
/- THE CELL 'sum', in the pinned program and in every row, IS THE sha256 OF THE DUMP (.gsa) THAT YtonchibngcoefaaProg.lean LOADS. Nothing in Lean hashes anything: it is a label: what it is worth is what the hold of that sum in a sandbox is worth. -/
noncomputable def Try.pinned : Pinned := { name := "ytonchibngcoefaa", sum := "d378c70bf67d7deab3b4b1128cf0fd7b55e1fd11390bbcbe5b4fedd80648998c", checked := Try.checked }
namespace Rows
def none {H : Type} : Left H := { results := [], args := [] }

/-- 'flashlocklaw09.OctetsReads': WHATEVER THE INPUT: true; the input reads as it did. -/
def octetsReadsSpec : ChangeSpec := { name := "octetsReads", fn := fun _ => fun
  | [d1, d2] => { results := [.lit (.bool true)], args := [d1, d2] }
  | _ => none }
def octetsReadsRow : OpenClaim := { program := "ytonchibngcoefaa", sum := "d378c70bf67d7deab3b4b1128cf0fd7b55e1fd11390bbcbe5b4fedd80648998c", func := "flashlock/flashlocklaw09.OctetsReads", spec := "octetsReads", inPlace := ["math.Float64frombits"], unfollowed := true, recurses := true, apart := false }
def OctetsReadsSaid : Prop := octetsReadsRow.holds Try.pinned (OpenSpec.ofChange octetsReadsSpec)

/-- ITS FALSE NEIGHBOUR: 'it returns false'. Refute it at one input. -/
def octetsReadsWrong : ChangeSpec := { name := "octetsReads", fn := fun _ => fun
  | [d1, d2] => { results := [.lit (.bool false)], args := [d1, d2] }
  | _ => none }
def OctetsReadsWrongFalsely : Prop := octetsReadsRow.holds Try.pinned (OpenSpec.ofChange octetsReadsWrong)

/-- 'flashlocklaw10.InetBytes': WHATEVER THE INPUT: true; the input reads as it did. -/
def inetBytesSpec : ChangeSpec := { name := "inetBytes", fn := fun _ => fun
  | [d1, d2, d3] => { results := [.lit (.bool true)], args := [d1, d2, d3] }
  | _ => none }
def inetBytesRow : OpenClaim := { program := "ytonchibngcoefaa", sum := "d378c70bf67d7deab3b4b1128cf0fd7b55e1fd11390bbcbe5b4fedd80648998c", func := "flashlock/flashlocklaw10.InetBytes", spec := "inetBytes", unfollowed := true, recurses := true, apart := false }
def InetBytesSaid : Prop := inetBytesRow.holds Try.pinned (OpenSpec.ofChange inetBytesSpec)

/-- ITS FALSE NEIGHBOUR: 'it returns false'. Refute it at one input. -/
def inetBytesWrong : ChangeSpec := { name := "inetBytes", fn := fun _ => fun
  | [d1, d2, d3] => { results := [.lit (.bool false)], args := [d1, d2, d3] }
  | _ => none }
def InetBytesWrongFalsely : Prop := inetBytesRow.holds Try.pinned (OpenSpec.ofChange inetBytesWrong)

/-- 'flashlocklaw11.Ipv4Tells': WHATEVER THE INPUT: true; the input reads as it did. -/
def ipv4TellsSpec : ChangeSpec := { name := "ipv4Tells", fn := fun _ => fun
  | [d] => { results := [.lit (.bool true)], args := [d] }
  | _ => none }
def ipv4TellsRow : OpenClaim := { program := "ytonchibngcoefaa", sum := "d378c70bf67d7deab3b4b1128cf0fd7b55e1fd11390bbcbe5b4fedd80648998c", func := "flashlock/flashlocklaw11.Ipv4Tells", spec := "ipv4Tells", unfollowed := true, recurses := true, apart := false }
def Ipv4TellsSaid : Prop := ipv4TellsRow.holds Try.pinned (OpenSpec.ofChange ipv4TellsSpec)

/-- ITS FALSE NEIGHBOUR: 'it returns false'. Refute it at one input. -/
def ipv4TellsWrong : ChangeSpec := { name := "ipv4Tells", fn := fun _ => fun
  | [d] => { results := [.lit (.bool false)], args := [d] }
  | _ => none }
def Ipv4TellsWrongFalsely : Prop := ipv4TellsRow.holds Try.pinned (OpenSpec.ofChange ipv4TellsWrong)

/-- 'flashlocklaw11.Ipv4Makes': WHATEVER THE INPUT: true; the input reads as it did. -/
def ipv4MakesSpec : ChangeSpec := { name := "ipv4Makes", fn := fun _ => fun
  | [d1, d2] => { results := [.lit (.bool true)], args := [d1, d2] }
  | _ => none }
def ipv4MakesRow : OpenClaim := { program := "ytonchibngcoefaa", sum := "d378c70bf67d7deab3b4b1128cf0fd7b55e1fd11390bbcbe5b4fedd80648998c", func := "flashlock/flashlocklaw11.Ipv4Makes", spec := "ipv4Makes", recurses := true, apart := false }
def Ipv4MakesSaid : Prop := ipv4MakesRow.holds Try.pinned (OpenSpec.ofChange ipv4MakesSpec)

/-- ITS FALSE NEIGHBOUR: 'it returns false'. Refute it at one input. -/
def ipv4MakesWrong : ChangeSpec := { name := "ipv4Makes", fn := fun _ => fun
  | [d1, d2] => { results := [.lit (.bool false)], args := [d1, d2] }
  | _ => none }
def Ipv4MakesWrongFalsely : Prop := ipv4MakesRow.holds Try.pinned (OpenSpec.ofChange ipv4MakesWrong)

/-- 'flashlocklaw11.Ipv4Back': WHATEVER THE INPUT: true; the input reads as it did. -/
def ipv4BackSpec : ChangeSpec := { name := "ipv4Back", fn := fun _ => fun
  | [d1, d2, d3] => { results := [.lit (.bool true)], args := [d1, d2, d3] }
  | _ => none }
def ipv4BackRow : OpenClaim := { program := "ytonchibngcoefaa", sum := "d378c70bf67d7deab3b4b1128cf0fd7b55e1fd11390bbcbe5b4fedd80648998c", func := "flashlock/flashlocklaw11.Ipv4Back", spec := "ipv4Back", unfollowed := true, recurses := true, apart := false }
def Ipv4BackSaid : Prop := ipv4BackRow.holds Try.pinned (OpenSpec.ofChange ipv4BackSpec)

/-- ITS FALSE NEIGHBOUR: 'it returns false'. Refute it at one input. -/
def ipv4BackWrong : ChangeSpec := { name := "ipv4Back", fn := fun _ => fun
  | [d1, d2, d3] => { results := [.lit (.bool false)], args := [d1, d2, d3] }
  | _ => none }
def Ipv4BackWrongFalsely : Prop := ipv4BackRow.holds Try.pinned (OpenSpec.ofChange ipv4BackWrong)

/- THE SECOND FORM. 'bulk': how many values and letters a reading holds, each counted each time it is reached (what is shared counts as often as it is met; a slice's spare places count too). A statement '..UptoSaid' is the law's where the arguments, and the package variables that the reading takes, are together of bulk at most 1048576: NARROWER than '..Said'. Prove '..Said' where nothing that the law and all that it calls make is longer than what came in: it says more and counts as full. Else prove '..UptoSaid'. A law counts once. -/
mutual
def uptoBulk {H : Type} : DataW H → Nat
  | .lit (.string bytes) => bytes.length + 1
  | .lit _ => 1
  | .nil => 1
  | .ptr d => uptoBulk d + 1
  | .slice elems spare => uptoBulkAll elems + uptoBulkAll spare + 1
  | .agg parts => uptoBulkAll parts + 1
  | .iface _ d => uptoBulk d + 1
  | .map entries => uptoBulkEntries entries + 1
  | .held _ => 1
def uptoBulkAll {H : Type} : List (DataW H) → Nat
  | [] => 0
  | d :: r => uptoBulk d + uptoBulkAll r
def uptoBulkEntries {H : Type} : List (Lit × DataW H) → Nat
  | [] => 0
  | x :: r => uptoBulkEntry x + uptoBulkEntries r
def uptoBulkEntry {H : Type} : Lit × DataW H → Nat
  | (.string bytes, d) => bytes.length + uptoBulk d + 1
  | (_, d) => uptoBulk d + 1
 end
def uptoSmall : (H : Type) → List (DataW H) → Bool := fun _ ds => decide (uptoBulkAll ds ≤ 1048576)
def OpenSpec.upto (s : _root_.Go.ChangeSpec) : _root_.Go.OpenSpec := { _root_.Go.OpenSpec.ofChange s with cond := some uptoSmall }

/-- 'flashlocklaw09.OctetsReads', WHERE WHAT IT READS IS OF BULK AT MOST 1048576: true; the input reads as it did. -/
def octetsReadsUptoRow : OpenClaim := { program := "ytonchibngcoefaa", sum := "d378c70bf67d7deab3b4b1128cf0fd7b55e1fd11390bbcbe5b4fedd80648998c", func := "flashlock/flashlocklaw09.OctetsReads", spec := "octetsReads", inPlace := ["math.Float64frombits"], unfollowed := true, recurses := true, apart := false, narrowed := true }
def OctetsReadsUptoSaid : Prop := octetsReadsUptoRow.holds Try.pinned (OpenSpec.upto octetsReadsSpec)

/-- 'flashlocklaw10.InetBytes', WHERE WHAT IT READS IS OF BULK AT MOST 1048576: true; the input reads as it did. -/
def inetBytesUptoRow : OpenClaim := { program := "ytonchibngcoefaa", sum := "d378c70bf67d7deab3b4b1128cf0fd7b55e1fd11390bbcbe5b4fedd80648998c", func := "flashlock/flashlocklaw10.InetBytes", spec := "inetBytes", unfollowed := true, recurses := true, apart := false, narrowed := true }
def InetBytesUptoSaid : Prop := inetBytesUptoRow.holds Try.pinned (OpenSpec.upto inetBytesSpec)

/-- 'flashlocklaw11.Ipv4Tells', WHERE WHAT IT READS IS OF BULK AT MOST 1048576: true; the input reads as it did. -/
def ipv4TellsUptoRow : OpenClaim := { program := "ytonchibngcoefaa", sum := "d378c70bf67d7deab3b4b1128cf0fd7b55e1fd11390bbcbe5b4fedd80648998c", func := "flashlock/flashlocklaw11.Ipv4Tells", spec := "ipv4Tells", unfollowed := true, recurses := true, apart := false, narrowed := true }
def Ipv4TellsUptoSaid : Prop := ipv4TellsUptoRow.holds Try.pinned (OpenSpec.upto ipv4TellsSpec)

/-- 'flashlocklaw11.Ipv4Makes', WHERE WHAT IT READS IS OF BULK AT MOST 1048576: true; the input reads as it did. -/
def ipv4MakesUptoRow : OpenClaim := { program := "ytonchibngcoefaa", sum := "d378c70bf67d7deab3b4b1128cf0fd7b55e1fd11390bbcbe5b4fedd80648998c", func := "flashlock/flashlocklaw11.Ipv4Makes", spec := "ipv4Makes", recurses := true, apart := false, narrowed := true }
def Ipv4MakesUptoSaid : Prop := ipv4MakesUptoRow.holds Try.pinned (OpenSpec.upto ipv4MakesSpec)

/-- 'flashlocklaw11.Ipv4Back', WHERE WHAT IT READS IS OF BULK AT MOST 1048576: true; the input reads as it did. -/
def ipv4BackUptoRow : OpenClaim := { program := "ytonchibngcoefaa", sum := "d378c70bf67d7deab3b4b1128cf0fd7b55e1fd11390bbcbe5b4fedd80648998c", func := "flashlock/flashlocklaw11.Ipv4Back", spec := "ipv4Back", unfollowed := true, recurses := true, apart := false, narrowed := true }
def Ipv4BackUptoSaid : Prop := ipv4BackUptoRow.holds Try.pinned (OpenSpec.upto ipv4BackSpec)

end Rows
end Go.Proofs.Ytonchibngcoefaa
