/-
  NARROWER THAN 'FOR EVERY INPUT', by the rows' own cells (each row's printed sentence says how): Ipv6Tells: laid · Ipv6Makes: laid · Ipv6Back: laid · FlowOf: laid · FlowKeys: laid · FlowBack: laid.
  DERIVED. THE GIVEN ROWS OF THIS SEAT. 6 by the template 'for every input the law returns true; each argument reads behind the call as it read before'; 0 by the template 'total and deterministic' (their statements: YtdpaiegojioimaaDoorTotals.lean).
  GIVEN WITH THE SEED: the statements are not yours to turn. If you find one false, say at which input.
  Laid BY PROGRAM, IN A SANDBOX (cutbox-rows.mjs): the forced cells as the released guide's own fill.sh prints them over the translation a297c7ca53fe625a… (all of the seat's roots in one cut). By AI agents, Wed Nov 11 2026. No macro, syntax, notation, axiom, sorry.
-/
import Derived.Test.YtdpaiegojioimaaDoorChecked
import GoSem.Claim
import GoSem.ClaimJoined
import GoSem.ClaimMapViews
import Derived.JoinedTies
import Derived.KernelRfl
namespace Go.Proofs.YtdpaiegojioimaaDoor
/- THE CELL 'sum', in the pinned program and in every row, IS THE sha256 OF THE DUMP (.gsa) THAT YtdpaiegojioimaaDoorProg.lean LOADS. Nothing in Lean hashes anything: it is a label: what it is worth is what the hold of that sum in a sandbox is worth. -/
noncomputable def Tryd.pinned : Pinned := { name := "ytdpaiegojioimaadoor", sum := "a297c7ca53fe625a23043017f8ea0ab1703d41dc97054f7182f701815d1f34f5", checked := Tryd.checked }
namespace Rows
def none {H : Type} : Left H := { results := [], args := [] }

/- WHAT THE LISTED PACKAGE-LEVEL VARIABLES READ AS WHEN THE CALL BEGINS. Each datum BY PROGRAM (the guide's laid-datum.mjs) off the statement by which the dump's own 'gosem.cut.vars' lays the variable. In a bare row this is a premise. The card (YtdpaiegojioimaaDoorCards.lean) ties it to the program's text. -/
def laid_flashlock_ipv6_known {H : Type} : DataW H := .agg [.lit (.int .i64 0), .lit (.int .i64 43), .lit (.int .i64 44), .lit (.int .i64 60)]

/-- 'flashlocklaw12.Ipv6Tells': WHATEVER THE INPUT: true; the input reads as it did. -/
def ipv6TellsSpec : ChangeSpec := { name := "ipv6Tells", fn := fun _ => fun
  | [d1, d2] => { results := [.lit (.bool true)], args := [d1, d2] }
  | _ => none }
def ipv6TellsRow : OpenClaim := { program := "ytdpaiegojioimaadoor", sum := "a297c7ca53fe625a23043017f8ea0ab1703d41dc97054f7182f701815d1f34f5", func := "flashlock/flashlocklaw12.Ipv6Tells", spec := "ipv6Tells", unfollowed := true, recurses := true, named := ["flashlock/ipv6.known"], apart := false, laid := [("flashlock/ipv6.known", laid_flashlock_ipv6_known)] }
def Ipv6TellsSaid : Prop := ipv6TellsRow.holds Tryd.pinned (OpenSpec.ofChange ipv6TellsSpec)

/-- ITS FALSE NEIGHBOUR: 'it returns false'. Refute it at one input. -/
def ipv6TellsWrong : ChangeSpec := { name := "ipv6Tells", fn := fun _ => fun
  | [d1, d2] => { results := [.lit (.bool false)], args := [d1, d2] }
  | _ => none }
def Ipv6TellsWrongFalsely : Prop := ipv6TellsRow.holds Tryd.pinned (OpenSpec.ofChange ipv6TellsWrong)

/-- 'flashlocklaw12.Ipv6Makes': WHATEVER THE INPUT: true; the input reads as it did. -/
def ipv6MakesSpec : ChangeSpec := { name := "ipv6Makes", fn := fun _ => fun
  | [d1, d2, d3] => { results := [.lit (.bool true)], args := [d1, d2, d3] }
  | _ => none }
def ipv6MakesRow : OpenClaim := { program := "ytdpaiegojioimaadoor", sum := "a297c7ca53fe625a23043017f8ea0ab1703d41dc97054f7182f701815d1f34f5", func := "flashlock/flashlocklaw12.Ipv6Makes", spec := "ipv6Makes", unfollowed := true, recurses := true, named := ["flashlock/ipv6.known"], apart := false, laid := [("flashlock/ipv6.known", laid_flashlock_ipv6_known)] }
def Ipv6MakesSaid : Prop := ipv6MakesRow.holds Tryd.pinned (OpenSpec.ofChange ipv6MakesSpec)

/-- ITS FALSE NEIGHBOUR: 'it returns false'. Refute it at one input. -/
def ipv6MakesWrong : ChangeSpec := { name := "ipv6Makes", fn := fun _ => fun
  | [d1, d2, d3] => { results := [.lit (.bool false)], args := [d1, d2, d3] }
  | _ => none }
def Ipv6MakesWrongFalsely : Prop := ipv6MakesRow.holds Tryd.pinned (OpenSpec.ofChange ipv6MakesWrong)

/-- 'flashlocklaw12.Ipv6Back': WHATEVER THE INPUT: true; the input reads as it did. -/
def ipv6BackSpec : ChangeSpec := { name := "ipv6Back", fn := fun _ => fun
  | [d1, d2, d3] => { results := [.lit (.bool true)], args := [d1, d2, d3] }
  | _ => none }
def ipv6BackRow : OpenClaim := { program := "ytdpaiegojioimaadoor", sum := "a297c7ca53fe625a23043017f8ea0ab1703d41dc97054f7182f701815d1f34f5", func := "flashlock/flashlocklaw12.Ipv6Back", spec := "ipv6Back", unfollowed := true, recurses := true, named := ["flashlock/ipv6.known"], apart := false, laid := [("flashlock/ipv6.known", laid_flashlock_ipv6_known)] }
def Ipv6BackSaid : Prop := ipv6BackRow.holds Tryd.pinned (OpenSpec.ofChange ipv6BackSpec)

/-- ITS FALSE NEIGHBOUR: 'it returns false'. Refute it at one input. -/
def ipv6BackWrong : ChangeSpec := { name := "ipv6Back", fn := fun _ => fun
  | [d1, d2, d3] => { results := [.lit (.bool false)], args := [d1, d2, d3] }
  | _ => none }
def Ipv6BackWrongFalsely : Prop := ipv6BackRow.holds Tryd.pinned (OpenSpec.ofChange ipv6BackWrong)

/-- 'flashlocklaw14.FlowOf': WHATEVER THE INPUT: true; the input reads as it did. -/
def flowOfSpec : ChangeSpec := { name := "flowOf", fn := fun _ => fun
  | [d] => { results := [.lit (.bool true)], args := [d] }
  | _ => none }
def flowOfRow : OpenClaim := { program := "ytdpaiegojioimaadoor", sum := "a297c7ca53fe625a23043017f8ea0ab1703d41dc97054f7182f701815d1f34f5", func := "flashlock/flashlocklaw14.FlowOf", spec := "flowOf", unfollowed := true, recurses := true, named := ["flashlock/ipv6.known"], apart := false, laid := [("flashlock/ipv6.known", laid_flashlock_ipv6_known)] }
def FlowOfSaid : Prop := flowOfRow.holds Tryd.pinned (OpenSpec.ofChange flowOfSpec)

/-- ITS FALSE NEIGHBOUR: 'it returns false'. Refute it at one input. -/
def flowOfWrong : ChangeSpec := { name := "flowOf", fn := fun _ => fun
  | [d] => { results := [.lit (.bool false)], args := [d] }
  | _ => none }
def FlowOfWrongFalsely : Prop := flowOfRow.holds Tryd.pinned (OpenSpec.ofChange flowOfWrong)

/-- 'flashlocklaw14.FlowKeys': WHATEVER THE INPUT: true; the input reads as it did. -/
def flowKeysSpec : ChangeSpec := { name := "flowKeys", fn := fun _ => fun
  | [d1, d2, d3] => { results := [.lit (.bool true)], args := [d1, d2, d3] }
  | _ => none }
def flowKeysRow : OpenClaim := { program := "ytdpaiegojioimaadoor", sum := "a297c7ca53fe625a23043017f8ea0ab1703d41dc97054f7182f701815d1f34f5", func := "flashlock/flashlocklaw14.FlowKeys", spec := "flowKeys", inPlace := ["internal/abi.NoEscape", "internal/bytealg.MakeNoZero"], unfollowed := true, recurses := true, named := ["flashlock/ipv6.known"], apart := false, laid := [("flashlock/ipv6.known", laid_flashlock_ipv6_known)] }
def FlowKeysSaid : Prop := flowKeysRow.holds Tryd.pinned (OpenSpec.ofChange flowKeysSpec)

/-- ITS FALSE NEIGHBOUR: 'it returns false'. Refute it at one input. -/
def flowKeysWrong : ChangeSpec := { name := "flowKeys", fn := fun _ => fun
  | [d1, d2, d3] => { results := [.lit (.bool false)], args := [d1, d2, d3] }
  | _ => none }
def FlowKeysWrongFalsely : Prop := flowKeysRow.holds Tryd.pinned (OpenSpec.ofChange flowKeysWrong)

/-- 'flashlocklaw14.FlowBack': WHATEVER THE INPUT: true; the input reads as it did. -/
def flowBackSpec : ChangeSpec := { name := "flowBack", fn := fun _ => fun
  | [d1, d2] => { results := [.lit (.bool true)], args := [d1, d2] }
  | _ => none }
def flowBackRow : OpenClaim := { program := "ytdpaiegojioimaadoor", sum := "a297c7ca53fe625a23043017f8ea0ab1703d41dc97054f7182f701815d1f34f5", func := "flashlock/flashlocklaw14.FlowBack", spec := "flowBack", inPlace := ["internal/abi.NoEscape", "internal/bytealg.MakeNoZero"], unfollowed := true, recurses := true, named := ["flashlock/ipv6.known"], apart := false, laid := [("flashlock/ipv6.known", laid_flashlock_ipv6_known)] }
def FlowBackSaid : Prop := flowBackRow.holds Tryd.pinned (OpenSpec.ofChange flowBackSpec)

/-- ITS FALSE NEIGHBOUR: 'it returns false'. Refute it at one input. -/
def flowBackWrong : ChangeSpec := { name := "flowBack", fn := fun _ => fun
  | [d1, d2] => { results := [.lit (.bool false)], args := [d1, d2] }
  | _ => none }
def FlowBackWrongFalsely : Prop := flowBackRow.holds Tryd.pinned (OpenSpec.ofChange flowBackWrong)

/- THE SECOND FORM. 'bulk': how many values and letters a reading holds, each counted each time it is reached (what is shared counts as often as it is met; a slice's spare places count too). A statement '..UptoSaid' is the law's where the arguments, and the package variables that the reading takes, are together of bulk at most 1048576: NARROWER than '..Said'. Prove '..Said' where nothing that the law and all that it calls make is longer than what came in: it says more and counts as full. Else prove '..UptoSaid'. A law counts once. -/
mutual
def uptoBulk {H : Type} : DataW H → Nat
  | .lit (.string bytes) => bytes.length + 1
  | .lit _ => 1
  | .nil => 1
  | .ptr d => uptoBulk d + 1
  | .slice elems spare => uptoBulkAll elems + uptoBulkAll spare + 1
  | .agg parts => uptoBulkAll parts + 1
  | .iface _ d => uptoBulk d + 1
  | .map entries => uptoBulkEntries entries + 1
  | .held _ => 1
def uptoBulkAll {H : Type} : List (DataW H) → Nat
  | [] => 0
  | d :: r => uptoBulk d + uptoBulkAll r
def uptoBulkEntries {H : Type} : List (Lit × DataW H) → Nat
  | [] => 0
  | x :: r => uptoBulkEntry x + uptoBulkEntries r
def uptoBulkEntry {H : Type} : Lit × DataW H → Nat
  | (.string bytes, d) => bytes.length + uptoBulk d + 1
  | (_, d) => uptoBulk d + 1
 end
def uptoSmall : (H : Type) → List (DataW H) → Bool := fun _ ds => decide (uptoBulkAll ds ≤ 1048576)
def OpenSpec.upto (s : _root_.Go.ChangeSpec) : _root_.Go.OpenSpec := { _root_.Go.OpenSpec.ofChange s with cond := some uptoSmall }

/-- 'flashlocklaw12.Ipv6Tells', WHERE WHAT IT READS IS OF BULK AT MOST 1048576: true; the input reads as it did. -/
def ipv6TellsUptoRow : OpenClaim := { program := "ytdpaiegojioimaadoor", sum := "a297c7ca53fe625a23043017f8ea0ab1703d41dc97054f7182f701815d1f34f5", func := "flashlock/flashlocklaw12.Ipv6Tells", spec := "ipv6Tells", unfollowed := true, recurses := true, named := ["flashlock/ipv6.known"], apart := false, laid := [("flashlock/ipv6.known", laid_flashlock_ipv6_known)], narrowed := true }
def Ipv6TellsUptoSaid : Prop := ipv6TellsUptoRow.holds Tryd.pinned (OpenSpec.upto ipv6TellsSpec)

/-- 'flashlocklaw12.Ipv6Makes', WHERE WHAT IT READS IS OF BULK AT MOST 1048576: true; the input reads as it did. -/
def ipv6MakesUptoRow : OpenClaim := { program := "ytdpaiegojioimaadoor", sum := "a297c7ca53fe625a23043017f8ea0ab1703d41dc97054f7182f701815d1f34f5", func := "flashlock/flashlocklaw12.Ipv6Makes", spec := "ipv6Makes", unfollowed := true, recurses := true, named := ["flashlock/ipv6.known"], apart := false, laid := [("flashlock/ipv6.known", laid_flashlock_ipv6_known)], narrowed := true }
def Ipv6MakesUptoSaid : Prop := ipv6MakesUptoRow.holds Tryd.pinned (OpenSpec.upto ipv6MakesSpec)

/-- 'flashlocklaw12.Ipv6Back', WHERE WHAT IT READS IS OF BULK AT MOST 1048576: true; the input reads as it did. -/
def ipv6BackUptoRow : OpenClaim := { program := "ytdpaiegojioimaadoor", sum := "a297c7ca53fe625a23043017f8ea0ab1703d41dc97054f7182f701815d1f34f5", func := "flashlock/flashlocklaw12.Ipv6Back", spec := "ipv6Back", unfollowed := true, recurses := true, named := ["flashlock/ipv6.known"], apart := false, laid := [("flashlock/ipv6.known", laid_flashlock_ipv6_known)], narrowed := true }
def Ipv6BackUptoSaid : Prop := ipv6BackUptoRow.holds Tryd.pinned (OpenSpec.upto ipv6BackSpec)

/-- 'flashlocklaw14.FlowOf', WHERE WHAT IT READS IS OF BULK AT MOST 1048576: true; the input reads as it did. -/
def flowOfUptoRow : OpenClaim := { program := "ytdpaiegojioimaadoor", sum := "a297c7ca53fe625a23043017f8ea0ab1703d41dc97054f7182f701815d1f34f5", func := "flashlock/flashlocklaw14.FlowOf", spec := "flowOf", unfollowed := true, recurses := true, named := ["flashlock/ipv6.known"], apart := false, laid := [("flashlock/ipv6.known", laid_flashlock_ipv6_known)], narrowed := true }
def FlowOfUptoSaid : Prop := flowOfUptoRow.holds Tryd.pinned (OpenSpec.upto flowOfSpec)

/-- 'flashlocklaw14.FlowKeys', WHERE WHAT IT READS IS OF BULK AT MOST 1048576: true; the input reads as it did. -/
def flowKeysUptoRow : OpenClaim := { program := "ytdpaiegojioimaadoor", sum := "a297c7ca53fe625a23043017f8ea0ab1703d41dc97054f7182f701815d1f34f5", func := "flashlock/flashlocklaw14.FlowKeys", spec := "flowKeys", inPlace := ["internal/abi.NoEscape", "internal/bytealg.MakeNoZero"], unfollowed := true, recurses := true, named := ["flashlock/ipv6.known"], apart := false, laid := [("flashlock/ipv6.known", laid_flashlock_ipv6_known)], narrowed := true }
def FlowKeysUptoSaid : Prop := flowKeysUptoRow.holds Tryd.pinned (OpenSpec.upto flowKeysSpec)

/-- 'flashlocklaw14.FlowBack', WHERE WHAT IT READS IS OF BULK AT MOST 1048576: true; the input reads as it did. -/
def flowBackUptoRow : OpenClaim := { program := "ytdpaiegojioimaadoor", sum := "a297c7ca53fe625a23043017f8ea0ab1703d41dc97054f7182f701815d1f34f5", func := "flashlock/flashlocklaw14.FlowBack", spec := "flowBack", inPlace := ["internal/abi.NoEscape", "internal/bytealg.MakeNoZero"], unfollowed := true, recurses := true, named := ["flashlock/ipv6.known"], apart := false, laid := [("flashlock/ipv6.known", laid_flashlock_ipv6_known)], narrowed := true }
def FlowBackUptoSaid : Prop := flowBackUptoRow.holds Tryd.pinned (OpenSpec.upto flowBackSpec)

end Rows
end Go.Proofs.YtdpaiegojioimaaDoor
