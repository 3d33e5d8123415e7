/-
  No cell of these rows narrows 'for every input' (looked for: loops, veiled, ifaces, maps, wideKeys, modest, calm, conditions, laid).
  DERIVED. THE GIVEN ROWS OF THIS SEAT. 7 by the template 'for every input the law returns true; each argument reads behind the call as it read before'; 0 by the template 'total and deterministic' (their statements: YtbhjljffcgfcdaaTotals.lean).
  GIVEN WITH THE SEED: the statements are not yours to turn. If you find one false, say at which input.
  Laid BY PROGRAM, IN A SANDBOX (cutbox-rows.mjs): the forced cells as the released guide's own fill.sh prints them over the translation 672473ae1c639753… (all of the seat's roots in one cut). By AI agents, Wed Nov 11 2026. No macro, syntax, notation, axiom, sorry.
-/
import Derived.Test.YtbhjljffcgfcdaaChecked
import GoSem.Claim
import GoSem.ClaimJoined
import GoSem.ClaimMapViews
import Derived.JoinedTies
import Derived.KernelRfl
namespace Go.Proofs.Ytbhjljffcgfcdaa
/- THE CELL 'sum', in the pinned program and in every row, IS THE sha256 OF THE DUMP (.gsa) THAT YtbhjljffcgfcdaaProg.lean LOADS. Nothing in Lean hashes anything: it is a label: what it is worth is what the hold of that sum in a sandbox is worth. -/
noncomputable def Try.pinned : Pinned := { name := "ytbhjljffcgfcdaa", sum := "672473ae1c63975354dd746b46f21b10b037c8c35a5764facb6202c4aad7960a", checked := Try.checked }
namespace Rows
def none {H : Type} : Left H := { results := [], args := [] }

/-- 'flashlocklaw02.EwmaTells': WHATEVER THE INPUT: true; the input reads as it did. -/
def ewmaTellsSpec : ChangeSpec := { name := "ewmaTells", fn := fun _ => fun
  | [d1, d2] => { results := [.lit (.bool true)], args := [d1, d2] }
  | _ => none }
def ewmaTellsRow : OpenClaim := { program := "ytbhjljffcgfcdaa", sum := "672473ae1c63975354dd746b46f21b10b037c8c35a5764facb6202c4aad7960a", func := "flashlock/flashlocklaw02.EwmaTells", spec := "ewmaTells", apart := false }
def EwmaTellsSaid : Prop := ewmaTellsRow.holds Try.pinned (OpenSpec.ofChange ewmaTellsSpec)

/-- ITS FALSE NEIGHBOUR: 'it returns false'. Refute it at one input. -/
def ewmaTellsWrong : ChangeSpec := { name := "ewmaTells", fn := fun _ => fun
  | [d1, d2] => { results := [.lit (.bool false)], args := [d1, d2] }
  | _ => none }
def EwmaTellsWrongFalsely : Prop := ewmaTellsRow.holds Try.pinned (OpenSpec.ofChange ewmaTellsWrong)

/-- 'flashlocklaw02.EwmaAway': WHATEVER THE INPUT: true; the input reads as it did. -/
def ewmaAwaySpec : ChangeSpec := { name := "ewmaAway", fn := fun _ => fun
  | [d1, d2] => { results := [.lit (.bool true)], args := [d1, d2] }
  | _ => none }
def ewmaAwayRow : OpenClaim := { program := "ytbhjljffcgfcdaa", sum := "672473ae1c63975354dd746b46f21b10b037c8c35a5764facb6202c4aad7960a", func := "flashlock/flashlocklaw02.EwmaAway", spec := "ewmaAway", apart := false }
def EwmaAwaySaid : Prop := ewmaAwayRow.holds Try.pinned (OpenSpec.ofChange ewmaAwaySpec)

/-- ITS FALSE NEIGHBOUR: 'it returns false'. Refute it at one input. -/
def ewmaAwayWrong : ChangeSpec := { name := "ewmaAway", fn := fun _ => fun
  | [d1, d2] => { results := [.lit (.bool false)], args := [d1, d2] }
  | _ => none }
def EwmaAwayWrongFalsely : Prop := ewmaAwayRow.holds Try.pinned (OpenSpec.ofChange ewmaAwayWrong)

/-- 'flashlocklaw02.EwmaStays': WHATEVER THE INPUT: true; the input reads as it did. -/
def ewmaStaysSpec : ChangeSpec := { name := "ewmaStays", fn := fun _ => fun
  | [d1, d2, d3] => { results := [.lit (.bool true)], args := [d1, d2, d3] }
  | _ => none }
def ewmaStaysRow : OpenClaim := { program := "ytbhjljffcgfcdaa", sum := "672473ae1c63975354dd746b46f21b10b037c8c35a5764facb6202c4aad7960a", func := "flashlock/flashlocklaw02.EwmaStays", spec := "ewmaStays", apart := false }
def EwmaStaysSaid : Prop := ewmaStaysRow.holds Try.pinned (OpenSpec.ofChange ewmaStaysSpec)

/-- ITS FALSE NEIGHBOUR: 'it returns false'. Refute it at one input. -/
def ewmaStaysWrong : ChangeSpec := { name := "ewmaStays", fn := fun _ => fun
  | [d1, d2, d3] => { results := [.lit (.bool false)], args := [d1, d2, d3] }
  | _ => none }
def EwmaStaysWrongFalsely : Prop := ewmaStaysRow.holds Try.pinned (OpenSpec.ofChange ewmaStaysWrong)

/-- 'flashlocklaw04.RateTells': WHATEVER THE INPUT: true; the input reads as it did. -/
def rateTellsSpec : ChangeSpec := { name := "rateTells", fn := fun _ => fun
  | [d1, d2, d3] => { results := [.lit (.bool true)], args := [d1, d2, d3] }
  | _ => none }
def rateTellsRow : OpenClaim := { program := "ytbhjljffcgfcdaa", sum := "672473ae1c63975354dd746b46f21b10b037c8c35a5764facb6202c4aad7960a", func := "flashlock/flashlocklaw04.RateTells", spec := "rateTells", unfollowed := true, recurses := true, apart := false }
def RateTellsSaid : Prop := rateTellsRow.holds Try.pinned (OpenSpec.ofChange rateTellsSpec)

/-- ITS FALSE NEIGHBOUR: 'it returns false'. Refute it at one input. -/
def rateTellsWrong : ChangeSpec := { name := "rateTells", fn := fun _ => fun
  | [d1, d2, d3] => { results := [.lit (.bool false)], args := [d1, d2, d3] }
  | _ => none }
def RateTellsWrongFalsely : Prop := rateTellsRow.holds Try.pinned (OpenSpec.ofChange rateTellsWrong)

/-- 'flashlocklaw04.RateGrows': WHATEVER THE INPUT: true; the input reads as it did. -/
def rateGrowsSpec : ChangeSpec := { name := "rateGrows", fn := fun _ => fun
  | [d1, d2, d3] => { results := [.lit (.bool true)], args := [d1, d2, d3] }
  | _ => none }
def rateGrowsRow : OpenClaim := { program := "ytbhjljffcgfcdaa", sum := "672473ae1c63975354dd746b46f21b10b037c8c35a5764facb6202c4aad7960a", func := "flashlock/flashlocklaw04.RateGrows", spec := "rateGrows", unfollowed := true, recurses := true, apart := false }
def RateGrowsSaid : Prop := rateGrowsRow.holds Try.pinned (OpenSpec.ofChange rateGrowsSpec)

/-- ITS FALSE NEIGHBOUR: 'it returns false'. Refute it at one input. -/
def rateGrowsWrong : ChangeSpec := { name := "rateGrows", fn := fun _ => fun
  | [d1, d2, d3] => { results := [.lit (.bool false)], args := [d1, d2, d3] }
  | _ => none }
def RateGrowsWrongFalsely : Prop := rateGrowsRow.holds Try.pinned (OpenSpec.ofChange rateGrowsWrong)

/-- 'flashlocklaw05.VclockPlays': WHATEVER THE INPUT: true; the input reads as it did. -/
def vclockPlaysSpec : ChangeSpec := { name := "vclockPlays", fn := fun _ => fun
  | [d1, d2, d3] => { results := [.lit (.bool true)], args := [d1, d2, d3] }
  | _ => none }
def vclockPlaysRow : OpenClaim := { program := "ytbhjljffcgfcdaa", sum := "672473ae1c63975354dd746b46f21b10b037c8c35a5764facb6202c4aad7960a", func := "flashlock/flashlocklaw05.VclockPlays", spec := "vclockPlays", apart := false }
def VclockPlaysSaid : Prop := vclockPlaysRow.holds Try.pinned (OpenSpec.ofChange vclockPlaysSpec)

/-- ITS FALSE NEIGHBOUR: 'it returns false'. Refute it at one input. -/
def vclockPlaysWrong : ChangeSpec := { name := "vclockPlays", fn := fun _ => fun
  | [d1, d2, d3] => { results := [.lit (.bool false)], args := [d1, d2, d3] }
  | _ => none }
def VclockPlaysWrongFalsely : Prop := vclockPlaysRow.holds Try.pinned (OpenSpec.ofChange vclockPlaysWrong)

/-- 'flashlocklaw05.VclockParts': WHATEVER THE INPUT: true; the input reads as it did. -/
def vclockPartsSpec : ChangeSpec := { name := "vclockParts", fn := fun _ => fun
  | [d1, d2] => { results := [.lit (.bool true)], args := [d1, d2] }
  | _ => none }
def vclockPartsRow : OpenClaim := { program := "ytbhjljffcgfcdaa", sum := "672473ae1c63975354dd746b46f21b10b037c8c35a5764facb6202c4aad7960a", func := "flashlock/flashlocklaw05.VclockParts", spec := "vclockParts", apart := false }
def VclockPartsSaid : Prop := vclockPartsRow.holds Try.pinned (OpenSpec.ofChange vclockPartsSpec)

/-- ITS FALSE NEIGHBOUR: 'it returns false'. Refute it at one input. -/
def vclockPartsWrong : ChangeSpec := { name := "vclockParts", fn := fun _ => fun
  | [d1, d2] => { results := [.lit (.bool false)], args := [d1, d2] }
  | _ => none }
def VclockPartsWrongFalsely : Prop := vclockPartsRow.holds Try.pinned (OpenSpec.ofChange vclockPartsWrong)

/- THE SECOND FORM. 'bulk': how many values and letters a reading holds, each counted each time it is reached (what is shared counts as often as it is met; a slice's spare places count too). A statement '..UptoSaid' is the law's where the arguments, and the package variables that the reading takes, are together of bulk at most 1048576: NARROWER than '..Said'. Prove '..Said' where nothing that the law and all that it calls make is longer than what came in: it says more and counts as full. Else prove '..UptoSaid'. A law counts once. -/
mutual
def uptoBulk {H : Type} : DataW H → Nat
  | .lit (.string bytes) => bytes.length + 1
  | .lit _ => 1
  | .nil => 1
  | .ptr d => uptoBulk d + 1
  | .slice elems spare => uptoBulkAll elems + uptoBulkAll spare + 1
  | .agg parts => uptoBulkAll parts + 1
  | .iface _ d => uptoBulk d + 1
  | .map entries => uptoBulkEntries entries + 1
  | .held _ => 1
def uptoBulkAll {H : Type} : List (DataW H) → Nat
  | [] => 0
  | d :: r => uptoBulk d + uptoBulkAll r
def uptoBulkEntries {H : Type} : List (Lit × DataW H) → Nat
  | [] => 0
  | x :: r => uptoBulkEntry x + uptoBulkEntries r
def uptoBulkEntry {H : Type} : Lit × DataW H → Nat
  | (.string bytes, d) => bytes.length + uptoBulk d + 1
  | (_, d) => uptoBulk d + 1
 end
def uptoSmall : (H : Type) → List (DataW H) → Bool := fun _ ds => decide (uptoBulkAll ds ≤ 1048576)
def OpenSpec.upto (s : _root_.Go.ChangeSpec) : _root_.Go.OpenSpec := { _root_.Go.OpenSpec.ofChange s with cond := some uptoSmall }

/-- 'flashlocklaw02.EwmaTells', WHERE WHAT IT READS IS OF BULK AT MOST 1048576: true; the input reads as it did. -/
def ewmaTellsUptoRow : OpenClaim := { program := "ytbhjljffcgfcdaa", sum := "672473ae1c63975354dd746b46f21b10b037c8c35a5764facb6202c4aad7960a", func := "flashlock/flashlocklaw02.EwmaTells", spec := "ewmaTells", apart := false, narrowed := true }
def EwmaTellsUptoSaid : Prop := ewmaTellsUptoRow.holds Try.pinned (OpenSpec.upto ewmaTellsSpec)

/-- 'flashlocklaw02.EwmaAway', WHERE WHAT IT READS IS OF BULK AT MOST 1048576: true; the input reads as it did. -/
def ewmaAwayUptoRow : OpenClaim := { program := "ytbhjljffcgfcdaa", sum := "672473ae1c63975354dd746b46f21b10b037c8c35a5764facb6202c4aad7960a", func := "flashlock/flashlocklaw02.EwmaAway", spec := "ewmaAway", apart := false, narrowed := true }
def EwmaAwayUptoSaid : Prop := ewmaAwayUptoRow.holds Try.pinned (OpenSpec.upto ewmaAwaySpec)

/-- 'flashlocklaw02.EwmaStays', WHERE WHAT IT READS IS OF BULK AT MOST 1048576: true; the input reads as it did. -/
def ewmaStaysUptoRow : OpenClaim := { program := "ytbhjljffcgfcdaa", sum := "672473ae1c63975354dd746b46f21b10b037c8c35a5764facb6202c4aad7960a", func := "flashlock/flashlocklaw02.EwmaStays", spec := "ewmaStays", apart := false, narrowed := true }
def EwmaStaysUptoSaid : Prop := ewmaStaysUptoRow.holds Try.pinned (OpenSpec.upto ewmaStaysSpec)

/-- 'flashlocklaw04.RateTells', WHERE WHAT IT READS IS OF BULK AT MOST 1048576: true; the input reads as it did. -/
def rateTellsUptoRow : OpenClaim := { program := "ytbhjljffcgfcdaa", sum := "672473ae1c63975354dd746b46f21b10b037c8c35a5764facb6202c4aad7960a", func := "flashlock/flashlocklaw04.RateTells", spec := "rateTells", unfollowed := true, recurses := true, apart := false, narrowed := true }
def RateTellsUptoSaid : Prop := rateTellsUptoRow.holds Try.pinned (OpenSpec.upto rateTellsSpec)

/-- 'flashlocklaw04.RateGrows', WHERE WHAT IT READS IS OF BULK AT MOST 1048576: true; the input reads as it did. -/
def rateGrowsUptoRow : OpenClaim := { program := "ytbhjljffcgfcdaa", sum := "672473ae1c63975354dd746b46f21b10b037c8c35a5764facb6202c4aad7960a", func := "flashlock/flashlocklaw04.RateGrows", spec := "rateGrows", unfollowed := true, recurses := true, apart := false, narrowed := true }
def RateGrowsUptoSaid : Prop := rateGrowsUptoRow.holds Try.pinned (OpenSpec.upto rateGrowsSpec)

/-- 'flashlocklaw05.VclockPlays', WHERE WHAT IT READS IS OF BULK AT MOST 1048576: true; the input reads as it did. -/
def vclockPlaysUptoRow : OpenClaim := { program := "ytbhjljffcgfcdaa", sum := "672473ae1c63975354dd746b46f21b10b037c8c35a5764facb6202c4aad7960a", func := "flashlock/flashlocklaw05.VclockPlays", spec := "vclockPlays", apart := false, narrowed := true }
def VclockPlaysUptoSaid : Prop := vclockPlaysUptoRow.holds Try.pinned (OpenSpec.upto vclockPlaysSpec)

/-- 'flashlocklaw05.VclockParts', WHERE WHAT IT READS IS OF BULK AT MOST 1048576: true; the input reads as it did. -/
def vclockPartsUptoRow : OpenClaim := { program := "ytbhjljffcgfcdaa", sum := "672473ae1c63975354dd746b46f21b10b037c8c35a5764facb6202c4aad7960a", func := "flashlock/flashlocklaw05.VclockParts", spec := "vclockParts", apart := false, narrowed := true }
def VclockPartsUptoSaid : Prop := vclockPartsUptoRow.holds Try.pinned (OpenSpec.upto vclockPartsSpec)

end Rows
end Go.Proofs.Ytbhjljffcgfcdaa
