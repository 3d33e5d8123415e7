/-
  DERIVED. GIVEN WITH THE SEED: THE CARDS: each row of YtdpaiegojioimaaDoorRows.lean that lists a variable, with what it lists TIED to the program's text (the seventh form; the later family's looks); each row that meets fmt, with fmt's text TOLD by the authors' own Lean function (tested against real Go, not proved from fmt's source: count such statements apart). THE CARD IS WHAT COUNTS. Prove the row's statement (the work); the ties are given (YtdpaiegojioimaaDoorTie.lean); close each card by the builder's one call (the guide's Derived/Test/ToyasCard.lean, 'card_holds'). Laid BY PROGRAM, IN A SANDBOX (cutbox-door.mjs). By AI agents, Wed Nov 11 2026. No macro, syntax, notation, axiom, sorry.
-/
import Derived.Test.YtdpaiegojioimaaDoorRows
import GoSem.ClaimSeven
namespace Go.Proofs.YtdpaiegojioimaaDoor
namespace Rows

/-- THE TIED CARD OF 'flashlocklaw12.Ipv6Tells'. -/
def ipv6TellsCard : Claim7 := { stood := { row := ipv6TellsRow, standIns := [], harness := (true, "df9d9aefad5cbb193a996bfdbcd4cbfb13074a93fb7af9be419e663e7deb75c1"), looks := true }, kinds := [], alts := [], laidByText := true, laidKinds := [.data], laidTests := true, laidLooks := .later }
def Ipv6TellsCardSaid : Prop := Claim7.holds Tryd.pinned (.plain (OpenSpec.ofChange ipv6TellsSpec)) ipv6TellsCard

/-- THE TIED CARD OF 'flashlocklaw12.Ipv6Makes'. -/
def ipv6MakesCard : Claim7 := { stood := { row := ipv6MakesRow, standIns := [], harness := (true, "df9d9aefad5cbb193a996bfdbcd4cbfb13074a93fb7af9be419e663e7deb75c1"), looks := true }, kinds := [], alts := [], laidByText := true, laidKinds := [.data], laidTests := true, laidLooks := .later }
def Ipv6MakesCardSaid : Prop := Claim7.holds Tryd.pinned (.plain (OpenSpec.ofChange ipv6MakesSpec)) ipv6MakesCard

/-- THE TIED CARD OF 'flashlocklaw12.Ipv6Back'. -/
def ipv6BackCard : Claim7 := { stood := { row := ipv6BackRow, standIns := [], harness := (true, "df9d9aefad5cbb193a996bfdbcd4cbfb13074a93fb7af9be419e663e7deb75c1"), looks := true }, kinds := [], alts := [], laidByText := true, laidKinds := [.data], laidTests := true, laidLooks := .later }
def Ipv6BackCardSaid : Prop := Claim7.holds Tryd.pinned (.plain (OpenSpec.ofChange ipv6BackSpec)) ipv6BackCard

/-- THE TIED CARD OF 'flashlocklaw14.FlowOf'. -/
def flowOfCard : Claim7 := { stood := { row := flowOfRow, standIns := [], harness := (true, "df9d9aefad5cbb193a996bfdbcd4cbfb13074a93fb7af9be419e663e7deb75c1"), looks := true }, kinds := [], alts := [], laidByText := true, laidKinds := [.data], laidTests := true, laidLooks := .later }
def FlowOfCardSaid : Prop := Claim7.holds Tryd.pinned (.plain (OpenSpec.ofChange flowOfSpec)) flowOfCard

/-- THE TIED CARD OF 'flashlocklaw14.FlowKeys'. -/
def flowKeysCard : Claim7 := { stood := { row := flowKeysRow, standIns := [], harness := (true, "df9d9aefad5cbb193a996bfdbcd4cbfb13074a93fb7af9be419e663e7deb75c1"), looks := true }, kinds := [], alts := [], laidByText := true, laidKinds := [.data], laidTests := true, laidLooks := .later }
def FlowKeysCardSaid : Prop := Claim7.holds Tryd.pinned (.plain (OpenSpec.ofChange flowKeysSpec)) flowKeysCard

/-- THE TIED CARD OF 'flashlocklaw14.FlowBack'. -/
def flowBackCard : Claim7 := { stood := { row := flowBackRow, standIns := [], harness := (true, "df9d9aefad5cbb193a996bfdbcd4cbfb13074a93fb7af9be419e663e7deb75c1"), looks := true }, kinds := [], alts := [], laidByText := true, laidKinds := [.data], laidTests := true, laidLooks := .later }
def FlowBackCardSaid : Prop := Claim7.holds Tryd.pinned (.plain (OpenSpec.ofChange flowBackSpec)) flowBackCard

/-- THE SECOND FORM's CARD OF 'flashlocklaw12.Ipv6Tells'. -/
def ipv6TellsUptoCard : Claim7 := { stood := { row := ipv6TellsUptoRow, standIns := [], harness := (true, "df9d9aefad5cbb193a996bfdbcd4cbfb13074a93fb7af9be419e663e7deb75c1"), looks := true }, kinds := [], alts := [], laidByText := true, laidKinds := [.data], laidTests := true, laidLooks := .later }
def Ipv6TellsUptoCardSaid : Prop := Claim7.holds Tryd.pinned (.plain (OpenSpec.upto ipv6TellsSpec)) ipv6TellsUptoCard

/-- THE SECOND FORM's CARD OF 'flashlocklaw12.Ipv6Makes'. -/
def ipv6MakesUptoCard : Claim7 := { stood := { row := ipv6MakesUptoRow, standIns := [], harness := (true, "df9d9aefad5cbb193a996bfdbcd4cbfb13074a93fb7af9be419e663e7deb75c1"), looks := true }, kinds := [], alts := [], laidByText := true, laidKinds := [.data], laidTests := true, laidLooks := .later }
def Ipv6MakesUptoCardSaid : Prop := Claim7.holds Tryd.pinned (.plain (OpenSpec.upto ipv6MakesSpec)) ipv6MakesUptoCard

/-- THE SECOND FORM's CARD OF 'flashlocklaw12.Ipv6Back'. -/
def ipv6BackUptoCard : Claim7 := { stood := { row := ipv6BackUptoRow, standIns := [], harness := (true, "df9d9aefad5cbb193a996bfdbcd4cbfb13074a93fb7af9be419e663e7deb75c1"), looks := true }, kinds := [], alts := [], laidByText := true, laidKinds := [.data], laidTests := true, laidLooks := .later }
def Ipv6BackUptoCardSaid : Prop := Claim7.holds Tryd.pinned (.plain (OpenSpec.upto ipv6BackSpec)) ipv6BackUptoCard

/-- THE SECOND FORM's CARD OF 'flashlocklaw14.FlowOf'. -/
def flowOfUptoCard : Claim7 := { stood := { row := flowOfUptoRow, standIns := [], harness := (true, "df9d9aefad5cbb193a996bfdbcd4cbfb13074a93fb7af9be419e663e7deb75c1"), looks := true }, kinds := [], alts := [], laidByText := true, laidKinds := [.data], laidTests := true, laidLooks := .later }
def FlowOfUptoCardSaid : Prop := Claim7.holds Tryd.pinned (.plain (OpenSpec.upto flowOfSpec)) flowOfUptoCard

/-- THE SECOND FORM's CARD OF 'flashlocklaw14.FlowKeys'. -/
def flowKeysUptoCard : Claim7 := { stood := { row := flowKeysUptoRow, standIns := [], harness := (true, "df9d9aefad5cbb193a996bfdbcd4cbfb13074a93fb7af9be419e663e7deb75c1"), looks := true }, kinds := [], alts := [], laidByText := true, laidKinds := [.data], laidTests := true, laidLooks := .later }
def FlowKeysUptoCardSaid : Prop := Claim7.holds Tryd.pinned (.plain (OpenSpec.upto flowKeysSpec)) flowKeysUptoCard

/-- THE SECOND FORM's CARD OF 'flashlocklaw14.FlowBack'. -/
def flowBackUptoCard : Claim7 := { stood := { row := flowBackUptoRow, standIns := [], harness := (true, "df9d9aefad5cbb193a996bfdbcd4cbfb13074a93fb7af9be419e663e7deb75c1"), looks := true }, kinds := [], alts := [], laidByText := true, laidKinds := [.data], laidTests := true, laidLooks := .later }
def FlowBackUptoCardSaid : Prop := Claim7.holds Tryd.pinned (.plain (OpenSpec.upto flowBackSpec)) flowBackUptoCard
end Rows
end Go.Proofs.YtdpaiegojioimaaDoor
