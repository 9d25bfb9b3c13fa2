/-
  DERIVED. GIVEN WITH THE SEED: THE CARDS: each row of YtbenciieenbmeaaGreatDoorRows.lean that lists a variable, with what it lists TIED to the program's text (the seventh form; the later family's looks); each row that meets fmt, with fmt's text TOLD by the authors' own Lean function (tested against real Go, not proved from fmt's source: count such statements apart). THE CARD IS WHAT COUNTS. Prove the row's statement (the work); the ties are given (YtbenciieenbmeaaGreatDoorTie.lean); close each card by the builder's one call (the guide's Derived/Test/ToyasCard.lean, 'card_holds'). Laid BY PROGRAM, IN A SANDBOX (cutbox-door.mjs). By AI agents, Wed Nov 11 2026. No macro, syntax, notation, axiom, sorry.
-/
import Derived.Test.YtbenciieenbmeaaGreatDoorRows
import GoSem.ClaimSeven
namespace Go.Proofs.YtbenciieenbmeaaGreatDoor
namespace Rows

/-- THE TIED CARD OF 'daybooklaw15.AnswerOrder'. -/
def answerOrderCard : Claim7 := { stood := { row := answerOrderRow, standIns := [], harness := (true, "5acf8fccf50037ac583cb3c762f734d591cc567e5448745016d22a0562c9d283"), looks := true }, kinds := [], alts := [], laidByText := true, laidKinds := [.data, .data, .data, .data, .pinned], laidTests := true, laidLooks := .later }
def AnswerOrderCardSaid : Prop := Claim7.holds Tryz.pinned (.plain (OpenSpec.ofChange answerOrderSpec)) answerOrderCard

/-- THE TIED CARD OF 'daybooklaw15.AnswerLimit'. -/
def answerLimitCard : Claim7 := { stood := { row := answerLimitRow, standIns := [], harness := (true, "5acf8fccf50037ac583cb3c762f734d591cc567e5448745016d22a0562c9d283"), looks := true }, kinds := [], alts := [], laidByText := true, laidKinds := [.data, .data, .data, .data, .pinned], laidTests := true, laidLooks := .later }
def AnswerLimitCardSaid : Prop := Claim7.holds Tryz.pinned (.plain (OpenSpec.ofChange answerLimitSpec)) answerLimitCard

/-- THE TIED CARD OF 'daybooklaw15.AnswerConditions'. -/
def answerConditionsCard : Claim7 := { stood := { row := answerConditionsRow, standIns := [], harness := (true, "5acf8fccf50037ac583cb3c762f734d591cc567e5448745016d22a0562c9d283"), looks := true }, kinds := [], alts := [], laidByText := true, laidKinds := [.data, .data, .data, .data, .pinned], laidTests := true, laidLooks := .later }
def AnswerConditionsCardSaid : Prop := Claim7.holds Tryz.pinned (.plain (OpenSpec.ofChange answerConditionsSpec)) answerConditionsCard

/-- THE TIED CARD OF 'daybooklaw15.AnswerParts'. -/
def answerPartsCard : Claim7 := { stood := { row := answerPartsRow, standIns := [], harness := (true, "5acf8fccf50037ac583cb3c762f734d591cc567e5448745016d22a0562c9d283"), looks := true }, kinds := [], alts := [], laidByText := true, laidKinds := [.data, .data, .data, .data, .pinned], laidTests := true, laidLooks := .later }
def AnswerPartsCardSaid : Prop := Claim7.holds Tryz.pinned (.plain (OpenSpec.ofChange answerPartsSpec)) answerPartsCard

/-- THE TIED CARD OF 'daybooklaw15.AnswerMeans'. -/
def answerMeansCard : Claim7 := { stood := { row := answerMeansRow, standIns := [], harness := (true, "5acf8fccf50037ac583cb3c762f734d591cc567e5448745016d22a0562c9d283"), looks := true }, kinds := [], alts := [], laidByText := true, laidKinds := [.data, .data, .data, .data, .pinned], laidTests := true, laidLooks := .later }
def AnswerMeansCardSaid : Prop := Claim7.holds Tryz.pinned (.plain (OpenSpec.ofChange answerMeansSpec)) answerMeansCard

/-- THE TIED CARD OF 'daybooklaw15.AnswerGroups'. -/
def answerGroupsCard : Claim7 := { stood := { row := answerGroupsRow, standIns := [], harness := (true, "5acf8fccf50037ac583cb3c762f734d591cc567e5448745016d22a0562c9d283"), looks := true }, kinds := [], alts := [], laidByText := true, laidKinds := [.data, .data, .data, .data, .pinned], laidTests := true, laidLooks := .later }
def AnswerGroupsCardSaid : Prop := Claim7.holds Tryz.pinned (.plain (OpenSpec.ofChange answerGroupsSpec)) answerGroupsCard

/-- THE SECOND FORM's CARD OF 'daybooklaw15.AnswerOrder'. -/
def answerOrderUptoCard : Claim7 := { stood := { row := answerOrderUptoRow, standIns := [], harness := (true, "5acf8fccf50037ac583cb3c762f734d591cc567e5448745016d22a0562c9d283"), looks := true }, kinds := [], alts := [], laidByText := true, laidKinds := [.data, .data, .data, .data, .pinned], laidTests := true, laidLooks := .later }
def AnswerOrderUptoCardSaid : Prop := Claim7.holds Tryz.pinned (.plain (OpenSpec.upto answerOrderSpec)) answerOrderUptoCard

/-- THE SECOND FORM's CARD OF 'daybooklaw15.AnswerLimit'. -/
def answerLimitUptoCard : Claim7 := { stood := { row := answerLimitUptoRow, standIns := [], harness := (true, "5acf8fccf50037ac583cb3c762f734d591cc567e5448745016d22a0562c9d283"), looks := true }, kinds := [], alts := [], laidByText := true, laidKinds := [.data, .data, .data, .data, .pinned], laidTests := true, laidLooks := .later }
def AnswerLimitUptoCardSaid : Prop := Claim7.holds Tryz.pinned (.plain (OpenSpec.upto answerLimitSpec)) answerLimitUptoCard

/-- THE SECOND FORM's CARD OF 'daybooklaw15.AnswerConditions'. -/
def answerConditionsUptoCard : Claim7 := { stood := { row := answerConditionsUptoRow, standIns := [], harness := (true, "5acf8fccf50037ac583cb3c762f734d591cc567e5448745016d22a0562c9d283"), looks := true }, kinds := [], alts := [], laidByText := true, laidKinds := [.data, .data, .data, .data, .pinned], laidTests := true, laidLooks := .later }
def AnswerConditionsUptoCardSaid : Prop := Claim7.holds Tryz.pinned (.plain (OpenSpec.upto answerConditionsSpec)) answerConditionsUptoCard

/-- THE SECOND FORM's CARD OF 'daybooklaw15.AnswerParts'. -/
def answerPartsUptoCard : Claim7 := { stood := { row := answerPartsUptoRow, standIns := [], harness := (true, "5acf8fccf50037ac583cb3c762f734d591cc567e5448745016d22a0562c9d283"), looks := true }, kinds := [], alts := [], laidByText := true, laidKinds := [.data, .data, .data, .data, .pinned], laidTests := true, laidLooks := .later }
def AnswerPartsUptoCardSaid : Prop := Claim7.holds Tryz.pinned (.plain (OpenSpec.upto answerPartsSpec)) answerPartsUptoCard

/-- THE SECOND FORM's CARD OF 'daybooklaw15.AnswerMeans'. -/
def answerMeansUptoCard : Claim7 := { stood := { row := answerMeansUptoRow, standIns := [], harness := (true, "5acf8fccf50037ac583cb3c762f734d591cc567e5448745016d22a0562c9d283"), looks := true }, kinds := [], alts := [], laidByText := true, laidKinds := [.data, .data, .data, .data, .pinned], laidTests := true, laidLooks := .later }
def AnswerMeansUptoCardSaid : Prop := Claim7.holds Tryz.pinned (.plain (OpenSpec.upto answerMeansSpec)) answerMeansUptoCard

/-- THE SECOND FORM's CARD OF 'daybooklaw15.AnswerGroups'. -/
def answerGroupsUptoCard : Claim7 := { stood := { row := answerGroupsUptoRow, standIns := [], harness := (true, "5acf8fccf50037ac583cb3c762f734d591cc567e5448745016d22a0562c9d283"), looks := true }, kinds := [], alts := [], laidByText := true, laidKinds := [.data, .data, .data, .data, .pinned], laidTests := true, laidLooks := .later }
def AnswerGroupsUptoCardSaid : Prop := Claim7.holds Tryz.pinned (.plain (OpenSpec.upto answerGroupsSpec)) answerGroupsUptoCard
end Rows
end Go.Proofs.YtbenciieenbmeaaGreatDoor
