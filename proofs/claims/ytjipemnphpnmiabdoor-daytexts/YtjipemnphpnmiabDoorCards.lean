/-
  DERIVED. GIVEN WITH THE SEED: THE CARDS: each row of YtjipemnphpnmiabDoorRows.lean that lists a variable, with what it lists TIED to the program's text (the seventh form; the later family's looks); each row that meets fmt, with fmt's text TOLD by the authors' own Lean function (tested against real Go, not proved from fmt's source: count such statements apart). THE CARD IS WHAT COUNTS. Prove the row's statement (the work); the ties are given (YtjipemnphpnmiabDoorTie.lean); close each card by the builder's one call (the guide's Derived/Test/ToyasCard.lean, 'card_holds'). Laid BY PROGRAM, IN A SANDBOX (cutbox-door.mjs). By AI agents, Wed Nov 11 2026. No macro, syntax, notation, axiom, sorry.
-/
import Derived.Test.YtjipemnphpnmiabDoorRows
import GoSem.ClaimSeven
namespace Go.Proofs.YtjipemnphpnmiabDoor
namespace Rows

/-- THE TIED CARD OF 'daybooklaw02.DaySteps'. -/
def dayStepsCard : Claim7 := { stood := { row := dayStepsRow, standIns := [], harness := (true, "a393ea737b3bd636a45092069b1003ab2dc42d76c70d56b93ebdd318411ad33f"), looks := false }, kinds := [], alts := [], laidByText := true, laidKinds := [.data, .data, .data, .data], laidTests := true, laidLooks := .later }
def DayStepsCardSaid : Prop := Claim7.holds Tryd.pinned (.plain (OpenSpec.ofChange dayStepsSpec)) dayStepsCard

/-- THE TIED CARD OF 'daybooklaw02.DayRows'. -/
def dayRowsCard : Claim7 := { stood := { row := dayRowsRow, standIns := [], harness := (true, "a393ea737b3bd636a45092069b1003ab2dc42d76c70d56b93ebdd318411ad33f"), looks := false }, kinds := [], alts := [], laidByText := true, laidKinds := [.data, .data, .data, .data], laidTests := true, laidLooks := .later }
def DayRowsCardSaid : Prop := Claim7.holds Tryd.pinned (.plain (OpenSpec.ofChange dayRowsSpec)) dayRowsCard

/-- THE TIED CARD OF 'daybooklaw02.DayCycle'. -/
def dayCycleCard : Claim7 := { stood := { row := dayCycleRow, standIns := [], harness := (true, "a393ea737b3bd636a45092069b1003ab2dc42d76c70d56b93ebdd318411ad33f"), looks := false }, kinds := [], alts := [], laidByText := true, laidKinds := [.data, .data, .data, .data], laidTests := true, laidLooks := .later }
def DayCycleCardSaid : Prop := Claim7.holds Tryd.pinned (.plain (OpenSpec.ofChange dayCycleSpec)) dayCycleCard

/-- THE TIED CARD OF 'daybooklaw02.DayMonthEnds'. -/
def dayMonthEndsCard : Claim7 := { stood := { row := dayMonthEndsRow, standIns := [], harness := (true, "a393ea737b3bd636a45092069b1003ab2dc42d76c70d56b93ebdd318411ad33f"), looks := false }, kinds := [], alts := [], laidByText := true, laidKinds := [.data, .data, .data, .data], laidTests := true, laidLooks := .later }
def DayMonthEndsCardSaid : Prop := Claim7.holds Tryd.pinned (.plain (OpenSpec.ofChange dayMonthEndsSpec)) dayMonthEndsCard

/-- THE TIED CARD OF 'daybooklaw02.DayTexts'. -/
def dayTextsCard : Claim7 := { stood := { row := dayTextsRow, standIns := [], harness := (true, "a393ea737b3bd636a45092069b1003ab2dc42d76c70d56b93ebdd318411ad33f"), looks := false }, kinds := [], alts := [], laidByText := true, laidKinds := [.data, .data, .data, .data], laidTests := true, laidLooks := .later }
def DayTextsCardSaid : Prop := Claim7.holds Tryd.pinned (.plain (OpenSpec.ofChange dayTextsSpec)) dayTextsCard

/-- THE SECOND FORM's CARD OF 'daybooklaw02.DaySteps'. -/
def dayStepsUptoCard : Claim7 := { stood := { row := dayStepsUptoRow, standIns := [], harness := (true, "a393ea737b3bd636a45092069b1003ab2dc42d76c70d56b93ebdd318411ad33f"), looks := false }, kinds := [], alts := [], laidByText := true, laidKinds := [.data, .data, .data, .data], laidTests := true, laidLooks := .later }
def DayStepsUptoCardSaid : Prop := Claim7.holds Tryd.pinned (.plain (OpenSpec.upto dayStepsSpec)) dayStepsUptoCard

/-- THE SECOND FORM's CARD OF 'daybooklaw02.DayRows'. -/
def dayRowsUptoCard : Claim7 := { stood := { row := dayRowsUptoRow, standIns := [], harness := (true, "a393ea737b3bd636a45092069b1003ab2dc42d76c70d56b93ebdd318411ad33f"), looks := false }, kinds := [], alts := [], laidByText := true, laidKinds := [.data, .data, .data, .data], laidTests := true, laidLooks := .later }
def DayRowsUptoCardSaid : Prop := Claim7.holds Tryd.pinned (.plain (OpenSpec.upto dayRowsSpec)) dayRowsUptoCard

/-- THE SECOND FORM's CARD OF 'daybooklaw02.DayCycle'. -/
def dayCycleUptoCard : Claim7 := { stood := { row := dayCycleUptoRow, standIns := [], harness := (true, "a393ea737b3bd636a45092069b1003ab2dc42d76c70d56b93ebdd318411ad33f"), looks := false }, kinds := [], alts := [], laidByText := true, laidKinds := [.data, .data, .data, .data], laidTests := true, laidLooks := .later }
def DayCycleUptoCardSaid : Prop := Claim7.holds Tryd.pinned (.plain (OpenSpec.upto dayCycleSpec)) dayCycleUptoCard

/-- THE SECOND FORM's CARD OF 'daybooklaw02.DayMonthEnds'. -/
def dayMonthEndsUptoCard : Claim7 := { stood := { row := dayMonthEndsUptoRow, standIns := [], harness := (true, "a393ea737b3bd636a45092069b1003ab2dc42d76c70d56b93ebdd318411ad33f"), looks := false }, kinds := [], alts := [], laidByText := true, laidKinds := [.data, .data, .data, .data], laidTests := true, laidLooks := .later }
def DayMonthEndsUptoCardSaid : Prop := Claim7.holds Tryd.pinned (.plain (OpenSpec.upto dayMonthEndsSpec)) dayMonthEndsUptoCard

/-- THE SECOND FORM's CARD OF 'daybooklaw02.DayTexts'. -/
def dayTextsUptoCard : Claim7 := { stood := { row := dayTextsUptoRow, standIns := [], harness := (true, "a393ea737b3bd636a45092069b1003ab2dc42d76c70d56b93ebdd318411ad33f"), looks := false }, kinds := [], alts := [], laidByText := true, laidKinds := [.data, .data, .data, .data], laidTests := true, laidLooks := .later }
def DayTextsUptoCardSaid : Prop := Claim7.holds Tryd.pinned (.plain (OpenSpec.upto dayTextsSpec)) dayTextsUptoCard
end Rows
end Go.Proofs.YtjipemnphpnmiabDoor
