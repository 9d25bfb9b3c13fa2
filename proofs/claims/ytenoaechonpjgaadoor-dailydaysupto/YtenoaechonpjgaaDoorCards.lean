/-
  DERIVED. GIVEN WITH THE SEED: THE CARDS: each row of YtenoaechonpjgaaDoorRows.lean that lists a variable, with what it lists TIED to the program's text (the seventh form; the later family's looks); each row that meets fmt, with fmt's text TOLD by the authors' own Lean function (tested against real Go, not proved from fmt's source: count such statements apart). THE CARD IS WHAT COUNTS. Prove the row's statement (the work); the ties are given (YtenoaechonpjgaaDoorTie.lean); close each card by the builder's one call (the guide's Derived/Test/ToyasCard.lean, 'card_holds'). Laid BY PROGRAM, IN A SANDBOX (cutbox-door.mjs). By AI agents, Wed Nov 11 2026. No macro, syntax, notation, axiom, sorry.
-/
import Derived.Test.YtenoaechonpjgaaDoorRows
import GoSem.ClaimSeven
namespace Go.Proofs.YtenoaechonpjgaaDoor
namespace Rows

/-- THE TIED CARD OF 'daybooklaw09.DailyLater'. -/
def dailyLaterCard : Claim7 := { stood := { row := dailyLaterRow, standIns := [], harness := (true, "f473a819bb4f4f3c05c6b0272cfd4efaa6a75cf1e7283989cf43feaef3ce6df7"), looks := false }, kinds := [], alts := [], laidByText := true, laidKinds := [.data, .pinned], laidTests := true, laidLooks := .later }
def DailyLaterCardSaid : Prop := Claim7.holds Tryd.pinned (.plain (OpenSpec.ofChange dailyLaterSpec)) dailyLaterCard

/-- THE TIED CARD OF 'daybooklaw09.DailyBack'. -/
def dailyBackCard : Claim7 := { stood := { row := dailyBackRow, standIns := [], harness := (true, "f473a819bb4f4f3c05c6b0272cfd4efaa6a75cf1e7283989cf43feaef3ce6df7"), looks := false }, kinds := [], alts := [], laidByText := true, laidKinds := [.data, .pinned], laidTests := true, laidLooks := .later }
def DailyBackCardSaid : Prop := Claim7.holds Tryd.pinned (.plain (OpenSpec.ofChange dailyBackSpec)) dailyBackCard

/-- THE TIED CARD OF 'daybooklaw09.DailyOrder'. -/
def dailyOrderCard : Claim7 := { stood := { row := dailyOrderRow, standIns := [], harness := (true, "f473a819bb4f4f3c05c6b0272cfd4efaa6a75cf1e7283989cf43feaef3ce6df7"), looks := false }, kinds := [], alts := [], laidByText := true, laidKinds := [.data, .pinned], laidTests := true, laidLooks := .later }
def DailyOrderCardSaid : Prop := Claim7.holds Tryd.pinned (.plain (OpenSpec.ofChange dailyOrderSpec)) dailyOrderCard

/-- THE TIED CARD OF 'daybooklaw09.DailyDays'. -/
def dailyDaysCard : Claim7 := { stood := { row := dailyDaysRow, standIns := [], harness := (true, "f473a819bb4f4f3c05c6b0272cfd4efaa6a75cf1e7283989cf43feaef3ce6df7"), looks := false }, kinds := [], alts := [], laidByText := true, laidKinds := [.data, .pinned], laidTests := true, laidLooks := .later }
def DailyDaysCardSaid : Prop := Claim7.holds Tryd.pinned (.plain (OpenSpec.ofChange dailyDaysSpec)) dailyDaysCard

/-- THE SECOND FORM's CARD OF 'daybooklaw09.DailyLater'. -/
def dailyLaterUptoCard : Claim7 := { stood := { row := dailyLaterUptoRow, standIns := [], harness := (true, "f473a819bb4f4f3c05c6b0272cfd4efaa6a75cf1e7283989cf43feaef3ce6df7"), looks := false }, kinds := [], alts := [], laidByText := true, laidKinds := [.data, .pinned], laidTests := true, laidLooks := .later }
def DailyLaterUptoCardSaid : Prop := Claim7.holds Tryd.pinned (.plain (OpenSpec.upto dailyLaterSpec)) dailyLaterUptoCard

/-- THE SECOND FORM's CARD OF 'daybooklaw09.DailyBack'. -/
def dailyBackUptoCard : Claim7 := { stood := { row := dailyBackUptoRow, standIns := [], harness := (true, "f473a819bb4f4f3c05c6b0272cfd4efaa6a75cf1e7283989cf43feaef3ce6df7"), looks := false }, kinds := [], alts := [], laidByText := true, laidKinds := [.data, .pinned], laidTests := true, laidLooks := .later }
def DailyBackUptoCardSaid : Prop := Claim7.holds Tryd.pinned (.plain (OpenSpec.upto dailyBackSpec)) dailyBackUptoCard

/-- THE SECOND FORM's CARD OF 'daybooklaw09.DailyOrder'. -/
def dailyOrderUptoCard : Claim7 := { stood := { row := dailyOrderUptoRow, standIns := [], harness := (true, "f473a819bb4f4f3c05c6b0272cfd4efaa6a75cf1e7283989cf43feaef3ce6df7"), looks := false }, kinds := [], alts := [], laidByText := true, laidKinds := [.data, .pinned], laidTests := true, laidLooks := .later }
def DailyOrderUptoCardSaid : Prop := Claim7.holds Tryd.pinned (.plain (OpenSpec.upto dailyOrderSpec)) dailyOrderUptoCard

/-- THE SECOND FORM's CARD OF 'daybooklaw09.DailyDays'. -/
def dailyDaysUptoCard : Claim7 := { stood := { row := dailyDaysUptoRow, standIns := [], harness := (true, "f473a819bb4f4f3c05c6b0272cfd4efaa6a75cf1e7283989cf43feaef3ce6df7"), looks := false }, kinds := [], alts := [], laidByText := true, laidKinds := [.data, .pinned], laidTests := true, laidLooks := .later }
def DailyDaysUptoCardSaid : Prop := Claim7.holds Tryd.pinned (.plain (OpenSpec.upto dailyDaysSpec)) dailyDaysUptoCard
end Rows
end Go.Proofs.YtenoaechonpjgaaDoor
