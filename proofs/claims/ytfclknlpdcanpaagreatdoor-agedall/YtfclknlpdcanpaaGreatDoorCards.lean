/-
  DERIVED. GIVEN WITH THE SEED: THE CARDS: each row of YtfclknlpdcanpaaGreatDoorRows.lean that lists a variable, with what it lists TIED to the program's text (the seventh form; the later family's looks); each row that meets fmt, with fmt's text TOLD by the authors' own Lean function (tested against real Go, not proved from fmt's source: count such statements apart). THE CARD IS WHAT COUNTS. Prove the row's statement (the work); the ties are given (YtfclknlpdcanpaaGreatDoorTie.lean); close each card by the builder's one call (the guide's Derived/Test/ToyasCard.lean, 'card_holds'). Laid BY PROGRAM, IN A SANDBOX (cutbox-door.mjs). By AI agents, Wed Nov 11 2026. No macro, syntax, notation, axiom, sorry.
-/
import Derived.Test.YtfclknlpdcanpaaGreatDoorRows
import GoSem.ClaimSeven
namespace Go.Proofs.YtfclknlpdcanpaaGreatDoor
namespace Rows

/-- THE TIED CARD OF 'daybooklaw10.AgedTakes'. -/
def agedTakesCard : Claim7 := { stood := { row := agedTakesRow, standIns := [], harness := (true, "500ab89a722d9502f57158c22f4417c718c7d530f7960e27416220ba1b58cd39"), looks := false }, kinds := [], alts := [], laidByText := true, laidKinds := [.data, .data, .data, .data], laidTests := true, laidLooks := .later }
def AgedTakesCardSaid : Prop := Claim7.holds Tryz.pinned (.plain (OpenSpec.ofChange agedTakesSpec)) agedTakesCard

/-- THE TIED CARD OF 'daybooklaw10.AgedAdvances'. -/
def agedAdvancesCard : Claim7 := { stood := { row := agedAdvancesRow, standIns := [], harness := (true, "500ab89a722d9502f57158c22f4417c718c7d530f7960e27416220ba1b58cd39"), looks := false }, kinds := [], alts := [], laidByText := true, laidKinds := [.data, .data, .data, .data], laidTests := true, laidLooks := .later }
def AgedAdvancesCardSaid : Prop := Claim7.holds Tryz.pinned (.plain (OpenSpec.ofChange agedAdvancesSpec)) agedAdvancesCard

/-- THE TIED CARD OF 'daybooklaw10.AgedAsks'. -/
def agedAsksCard : Claim7 := { stood := { row := agedAsksRow, standIns := [], harness := (true, "500ab89a722d9502f57158c22f4417c718c7d530f7960e27416220ba1b58cd39"), looks := false }, kinds := [], alts := [], laidByText := true, laidKinds := [.data, .data, .data, .data], laidTests := true, laidLooks := .later }
def AgedAsksCardSaid : Prop := Claim7.holds Tryz.pinned (.plain (OpenSpec.ofChange agedAsksSpec)) agedAsksCard

/-- THE TIED CARD OF 'daybooklaw10.AgedStates'. -/
def agedStatesCard : Claim7 := { stood := { row := agedStatesRow, standIns := [], harness := (true, "500ab89a722d9502f57158c22f4417c718c7d530f7960e27416220ba1b58cd39"), looks := false }, kinds := [], alts := [], laidByText := true, laidKinds := [.data, .data, .data, .data], laidTests := true, laidLooks := .later }
def AgedStatesCardSaid : Prop := Claim7.holds Tryz.pinned (.plain (OpenSpec.ofChange agedStatesSpec)) agedStatesCard

/-- THE TIED CARD OF 'daybooklaw10.AgedAll'. -/
def agedAllCard : Claim7 := { stood := { row := agedAllRow, standIns := [], harness := (true, "500ab89a722d9502f57158c22f4417c718c7d530f7960e27416220ba1b58cd39"), looks := false }, kinds := [], alts := [], laidByText := true, laidKinds := [.data, .data, .data, .data], laidTests := true, laidLooks := .later }
def AgedAllCardSaid : Prop := Claim7.holds Tryz.pinned (.plain (OpenSpec.ofChange agedAllSpec)) agedAllCard

/-- THE SECOND FORM's CARD OF 'daybooklaw10.AgedTakes'. -/
def agedTakesUptoCard : Claim7 := { stood := { row := agedTakesUptoRow, standIns := [], harness := (true, "500ab89a722d9502f57158c22f4417c718c7d530f7960e27416220ba1b58cd39"), looks := false }, kinds := [], alts := [], laidByText := true, laidKinds := [.data, .data, .data, .data], laidTests := true, laidLooks := .later }
def AgedTakesUptoCardSaid : Prop := Claim7.holds Tryz.pinned (.plain (OpenSpec.upto agedTakesSpec)) agedTakesUptoCard

/-- THE SECOND FORM's CARD OF 'daybooklaw10.AgedAdvances'. -/
def agedAdvancesUptoCard : Claim7 := { stood := { row := agedAdvancesUptoRow, standIns := [], harness := (true, "500ab89a722d9502f57158c22f4417c718c7d530f7960e27416220ba1b58cd39"), looks := false }, kinds := [], alts := [], laidByText := true, laidKinds := [.data, .data, .data, .data], laidTests := true, laidLooks := .later }
def AgedAdvancesUptoCardSaid : Prop := Claim7.holds Tryz.pinned (.plain (OpenSpec.upto agedAdvancesSpec)) agedAdvancesUptoCard

/-- THE SECOND FORM's CARD OF 'daybooklaw10.AgedAsks'. -/
def agedAsksUptoCard : Claim7 := { stood := { row := agedAsksUptoRow, standIns := [], harness := (true, "500ab89a722d9502f57158c22f4417c718c7d530f7960e27416220ba1b58cd39"), looks := false }, kinds := [], alts := [], laidByText := true, laidKinds := [.data, .data, .data, .data], laidTests := true, laidLooks := .later }
def AgedAsksUptoCardSaid : Prop := Claim7.holds Tryz.pinned (.plain (OpenSpec.upto agedAsksSpec)) agedAsksUptoCard

/-- THE SECOND FORM's CARD OF 'daybooklaw10.AgedStates'. -/
def agedStatesUptoCard : Claim7 := { stood := { row := agedStatesUptoRow, standIns := [], harness := (true, "500ab89a722d9502f57158c22f4417c718c7d530f7960e27416220ba1b58cd39"), looks := false }, kinds := [], alts := [], laidByText := true, laidKinds := [.data, .data, .data, .data], laidTests := true, laidLooks := .later }
def AgedStatesUptoCardSaid : Prop := Claim7.holds Tryz.pinned (.plain (OpenSpec.upto agedStatesSpec)) agedStatesUptoCard

/-- THE SECOND FORM's CARD OF 'daybooklaw10.AgedAll'. -/
def agedAllUptoCard : Claim7 := { stood := { row := agedAllUptoRow, standIns := [], harness := (true, "500ab89a722d9502f57158c22f4417c718c7d530f7960e27416220ba1b58cd39"), looks := false }, kinds := [], alts := [], laidByText := true, laidKinds := [.data, .data, .data, .data], laidTests := true, laidLooks := .later }
def AgedAllUptoCardSaid : Prop := Claim7.holds Tryz.pinned (.plain (OpenSpec.upto agedAllSpec)) agedAllUptoCard
end Rows
end Go.Proofs.YtfclknlpdcanpaaGreatDoor
