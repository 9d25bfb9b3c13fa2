/-
  DERIVED. GIVEN WITH THE SEED: THE CARDS: each row of YtildpgfhahmgmaaDoorRows.lean that lists a variable, with what it lists TIED to the program's text (the seventh form; the later family's looks); each row that meets fmt, with fmt's text TOLD by the authors' own Lean function (tested against real Go, not proved from fmt's source: count such statements apart). THE CARD IS WHAT COUNTS. Prove the row's statement (the work); the ties are given (YtildpgfhahmgmaaDoorTie.lean); close each card by the builder's one call (the guide's Derived/Test/ToyasCard.lean, 'card_holds'). Laid BY PROGRAM, IN A SANDBOX (cutbox-door.mjs). By AI agents, Wed Nov 11 2026. No macro, syntax, notation, axiom, sorry.
-/
import Derived.Test.YtildpgfhahmgmaaDoorRows
import GoSem.ClaimSeven
namespace Go.Proofs.YtildpgfhahmgmaaDoor
namespace Rows

/-- THE TIED CARD OF 'daybooklaw10.AgedSteps'. -/
def agedStepsCard : Claim7 := { stood := { row := agedStepsRow, standIns := [], harness := (true, "abd24d7622d23e0463e8981439da8dc1c02b5c240ee21f2042af147ceb7b88bb"), looks := false }, kinds := [], alts := [], laidByText := true, laidKinds := [.data], laidTests := true, laidLooks := .later }
def AgedStepsCardSaid : Prop := Claim7.holds Tryd.pinned (.plain (OpenSpec.ofChange agedStepsSpec)) agedStepsCard

/-- THE TIED CARD OF 'daybooklaw10.AgedTwins'. -/
def agedTwinsCard : Claim7 := { stood := { row := agedTwinsRow, standIns := [], harness := (true, "abd24d7622d23e0463e8981439da8dc1c02b5c240ee21f2042af147ceb7b88bb"), looks := false }, kinds := [], alts := [], laidByText := true, laidKinds := [.data], laidTests := true, laidLooks := .later }
def AgedTwinsCardSaid : Prop := Claim7.holds Tryd.pinned (.plain (OpenSpec.ofChange agedTwinsSpec)) agedTwinsCard

/-- THE TIED CARD OF 'daybooklaw10.AgedOrder'. -/
def agedOrderCard : Claim7 := { stood := { row := agedOrderRow, standIns := [], harness := (true, "abd24d7622d23e0463e8981439da8dc1c02b5c240ee21f2042af147ceb7b88bb"), looks := false }, kinds := [], alts := [], laidByText := true, laidKinds := [.data], laidTests := true, laidLooks := .later }
def AgedOrderCardSaid : Prop := Claim7.holds Tryd.pinned (.plain (OpenSpec.ofChange agedOrderSpec)) agedOrderCard

/-- THE TIED CARD OF 'daybooklaw10.AgedLater'. -/
def agedLaterCard : Claim7 := { stood := { row := agedLaterRow, standIns := [], harness := (true, "abd24d7622d23e0463e8981439da8dc1c02b5c240ee21f2042af147ceb7b88bb"), looks := false }, kinds := [], alts := [], laidByText := true, laidKinds := [.data], laidTests := true, laidLooks := .later }
def AgedLaterCardSaid : Prop := Claim7.holds Tryd.pinned (.plain (OpenSpec.ofChange agedLaterSpec)) agedLaterCard

/-- THE TIED CARD OF 'daybooklaw10.AgedSums'. -/
def agedSumsCard : Claim7 := { stood := { row := agedSumsRow, standIns := [], harness := (true, "abd24d7622d23e0463e8981439da8dc1c02b5c240ee21f2042af147ceb7b88bb"), looks := false }, kinds := [], alts := [], laidByText := true, laidKinds := [.data], laidTests := true, laidLooks := .later }
def AgedSumsCardSaid : Prop := Claim7.holds Tryd.pinned (.plain (OpenSpec.ofChange agedSumsSpec)) agedSumsCard

/-- THE SECOND FORM's CARD OF 'daybooklaw10.AgedSteps'. -/
def agedStepsUptoCard : Claim7 := { stood := { row := agedStepsUptoRow, standIns := [], harness := (true, "abd24d7622d23e0463e8981439da8dc1c02b5c240ee21f2042af147ceb7b88bb"), looks := false }, kinds := [], alts := [], laidByText := true, laidKinds := [.data], laidTests := true, laidLooks := .later }
def AgedStepsUptoCardSaid : Prop := Claim7.holds Tryd.pinned (.plain (OpenSpec.upto agedStepsSpec)) agedStepsUptoCard

/-- THE SECOND FORM's CARD OF 'daybooklaw10.AgedTwins'. -/
def agedTwinsUptoCard : Claim7 := { stood := { row := agedTwinsUptoRow, standIns := [], harness := (true, "abd24d7622d23e0463e8981439da8dc1c02b5c240ee21f2042af147ceb7b88bb"), looks := false }, kinds := [], alts := [], laidByText := true, laidKinds := [.data], laidTests := true, laidLooks := .later }
def AgedTwinsUptoCardSaid : Prop := Claim7.holds Tryd.pinned (.plain (OpenSpec.upto agedTwinsSpec)) agedTwinsUptoCard

/-- THE SECOND FORM's CARD OF 'daybooklaw10.AgedOrder'. -/
def agedOrderUptoCard : Claim7 := { stood := { row := agedOrderUptoRow, standIns := [], harness := (true, "abd24d7622d23e0463e8981439da8dc1c02b5c240ee21f2042af147ceb7b88bb"), looks := false }, kinds := [], alts := [], laidByText := true, laidKinds := [.data], laidTests := true, laidLooks := .later }
def AgedOrderUptoCardSaid : Prop := Claim7.holds Tryd.pinned (.plain (OpenSpec.upto agedOrderSpec)) agedOrderUptoCard

/-- THE SECOND FORM's CARD OF 'daybooklaw10.AgedLater'. -/
def agedLaterUptoCard : Claim7 := { stood := { row := agedLaterUptoRow, standIns := [], harness := (true, "abd24d7622d23e0463e8981439da8dc1c02b5c240ee21f2042af147ceb7b88bb"), looks := false }, kinds := [], alts := [], laidByText := true, laidKinds := [.data], laidTests := true, laidLooks := .later }
def AgedLaterUptoCardSaid : Prop := Claim7.holds Tryd.pinned (.plain (OpenSpec.upto agedLaterSpec)) agedLaterUptoCard

/-- THE SECOND FORM's CARD OF 'daybooklaw10.AgedSums'. -/
def agedSumsUptoCard : Claim7 := { stood := { row := agedSumsUptoRow, standIns := [], harness := (true, "abd24d7622d23e0463e8981439da8dc1c02b5c240ee21f2042af147ceb7b88bb"), looks := false }, kinds := [], alts := [], laidByText := true, laidKinds := [.data], laidTests := true, laidLooks := .later }
def AgedSumsUptoCardSaid : Prop := Claim7.holds Tryd.pinned (.plain (OpenSpec.upto agedSumsSpec)) agedSumsUptoCard
end Rows
end Go.Proofs.YtildpgfhahmgmaaDoor
