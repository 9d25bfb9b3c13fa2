/-
  DERIVED. GIVEN WITH THE SEED: THE CARDS: each row of YtddpladmkmpoaaaDoorRows.lean that lists a variable, with what it lists TIED to the program's text (the seventh form; the later family's looks); each row that meets fmt, with fmt's text TOLD by the authors' own Lean function (tested against real Go, not proved from fmt's source: count such statements apart). THE CARD IS WHAT COUNTS. Prove the row's statement (the work); the ties are given (YtddpladmkmpoaaaDoorTie.lean); close each card by the builder's one call (the guide's Derived/Test/ToyasCard.lean, 'card_holds'). Laid BY PROGRAM, IN A SANDBOX (cutbox-door.mjs). By AI agents, Wed Nov 11 2026. No macro, syntax, notation, axiom, sorry.
-/
import Derived.Test.YtddpladmkmpoaaaDoorRows
import GoSem.ClaimSeven
namespace Go.Proofs.YtddpladmkmpoaaaDoor
namespace Rows

/-- THE TIED CARD OF 'daybooklaw01.MoneyPrints'. -/
def moneyPrintsCard : Claim7 := { stood := { row := moneyPrintsRow, standIns := [], harness := (true, "477a253b88efd7d64166060d31ac93d41df591b1687617bb13985bb1c1ce2d06"), looks := false }, kinds := [], alts := [], laidByText := true, laidKinds := [.data, .data, .data], laidTests := true, laidLooks := .later }
def MoneyPrintsCardSaid : Prop := Claim7.holds Tryd.pinned (.plain (OpenSpec.ofChange moneyPrintsSpec)) moneyPrintsCard

/-- THE TIED CARD OF 'daybooklaw01.MoneyRounds'. -/
def moneyRoundsCard : Claim7 := { stood := { row := moneyRoundsRow, standIns := [], harness := (true, "477a253b88efd7d64166060d31ac93d41df591b1687617bb13985bb1c1ce2d06"), looks := false }, kinds := [], alts := [], laidByText := true, laidKinds := [.data, .data, .data], laidTests := true, laidLooks := .later }
def MoneyRoundsCardSaid : Prop := Claim7.holds Tryd.pinned (.plain (OpenSpec.ofChange moneyRoundsSpec)) moneyRoundsCard

/-- THE SECOND FORM's CARD OF 'daybooklaw01.MoneyPrints'. -/
def moneyPrintsUptoCard : Claim7 := { stood := { row := moneyPrintsUptoRow, standIns := [], harness := (true, "477a253b88efd7d64166060d31ac93d41df591b1687617bb13985bb1c1ce2d06"), looks := false }, kinds := [], alts := [], laidByText := true, laidKinds := [.data, .data, .data], laidTests := true, laidLooks := .later }
def MoneyPrintsUptoCardSaid : Prop := Claim7.holds Tryd.pinned (.plain (OpenSpec.upto moneyPrintsSpec)) moneyPrintsUptoCard

/-- THE SECOND FORM's CARD OF 'daybooklaw01.MoneyRounds'. -/
def moneyRoundsUptoCard : Claim7 := { stood := { row := moneyRoundsUptoRow, standIns := [], harness := (true, "477a253b88efd7d64166060d31ac93d41df591b1687617bb13985bb1c1ce2d06"), looks := false }, kinds := [], alts := [], laidByText := true, laidKinds := [.data, .data, .data], laidTests := true, laidLooks := .later }
def MoneyRoundsUptoCardSaid : Prop := Claim7.holds Tryd.pinned (.plain (OpenSpec.upto moneyRoundsSpec)) moneyRoundsUptoCard
end Rows
end Go.Proofs.YtddpladmkmpoaaaDoor
