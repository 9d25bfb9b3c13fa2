/-
  DERIVED. GIVEN WITH THE SEED: THE CARDS: each row of YtmgnlgobkkfjhaaGreatDoorRows.lean that lists a variable, with what it lists TIED to the program's text (the seventh form; the later family's looks); each row that meets fmt, with fmt's text TOLD by the authors' own Lean function (tested against real Go, not proved from fmt's source: count such statements apart). THE CARD IS WHAT COUNTS. Prove the row's statement (the work); the ties are given (YtmgnlgobkkfjhaaGreatDoorTie.lean); close each card by the builder's one call (the guide's Derived/Test/ToyasCard.lean, 'card_holds'). Laid BY PROGRAM, IN A SANDBOX (cutbox-door.mjs). By AI agents, Wed Nov 11 2026. No macro, syntax, notation, axiom, sorry.
-/
import Derived.Test.YtmgnlgobkkfjhaaGreatDoorRows
import GoSem.ClaimSeven
namespace Go.Proofs.YtmgnlgobkkfjhaaGreatDoor
namespace Rows

/-- THE TIED CARD OF 'daybooklaw09.DailyTells'. -/
def dailyTellsCard : Claim7 := { stood := { row := dailyTellsRow, standIns := [], harness := (true, "43e990fbd31b212a3336827f040f1ec1eb940a526d559a82a6b5baca1333b9fa"), looks := false }, kinds := [], alts := [], laidByText := true, laidKinds := [.data, .data, .data, .data, .pinned], laidTests := true, laidLooks := .later }
def DailyTellsCardSaid : Prop := Claim7.holds Tryz.pinned (.plain (OpenSpec.ofChange dailyTellsSpec)) dailyTellsCard

/-- THE TIED CARD OF 'daybooklaw09.DailyAll'. -/
def dailyAllCard : Claim7 := { stood := { row := dailyAllRow, standIns := [], harness := (true, "43e990fbd31b212a3336827f040f1ec1eb940a526d559a82a6b5baca1333b9fa"), looks := false }, kinds := [], alts := [], laidByText := true, laidKinds := [.data, .data, .data, .data, .pinned], laidTests := true, laidLooks := .later }
def DailyAllCardSaid : Prop := Claim7.holds Tryz.pinned (.plain (OpenSpec.ofChange dailyAllSpec)) dailyAllCard

/-- THE SECOND FORM's CARD OF 'daybooklaw09.DailyTells'. -/
def dailyTellsUptoCard : Claim7 := { stood := { row := dailyTellsUptoRow, standIns := [], harness := (true, "43e990fbd31b212a3336827f040f1ec1eb940a526d559a82a6b5baca1333b9fa"), looks := false }, kinds := [], alts := [], laidByText := true, laidKinds := [.data, .data, .data, .data, .pinned], laidTests := true, laidLooks := .later }
def DailyTellsUptoCardSaid : Prop := Claim7.holds Tryz.pinned (.plain (OpenSpec.upto dailyTellsSpec)) dailyTellsUptoCard

/-- THE SECOND FORM's CARD OF 'daybooklaw09.DailyAll'. -/
def dailyAllUptoCard : Claim7 := { stood := { row := dailyAllUptoRow, standIns := [], harness := (true, "43e990fbd31b212a3336827f040f1ec1eb940a526d559a82a6b5baca1333b9fa"), looks := false }, kinds := [], alts := [], laidByText := true, laidKinds := [.data, .data, .data, .data, .pinned], laidTests := true, laidLooks := .later }
def DailyAllUptoCardSaid : Prop := Claim7.holds Tryz.pinned (.plain (OpenSpec.upto dailyAllSpec)) dailyAllUptoCard
end Rows
end Go.Proofs.YtmgnlgobkkfjhaaGreatDoor
