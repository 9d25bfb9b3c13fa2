/-
  DERIVED. GIVEN WITH THE SEED: THE CARDS: each row of YtgohddimnphbkaaDoorRows.lean that lists a variable, with what it lists TIED to the program's text (the seventh form; the later family's looks); each row that meets fmt, with fmt's text TOLD by the authors' own Lean function (tested against real Go, not proved from fmt's source: count such statements apart). THE CARD IS WHAT COUNTS. Prove the row's statement (the work); the ties are given (YtgohddimnphbkaaDoorTie.lean); close each card by the builder's one call (the guide's Derived/Test/ToyasCard.lean, 'card_holds'). Laid BY PROGRAM, IN A SANDBOX (cutbox-door.mjs). By AI agents, Wed Nov 11 2026. No macro, syntax, notation, axiom, sorry.
-/
import Derived.Test.YtgohddimnphbkaaDoorRows
import GoSem.ClaimSeven
namespace Go.Proofs.YtgohddimnphbkaaDoor
namespace Rows

/-- THE TIED CARD OF 'daybooklaw08.SumsBack'. -/
def sumsBackCard : Claim7 := { stood := { row := sumsBackRow, standIns := [], harness := (true, "35b92981fe6faf08a5df9bdfe3f4ff2366d9a8fa20411018f93efc7f7ca8031a"), looks := false }, kinds := [], alts := [], laidByText := true, laidKinds := [.data, .pinned], laidTests := true, laidLooks := .later }
def SumsBackCardSaid : Prop := Claim7.holds Tryd.pinned (.plain (OpenSpec.ofChange sumsBackSpec)) sumsBackCard

/-- THE TIED CARD OF 'daybooklaw08.SumsOrder'. -/
def sumsOrderCard : Claim7 := { stood := { row := sumsOrderRow, standIns := [], harness := (true, "35b92981fe6faf08a5df9bdfe3f4ff2366d9a8fa20411018f93efc7f7ca8031a"), looks := false }, kinds := [], alts := [], laidByText := true, laidKinds := [.data, .pinned], laidTests := true, laidLooks := .later }
def SumsOrderCardSaid : Prop := Claim7.holds Tryd.pinned (.plain (OpenSpec.ofChange sumsOrderSpec)) sumsOrderCard

/-- THE TIED CARD OF 'daybooklaw08.SumsTree'. -/
def sumsTreeCard : Claim7 := { stood := { row := sumsTreeRow, standIns := [], harness := (true, "35b92981fe6faf08a5df9bdfe3f4ff2366d9a8fa20411018f93efc7f7ca8031a"), looks := false }, kinds := [], alts := [], laidByText := true, laidKinds := [.data, .pinned], laidTests := true, laidLooks := .later }
def SumsTreeCardSaid : Prop := Claim7.holds Tryd.pinned (.plain (OpenSpec.ofChange sumsTreeSpec)) sumsTreeCard

/-- THE SECOND FORM's CARD OF 'daybooklaw08.SumsBack'. -/
def sumsBackUptoCard : Claim7 := { stood := { row := sumsBackUptoRow, standIns := [], harness := (true, "35b92981fe6faf08a5df9bdfe3f4ff2366d9a8fa20411018f93efc7f7ca8031a"), looks := false }, kinds := [], alts := [], laidByText := true, laidKinds := [.data, .pinned], laidTests := true, laidLooks := .later }
def SumsBackUptoCardSaid : Prop := Claim7.holds Tryd.pinned (.plain (OpenSpec.upto sumsBackSpec)) sumsBackUptoCard

/-- THE SECOND FORM's CARD OF 'daybooklaw08.SumsOrder'. -/
def sumsOrderUptoCard : Claim7 := { stood := { row := sumsOrderUptoRow, standIns := [], harness := (true, "35b92981fe6faf08a5df9bdfe3f4ff2366d9a8fa20411018f93efc7f7ca8031a"), looks := false }, kinds := [], alts := [], laidByText := true, laidKinds := [.data, .pinned], laidTests := true, laidLooks := .later }
def SumsOrderUptoCardSaid : Prop := Claim7.holds Tryd.pinned (.plain (OpenSpec.upto sumsOrderSpec)) sumsOrderUptoCard

/-- THE SECOND FORM's CARD OF 'daybooklaw08.SumsTree'. -/
def sumsTreeUptoCard : Claim7 := { stood := { row := sumsTreeUptoRow, standIns := [], harness := (true, "35b92981fe6faf08a5df9bdfe3f4ff2366d9a8fa20411018f93efc7f7ca8031a"), looks := false }, kinds := [], alts := [], laidByText := true, laidKinds := [.data, .pinned], laidTests := true, laidLooks := .later }
def SumsTreeUptoCardSaid : Prop := Claim7.holds Tryd.pinned (.plain (OpenSpec.upto sumsTreeSpec)) sumsTreeUptoCard
end Rows
end Go.Proofs.YtgohddimnphbkaaDoor
