/-
  NARROWER THAN 'FOR EVERY INPUT', by the rows' own cells (each row's printed sentence says how): AgedSteps: laid · AgedTwins: laid · AgedOrder: laid · AgedLater: laid · AgedSums: laid.
  DERIVED. THE GIVEN ROWS OF THIS SEAT. 5 by the template 'for every input the law returns true; each argument reads behind the call as it read before'; 0 by the template 'total and deterministic' (their statements: YtildpgfhahmgmaaDoorTotals.lean).
  GIVEN WITH THE SEED: the statements are not yours to turn. If you find one false, say at which input.
  Laid BY PROGRAM, IN A SANDBOX (cutbox-rows.mjs): the forced cells as the released guide's own fill.sh prints them over the translation 239a948038211fd2… (all of the seat's roots in one cut). By AI agents, Wed Nov 11 2026. No macro, syntax, notation, axiom, sorry.
-/
import Derived.Test.YtildpgfhahmgmaaDoorChecked
import GoSem.Claim
import GoSem.ClaimJoined
import GoSem.ClaimMapViews
import Derived.JoinedTies
import Derived.KernelRfl
namespace Go.Proofs.YtildpgfhahmgmaaDoor
/- THE CELL 'sum', in the pinned program and in every row, IS THE sha256 OF THE DUMP (.gsa) THAT YtildpgfhahmgmaaDoorProg.lean LOADS. Nothing in Lean hashes anything: it is a label: what it is worth is what the hold of that sum in a sandbox is worth. -/
noncomputable def Tryd.pinned : Pinned := { name := "ytildpgfhahmgmaadoor", sum := "239a948038211fd28486e5123eb2b9dbcf5f083858626bb9f86e43fe282337a0", checked := Tryd.checked }
namespace Rows
def none {H : Type} : Left H := { results := [], args := [] }

/- WHAT THE LISTED PACKAGE-LEVEL VARIABLES READ AS WHEN THE CALL BEGINS. Each datum BY PROGRAM (the guide's laid-datum.mjs) off the statement by which the dump's own 'gosem.cut.vars' lays the variable. In a bare row this is a premise. The card (YtildpgfhahmgmaaDoorCards.lean) ties it to the program's text. -/
def laid_daybook_aged_steps {H : Type} : DataW H := .agg [.lit (.int .i64 1), .lit (.int .i64 31), .lit (.int .i64 61), .lit (.int .i64 91)]

/-- 'daybooklaw10.AgedSteps': WHATEVER THE INPUT: true; the input reads as it did. -/
def agedStepsSpec : ChangeSpec := { name := "agedSteps", fn := fun _ => fun
  | [d1, d2, d3] => { results := [.lit (.bool true)], args := [d1, d2, d3] }
  | _ => none }
def agedStepsRow : OpenClaim := { program := "ytildpgfhahmgmaadoor", sum := "239a948038211fd28486e5123eb2b9dbcf5f083858626bb9f86e43fe282337a0", func := "daybook/daybooklaw10.AgedSteps", spec := "agedSteps", unfollowed := true, recurses := true, named := ["daybook/aged.steps"], apart := false, laid := [("daybook/aged.steps", laid_daybook_aged_steps)] }
def AgedStepsSaid : Prop := agedStepsRow.holds Tryd.pinned (OpenSpec.ofChange agedStepsSpec)

/-- ITS FALSE NEIGHBOUR: 'it returns false'. Refute it at one input. -/
def agedStepsWrong : ChangeSpec := { name := "agedSteps", fn := fun _ => fun
  | [d1, d2, d3] => { results := [.lit (.bool false)], args := [d1, d2, d3] }
  | _ => none }
def AgedStepsWrongFalsely : Prop := agedStepsRow.holds Tryd.pinned (OpenSpec.ofChange agedStepsWrong)

/-- 'daybooklaw10.AgedTwins': WHATEVER THE INPUT: true; the input reads as it did. -/
def agedTwinsSpec : ChangeSpec := { name := "agedTwins", fn := fun _ => fun
  | [d1, d2] => { results := [.lit (.bool true)], args := [d1, d2] }
  | _ => none }
def agedTwinsRow : OpenClaim := { program := "ytildpgfhahmgmaadoor", sum := "239a948038211fd28486e5123eb2b9dbcf5f083858626bb9f86e43fe282337a0", func := "daybook/daybooklaw10.AgedTwins", spec := "agedTwins", unfollowed := true, recurses := true, named := ["daybook/aged.steps"], apart := false, laid := [("daybook/aged.steps", laid_daybook_aged_steps)] }
def AgedTwinsSaid : Prop := agedTwinsRow.holds Tryd.pinned (OpenSpec.ofChange agedTwinsSpec)

/-- ITS FALSE NEIGHBOUR: 'it returns false'. Refute it at one input. -/
def agedTwinsWrong : ChangeSpec := { name := "agedTwins", fn := fun _ => fun
  | [d1, d2] => { results := [.lit (.bool false)], args := [d1, d2] }
  | _ => none }
def AgedTwinsWrongFalsely : Prop := agedTwinsRow.holds Tryd.pinned (OpenSpec.ofChange agedTwinsWrong)

/-- 'daybooklaw10.AgedOrder': WHATEVER THE INPUT: true; the input reads as it did. -/
def agedOrderSpec : ChangeSpec := { name := "agedOrder", fn := fun _ => fun
  | [d1, d2, d3] => { results := [.lit (.bool true)], args := [d1, d2, d3] }
  | _ => none }
def agedOrderRow : OpenClaim := { program := "ytildpgfhahmgmaadoor", sum := "239a948038211fd28486e5123eb2b9dbcf5f083858626bb9f86e43fe282337a0", func := "daybook/daybooklaw10.AgedOrder", spec := "agedOrder", unfollowed := true, recurses := true, named := ["daybook/aged.steps"], apart := false, laid := [("daybook/aged.steps", laid_daybook_aged_steps)] }
def AgedOrderSaid : Prop := agedOrderRow.holds Tryd.pinned (OpenSpec.ofChange agedOrderSpec)

/-- ITS FALSE NEIGHBOUR: 'it returns false'. Refute it at one input. -/
def agedOrderWrong : ChangeSpec := { name := "agedOrder", fn := fun _ => fun
  | [d1, d2, d3] => { results := [.lit (.bool false)], args := [d1, d2, d3] }
  | _ => none }
def AgedOrderWrongFalsely : Prop := agedOrderRow.holds Tryd.pinned (OpenSpec.ofChange agedOrderWrong)

/-- 'daybooklaw10.AgedLater': WHATEVER THE INPUT: true; the input reads as it did. -/
def agedLaterSpec : ChangeSpec := { name := "agedLater", fn := fun _ => fun
  | [d1, d2, d3] => { results := [.lit (.bool true)], args := [d1, d2, d3] }
  | _ => none }
def agedLaterRow : OpenClaim := { program := "ytildpgfhahmgmaadoor", sum := "239a948038211fd28486e5123eb2b9dbcf5f083858626bb9f86e43fe282337a0", func := "daybook/daybooklaw10.AgedLater", spec := "agedLater", unfollowed := true, recurses := true, named := ["daybook/aged.steps"], apart := false, laid := [("daybook/aged.steps", laid_daybook_aged_steps)] }
def AgedLaterSaid : Prop := agedLaterRow.holds Tryd.pinned (OpenSpec.ofChange agedLaterSpec)

/-- ITS FALSE NEIGHBOUR: 'it returns false'. Refute it at one input. -/
def agedLaterWrong : ChangeSpec := { name := "agedLater", fn := fun _ => fun
  | [d1, d2, d3] => { results := [.lit (.bool false)], args := [d1, d2, d3] }
  | _ => none }
def AgedLaterWrongFalsely : Prop := agedLaterRow.holds Tryd.pinned (OpenSpec.ofChange agedLaterWrong)

/-- 'daybooklaw10.AgedSums': WHATEVER THE INPUT: true; the input reads as it did. -/
def agedSumsSpec : ChangeSpec := { name := "agedSums", fn := fun _ => fun
  | [d1, d2] => { results := [.lit (.bool true)], args := [d1, d2] }
  | _ => none }
def agedSumsRow : OpenClaim := { program := "ytildpgfhahmgmaadoor", sum := "239a948038211fd28486e5123eb2b9dbcf5f083858626bb9f86e43fe282337a0", func := "daybook/daybooklaw10.AgedSums", spec := "agedSums", unfollowed := true, recurses := true, named := ["daybook/aged.steps"], apart := false, laid := [("daybook/aged.steps", laid_daybook_aged_steps)] }
def AgedSumsSaid : Prop := agedSumsRow.holds Tryd.pinned (OpenSpec.ofChange agedSumsSpec)

/-- ITS FALSE NEIGHBOUR: 'it returns false'. Refute it at one input. -/
def agedSumsWrong : ChangeSpec := { name := "agedSums", fn := fun _ => fun
  | [d1, d2] => { results := [.lit (.bool false)], args := [d1, d2] }
  | _ => none }
def AgedSumsWrongFalsely : Prop := agedSumsRow.holds Tryd.pinned (OpenSpec.ofChange agedSumsWrong)

/- THE SECOND FORM. 'bulk': how many values and letters a reading holds, each counted each time it is reached (what is shared counts as often as it is met; a slice's spare places count too). A statement '..UptoSaid' is the law's where the arguments, and the package variables that the reading takes, are together of bulk at most 1048576: NARROWER than '..Said'. Prove '..Said' where nothing that the law and all that it calls make is longer than what came in: it says more and counts as full. Else prove '..UptoSaid'. A law counts once. -/
mutual
def uptoBulk {H : Type} : DataW H → Nat
  | .lit (.string bytes) => bytes.length + 1
  | .lit _ => 1
  | .nil => 1
  | .ptr d => uptoBulk d + 1
  | .slice elems spare => uptoBulkAll elems + uptoBulkAll spare + 1
  | .agg parts => uptoBulkAll parts + 1
  | .iface _ d => uptoBulk d + 1
  | .map entries => uptoBulkEntries entries + 1
  | .held _ => 1
def uptoBulkAll {H : Type} : List (DataW H) → Nat
  | [] => 0
  | d :: r => uptoBulk d + uptoBulkAll r
def uptoBulkEntries {H : Type} : List (Lit × DataW H) → Nat
  | [] => 0
  | x :: r => uptoBulkEntry x + uptoBulkEntries r
def uptoBulkEntry {H : Type} : Lit × DataW H → Nat
  | (.string bytes, d) => bytes.length + uptoBulk d + 1
  | (_, d) => uptoBulk d + 1
 end
def uptoSmall : (H : Type) → List (DataW H) → Bool := fun _ ds => decide (uptoBulkAll ds ≤ 1048576)
def OpenSpec.upto (s : _root_.Go.ChangeSpec) : _root_.Go.OpenSpec := { _root_.Go.OpenSpec.ofChange s with cond := some uptoSmall }

/-- 'daybooklaw10.AgedSteps', WHERE WHAT IT READS IS OF BULK AT MOST 1048576: true; the input reads as it did. -/
def agedStepsUptoRow : OpenClaim := { program := "ytildpgfhahmgmaadoor", sum := "239a948038211fd28486e5123eb2b9dbcf5f083858626bb9f86e43fe282337a0", func := "daybook/daybooklaw10.AgedSteps", spec := "agedSteps", unfollowed := true, recurses := true, named := ["daybook/aged.steps"], apart := false, laid := [("daybook/aged.steps", laid_daybook_aged_steps)], narrowed := true }
def AgedStepsUptoSaid : Prop := agedStepsUptoRow.holds Tryd.pinned (OpenSpec.upto agedStepsSpec)

/-- 'daybooklaw10.AgedTwins', WHERE WHAT IT READS IS OF BULK AT MOST 1048576: true; the input reads as it did. -/
def agedTwinsUptoRow : OpenClaim := { program := "ytildpgfhahmgmaadoor", sum := "239a948038211fd28486e5123eb2b9dbcf5f083858626bb9f86e43fe282337a0", func := "daybook/daybooklaw10.AgedTwins", spec := "agedTwins", unfollowed := true, recurses := true, named := ["daybook/aged.steps"], apart := false, laid := [("daybook/aged.steps", laid_daybook_aged_steps)], narrowed := true }
def AgedTwinsUptoSaid : Prop := agedTwinsUptoRow.holds Tryd.pinned (OpenSpec.upto agedTwinsSpec)

/-- 'daybooklaw10.AgedOrder', WHERE WHAT IT READS IS OF BULK AT MOST 1048576: true; the input reads as it did. -/
def agedOrderUptoRow : OpenClaim := { program := "ytildpgfhahmgmaadoor", sum := "239a948038211fd28486e5123eb2b9dbcf5f083858626bb9f86e43fe282337a0", func := "daybook/daybooklaw10.AgedOrder", spec := "agedOrder", unfollowed := true, recurses := true, named := ["daybook/aged.steps"], apart := false, laid := [("daybook/aged.steps", laid_daybook_aged_steps)], narrowed := true }
def AgedOrderUptoSaid : Prop := agedOrderUptoRow.holds Tryd.pinned (OpenSpec.upto agedOrderSpec)

/-- 'daybooklaw10.AgedLater', WHERE WHAT IT READS IS OF BULK AT MOST 1048576: true; the input reads as it did. -/
def agedLaterUptoRow : OpenClaim := { program := "ytildpgfhahmgmaadoor", sum := "239a948038211fd28486e5123eb2b9dbcf5f083858626bb9f86e43fe282337a0", func := "daybook/daybooklaw10.AgedLater", spec := "agedLater", unfollowed := true, recurses := true, named := ["daybook/aged.steps"], apart := false, laid := [("daybook/aged.steps", laid_daybook_aged_steps)], narrowed := true }
def AgedLaterUptoSaid : Prop := agedLaterUptoRow.holds Tryd.pinned (OpenSpec.upto agedLaterSpec)

/-- 'daybooklaw10.AgedSums', WHERE WHAT IT READS IS OF BULK AT MOST 1048576: true; the input reads as it did. -/
def agedSumsUptoRow : OpenClaim := { program := "ytildpgfhahmgmaadoor", sum := "239a948038211fd28486e5123eb2b9dbcf5f083858626bb9f86e43fe282337a0", func := "daybook/daybooklaw10.AgedSums", spec := "agedSums", unfollowed := true, recurses := true, named := ["daybook/aged.steps"], apart := false, laid := [("daybook/aged.steps", laid_daybook_aged_steps)], narrowed := true }
def AgedSumsUptoSaid : Prop := agedSumsUptoRow.holds Tryd.pinned (OpenSpec.upto agedSumsSpec)

end Rows
end Go.Proofs.YtildpgfhahmgmaaDoor
