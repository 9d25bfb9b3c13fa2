/-
  No cell of these rows narrows 'for every input' (looked for: loops, veiled, ifaces, maps, wideKeys, modest, calm, conditions, laid).
  DERIVED. THE GIVEN ROWS OF THIS SEAT. 4 by the template 'for every input the law returns true; each argument reads behind the call as it read before'; 0 by the template 'total and deterministic' (their statements: YtddpladmkmpoaaaTotals.lean).
  GIVEN WITH THE SEED: the statements are not yours to turn. If you find one false, say at which input.
  Laid BY PROGRAM, IN A SANDBOX (cutbox-rows.mjs): the forced cells as the released guide's own fill.sh prints them over the translation 061f9534b30234ed… (all of the seat's roots in one cut). By AI agents, Wed Nov 11 2026. No macro, syntax, notation, axiom, sorry.
-/
import Derived.Test.YtddpladmkmpoaaaChecked
import GoSem.Claim
import GoSem.ClaimJoined
import GoSem.ClaimMapViews
import Derived.JoinedTies
import Derived.KernelRfl
namespace Go.Proofs.Ytddpladmkmpoaaa
/- THE CELL 'sum', in the pinned program and in every row, IS THE sha256 OF THE DUMP (.gsa) THAT YtddpladmkmpoaaaProg.lean LOADS. Nothing in Lean hashes anything: it is a label: what it is worth is what the hold of that sum in a sandbox is worth. -/
noncomputable def Try.pinned : Pinned := { name := "ytddpladmkmpoaaa", sum := "061f9534b30234edcee022e3f8dba26ce5a16b82e1cef6da7b1d530b20f87ff0", checked := Try.checked }
namespace Rows
def none {H : Type} : Left H := { results := [], args := [] }

/-- 'daybooklaw01.MoneySums': WHATEVER THE INPUT: true; the input reads as it did. -/
def moneySumsSpec : ChangeSpec := { name := "moneySums", fn := fun _ => fun
  | [d] => { results := [.lit (.bool true)], args := [d] }
  | _ => none }
def moneySumsRow : OpenClaim := { program := "ytddpladmkmpoaaa", sum := "061f9534b30234edcee022e3f8dba26ce5a16b82e1cef6da7b1d530b20f87ff0", func := "daybook/daybooklaw01.MoneySums", spec := "moneySums", inPlace := ["math/bits.Add64"], apart := false }
def MoneySumsSaid : Prop := moneySumsRow.holds Try.pinned (OpenSpec.ofChange moneySumsSpec)

/-- ITS FALSE NEIGHBOUR: 'it returns false'. Refute it at one input. -/
def moneySumsWrong : ChangeSpec := { name := "moneySums", fn := fun _ => fun
  | [d] => { results := [.lit (.bool false)], args := [d] }
  | _ => none }
def MoneySumsWrongFalsely : Prop := moneySumsRow.holds Try.pinned (OpenSpec.ofChange moneySumsWrong)

/-- 'daybooklaw01.MoneyOnes': WHATEVER THE INPUT: true; the input reads as it did. -/
def moneyOnesSpec : ChangeSpec := { name := "moneyOnes", fn := fun _ => fun
  | [d1, d2] => { results := [.lit (.bool true)], args := [d1, d2] }
  | _ => none }
def moneyOnesRow : OpenClaim := { program := "ytddpladmkmpoaaa", sum := "061f9534b30234edcee022e3f8dba26ce5a16b82e1cef6da7b1d530b20f87ff0", func := "daybook/daybooklaw01.MoneyOnes", spec := "moneyOnes", apart := false }
def MoneyOnesSaid : Prop := moneyOnesRow.holds Try.pinned (OpenSpec.ofChange moneyOnesSpec)

/-- ITS FALSE NEIGHBOUR: 'it returns false'. Refute it at one input. -/
def moneyOnesWrong : ChangeSpec := { name := "moneyOnes", fn := fun _ => fun
  | [d1, d2] => { results := [.lit (.bool false)], args := [d1, d2] }
  | _ => none }
def MoneyOnesWrongFalsely : Prop := moneyOnesRow.holds Try.pinned (OpenSpec.ofChange moneyOnesWrong)

/-- 'daybooklaw01.MoneyRatios': WHATEVER THE INPUT: true; the input reads as it did. -/
def moneyRatiosSpec : ChangeSpec := { name := "moneyRatios", fn := fun _ => fun
  | [d] => { results := [.lit (.bool true)], args := [d] }
  | _ => none }
def moneyRatiosRow : OpenClaim := { program := "ytddpladmkmpoaaa", sum := "061f9534b30234edcee022e3f8dba26ce5a16b82e1cef6da7b1d530b20f87ff0", func := "daybook/daybooklaw01.MoneyRatios", spec := "moneyRatios", unfollowed := true, recurses := true, named := ["math/bits.divideError", "math/bits.overflowError"], apart := false }
def MoneyRatiosSaid : Prop := moneyRatiosRow.holds Try.pinned (OpenSpec.ofChange moneyRatiosSpec)

/-- ITS FALSE NEIGHBOUR: 'it returns false'. Refute it at one input. -/
def moneyRatiosWrong : ChangeSpec := { name := "moneyRatios", fn := fun _ => fun
  | [d] => { results := [.lit (.bool false)], args := [d] }
  | _ => none }
def MoneyRatiosWrongFalsely : Prop := moneyRatiosRow.holds Try.pinned (OpenSpec.ofChange moneyRatiosWrong)

/-- 'daybooklaw01.MoneySplits': WHATEVER THE INPUT: true; the input reads as it did. -/
def moneySplitsSpec : ChangeSpec := { name := "moneySplits", fn := fun _ => fun
  | [d1, d2] => { results := [.lit (.bool true)], args := [d1, d2] }
  | _ => none }
def moneySplitsRow : OpenClaim := { program := "ytddpladmkmpoaaa", sum := "061f9534b30234edcee022e3f8dba26ce5a16b82e1cef6da7b1d530b20f87ff0", func := "daybook/daybooklaw01.MoneySplits", spec := "moneySplits", inPlace := ["math/bits.Add64"], unfollowed := true, recurses := true, named := ["math/bits.divideError", "math/bits.overflowError"], apart := false }
def MoneySplitsSaid : Prop := moneySplitsRow.holds Try.pinned (OpenSpec.ofChange moneySplitsSpec)

/-- ITS FALSE NEIGHBOUR: 'it returns false'. Refute it at one input. -/
def moneySplitsWrong : ChangeSpec := { name := "moneySplits", fn := fun _ => fun
  | [d1, d2] => { results := [.lit (.bool false)], args := [d1, d2] }
  | _ => none }
def MoneySplitsWrongFalsely : Prop := moneySplitsRow.holds Try.pinned (OpenSpec.ofChange moneySplitsWrong)

/- THE SECOND FORM. 'bulk': how many values and letters a reading holds, each counted each time it is reached (what is shared counts as often as it is met; a slice's spare places count too). A statement '..UptoSaid' is the law's where the arguments, and the package variables that the reading takes, are together of bulk at most 1048576: NARROWER than '..Said'. Prove '..Said' where nothing that the law and all that it calls make is longer than what came in: it says more and counts as full. Else prove '..UptoSaid'. A law counts once. -/
mutual
def uptoBulk {H : Type} : DataW H → Nat
  | .lit (.string bytes) => bytes.length + 1
  | .lit _ => 1
  | .nil => 1
  | .ptr d => uptoBulk d + 1
  | .slice elems spare => uptoBulkAll elems + uptoBulkAll spare + 1
  | .agg parts => uptoBulkAll parts + 1
  | .iface _ d => uptoBulk d + 1
  | .map entries => uptoBulkEntries entries + 1
  | .held _ => 1
def uptoBulkAll {H : Type} : List (DataW H) → Nat
  | [] => 0
  | d :: r => uptoBulk d + uptoBulkAll r
def uptoBulkEntries {H : Type} : List (Lit × DataW H) → Nat
  | [] => 0
  | x :: r => uptoBulkEntry x + uptoBulkEntries r
def uptoBulkEntry {H : Type} : Lit × DataW H → Nat
  | (.string bytes, d) => bytes.length + uptoBulk d + 1
  | (_, d) => uptoBulk d + 1
 end
def uptoSmall : (H : Type) → List (DataW H) → Bool := fun _ ds => decide (uptoBulkAll ds ≤ 1048576)
def OpenSpec.upto (s : _root_.Go.ChangeSpec) : _root_.Go.OpenSpec := { _root_.Go.OpenSpec.ofChange s with cond := some uptoSmall }

/-- 'daybooklaw01.MoneySums', WHERE WHAT IT READS IS OF BULK AT MOST 1048576: true; the input reads as it did. -/
def moneySumsUptoRow : OpenClaim := { program := "ytddpladmkmpoaaa", sum := "061f9534b30234edcee022e3f8dba26ce5a16b82e1cef6da7b1d530b20f87ff0", func := "daybook/daybooklaw01.MoneySums", spec := "moneySums", inPlace := ["math/bits.Add64"], apart := false, narrowed := true }
def MoneySumsUptoSaid : Prop := moneySumsUptoRow.holds Try.pinned (OpenSpec.upto moneySumsSpec)

/-- 'daybooklaw01.MoneyOnes', WHERE WHAT IT READS IS OF BULK AT MOST 1048576: true; the input reads as it did. -/
def moneyOnesUptoRow : OpenClaim := { program := "ytddpladmkmpoaaa", sum := "061f9534b30234edcee022e3f8dba26ce5a16b82e1cef6da7b1d530b20f87ff0", func := "daybook/daybooklaw01.MoneyOnes", spec := "moneyOnes", apart := false, narrowed := true }
def MoneyOnesUptoSaid : Prop := moneyOnesUptoRow.holds Try.pinned (OpenSpec.upto moneyOnesSpec)

/-- 'daybooklaw01.MoneyRatios', WHERE WHAT IT READS IS OF BULK AT MOST 1048576: true; the input reads as it did. -/
def moneyRatiosUptoRow : OpenClaim := { program := "ytddpladmkmpoaaa", sum := "061f9534b30234edcee022e3f8dba26ce5a16b82e1cef6da7b1d530b20f87ff0", func := "daybook/daybooklaw01.MoneyRatios", spec := "moneyRatios", unfollowed := true, recurses := true, named := ["math/bits.divideError", "math/bits.overflowError"], apart := false, narrowed := true }
def MoneyRatiosUptoSaid : Prop := moneyRatiosUptoRow.holds Try.pinned (OpenSpec.upto moneyRatiosSpec)

/-- 'daybooklaw01.MoneySplits', WHERE WHAT IT READS IS OF BULK AT MOST 1048576: true; the input reads as it did. -/
def moneySplitsUptoRow : OpenClaim := { program := "ytddpladmkmpoaaa", sum := "061f9534b30234edcee022e3f8dba26ce5a16b82e1cef6da7b1d530b20f87ff0", func := "daybook/daybooklaw01.MoneySplits", spec := "moneySplits", inPlace := ["math/bits.Add64"], unfollowed := true, recurses := true, named := ["math/bits.divideError", "math/bits.overflowError"], apart := false, narrowed := true }
def MoneySplitsUptoSaid : Prop := moneySplitsUptoRow.holds Try.pinned (OpenSpec.upto moneySplitsSpec)

end Rows
end Go.Proofs.Ytddpladmkmpoaaa
