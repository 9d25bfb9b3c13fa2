/-
  NARROWER THAN 'FOR EVERY INPUT', by the rows' own cells (each row's printed sentence says how): AnswerOrder: laid · AnswerLimit: laid · AnswerConditions: laid · AnswerParts: laid · AnswerMeans: laid · AnswerGroups: laid.
  DERIVED. THE GIVEN ROWS OF THIS SEAT. 6 by the template 'for every input the law returns true; each argument reads behind the call as it read before'; 0 by the template 'total and deterministic' (their statements: YtbenciieenbmeaaGreatDoorTotals.lean).
  GIVEN WITH THE SEED: the statements are not yours to turn. If you find one false, say at which input.
  Laid BY PROGRAM, IN A SANDBOX (cutbox-rows.mjs): the forced cells as the released guide's own fill.sh prints them over the translation 720f91c122e6daef… (all of the seat's roots in one cut). By AI agents, Wed Nov 11 2026. No macro, syntax, notation, axiom, sorry.
-/
import Derived.Test.YtbenciieenbmeaaGreatDoorChecked
import GoSem.PinnedTables
import GoSem.Claim
import GoSem.ClaimJoined
import GoSem.ClaimMapViews
import Derived.JoinedTies
import Derived.KernelRfl
namespace Go.Proofs.YtbenciieenbmeaaGreatDoor
/- THE CELL 'sum', in the pinned program and in every row, IS THE sha256 OF THE DUMP (.gsa) THAT YtbenciieenbmeaaGreatDoorProg.lean LOADS. Nothing in Lean hashes anything: it is a label: what it is worth is what the hold of that sum in a sandbox is worth. -/
noncomputable def Tryz.pinned : Pinned := { name := "ytbenciieenbmeaagreatdoor", sum := "720f91c122e6daef6dde21fdcb9fb95a85ce267d741f2b5ee336a3bde7f770b7", checked := Tryz.checked }
namespace Rows
def none {H : Type} : Left H := { results := [], args := [] }

/- WHAT THE LISTED PACKAGE-LEVEL VARIABLES READ AS WHEN THE CALL BEGINS. Each datum BY PROGRAM (the guide's laid-datum.mjs) off the statement by which the dump's own 'gosem.cut.vars' lays the variable. In a bare row this is a premise. The card (YtbenciieenbmeaaGreatDoorCards.lean) ties it to the program's text. -/
def laid_unicode_utf8_acceptRanges {H : Type} : DataW H := .agg [.agg [.lit (.int .u8 128), .lit (.int .u8 191)], .agg [.lit (.int .u8 160), .lit (.int .u8 191)], .agg [.lit (.int .u8 128), .lit (.int .u8 159)], .agg [.lit (.int .u8 144), .lit (.int .u8 191)], .agg [.lit (.int .u8 128), .lit (.int .u8 143)], .agg [.lit (.int .u8 0), .lit (.int .u8 0)], .agg [.lit (.int .u8 0), .lit (.int .u8 0)], .agg [.lit (.int .u8 0), .lit (.int .u8 0)], .agg [.lit (.int .u8 0), .lit (.int .u8 0)], .agg [.lit (.int .u8 0), .lit (.int .u8 0)], .agg [.lit (.int .u8 0), .lit (.int .u8 0)], .agg [.lit (.int .u8 0), .lit (.int .u8 0)], .agg [.lit (.int .u8 0), .lit (.int .u8 0)], .agg [.lit (.int .u8 0), .lit (.int .u8 0)], .agg [.lit (.int .u8 0), .lit (.int .u8 0)], .agg [.lit (.int .u8 0), .lit (.int .u8 0)]]
def laid_daybook_day_monthDays {H : Type} : DataW H := .agg [.lit (.int .i64 31), .lit (.int .i64 28), .lit (.int .i64 31), .lit (.int .i64 30), .lit (.int .i64 31), .lit (.int .i64 30), .lit (.int .i64 31), .lit (.int .i64 31), .lit (.int .i64 30), .lit (.int .i64 31), .lit (.int .i64 30), .lit (.int .i64 31)]
def laid_daybook_typing_fields {H : Type} : DataW H := .agg [.agg [.lit (.string []), .lit (.int .i64 0)], .agg [.lit (.string [115, 101, 113]), .lit (.int .i64 1)], .agg [.lit (.string [108, 105, 110, 101]), .lit (.int .i64 1)], .agg [.lit (.string [100, 97, 121]), .lit (.int .i64 3)], .agg [.lit (.string [107, 105, 110, 100]), .lit (.int .i64 1)], .agg [.lit (.string [107, 101, 121]), .lit (.int .i64 2)], .agg [.lit (.string [97, 99, 99, 111, 117, 110, 116]), .lit (.int .i64 2)], .agg [.lit (.string [97, 109, 111, 117, 110, 116]), .lit (.int .i64 5)], .agg [.lit (.string [100, 101, 98, 105, 116]), .lit (.int .i64 5)], .agg [.lit (.string [99, 114, 101, 100, 105, 116]), .lit (.int .i64 5)], .agg [.lit (.string [116, 97, 103]), .lit (.int .i64 2)], .agg [.lit (.string [109, 101, 109, 111]), .lit (.int .i64 2)], .agg [.lit (.string [109, 111, 110, 116, 104]), .lit (.int .i64 1)], .agg [.lit (.string [121, 101, 97, 114]), .lit (.int .i64 1)], .agg [.lit (.string [114, 111, 111, 116]), .lit (.int .i64 2)]]
def laid_daybook_typing_reckonings {H : Type} : DataW H := .agg [.agg [.lit (.int .i64 12), .lit (.int .i64 1), .lit (.int .i64 1), .lit (.int .i64 1)], .agg [.lit (.int .i64 12), .lit (.int .i64 5), .lit (.int .i64 5), .lit (.int .i64 5)], .agg [.lit (.int .i64 12), .lit (.int .i64 3), .lit (.int .i64 1), .lit (.int .i64 3)], .agg [.lit (.int .i64 12), .lit (.int .i64 1), .lit (.int .i64 3), .lit (.int .i64 3)], .agg [.lit (.int .i64 13), .lit (.int .i64 1), .lit (.int .i64 1), .lit (.int .i64 1)], .agg [.lit (.int .i64 13), .lit (.int .i64 5), .lit (.int .i64 5), .lit (.int .i64 5)], .agg [.lit (.int .i64 13), .lit (.int .i64 3), .lit (.int .i64 1), .lit (.int .i64 3)], .agg [.lit (.int .i64 13), .lit (.int .i64 3), .lit (.int .i64 3), .lit (.int .i64 1)], .agg [.lit (.int .i64 14), .lit (.int .i64 1), .lit (.int .i64 1), .lit (.int .i64 1)], .agg [.lit (.int .i64 14), .lit (.int .i64 5), .lit (.int .i64 1), .lit (.int .i64 5)], .agg [.lit (.int .i64 14), .lit (.int .i64 1), .lit (.int .i64 5), .lit (.int .i64 5)]]
/-- One of Go's own tables, pinned by name: the form's constant. -/
def laid_unicode_utf8_first : DataW Unit := Go.Pinned.utf8First

/-- 'daybooklaw15.AnswerOrder': WHATEVER THE INPUT: true; the input reads as it did. -/
def answerOrderSpec : ChangeSpec := { name := "answerOrder", fn := fun _ => fun
  | [d] => { results := [.lit (.bool true)], args := [d] }
  | _ => none }
def answerOrderRow : OpenClaim := { program := "ytbenciieenbmeaagreatdoor", sum := "720f91c122e6daef6dde21fdcb9fb95a85ce267d741f2b5ee336a3bde7f770b7", func := "daybook/daybooklaw15.AnswerOrder", spec := "answerOrder", inPlace := ["internal/reflectlite.TypeOf", "internal/bytealg.IndexByteString", "internal/bytealg.IndexString", "internal/bytealg.CountString", "math/bits.Add64"], unfollowed := true, recurses := true, named := ["daybook/typing.fields", "daybook/day.monthDays", "daybook/typing.reckonings", "internal/bytealg.MaxLen", "unicode/utf8.first", "unicode/utf8.acceptRanges"], plainKeys := false, apart := false, laid := [("unicode/utf8.acceptRanges", laid_unicode_utf8_acceptRanges), ("daybook/day.monthDays", laid_daybook_day_monthDays), ("daybook/typing.fields", laid_daybook_typing_fields), ("daybook/typing.reckonings", laid_daybook_typing_reckonings), ("unicode/utf8.first", laid_unicode_utf8_first)] }
def AnswerOrderSaid : Prop := answerOrderRow.holds Tryz.pinned (OpenSpec.ofChange answerOrderSpec)

/-- ITS FALSE NEIGHBOUR: 'it returns false'. Refute it at one input. -/
def answerOrderWrong : ChangeSpec := { name := "answerOrder", fn := fun _ => fun
  | [d] => { results := [.lit (.bool false)], args := [d] }
  | _ => none }
def AnswerOrderWrongFalsely : Prop := answerOrderRow.holds Tryz.pinned (OpenSpec.ofChange answerOrderWrong)

/-- 'daybooklaw15.AnswerLimit': WHATEVER THE INPUT: true; the input reads as it did. -/
def answerLimitSpec : ChangeSpec := { name := "answerLimit", fn := fun _ => fun
  | [d] => { results := [.lit (.bool true)], args := [d] }
  | _ => none }
def answerLimitRow : OpenClaim := { program := "ytbenciieenbmeaagreatdoor", sum := "720f91c122e6daef6dde21fdcb9fb95a85ce267d741f2b5ee336a3bde7f770b7", func := "daybook/daybooklaw15.AnswerLimit", spec := "answerLimit", inPlace := ["internal/reflectlite.TypeOf", "internal/bytealg.IndexByteString", "internal/bytealg.IndexString", "internal/bytealg.CountString", "math/bits.Add64"], unfollowed := true, recurses := true, named := ["daybook/typing.fields", "daybook/day.monthDays", "daybook/typing.reckonings", "internal/bytealg.MaxLen", "unicode/utf8.first", "unicode/utf8.acceptRanges"], plainKeys := false, apart := false, laid := [("unicode/utf8.acceptRanges", laid_unicode_utf8_acceptRanges), ("daybook/day.monthDays", laid_daybook_day_monthDays), ("daybook/typing.fields", laid_daybook_typing_fields), ("daybook/typing.reckonings", laid_daybook_typing_reckonings), ("unicode/utf8.first", laid_unicode_utf8_first)] }
def AnswerLimitSaid : Prop := answerLimitRow.holds Tryz.pinned (OpenSpec.ofChange answerLimitSpec)

/-- ITS FALSE NEIGHBOUR: 'it returns false'. Refute it at one input. -/
def answerLimitWrong : ChangeSpec := { name := "answerLimit", fn := fun _ => fun
  | [d] => { results := [.lit (.bool false)], args := [d] }
  | _ => none }
def AnswerLimitWrongFalsely : Prop := answerLimitRow.holds Tryz.pinned (OpenSpec.ofChange answerLimitWrong)

/-- 'daybooklaw15.AnswerConditions': WHATEVER THE INPUT: true; the input reads as it did. -/
def answerConditionsSpec : ChangeSpec := { name := "answerConditions", fn := fun _ => fun
  | [d] => { results := [.lit (.bool true)], args := [d] }
  | _ => none }
def answerConditionsRow : OpenClaim := { program := "ytbenciieenbmeaagreatdoor", sum := "720f91c122e6daef6dde21fdcb9fb95a85ce267d741f2b5ee336a3bde7f770b7", func := "daybook/daybooklaw15.AnswerConditions", spec := "answerConditions", inPlace := ["internal/reflectlite.TypeOf", "internal/bytealg.IndexByteString", "internal/bytealg.IndexString", "internal/bytealg.CountString", "math/bits.Add64"], unfollowed := true, recurses := true, named := ["daybook/typing.fields", "daybook/day.monthDays", "daybook/typing.reckonings", "internal/bytealg.MaxLen", "unicode/utf8.first", "unicode/utf8.acceptRanges"], plainKeys := false, apart := false, laid := [("unicode/utf8.acceptRanges", laid_unicode_utf8_acceptRanges), ("daybook/day.monthDays", laid_daybook_day_monthDays), ("daybook/typing.fields", laid_daybook_typing_fields), ("daybook/typing.reckonings", laid_daybook_typing_reckonings), ("unicode/utf8.first", laid_unicode_utf8_first)] }
def AnswerConditionsSaid : Prop := answerConditionsRow.holds Tryz.pinned (OpenSpec.ofChange answerConditionsSpec)

/-- ITS FALSE NEIGHBOUR: 'it returns false'. Refute it at one input. -/
def answerConditionsWrong : ChangeSpec := { name := "answerConditions", fn := fun _ => fun
  | [d] => { results := [.lit (.bool false)], args := [d] }
  | _ => none }
def AnswerConditionsWrongFalsely : Prop := answerConditionsRow.holds Tryz.pinned (OpenSpec.ofChange answerConditionsWrong)

/-- 'daybooklaw15.AnswerParts': WHATEVER THE INPUT: true; the input reads as it did. -/
def answerPartsSpec : ChangeSpec := { name := "answerParts", fn := fun _ => fun
  | [d] => { results := [.lit (.bool true)], args := [d] }
  | _ => none }
def answerPartsRow : OpenClaim := { program := "ytbenciieenbmeaagreatdoor", sum := "720f91c122e6daef6dde21fdcb9fb95a85ce267d741f2b5ee336a3bde7f770b7", func := "daybook/daybooklaw15.AnswerParts", spec := "answerParts", inPlace := ["internal/reflectlite.TypeOf", "internal/bytealg.IndexByteString", "internal/bytealg.IndexString", "internal/bytealg.CountString", "math/bits.Add64"], unfollowed := true, recurses := true, named := ["daybook/typing.fields", "daybook/day.monthDays", "daybook/typing.reckonings", "internal/bytealg.MaxLen", "unicode/utf8.first", "unicode/utf8.acceptRanges"], plainKeys := false, apart := false, laid := [("unicode/utf8.acceptRanges", laid_unicode_utf8_acceptRanges), ("daybook/day.monthDays", laid_daybook_day_monthDays), ("daybook/typing.fields", laid_daybook_typing_fields), ("daybook/typing.reckonings", laid_daybook_typing_reckonings), ("unicode/utf8.first", laid_unicode_utf8_first)] }
def AnswerPartsSaid : Prop := answerPartsRow.holds Tryz.pinned (OpenSpec.ofChange answerPartsSpec)

/-- ITS FALSE NEIGHBOUR: 'it returns false'. Refute it at one input. -/
def answerPartsWrong : ChangeSpec := { name := "answerParts", fn := fun _ => fun
  | [d] => { results := [.lit (.bool false)], args := [d] }
  | _ => none }
def AnswerPartsWrongFalsely : Prop := answerPartsRow.holds Tryz.pinned (OpenSpec.ofChange answerPartsWrong)

/-- 'daybooklaw15.AnswerMeans': WHATEVER THE INPUT: true; the input reads as it did. -/
def answerMeansSpec : ChangeSpec := { name := "answerMeans", fn := fun _ => fun
  | [d] => { results := [.lit (.bool true)], args := [d] }
  | _ => none }
def answerMeansRow : OpenClaim := { program := "ytbenciieenbmeaagreatdoor", sum := "720f91c122e6daef6dde21fdcb9fb95a85ce267d741f2b5ee336a3bde7f770b7", func := "daybook/daybooklaw15.AnswerMeans", spec := "answerMeans", inPlace := ["internal/reflectlite.TypeOf", "internal/bytealg.IndexByteString", "internal/bytealg.IndexString", "internal/bytealg.CountString", "math/bits.Add64"], unfollowed := true, recurses := true, named := ["daybook/typing.fields", "daybook/day.monthDays", "daybook/typing.reckonings", "internal/bytealg.MaxLen", "unicode/utf8.first", "unicode/utf8.acceptRanges"], plainKeys := false, apart := false, laid := [("unicode/utf8.acceptRanges", laid_unicode_utf8_acceptRanges), ("daybook/day.monthDays", laid_daybook_day_monthDays), ("daybook/typing.fields", laid_daybook_typing_fields), ("daybook/typing.reckonings", laid_daybook_typing_reckonings), ("unicode/utf8.first", laid_unicode_utf8_first)] }
def AnswerMeansSaid : Prop := answerMeansRow.holds Tryz.pinned (OpenSpec.ofChange answerMeansSpec)

/-- ITS FALSE NEIGHBOUR: 'it returns false'. Refute it at one input. -/
def answerMeansWrong : ChangeSpec := { name := "answerMeans", fn := fun _ => fun
  | [d] => { results := [.lit (.bool false)], args := [d] }
  | _ => none }
def AnswerMeansWrongFalsely : Prop := answerMeansRow.holds Tryz.pinned (OpenSpec.ofChange answerMeansWrong)

/-- 'daybooklaw15.AnswerGroups': WHATEVER THE INPUT: true; the input reads as it did. -/
def answerGroupsSpec : ChangeSpec := { name := "answerGroups", fn := fun _ => fun
  | [d] => { results := [.lit (.bool true)], args := [d] }
  | _ => none }
def answerGroupsRow : OpenClaim := { program := "ytbenciieenbmeaagreatdoor", sum := "720f91c122e6daef6dde21fdcb9fb95a85ce267d741f2b5ee336a3bde7f770b7", func := "daybook/daybooklaw15.AnswerGroups", spec := "answerGroups", inPlace := ["internal/reflectlite.TypeOf", "internal/bytealg.IndexByteString", "internal/bytealg.IndexString", "internal/bytealg.CountString", "math/bits.Add64"], unfollowed := true, recurses := true, named := ["daybook/typing.fields", "daybook/day.monthDays", "daybook/typing.reckonings", "internal/bytealg.MaxLen", "unicode/utf8.first", "unicode/utf8.acceptRanges"], plainKeys := false, apart := false, laid := [("unicode/utf8.acceptRanges", laid_unicode_utf8_acceptRanges), ("daybook/day.monthDays", laid_daybook_day_monthDays), ("daybook/typing.fields", laid_daybook_typing_fields), ("daybook/typing.reckonings", laid_daybook_typing_reckonings), ("unicode/utf8.first", laid_unicode_utf8_first)] }
def AnswerGroupsSaid : Prop := answerGroupsRow.holds Tryz.pinned (OpenSpec.ofChange answerGroupsSpec)

/-- ITS FALSE NEIGHBOUR: 'it returns false'. Refute it at one input. -/
def answerGroupsWrong : ChangeSpec := { name := "answerGroups", fn := fun _ => fun
  | [d] => { results := [.lit (.bool false)], args := [d] }
  | _ => none }
def AnswerGroupsWrongFalsely : Prop := answerGroupsRow.holds Tryz.pinned (OpenSpec.ofChange answerGroupsWrong)

/- THE SECOND FORM. 'bulk': how many values and letters a reading holds, each counted each time it is reached (what is shared counts as often as it is met; a slice's spare places count too). A statement '..UptoSaid' is the law's where the arguments, and the package variables that the reading takes, are together of bulk at most 1048576: NARROWER than '..Said'. Prove '..Said' where nothing that the law and all that it calls make is longer than what came in: it says more and counts as full. Else prove '..UptoSaid'. A law counts once. -/
mutual
def uptoBulk {H : Type} : DataW H → Nat
  | .lit (.string bytes) => bytes.length + 1
  | .lit _ => 1
  | .nil => 1
  | .ptr d => uptoBulk d + 1
  | .slice elems spare => uptoBulkAll elems + uptoBulkAll spare + 1
  | .agg parts => uptoBulkAll parts + 1
  | .iface _ d => uptoBulk d + 1
  | .map entries => uptoBulkEntries entries + 1
  | .held _ => 1
def uptoBulkAll {H : Type} : List (DataW H) → Nat
  | [] => 0
  | d :: r => uptoBulk d + uptoBulkAll r
def uptoBulkEntries {H : Type} : List (Lit × DataW H) → Nat
  | [] => 0
  | x :: r => uptoBulkEntry x + uptoBulkEntries r
def uptoBulkEntry {H : Type} : Lit × DataW H → Nat
  | (.string bytes, d) => bytes.length + uptoBulk d + 1
  | (_, d) => uptoBulk d + 1
 end
def uptoSmall : (H : Type) → List (DataW H) → Bool := fun _ ds => decide (uptoBulkAll ds ≤ 1048576)
def OpenSpec.upto (s : _root_.Go.ChangeSpec) : _root_.Go.OpenSpec := { _root_.Go.OpenSpec.ofChange s with cond := some uptoSmall }

/-- 'daybooklaw15.AnswerOrder', WHERE WHAT IT READS IS OF BULK AT MOST 1048576: true; the input reads as it did. -/
def answerOrderUptoRow : OpenClaim := { program := "ytbenciieenbmeaagreatdoor", sum := "720f91c122e6daef6dde21fdcb9fb95a85ce267d741f2b5ee336a3bde7f770b7", func := "daybook/daybooklaw15.AnswerOrder", spec := "answerOrder", inPlace := ["internal/reflectlite.TypeOf", "internal/bytealg.IndexByteString", "internal/bytealg.IndexString", "internal/bytealg.CountString", "math/bits.Add64"], unfollowed := true, recurses := true, named := ["daybook/typing.fields", "daybook/day.monthDays", "daybook/typing.reckonings", "internal/bytealg.MaxLen", "unicode/utf8.first", "unicode/utf8.acceptRanges"], plainKeys := false, apart := false, laid := [("unicode/utf8.acceptRanges", laid_unicode_utf8_acceptRanges), ("daybook/day.monthDays", laid_daybook_day_monthDays), ("daybook/typing.fields", laid_daybook_typing_fields), ("daybook/typing.reckonings", laid_daybook_typing_reckonings), ("unicode/utf8.first", laid_unicode_utf8_first)], narrowed := true }
def AnswerOrderUptoSaid : Prop := answerOrderUptoRow.holds Tryz.pinned (OpenSpec.upto answerOrderSpec)

/-- 'daybooklaw15.AnswerLimit', WHERE WHAT IT READS IS OF BULK AT MOST 1048576: true; the input reads as it did. -/
def answerLimitUptoRow : OpenClaim := { program := "ytbenciieenbmeaagreatdoor", sum := "720f91c122e6daef6dde21fdcb9fb95a85ce267d741f2b5ee336a3bde7f770b7", func := "daybook/daybooklaw15.AnswerLimit", spec := "answerLimit", inPlace := ["internal/reflectlite.TypeOf", "internal/bytealg.IndexByteString", "internal/bytealg.IndexString", "internal/bytealg.CountString", "math/bits.Add64"], unfollowed := true, recurses := true, named := ["daybook/typing.fields", "daybook/day.monthDays", "daybook/typing.reckonings", "internal/bytealg.MaxLen", "unicode/utf8.first", "unicode/utf8.acceptRanges"], plainKeys := false, apart := false, laid := [("unicode/utf8.acceptRanges", laid_unicode_utf8_acceptRanges), ("daybook/day.monthDays", laid_daybook_day_monthDays), ("daybook/typing.fields", laid_daybook_typing_fields), ("daybook/typing.reckonings", laid_daybook_typing_reckonings), ("unicode/utf8.first", laid_unicode_utf8_first)], narrowed := true }
def AnswerLimitUptoSaid : Prop := answerLimitUptoRow.holds Tryz.pinned (OpenSpec.upto answerLimitSpec)

/-- 'daybooklaw15.AnswerConditions', WHERE WHAT IT READS IS OF BULK AT MOST 1048576: true; the input reads as it did. -/
def answerConditionsUptoRow : OpenClaim := { program := "ytbenciieenbmeaagreatdoor", sum := "720f91c122e6daef6dde21fdcb9fb95a85ce267d741f2b5ee336a3bde7f770b7", func := "daybook/daybooklaw15.AnswerConditions", spec := "answerConditions", inPlace := ["internal/reflectlite.TypeOf", "internal/bytealg.IndexByteString", "internal/bytealg.IndexString", "internal/bytealg.CountString", "math/bits.Add64"], unfollowed := true, recurses := true, named := ["daybook/typing.fields", "daybook/day.monthDays", "daybook/typing.reckonings", "internal/bytealg.MaxLen", "unicode/utf8.first", "unicode/utf8.acceptRanges"], plainKeys := false, apart := false, laid := [("unicode/utf8.acceptRanges", laid_unicode_utf8_acceptRanges), ("daybook/day.monthDays", laid_daybook_day_monthDays), ("daybook/typing.fields", laid_daybook_typing_fields), ("daybook/typing.reckonings", laid_daybook_typing_reckonings), ("unicode/utf8.first", laid_unicode_utf8_first)], narrowed := true }
def AnswerConditionsUptoSaid : Prop := answerConditionsUptoRow.holds Tryz.pinned (OpenSpec.upto answerConditionsSpec)

/-- 'daybooklaw15.AnswerParts', WHERE WHAT IT READS IS OF BULK AT MOST 1048576: true; the input reads as it did. -/
def answerPartsUptoRow : OpenClaim := { program := "ytbenciieenbmeaagreatdoor", sum := "720f91c122e6daef6dde21fdcb9fb95a85ce267d741f2b5ee336a3bde7f770b7", func := "daybook/daybooklaw15.AnswerParts", spec := "answerParts", inPlace := ["internal/reflectlite.TypeOf", "internal/bytealg.IndexByteString", "internal/bytealg.IndexString", "internal/bytealg.CountString", "math/bits.Add64"], unfollowed := true, recurses := true, named := ["daybook/typing.fields", "daybook/day.monthDays", "daybook/typing.reckonings", "internal/bytealg.MaxLen", "unicode/utf8.first", "unicode/utf8.acceptRanges"], plainKeys := false, apart := false, laid := [("unicode/utf8.acceptRanges", laid_unicode_utf8_acceptRanges), ("daybook/day.monthDays", laid_daybook_day_monthDays), ("daybook/typing.fields", laid_daybook_typing_fields), ("daybook/typing.reckonings", laid_daybook_typing_reckonings), ("unicode/utf8.first", laid_unicode_utf8_first)], narrowed := true }
def AnswerPartsUptoSaid : Prop := answerPartsUptoRow.holds Tryz.pinned (OpenSpec.upto answerPartsSpec)

/-- 'daybooklaw15.AnswerMeans', WHERE WHAT IT READS IS OF BULK AT MOST 1048576: true; the input reads as it did. -/
def answerMeansUptoRow : OpenClaim := { program := "ytbenciieenbmeaagreatdoor", sum := "720f91c122e6daef6dde21fdcb9fb95a85ce267d741f2b5ee336a3bde7f770b7", func := "daybook/daybooklaw15.AnswerMeans", spec := "answerMeans", inPlace := ["internal/reflectlite.TypeOf", "internal/bytealg.IndexByteString", "internal/bytealg.IndexString", "internal/bytealg.CountString", "math/bits.Add64"], unfollowed := true, recurses := true, named := ["daybook/typing.fields", "daybook/day.monthDays", "daybook/typing.reckonings", "internal/bytealg.MaxLen", "unicode/utf8.first", "unicode/utf8.acceptRanges"], plainKeys := false, apart := false, laid := [("unicode/utf8.acceptRanges", laid_unicode_utf8_acceptRanges), ("daybook/day.monthDays", laid_daybook_day_monthDays), ("daybook/typing.fields", laid_daybook_typing_fields), ("daybook/typing.reckonings", laid_daybook_typing_reckonings), ("unicode/utf8.first", laid_unicode_utf8_first)], narrowed := true }
def AnswerMeansUptoSaid : Prop := answerMeansUptoRow.holds Tryz.pinned (OpenSpec.upto answerMeansSpec)

/-- 'daybooklaw15.AnswerGroups', WHERE WHAT IT READS IS OF BULK AT MOST 1048576: true; the input reads as it did. -/
def answerGroupsUptoRow : OpenClaim := { program := "ytbenciieenbmeaagreatdoor", sum := "720f91c122e6daef6dde21fdcb9fb95a85ce267d741f2b5ee336a3bde7f770b7", func := "daybook/daybooklaw15.AnswerGroups", spec := "answerGroups", inPlace := ["internal/reflectlite.TypeOf", "internal/bytealg.IndexByteString", "internal/bytealg.IndexString", "internal/bytealg.CountString", "math/bits.Add64"], unfollowed := true, recurses := true, named := ["daybook/typing.fields", "daybook/day.monthDays", "daybook/typing.reckonings", "internal/bytealg.MaxLen", "unicode/utf8.first", "unicode/utf8.acceptRanges"], plainKeys := false, apart := false, laid := [("unicode/utf8.acceptRanges", laid_unicode_utf8_acceptRanges), ("daybook/day.monthDays", laid_daybook_day_monthDays), ("daybook/typing.fields", laid_daybook_typing_fields), ("daybook/typing.reckonings", laid_daybook_typing_reckonings), ("unicode/utf8.first", laid_unicode_utf8_first)], narrowed := true }
def AnswerGroupsUptoSaid : Prop := answerGroupsUptoRow.holds Tryz.pinned (OpenSpec.upto answerGroupsSpec)

end Rows
end Go.Proofs.YtbenciieenbmeaaGreatDoor
