/-
  No cell of these rows narrows 'for every input' (looked for: loops, veiled, ifaces, maps, wideKeys, modest, calm, conditions, laid).
  DERIVED. THE GIVEN ROWS OF THIS SEAT. 12 by the template 'for every input the law returns true; each argument reads behind the call as it read before'; 0 by the template 'total and deterministic' (their statements: YtomfhkpmdalknaaTotals.lean).
  GIVEN WITH THE SEED: the statements are not yours to turn. If you find one false, say at which input.
  Laid BY PROGRAM, IN A SANDBOX (cutbox-rows.mjs): the forced cells as the released guide's own fill.sh prints them over the translation 4bbf952324e58107… (all of the seat's roots in one cut). By AI agents, Wed Nov 11 2026. No macro, syntax, notation, axiom, sorry.
-/
import Derived.Test.YtomfhkpmdalknaaChecked
import GoSem.Claim
import GoSem.ClaimJoined
import GoSem.ClaimMapViews
import Derived.JoinedTies
import Derived.KernelRfl
namespace Go.Proofs.Ytomfhkpmdalknaa
/- THE CELL 'sum', in the pinned program and in every row, IS THE sha256 OF THE DUMP (.gsa) THAT YtomfhkpmdalknaaProg.lean LOADS. Nothing in Lean hashes anything: it is a label: what it is worth is what the hold of that sum in a sandbox is worth. -/
noncomputable def Try.pinned : Pinned := { name := "ytomfhkpmdalknaa", sum := "4bbf952324e58107516d19dbc90df128a68f1cef4882a83503766b8ec6dbe7ad", checked := Try.checked }
namespace Rows
def none {H : Type} : Left H := { results := [], args := [] }

/-- 'laws.FnExactValidCalendar': WHATEVER THE INPUT: true; the input reads as it did. -/
def fnExactValidCalendarSpec : ChangeSpec := { name := "fnExactValidCalendar", fn := fun _ => fun
  | [d] => { results := [.lit (.bool true)], args := [d] }
  | _ => none }
def fnExactValidCalendarRow : OpenClaim := { program := "ytomfhkpmdalknaa", sum := "4bbf952324e58107516d19dbc90df128a68f1cef4882a83503766b8ec6dbe7ad", func := "loop.example/g01129/laws.FnExactValidCalendar", spec := "fnExactValidCalendar", unfollowed := true, recurses := true, apart := false }
def FnExactValidCalendarSaid : Prop := fnExactValidCalendarRow.holds Try.pinned (OpenSpec.ofChange fnExactValidCalendarSpec)

/-- ITS FALSE NEIGHBOUR: 'it returns false'. Refute it at one input. -/
def fnExactValidCalendarWrong : ChangeSpec := { name := "fnExactValidCalendar", fn := fun _ => fun
  | [d] => { results := [.lit (.bool false)], args := [d] }
  | _ => none }
def FnExactValidCalendarWrongFalsely : Prop := fnExactValidCalendarRow.holds Try.pinned (OpenSpec.ofChange fnExactValidCalendarWrong)

/-- 'laws.FnExactIsLeap': WHATEVER THE INPUT: true; the input reads as it did. -/
def fnExactIsLeapSpec : ChangeSpec := { name := "fnExactIsLeap", fn := fun _ => fun
  | [d1, d2] => { results := [.lit (.bool true)], args := [d1, d2] }
  | _ => none }
def fnExactIsLeapRow : OpenClaim := { program := "ytomfhkpmdalknaa", sum := "4bbf952324e58107516d19dbc90df128a68f1cef4882a83503766b8ec6dbe7ad", func := "loop.example/g01129/laws.FnExactIsLeap", spec := "fnExactIsLeap", unfollowed := true, recurses := true, apart := false }
def FnExactIsLeapSaid : Prop := fnExactIsLeapRow.holds Try.pinned (OpenSpec.ofChange fnExactIsLeapSpec)

/-- ITS FALSE NEIGHBOUR: 'it returns false'. Refute it at one input. -/
def fnExactIsLeapWrong : ChangeSpec := { name := "fnExactIsLeap", fn := fun _ => fun
  | [d1, d2] => { results := [.lit (.bool false)], args := [d1, d2] }
  | _ => none }
def FnExactIsLeapWrongFalsely : Prop := fnExactIsLeapRow.holds Try.pinned (OpenSpec.ofChange fnExactIsLeapWrong)

/-- 'laws.FnExactDaysBefore': WHATEVER THE INPUT: true; the input reads as it did. -/
def fnExactDaysBeforeSpec : ChangeSpec := { name := "fnExactDaysBefore", fn := fun _ => fun
  | [d1, d2] => { results := [.lit (.bool true)], args := [d1, d2] }
  | _ => none }
def fnExactDaysBeforeRow : OpenClaim := { program := "ytomfhkpmdalknaa", sum := "4bbf952324e58107516d19dbc90df128a68f1cef4882a83503766b8ec6dbe7ad", func := "loop.example/g01129/laws.FnExactDaysBefore", spec := "fnExactDaysBefore", unfollowed := true, recurses := true, apart := false }
def FnExactDaysBeforeSaid : Prop := fnExactDaysBeforeRow.holds Try.pinned (OpenSpec.ofChange fnExactDaysBeforeSpec)

/-- ITS FALSE NEIGHBOUR: 'it returns false'. Refute it at one input. -/
def fnExactDaysBeforeWrong : ChangeSpec := { name := "fnExactDaysBefore", fn := fun _ => fun
  | [d1, d2] => { results := [.lit (.bool false)], args := [d1, d2] }
  | _ => none }
def FnExactDaysBeforeWrongFalsely : Prop := fnExactDaysBeforeRow.holds Try.pinned (OpenSpec.ofChange fnExactDaysBeforeWrong)

/-- 'laws.FnExactYearOf': WHATEVER THE INPUT: true; the input reads as it did. -/
def fnExactYearOfSpec : ChangeSpec := { name := "fnExactYearOf", fn := fun _ => fun
  | [d1, d2] => { results := [.lit (.bool true)], args := [d1, d2] }
  | _ => none }
def fnExactYearOfRow : OpenClaim := { program := "ytomfhkpmdalknaa", sum := "4bbf952324e58107516d19dbc90df128a68f1cef4882a83503766b8ec6dbe7ad", func := "loop.example/g01129/laws.FnExactYearOf", spec := "fnExactYearOf", unfollowed := true, recurses := true, apart := false }
def FnExactYearOfSaid : Prop := fnExactYearOfRow.holds Try.pinned (OpenSpec.ofChange fnExactYearOfSpec)

/-- ITS FALSE NEIGHBOUR: 'it returns false'. Refute it at one input. -/
def fnExactYearOfWrong : ChangeSpec := { name := "fnExactYearOf", fn := fun _ => fun
  | [d1, d2] => { results := [.lit (.bool false)], args := [d1, d2] }
  | _ => none }
def FnExactYearOfWrongFalsely : Prop := fnExactYearOfRow.holds Try.pinned (OpenSpec.ofChange fnExactYearOfWrong)

/-- 'laws.FnExactMeanYear': WHATEVER THE INPUT: true; the input reads as it did. -/
def fnExactMeanYearSpec : ChangeSpec := { name := "fnExactMeanYear", fn := fun _ => fun
  | [d] => { results := [.lit (.bool true)], args := [d] }
  | _ => none }
def fnExactMeanYearRow : OpenClaim := { program := "ytomfhkpmdalknaa", sum := "4bbf952324e58107516d19dbc90df128a68f1cef4882a83503766b8ec6dbe7ad", func := "loop.example/g01129/laws.FnExactMeanYear", spec := "fnExactMeanYear", unfollowed := true, recurses := true, apart := false }
def FnExactMeanYearSaid : Prop := fnExactMeanYearRow.holds Try.pinned (OpenSpec.ofChange fnExactMeanYearSpec)

/-- ITS FALSE NEIGHBOUR: 'it returns false'. Refute it at one input. -/
def fnExactMeanYearWrong : ChangeSpec := { name := "fnExactMeanYear", fn := fun _ => fun
  | [d] => { results := [.lit (.bool false)], args := [d] }
  | _ => none }
def FnExactMeanYearWrongFalsely : Prop := fnExactMeanYearRow.holds Try.pinned (OpenSpec.ofChange fnExactMeanYearWrong)

/-- 'laws.FnExactDriftOf': WHATEVER THE INPUT: true; the input reads as it did. -/
def fnExactDriftOfSpec : ChangeSpec := { name := "fnExactDriftOf", fn := fun _ => fun
  | [d1, d2, d3] => { results := [.lit (.bool true)], args := [d1, d2, d3] }
  | _ => none }
def fnExactDriftOfRow : OpenClaim := { program := "ytomfhkpmdalknaa", sum := "4bbf952324e58107516d19dbc90df128a68f1cef4882a83503766b8ec6dbe7ad", func := "loop.example/g01129/laws.FnExactDriftOf", spec := "fnExactDriftOf", unfollowed := true, recurses := true, apart := false }
def FnExactDriftOfSaid : Prop := fnExactDriftOfRow.holds Try.pinned (OpenSpec.ofChange fnExactDriftOfSpec)

/-- ITS FALSE NEIGHBOUR: 'it returns false'. Refute it at one input. -/
def fnExactDriftOfWrong : ChangeSpec := { name := "fnExactDriftOf", fn := fun _ => fun
  | [d1, d2, d3] => { results := [.lit (.bool false)], args := [d1, d2, d3] }
  | _ => none }
def FnExactDriftOfWrongFalsely : Prop := fnExactDriftOfRow.holds Try.pinned (OpenSpec.ofChange fnExactDriftOfWrong)

/-- 'laws.FnExactBestCycle': WHATEVER THE INPUT: true; the input reads as it did. -/
def fnExactBestCycleSpec : ChangeSpec := { name := "fnExactBestCycle", fn := fun _ => fun
  | [d1, d2, d3] => { results := [.lit (.bool true)], args := [d1, d2, d3] }
  | _ => none }
def fnExactBestCycleRow : OpenClaim := { program := "ytomfhkpmdalknaa", sum := "4bbf952324e58107516d19dbc90df128a68f1cef4882a83503766b8ec6dbe7ad", func := "loop.example/g01129/laws.FnExactBestCycle", spec := "fnExactBestCycle", unfollowed := true, recurses := true, apart := false }
def FnExactBestCycleSaid : Prop := fnExactBestCycleRow.holds Try.pinned (OpenSpec.ofChange fnExactBestCycleSpec)

/-- ITS FALSE NEIGHBOUR: 'it returns false'. Refute it at one input. -/
def fnExactBestCycleWrong : ChangeSpec := { name := "fnExactBestCycle", fn := fun _ => fun
  | [d1, d2, d3] => { results := [.lit (.bool false)], args := [d1, d2, d3] }
  | _ => none }
def FnExactBestCycleWrongFalsely : Prop := fnExactBestCycleRow.holds Try.pinned (OpenSpec.ofChange fnExactBestCycleWrong)

/-- 'laws.FnExactRuleCalendar': WHATEVER THE INPUT: true; the input reads as it did. -/
def fnExactRuleCalendarSpec : ChangeSpec := { name := "fnExactRuleCalendar", fn := fun _ => fun
  | [d1, d2] => { results := [.lit (.bool true)], args := [d1, d2] }
  | _ => none }
def fnExactRuleCalendarRow : OpenClaim := { program := "ytomfhkpmdalknaa", sum := "4bbf952324e58107516d19dbc90df128a68f1cef4882a83503766b8ec6dbe7ad", func := "loop.example/g01129/laws.FnExactRuleCalendar", spec := "fnExactRuleCalendar", unfollowed := true, recurses := true, apart := false }
def FnExactRuleCalendarSaid : Prop := fnExactRuleCalendarRow.holds Try.pinned (OpenSpec.ofChange fnExactRuleCalendarSpec)

/-- ITS FALSE NEIGHBOUR: 'it returns false'. Refute it at one input. -/
def fnExactRuleCalendarWrong : ChangeSpec := { name := "fnExactRuleCalendar", fn := fun _ => fun
  | [d1, d2] => { results := [.lit (.bool false)], args := [d1, d2] }
  | _ => none }
def FnExactRuleCalendarWrongFalsely : Prop := fnExactRuleCalendarRow.holds Try.pinned (OpenSpec.ofChange fnExactRuleCalendarWrong)

/-- 'laws.FnExactEvenCalendar': WHATEVER THE INPUT: true; the input reads as it did. -/
def fnExactEvenCalendarSpec : ChangeSpec := { name := "fnExactEvenCalendar", fn := fun _ => fun
  | [d1, d2, d3, d4] => { results := [.lit (.bool true)], args := [d1, d2, d3, d4] }
  | _ => none }
def fnExactEvenCalendarRow : OpenClaim := { program := "ytomfhkpmdalknaa", sum := "4bbf952324e58107516d19dbc90df128a68f1cef4882a83503766b8ec6dbe7ad", func := "loop.example/g01129/laws.FnExactEvenCalendar", spec := "fnExactEvenCalendar", inPlace := ["internal/abi.NoEscape"], unfollowed := true, recurses := true, apart := false }
def FnExactEvenCalendarSaid : Prop := fnExactEvenCalendarRow.holds Try.pinned (OpenSpec.ofChange fnExactEvenCalendarSpec)

/-- ITS FALSE NEIGHBOUR: 'it returns false'. Refute it at one input. -/
def fnExactEvenCalendarWrong : ChangeSpec := { name := "fnExactEvenCalendar", fn := fun _ => fun
  | [d1, d2, d3, d4] => { results := [.lit (.bool false)], args := [d1, d2, d3, d4] }
  | _ => none }
def FnExactEvenCalendarWrongFalsely : Prop := fnExactEvenCalendarRow.holds Try.pinned (OpenSpec.ofChange fnExactEvenCalendarWrong)

/-- 'laws.FnExactValidDesk': WHATEVER THE INPUT: true; the input reads as it did. -/
def fnExactValidDeskSpec : ChangeSpec := { name := "fnExactValidDesk", fn := fun _ => fun
  | [d] => { results := [.lit (.bool true)], args := [d] }
  | _ => none }
def fnExactValidDeskRow : OpenClaim := { program := "ytomfhkpmdalknaa", sum := "4bbf952324e58107516d19dbc90df128a68f1cef4882a83503766b8ec6dbe7ad", func := "loop.example/g01129/laws.FnExactValidDesk", spec := "fnExactValidDesk", unfollowed := true, recurses := true, apart := false }
def FnExactValidDeskSaid : Prop := fnExactValidDeskRow.holds Try.pinned (OpenSpec.ofChange fnExactValidDeskSpec)

/-- ITS FALSE NEIGHBOUR: 'it returns false'. Refute it at one input. -/
def fnExactValidDeskWrong : ChangeSpec := { name := "fnExactValidDesk", fn := fun _ => fun
  | [d] => { results := [.lit (.bool false)], args := [d] }
  | _ => none }
def FnExactValidDeskWrongFalsely : Prop := fnExactValidDeskRow.holds Try.pinned (OpenSpec.ofChange fnExactValidDeskWrong)

/-- 'laws.FnExactIntervalSystem': WHATEVER THE INPUT: true; the input reads as it did. -/
def fnExactIntervalSystemSpec : ChangeSpec := { name := "fnExactIntervalSystem", fn := fun _ => fun
  | [d1, d2] => { results := [.lit (.bool true)], args := [d1, d2] }
  | _ => none }
def fnExactIntervalSystemRow : OpenClaim := { program := "ytomfhkpmdalknaa", sum := "4bbf952324e58107516d19dbc90df128a68f1cef4882a83503766b8ec6dbe7ad", func := "loop.example/g01129/laws.FnExactIntervalSystem", spec := "fnExactIntervalSystem", apart := false }
def FnExactIntervalSystemSaid : Prop := fnExactIntervalSystemRow.holds Try.pinned (OpenSpec.ofChange fnExactIntervalSystemSpec)

/-- ITS FALSE NEIGHBOUR: 'it returns false'. Refute it at one input. -/
def fnExactIntervalSystemWrong : ChangeSpec := { name := "fnExactIntervalSystem", fn := fun _ => fun
  | [d1, d2] => { results := [.lit (.bool false)], args := [d1, d2] }
  | _ => none }
def FnExactIntervalSystemWrongFalsely : Prop := fnExactIntervalSystemRow.holds Try.pinned (OpenSpec.ofChange fnExactIntervalSystemWrong)

/-- 'laws.FnBestCycle': WHATEVER THE INPUT: true; the input reads as it did. -/
def fnBestCycleSpec : ChangeSpec := { name := "fnBestCycle", fn := fun _ => fun
  | [d1, d2] => { results := [.lit (.bool true)], args := [d1, d2] }
  | _ => none }
def fnBestCycleRow : OpenClaim := { program := "ytomfhkpmdalknaa", sum := "4bbf952324e58107516d19dbc90df128a68f1cef4882a83503766b8ec6dbe7ad", func := "loop.example/g01129/laws.FnBestCycle", spec := "fnBestCycle", unfollowed := true, recurses := true, apart := false }
def FnBestCycleSaid : Prop := fnBestCycleRow.holds Try.pinned (OpenSpec.ofChange fnBestCycleSpec)

/-- ITS FALSE NEIGHBOUR: 'it returns false'. Refute it at one input. -/
def fnBestCycleWrong : ChangeSpec := { name := "fnBestCycle", fn := fun _ => fun
  | [d1, d2] => { results := [.lit (.bool false)], args := [d1, d2] }
  | _ => none }
def FnBestCycleWrongFalsely : Prop := fnBestCycleRow.holds Try.pinned (OpenSpec.ofChange fnBestCycleWrong)

/- THE SECOND FORM. 'bulk': how many values and letters a reading holds, each counted each time it is reached (what is shared counts as often as it is met; a slice's spare places count too). A statement '..UptoSaid' is the law's where the arguments, and the package variables that the reading takes, are together of bulk at most 1048576: NARROWER than '..Said'. Prove '..Said' where nothing that the law and all that it calls make is longer than what came in: it says more and counts as full. Else prove '..UptoSaid'. A law counts once. -/
mutual
def uptoBulk {H : Type} : DataW H → Nat
  | .lit (.string bytes) => bytes.length + 1
  | .lit _ => 1
  | .nil => 1
  | .ptr d => uptoBulk d + 1
  | .slice elems spare => uptoBulkAll elems + uptoBulkAll spare + 1
  | .agg parts => uptoBulkAll parts + 1
  | .iface _ d => uptoBulk d + 1
  | .map entries => uptoBulkEntries entries + 1
  | .held _ => 1
def uptoBulkAll {H : Type} : List (DataW H) → Nat
  | [] => 0
  | d :: r => uptoBulk d + uptoBulkAll r
def uptoBulkEntries {H : Type} : List (Lit × DataW H) → Nat
  | [] => 0
  | x :: r => uptoBulkEntry x + uptoBulkEntries r
def uptoBulkEntry {H : Type} : Lit × DataW H → Nat
  | (.string bytes, d) => bytes.length + uptoBulk d + 1
  | (_, d) => uptoBulk d + 1
 end
def uptoSmall : (H : Type) → List (DataW H) → Bool := fun _ ds => decide (uptoBulkAll ds ≤ 1048576)
def OpenSpec.upto (s : _root_.Go.ChangeSpec) : _root_.Go.OpenSpec := { _root_.Go.OpenSpec.ofChange s with cond := some uptoSmall }

/-- 'laws.FnExactValidCalendar', WHERE WHAT IT READS IS OF BULK AT MOST 1048576: true; the input reads as it did. -/
def fnExactValidCalendarUptoRow : OpenClaim := { program := "ytomfhkpmdalknaa", sum := "4bbf952324e58107516d19dbc90df128a68f1cef4882a83503766b8ec6dbe7ad", func := "loop.example/g01129/laws.FnExactValidCalendar", spec := "fnExactValidCalendar", unfollowed := true, recurses := true, apart := false, narrowed := true }
def FnExactValidCalendarUptoSaid : Prop := fnExactValidCalendarUptoRow.holds Try.pinned (OpenSpec.upto fnExactValidCalendarSpec)

/-- 'laws.FnExactIsLeap', WHERE WHAT IT READS IS OF BULK AT MOST 1048576: true; the input reads as it did. -/
def fnExactIsLeapUptoRow : OpenClaim := { program := "ytomfhkpmdalknaa", sum := "4bbf952324e58107516d19dbc90df128a68f1cef4882a83503766b8ec6dbe7ad", func := "loop.example/g01129/laws.FnExactIsLeap", spec := "fnExactIsLeap", unfollowed := true, recurses := true, apart := false, narrowed := true }
def FnExactIsLeapUptoSaid : Prop := fnExactIsLeapUptoRow.holds Try.pinned (OpenSpec.upto fnExactIsLeapSpec)

/-- 'laws.FnExactDaysBefore', WHERE WHAT IT READS IS OF BULK AT MOST 1048576: true; the input reads as it did. -/
def fnExactDaysBeforeUptoRow : OpenClaim := { program := "ytomfhkpmdalknaa", sum := "4bbf952324e58107516d19dbc90df128a68f1cef4882a83503766b8ec6dbe7ad", func := "loop.example/g01129/laws.FnExactDaysBefore", spec := "fnExactDaysBefore", unfollowed := true, recurses := true, apart := false, narrowed := true }
def FnExactDaysBeforeUptoSaid : Prop := fnExactDaysBeforeUptoRow.holds Try.pinned (OpenSpec.upto fnExactDaysBeforeSpec)

/-- 'laws.FnExactYearOf', WHERE WHAT IT READS IS OF BULK AT MOST 1048576: true; the input reads as it did. -/
def fnExactYearOfUptoRow : OpenClaim := { program := "ytomfhkpmdalknaa", sum := "4bbf952324e58107516d19dbc90df128a68f1cef4882a83503766b8ec6dbe7ad", func := "loop.example/g01129/laws.FnExactYearOf", spec := "fnExactYearOf", unfollowed := true, recurses := true, apart := false, narrowed := true }
def FnExactYearOfUptoSaid : Prop := fnExactYearOfUptoRow.holds Try.pinned (OpenSpec.upto fnExactYearOfSpec)

/-- 'laws.FnExactMeanYear', WHERE WHAT IT READS IS OF BULK AT MOST 1048576: true; the input reads as it did. -/
def fnExactMeanYearUptoRow : OpenClaim := { program := "ytomfhkpmdalknaa", sum := "4bbf952324e58107516d19dbc90df128a68f1cef4882a83503766b8ec6dbe7ad", func := "loop.example/g01129/laws.FnExactMeanYear", spec := "fnExactMeanYear", unfollowed := true, recurses := true, apart := false, narrowed := true }
def FnExactMeanYearUptoSaid : Prop := fnExactMeanYearUptoRow.holds Try.pinned (OpenSpec.upto fnExactMeanYearSpec)

/-- 'laws.FnExactDriftOf', WHERE WHAT IT READS IS OF BULK AT MOST 1048576: true; the input reads as it did. -/
def fnExactDriftOfUptoRow : OpenClaim := { program := "ytomfhkpmdalknaa", sum := "4bbf952324e58107516d19dbc90df128a68f1cef4882a83503766b8ec6dbe7ad", func := "loop.example/g01129/laws.FnExactDriftOf", spec := "fnExactDriftOf", unfollowed := true, recurses := true, apart := false, narrowed := true }
def FnExactDriftOfUptoSaid : Prop := fnExactDriftOfUptoRow.holds Try.pinned (OpenSpec.upto fnExactDriftOfSpec)

/-- 'laws.FnExactBestCycle', WHERE WHAT IT READS IS OF BULK AT MOST 1048576: true; the input reads as it did. -/
def fnExactBestCycleUptoRow : OpenClaim := { program := "ytomfhkpmdalknaa", sum := "4bbf952324e58107516d19dbc90df128a68f1cef4882a83503766b8ec6dbe7ad", func := "loop.example/g01129/laws.FnExactBestCycle", spec := "fnExactBestCycle", unfollowed := true, recurses := true, apart := false, narrowed := true }
def FnExactBestCycleUptoSaid : Prop := fnExactBestCycleUptoRow.holds Try.pinned (OpenSpec.upto fnExactBestCycleSpec)

/-- 'laws.FnExactRuleCalendar', WHERE WHAT IT READS IS OF BULK AT MOST 1048576: true; the input reads as it did. -/
def fnExactRuleCalendarUptoRow : OpenClaim := { program := "ytomfhkpmdalknaa", sum := "4bbf952324e58107516d19dbc90df128a68f1cef4882a83503766b8ec6dbe7ad", func := "loop.example/g01129/laws.FnExactRuleCalendar", spec := "fnExactRuleCalendar", unfollowed := true, recurses := true, apart := false, narrowed := true }
def FnExactRuleCalendarUptoSaid : Prop := fnExactRuleCalendarUptoRow.holds Try.pinned (OpenSpec.upto fnExactRuleCalendarSpec)

/-- 'laws.FnExactEvenCalendar', WHERE WHAT IT READS IS OF BULK AT MOST 1048576: true; the input reads as it did. -/
def fnExactEvenCalendarUptoRow : OpenClaim := { program := "ytomfhkpmdalknaa", sum := "4bbf952324e58107516d19dbc90df128a68f1cef4882a83503766b8ec6dbe7ad", func := "loop.example/g01129/laws.FnExactEvenCalendar", spec := "fnExactEvenCalendar", inPlace := ["internal/abi.NoEscape"], unfollowed := true, recurses := true, apart := false, narrowed := true }
def FnExactEvenCalendarUptoSaid : Prop := fnExactEvenCalendarUptoRow.holds Try.pinned (OpenSpec.upto fnExactEvenCalendarSpec)

/-- 'laws.FnExactValidDesk', WHERE WHAT IT READS IS OF BULK AT MOST 1048576: true; the input reads as it did. -/
def fnExactValidDeskUptoRow : OpenClaim := { program := "ytomfhkpmdalknaa", sum := "4bbf952324e58107516d19dbc90df128a68f1cef4882a83503766b8ec6dbe7ad", func := "loop.example/g01129/laws.FnExactValidDesk", spec := "fnExactValidDesk", unfollowed := true, recurses := true, apart := false, narrowed := true }
def FnExactValidDeskUptoSaid : Prop := fnExactValidDeskUptoRow.holds Try.pinned (OpenSpec.upto fnExactValidDeskSpec)

/-- 'laws.FnExactIntervalSystem', WHERE WHAT IT READS IS OF BULK AT MOST 1048576: true; the input reads as it did. -/
def fnExactIntervalSystemUptoRow : OpenClaim := { program := "ytomfhkpmdalknaa", sum := "4bbf952324e58107516d19dbc90df128a68f1cef4882a83503766b8ec6dbe7ad", func := "loop.example/g01129/laws.FnExactIntervalSystem", spec := "fnExactIntervalSystem", apart := false, narrowed := true }
def FnExactIntervalSystemUptoSaid : Prop := fnExactIntervalSystemUptoRow.holds Try.pinned (OpenSpec.upto fnExactIntervalSystemSpec)

/-- 'laws.FnBestCycle', WHERE WHAT IT READS IS OF BULK AT MOST 1048576: true; the input reads as it did. -/
def fnBestCycleUptoRow : OpenClaim := { program := "ytomfhkpmdalknaa", sum := "4bbf952324e58107516d19dbc90df128a68f1cef4882a83503766b8ec6dbe7ad", func := "loop.example/g01129/laws.FnBestCycle", spec := "fnBestCycle", unfollowed := true, recurses := true, apart := false, narrowed := true }
def FnBestCycleUptoSaid : Prop := fnBestCycleUptoRow.holds Try.pinned (OpenSpec.upto fnBestCycleSpec)

end Rows
end Go.Proofs.Ytomfhkpmdalknaa
