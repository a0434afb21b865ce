/-
  No cell of these rows narrows 'for every input' (looked for: loops, veiled, ifaces, maps, wideKeys, modest, calm, conditions, laid).
  DERIVED. THE GIVEN ROWS OF THIS SEAT. 6 by the template 'for every input the law returns true; each argument reads behind the call as it read before'; 0 by the template 'total and deterministic' (their statements: YtpdcmhnaedhkdaaTotals.lean).
  GIVEN WITH THE SEED: the statements are not yours to turn. If you find one false, say at which input.
  Laid BY PROGRAM, IN A SANDBOX (cutbox-rows.mjs): the forced cells as the released guide's own fill.sh prints them over the translation 708511ea813d3fd6… (all of the seat's roots in one cut). By AI agents, Wed Nov 11 2026. No macro, syntax, notation, axiom, sorry.
-/
import Derived.Test.YtpdcmhnaedhkdaaChecked
import GoSem.Claim
import GoSem.ClaimJoined
import GoSem.ClaimMapViews
import Derived.JoinedTies
import Derived.KernelRfl
namespace Go.Proofs.Ytpdcmhnaedhkdaa
/- THE CELL 'sum', in the pinned program and in every row, IS THE sha256 OF THE DUMP (.gsa) THAT YtpdcmhnaedhkdaaProg.lean LOADS. Nothing in Lean hashes anything: it is a label: what it is worth is what the hold of that sum in a sandbox is worth. -/
noncomputable def Try.pinned : Pinned := { name := "ytpdcmhnaedhkdaa", sum := "708511ea813d3fd6e64162e55912d5ee3f7760dd3305f5301bd1abc621d17a87", checked := Try.checked }
namespace Rows
def none {H : Type} : Left H := { results := [], args := [] }

/-- 'laws.FnExactGapsOf': WHATEVER THE INPUT: true; the input reads as it did. -/
def fnExactGapsOfSpec : ChangeSpec := { name := "fnExactGapsOf", fn := fun _ => fun
  | [d1, d2, d3] => { results := [.lit (.bool true)], args := [d1, d2, d3] }
  | _ => none }
def fnExactGapsOfRow : OpenClaim := { program := "ytpdcmhnaedhkdaa", sum := "708511ea813d3fd6e64162e55912d5ee3f7760dd3305f5301bd1abc621d17a87", func := "loop.example/g01129/laws.FnExactGapsOf", spec := "fnExactGapsOf", recurses := true, apart := false }
def FnExactGapsOfSaid : Prop := fnExactGapsOfRow.holds Try.pinned (OpenSpec.ofChange fnExactGapsOfSpec)

/-- ITS FALSE NEIGHBOUR: 'it returns false'. Refute it at one input. -/
def fnExactGapsOfWrong : ChangeSpec := { name := "fnExactGapsOf", fn := fun _ => fun
  | [d1, d2, d3] => { results := [.lit (.bool false)], args := [d1, d2, d3] }
  | _ => none }
def FnExactGapsOfWrongFalsely : Prop := fnExactGapsOfRow.holds Try.pinned (OpenSpec.ofChange fnExactGapsOfWrong)

/-- 'laws.FnExactNeedySequence': WHATEVER THE INPUT: true; the input reads as it did. -/
def fnExactNeedySequenceSpec : ChangeSpec := { name := "fnExactNeedySequence", fn := fun _ => fun
  | [d] => { results := [.lit (.bool true)], args := [d] }
  | _ => none }
def fnExactNeedySequenceRow : OpenClaim := { program := "ytpdcmhnaedhkdaa", sum := "708511ea813d3fd6e64162e55912d5ee3f7760dd3305f5301bd1abc621d17a87", func := "loop.example/g01129/laws.FnExactNeedySequence", spec := "fnExactNeedySequence", unfollowed := true, recurses := true, apart := false }
def FnExactNeedySequenceSaid : Prop := fnExactNeedySequenceRow.holds Try.pinned (OpenSpec.ofChange fnExactNeedySequenceSpec)

/-- ITS FALSE NEIGHBOUR: 'it returns false'. Refute it at one input. -/
def fnExactNeedySequenceWrong : ChangeSpec := { name := "fnExactNeedySequence", fn := fun _ => fun
  | [d] => { results := [.lit (.bool false)], args := [d] }
  | _ => none }
def FnExactNeedySequenceWrongFalsely : Prop := fnExactNeedySequenceRow.holds Try.pinned (OpenSpec.ofChange fnExactNeedySequenceWrong)

/-- 'laws.FnExactHilbertPath': WHATEVER THE INPUT: true; the input reads as it did. -/
def fnExactHilbertPathSpec : ChangeSpec := { name := "fnExactHilbertPath", fn := fun _ => fun
  | [d] => { results := [.lit (.bool true)], args := [d] }
  | _ => none }
def fnExactHilbertPathRow : OpenClaim := { program := "ytpdcmhnaedhkdaa", sum := "708511ea813d3fd6e64162e55912d5ee3f7760dd3305f5301bd1abc621d17a87", func := "loop.example/g01129/laws.FnExactHilbertPath", spec := "fnExactHilbertPath", unfollowed := true, recurses := true, apart := false }
def FnExactHilbertPathSaid : Prop := fnExactHilbertPathRow.holds Try.pinned (OpenSpec.ofChange fnExactHilbertPathSpec)

/-- ITS FALSE NEIGHBOUR: 'it returns false'. Refute it at one input. -/
def fnExactHilbertPathWrong : ChangeSpec := { name := "fnExactHilbertPath", fn := fun _ => fun
  | [d] => { results := [.lit (.bool false)], args := [d] }
  | _ => none }
def FnExactHilbertPathWrongFalsely : Prop := fnExactHilbertPathRow.holds Try.pinned (OpenSpec.ofChange fnExactHilbertPathWrong)

/-- 'laws.FnExactPathDither': WHATEVER THE INPUT: true; the input reads as it did. -/
def fnExactPathDitherSpec : ChangeSpec := { name := "fnExactPathDither", fn := fun _ => fun
  | [d1, d2] => { results := [.lit (.bool true)], args := [d1, d2] }
  | _ => none }
def fnExactPathDitherRow : OpenClaim := { program := "ytpdcmhnaedhkdaa", sum := "708511ea813d3fd6e64162e55912d5ee3f7760dd3305f5301bd1abc621d17a87", func := "loop.example/g01129/laws.FnExactPathDither", spec := "fnExactPathDither", unfollowed := true, recurses := true, apart := false }
def FnExactPathDitherSaid : Prop := fnExactPathDitherRow.holds Try.pinned (OpenSpec.ofChange fnExactPathDitherSpec)

/-- ITS FALSE NEIGHBOUR: 'it returns false'. Refute it at one input. -/
def fnExactPathDitherWrong : ChangeSpec := { name := "fnExactPathDither", fn := fun _ => fun
  | [d1, d2] => { results := [.lit (.bool false)], args := [d1, d2] }
  | _ => none }
def FnExactPathDitherWrongFalsely : Prop := fnExactPathDitherRow.holds Try.pinned (OpenSpec.ofChange fnExactPathDitherWrong)

/-- 'laws.FnExactSetErrors': WHATEVER THE INPUT: true; the input reads as it did. -/
def fnExactSetErrorsSpec : ChangeSpec := { name := "fnExactSetErrors", fn := fun _ => fun
  | [d1, d2, d3] => { results := [.lit (.bool true)], args := [d1, d2, d3] }
  | _ => none }
def fnExactSetErrorsRow : OpenClaim := { program := "ytpdcmhnaedhkdaa", sum := "708511ea813d3fd6e64162e55912d5ee3f7760dd3305f5301bd1abc621d17a87", func := "loop.example/g01129/laws.FnExactSetErrors", spec := "fnExactSetErrors", unfollowed := true, recurses := true, apart := false }
def FnExactSetErrorsSaid : Prop := fnExactSetErrorsRow.holds Try.pinned (OpenSpec.ofChange fnExactSetErrorsSpec)

/-- ITS FALSE NEIGHBOUR: 'it returns false'. Refute it at one input. -/
def fnExactSetErrorsWrong : ChangeSpec := { name := "fnExactSetErrors", fn := fun _ => fun
  | [d1, d2, d3] => { results := [.lit (.bool false)], args := [d1, d2, d3] }
  | _ => none }
def FnExactSetErrorsWrongFalsely : Prop := fnExactSetErrorsRow.holds Try.pinned (OpenSpec.ofChange fnExactSetErrorsWrong)

/-- 'laws.FnExactValidDesk': WHATEVER THE INPUT: true; the input reads as it did. -/
def fnExactValidDeskSpec : ChangeSpec := { name := "fnExactValidDesk", fn := fun _ => fun
  | [d] => { results := [.lit (.bool true)], args := [d] }
  | _ => none }
def fnExactValidDeskRow : OpenClaim := { program := "ytpdcmhnaedhkdaa", sum := "708511ea813d3fd6e64162e55912d5ee3f7760dd3305f5301bd1abc621d17a87", func := "loop.example/g01129/laws.FnExactValidDesk", spec := "fnExactValidDesk", unfollowed := true, recurses := true, apart := false }
def FnExactValidDeskSaid : Prop := fnExactValidDeskRow.holds Try.pinned (OpenSpec.ofChange fnExactValidDeskSpec)

/-- ITS FALSE NEIGHBOUR: 'it returns false'. Refute it at one input. -/
def fnExactValidDeskWrong : ChangeSpec := { name := "fnExactValidDesk", fn := fun _ => fun
  | [d] => { results := [.lit (.bool false)], args := [d] }
  | _ => none }
def FnExactValidDeskWrongFalsely : Prop := fnExactValidDeskRow.holds Try.pinned (OpenSpec.ofChange fnExactValidDeskWrong)

/- THE SECOND FORM. 'bulk': how many values and letters a reading holds, each counted each time it is reached (what is shared counts as often as it is met; a slice's spare places count too). A statement '..UptoSaid' is the law's where the arguments, and the package variables that the reading takes, are together of bulk at most 1048576: NARROWER than '..Said'. Prove '..Said' where nothing that the law and all that it calls make is longer than what came in: it says more and counts as full. Else prove '..UptoSaid'. A law counts once. -/
mutual
def uptoBulk {H : Type} : DataW H → Nat
  | .lit (.string bytes) => bytes.length + 1
  | .lit _ => 1
  | .nil => 1
  | .ptr d => uptoBulk d + 1
  | .slice elems spare => uptoBulkAll elems + uptoBulkAll spare + 1
  | .agg parts => uptoBulkAll parts + 1
  | .iface _ d => uptoBulk d + 1
  | .map entries => uptoBulkEntries entries + 1
  | .held _ => 1
def uptoBulkAll {H : Type} : List (DataW H) → Nat
  | [] => 0
  | d :: r => uptoBulk d + uptoBulkAll r
def uptoBulkEntries {H : Type} : List (Lit × DataW H) → Nat
  | [] => 0
  | x :: r => uptoBulkEntry x + uptoBulkEntries r
def uptoBulkEntry {H : Type} : Lit × DataW H → Nat
  | (.string bytes, d) => bytes.length + uptoBulk d + 1
  | (_, d) => uptoBulk d + 1
 end
def uptoSmall : (H : Type) → List (DataW H) → Bool := fun _ ds => decide (uptoBulkAll ds ≤ 1048576)
def OpenSpec.upto (s : _root_.Go.ChangeSpec) : _root_.Go.OpenSpec := { _root_.Go.OpenSpec.ofChange s with cond := some uptoSmall }

/-- 'laws.FnExactGapsOf', WHERE WHAT IT READS IS OF BULK AT MOST 1048576: true; the input reads as it did. -/
def fnExactGapsOfUptoRow : OpenClaim := { program := "ytpdcmhnaedhkdaa", sum := "708511ea813d3fd6e64162e55912d5ee3f7760dd3305f5301bd1abc621d17a87", func := "loop.example/g01129/laws.FnExactGapsOf", spec := "fnExactGapsOf", recurses := true, apart := false, narrowed := true }
def FnExactGapsOfUptoSaid : Prop := fnExactGapsOfUptoRow.holds Try.pinned (OpenSpec.upto fnExactGapsOfSpec)

/-- 'laws.FnExactNeedySequence', WHERE WHAT IT READS IS OF BULK AT MOST 1048576: true; the input reads as it did. -/
def fnExactNeedySequenceUptoRow : OpenClaim := { program := "ytpdcmhnaedhkdaa", sum := "708511ea813d3fd6e64162e55912d5ee3f7760dd3305f5301bd1abc621d17a87", func := "loop.example/g01129/laws.FnExactNeedySequence", spec := "fnExactNeedySequence", unfollowed := true, recurses := true, apart := false, narrowed := true }
def FnExactNeedySequenceUptoSaid : Prop := fnExactNeedySequenceUptoRow.holds Try.pinned (OpenSpec.upto fnExactNeedySequenceSpec)

/-- 'laws.FnExactHilbertPath', WHERE WHAT IT READS IS OF BULK AT MOST 1048576: true; the input reads as it did. -/
def fnExactHilbertPathUptoRow : OpenClaim := { program := "ytpdcmhnaedhkdaa", sum := "708511ea813d3fd6e64162e55912d5ee3f7760dd3305f5301bd1abc621d17a87", func := "loop.example/g01129/laws.FnExactHilbertPath", spec := "fnExactHilbertPath", unfollowed := true, recurses := true, apart := false, narrowed := true }
def FnExactHilbertPathUptoSaid : Prop := fnExactHilbertPathUptoRow.holds Try.pinned (OpenSpec.upto fnExactHilbertPathSpec)

/-- 'laws.FnExactPathDither', WHERE WHAT IT READS IS OF BULK AT MOST 1048576: true; the input reads as it did. -/
def fnExactPathDitherUptoRow : OpenClaim := { program := "ytpdcmhnaedhkdaa", sum := "708511ea813d3fd6e64162e55912d5ee3f7760dd3305f5301bd1abc621d17a87", func := "loop.example/g01129/laws.FnExactPathDither", spec := "fnExactPathDither", unfollowed := true, recurses := true, apart := false, narrowed := true }
def FnExactPathDitherUptoSaid : Prop := fnExactPathDitherUptoRow.holds Try.pinned (OpenSpec.upto fnExactPathDitherSpec)

/-- 'laws.FnExactSetErrors', WHERE WHAT IT READS IS OF BULK AT MOST 1048576: true; the input reads as it did. -/
def fnExactSetErrorsUptoRow : OpenClaim := { program := "ytpdcmhnaedhkdaa", sum := "708511ea813d3fd6e64162e55912d5ee3f7760dd3305f5301bd1abc621d17a87", func := "loop.example/g01129/laws.FnExactSetErrors", spec := "fnExactSetErrors", unfollowed := true, recurses := true, apart := false, narrowed := true }
def FnExactSetErrorsUptoSaid : Prop := fnExactSetErrorsUptoRow.holds Try.pinned (OpenSpec.upto fnExactSetErrorsSpec)

/-- 'laws.FnExactValidDesk', WHERE WHAT IT READS IS OF BULK AT MOST 1048576: true; the input reads as it did. -/
def fnExactValidDeskUptoRow : OpenClaim := { program := "ytpdcmhnaedhkdaa", sum := "708511ea813d3fd6e64162e55912d5ee3f7760dd3305f5301bd1abc621d17a87", func := "loop.example/g01129/laws.FnExactValidDesk", spec := "fnExactValidDesk", unfollowed := true, recurses := true, apart := false, narrowed := true }
def FnExactValidDeskUptoSaid : Prop := fnExactValidDeskUptoRow.holds Try.pinned (OpenSpec.upto fnExactValidDeskSpec)

end Rows
end Go.Proofs.Ytpdcmhnaedhkdaa
