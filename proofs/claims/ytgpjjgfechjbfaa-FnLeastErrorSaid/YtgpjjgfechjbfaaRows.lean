/-
  No cell of these rows narrows 'for every input' (looked for: loops, veiled, ifaces, maps, wideKeys, modest, calm, conditions, laid).
  DERIVED. THE GIVEN ROWS OF THIS SEAT. 13 by the template 'for every input the law returns true; each argument reads behind the call as it read before'; 0 by the template 'total and deterministic' (their statements: YtgpjjgfechjbfaaTotals.lean).
  GIVEN WITH THE SEED: the statements are not yours to turn. If you find one false, say at which input.
  Laid BY PROGRAM, IN A SANDBOX (cutbox-rows.mjs): the forced cells as the released guide's own fill.sh prints them over the translation 9948376532d99853… (all of the seat's roots in one cut). By AI agents, Wed Nov 11 2026. No macro, syntax, notation, axiom, sorry.
-/
import Derived.Test.YtgpjjgfechjbfaaChecked
import GoSem.Claim
import GoSem.ClaimJoined
import GoSem.ClaimMapViews
import Derived.JoinedTies
import Derived.KernelRfl
namespace Go.Proofs.Ytgpjjgfechjbfaa
/- THE CELL 'sum', in the pinned program and in every row, IS THE sha256 OF THE DUMP (.gsa) THAT YtgpjjgfechjbfaaProg.lean LOADS. Nothing in Lean hashes anything: it is a label: what it is worth is what the hold of that sum in a sandbox is worth. -/
noncomputable def Try.pinned : Pinned := { name := "ytgpjjgfechjbfaa", sum := "9948376532d998531c9de64f1a7183954f4faa21ca27edfbf3344cb4ad0e6a3a", checked := Try.checked }
namespace Rows
def none {H : Type} : Left H := { results := [], args := [] }

/-- 'laws.FnLeastError': WHATEVER THE INPUT: true; the input reads as it did. -/
def fnLeastErrorSpec : ChangeSpec := { name := "fnLeastError", fn := fun _ => fun
  | [d1, d2] => { results := [.lit (.bool true)], args := [d1, d2] }
  | _ => none }
def fnLeastErrorRow : OpenClaim := { program := "ytgpjjgfechjbfaa", sum := "9948376532d998531c9de64f1a7183954f4faa21ca27edfbf3344cb4ad0e6a3a", func := "loop.example/g01129/laws.FnLeastError", spec := "fnLeastError", unfollowed := true, recurses := true, apart := false }
def FnLeastErrorSaid : Prop := fnLeastErrorRow.holds Try.pinned (OpenSpec.ofChange fnLeastErrorSpec)

/-- ITS FALSE NEIGHBOUR: 'it returns false'. Refute it at one input. -/
def fnLeastErrorWrong : ChangeSpec := { name := "fnLeastError", fn := fun _ => fun
  | [d1, d2] => { results := [.lit (.bool false)], args := [d1, d2] }
  | _ => none }
def FnLeastErrorWrongFalsely : Prop := fnLeastErrorRow.holds Try.pinned (OpenSpec.ofChange fnLeastErrorWrong)

/-- 'laws.FnCountedBest': WHATEVER THE INPUT: true; the input reads as it did. -/
def fnCountedBestSpec : ChangeSpec := { name := "fnCountedBest", fn := fun _ => fun
  | [d1, d2] => { results := [.lit (.bool true)], args := [d1, d2] }
  | _ => none }
def fnCountedBestRow : OpenClaim := { program := "ytgpjjgfechjbfaa", sum := "9948376532d998531c9de64f1a7183954f4faa21ca27edfbf3344cb4ad0e6a3a", func := "loop.example/g01129/laws.FnCountedBest", spec := "fnCountedBest", unfollowed := true, recurses := true, apart := false }
def FnCountedBestSaid : Prop := fnCountedBestRow.holds Try.pinned (OpenSpec.ofChange fnCountedBestSpec)

/-- ITS FALSE NEIGHBOUR: 'it returns false'. Refute it at one input. -/
def fnCountedBestWrong : ChangeSpec := { name := "fnCountedBest", fn := fun _ => fun
  | [d1, d2] => { results := [.lit (.bool false)], args := [d1, d2] }
  | _ => none }
def FnCountedBestWrongFalsely : Prop := fnCountedBestRow.holds Try.pinned (OpenSpec.ofChange fnCountedBestWrong)

/-- 'laws.FnGrouped': WHATEVER THE INPUT: true; the input reads as it did. -/
def fnGroupedSpec : ChangeSpec := { name := "fnGrouped", fn := fun _ => fun
  | [d1, d2] => { results := [.lit (.bool true)], args := [d1, d2] }
  | _ => none }
def fnGroupedRow : OpenClaim := { program := "ytgpjjgfechjbfaa", sum := "9948376532d998531c9de64f1a7183954f4faa21ca27edfbf3344cb4ad0e6a3a", func := "loop.example/g01129/laws.FnGrouped", spec := "fnGrouped", inPlace := ["internal/reflectlite.ValueOf", "internal/reflectlite.Swapper", "(internal/reflectlite.Value).Len"], unfollowed := true, recurses := true, apart := false }
def FnGroupedSaid : Prop := fnGroupedRow.holds Try.pinned (OpenSpec.ofChange fnGroupedSpec)

/-- ITS FALSE NEIGHBOUR: 'it returns false'. Refute it at one input. -/
def fnGroupedWrong : ChangeSpec := { name := "fnGrouped", fn := fun _ => fun
  | [d1, d2] => { results := [.lit (.bool false)], args := [d1, d2] }
  | _ => none }
def FnGroupedWrongFalsely : Prop := fnGroupedRow.holds Try.pinned (OpenSpec.ofChange fnGroupedWrong)

/-- 'laws.FnPercents': WHATEVER THE INPUT: true; the input reads as it did. -/
def fnPercentsSpec : ChangeSpec := { name := "fnPercents", fn := fun _ => fun
  | [d1, d2] => { results := [.lit (.bool true)], args := [d1, d2] }
  | _ => none }
def fnPercentsRow : OpenClaim := { program := "ytgpjjgfechjbfaa", sum := "9948376532d998531c9de64f1a7183954f4faa21ca27edfbf3344cb4ad0e6a3a", func := "loop.example/g01129/laws.FnPercents", spec := "fnPercents", unfollowed := true, recurses := true, apart := false }
def FnPercentsSaid : Prop := fnPercentsRow.holds Try.pinned (OpenSpec.ofChange fnPercentsSpec)

/-- ITS FALSE NEIGHBOUR: 'it returns false'. Refute it at one input. -/
def fnPercentsWrong : ChangeSpec := { name := "fnPercents", fn := fun _ => fun
  | [d1, d2] => { results := [.lit (.bool false)], args := [d1, d2] }
  | _ => none }
def FnPercentsWrongFalsely : Prop := fnPercentsRow.holds Try.pinned (OpenSpec.ofChange fnPercentsWrong)

/-- 'laws.FnExactErrorOf': WHATEVER THE INPUT: true; the input reads as it did. -/
def fnExactErrorOfSpec : ChangeSpec := { name := "fnExactErrorOf", fn := fun _ => fun
  | [d1, d2, d3] => { results := [.lit (.bool true)], args := [d1, d2, d3] }
  | _ => none }
def fnExactErrorOfRow : OpenClaim := { program := "ytgpjjgfechjbfaa", sum := "9948376532d998531c9de64f1a7183954f4faa21ca27edfbf3344cb4ad0e6a3a", func := "loop.example/g01129/laws.FnExactErrorOf", spec := "fnExactErrorOf", unfollowed := true, recurses := true, apart := false }
def FnExactErrorOfSaid : Prop := fnExactErrorOfRow.holds Try.pinned (OpenSpec.ofChange fnExactErrorOfSpec)

/-- ITS FALSE NEIGHBOUR: 'it returns false'. Refute it at one input. -/
def fnExactErrorOfWrong : ChangeSpec := { name := "fnExactErrorOf", fn := fun _ => fun
  | [d1, d2, d3] => { results := [.lit (.bool false)], args := [d1, d2, d3] }
  | _ => none }
def FnExactErrorOfWrongFalsely : Prop := fnExactErrorOfRow.holds Try.pinned (OpenSpec.ofChange fnExactErrorOfWrong)

/-- 'laws.FnExactSumBounds': WHATEVER THE INPUT: true; the input reads as it did. -/
def fnExactSumBoundsSpec : ChangeSpec := { name := "fnExactSumBounds", fn := fun _ => fun
  | [d] => { results := [.lit (.bool true)], args := [d] }
  | _ => none }
def fnExactSumBoundsRow : OpenClaim := { program := "ytgpjjgfechjbfaa", sum := "9948376532d998531c9de64f1a7183954f4faa21ca27edfbf3344cb4ad0e6a3a", func := "loop.example/g01129/laws.FnExactSumBounds", spec := "fnExactSumBounds", unfollowed := true, recurses := true, apart := false }
def FnExactSumBoundsSaid : Prop := fnExactSumBoundsRow.holds Try.pinned (OpenSpec.ofChange fnExactSumBoundsSpec)

/-- ITS FALSE NEIGHBOUR: 'it returns false'. Refute it at one input. -/
def fnExactSumBoundsWrong : ChangeSpec := { name := "fnExactSumBounds", fn := fun _ => fun
  | [d] => { results := [.lit (.bool false)], args := [d] }
  | _ => none }
def FnExactSumBoundsWrongFalsely : Prop := fnExactSumBoundsRow.holds Try.pinned (OpenSpec.ofChange fnExactSumBoundsWrong)

/-- 'laws.FnExactBestRounding': WHATEVER THE INPUT: true; the input reads as it did. -/
def fnExactBestRoundingSpec : ChangeSpec := { name := "fnExactBestRounding", fn := fun _ => fun
  | [d1, d2, d3] => { results := [.lit (.bool true)], args := [d1, d2, d3] }
  | _ => none }
def fnExactBestRoundingRow : OpenClaim := { program := "ytgpjjgfechjbfaa", sum := "9948376532d998531c9de64f1a7183954f4faa21ca27edfbf3344cb4ad0e6a3a", func := "loop.example/g01129/laws.FnExactBestRounding", spec := "fnExactBestRounding", unfollowed := true, recurses := true, apart := false }
def FnExactBestRoundingSaid : Prop := fnExactBestRoundingRow.holds Try.pinned (OpenSpec.ofChange fnExactBestRoundingSpec)

/-- ITS FALSE NEIGHBOUR: 'it returns false'. Refute it at one input. -/
def fnExactBestRoundingWrong : ChangeSpec := { name := "fnExactBestRounding", fn := fun _ => fun
  | [d1, d2, d3] => { results := [.lit (.bool false)], args := [d1, d2, d3] }
  | _ => none }
def FnExactBestRoundingWrongFalsely : Prop := fnExactBestRoundingRow.holds Try.pinned (OpenSpec.ofChange fnExactBestRoundingWrong)

/-- 'laws.FnExactCountBest': WHATEVER THE INPUT: true; the input reads as it did. -/
def fnExactCountBestSpec : ChangeSpec := { name := "fnExactCountBest", fn := fun _ => fun
  | [d1, d2, d3] => { results := [.lit (.bool true)], args := [d1, d2, d3] }
  | _ => none }
def fnExactCountBestRow : OpenClaim := { program := "ytgpjjgfechjbfaa", sum := "9948376532d998531c9de64f1a7183954f4faa21ca27edfbf3344cb4ad0e6a3a", func := "loop.example/g01129/laws.FnExactCountBest", spec := "fnExactCountBest", unfollowed := true, recurses := true, apart := false }
def FnExactCountBestSaid : Prop := fnExactCountBestRow.holds Try.pinned (OpenSpec.ofChange fnExactCountBestSpec)

/-- ITS FALSE NEIGHBOUR: 'it returns false'. Refute it at one input. -/
def fnExactCountBestWrong : ChangeSpec := { name := "fnExactCountBest", fn := fun _ => fun
  | [d1, d2, d3] => { results := [.lit (.bool false)], args := [d1, d2, d3] }
  | _ => none }
def FnExactCountBestWrongFalsely : Prop := fnExactCountBestRow.holds Try.pinned (OpenSpec.ofChange fnExactCountBestWrong)

/-- 'laws.FnExactIsLaminar': WHATEVER THE INPUT: true; the input reads as it did. -/
def fnExactIsLaminarSpec : ChangeSpec := { name := "fnExactIsLaminar", fn := fun _ => fun
  | [d1, d2] => { results := [.lit (.bool true)], args := [d1, d2] }
  | _ => none }
def fnExactIsLaminarRow : OpenClaim := { program := "ytgpjjgfechjbfaa", sum := "9948376532d998531c9de64f1a7183954f4faa21ca27edfbf3344cb4ad0e6a3a", func := "loop.example/g01129/laws.FnExactIsLaminar", spec := "fnExactIsLaminar", apart := false }
def FnExactIsLaminarSaid : Prop := fnExactIsLaminarRow.holds Try.pinned (OpenSpec.ofChange fnExactIsLaminarSpec)

/-- ITS FALSE NEIGHBOUR: 'it returns false'. Refute it at one input. -/
def fnExactIsLaminarWrong : ChangeSpec := { name := "fnExactIsLaminar", fn := fun _ => fun
  | [d1, d2] => { results := [.lit (.bool false)], args := [d1, d2] }
  | _ => none }
def FnExactIsLaminarWrongFalsely : Prop := fnExactIsLaminarRow.holds Try.pinned (OpenSpec.ofChange fnExactIsLaminarWrong)

/-- 'laws.FnExactIsGroupRounding': WHATEVER THE INPUT: true; the input reads as it did. -/
def fnExactIsGroupRoundingSpec : ChangeSpec := { name := "fnExactIsGroupRounding", fn := fun _ => fun
  | [d1, d2, d3] => { results := [.lit (.bool true)], args := [d1, d2, d3] }
  | _ => none }
def fnExactIsGroupRoundingRow : OpenClaim := { program := "ytgpjjgfechjbfaa", sum := "9948376532d998531c9de64f1a7183954f4faa21ca27edfbf3344cb4ad0e6a3a", func := "loop.example/g01129/laws.FnExactIsGroupRounding", spec := "fnExactIsGroupRounding", apart := false }
def FnExactIsGroupRoundingSaid : Prop := fnExactIsGroupRoundingRow.holds Try.pinned (OpenSpec.ofChange fnExactIsGroupRoundingSpec)

/-- ITS FALSE NEIGHBOUR: 'it returns false'. Refute it at one input. -/
def fnExactIsGroupRoundingWrong : ChangeSpec := { name := "fnExactIsGroupRounding", fn := fun _ => fun
  | [d1, d2, d3] => { results := [.lit (.bool false)], args := [d1, d2, d3] }
  | _ => none }
def FnExactIsGroupRoundingWrongFalsely : Prop := fnExactIsGroupRoundingRow.holds Try.pinned (OpenSpec.ofChange fnExactIsGroupRoundingWrong)

/-- 'laws.FnExactGroupRounding': WHATEVER THE INPUT: true; the input reads as it did. -/
def fnExactGroupRoundingSpec : ChangeSpec := { name := "fnExactGroupRounding", fn := fun _ => fun
  | [d1, d2] => { results := [.lit (.bool true)], args := [d1, d2] }
  | _ => none }
def fnExactGroupRoundingRow : OpenClaim := { program := "ytgpjjgfechjbfaa", sum := "9948376532d998531c9de64f1a7183954f4faa21ca27edfbf3344cb4ad0e6a3a", func := "loop.example/g01129/laws.FnExactGroupRounding", spec := "fnExactGroupRounding", inPlace := ["internal/reflectlite.ValueOf", "internal/reflectlite.Swapper", "(internal/reflectlite.Value).Len"], unfollowed := true, recurses := true, apart := false }
def FnExactGroupRoundingSaid : Prop := fnExactGroupRoundingRow.holds Try.pinned (OpenSpec.ofChange fnExactGroupRoundingSpec)

/-- ITS FALSE NEIGHBOUR: 'it returns false'. Refute it at one input. -/
def fnExactGroupRoundingWrong : ChangeSpec := { name := "fnExactGroupRounding", fn := fun _ => fun
  | [d1, d2] => { results := [.lit (.bool false)], args := [d1, d2] }
  | _ => none }
def FnExactGroupRoundingWrongFalsely : Prop := fnExactGroupRoundingRow.holds Try.pinned (OpenSpec.ofChange fnExactGroupRoundingWrong)

/-- 'laws.FnExactGroupSums': WHATEVER THE INPUT: true; the input reads as it did. -/
def fnExactGroupSumsSpec : ChangeSpec := { name := "fnExactGroupSums", fn := fun _ => fun
  | [d1, d2, d3] => { results := [.lit (.bool true)], args := [d1, d2, d3] }
  | _ => none }
def fnExactGroupSumsRow : OpenClaim := { program := "ytgpjjgfechjbfaa", sum := "9948376532d998531c9de64f1a7183954f4faa21ca27edfbf3344cb4ad0e6a3a", func := "loop.example/g01129/laws.FnExactGroupSums", spec := "fnExactGroupSums", apart := false }
def FnExactGroupSumsSaid : Prop := fnExactGroupSumsRow.holds Try.pinned (OpenSpec.ofChange fnExactGroupSumsSpec)

/-- ITS FALSE NEIGHBOUR: 'it returns false'. Refute it at one input. -/
def fnExactGroupSumsWrong : ChangeSpec := { name := "fnExactGroupSums", fn := fun _ => fun
  | [d1, d2, d3] => { results := [.lit (.bool false)], args := [d1, d2, d3] }
  | _ => none }
def FnExactGroupSumsWrongFalsely : Prop := fnExactGroupSumsRow.holds Try.pinned (OpenSpec.ofChange fnExactGroupSumsWrong)

/-- 'laws.FnExactPercentsOf': WHATEVER THE INPUT: true; the input reads as it did. -/
def fnExactPercentsOfSpec : ChangeSpec := { name := "fnExactPercentsOf", fn := fun _ => fun
  | [d1, d2] => { results := [.lit (.bool true)], args := [d1, d2] }
  | _ => none }
def fnExactPercentsOfRow : OpenClaim := { program := "ytgpjjgfechjbfaa", sum := "9948376532d998531c9de64f1a7183954f4faa21ca27edfbf3344cb4ad0e6a3a", func := "loop.example/g01129/laws.FnExactPercentsOf", spec := "fnExactPercentsOf", unfollowed := true, recurses := true, apart := false }
def FnExactPercentsOfSaid : Prop := fnExactPercentsOfRow.holds Try.pinned (OpenSpec.ofChange fnExactPercentsOfSpec)

/-- ITS FALSE NEIGHBOUR: 'it returns false'. Refute it at one input. -/
def fnExactPercentsOfWrong : ChangeSpec := { name := "fnExactPercentsOf", fn := fun _ => fun
  | [d1, d2] => { results := [.lit (.bool false)], args := [d1, d2] }
  | _ => none }
def FnExactPercentsOfWrongFalsely : Prop := fnExactPercentsOfRow.holds Try.pinned (OpenSpec.ofChange fnExactPercentsOfWrong)

/- THE SECOND FORM. 'bulk': how many values and letters a reading holds, each counted each time it is reached (what is shared counts as often as it is met; a slice's spare places count too). A statement '..UptoSaid' is the law's where the arguments, and the package variables that the reading takes, are together of bulk at most 1048576: NARROWER than '..Said'. Prove '..Said' where nothing that the law and all that it calls make is longer than what came in: it says more and counts as full. Else prove '..UptoSaid'. A law counts once. -/
mutual
def uptoBulk {H : Type} : DataW H → Nat
  | .lit (.string bytes) => bytes.length + 1
  | .lit _ => 1
  | .nil => 1
  | .ptr d => uptoBulk d + 1
  | .slice elems spare => uptoBulkAll elems + uptoBulkAll spare + 1
  | .agg parts => uptoBulkAll parts + 1
  | .iface _ d => uptoBulk d + 1
  | .map entries => uptoBulkEntries entries + 1
  | .held _ => 1
def uptoBulkAll {H : Type} : List (DataW H) → Nat
  | [] => 0
  | d :: r => uptoBulk d + uptoBulkAll r
def uptoBulkEntries {H : Type} : List (Lit × DataW H) → Nat
  | [] => 0
  | x :: r => uptoBulkEntry x + uptoBulkEntries r
def uptoBulkEntry {H : Type} : Lit × DataW H → Nat
  | (.string bytes, d) => bytes.length + uptoBulk d + 1
  | (_, d) => uptoBulk d + 1
 end
def uptoSmall : (H : Type) → List (DataW H) → Bool := fun _ ds => decide (uptoBulkAll ds ≤ 1048576)
def OpenSpec.upto (s : _root_.Go.ChangeSpec) : _root_.Go.OpenSpec := { _root_.Go.OpenSpec.ofChange s with cond := some uptoSmall }

/-- 'laws.FnLeastError', WHERE WHAT IT READS IS OF BULK AT MOST 1048576: true; the input reads as it did. -/
def fnLeastErrorUptoRow : OpenClaim := { program := "ytgpjjgfechjbfaa", sum := "9948376532d998531c9de64f1a7183954f4faa21ca27edfbf3344cb4ad0e6a3a", func := "loop.example/g01129/laws.FnLeastError", spec := "fnLeastError", unfollowed := true, recurses := true, apart := false, narrowed := true }
def FnLeastErrorUptoSaid : Prop := fnLeastErrorUptoRow.holds Try.pinned (OpenSpec.upto fnLeastErrorSpec)

/-- 'laws.FnCountedBest', WHERE WHAT IT READS IS OF BULK AT MOST 1048576: true; the input reads as it did. -/
def fnCountedBestUptoRow : OpenClaim := { program := "ytgpjjgfechjbfaa", sum := "9948376532d998531c9de64f1a7183954f4faa21ca27edfbf3344cb4ad0e6a3a", func := "loop.example/g01129/laws.FnCountedBest", spec := "fnCountedBest", unfollowed := true, recurses := true, apart := false, narrowed := true }
def FnCountedBestUptoSaid : Prop := fnCountedBestUptoRow.holds Try.pinned (OpenSpec.upto fnCountedBestSpec)

/-- 'laws.FnGrouped', WHERE WHAT IT READS IS OF BULK AT MOST 1048576: true; the input reads as it did. -/
def fnGroupedUptoRow : OpenClaim := { program := "ytgpjjgfechjbfaa", sum := "9948376532d998531c9de64f1a7183954f4faa21ca27edfbf3344cb4ad0e6a3a", func := "loop.example/g01129/laws.FnGrouped", spec := "fnGrouped", inPlace := ["internal/reflectlite.ValueOf", "internal/reflectlite.Swapper", "(internal/reflectlite.Value).Len"], unfollowed := true, recurses := true, apart := false, narrowed := true }
def FnGroupedUptoSaid : Prop := fnGroupedUptoRow.holds Try.pinned (OpenSpec.upto fnGroupedSpec)

/-- 'laws.FnPercents', WHERE WHAT IT READS IS OF BULK AT MOST 1048576: true; the input reads as it did. -/
def fnPercentsUptoRow : OpenClaim := { program := "ytgpjjgfechjbfaa", sum := "9948376532d998531c9de64f1a7183954f4faa21ca27edfbf3344cb4ad0e6a3a", func := "loop.example/g01129/laws.FnPercents", spec := "fnPercents", unfollowed := true, recurses := true, apart := false, narrowed := true }
def FnPercentsUptoSaid : Prop := fnPercentsUptoRow.holds Try.pinned (OpenSpec.upto fnPercentsSpec)

/-- 'laws.FnExactErrorOf', WHERE WHAT IT READS IS OF BULK AT MOST 1048576: true; the input reads as it did. -/
def fnExactErrorOfUptoRow : OpenClaim := { program := "ytgpjjgfechjbfaa", sum := "9948376532d998531c9de64f1a7183954f4faa21ca27edfbf3344cb4ad0e6a3a", func := "loop.example/g01129/laws.FnExactErrorOf", spec := "fnExactErrorOf", unfollowed := true, recurses := true, apart := false, narrowed := true }
def FnExactErrorOfUptoSaid : Prop := fnExactErrorOfUptoRow.holds Try.pinned (OpenSpec.upto fnExactErrorOfSpec)

/-- 'laws.FnExactSumBounds', WHERE WHAT IT READS IS OF BULK AT MOST 1048576: true; the input reads as it did. -/
def fnExactSumBoundsUptoRow : OpenClaim := { program := "ytgpjjgfechjbfaa", sum := "9948376532d998531c9de64f1a7183954f4faa21ca27edfbf3344cb4ad0e6a3a", func := "loop.example/g01129/laws.FnExactSumBounds", spec := "fnExactSumBounds", unfollowed := true, recurses := true, apart := false, narrowed := true }
def FnExactSumBoundsUptoSaid : Prop := fnExactSumBoundsUptoRow.holds Try.pinned (OpenSpec.upto fnExactSumBoundsSpec)

/-- 'laws.FnExactBestRounding', WHERE WHAT IT READS IS OF BULK AT MOST 1048576: true; the input reads as it did. -/
def fnExactBestRoundingUptoRow : OpenClaim := { program := "ytgpjjgfechjbfaa", sum := "9948376532d998531c9de64f1a7183954f4faa21ca27edfbf3344cb4ad0e6a3a", func := "loop.example/g01129/laws.FnExactBestRounding", spec := "fnExactBestRounding", unfollowed := true, recurses := true, apart := false, narrowed := true }
def FnExactBestRoundingUptoSaid : Prop := fnExactBestRoundingUptoRow.holds Try.pinned (OpenSpec.upto fnExactBestRoundingSpec)

/-- 'laws.FnExactCountBest', WHERE WHAT IT READS IS OF BULK AT MOST 1048576: true; the input reads as it did. -/
def fnExactCountBestUptoRow : OpenClaim := { program := "ytgpjjgfechjbfaa", sum := "9948376532d998531c9de64f1a7183954f4faa21ca27edfbf3344cb4ad0e6a3a", func := "loop.example/g01129/laws.FnExactCountBest", spec := "fnExactCountBest", unfollowed := true, recurses := true, apart := false, narrowed := true }
def FnExactCountBestUptoSaid : Prop := fnExactCountBestUptoRow.holds Try.pinned (OpenSpec.upto fnExactCountBestSpec)

/-- 'laws.FnExactIsLaminar', WHERE WHAT IT READS IS OF BULK AT MOST 1048576: true; the input reads as it did. -/
def fnExactIsLaminarUptoRow : OpenClaim := { program := "ytgpjjgfechjbfaa", sum := "9948376532d998531c9de64f1a7183954f4faa21ca27edfbf3344cb4ad0e6a3a", func := "loop.example/g01129/laws.FnExactIsLaminar", spec := "fnExactIsLaminar", apart := false, narrowed := true }
def FnExactIsLaminarUptoSaid : Prop := fnExactIsLaminarUptoRow.holds Try.pinned (OpenSpec.upto fnExactIsLaminarSpec)

/-- 'laws.FnExactIsGroupRounding', WHERE WHAT IT READS IS OF BULK AT MOST 1048576: true; the input reads as it did. -/
def fnExactIsGroupRoundingUptoRow : OpenClaim := { program := "ytgpjjgfechjbfaa", sum := "9948376532d998531c9de64f1a7183954f4faa21ca27edfbf3344cb4ad0e6a3a", func := "loop.example/g01129/laws.FnExactIsGroupRounding", spec := "fnExactIsGroupRounding", apart := false, narrowed := true }
def FnExactIsGroupRoundingUptoSaid : Prop := fnExactIsGroupRoundingUptoRow.holds Try.pinned (OpenSpec.upto fnExactIsGroupRoundingSpec)

/-- 'laws.FnExactGroupRounding', WHERE WHAT IT READS IS OF BULK AT MOST 1048576: true; the input reads as it did. -/
def fnExactGroupRoundingUptoRow : OpenClaim := { program := "ytgpjjgfechjbfaa", sum := "9948376532d998531c9de64f1a7183954f4faa21ca27edfbf3344cb4ad0e6a3a", func := "loop.example/g01129/laws.FnExactGroupRounding", spec := "fnExactGroupRounding", inPlace := ["internal/reflectlite.ValueOf", "internal/reflectlite.Swapper", "(internal/reflectlite.Value).Len"], unfollowed := true, recurses := true, apart := false, narrowed := true }
def FnExactGroupRoundingUptoSaid : Prop := fnExactGroupRoundingUptoRow.holds Try.pinned (OpenSpec.upto fnExactGroupRoundingSpec)

/-- 'laws.FnExactGroupSums', WHERE WHAT IT READS IS OF BULK AT MOST 1048576: true; the input reads as it did. -/
def fnExactGroupSumsUptoRow : OpenClaim := { program := "ytgpjjgfechjbfaa", sum := "9948376532d998531c9de64f1a7183954f4faa21ca27edfbf3344cb4ad0e6a3a", func := "loop.example/g01129/laws.FnExactGroupSums", spec := "fnExactGroupSums", apart := false, narrowed := true }
def FnExactGroupSumsUptoSaid : Prop := fnExactGroupSumsUptoRow.holds Try.pinned (OpenSpec.upto fnExactGroupSumsSpec)

/-- 'laws.FnExactPercentsOf', WHERE WHAT IT READS IS OF BULK AT MOST 1048576: true; the input reads as it did. -/
def fnExactPercentsOfUptoRow : OpenClaim := { program := "ytgpjjgfechjbfaa", sum := "9948376532d998531c9de64f1a7183954f4faa21ca27edfbf3344cb4ad0e6a3a", func := "loop.example/g01129/laws.FnExactPercentsOf", spec := "fnExactPercentsOf", unfollowed := true, recurses := true, apart := false, narrowed := true }
def FnExactPercentsOfUptoSaid : Prop := fnExactPercentsOfUptoRow.holds Try.pinned (OpenSpec.upto fnExactPercentsOfSpec)

end Rows
end Go.Proofs.Ytgpjjgfechjbfaa
