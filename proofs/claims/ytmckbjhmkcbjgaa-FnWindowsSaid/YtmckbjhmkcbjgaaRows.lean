/-
  No cell of these rows narrows 'for every input' (looked for: loops, veiled, ifaces, maps, wideKeys, modest, calm, conditions, laid).
  DERIVED. THE GIVEN ROWS OF THIS SEAT. 12 by the template 'for every input the law returns true; each argument reads behind the call as it read before'; 0 by the template 'total and deterministic' (their statements: YtmckbjhmkcbjgaaTotals.lean).
  GIVEN WITH THE SEED: the statements are not yours to turn. If you find one false, say at which input.
  Laid BY PROGRAM, IN A SANDBOX (cutbox-rows.mjs): the forced cells as the released guide's own fill.sh prints them over the translation 812b99a34d902f75… (all of the seat's roots in one cut). By AI agents, Wed Nov 11 2026. No macro, syntax, notation, axiom, sorry.
-/
import Derived.Test.YtmckbjhmkcbjgaaChecked
import GoSem.Claim
import GoSem.ClaimJoined
import GoSem.ClaimMapViews
import Derived.JoinedTies
import Derived.KernelRfl
namespace Go.Proofs.Ytmckbjhmkcbjgaa
/- THE CELL 'sum', in the pinned program and in every row, IS THE sha256 OF THE DUMP (.gsa) THAT YtmckbjhmkcbjgaaProg.lean LOADS. Nothing in Lean hashes anything: it is a label: what it is worth is what the hold of that sum in a sandbox is worth. -/
noncomputable def Try.pinned : Pinned := { name := "ytmckbjhmkcbjgaa", sum := "812b99a34d902f7522ec0f54c981c22c6fcb9aa9f30ddc3c0c4746945be1e71a", checked := Try.checked }
namespace Rows
def none {H : Type} : Left H := { results := [], args := [] }

/-- 'laws.FnLeastSquares': WHATEVER THE INPUT: true; the input reads as it did. -/
def fnLeastSquaresSpec : ChangeSpec := { name := "fnLeastSquares", fn := fun _ => fun
  | [d1, d2] => { results := [.lit (.bool true)], args := [d1, d2] }
  | _ => none }
def fnLeastSquaresRow : OpenClaim := { program := "ytmckbjhmkcbjgaa", sum := "812b99a34d902f7522ec0f54c981c22c6fcb9aa9f30ddc3c0c4746945be1e71a", func := "loop.example/g01129/laws.FnLeastSquares", spec := "fnLeastSquares", unfollowed := true, recurses := true, plainKeys := false, apart := false }
def FnLeastSquaresSaid : Prop := fnLeastSquaresRow.holds Try.pinned (OpenSpec.ofChange fnLeastSquaresSpec)

/-- ITS FALSE NEIGHBOUR: 'it returns false'. Refute it at one input. -/
def fnLeastSquaresWrong : ChangeSpec := { name := "fnLeastSquares", fn := fun _ => fun
  | [d1, d2] => { results := [.lit (.bool false)], args := [d1, d2] }
  | _ => none }
def FnLeastSquaresWrongFalsely : Prop := fnLeastSquaresRow.holds Try.pinned (OpenSpec.ofChange fnLeastSquaresWrong)

/-- 'laws.FnWindows': WHATEVER THE INPUT: true; the input reads as it did. -/
def fnWindowsSpec : ChangeSpec := { name := "fnWindows", fn := fun _ => fun
  | [d1, d2] => { results := [.lit (.bool true)], args := [d1, d2] }
  | _ => none }
def fnWindowsRow : OpenClaim := { program := "ytmckbjhmkcbjgaa", sum := "812b99a34d902f7522ec0f54c981c22c6fcb9aa9f30ddc3c0c4746945be1e71a", func := "loop.example/g01129/laws.FnWindows", spec := "fnWindows", unfollowed := true, recurses := true, plainKeys := false, apart := false }
def FnWindowsSaid : Prop := fnWindowsRow.holds Try.pinned (OpenSpec.ofChange fnWindowsSpec)

/-- ITS FALSE NEIGHBOUR: 'it returns false'. Refute it at one input. -/
def fnWindowsWrong : ChangeSpec := { name := "fnWindows", fn := fun _ => fun
  | [d1, d2] => { results := [.lit (.bool false)], args := [d1, d2] }
  | _ => none }
def FnWindowsWrongFalsely : Prop := fnWindowsRow.holds Try.pinned (OpenSpec.ofChange fnWindowsWrong)

/-- 'laws.FnExactValidDemands': WHATEVER THE INPUT: true; the input reads as it did. -/
def fnExactValidDemandsSpec : ChangeSpec := { name := "fnExactValidDemands", fn := fun _ => fun
  | [d] => { results := [.lit (.bool true)], args := [d] }
  | _ => none }
def fnExactValidDemandsRow : OpenClaim := { program := "ytmckbjhmkcbjgaa", sum := "812b99a34d902f7522ec0f54c981c22c6fcb9aa9f30ddc3c0c4746945be1e71a", func := "loop.example/g01129/laws.FnExactValidDemands", spec := "fnExactValidDemands", plainKeys := false, apart := false }
def FnExactValidDemandsSaid : Prop := fnExactValidDemandsRow.holds Try.pinned (OpenSpec.ofChange fnExactValidDemandsSpec)

/-- ITS FALSE NEIGHBOUR: 'it returns false'. Refute it at one input. -/
def fnExactValidDemandsWrong : ChangeSpec := { name := "fnExactValidDemands", fn := fun _ => fun
  | [d] => { results := [.lit (.bool false)], args := [d] }
  | _ => none }
def FnExactValidDemandsWrongFalsely : Prop := fnExactValidDemandsRow.holds Try.pinned (OpenSpec.ofChange fnExactValidDemandsWrong)

/-- 'laws.FnExactIsSequence': WHATEVER THE INPUT: true; the input reads as it did. -/
def fnExactIsSequenceSpec : ChangeSpec := { name := "fnExactIsSequence", fn := fun _ => fun
  | [d1, d2] => { results := [.lit (.bool true)], args := [d1, d2] }
  | _ => none }
def fnExactIsSequenceRow : OpenClaim := { program := "ytmckbjhmkcbjgaa", sum := "812b99a34d902f7522ec0f54c981c22c6fcb9aa9f30ddc3c0c4746945be1e71a", func := "loop.example/g01129/laws.FnExactIsSequence", spec := "fnExactIsSequence", plainKeys := false, apart := false }
def FnExactIsSequenceSaid : Prop := fnExactIsSequenceRow.holds Try.pinned (OpenSpec.ofChange fnExactIsSequenceSpec)

/-- ITS FALSE NEIGHBOUR: 'it returns false'. Refute it at one input. -/
def fnExactIsSequenceWrong : ChangeSpec := { name := "fnExactIsSequence", fn := fun _ => fun
  | [d1, d2] => { results := [.lit (.bool false)], args := [d1, d2] }
  | _ => none }
def FnExactIsSequenceWrongFalsely : Prop := fnExactIsSequenceRow.holds Try.pinned (OpenSpec.ofChange fnExactIsSequenceWrong)

/-- 'laws.FnExactDeviationsOf': WHATEVER THE INPUT: true; the input reads as it did. -/
def fnExactDeviationsOfSpec : ChangeSpec := { name := "fnExactDeviationsOf", fn := fun _ => fun
  | [d1, d2] => { results := [.lit (.bool true)], args := [d1, d2] }
  | _ => none }
def fnExactDeviationsOfRow : OpenClaim := { program := "ytmckbjhmkcbjgaa", sum := "812b99a34d902f7522ec0f54c981c22c6fcb9aa9f30ddc3c0c4746945be1e71a", func := "loop.example/g01129/laws.FnExactDeviationsOf", spec := "fnExactDeviationsOf", plainKeys := false, apart := false }
def FnExactDeviationsOfSaid : Prop := fnExactDeviationsOfRow.holds Try.pinned (OpenSpec.ofChange fnExactDeviationsOfSpec)

/-- ITS FALSE NEIGHBOUR: 'it returns false'. Refute it at one input. -/
def fnExactDeviationsOfWrong : ChangeSpec := { name := "fnExactDeviationsOf", fn := fun _ => fun
  | [d1, d2] => { results := [.lit (.bool false)], args := [d1, d2] }
  | _ => none }
def FnExactDeviationsOfWrongFalsely : Prop := fnExactDeviationsOfRow.holds Try.pinned (OpenSpec.ofChange fnExactDeviationsOfWrong)

/-- 'laws.FnExactGreatestDeviation': WHATEVER THE INPUT: true; the input reads as it did. -/
def fnExactGreatestDeviationSpec : ChangeSpec := { name := "fnExactGreatestDeviation", fn := fun _ => fun
  | [d1, d2] => { results := [.lit (.bool true)], args := [d1, d2] }
  | _ => none }
def fnExactGreatestDeviationRow : OpenClaim := { program := "ytmckbjhmkcbjgaa", sum := "812b99a34d902f7522ec0f54c981c22c6fcb9aa9f30ddc3c0c4746945be1e71a", func := "loop.example/g01129/laws.FnExactGreatestDeviation", spec := "fnExactGreatestDeviation", unfollowed := true, recurses := true, plainKeys := false, apart := false }
def FnExactGreatestDeviationSaid : Prop := fnExactGreatestDeviationRow.holds Try.pinned (OpenSpec.ofChange fnExactGreatestDeviationSpec)

/-- ITS FALSE NEIGHBOUR: 'it returns false'. Refute it at one input. -/
def fnExactGreatestDeviationWrong : ChangeSpec := { name := "fnExactGreatestDeviation", fn := fun _ => fun
  | [d1, d2] => { results := [.lit (.bool false)], args := [d1, d2] }
  | _ => none }
def FnExactGreatestDeviationWrongFalsely : Prop := fnExactGreatestDeviationRow.holds Try.pinned (OpenSpec.ofChange fnExactGreatestDeviationWrong)

/-- 'laws.FnExactSquareDeviation': WHATEVER THE INPUT: true; the input reads as it did. -/
def fnExactSquareDeviationSpec : ChangeSpec := { name := "fnExactSquareDeviation", fn := fun _ => fun
  | [d1, d2] => { results := [.lit (.bool true)], args := [d1, d2] }
  | _ => none }
def fnExactSquareDeviationRow : OpenClaim := { program := "ytmckbjhmkcbjgaa", sum := "812b99a34d902f7522ec0f54c981c22c6fcb9aa9f30ddc3c0c4746945be1e71a", func := "loop.example/g01129/laws.FnExactSquareDeviation", spec := "fnExactSquareDeviation", unfollowed := true, recurses := true, plainKeys := false, apart := false }
def FnExactSquareDeviationSaid : Prop := fnExactSquareDeviationRow.holds Try.pinned (OpenSpec.ofChange fnExactSquareDeviationSpec)

/-- ITS FALSE NEIGHBOUR: 'it returns false'. Refute it at one input. -/
def fnExactSquareDeviationWrong : ChangeSpec := { name := "fnExactSquareDeviation", fn := fun _ => fun
  | [d1, d2] => { results := [.lit (.bool false)], args := [d1, d2] }
  | _ => none }
def FnExactSquareDeviationWrongFalsely : Prop := fnExactSquareDeviationRow.holds Try.pinned (OpenSpec.ofChange fnExactSquareDeviationWrong)

/-- 'laws.FnExactBestSequence': WHATEVER THE INPUT: true; the input reads as it did. -/
def fnExactBestSequenceSpec : ChangeSpec := { name := "fnExactBestSequence", fn := fun _ => fun
  | [d] => { results := [.lit (.bool true)], args := [d] }
  | _ => none }
def fnExactBestSequenceRow : OpenClaim := { program := "ytmckbjhmkcbjgaa", sum := "812b99a34d902f7522ec0f54c981c22c6fcb9aa9f30ddc3c0c4746945be1e71a", func := "loop.example/g01129/laws.FnExactBestSequence", spec := "fnExactBestSequence", unfollowed := true, recurses := true, plainKeys := false, apart := false }
def FnExactBestSequenceSaid : Prop := fnExactBestSequenceRow.holds Try.pinned (OpenSpec.ofChange fnExactBestSequenceSpec)

/-- ITS FALSE NEIGHBOUR: 'it returns false'. Refute it at one input. -/
def fnExactBestSequenceWrong : ChangeSpec := { name := "fnExactBestSequence", fn := fun _ => fun
  | [d] => { results := [.lit (.bool false)], args := [d] }
  | _ => none }
def FnExactBestSequenceWrongFalsely : Prop := fnExactBestSequenceRow.holds Try.pinned (OpenSpec.ofChange fnExactBestSequenceWrong)

/-- 'laws.FnExactLeastSquares': WHATEVER THE INPUT: true; the input reads as it did. -/
def fnExactLeastSquaresSpec : ChangeSpec := { name := "fnExactLeastSquares", fn := fun _ => fun
  | [d] => { results := [.lit (.bool true)], args := [d] }
  | _ => none }
def fnExactLeastSquaresRow : OpenClaim := { program := "ytmckbjhmkcbjgaa", sum := "812b99a34d902f7522ec0f54c981c22c6fcb9aa9f30ddc3c0c4746945be1e71a", func := "loop.example/g01129/laws.FnExactLeastSquares", spec := "fnExactLeastSquares", unfollowed := true, recurses := true, plainKeys := false, apart := false }
def FnExactLeastSquaresSaid : Prop := fnExactLeastSquaresRow.holds Try.pinned (OpenSpec.ofChange fnExactLeastSquaresSpec)

/-- ITS FALSE NEIGHBOUR: 'it returns false'. Refute it at one input. -/
def fnExactLeastSquaresWrong : ChangeSpec := { name := "fnExactLeastSquares", fn := fun _ => fun
  | [d] => { results := [.lit (.bool false)], args := [d] }
  | _ => none }
def FnExactLeastSquaresWrongFalsely : Prop := fnExactLeastSquaresRow.holds Try.pinned (OpenSpec.ofChange fnExactLeastSquaresWrong)

/-- 'laws.FnExactNeedySequence': WHATEVER THE INPUT: true; the input reads as it did. -/
def fnExactNeedySequenceSpec : ChangeSpec := { name := "fnExactNeedySequence", fn := fun _ => fun
  | [d] => { results := [.lit (.bool true)], args := [d] }
  | _ => none }
def fnExactNeedySequenceRow : OpenClaim := { program := "ytmckbjhmkcbjgaa", sum := "812b99a34d902f7522ec0f54c981c22c6fcb9aa9f30ddc3c0c4746945be1e71a", func := "loop.example/g01129/laws.FnExactNeedySequence", spec := "fnExactNeedySequence", unfollowed := true, recurses := true, plainKeys := false, apart := false }
def FnExactNeedySequenceSaid : Prop := fnExactNeedySequenceRow.holds Try.pinned (OpenSpec.ofChange fnExactNeedySequenceSpec)

/-- ITS FALSE NEIGHBOUR: 'it returns false'. Refute it at one input. -/
def fnExactNeedySequenceWrong : ChangeSpec := { name := "fnExactNeedySequence", fn := fun _ => fun
  | [d] => { results := [.lit (.bool false)], args := [d] }
  | _ => none }
def FnExactNeedySequenceWrongFalsely : Prop := fnExactNeedySequenceRow.holds Try.pinned (OpenSpec.ofChange fnExactNeedySequenceWrong)

/-- 'laws.FnExactWindowsOf': WHATEVER THE INPUT: true; the input reads as it did. -/
def fnExactWindowsOfSpec : ChangeSpec := { name := "fnExactWindowsOf", fn := fun _ => fun
  | [d1, d2] => { results := [.lit (.bool true)], args := [d1, d2] }
  | _ => none }
def fnExactWindowsOfRow : OpenClaim := { program := "ytmckbjhmkcbjgaa", sum := "812b99a34d902f7522ec0f54c981c22c6fcb9aa9f30ddc3c0c4746945be1e71a", func := "loop.example/g01129/laws.FnExactWindowsOf", spec := "fnExactWindowsOf", unfollowed := true, recurses := true, plainKeys := false, apart := false }
def FnExactWindowsOfSaid : Prop := fnExactWindowsOfRow.holds Try.pinned (OpenSpec.ofChange fnExactWindowsOfSpec)

/-- ITS FALSE NEIGHBOUR: 'it returns false'. Refute it at one input. -/
def fnExactWindowsOfWrong : ChangeSpec := { name := "fnExactWindowsOf", fn := fun _ => fun
  | [d1, d2] => { results := [.lit (.bool false)], args := [d1, d2] }
  | _ => none }
def FnExactWindowsOfWrongFalsely : Prop := fnExactWindowsOfRow.holds Try.pinned (OpenSpec.ofChange fnExactWindowsOfWrong)

/-- 'laws.FnExactErrorOf': WHATEVER THE INPUT: true; the input reads as it did. -/
def fnExactErrorOfSpec : ChangeSpec := { name := "fnExactErrorOf", fn := fun _ => fun
  | [d1, d2, d3] => { results := [.lit (.bool true)], args := [d1, d2, d3] }
  | _ => none }
def fnExactErrorOfRow : OpenClaim := { program := "ytmckbjhmkcbjgaa", sum := "812b99a34d902f7522ec0f54c981c22c6fcb9aa9f30ddc3c0c4746945be1e71a", func := "loop.example/g01129/laws.FnExactErrorOf", spec := "fnExactErrorOf", unfollowed := true, recurses := true, plainKeys := false, apart := false }
def FnExactErrorOfSaid : Prop := fnExactErrorOfRow.holds Try.pinned (OpenSpec.ofChange fnExactErrorOfSpec)

/-- ITS FALSE NEIGHBOUR: 'it returns false'. Refute it at one input. -/
def fnExactErrorOfWrong : ChangeSpec := { name := "fnExactErrorOf", fn := fun _ => fun
  | [d1, d2, d3] => { results := [.lit (.bool false)], args := [d1, d2, d3] }
  | _ => none }
def FnExactErrorOfWrongFalsely : Prop := fnExactErrorOfRow.holds Try.pinned (OpenSpec.ofChange fnExactErrorOfWrong)

/- THE SECOND FORM. 'bulk': how many values and letters a reading holds, each counted each time it is reached (what is shared counts as often as it is met; a slice's spare places count too). A statement '..UptoSaid' is the law's where the arguments, and the package variables that the reading takes, are together of bulk at most 1048576: NARROWER than '..Said'. Prove '..Said' where nothing that the law and all that it calls make is longer than what came in: it says more and counts as full. Else prove '..UptoSaid'. A law counts once. -/
mutual
def uptoBulk {H : Type} : DataW H → Nat
  | .lit (.string bytes) => bytes.length + 1
  | .lit _ => 1
  | .nil => 1
  | .ptr d => uptoBulk d + 1
  | .slice elems spare => uptoBulkAll elems + uptoBulkAll spare + 1
  | .agg parts => uptoBulkAll parts + 1
  | .iface _ d => uptoBulk d + 1
  | .map entries => uptoBulkEntries entries + 1
  | .held _ => 1
def uptoBulkAll {H : Type} : List (DataW H) → Nat
  | [] => 0
  | d :: r => uptoBulk d + uptoBulkAll r
def uptoBulkEntries {H : Type} : List (Lit × DataW H) → Nat
  | [] => 0
  | x :: r => uptoBulkEntry x + uptoBulkEntries r
def uptoBulkEntry {H : Type} : Lit × DataW H → Nat
  | (.string bytes, d) => bytes.length + uptoBulk d + 1
  | (_, d) => uptoBulk d + 1
 end
def uptoSmall : (H : Type) → List (DataW H) → Bool := fun _ ds => decide (uptoBulkAll ds ≤ 1048576)
def OpenSpec.upto (s : _root_.Go.ChangeSpec) : _root_.Go.OpenSpec := { _root_.Go.OpenSpec.ofChange s with cond := some uptoSmall }

/-- 'laws.FnLeastSquares', WHERE WHAT IT READS IS OF BULK AT MOST 1048576: true; the input reads as it did. -/
def fnLeastSquaresUptoRow : OpenClaim := { program := "ytmckbjhmkcbjgaa", sum := "812b99a34d902f7522ec0f54c981c22c6fcb9aa9f30ddc3c0c4746945be1e71a", func := "loop.example/g01129/laws.FnLeastSquares", spec := "fnLeastSquares", unfollowed := true, recurses := true, plainKeys := false, apart := false, narrowed := true }
def FnLeastSquaresUptoSaid : Prop := fnLeastSquaresUptoRow.holds Try.pinned (OpenSpec.upto fnLeastSquaresSpec)

/-- 'laws.FnWindows', WHERE WHAT IT READS IS OF BULK AT MOST 1048576: true; the input reads as it did. -/
def fnWindowsUptoRow : OpenClaim := { program := "ytmckbjhmkcbjgaa", sum := "812b99a34d902f7522ec0f54c981c22c6fcb9aa9f30ddc3c0c4746945be1e71a", func := "loop.example/g01129/laws.FnWindows", spec := "fnWindows", unfollowed := true, recurses := true, plainKeys := false, apart := false, narrowed := true }
def FnWindowsUptoSaid : Prop := fnWindowsUptoRow.holds Try.pinned (OpenSpec.upto fnWindowsSpec)

/-- 'laws.FnExactValidDemands', WHERE WHAT IT READS IS OF BULK AT MOST 1048576: true; the input reads as it did. -/
def fnExactValidDemandsUptoRow : OpenClaim := { program := "ytmckbjhmkcbjgaa", sum := "812b99a34d902f7522ec0f54c981c22c6fcb9aa9f30ddc3c0c4746945be1e71a", func := "loop.example/g01129/laws.FnExactValidDemands", spec := "fnExactValidDemands", plainKeys := false, apart := false, narrowed := true }
def FnExactValidDemandsUptoSaid : Prop := fnExactValidDemandsUptoRow.holds Try.pinned (OpenSpec.upto fnExactValidDemandsSpec)

/-- 'laws.FnExactIsSequence', WHERE WHAT IT READS IS OF BULK AT MOST 1048576: true; the input reads as it did. -/
def fnExactIsSequenceUptoRow : OpenClaim := { program := "ytmckbjhmkcbjgaa", sum := "812b99a34d902f7522ec0f54c981c22c6fcb9aa9f30ddc3c0c4746945be1e71a", func := "loop.example/g01129/laws.FnExactIsSequence", spec := "fnExactIsSequence", plainKeys := false, apart := false, narrowed := true }
def FnExactIsSequenceUptoSaid : Prop := fnExactIsSequenceUptoRow.holds Try.pinned (OpenSpec.upto fnExactIsSequenceSpec)

/-- 'laws.FnExactDeviationsOf', WHERE WHAT IT READS IS OF BULK AT MOST 1048576: true; the input reads as it did. -/
def fnExactDeviationsOfUptoRow : OpenClaim := { program := "ytmckbjhmkcbjgaa", sum := "812b99a34d902f7522ec0f54c981c22c6fcb9aa9f30ddc3c0c4746945be1e71a", func := "loop.example/g01129/laws.FnExactDeviationsOf", spec := "fnExactDeviationsOf", plainKeys := false, apart := false, narrowed := true }
def FnExactDeviationsOfUptoSaid : Prop := fnExactDeviationsOfUptoRow.holds Try.pinned (OpenSpec.upto fnExactDeviationsOfSpec)

/-- 'laws.FnExactGreatestDeviation', WHERE WHAT IT READS IS OF BULK AT MOST 1048576: true; the input reads as it did. -/
def fnExactGreatestDeviationUptoRow : OpenClaim := { program := "ytmckbjhmkcbjgaa", sum := "812b99a34d902f7522ec0f54c981c22c6fcb9aa9f30ddc3c0c4746945be1e71a", func := "loop.example/g01129/laws.FnExactGreatestDeviation", spec := "fnExactGreatestDeviation", unfollowed := true, recurses := true, plainKeys := false, apart := false, narrowed := true }
def FnExactGreatestDeviationUptoSaid : Prop := fnExactGreatestDeviationUptoRow.holds Try.pinned (OpenSpec.upto fnExactGreatestDeviationSpec)

/-- 'laws.FnExactSquareDeviation', WHERE WHAT IT READS IS OF BULK AT MOST 1048576: true; the input reads as it did. -/
def fnExactSquareDeviationUptoRow : OpenClaim := { program := "ytmckbjhmkcbjgaa", sum := "812b99a34d902f7522ec0f54c981c22c6fcb9aa9f30ddc3c0c4746945be1e71a", func := "loop.example/g01129/laws.FnExactSquareDeviation", spec := "fnExactSquareDeviation", unfollowed := true, recurses := true, plainKeys := false, apart := false, narrowed := true }
def FnExactSquareDeviationUptoSaid : Prop := fnExactSquareDeviationUptoRow.holds Try.pinned (OpenSpec.upto fnExactSquareDeviationSpec)

/-- 'laws.FnExactBestSequence', WHERE WHAT IT READS IS OF BULK AT MOST 1048576: true; the input reads as it did. -/
def fnExactBestSequenceUptoRow : OpenClaim := { program := "ytmckbjhmkcbjgaa", sum := "812b99a34d902f7522ec0f54c981c22c6fcb9aa9f30ddc3c0c4746945be1e71a", func := "loop.example/g01129/laws.FnExactBestSequence", spec := "fnExactBestSequence", unfollowed := true, recurses := true, plainKeys := false, apart := false, narrowed := true }
def FnExactBestSequenceUptoSaid : Prop := fnExactBestSequenceUptoRow.holds Try.pinned (OpenSpec.upto fnExactBestSequenceSpec)

/-- 'laws.FnExactLeastSquares', WHERE WHAT IT READS IS OF BULK AT MOST 1048576: true; the input reads as it did. -/
def fnExactLeastSquaresUptoRow : OpenClaim := { program := "ytmckbjhmkcbjgaa", sum := "812b99a34d902f7522ec0f54c981c22c6fcb9aa9f30ddc3c0c4746945be1e71a", func := "loop.example/g01129/laws.FnExactLeastSquares", spec := "fnExactLeastSquares", unfollowed := true, recurses := true, plainKeys := false, apart := false, narrowed := true }
def FnExactLeastSquaresUptoSaid : Prop := fnExactLeastSquaresUptoRow.holds Try.pinned (OpenSpec.upto fnExactLeastSquaresSpec)

/-- 'laws.FnExactNeedySequence', WHERE WHAT IT READS IS OF BULK AT MOST 1048576: true; the input reads as it did. -/
def fnExactNeedySequenceUptoRow : OpenClaim := { program := "ytmckbjhmkcbjgaa", sum := "812b99a34d902f7522ec0f54c981c22c6fcb9aa9f30ddc3c0c4746945be1e71a", func := "loop.example/g01129/laws.FnExactNeedySequence", spec := "fnExactNeedySequence", unfollowed := true, recurses := true, plainKeys := false, apart := false, narrowed := true }
def FnExactNeedySequenceUptoSaid : Prop := fnExactNeedySequenceUptoRow.holds Try.pinned (OpenSpec.upto fnExactNeedySequenceSpec)

/-- 'laws.FnExactWindowsOf', WHERE WHAT IT READS IS OF BULK AT MOST 1048576: true; the input reads as it did. -/
def fnExactWindowsOfUptoRow : OpenClaim := { program := "ytmckbjhmkcbjgaa", sum := "812b99a34d902f7522ec0f54c981c22c6fcb9aa9f30ddc3c0c4746945be1e71a", func := "loop.example/g01129/laws.FnExactWindowsOf", spec := "fnExactWindowsOf", unfollowed := true, recurses := true, plainKeys := false, apart := false, narrowed := true }
def FnExactWindowsOfUptoSaid : Prop := fnExactWindowsOfUptoRow.holds Try.pinned (OpenSpec.upto fnExactWindowsOfSpec)

/-- 'laws.FnExactErrorOf', WHERE WHAT IT READS IS OF BULK AT MOST 1048576: true; the input reads as it did. -/
def fnExactErrorOfUptoRow : OpenClaim := { program := "ytmckbjhmkcbjgaa", sum := "812b99a34d902f7522ec0f54c981c22c6fcb9aa9f30ddc3c0c4746945be1e71a", func := "loop.example/g01129/laws.FnExactErrorOf", spec := "fnExactErrorOf", unfollowed := true, recurses := true, plainKeys := false, apart := false, narrowed := true }
def FnExactErrorOfUptoSaid : Prop := fnExactErrorOfUptoRow.holds Try.pinned (OpenSpec.upto fnExactErrorOfSpec)

end Rows
end Go.Proofs.Ytmckbjhmkcbjgaa
