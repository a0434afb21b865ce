/-
  No cell of these rows narrows 'for every input' (looked for: loops, veiled, ifaces, maps, wideKeys, modest, calm, conditions, laid).
  DERIVED. THE GIVEN ROWS OF THIS SEAT. 9 by the template 'for every input the law returns true; each argument reads behind the call as it read before'; 0 by the template 'total and deterministic' (their statements: YtmddbhpmkpbnlaaTotals.lean).
  GIVEN WITH THE SEED: the statements are not yours to turn. If you find one false, say at which input.
  Laid BY PROGRAM, IN A SANDBOX (cutbox-rows.mjs): the forced cells as the released guide's own fill.sh prints them over the translation a2791d466710f861… (all of the seat's roots in one cut). By AI agents, Wed Nov 11 2026. No macro, syntax, notation, axiom, sorry.
-/
import Derived.Test.YtmddbhpmkpbnlaaChecked
import GoSem.Claim
import GoSem.ClaimJoined
import GoSem.ClaimMapViews
import Derived.JoinedTies
import Derived.KernelRfl
namespace Go.Proofs.Ytmddbhpmkpbnlaa
/- THE CELL 'sum', in the pinned program and in every row, IS THE sha256 OF THE DUMP (.gsa) THAT YtmddbhpmkpbnlaaProg.lean LOADS. Nothing in Lean hashes anything: it is a label: what it is worth is what the hold of that sum in a sandbox is worth. -/
noncomputable def Try.pinned : Pinned := { name := "ytmddbhpmkpbnlaa", sum := "a2791d466710f861a5b0a93befb3b01b2f2512904a4d7b28f6ec52a408fa1296", checked := Try.checked }
namespace Rows
def none {H : Type} : Left H := { results := [], args := [] }

/-- 'laws.FnDivided': WHATEVER THE INPUT: true; the input reads as it did. -/
def fnDividedSpec : ChangeSpec := { name := "fnDivided", fn := fun _ => fun
  | [d1, d2] => { results := [.lit (.bool true)], args := [d1, d2] }
  | _ => none }
def fnDividedRow : OpenClaim := { program := "ytmddbhpmkpbnlaa", sum := "a2791d466710f861a5b0a93befb3b01b2f2512904a4d7b28f6ec52a408fa1296", func := "loop.example/g01129/laws.FnDivided", spec := "fnDivided", unfollowed := true, recurses := true, apart := false }
def FnDividedSaid : Prop := fnDividedRow.holds Try.pinned (OpenSpec.ofChange fnDividedSpec)

/-- ITS FALSE NEIGHBOUR: 'it returns false'. Refute it at one input. -/
def fnDividedWrong : ChangeSpec := { name := "fnDivided", fn := fun _ => fun
  | [d1, d2] => { results := [.lit (.bool false)], args := [d1, d2] }
  | _ => none }
def FnDividedWrongFalsely : Prop := fnDividedRow.holds Try.pinned (OpenSpec.ofChange fnDividedWrong)

/-- 'laws.FnExactIsName': WHATEVER THE INPUT: true; the input reads as it did. -/
def fnExactIsNameSpec : ChangeSpec := { name := "fnExactIsName", fn := fun _ => fun
  | [d] => { results := [.lit (.bool true)], args := [d] }
  | _ => none }
def fnExactIsNameRow : OpenClaim := { program := "ytmddbhpmkpbnlaa", sum := "a2791d466710f861a5b0a93befb3b01b2f2512904a4d7b28f6ec52a408fa1296", func := "loop.example/g01129/laws.FnExactIsName", spec := "fnExactIsName", apart := false }
def FnExactIsNameSaid : Prop := fnExactIsNameRow.holds Try.pinned (OpenSpec.ofChange fnExactIsNameSpec)

/-- ITS FALSE NEIGHBOUR: 'it returns false'. Refute it at one input. -/
def fnExactIsNameWrong : ChangeSpec := { name := "fnExactIsName", fn := fun _ => fun
  | [d] => { results := [.lit (.bool false)], args := [d] }
  | _ => none }
def FnExactIsNameWrongFalsely : Prop := fnExactIsNameRow.holds Try.pinned (OpenSpec.ofChange fnExactIsNameWrong)

/-- 'laws.FnExactDivFloor': WHATEVER THE INPUT: true; the input reads as it did. -/
def fnExactDivFloorSpec : ChangeSpec := { name := "fnExactDivFloor", fn := fun _ => fun
  | [d1, d2] => { results := [.lit (.bool true)], args := [d1, d2] }
  | _ => none }
def fnExactDivFloorRow : OpenClaim := { program := "ytmddbhpmkpbnlaa", sum := "a2791d466710f861a5b0a93befb3b01b2f2512904a4d7b28f6ec52a408fa1296", func := "loop.example/g01129/laws.FnExactDivFloor", spec := "fnExactDivFloor", unfollowed := true, recurses := true, apart := false }
def FnExactDivFloorSaid : Prop := fnExactDivFloorRow.holds Try.pinned (OpenSpec.ofChange fnExactDivFloorSpec)

/-- ITS FALSE NEIGHBOUR: 'it returns false'. Refute it at one input. -/
def fnExactDivFloorWrong : ChangeSpec := { name := "fnExactDivFloor", fn := fun _ => fun
  | [d1, d2] => { results := [.lit (.bool false)], args := [d1, d2] }
  | _ => none }
def FnExactDivFloorWrongFalsely : Prop := fnExactDivFloorRow.holds Try.pinned (OpenSpec.ofChange fnExactDivFloorWrong)

/-- 'laws.FnExactDivCeiling': WHATEVER THE INPUT: true; the input reads as it did. -/
def fnExactDivCeilingSpec : ChangeSpec := { name := "fnExactDivCeiling", fn := fun _ => fun
  | [d1, d2] => { results := [.lit (.bool true)], args := [d1, d2] }
  | _ => none }
def fnExactDivCeilingRow : OpenClaim := { program := "ytmddbhpmkpbnlaa", sum := "a2791d466710f861a5b0a93befb3b01b2f2512904a4d7b28f6ec52a408fa1296", func := "loop.example/g01129/laws.FnExactDivCeiling", spec := "fnExactDivCeiling", unfollowed := true, recurses := true, apart := false }
def FnExactDivCeilingSaid : Prop := fnExactDivCeilingRow.holds Try.pinned (OpenSpec.ofChange fnExactDivCeilingSpec)

/-- ITS FALSE NEIGHBOUR: 'it returns false'. Refute it at one input. -/
def fnExactDivCeilingWrong : ChangeSpec := { name := "fnExactDivCeiling", fn := fun _ => fun
  | [d1, d2] => { results := [.lit (.bool false)], args := [d1, d2] }
  | _ => none }
def FnExactDivCeilingWrongFalsely : Prop := fnExactDivCeilingRow.holds Try.pinned (OpenSpec.ofChange fnExactDivCeilingWrong)

/-- 'laws.FnExactDivNearest': WHATEVER THE INPUT: true; the input reads as it did. -/
def fnExactDivNearestSpec : ChangeSpec := { name := "fnExactDivNearest", fn := fun _ => fun
  | [d1, d2] => { results := [.lit (.bool true)], args := [d1, d2] }
  | _ => none }
def fnExactDivNearestRow : OpenClaim := { program := "ytmddbhpmkpbnlaa", sum := "a2791d466710f861a5b0a93befb3b01b2f2512904a4d7b28f6ec52a408fa1296", func := "loop.example/g01129/laws.FnExactDivNearest", spec := "fnExactDivNearest", unfollowed := true, recurses := true, apart := false }
def FnExactDivNearestSaid : Prop := fnExactDivNearestRow.holds Try.pinned (OpenSpec.ofChange fnExactDivNearestSpec)

/-- ITS FALSE NEIGHBOUR: 'it returns false'. Refute it at one input. -/
def fnExactDivNearestWrong : ChangeSpec := { name := "fnExactDivNearest", fn := fun _ => fun
  | [d1, d2] => { results := [.lit (.bool false)], args := [d1, d2] }
  | _ => none }
def FnExactDivNearestWrongFalsely : Prop := fnExactDivNearestRow.holds Try.pinned (OpenSpec.ofChange fnExactDivNearestWrong)

/-- 'laws.FnExactCompareRatios': WHATEVER THE INPUT: true; the input reads as it did. -/
def fnExactCompareRatiosSpec : ChangeSpec := { name := "fnExactCompareRatios", fn := fun _ => fun
  | [d1, d2, d3, d4] => { results := [.lit (.bool true)], args := [d1, d2, d3, d4] }
  | _ => none }
def fnExactCompareRatiosRow : OpenClaim := { program := "ytmddbhpmkpbnlaa", sum := "a2791d466710f861a5b0a93befb3b01b2f2512904a4d7b28f6ec52a408fa1296", func := "loop.example/g01129/laws.FnExactCompareRatios", spec := "fnExactCompareRatios", apart := false }
def FnExactCompareRatiosSaid : Prop := fnExactCompareRatiosRow.holds Try.pinned (OpenSpec.ofChange fnExactCompareRatiosSpec)

/-- ITS FALSE NEIGHBOUR: 'it returns false'. Refute it at one input. -/
def fnExactCompareRatiosWrong : ChangeSpec := { name := "fnExactCompareRatios", fn := fun _ => fun
  | [d1, d2, d3, d4] => { results := [.lit (.bool false)], args := [d1, d2, d3, d4] }
  | _ => none }
def FnExactCompareRatiosWrongFalsely : Prop := fnExactCompareRatiosRow.holds Try.pinned (OpenSpec.ofChange fnExactCompareRatiosWrong)

/-- 'laws.FnExactValidValues': WHATEVER THE INPUT: true; the input reads as it did. -/
def fnExactValidValuesSpec : ChangeSpec := { name := "fnExactValidValues", fn := fun _ => fun
  | [d] => { results := [.lit (.bool true)], args := [d] }
  | _ => none }
def fnExactValidValuesRow : OpenClaim := { program := "ytmddbhpmkpbnlaa", sum := "a2791d466710f861a5b0a93befb3b01b2f2512904a4d7b28f6ec52a408fa1296", func := "loop.example/g01129/laws.FnExactValidValues", spec := "fnExactValidValues", apart := false }
def FnExactValidValuesSaid : Prop := fnExactValidValuesRow.holds Try.pinned (OpenSpec.ofChange fnExactValidValuesSpec)

/-- ITS FALSE NEIGHBOUR: 'it returns false'. Refute it at one input. -/
def fnExactValidValuesWrong : ChangeSpec := { name := "fnExactValidValues", fn := fun _ => fun
  | [d] => { results := [.lit (.bool false)], args := [d] }
  | _ => none }
def FnExactValidValuesWrongFalsely : Prop := fnExactValidValuesRow.holds Try.pinned (OpenSpec.ofChange fnExactValidValuesWrong)

/-- 'laws.FnExactFloorsOf': WHATEVER THE INPUT: true; the input reads as it did. -/
def fnExactFloorsOfSpec : ChangeSpec := { name := "fnExactFloorsOf", fn := fun _ => fun
  | [d] => { results := [.lit (.bool true)], args := [d] }
  | _ => none }
def fnExactFloorsOfRow : OpenClaim := { program := "ytmddbhpmkpbnlaa", sum := "a2791d466710f861a5b0a93befb3b01b2f2512904a4d7b28f6ec52a408fa1296", func := "loop.example/g01129/laws.FnExactFloorsOf", spec := "fnExactFloorsOf", unfollowed := true, recurses := true, apart := false }
def FnExactFloorsOfSaid : Prop := fnExactFloorsOfRow.holds Try.pinned (OpenSpec.ofChange fnExactFloorsOfSpec)

/-- ITS FALSE NEIGHBOUR: 'it returns false'. Refute it at one input. -/
def fnExactFloorsOfWrong : ChangeSpec := { name := "fnExactFloorsOf", fn := fun _ => fun
  | [d] => { results := [.lit (.bool false)], args := [d] }
  | _ => none }
def FnExactFloorsOfWrongFalsely : Prop := fnExactFloorsOfRow.holds Try.pinned (OpenSpec.ofChange fnExactFloorsOfWrong)

/-- 'laws.FnExactCeilingsOf': WHATEVER THE INPUT: true; the input reads as it did. -/
def fnExactCeilingsOfSpec : ChangeSpec := { name := "fnExactCeilingsOf", fn := fun _ => fun
  | [d] => { results := [.lit (.bool true)], args := [d] }
  | _ => none }
def fnExactCeilingsOfRow : OpenClaim := { program := "ytmddbhpmkpbnlaa", sum := "a2791d466710f861a5b0a93befb3b01b2f2512904a4d7b28f6ec52a408fa1296", func := "loop.example/g01129/laws.FnExactCeilingsOf", spec := "fnExactCeilingsOf", unfollowed := true, recurses := true, apart := false }
def FnExactCeilingsOfSaid : Prop := fnExactCeilingsOfRow.holds Try.pinned (OpenSpec.ofChange fnExactCeilingsOfSpec)

/-- ITS FALSE NEIGHBOUR: 'it returns false'. Refute it at one input. -/
def fnExactCeilingsOfWrong : ChangeSpec := { name := "fnExactCeilingsOf", fn := fun _ => fun
  | [d] => { results := [.lit (.bool false)], args := [d] }
  | _ => none }
def FnExactCeilingsOfWrongFalsely : Prop := fnExactCeilingsOfRow.holds Try.pinned (OpenSpec.ofChange fnExactCeilingsOfWrong)

/- THE SECOND FORM. 'bulk': how many values and letters a reading holds, each counted each time it is reached (what is shared counts as often as it is met; a slice's spare places count too). A statement '..UptoSaid' is the law's where the arguments, and the package variables that the reading takes, are together of bulk at most 1048576: NARROWER than '..Said'. Prove '..Said' where nothing that the law and all that it calls make is longer than what came in: it says more and counts as full. Else prove '..UptoSaid'. A law counts once. -/
mutual
def uptoBulk {H : Type} : DataW H → Nat
  | .lit (.string bytes) => bytes.length + 1
  | .lit _ => 1
  | .nil => 1
  | .ptr d => uptoBulk d + 1
  | .slice elems spare => uptoBulkAll elems + uptoBulkAll spare + 1
  | .agg parts => uptoBulkAll parts + 1
  | .iface _ d => uptoBulk d + 1
  | .map entries => uptoBulkEntries entries + 1
  | .held _ => 1
def uptoBulkAll {H : Type} : List (DataW H) → Nat
  | [] => 0
  | d :: r => uptoBulk d + uptoBulkAll r
def uptoBulkEntries {H : Type} : List (Lit × DataW H) → Nat
  | [] => 0
  | x :: r => uptoBulkEntry x + uptoBulkEntries r
def uptoBulkEntry {H : Type} : Lit × DataW H → Nat
  | (.string bytes, d) => bytes.length + uptoBulk d + 1
  | (_, d) => uptoBulk d + 1
 end
def uptoSmall : (H : Type) → List (DataW H) → Bool := fun _ ds => decide (uptoBulkAll ds ≤ 1048576)
def OpenSpec.upto (s : _root_.Go.ChangeSpec) : _root_.Go.OpenSpec := { _root_.Go.OpenSpec.ofChange s with cond := some uptoSmall }

/-- 'laws.FnDivided', WHERE WHAT IT READS IS OF BULK AT MOST 1048576: true; the input reads as it did. -/
def fnDividedUptoRow : OpenClaim := { program := "ytmddbhpmkpbnlaa", sum := "a2791d466710f861a5b0a93befb3b01b2f2512904a4d7b28f6ec52a408fa1296", func := "loop.example/g01129/laws.FnDivided", spec := "fnDivided", unfollowed := true, recurses := true, apart := false, narrowed := true }
def FnDividedUptoSaid : Prop := fnDividedUptoRow.holds Try.pinned (OpenSpec.upto fnDividedSpec)

/-- 'laws.FnExactIsName', WHERE WHAT IT READS IS OF BULK AT MOST 1048576: true; the input reads as it did. -/
def fnExactIsNameUptoRow : OpenClaim := { program := "ytmddbhpmkpbnlaa", sum := "a2791d466710f861a5b0a93befb3b01b2f2512904a4d7b28f6ec52a408fa1296", func := "loop.example/g01129/laws.FnExactIsName", spec := "fnExactIsName", apart := false, narrowed := true }
def FnExactIsNameUptoSaid : Prop := fnExactIsNameUptoRow.holds Try.pinned (OpenSpec.upto fnExactIsNameSpec)

/-- 'laws.FnExactDivFloor', WHERE WHAT IT READS IS OF BULK AT MOST 1048576: true; the input reads as it did. -/
def fnExactDivFloorUptoRow : OpenClaim := { program := "ytmddbhpmkpbnlaa", sum := "a2791d466710f861a5b0a93befb3b01b2f2512904a4d7b28f6ec52a408fa1296", func := "loop.example/g01129/laws.FnExactDivFloor", spec := "fnExactDivFloor", unfollowed := true, recurses := true, apart := false, narrowed := true }
def FnExactDivFloorUptoSaid : Prop := fnExactDivFloorUptoRow.holds Try.pinned (OpenSpec.upto fnExactDivFloorSpec)

/-- 'laws.FnExactDivCeiling', WHERE WHAT IT READS IS OF BULK AT MOST 1048576: true; the input reads as it did. -/
def fnExactDivCeilingUptoRow : OpenClaim := { program := "ytmddbhpmkpbnlaa", sum := "a2791d466710f861a5b0a93befb3b01b2f2512904a4d7b28f6ec52a408fa1296", func := "loop.example/g01129/laws.FnExactDivCeiling", spec := "fnExactDivCeiling", unfollowed := true, recurses := true, apart := false, narrowed := true }
def FnExactDivCeilingUptoSaid : Prop := fnExactDivCeilingUptoRow.holds Try.pinned (OpenSpec.upto fnExactDivCeilingSpec)

/-- 'laws.FnExactDivNearest', WHERE WHAT IT READS IS OF BULK AT MOST 1048576: true; the input reads as it did. -/
def fnExactDivNearestUptoRow : OpenClaim := { program := "ytmddbhpmkpbnlaa", sum := "a2791d466710f861a5b0a93befb3b01b2f2512904a4d7b28f6ec52a408fa1296", func := "loop.example/g01129/laws.FnExactDivNearest", spec := "fnExactDivNearest", unfollowed := true, recurses := true, apart := false, narrowed := true }
def FnExactDivNearestUptoSaid : Prop := fnExactDivNearestUptoRow.holds Try.pinned (OpenSpec.upto fnExactDivNearestSpec)

/-- 'laws.FnExactCompareRatios', WHERE WHAT IT READS IS OF BULK AT MOST 1048576: true; the input reads as it did. -/
def fnExactCompareRatiosUptoRow : OpenClaim := { program := "ytmddbhpmkpbnlaa", sum := "a2791d466710f861a5b0a93befb3b01b2f2512904a4d7b28f6ec52a408fa1296", func := "loop.example/g01129/laws.FnExactCompareRatios", spec := "fnExactCompareRatios", apart := false, narrowed := true }
def FnExactCompareRatiosUptoSaid : Prop := fnExactCompareRatiosUptoRow.holds Try.pinned (OpenSpec.upto fnExactCompareRatiosSpec)

/-- 'laws.FnExactValidValues', WHERE WHAT IT READS IS OF BULK AT MOST 1048576: true; the input reads as it did. -/
def fnExactValidValuesUptoRow : OpenClaim := { program := "ytmddbhpmkpbnlaa", sum := "a2791d466710f861a5b0a93befb3b01b2f2512904a4d7b28f6ec52a408fa1296", func := "loop.example/g01129/laws.FnExactValidValues", spec := "fnExactValidValues", apart := false, narrowed := true }
def FnExactValidValuesUptoSaid : Prop := fnExactValidValuesUptoRow.holds Try.pinned (OpenSpec.upto fnExactValidValuesSpec)

/-- 'laws.FnExactFloorsOf', WHERE WHAT IT READS IS OF BULK AT MOST 1048576: true; the input reads as it did. -/
def fnExactFloorsOfUptoRow : OpenClaim := { program := "ytmddbhpmkpbnlaa", sum := "a2791d466710f861a5b0a93befb3b01b2f2512904a4d7b28f6ec52a408fa1296", func := "loop.example/g01129/laws.FnExactFloorsOf", spec := "fnExactFloorsOf", unfollowed := true, recurses := true, apart := false, narrowed := true }
def FnExactFloorsOfUptoSaid : Prop := fnExactFloorsOfUptoRow.holds Try.pinned (OpenSpec.upto fnExactFloorsOfSpec)

/-- 'laws.FnExactCeilingsOf', WHERE WHAT IT READS IS OF BULK AT MOST 1048576: true; the input reads as it did. -/
def fnExactCeilingsOfUptoRow : OpenClaim := { program := "ytmddbhpmkpbnlaa", sum := "a2791d466710f861a5b0a93befb3b01b2f2512904a4d7b28f6ec52a408fa1296", func := "loop.example/g01129/laws.FnExactCeilingsOf", spec := "fnExactCeilingsOf", unfollowed := true, recurses := true, apart := false, narrowed := true }
def FnExactCeilingsOfUptoSaid : Prop := fnExactCeilingsOfUptoRow.holds Try.pinned (OpenSpec.upto fnExactCeilingsOfSpec)

end Rows
end Go.Proofs.Ytmddbhpmkpbnlaa
