/-
  No cell of these rows narrows 'for every input' (looked for: loops, veiled, ifaces, maps, wideKeys, modest, calm, conditions, laid).
  DERIVED. THE GIVEN ROWS OF THIS SEAT. 4 by the template 'for every input the law returns true; each argument reads behind the call as it read before'; 0 by the template 'total and deterministic' (their statements: YtmckbjhmkcbjgabTotals.lean).
  GIVEN WITH THE SEED: the statements are not yours to turn. If you find one false, say at which input.
  Laid BY PROGRAM, IN A SANDBOX (cutbox-rows.mjs): the forced cells as the released guide's own fill.sh prints them over the translation 57be0f932354b709… (all of the seat's roots in one cut). By AI agents, Wed Nov 11 2026. No macro, syntax, notation, axiom, sorry.
-/
import Derived.Test.YtmckbjhmkcbjgabChecked
import GoSem.Claim
import GoSem.ClaimJoined
import GoSem.ClaimMapViews
import Derived.JoinedTies
import Derived.KernelRfl
namespace Go.Proofs.Ytmckbjhmkcbjgab
/- THE CELL 'sum', in the pinned program and in every row, IS THE sha256 OF THE DUMP (.gsa) THAT YtmckbjhmkcbjgabProg.lean LOADS. Nothing in Lean hashes anything: it is a label: what it is worth is what the hold of that sum in a sandbox is worth. -/
noncomputable def Try.pinned : Pinned := { name := "ytmckbjhmkcbjgab", sum := "57be0f932354b70904786ed36caaaa9f098a24f531e5dbbdbffd9e90000bf2a8", checked := Try.checked }
namespace Rows
def none {H : Type} : Left H := { results := [], args := [] }

/-- 'laws.FnLeastError': WHATEVER THE INPUT: true; the input reads as it did. -/
def fnLeastErrorSpec : ChangeSpec := { name := "fnLeastError", fn := fun _ => fun
  | [d1, d2] => { results := [.lit (.bool true)], args := [d1, d2] }
  | _ => none }
def fnLeastErrorRow : OpenClaim := { program := "ytmckbjhmkcbjgab", sum := "57be0f932354b70904786ed36caaaa9f098a24f531e5dbbdbffd9e90000bf2a8", func := "loop.example/g01129/laws.FnLeastError", spec := "fnLeastError", unfollowed := true, recurses := true, apart := false }
def FnLeastErrorSaid : Prop := fnLeastErrorRow.holds Try.pinned (OpenSpec.ofChange fnLeastErrorSpec)

/-- ITS FALSE NEIGHBOUR: 'it returns false'. Refute it at one input. -/
def fnLeastErrorWrong : ChangeSpec := { name := "fnLeastError", fn := fun _ => fun
  | [d1, d2] => { results := [.lit (.bool false)], args := [d1, d2] }
  | _ => none }
def FnLeastErrorWrongFalsely : Prop := fnLeastErrorRow.holds Try.pinned (OpenSpec.ofChange fnLeastErrorWrong)

/-- 'laws.FnCountedBest': WHATEVER THE INPUT: true; the input reads as it did. -/
def fnCountedBestSpec : ChangeSpec := { name := "fnCountedBest", fn := fun _ => fun
  | [d1, d2] => { results := [.lit (.bool true)], args := [d1, d2] }
  | _ => none }
def fnCountedBestRow : OpenClaim := { program := "ytmckbjhmkcbjgab", sum := "57be0f932354b70904786ed36caaaa9f098a24f531e5dbbdbffd9e90000bf2a8", func := "loop.example/g01129/laws.FnCountedBest", spec := "fnCountedBest", unfollowed := true, recurses := true, apart := false }
def FnCountedBestSaid : Prop := fnCountedBestRow.holds Try.pinned (OpenSpec.ofChange fnCountedBestSpec)

/-- ITS FALSE NEIGHBOUR: 'it returns false'. Refute it at one input. -/
def fnCountedBestWrong : ChangeSpec := { name := "fnCountedBest", fn := fun _ => fun
  | [d1, d2] => { results := [.lit (.bool false)], args := [d1, d2] }
  | _ => none }
def FnCountedBestWrongFalsely : Prop := fnCountedBestRow.holds Try.pinned (OpenSpec.ofChange fnCountedBestWrong)

/-- 'laws.FnExactGapsOf': WHATEVER THE INPUT: true; the input reads as it did. -/
def fnExactGapsOfSpec : ChangeSpec := { name := "fnExactGapsOf", fn := fun _ => fun
  | [d1, d2, d3] => { results := [.lit (.bool true)], args := [d1, d2, d3] }
  | _ => none }
def fnExactGapsOfRow : OpenClaim := { program := "ytmckbjhmkcbjgab", sum := "57be0f932354b70904786ed36caaaa9f098a24f531e5dbbdbffd9e90000bf2a8", func := "loop.example/g01129/laws.FnExactGapsOf", spec := "fnExactGapsOf", recurses := true, apart := false }
def FnExactGapsOfSaid : Prop := fnExactGapsOfRow.holds Try.pinned (OpenSpec.ofChange fnExactGapsOfSpec)

/-- ITS FALSE NEIGHBOUR: 'it returns false'. Refute it at one input. -/
def fnExactGapsOfWrong : ChangeSpec := { name := "fnExactGapsOf", fn := fun _ => fun
  | [d1, d2, d3] => { results := [.lit (.bool false)], args := [d1, d2, d3] }
  | _ => none }
def FnExactGapsOfWrongFalsely : Prop := fnExactGapsOfRow.holds Try.pinned (OpenSpec.ofChange fnExactGapsOfWrong)

/-- 'laws.FnExactFromContinued': WHATEVER THE INPUT: true; the input reads as it did. -/
def fnExactFromContinuedSpec : ChangeSpec := { name := "fnExactFromContinued", fn := fun _ => fun
  | [d] => { results := [.lit (.bool true)], args := [d] }
  | _ => none }
def fnExactFromContinuedRow : OpenClaim := { program := "ytmckbjhmkcbjgab", sum := "57be0f932354b70904786ed36caaaa9f098a24f531e5dbbdbffd9e90000bf2a8", func := "loop.example/g01129/laws.FnExactFromContinued", spec := "fnExactFromContinued", unfollowed := true, recurses := true, apart := false }
def FnExactFromContinuedSaid : Prop := fnExactFromContinuedRow.holds Try.pinned (OpenSpec.ofChange fnExactFromContinuedSpec)

/-- ITS FALSE NEIGHBOUR: 'it returns false'. Refute it at one input. -/
def fnExactFromContinuedWrong : ChangeSpec := { name := "fnExactFromContinued", fn := fun _ => fun
  | [d] => { results := [.lit (.bool false)], args := [d] }
  | _ => none }
def FnExactFromContinuedWrongFalsely : Prop := fnExactFromContinuedRow.holds Try.pinned (OpenSpec.ofChange fnExactFromContinuedWrong)

/- THE SECOND FORM. 'bulk': how many values and letters a reading holds, each counted each time it is reached (what is shared counts as often as it is met; a slice's spare places count too). A statement '..UptoSaid' is the law's where the arguments, and the package variables that the reading takes, are together of bulk at most 1048576: NARROWER than '..Said'. Prove '..Said' where nothing that the law and all that it calls make is longer than what came in: it says more and counts as full. Else prove '..UptoSaid'. A law counts once. -/
mutual
def uptoBulk {H : Type} : DataW H → Nat
  | .lit (.string bytes) => bytes.length + 1
  | .lit _ => 1
  | .nil => 1
  | .ptr d => uptoBulk d + 1
  | .slice elems spare => uptoBulkAll elems + uptoBulkAll spare + 1
  | .agg parts => uptoBulkAll parts + 1
  | .iface _ d => uptoBulk d + 1
  | .map entries => uptoBulkEntries entries + 1
  | .held _ => 1
def uptoBulkAll {H : Type} : List (DataW H) → Nat
  | [] => 0
  | d :: r => uptoBulk d + uptoBulkAll r
def uptoBulkEntries {H : Type} : List (Lit × DataW H) → Nat
  | [] => 0
  | x :: r => uptoBulkEntry x + uptoBulkEntries r
def uptoBulkEntry {H : Type} : Lit × DataW H → Nat
  | (.string bytes, d) => bytes.length + uptoBulk d + 1
  | (_, d) => uptoBulk d + 1
 end
def uptoSmall : (H : Type) → List (DataW H) → Bool := fun _ ds => decide (uptoBulkAll ds ≤ 1048576)
def OpenSpec.upto (s : _root_.Go.ChangeSpec) : _root_.Go.OpenSpec := { _root_.Go.OpenSpec.ofChange s with cond := some uptoSmall }

/-- 'laws.FnLeastError', WHERE WHAT IT READS IS OF BULK AT MOST 1048576: true; the input reads as it did. -/
def fnLeastErrorUptoRow : OpenClaim := { program := "ytmckbjhmkcbjgab", sum := "57be0f932354b70904786ed36caaaa9f098a24f531e5dbbdbffd9e90000bf2a8", func := "loop.example/g01129/laws.FnLeastError", spec := "fnLeastError", unfollowed := true, recurses := true, apart := false, narrowed := true }
def FnLeastErrorUptoSaid : Prop := fnLeastErrorUptoRow.holds Try.pinned (OpenSpec.upto fnLeastErrorSpec)

/-- 'laws.FnCountedBest', WHERE WHAT IT READS IS OF BULK AT MOST 1048576: true; the input reads as it did. -/
def fnCountedBestUptoRow : OpenClaim := { program := "ytmckbjhmkcbjgab", sum := "57be0f932354b70904786ed36caaaa9f098a24f531e5dbbdbffd9e90000bf2a8", func := "loop.example/g01129/laws.FnCountedBest", spec := "fnCountedBest", unfollowed := true, recurses := true, apart := false, narrowed := true }
def FnCountedBestUptoSaid : Prop := fnCountedBestUptoRow.holds Try.pinned (OpenSpec.upto fnCountedBestSpec)

/-- 'laws.FnExactGapsOf', WHERE WHAT IT READS IS OF BULK AT MOST 1048576: true; the input reads as it did. -/
def fnExactGapsOfUptoRow : OpenClaim := { program := "ytmckbjhmkcbjgab", sum := "57be0f932354b70904786ed36caaaa9f098a24f531e5dbbdbffd9e90000bf2a8", func := "loop.example/g01129/laws.FnExactGapsOf", spec := "fnExactGapsOf", recurses := true, apart := false, narrowed := true }
def FnExactGapsOfUptoSaid : Prop := fnExactGapsOfUptoRow.holds Try.pinned (OpenSpec.upto fnExactGapsOfSpec)

/-- 'laws.FnExactFromContinued', WHERE WHAT IT READS IS OF BULK AT MOST 1048576: true; the input reads as it did. -/
def fnExactFromContinuedUptoRow : OpenClaim := { program := "ytmckbjhmkcbjgab", sum := "57be0f932354b70904786ed36caaaa9f098a24f531e5dbbdbffd9e90000bf2a8", func := "loop.example/g01129/laws.FnExactFromContinued", spec := "fnExactFromContinued", unfollowed := true, recurses := true, apart := false, narrowed := true }
def FnExactFromContinuedUptoSaid : Prop := fnExactFromContinuedUptoRow.holds Try.pinned (OpenSpec.upto fnExactFromContinuedSpec)

end Rows
end Go.Proofs.Ytmckbjhmkcbjgab
