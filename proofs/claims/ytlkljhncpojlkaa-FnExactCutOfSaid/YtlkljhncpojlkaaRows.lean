/-
  No cell of these rows narrows 'for every input' (looked for: loops, veiled, ifaces, maps, wideKeys, modest, calm, conditions, laid).
  DERIVED. THE GIVEN ROWS OF THIS SEAT. 6 by the template 'for every input the law returns true; each argument reads behind the call as it read before'; 0 by the template 'total and deterministic' (their statements: YtlkljhncpojlkaaTotals.lean).
  GIVEN WITH THE SEED: the statements are not yours to turn. If you find one false, say at which input.
  Laid BY PROGRAM, IN A SANDBOX (cutbox-rows.mjs): the forced cells as the released guide's own fill.sh prints them over the translation 51100597797308ca… (all of the seat's roots in one cut). By AI agents, Wed Nov 11 2026. No macro, syntax, notation, axiom, sorry.
-/
import Derived.Test.YtlkljhncpojlkaaChecked
import GoSem.Claim
import GoSem.ClaimJoined
import GoSem.ClaimMapViews
import Derived.JoinedTies
import Derived.KernelRfl
namespace Go.Proofs.Ytlkljhncpojlkaa
/- THE CELL 'sum', in the pinned program and in every row, IS THE sha256 OF THE DUMP (.gsa) THAT YtlkljhncpojlkaaProg.lean LOADS. Nothing in Lean hashes anything: it is a label: what it is worth is what the hold of that sum in a sandbox is worth. -/
noncomputable def Try.pinned : Pinned := { name := "ytlkljhncpojlkaa", sum := "51100597797308ca377dc13a438ee6984c87b92e5b3f2f1067c7e01cae9b09b1", checked := Try.checked }
namespace Rows
def none {H : Type} : Left H := { results := [], args := [] }

/-- 'laws.FnExactLineWord': WHATEVER THE INPUT: true; the input reads as it did. -/
def fnExactLineWordSpec : ChangeSpec := { name := "fnExactLineWord", fn := fun _ => fun
  | [d1, d2, d3, d4] => { results := [.lit (.bool true)], args := [d1, d2, d3, d4] }
  | _ => none }
def fnExactLineWordRow : OpenClaim := { program := "ytlkljhncpojlkaa", sum := "51100597797308ca377dc13a438ee6984c87b92e5b3f2f1067c7e01cae9b09b1", func := "loop.example/g01129/laws.FnExactLineWord", spec := "fnExactLineWord", inPlace := ["internal/abi.NoEscape"], apart := false }
def FnExactLineWordSaid : Prop := fnExactLineWordRow.holds Try.pinned (OpenSpec.ofChange fnExactLineWordSpec)

/-- ITS FALSE NEIGHBOUR: 'it returns false'. Refute it at one input. -/
def fnExactLineWordWrong : ChangeSpec := { name := "fnExactLineWord", fn := fun _ => fun
  | [d1, d2, d3, d4] => { results := [.lit (.bool false)], args := [d1, d2, d3, d4] }
  | _ => none }
def FnExactLineWordWrongFalsely : Prop := fnExactLineWordRow.holds Try.pinned (OpenSpec.ofChange fnExactLineWordWrong)

/-- 'laws.FnExactChristoffelWord': WHATEVER THE INPUT: true; the input reads as it did. -/
def fnExactChristoffelWordSpec : ChangeSpec := { name := "fnExactChristoffelWord", fn := fun _ => fun
  | [d1, d2] => { results := [.lit (.bool true)], args := [d1, d2] }
  | _ => none }
def fnExactChristoffelWordRow : OpenClaim := { program := "ytlkljhncpojlkaa", sum := "51100597797308ca377dc13a438ee6984c87b92e5b3f2f1067c7e01cae9b09b1", func := "loop.example/g01129/laws.FnExactChristoffelWord", spec := "fnExactChristoffelWord", inPlace := ["internal/abi.NoEscape"], apart := false }
def FnExactChristoffelWordSaid : Prop := fnExactChristoffelWordRow.holds Try.pinned (OpenSpec.ofChange fnExactChristoffelWordSpec)

/-- ITS FALSE NEIGHBOUR: 'it returns false'. Refute it at one input. -/
def fnExactChristoffelWordWrong : ChangeSpec := { name := "fnExactChristoffelWord", fn := fun _ => fun
  | [d1, d2] => { results := [.lit (.bool false)], args := [d1, d2] }
  | _ => none }
def FnExactChristoffelWordWrongFalsely : Prop := fnExactChristoffelWordRow.holds Try.pinned (OpenSpec.ofChange fnExactChristoffelWordWrong)

/-- 'laws.FnExactContinuedOf': WHATEVER THE INPUT: true; the input reads as it did. -/
def fnExactContinuedOfSpec : ChangeSpec := { name := "fnExactContinuedOf", fn := fun _ => fun
  | [d1, d2] => { results := [.lit (.bool true)], args := [d1, d2] }
  | _ => none }
def fnExactContinuedOfRow : OpenClaim := { program := "ytlkljhncpojlkaa", sum := "51100597797308ca377dc13a438ee6984c87b92e5b3f2f1067c7e01cae9b09b1", func := "loop.example/g01129/laws.FnExactContinuedOf", spec := "fnExactContinuedOf", apart := false }
def FnExactContinuedOfSaid : Prop := fnExactContinuedOfRow.holds Try.pinned (OpenSpec.ofChange fnExactContinuedOfSpec)

/-- ITS FALSE NEIGHBOUR: 'it returns false'. Refute it at one input. -/
def fnExactContinuedOfWrong : ChangeSpec := { name := "fnExactContinuedOf", fn := fun _ => fun
  | [d1, d2] => { results := [.lit (.bool false)], args := [d1, d2] }
  | _ => none }
def FnExactContinuedOfWrongFalsely : Prop := fnExactContinuedOfRow.holds Try.pinned (OpenSpec.ofChange fnExactContinuedOfWrong)

/-- 'laws.FnExactCutOf': WHATEVER THE INPUT: true; the input reads as it did. -/
def fnExactCutOfSpec : ChangeSpec := { name := "fnExactCutOf", fn := fun _ => fun
  | [d1, d2] => { results := [.lit (.bool true)], args := [d1, d2] }
  | _ => none }
def fnExactCutOfRow : OpenClaim := { program := "ytlkljhncpojlkaa", sum := "51100597797308ca377dc13a438ee6984c87b92e5b3f2f1067c7e01cae9b09b1", func := "loop.example/g01129/laws.FnExactCutOf", spec := "fnExactCutOf", unfollowed := true, recurses := true, apart := false }
def FnExactCutOfSaid : Prop := fnExactCutOfRow.holds Try.pinned (OpenSpec.ofChange fnExactCutOfSpec)

/-- ITS FALSE NEIGHBOUR: 'it returns false'. Refute it at one input. -/
def fnExactCutOfWrong : ChangeSpec := { name := "fnExactCutOf", fn := fun _ => fun
  | [d1, d2] => { results := [.lit (.bool false)], args := [d1, d2] }
  | _ => none }
def FnExactCutOfWrongFalsely : Prop := fnExactCutOfRow.holds Try.pinned (OpenSpec.ofChange fnExactCutOfWrong)

/-- 'laws.FnExactStandardWord': WHATEVER THE INPUT: true; the input reads as it did. -/
def fnExactStandardWordSpec : ChangeSpec := { name := "fnExactStandardWord", fn := fun _ => fun
  | [d] => { results := [.lit (.bool true)], args := [d] }
  | _ => none }
def fnExactStandardWordRow : OpenClaim := { program := "ytlkljhncpojlkaa", sum := "51100597797308ca377dc13a438ee6984c87b92e5b3f2f1067c7e01cae9b09b1", func := "loop.example/g01129/laws.FnExactStandardWord", spec := "fnExactStandardWord", inPlace := ["internal/abi.NoEscape", "internal/bytealg.MakeNoZero"], apart := false }
def FnExactStandardWordSaid : Prop := fnExactStandardWordRow.holds Try.pinned (OpenSpec.ofChange fnExactStandardWordSpec)

/-- ITS FALSE NEIGHBOUR: 'it returns false'. Refute it at one input. -/
def fnExactStandardWordWrong : ChangeSpec := { name := "fnExactStandardWord", fn := fun _ => fun
  | [d] => { results := [.lit (.bool false)], args := [d] }
  | _ => none }
def FnExactStandardWordWrongFalsely : Prop := fnExactStandardWordRow.holds Try.pinned (OpenSpec.ofChange fnExactStandardWordWrong)

/-- 'laws.FnExactGapsOf': WHATEVER THE INPUT: true; the input reads as it did. -/
def fnExactGapsOfSpec : ChangeSpec := { name := "fnExactGapsOf", fn := fun _ => fun
  | [d1, d2, d3] => { results := [.lit (.bool true)], args := [d1, d2, d3] }
  | _ => none }
def fnExactGapsOfRow : OpenClaim := { program := "ytlkljhncpojlkaa", sum := "51100597797308ca377dc13a438ee6984c87b92e5b3f2f1067c7e01cae9b09b1", func := "loop.example/g01129/laws.FnExactGapsOf", spec := "fnExactGapsOf", recurses := true, apart := false }
def FnExactGapsOfSaid : Prop := fnExactGapsOfRow.holds Try.pinned (OpenSpec.ofChange fnExactGapsOfSpec)

/-- ITS FALSE NEIGHBOUR: 'it returns false'. Refute it at one input. -/
def fnExactGapsOfWrong : ChangeSpec := { name := "fnExactGapsOf", fn := fun _ => fun
  | [d1, d2, d3] => { results := [.lit (.bool false)], args := [d1, d2, d3] }
  | _ => none }
def FnExactGapsOfWrongFalsely : Prop := fnExactGapsOfRow.holds Try.pinned (OpenSpec.ofChange fnExactGapsOfWrong)

/- THE SECOND FORM. 'bulk': how many values and letters a reading holds, each counted each time it is reached (what is shared counts as often as it is met; a slice's spare places count too). A statement '..UptoSaid' is the law's where the arguments, and the package variables that the reading takes, are together of bulk at most 1048576: NARROWER than '..Said'. Prove '..Said' where nothing that the law and all that it calls make is longer than what came in: it says more and counts as full. Else prove '..UptoSaid'. A law counts once. -/
mutual
def uptoBulk {H : Type} : DataW H → Nat
  | .lit (.string bytes) => bytes.length + 1
  | .lit _ => 1
  | .nil => 1
  | .ptr d => uptoBulk d + 1
  | .slice elems spare => uptoBulkAll elems + uptoBulkAll spare + 1
  | .agg parts => uptoBulkAll parts + 1
  | .iface _ d => uptoBulk d + 1
  | .map entries => uptoBulkEntries entries + 1
  | .held _ => 1
def uptoBulkAll {H : Type} : List (DataW H) → Nat
  | [] => 0
  | d :: r => uptoBulk d + uptoBulkAll r
def uptoBulkEntries {H : Type} : List (Lit × DataW H) → Nat
  | [] => 0
  | x :: r => uptoBulkEntry x + uptoBulkEntries r
def uptoBulkEntry {H : Type} : Lit × DataW H → Nat
  | (.string bytes, d) => bytes.length + uptoBulk d + 1
  | (_, d) => uptoBulk d + 1
 end
def uptoSmall : (H : Type) → List (DataW H) → Bool := fun _ ds => decide (uptoBulkAll ds ≤ 1048576)
def OpenSpec.upto (s : _root_.Go.ChangeSpec) : _root_.Go.OpenSpec := { _root_.Go.OpenSpec.ofChange s with cond := some uptoSmall }

/-- 'laws.FnExactLineWord', WHERE WHAT IT READS IS OF BULK AT MOST 1048576: true; the input reads as it did. -/
def fnExactLineWordUptoRow : OpenClaim := { program := "ytlkljhncpojlkaa", sum := "51100597797308ca377dc13a438ee6984c87b92e5b3f2f1067c7e01cae9b09b1", func := "loop.example/g01129/laws.FnExactLineWord", spec := "fnExactLineWord", inPlace := ["internal/abi.NoEscape"], apart := false, narrowed := true }
def FnExactLineWordUptoSaid : Prop := fnExactLineWordUptoRow.holds Try.pinned (OpenSpec.upto fnExactLineWordSpec)

/-- 'laws.FnExactChristoffelWord', WHERE WHAT IT READS IS OF BULK AT MOST 1048576: true; the input reads as it did. -/
def fnExactChristoffelWordUptoRow : OpenClaim := { program := "ytlkljhncpojlkaa", sum := "51100597797308ca377dc13a438ee6984c87b92e5b3f2f1067c7e01cae9b09b1", func := "loop.example/g01129/laws.FnExactChristoffelWord", spec := "fnExactChristoffelWord", inPlace := ["internal/abi.NoEscape"], apart := false, narrowed := true }
def FnExactChristoffelWordUptoSaid : Prop := fnExactChristoffelWordUptoRow.holds Try.pinned (OpenSpec.upto fnExactChristoffelWordSpec)

/-- 'laws.FnExactContinuedOf', WHERE WHAT IT READS IS OF BULK AT MOST 1048576: true; the input reads as it did. -/
def fnExactContinuedOfUptoRow : OpenClaim := { program := "ytlkljhncpojlkaa", sum := "51100597797308ca377dc13a438ee6984c87b92e5b3f2f1067c7e01cae9b09b1", func := "loop.example/g01129/laws.FnExactContinuedOf", spec := "fnExactContinuedOf", apart := false, narrowed := true }
def FnExactContinuedOfUptoSaid : Prop := fnExactContinuedOfUptoRow.holds Try.pinned (OpenSpec.upto fnExactContinuedOfSpec)

/-- 'laws.FnExactCutOf', WHERE WHAT IT READS IS OF BULK AT MOST 1048576: true; the input reads as it did. -/
def fnExactCutOfUptoRow : OpenClaim := { program := "ytlkljhncpojlkaa", sum := "51100597797308ca377dc13a438ee6984c87b92e5b3f2f1067c7e01cae9b09b1", func := "loop.example/g01129/laws.FnExactCutOf", spec := "fnExactCutOf", unfollowed := true, recurses := true, apart := false, narrowed := true }
def FnExactCutOfUptoSaid : Prop := fnExactCutOfUptoRow.holds Try.pinned (OpenSpec.upto fnExactCutOfSpec)

/-- 'laws.FnExactStandardWord', WHERE WHAT IT READS IS OF BULK AT MOST 1048576: true; the input reads as it did. -/
def fnExactStandardWordUptoRow : OpenClaim := { program := "ytlkljhncpojlkaa", sum := "51100597797308ca377dc13a438ee6984c87b92e5b3f2f1067c7e01cae9b09b1", func := "loop.example/g01129/laws.FnExactStandardWord", spec := "fnExactStandardWord", inPlace := ["internal/abi.NoEscape", "internal/bytealg.MakeNoZero"], apart := false, narrowed := true }
def FnExactStandardWordUptoSaid : Prop := fnExactStandardWordUptoRow.holds Try.pinned (OpenSpec.upto fnExactStandardWordSpec)

/-- 'laws.FnExactGapsOf', WHERE WHAT IT READS IS OF BULK AT MOST 1048576: true; the input reads as it did. -/
def fnExactGapsOfUptoRow : OpenClaim := { program := "ytlkljhncpojlkaa", sum := "51100597797308ca377dc13a438ee6984c87b92e5b3f2f1067c7e01cae9b09b1", func := "loop.example/g01129/laws.FnExactGapsOf", spec := "fnExactGapsOf", recurses := true, apart := false, narrowed := true }
def FnExactGapsOfUptoSaid : Prop := fnExactGapsOfUptoRow.holds Try.pinned (OpenSpec.upto fnExactGapsOfSpec)

end Rows
end Go.Proofs.Ytlkljhncpojlkaa
