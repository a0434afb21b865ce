/-
  No cell of these rows narrows 'for every input' (looked for: loops, veiled, ifaces, maps, wideKeys, modest, calm, conditions, laid).
  DERIVED. THE GIVEN ROWS OF THIS SEAT. 8 by the template 'for every input the law returns true; each argument reads behind the call as it read before'; 0 by the template 'total and deterministic' (their statements: YtlenmhefgpcmmaaTotals.lean).
  GIVEN WITH THE SEED: the statements are not yours to turn. If you find one false, say at which input.
  Laid BY PROGRAM, IN A SANDBOX (cutbox-rows.mjs): the forced cells as the released guide's own fill.sh prints them over the translation 590039ae3001c187… (all of the seat's roots in one cut). By AI agents, Wed Nov 11 2026. No macro, syntax, notation, axiom, sorry.
-/
import Derived.Test.YtlenmhefgpcmmaaChecked
import GoSem.Claim
import GoSem.ClaimJoined
import GoSem.ClaimMapViews
import Derived.JoinedTies
import Derived.KernelRfl
namespace Go.Proofs.Ytlenmhefgpcmmaa
/- THE CELL 'sum', in the pinned program and in every row, IS THE sha256 OF THE DUMP (.gsa) THAT YtlenmhefgpcmmaaProg.lean LOADS. Nothing in Lean hashes anything: it is a label: what it is worth is what the hold of that sum in a sandbox is worth. -/
noncomputable def Try.pinned : Pinned := { name := "ytlenmhefgpcmmaa", sum := "590039ae3001c18744a0a843ff57aa511526ba73b60cae8a44a84fded65d5a83", checked := Try.checked }
namespace Rows
def none {H : Type} : Left H := { results := [], args := [] }

/-- 'laws.FnConstant': WHATEVER THE INPUT: true; the input reads as it did. -/
def fnConstantSpec : ChangeSpec := { name := "fnConstant", fn := fun _ => fun
  | [d1, d2] => { results := [.lit (.bool true)], args := [d1, d2] }
  | _ => none }
def fnConstantRow : OpenClaim := { program := "ytlenmhefgpcmmaa", sum := "590039ae3001c18744a0a843ff57aa511526ba73b60cae8a44a84fded65d5a83", func := "loop.example/g01129/laws.FnConstant", spec := "fnConstant", unfollowed := true, recurses := true, apart := false }
def FnConstantSaid : Prop := fnConstantRow.holds Try.pinned (OpenSpec.ofChange fnConstantSpec)

/-- ITS FALSE NEIGHBOUR: 'it returns false'. Refute it at one input. -/
def fnConstantWrong : ChangeSpec := { name := "fnConstant", fn := fun _ => fun
  | [d1, d2] => { results := [.lit (.bool false)], args := [d1, d2] }
  | _ => none }
def FnConstantWrongFalsely : Prop := fnConstantRow.holds Try.pinned (OpenSpec.ofChange fnConstantWrong)

/-- 'laws.FnExactRunningErrors': WHATEVER THE INPUT: true; the input reads as it did. -/
def fnExactRunningErrorsSpec : ChangeSpec := { name := "fnExactRunningErrors", fn := fun _ => fun
  | [d1, d2] => { results := [.lit (.bool true)], args := [d1, d2] }
  | _ => none }
def fnExactRunningErrorsRow : OpenClaim := { program := "ytlenmhefgpcmmaa", sum := "590039ae3001c18744a0a843ff57aa511526ba73b60cae8a44a84fded65d5a83", func := "loop.example/g01129/laws.FnExactRunningErrors", spec := "fnExactRunningErrors", unfollowed := true, recurses := true, apart := false }
def FnExactRunningErrorsSaid : Prop := fnExactRunningErrorsRow.holds Try.pinned (OpenSpec.ofChange fnExactRunningErrorsSpec)

/-- ITS FALSE NEIGHBOUR: 'it returns false'. Refute it at one input. -/
def fnExactRunningErrorsWrong : ChangeSpec := { name := "fnExactRunningErrors", fn := fun _ => fun
  | [d1, d2] => { results := [.lit (.bool false)], args := [d1, d2] }
  | _ => none }
def FnExactRunningErrorsWrongFalsely : Prop := fnExactRunningErrorsRow.holds Try.pinned (OpenSpec.ofChange fnExactRunningErrorsWrong)

/-- 'laws.FnExactIsRunning': WHATEVER THE INPUT: true; the input reads as it did. -/
def fnExactIsRunningSpec : ChangeSpec := { name := "fnExactIsRunning", fn := fun _ => fun
  | [d1, d2] => { results := [.lit (.bool true)], args := [d1, d2] }
  | _ => none }
def fnExactIsRunningRow : OpenClaim := { program := "ytlenmhefgpcmmaa", sum := "590039ae3001c18744a0a843ff57aa511526ba73b60cae8a44a84fded65d5a83", func := "loop.example/g01129/laws.FnExactIsRunning", spec := "fnExactIsRunning", unfollowed := true, recurses := true, apart := false }
def FnExactIsRunningSaid : Prop := fnExactIsRunningRow.holds Try.pinned (OpenSpec.ofChange fnExactIsRunningSpec)

/-- ITS FALSE NEIGHBOUR: 'it returns false'. Refute it at one input. -/
def fnExactIsRunningWrong : ChangeSpec := { name := "fnExactIsRunning", fn := fun _ => fun
  | [d1, d2] => { results := [.lit (.bool false)], args := [d1, d2] }
  | _ => none }
def FnExactIsRunningWrongFalsely : Prop := fnExactIsRunningRow.holds Try.pinned (OpenSpec.ofChange fnExactIsRunningWrong)

/-- 'laws.FnExactPrefixFloors': WHATEVER THE INPUT: true; the input reads as it did. -/
def fnExactPrefixFloorsSpec : ChangeSpec := { name := "fnExactPrefixFloors", fn := fun _ => fun
  | [d] => { results := [.lit (.bool true)], args := [d] }
  | _ => none }
def fnExactPrefixFloorsRow : OpenClaim := { program := "ytlenmhefgpcmmaa", sum := "590039ae3001c18744a0a843ff57aa511526ba73b60cae8a44a84fded65d5a83", func := "loop.example/g01129/laws.FnExactPrefixFloors", spec := "fnExactPrefixFloors", unfollowed := true, recurses := true, apart := false }
def FnExactPrefixFloorsSaid : Prop := fnExactPrefixFloorsRow.holds Try.pinned (OpenSpec.ofChange fnExactPrefixFloorsSpec)

/-- ITS FALSE NEIGHBOUR: 'it returns false'. Refute it at one input. -/
def fnExactPrefixFloorsWrong : ChangeSpec := { name := "fnExactPrefixFloors", fn := fun _ => fun
  | [d] => { results := [.lit (.bool false)], args := [d] }
  | _ => none }
def FnExactPrefixFloorsWrongFalsely : Prop := fnExactPrefixFloorsRow.holds Try.pinned (OpenSpec.ofChange fnExactPrefixFloorsWrong)

/-- 'laws.FnExactPrefixNearest': WHATEVER THE INPUT: true; the input reads as it did. -/
def fnExactPrefixNearestSpec : ChangeSpec := { name := "fnExactPrefixNearest", fn := fun _ => fun
  | [d] => { results := [.lit (.bool true)], args := [d] }
  | _ => none }
def fnExactPrefixNearestRow : OpenClaim := { program := "ytlenmhefgpcmmaa", sum := "590039ae3001c18744a0a843ff57aa511526ba73b60cae8a44a84fded65d5a83", func := "loop.example/g01129/laws.FnExactPrefixNearest", spec := "fnExactPrefixNearest", unfollowed := true, recurses := true, apart := false }
def FnExactPrefixNearestSaid : Prop := fnExactPrefixNearestRow.holds Try.pinned (OpenSpec.ofChange fnExactPrefixNearestSpec)

/-- ITS FALSE NEIGHBOUR: 'it returns false'. Refute it at one input. -/
def fnExactPrefixNearestWrong : ChangeSpec := { name := "fnExactPrefixNearest", fn := fun _ => fun
  | [d] => { results := [.lit (.bool false)], args := [d] }
  | _ => none }
def FnExactPrefixNearestWrongFalsely : Prop := fnExactPrefixNearestRow.holds Try.pinned (OpenSpec.ofChange fnExactPrefixNearestWrong)

/-- 'laws.FnExactGreatestOf': WHATEVER THE INPUT: true; the input reads as it did. -/
def fnExactGreatestOfSpec : ChangeSpec := { name := "fnExactGreatestOf", fn := fun _ => fun
  | [d] => { results := [.lit (.bool true)], args := [d] }
  | _ => none }
def fnExactGreatestOfRow : OpenClaim := { program := "ytlenmhefgpcmmaa", sum := "590039ae3001c18744a0a843ff57aa511526ba73b60cae8a44a84fded65d5a83", func := "loop.example/g01129/laws.FnExactGreatestOf", spec := "fnExactGreatestOf", apart := false }
def FnExactGreatestOfSaid : Prop := fnExactGreatestOfRow.holds Try.pinned (OpenSpec.ofChange fnExactGreatestOfSpec)

/-- ITS FALSE NEIGHBOUR: 'it returns false'. Refute it at one input. -/
def fnExactGreatestOfWrong : ChangeSpec := { name := "fnExactGreatestOf", fn := fun _ => fun
  | [d] => { results := [.lit (.bool false)], args := [d] }
  | _ => none }
def FnExactGreatestOfWrongFalsely : Prop := fnExactGreatestOfRow.holds Try.pinned (OpenSpec.ofChange fnExactGreatestOfWrong)

/-- 'laws.FnExactConstantWord': WHATEVER THE INPUT: true; the input reads as it did. -/
def fnExactConstantWordSpec : ChangeSpec := { name := "fnExactConstantWord", fn := fun _ => fun
  | [d1, d2, d3] => { results := [.lit (.bool true)], args := [d1, d2, d3] }
  | _ => none }
def fnExactConstantWordRow : OpenClaim := { program := "ytlenmhefgpcmmaa", sum := "590039ae3001c18744a0a843ff57aa511526ba73b60cae8a44a84fded65d5a83", func := "loop.example/g01129/laws.FnExactConstantWord", spec := "fnExactConstantWord", apart := false }
def FnExactConstantWordSaid : Prop := fnExactConstantWordRow.holds Try.pinned (OpenSpec.ofChange fnExactConstantWordSpec)

/-- ITS FALSE NEIGHBOUR: 'it returns false'. Refute it at one input. -/
def fnExactConstantWordWrong : ChangeSpec := { name := "fnExactConstantWord", fn := fun _ => fun
  | [d1, d2, d3] => { results := [.lit (.bool false)], args := [d1, d2, d3] }
  | _ => none }
def FnExactConstantWordWrongFalsely : Prop := fnExactConstantWordRow.holds Try.pinned (OpenSpec.ofChange fnExactConstantWordWrong)

/-- 'laws.FnExactBlockSums': WHATEVER THE INPUT: true; the input reads as it did. -/
def fnExactBlockSumsSpec : ChangeSpec := { name := "fnExactBlockSums", fn := fun _ => fun
  | [d1, d2] => { results := [.lit (.bool true)], args := [d1, d2] }
  | _ => none }
def fnExactBlockSumsRow : OpenClaim := { program := "ytlenmhefgpcmmaa", sum := "590039ae3001c18744a0a843ff57aa511526ba73b60cae8a44a84fded65d5a83", func := "loop.example/g01129/laws.FnExactBlockSums", spec := "fnExactBlockSums", unfollowed := true, recurses := true, apart := false }
def FnExactBlockSumsSaid : Prop := fnExactBlockSumsRow.holds Try.pinned (OpenSpec.ofChange fnExactBlockSumsSpec)

/-- ITS FALSE NEIGHBOUR: 'it returns false'. Refute it at one input. -/
def fnExactBlockSumsWrong : ChangeSpec := { name := "fnExactBlockSums", fn := fun _ => fun
  | [d1, d2] => { results := [.lit (.bool false)], args := [d1, d2] }
  | _ => none }
def FnExactBlockSumsWrongFalsely : Prop := fnExactBlockSumsRow.holds Try.pinned (OpenSpec.ofChange fnExactBlockSumsWrong)

/- THE SECOND FORM. 'bulk': how many values and letters a reading holds, each counted each time it is reached (what is shared counts as often as it is met; a slice's spare places count too). A statement '..UptoSaid' is the law's where the arguments, and the package variables that the reading takes, are together of bulk at most 1048576: NARROWER than '..Said'. Prove '..Said' where nothing that the law and all that it calls make is longer than what came in: it says more and counts as full. Else prove '..UptoSaid'. A law counts once. -/
mutual
def uptoBulk {H : Type} : DataW H → Nat
  | .lit (.string bytes) => bytes.length + 1
  | .lit _ => 1
  | .nil => 1
  | .ptr d => uptoBulk d + 1
  | .slice elems spare => uptoBulkAll elems + uptoBulkAll spare + 1
  | .agg parts => uptoBulkAll parts + 1
  | .iface _ d => uptoBulk d + 1
  | .map entries => uptoBulkEntries entries + 1
  | .held _ => 1
def uptoBulkAll {H : Type} : List (DataW H) → Nat
  | [] => 0
  | d :: r => uptoBulk d + uptoBulkAll r
def uptoBulkEntries {H : Type} : List (Lit × DataW H) → Nat
  | [] => 0
  | x :: r => uptoBulkEntry x + uptoBulkEntries r
def uptoBulkEntry {H : Type} : Lit × DataW H → Nat
  | (.string bytes, d) => bytes.length + uptoBulk d + 1
  | (_, d) => uptoBulk d + 1
 end
def uptoSmall : (H : Type) → List (DataW H) → Bool := fun _ ds => decide (uptoBulkAll ds ≤ 1048576)
def OpenSpec.upto (s : _root_.Go.ChangeSpec) : _root_.Go.OpenSpec := { _root_.Go.OpenSpec.ofChange s with cond := some uptoSmall }

/-- 'laws.FnConstant', WHERE WHAT IT READS IS OF BULK AT MOST 1048576: true; the input reads as it did. -/
def fnConstantUptoRow : OpenClaim := { program := "ytlenmhefgpcmmaa", sum := "590039ae3001c18744a0a843ff57aa511526ba73b60cae8a44a84fded65d5a83", func := "loop.example/g01129/laws.FnConstant", spec := "fnConstant", unfollowed := true, recurses := true, apart := false, narrowed := true }
def FnConstantUptoSaid : Prop := fnConstantUptoRow.holds Try.pinned (OpenSpec.upto fnConstantSpec)

/-- 'laws.FnExactRunningErrors', WHERE WHAT IT READS IS OF BULK AT MOST 1048576: true; the input reads as it did. -/
def fnExactRunningErrorsUptoRow : OpenClaim := { program := "ytlenmhefgpcmmaa", sum := "590039ae3001c18744a0a843ff57aa511526ba73b60cae8a44a84fded65d5a83", func := "loop.example/g01129/laws.FnExactRunningErrors", spec := "fnExactRunningErrors", unfollowed := true, recurses := true, apart := false, narrowed := true }
def FnExactRunningErrorsUptoSaid : Prop := fnExactRunningErrorsUptoRow.holds Try.pinned (OpenSpec.upto fnExactRunningErrorsSpec)

/-- 'laws.FnExactIsRunning', WHERE WHAT IT READS IS OF BULK AT MOST 1048576: true; the input reads as it did. -/
def fnExactIsRunningUptoRow : OpenClaim := { program := "ytlenmhefgpcmmaa", sum := "590039ae3001c18744a0a843ff57aa511526ba73b60cae8a44a84fded65d5a83", func := "loop.example/g01129/laws.FnExactIsRunning", spec := "fnExactIsRunning", unfollowed := true, recurses := true, apart := false, narrowed := true }
def FnExactIsRunningUptoSaid : Prop := fnExactIsRunningUptoRow.holds Try.pinned (OpenSpec.upto fnExactIsRunningSpec)

/-- 'laws.FnExactPrefixFloors', WHERE WHAT IT READS IS OF BULK AT MOST 1048576: true; the input reads as it did. -/
def fnExactPrefixFloorsUptoRow : OpenClaim := { program := "ytlenmhefgpcmmaa", sum := "590039ae3001c18744a0a843ff57aa511526ba73b60cae8a44a84fded65d5a83", func := "loop.example/g01129/laws.FnExactPrefixFloors", spec := "fnExactPrefixFloors", unfollowed := true, recurses := true, apart := false, narrowed := true }
def FnExactPrefixFloorsUptoSaid : Prop := fnExactPrefixFloorsUptoRow.holds Try.pinned (OpenSpec.upto fnExactPrefixFloorsSpec)

/-- 'laws.FnExactPrefixNearest', WHERE WHAT IT READS IS OF BULK AT MOST 1048576: true; the input reads as it did. -/
def fnExactPrefixNearestUptoRow : OpenClaim := { program := "ytlenmhefgpcmmaa", sum := "590039ae3001c18744a0a843ff57aa511526ba73b60cae8a44a84fded65d5a83", func := "loop.example/g01129/laws.FnExactPrefixNearest", spec := "fnExactPrefixNearest", unfollowed := true, recurses := true, apart := false, narrowed := true }
def FnExactPrefixNearestUptoSaid : Prop := fnExactPrefixNearestUptoRow.holds Try.pinned (OpenSpec.upto fnExactPrefixNearestSpec)

/-- 'laws.FnExactGreatestOf', WHERE WHAT IT READS IS OF BULK AT MOST 1048576: true; the input reads as it did. -/
def fnExactGreatestOfUptoRow : OpenClaim := { program := "ytlenmhefgpcmmaa", sum := "590039ae3001c18744a0a843ff57aa511526ba73b60cae8a44a84fded65d5a83", func := "loop.example/g01129/laws.FnExactGreatestOf", spec := "fnExactGreatestOf", apart := false, narrowed := true }
def FnExactGreatestOfUptoSaid : Prop := fnExactGreatestOfUptoRow.holds Try.pinned (OpenSpec.upto fnExactGreatestOfSpec)

/-- 'laws.FnExactConstantWord', WHERE WHAT IT READS IS OF BULK AT MOST 1048576: true; the input reads as it did. -/
def fnExactConstantWordUptoRow : OpenClaim := { program := "ytlenmhefgpcmmaa", sum := "590039ae3001c18744a0a843ff57aa511526ba73b60cae8a44a84fded65d5a83", func := "loop.example/g01129/laws.FnExactConstantWord", spec := "fnExactConstantWord", apart := false, narrowed := true }
def FnExactConstantWordUptoSaid : Prop := fnExactConstantWordUptoRow.holds Try.pinned (OpenSpec.upto fnExactConstantWordSpec)

/-- 'laws.FnExactBlockSums', WHERE WHAT IT READS IS OF BULK AT MOST 1048576: true; the input reads as it did. -/
def fnExactBlockSumsUptoRow : OpenClaim := { program := "ytlenmhefgpcmmaa", sum := "590039ae3001c18744a0a843ff57aa511526ba73b60cae8a44a84fded65d5a83", func := "loop.example/g01129/laws.FnExactBlockSums", spec := "fnExactBlockSums", unfollowed := true, recurses := true, apart := false, narrowed := true }
def FnExactBlockSumsUptoSaid : Prop := fnExactBlockSumsUptoRow.holds Try.pinned (OpenSpec.upto fnExactBlockSumsSpec)

end Rows
end Go.Proofs.Ytlenmhefgpcmmaa
