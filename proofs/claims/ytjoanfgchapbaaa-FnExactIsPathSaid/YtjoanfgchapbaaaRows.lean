/-
  No cell of these rows narrows 'for every input' (looked for: loops, veiled, ifaces, maps, wideKeys, modest, calm, conditions, laid).
  DERIVED. THE GIVEN ROWS OF THIS SEAT. 12 by the template 'for every input the law returns true; each argument reads behind the call as it read before'; 0 by the template 'total and deterministic' (their statements: YtjoanfgchapbaaaTotals.lean).
  GIVEN WITH THE SEED: the statements are not yours to turn. If you find one false, say at which input.
  Laid BY PROGRAM, IN A SANDBOX (cutbox-rows.mjs): the forced cells as the released guide's own fill.sh prints them over the translation 774adaa0534af561… (all of the seat's roots in one cut). By AI agents, Wed Nov 11 2026. No macro, syntax, notation, axiom, sorry.
-/
import Derived.Test.YtjoanfgchapbaaaChecked
import GoSem.Claim
import GoSem.ClaimJoined
import GoSem.ClaimMapViews
import Derived.JoinedTies
import Derived.KernelRfl
namespace Go.Proofs.Ytjoanfgchapbaaa
/- THE CELL 'sum', in the pinned program and in every row, IS THE sha256 OF THE DUMP (.gsa) THAT YtjoanfgchapbaaaProg.lean LOADS. Nothing in Lean hashes anything: it is a label: what it is worth is what the hold of that sum in a sandbox is worth. -/
noncomputable def Try.pinned : Pinned := { name := "ytjoanfgchapbaaa", sum := "774adaa0534af561b9edbe46f95b1497bc25fe49db16f4f78c62422a9b1b68ba", checked := Try.checked }
namespace Rows
def none {H : Type} : Left H := { results := [], args := [] }

/-- 'laws.FnExactValidPicture': WHATEVER THE INPUT: true; the input reads as it did. -/
def fnExactValidPictureSpec : ChangeSpec := { name := "fnExactValidPicture", fn := fun _ => fun
  | [d] => { results := [.lit (.bool true)], args := [d] }
  | _ => none }
def fnExactValidPictureRow : OpenClaim := { program := "ytjoanfgchapbaaa", sum := "774adaa0534af561b9edbe46f95b1497bc25fe49db16f4f78c62422a9b1b68ba", func := "loop.example/g01129/laws.FnExactValidPicture", spec := "fnExactValidPicture", unfollowed := true, recurses := true, plainKeys := false, apart := false }
def FnExactValidPictureSaid : Prop := fnExactValidPictureRow.holds Try.pinned (OpenSpec.ofChange fnExactValidPictureSpec)

/-- ITS FALSE NEIGHBOUR: 'it returns false'. Refute it at one input. -/
def fnExactValidPictureWrong : ChangeSpec := { name := "fnExactValidPicture", fn := fun _ => fun
  | [d] => { results := [.lit (.bool false)], args := [d] }
  | _ => none }
def FnExactValidPictureWrongFalsely : Prop := fnExactValidPictureRow.holds Try.pinned (OpenSpec.ofChange fnExactValidPictureWrong)

/-- 'laws.FnExactIsMask': WHATEVER THE INPUT: true; the input reads as it did. -/
def fnExactIsMaskSpec : ChangeSpec := { name := "fnExactIsMask", fn := fun _ => fun
  | [d] => { results := [.lit (.bool true)], args := [d] }
  | _ => none }
def fnExactIsMaskRow : OpenClaim := { program := "ytjoanfgchapbaaa", sum := "774adaa0534af561b9edbe46f95b1497bc25fe49db16f4f78c62422a9b1b68ba", func := "loop.example/g01129/laws.FnExactIsMask", spec := "fnExactIsMask", unfollowed := true, recurses := true, plainKeys := false, apart := false }
def FnExactIsMaskSaid : Prop := fnExactIsMaskRow.holds Try.pinned (OpenSpec.ofChange fnExactIsMaskSpec)

/-- ITS FALSE NEIGHBOUR: 'it returns false'. Refute it at one input. -/
def fnExactIsMaskWrong : ChangeSpec := { name := "fnExactIsMask", fn := fun _ => fun
  | [d] => { results := [.lit (.bool false)], args := [d] }
  | _ => none }
def FnExactIsMaskWrongFalsely : Prop := fnExactIsMaskRow.holds Try.pinned (OpenSpec.ofChange fnExactIsMaskWrong)

/-- 'laws.FnExactDoublingMask': WHATEVER THE INPUT: true; the input reads as it did. -/
def fnExactDoublingMaskSpec : ChangeSpec := { name := "fnExactDoublingMask", fn := fun _ => fun
  | [d] => { results := [.lit (.bool true)], args := [d] }
  | _ => none }
def fnExactDoublingMaskRow : OpenClaim := { program := "ytjoanfgchapbaaa", sum := "774adaa0534af561b9edbe46f95b1497bc25fe49db16f4f78c62422a9b1b68ba", func := "loop.example/g01129/laws.FnExactDoublingMask", spec := "fnExactDoublingMask", plainKeys := false, apart := false }
def FnExactDoublingMaskSaid : Prop := fnExactDoublingMaskRow.holds Try.pinned (OpenSpec.ofChange fnExactDoublingMaskSpec)

/-- ITS FALSE NEIGHBOUR: 'it returns false'. Refute it at one input. -/
def fnExactDoublingMaskWrong : ChangeSpec := { name := "fnExactDoublingMask", fn := fun _ => fun
  | [d] => { results := [.lit (.bool false)], args := [d] }
  | _ => none }
def FnExactDoublingMaskWrongFalsely : Prop := fnExactDoublingMaskRow.holds Try.pinned (OpenSpec.ofChange fnExactDoublingMaskWrong)

/-- 'laws.FnExactSpreadOf': WHATEVER THE INPUT: true; the input reads as it did. -/
def fnExactSpreadOfSpec : ChangeSpec := { name := "fnExactSpreadOf", fn := fun _ => fun
  | [d1, d2] => { results := [.lit (.bool true)], args := [d1, d2] }
  | _ => none }
def fnExactSpreadOfRow : OpenClaim := { program := "ytjoanfgchapbaaa", sum := "774adaa0534af561b9edbe46f95b1497bc25fe49db16f4f78c62422a9b1b68ba", func := "loop.example/g01129/laws.FnExactSpreadOf", spec := "fnExactSpreadOf", unfollowed := true, recurses := true, plainKeys := false, apart := false }
def FnExactSpreadOfSaid : Prop := fnExactSpreadOfRow.holds Try.pinned (OpenSpec.ofChange fnExactSpreadOfSpec)

/-- ITS FALSE NEIGHBOUR: 'it returns false'. Refute it at one input. -/
def fnExactSpreadOfWrong : ChangeSpec := { name := "fnExactSpreadOf", fn := fun _ => fun
  | [d1, d2] => { results := [.lit (.bool false)], args := [d1, d2] }
  | _ => none }
def FnExactSpreadOfWrongFalsely : Prop := fnExactSpreadOfRow.holds Try.pinned (OpenSpec.ofChange fnExactSpreadOfWrong)

/-- 'laws.FnExactMaskDither': WHATEVER THE INPUT: true; the input reads as it did. -/
def fnExactMaskDitherSpec : ChangeSpec := { name := "fnExactMaskDither", fn := fun _ => fun
  | [d1, d2] => { results := [.lit (.bool true)], args := [d1, d2] }
  | _ => none }
def fnExactMaskDitherRow : OpenClaim := { program := "ytjoanfgchapbaaa", sum := "774adaa0534af561b9edbe46f95b1497bc25fe49db16f4f78c62422a9b1b68ba", func := "loop.example/g01129/laws.FnExactMaskDither", spec := "fnExactMaskDither", unfollowed := true, recurses := true, plainKeys := false, apart := false }
def FnExactMaskDitherSaid : Prop := fnExactMaskDitherRow.holds Try.pinned (OpenSpec.ofChange fnExactMaskDitherSpec)

/-- ITS FALSE NEIGHBOUR: 'it returns false'. Refute it at one input. -/
def fnExactMaskDitherWrong : ChangeSpec := { name := "fnExactMaskDither", fn := fun _ => fun
  | [d1, d2] => { results := [.lit (.bool false)], args := [d1, d2] }
  | _ => none }
def FnExactMaskDitherWrongFalsely : Prop := fnExactMaskDitherRow.holds Try.pinned (OpenSpec.ofChange fnExactMaskDitherWrong)

/-- 'laws.FnExactValidKernel': WHATEVER THE INPUT: true; the input reads as it did. -/
def fnExactValidKernelSpec : ChangeSpec := { name := "fnExactValidKernel", fn := fun _ => fun
  | [d] => { results := [.lit (.bool true)], args := [d] }
  | _ => none }
def fnExactValidKernelRow : OpenClaim := { program := "ytjoanfgchapbaaa", sum := "774adaa0534af561b9edbe46f95b1497bc25fe49db16f4f78c62422a9b1b68ba", func := "loop.example/g01129/laws.FnExactValidKernel", spec := "fnExactValidKernel", plainKeys := false, apart := false }
def FnExactValidKernelSaid : Prop := fnExactValidKernelRow.holds Try.pinned (OpenSpec.ofChange fnExactValidKernelSpec)

/-- ITS FALSE NEIGHBOUR: 'it returns false'. Refute it at one input. -/
def fnExactValidKernelWrong : ChangeSpec := { name := "fnExactValidKernel", fn := fun _ => fun
  | [d] => { results := [.lit (.bool false)], args := [d] }
  | _ => none }
def FnExactValidKernelWrongFalsely : Prop := fnExactValidKernelRow.holds Try.pinned (OpenSpec.ofChange fnExactValidKernelWrong)

/-- 'laws.FnExactKernelOf': WHATEVER THE INPUT: true; the input reads as it did. -/
def fnExactKernelOfSpec : ChangeSpec := { name := "fnExactKernelOf", fn := fun _ => fun
  | [d] => { results := [.lit (.bool true)], args := [d] }
  | _ => none }
def fnExactKernelOfRow : OpenClaim := { program := "ytjoanfgchapbaaa", sum := "774adaa0534af561b9edbe46f95b1497bc25fe49db16f4f78c62422a9b1b68ba", func := "loop.example/g01129/laws.FnExactKernelOf", spec := "fnExactKernelOf", plainKeys := false, apart := false }
def FnExactKernelOfSaid : Prop := fnExactKernelOfRow.holds Try.pinned (OpenSpec.ofChange fnExactKernelOfSpec)

/-- ITS FALSE NEIGHBOUR: 'it returns false'. Refute it at one input. -/
def fnExactKernelOfWrong : ChangeSpec := { name := "fnExactKernelOf", fn := fun _ => fun
  | [d] => { results := [.lit (.bool false)], args := [d] }
  | _ => none }
def FnExactKernelOfWrongFalsely : Prop := fnExactKernelOfRow.holds Try.pinned (OpenSpec.ofChange fnExactKernelOfWrong)

/-- 'laws.FnExactDiffuseDither': WHATEVER THE INPUT: true; the input reads as it did. -/
def fnExactDiffuseDitherSpec : ChangeSpec := { name := "fnExactDiffuseDither", fn := fun _ => fun
  | [d1, d2, d3] => { results := [.lit (.bool true)], args := [d1, d2, d3] }
  | _ => none }
def fnExactDiffuseDitherRow : OpenClaim := { program := "ytjoanfgchapbaaa", sum := "774adaa0534af561b9edbe46f95b1497bc25fe49db16f4f78c62422a9b1b68ba", func := "loop.example/g01129/laws.FnExactDiffuseDither", spec := "fnExactDiffuseDither", unfollowed := true, recurses := true, plainKeys := false, apart := false }
def FnExactDiffuseDitherSaid : Prop := fnExactDiffuseDitherRow.holds Try.pinned (OpenSpec.ofChange fnExactDiffuseDitherSpec)

/-- ITS FALSE NEIGHBOUR: 'it returns false'. Refute it at one input. -/
def fnExactDiffuseDitherWrong : ChangeSpec := { name := "fnExactDiffuseDither", fn := fun _ => fun
  | [d1, d2, d3] => { results := [.lit (.bool false)], args := [d1, d2, d3] }
  | _ => none }
def FnExactDiffuseDitherWrongFalsely : Prop := fnExactDiffuseDitherRow.holds Try.pinned (OpenSpec.ofChange fnExactDiffuseDitherWrong)

/-- 'laws.FnExactHilbertPath': WHATEVER THE INPUT: true; the input reads as it did. -/
def fnExactHilbertPathSpec : ChangeSpec := { name := "fnExactHilbertPath", fn := fun _ => fun
  | [d] => { results := [.lit (.bool true)], args := [d] }
  | _ => none }
def fnExactHilbertPathRow : OpenClaim := { program := "ytjoanfgchapbaaa", sum := "774adaa0534af561b9edbe46f95b1497bc25fe49db16f4f78c62422a9b1b68ba", func := "loop.example/g01129/laws.FnExactHilbertPath", spec := "fnExactHilbertPath", unfollowed := true, recurses := true, plainKeys := false, apart := false }
def FnExactHilbertPathSaid : Prop := fnExactHilbertPathRow.holds Try.pinned (OpenSpec.ofChange fnExactHilbertPathSpec)

/-- ITS FALSE NEIGHBOUR: 'it returns false'. Refute it at one input. -/
def fnExactHilbertPathWrong : ChangeSpec := { name := "fnExactHilbertPath", fn := fun _ => fun
  | [d] => { results := [.lit (.bool false)], args := [d] }
  | _ => none }
def FnExactHilbertPathWrongFalsely : Prop := fnExactHilbertPathRow.holds Try.pinned (OpenSpec.ofChange fnExactHilbertPathWrong)

/-- 'laws.FnExactIsPath': WHATEVER THE INPUT: true; the input reads as it did. -/
def fnExactIsPathSpec : ChangeSpec := { name := "fnExactIsPath", fn := fun _ => fun
  | [d1, d2] => { results := [.lit (.bool true)], args := [d1, d2] }
  | _ => none }
def fnExactIsPathRow : OpenClaim := { program := "ytjoanfgchapbaaa", sum := "774adaa0534af561b9edbe46f95b1497bc25fe49db16f4f78c62422a9b1b68ba", func := "loop.example/g01129/laws.FnExactIsPath", spec := "fnExactIsPath", unfollowed := true, recurses := true, plainKeys := false, apart := false }
def FnExactIsPathSaid : Prop := fnExactIsPathRow.holds Try.pinned (OpenSpec.ofChange fnExactIsPathSpec)

/-- ITS FALSE NEIGHBOUR: 'it returns false'. Refute it at one input. -/
def fnExactIsPathWrong : ChangeSpec := { name := "fnExactIsPath", fn := fun _ => fun
  | [d1, d2] => { results := [.lit (.bool false)], args := [d1, d2] }
  | _ => none }
def FnExactIsPathWrongFalsely : Prop := fnExactIsPathRow.holds Try.pinned (OpenSpec.ofChange fnExactIsPathWrong)

/-- 'laws.FnExactPathDither': WHATEVER THE INPUT: true; the input reads as it did. -/
def fnExactPathDitherSpec : ChangeSpec := { name := "fnExactPathDither", fn := fun _ => fun
  | [d1, d2] => { results := [.lit (.bool true)], args := [d1, d2] }
  | _ => none }
def fnExactPathDitherRow : OpenClaim := { program := "ytjoanfgchapbaaa", sum := "774adaa0534af561b9edbe46f95b1497bc25fe49db16f4f78c62422a9b1b68ba", func := "loop.example/g01129/laws.FnExactPathDither", spec := "fnExactPathDither", unfollowed := true, recurses := true, plainKeys := false, apart := false }
def FnExactPathDitherSaid : Prop := fnExactPathDitherRow.holds Try.pinned (OpenSpec.ofChange fnExactPathDitherSpec)

/-- ITS FALSE NEIGHBOUR: 'it returns false'. Refute it at one input. -/
def fnExactPathDitherWrong : ChangeSpec := { name := "fnExactPathDither", fn := fun _ => fun
  | [d1, d2] => { results := [.lit (.bool false)], args := [d1, d2] }
  | _ => none }
def FnExactPathDitherWrongFalsely : Prop := fnExactPathDitherRow.holds Try.pinned (OpenSpec.ofChange fnExactPathDitherWrong)

/-- 'laws.FnExactBlockErrors': WHATEVER THE INPUT: true; the input reads as it did. -/
def fnExactBlockErrorsSpec : ChangeSpec := { name := "fnExactBlockErrors", fn := fun _ => fun
  | [d1, d2, d3] => { results := [.lit (.bool true)], args := [d1, d2, d3] }
  | _ => none }
def fnExactBlockErrorsRow : OpenClaim := { program := "ytjoanfgchapbaaa", sum := "774adaa0534af561b9edbe46f95b1497bc25fe49db16f4f78c62422a9b1b68ba", func := "loop.example/g01129/laws.FnExactBlockErrors", spec := "fnExactBlockErrors", unfollowed := true, recurses := true, plainKeys := false, apart := false }
def FnExactBlockErrorsSaid : Prop := fnExactBlockErrorsRow.holds Try.pinned (OpenSpec.ofChange fnExactBlockErrorsSpec)

/-- ITS FALSE NEIGHBOUR: 'it returns false'. Refute it at one input. -/
def fnExactBlockErrorsWrong : ChangeSpec := { name := "fnExactBlockErrors", fn := fun _ => fun
  | [d1, d2, d3] => { results := [.lit (.bool false)], args := [d1, d2, d3] }
  | _ => none }
def FnExactBlockErrorsWrongFalsely : Prop := fnExactBlockErrorsRow.holds Try.pinned (OpenSpec.ofChange fnExactBlockErrorsWrong)

/- THE SECOND FORM. 'bulk': how many values and letters a reading holds, each counted each time it is reached (what is shared counts as often as it is met; a slice's spare places count too). A statement '..UptoSaid' is the law's where the arguments, and the package variables that the reading takes, are together of bulk at most 1048576: NARROWER than '..Said'. Prove '..Said' where nothing that the law and all that it calls make is longer than what came in: it says more and counts as full. Else prove '..UptoSaid'. A law counts once. -/
mutual
def uptoBulk {H : Type} : DataW H → Nat
  | .lit (.string bytes) => bytes.length + 1
  | .lit _ => 1
  | .nil => 1
  | .ptr d => uptoBulk d + 1
  | .slice elems spare => uptoBulkAll elems + uptoBulkAll spare + 1
  | .agg parts => uptoBulkAll parts + 1
  | .iface _ d => uptoBulk d + 1
  | .map entries => uptoBulkEntries entries + 1
  | .held _ => 1
def uptoBulkAll {H : Type} : List (DataW H) → Nat
  | [] => 0
  | d :: r => uptoBulk d + uptoBulkAll r
def uptoBulkEntries {H : Type} : List (Lit × DataW H) → Nat
  | [] => 0
  | x :: r => uptoBulkEntry x + uptoBulkEntries r
def uptoBulkEntry {H : Type} : Lit × DataW H → Nat
  | (.string bytes, d) => bytes.length + uptoBulk d + 1
  | (_, d) => uptoBulk d + 1
 end
def uptoSmall : (H : Type) → List (DataW H) → Bool := fun _ ds => decide (uptoBulkAll ds ≤ 1048576)
def OpenSpec.upto (s : _root_.Go.ChangeSpec) : _root_.Go.OpenSpec := { _root_.Go.OpenSpec.ofChange s with cond := some uptoSmall }

/-- 'laws.FnExactValidPicture', WHERE WHAT IT READS IS OF BULK AT MOST 1048576: true; the input reads as it did. -/
def fnExactValidPictureUptoRow : OpenClaim := { program := "ytjoanfgchapbaaa", sum := "774adaa0534af561b9edbe46f95b1497bc25fe49db16f4f78c62422a9b1b68ba", func := "loop.example/g01129/laws.FnExactValidPicture", spec := "fnExactValidPicture", unfollowed := true, recurses := true, plainKeys := false, apart := false, narrowed := true }
def FnExactValidPictureUptoSaid : Prop := fnExactValidPictureUptoRow.holds Try.pinned (OpenSpec.upto fnExactValidPictureSpec)

/-- 'laws.FnExactIsMask', WHERE WHAT IT READS IS OF BULK AT MOST 1048576: true; the input reads as it did. -/
def fnExactIsMaskUptoRow : OpenClaim := { program := "ytjoanfgchapbaaa", sum := "774adaa0534af561b9edbe46f95b1497bc25fe49db16f4f78c62422a9b1b68ba", func := "loop.example/g01129/laws.FnExactIsMask", spec := "fnExactIsMask", unfollowed := true, recurses := true, plainKeys := false, apart := false, narrowed := true }
def FnExactIsMaskUptoSaid : Prop := fnExactIsMaskUptoRow.holds Try.pinned (OpenSpec.upto fnExactIsMaskSpec)

/-- 'laws.FnExactDoublingMask', WHERE WHAT IT READS IS OF BULK AT MOST 1048576: true; the input reads as it did. -/
def fnExactDoublingMaskUptoRow : OpenClaim := { program := "ytjoanfgchapbaaa", sum := "774adaa0534af561b9edbe46f95b1497bc25fe49db16f4f78c62422a9b1b68ba", func := "loop.example/g01129/laws.FnExactDoublingMask", spec := "fnExactDoublingMask", plainKeys := false, apart := false, narrowed := true }
def FnExactDoublingMaskUptoSaid : Prop := fnExactDoublingMaskUptoRow.holds Try.pinned (OpenSpec.upto fnExactDoublingMaskSpec)

/-- 'laws.FnExactSpreadOf', WHERE WHAT IT READS IS OF BULK AT MOST 1048576: true; the input reads as it did. -/
def fnExactSpreadOfUptoRow : OpenClaim := { program := "ytjoanfgchapbaaa", sum := "774adaa0534af561b9edbe46f95b1497bc25fe49db16f4f78c62422a9b1b68ba", func := "loop.example/g01129/laws.FnExactSpreadOf", spec := "fnExactSpreadOf", unfollowed := true, recurses := true, plainKeys := false, apart := false, narrowed := true }
def FnExactSpreadOfUptoSaid : Prop := fnExactSpreadOfUptoRow.holds Try.pinned (OpenSpec.upto fnExactSpreadOfSpec)

/-- 'laws.FnExactMaskDither', WHERE WHAT IT READS IS OF BULK AT MOST 1048576: true; the input reads as it did. -/
def fnExactMaskDitherUptoRow : OpenClaim := { program := "ytjoanfgchapbaaa", sum := "774adaa0534af561b9edbe46f95b1497bc25fe49db16f4f78c62422a9b1b68ba", func := "loop.example/g01129/laws.FnExactMaskDither", spec := "fnExactMaskDither", unfollowed := true, recurses := true, plainKeys := false, apart := false, narrowed := true }
def FnExactMaskDitherUptoSaid : Prop := fnExactMaskDitherUptoRow.holds Try.pinned (OpenSpec.upto fnExactMaskDitherSpec)

/-- 'laws.FnExactValidKernel', WHERE WHAT IT READS IS OF BULK AT MOST 1048576: true; the input reads as it did. -/
def fnExactValidKernelUptoRow : OpenClaim := { program := "ytjoanfgchapbaaa", sum := "774adaa0534af561b9edbe46f95b1497bc25fe49db16f4f78c62422a9b1b68ba", func := "loop.example/g01129/laws.FnExactValidKernel", spec := "fnExactValidKernel", plainKeys := false, apart := false, narrowed := true }
def FnExactValidKernelUptoSaid : Prop := fnExactValidKernelUptoRow.holds Try.pinned (OpenSpec.upto fnExactValidKernelSpec)

/-- 'laws.FnExactKernelOf', WHERE WHAT IT READS IS OF BULK AT MOST 1048576: true; the input reads as it did. -/
def fnExactKernelOfUptoRow : OpenClaim := { program := "ytjoanfgchapbaaa", sum := "774adaa0534af561b9edbe46f95b1497bc25fe49db16f4f78c62422a9b1b68ba", func := "loop.example/g01129/laws.FnExactKernelOf", spec := "fnExactKernelOf", plainKeys := false, apart := false, narrowed := true }
def FnExactKernelOfUptoSaid : Prop := fnExactKernelOfUptoRow.holds Try.pinned (OpenSpec.upto fnExactKernelOfSpec)

/-- 'laws.FnExactDiffuseDither', WHERE WHAT IT READS IS OF BULK AT MOST 1048576: true; the input reads as it did. -/
def fnExactDiffuseDitherUptoRow : OpenClaim := { program := "ytjoanfgchapbaaa", sum := "774adaa0534af561b9edbe46f95b1497bc25fe49db16f4f78c62422a9b1b68ba", func := "loop.example/g01129/laws.FnExactDiffuseDither", spec := "fnExactDiffuseDither", unfollowed := true, recurses := true, plainKeys := false, apart := false, narrowed := true }
def FnExactDiffuseDitherUptoSaid : Prop := fnExactDiffuseDitherUptoRow.holds Try.pinned (OpenSpec.upto fnExactDiffuseDitherSpec)

/-- 'laws.FnExactHilbertPath', WHERE WHAT IT READS IS OF BULK AT MOST 1048576: true; the input reads as it did. -/
def fnExactHilbertPathUptoRow : OpenClaim := { program := "ytjoanfgchapbaaa", sum := "774adaa0534af561b9edbe46f95b1497bc25fe49db16f4f78c62422a9b1b68ba", func := "loop.example/g01129/laws.FnExactHilbertPath", spec := "fnExactHilbertPath", unfollowed := true, recurses := true, plainKeys := false, apart := false, narrowed := true }
def FnExactHilbertPathUptoSaid : Prop := fnExactHilbertPathUptoRow.holds Try.pinned (OpenSpec.upto fnExactHilbertPathSpec)

/-- 'laws.FnExactIsPath', WHERE WHAT IT READS IS OF BULK AT MOST 1048576: true; the input reads as it did. -/
def fnExactIsPathUptoRow : OpenClaim := { program := "ytjoanfgchapbaaa", sum := "774adaa0534af561b9edbe46f95b1497bc25fe49db16f4f78c62422a9b1b68ba", func := "loop.example/g01129/laws.FnExactIsPath", spec := "fnExactIsPath", unfollowed := true, recurses := true, plainKeys := false, apart := false, narrowed := true }
def FnExactIsPathUptoSaid : Prop := fnExactIsPathUptoRow.holds Try.pinned (OpenSpec.upto fnExactIsPathSpec)

/-- 'laws.FnExactPathDither', WHERE WHAT IT READS IS OF BULK AT MOST 1048576: true; the input reads as it did. -/
def fnExactPathDitherUptoRow : OpenClaim := { program := "ytjoanfgchapbaaa", sum := "774adaa0534af561b9edbe46f95b1497bc25fe49db16f4f78c62422a9b1b68ba", func := "loop.example/g01129/laws.FnExactPathDither", spec := "fnExactPathDither", unfollowed := true, recurses := true, plainKeys := false, apart := false, narrowed := true }
def FnExactPathDitherUptoSaid : Prop := fnExactPathDitherUptoRow.holds Try.pinned (OpenSpec.upto fnExactPathDitherSpec)

/-- 'laws.FnExactBlockErrors', WHERE WHAT IT READS IS OF BULK AT MOST 1048576: true; the input reads as it did. -/
def fnExactBlockErrorsUptoRow : OpenClaim := { program := "ytjoanfgchapbaaa", sum := "774adaa0534af561b9edbe46f95b1497bc25fe49db16f4f78c62422a9b1b68ba", func := "loop.example/g01129/laws.FnExactBlockErrors", spec := "fnExactBlockErrors", unfollowed := true, recurses := true, plainKeys := false, apart := false, narrowed := true }
def FnExactBlockErrorsUptoSaid : Prop := fnExactBlockErrorsUptoRow.holds Try.pinned (OpenSpec.upto fnExactBlockErrorsSpec)

end Rows
end Go.Proofs.Ytjoanfgchapbaaa
