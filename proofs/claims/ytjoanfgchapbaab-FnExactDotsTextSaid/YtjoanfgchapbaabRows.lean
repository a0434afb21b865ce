/-
  No cell of these rows narrows 'for every input' (looked for: loops, veiled, ifaces, maps, wideKeys, modest, calm, conditions, laid).
  DERIVED. THE GIVEN ROWS OF THIS SEAT. 12 by the template 'for every input the law returns true; each argument reads behind the call as it read before'; 0 by the template 'total and deterministic' (their statements: YtjoanfgchapbaabTotals.lean).
  GIVEN WITH THE SEED: the statements are not yours to turn. If you find one false, say at which input.
  Laid BY PROGRAM, IN A SANDBOX (cutbox-rows.mjs): the forced cells as the released guide's own fill.sh prints them over the translation aa9dd26eb3de2a78… (all of the seat's roots in one cut). By AI agents, Wed Nov 11 2026. No macro, syntax, notation, axiom, sorry.
-/
import Derived.Test.YtjoanfgchapbaabChecked
import GoSem.Claim
import GoSem.ClaimJoined
import GoSem.ClaimMapViews
import Derived.JoinedTies
import Derived.KernelRfl
namespace Go.Proofs.Ytjoanfgchapbaab
/- THE CELL 'sum', in the pinned program and in every row, IS THE sha256 OF THE DUMP (.gsa) THAT YtjoanfgchapbaabProg.lean LOADS. Nothing in Lean hashes anything: it is a label: what it is worth is what the hold of that sum in a sandbox is worth. -/
noncomputable def Try.pinned : Pinned := { name := "ytjoanfgchapbaab", sum := "aa9dd26eb3de2a787b987fa795ef3327a4d03f078612f97dd5ef53daf8fe39ef", checked := Try.checked }
namespace Rows
def none {H : Type} : Left H := { results := [], args := [] }

/-- 'laws.FnMasks': WHATEVER THE INPUT: true; the input reads as it did. -/
def fnMasksSpec : ChangeSpec := { name := "fnMasks", fn := fun _ => fun
  | [d1, d2] => { results := [.lit (.bool true)], args := [d1, d2] }
  | _ => none }
def fnMasksRow : OpenClaim := { program := "ytjoanfgchapbaab", sum := "aa9dd26eb3de2a787b987fa795ef3327a4d03f078612f97dd5ef53daf8fe39ef", func := "loop.example/g01129/laws.FnMasks", spec := "fnMasks", unfollowed := true, recurses := true, apart := false }
def FnMasksSaid : Prop := fnMasksRow.holds Try.pinned (OpenSpec.ofChange fnMasksSpec)

/-- ITS FALSE NEIGHBOUR: 'it returns false'. Refute it at one input. -/
def fnMasksWrong : ChangeSpec := { name := "fnMasks", fn := fun _ => fun
  | [d1, d2] => { results := [.lit (.bool false)], args := [d1, d2] }
  | _ => none }
def FnMasksWrongFalsely : Prop := fnMasksRow.holds Try.pinned (OpenSpec.ofChange fnMasksWrong)

/-- 'laws.FnPaths': WHATEVER THE INPUT: true; the input reads as it did. -/
def fnPathsSpec : ChangeSpec := { name := "fnPaths", fn := fun _ => fun
  | [d1, d2] => { results := [.lit (.bool true)], args := [d1, d2] }
  | _ => none }
def fnPathsRow : OpenClaim := { program := "ytjoanfgchapbaab", sum := "aa9dd26eb3de2a787b987fa795ef3327a4d03f078612f97dd5ef53daf8fe39ef", func := "loop.example/g01129/laws.FnPaths", spec := "fnPaths", unfollowed := true, recurses := true, apart := false }
def FnPathsSaid : Prop := fnPathsRow.holds Try.pinned (OpenSpec.ofChange fnPathsSpec)

/-- ITS FALSE NEIGHBOUR: 'it returns false'. Refute it at one input. -/
def fnPathsWrong : ChangeSpec := { name := "fnPaths", fn := fun _ => fun
  | [d1, d2] => { results := [.lit (.bool false)], args := [d1, d2] }
  | _ => none }
def FnPathsWrongFalsely : Prop := fnPathsRow.holds Try.pinned (OpenSpec.ofChange fnPathsWrong)

/-- 'laws.FnBlocks': WHATEVER THE INPUT: true; the input reads as it did. -/
def fnBlocksSpec : ChangeSpec := { name := "fnBlocks", fn := fun _ => fun
  | [d1, d2] => { results := [.lit (.bool true)], args := [d1, d2] }
  | _ => none }
def fnBlocksRow : OpenClaim := { program := "ytjoanfgchapbaab", sum := "aa9dd26eb3de2a787b987fa795ef3327a4d03f078612f97dd5ef53daf8fe39ef", func := "loop.example/g01129/laws.FnBlocks", spec := "fnBlocks", unfollowed := true, recurses := true, apart := false }
def FnBlocksSaid : Prop := fnBlocksRow.holds Try.pinned (OpenSpec.ofChange fnBlocksSpec)

/-- ITS FALSE NEIGHBOUR: 'it returns false'. Refute it at one input. -/
def fnBlocksWrong : ChangeSpec := { name := "fnBlocks", fn := fun _ => fun
  | [d1, d2] => { results := [.lit (.bool false)], args := [d1, d2] }
  | _ => none }
def FnBlocksWrongFalsely : Prop := fnBlocksRow.holds Try.pinned (OpenSpec.ofChange fnBlocksWrong)

/-- 'laws.FnSpread': WHATEVER THE INPUT: true; the input reads as it did. -/
def fnSpreadSpec : ChangeSpec := { name := "fnSpread", fn := fun _ => fun
  | [d1, d2] => { results := [.lit (.bool true)], args := [d1, d2] }
  | _ => none }
def fnSpreadRow : OpenClaim := { program := "ytjoanfgchapbaab", sum := "aa9dd26eb3de2a787b987fa795ef3327a4d03f078612f97dd5ef53daf8fe39ef", func := "loop.example/g01129/laws.FnSpread", spec := "fnSpread", unfollowed := true, recurses := true, apart := false }
def FnSpreadSaid : Prop := fnSpreadRow.holds Try.pinned (OpenSpec.ofChange fnSpreadSpec)

/-- ITS FALSE NEIGHBOUR: 'it returns false'. Refute it at one input. -/
def fnSpreadWrong : ChangeSpec := { name := "fnSpread", fn := fun _ => fun
  | [d1, d2] => { results := [.lit (.bool false)], args := [d1, d2] }
  | _ => none }
def FnSpreadWrongFalsely : Prop := fnSpreadRow.holds Try.pinned (OpenSpec.ofChange fnSpreadWrong)

/-- 'laws.FnExactValidTable': WHATEVER THE INPUT: true; the input reads as it did. -/
def fnExactValidTableSpec : ChangeSpec := { name := "fnExactValidTable", fn := fun _ => fun
  | [d] => { results := [.lit (.bool true)], args := [d] }
  | _ => none }
def fnExactValidTableRow : OpenClaim := { program := "ytjoanfgchapbaab", sum := "aa9dd26eb3de2a787b987fa795ef3327a4d03f078612f97dd5ef53daf8fe39ef", func := "loop.example/g01129/laws.FnExactValidTable", spec := "fnExactValidTable", unfollowed := true, recurses := true, apart := false }
def FnExactValidTableSaid : Prop := fnExactValidTableRow.holds Try.pinned (OpenSpec.ofChange fnExactValidTableSpec)

/-- ITS FALSE NEIGHBOUR: 'it returns false'. Refute it at one input. -/
def fnExactValidTableWrong : ChangeSpec := { name := "fnExactValidTable", fn := fun _ => fun
  | [d] => { results := [.lit (.bool false)], args := [d] }
  | _ => none }
def FnExactValidTableWrongFalsely : Prop := fnExactValidTableRow.holds Try.pinned (OpenSpec.ofChange fnExactValidTableWrong)

/-- 'laws.FnExactRowSums': WHATEVER THE INPUT: true; the input reads as it did. -/
def fnExactRowSumsSpec : ChangeSpec := { name := "fnExactRowSums", fn := fun _ => fun
  | [d] => { results := [.lit (.bool true)], args := [d] }
  | _ => none }
def fnExactRowSumsRow : OpenClaim := { program := "ytjoanfgchapbaab", sum := "aa9dd26eb3de2a787b987fa795ef3327a4d03f078612f97dd5ef53daf8fe39ef", func := "loop.example/g01129/laws.FnExactRowSums", spec := "fnExactRowSums", unfollowed := true, recurses := true, apart := false }
def FnExactRowSumsSaid : Prop := fnExactRowSumsRow.holds Try.pinned (OpenSpec.ofChange fnExactRowSumsSpec)

/-- ITS FALSE NEIGHBOUR: 'it returns false'. Refute it at one input. -/
def fnExactRowSumsWrong : ChangeSpec := { name := "fnExactRowSums", fn := fun _ => fun
  | [d] => { results := [.lit (.bool false)], args := [d] }
  | _ => none }
def FnExactRowSumsWrongFalsely : Prop := fnExactRowSumsRow.holds Try.pinned (OpenSpec.ofChange fnExactRowSumsWrong)

/-- 'laws.FnExactColumnSums': WHATEVER THE INPUT: true; the input reads as it did. -/
def fnExactColumnSumsSpec : ChangeSpec := { name := "fnExactColumnSums", fn := fun _ => fun
  | [d] => { results := [.lit (.bool true)], args := [d] }
  | _ => none }
def fnExactColumnSumsRow : OpenClaim := { program := "ytjoanfgchapbaab", sum := "aa9dd26eb3de2a787b987fa795ef3327a4d03f078612f97dd5ef53daf8fe39ef", func := "loop.example/g01129/laws.FnExactColumnSums", spec := "fnExactColumnSums", unfollowed := true, recurses := true, apart := false }
def FnExactColumnSumsSaid : Prop := fnExactColumnSumsRow.holds Try.pinned (OpenSpec.ofChange fnExactColumnSumsSpec)

/-- ITS FALSE NEIGHBOUR: 'it returns false'. Refute it at one input. -/
def fnExactColumnSumsWrong : ChangeSpec := { name := "fnExactColumnSums", fn := fun _ => fun
  | [d] => { results := [.lit (.bool false)], args := [d] }
  | _ => none }
def FnExactColumnSumsWrongFalsely : Prop := fnExactColumnSumsRow.holds Try.pinned (OpenSpec.ofChange fnExactColumnSumsWrong)

/-- 'laws.FnExactIsTableRounding': WHATEVER THE INPUT: true; the input reads as it did. -/
def fnExactIsTableRoundingSpec : ChangeSpec := { name := "fnExactIsTableRounding", fn := fun _ => fun
  | [d1, d2] => { results := [.lit (.bool true)], args := [d1, d2] }
  | _ => none }
def fnExactIsTableRoundingRow : OpenClaim := { program := "ytjoanfgchapbaab", sum := "aa9dd26eb3de2a787b987fa795ef3327a4d03f078612f97dd5ef53daf8fe39ef", func := "loop.example/g01129/laws.FnExactIsTableRounding", spec := "fnExactIsTableRounding", unfollowed := true, recurses := true, apart := false }
def FnExactIsTableRoundingSaid : Prop := fnExactIsTableRoundingRow.holds Try.pinned (OpenSpec.ofChange fnExactIsTableRoundingSpec)

/-- ITS FALSE NEIGHBOUR: 'it returns false'. Refute it at one input. -/
def fnExactIsTableRoundingWrong : ChangeSpec := { name := "fnExactIsTableRounding", fn := fun _ => fun
  | [d1, d2] => { results := [.lit (.bool false)], args := [d1, d2] }
  | _ => none }
def FnExactIsTableRoundingWrongFalsely : Prop := fnExactIsTableRoundingRow.holds Try.pinned (OpenSpec.ofChange fnExactIsTableRoundingWrong)

/-- 'laws.FnExactIsMarginRounding': WHATEVER THE INPUT: true; the input reads as it did. -/
def fnExactIsMarginRoundingSpec : ChangeSpec := { name := "fnExactIsMarginRounding", fn := fun _ => fun
  | [d1, d2, d3, d4] => { results := [.lit (.bool true)], args := [d1, d2, d3, d4] }
  | _ => none }
def fnExactIsMarginRoundingRow : OpenClaim := { program := "ytjoanfgchapbaab", sum := "aa9dd26eb3de2a787b987fa795ef3327a4d03f078612f97dd5ef53daf8fe39ef", func := "loop.example/g01129/laws.FnExactIsMarginRounding", spec := "fnExactIsMarginRounding", unfollowed := true, recurses := true, apart := false }
def FnExactIsMarginRoundingSaid : Prop := fnExactIsMarginRoundingRow.holds Try.pinned (OpenSpec.ofChange fnExactIsMarginRoundingSpec)

/-- ITS FALSE NEIGHBOUR: 'it returns false'. Refute it at one input. -/
def fnExactIsMarginRoundingWrong : ChangeSpec := { name := "fnExactIsMarginRounding", fn := fun _ => fun
  | [d1, d2, d3, d4] => { results := [.lit (.bool false)], args := [d1, d2, d3, d4] }
  | _ => none }
def FnExactIsMarginRoundingWrongFalsely : Prop := fnExactIsMarginRoundingRow.holds Try.pinned (OpenSpec.ofChange fnExactIsMarginRoundingWrong)

/-- 'laws.FnExactNeedySequence': WHATEVER THE INPUT: true; the input reads as it did. -/
def fnExactNeedySequenceSpec : ChangeSpec := { name := "fnExactNeedySequence", fn := fun _ => fun
  | [d] => { results := [.lit (.bool true)], args := [d] }
  | _ => none }
def fnExactNeedySequenceRow : OpenClaim := { program := "ytjoanfgchapbaab", sum := "aa9dd26eb3de2a787b987fa795ef3327a4d03f078612f97dd5ef53daf8fe39ef", func := "loop.example/g01129/laws.FnExactNeedySequence", spec := "fnExactNeedySequence", unfollowed := true, recurses := true, apart := false }
def FnExactNeedySequenceSaid : Prop := fnExactNeedySequenceRow.holds Try.pinned (OpenSpec.ofChange fnExactNeedySequenceSpec)

/-- ITS FALSE NEIGHBOUR: 'it returns false'. Refute it at one input. -/
def fnExactNeedySequenceWrong : ChangeSpec := { name := "fnExactNeedySequence", fn := fun _ => fun
  | [d] => { results := [.lit (.bool false)], args := [d] }
  | _ => none }
def FnExactNeedySequenceWrongFalsely : Prop := fnExactNeedySequenceRow.holds Try.pinned (OpenSpec.ofChange fnExactNeedySequenceWrong)

/-- 'laws.FnExactDotsText': WHATEVER THE INPUT: true; the input reads as it did. -/
def fnExactDotsTextSpec : ChangeSpec := { name := "fnExactDotsText", fn := fun _ => fun
  | [d] => { results := [.lit (.bool true)], args := [d] }
  | _ => none }
def fnExactDotsTextRow : OpenClaim := { program := "ytjoanfgchapbaab", sum := "aa9dd26eb3de2a787b987fa795ef3327a4d03f078612f97dd5ef53daf8fe39ef", func := "loop.example/g01129/laws.FnExactDotsText", spec := "fnExactDotsText", inPlace := ["internal/abi.NoEscape"], unfollowed := true, recurses := true, apart := false }
def FnExactDotsTextSaid : Prop := fnExactDotsTextRow.holds Try.pinned (OpenSpec.ofChange fnExactDotsTextSpec)

/-- ITS FALSE NEIGHBOUR: 'it returns false'. Refute it at one input. -/
def fnExactDotsTextWrong : ChangeSpec := { name := "fnExactDotsText", fn := fun _ => fun
  | [d] => { results := [.lit (.bool false)], args := [d] }
  | _ => none }
def FnExactDotsTextWrongFalsely : Prop := fnExactDotsTextRow.holds Try.pinned (OpenSpec.ofChange fnExactDotsTextWrong)

/-- 'laws.FnExactReadDots': WHATEVER THE INPUT: true; the input reads as it did. -/
def fnExactReadDotsSpec : ChangeSpec := { name := "fnExactReadDots", fn := fun _ => fun
  | [d] => { results := [.lit (.bool true)], args := [d] }
  | _ => none }
def fnExactReadDotsRow : OpenClaim := { program := "ytjoanfgchapbaab", sum := "aa9dd26eb3de2a787b987fa795ef3327a4d03f078612f97dd5ef53daf8fe39ef", func := "loop.example/g01129/laws.FnExactReadDots", spec := "fnExactReadDots", inPlace := ["internal/bytealg.IndexByteString", "internal/abi.NoEscape"], unfollowed := true, recurses := true, apart := false }
def FnExactReadDotsSaid : Prop := fnExactReadDotsRow.holds Try.pinned (OpenSpec.ofChange fnExactReadDotsSpec)

/-- ITS FALSE NEIGHBOUR: 'it returns false'. Refute it at one input. -/
def fnExactReadDotsWrong : ChangeSpec := { name := "fnExactReadDots", fn := fun _ => fun
  | [d] => { results := [.lit (.bool false)], args := [d] }
  | _ => none }
def FnExactReadDotsWrongFalsely : Prop := fnExactReadDotsRow.holds Try.pinned (OpenSpec.ofChange fnExactReadDotsWrong)

/- THE SECOND FORM. 'bulk': how many values and letters a reading holds, each counted each time it is reached (what is shared counts as often as it is met; a slice's spare places count too). A statement '..UptoSaid' is the law's where the arguments, and the package variables that the reading takes, are together of bulk at most 1048576: NARROWER than '..Said'. Prove '..Said' where nothing that the law and all that it calls make is longer than what came in: it says more and counts as full. Else prove '..UptoSaid'. A law counts once. -/
mutual
def uptoBulk {H : Type} : DataW H → Nat
  | .lit (.string bytes) => bytes.length + 1
  | .lit _ => 1
  | .nil => 1
  | .ptr d => uptoBulk d + 1
  | .slice elems spare => uptoBulkAll elems + uptoBulkAll spare + 1
  | .agg parts => uptoBulkAll parts + 1
  | .iface _ d => uptoBulk d + 1
  | .map entries => uptoBulkEntries entries + 1
  | .held _ => 1
def uptoBulkAll {H : Type} : List (DataW H) → Nat
  | [] => 0
  | d :: r => uptoBulk d + uptoBulkAll r
def uptoBulkEntries {H : Type} : List (Lit × DataW H) → Nat
  | [] => 0
  | x :: r => uptoBulkEntry x + uptoBulkEntries r
def uptoBulkEntry {H : Type} : Lit × DataW H → Nat
  | (.string bytes, d) => bytes.length + uptoBulk d + 1
  | (_, d) => uptoBulk d + 1
 end
def uptoSmall : (H : Type) → List (DataW H) → Bool := fun _ ds => decide (uptoBulkAll ds ≤ 1048576)
def OpenSpec.upto (s : _root_.Go.ChangeSpec) : _root_.Go.OpenSpec := { _root_.Go.OpenSpec.ofChange s with cond := some uptoSmall }

/-- 'laws.FnMasks', WHERE WHAT IT READS IS OF BULK AT MOST 1048576: true; the input reads as it did. -/
def fnMasksUptoRow : OpenClaim := { program := "ytjoanfgchapbaab", sum := "aa9dd26eb3de2a787b987fa795ef3327a4d03f078612f97dd5ef53daf8fe39ef", func := "loop.example/g01129/laws.FnMasks", spec := "fnMasks", unfollowed := true, recurses := true, apart := false, narrowed := true }
def FnMasksUptoSaid : Prop := fnMasksUptoRow.holds Try.pinned (OpenSpec.upto fnMasksSpec)

/-- 'laws.FnPaths', WHERE WHAT IT READS IS OF BULK AT MOST 1048576: true; the input reads as it did. -/
def fnPathsUptoRow : OpenClaim := { program := "ytjoanfgchapbaab", sum := "aa9dd26eb3de2a787b987fa795ef3327a4d03f078612f97dd5ef53daf8fe39ef", func := "loop.example/g01129/laws.FnPaths", spec := "fnPaths", unfollowed := true, recurses := true, apart := false, narrowed := true }
def FnPathsUptoSaid : Prop := fnPathsUptoRow.holds Try.pinned (OpenSpec.upto fnPathsSpec)

/-- 'laws.FnBlocks', WHERE WHAT IT READS IS OF BULK AT MOST 1048576: true; the input reads as it did. -/
def fnBlocksUptoRow : OpenClaim := { program := "ytjoanfgchapbaab", sum := "aa9dd26eb3de2a787b987fa795ef3327a4d03f078612f97dd5ef53daf8fe39ef", func := "loop.example/g01129/laws.FnBlocks", spec := "fnBlocks", unfollowed := true, recurses := true, apart := false, narrowed := true }
def FnBlocksUptoSaid : Prop := fnBlocksUptoRow.holds Try.pinned (OpenSpec.upto fnBlocksSpec)

/-- 'laws.FnSpread', WHERE WHAT IT READS IS OF BULK AT MOST 1048576: true; the input reads as it did. -/
def fnSpreadUptoRow : OpenClaim := { program := "ytjoanfgchapbaab", sum := "aa9dd26eb3de2a787b987fa795ef3327a4d03f078612f97dd5ef53daf8fe39ef", func := "loop.example/g01129/laws.FnSpread", spec := "fnSpread", unfollowed := true, recurses := true, apart := false, narrowed := true }
def FnSpreadUptoSaid : Prop := fnSpreadUptoRow.holds Try.pinned (OpenSpec.upto fnSpreadSpec)

/-- 'laws.FnExactValidTable', WHERE WHAT IT READS IS OF BULK AT MOST 1048576: true; the input reads as it did. -/
def fnExactValidTableUptoRow : OpenClaim := { program := "ytjoanfgchapbaab", sum := "aa9dd26eb3de2a787b987fa795ef3327a4d03f078612f97dd5ef53daf8fe39ef", func := "loop.example/g01129/laws.FnExactValidTable", spec := "fnExactValidTable", unfollowed := true, recurses := true, apart := false, narrowed := true }
def FnExactValidTableUptoSaid : Prop := fnExactValidTableUptoRow.holds Try.pinned (OpenSpec.upto fnExactValidTableSpec)

/-- 'laws.FnExactRowSums', WHERE WHAT IT READS IS OF BULK AT MOST 1048576: true; the input reads as it did. -/
def fnExactRowSumsUptoRow : OpenClaim := { program := "ytjoanfgchapbaab", sum := "aa9dd26eb3de2a787b987fa795ef3327a4d03f078612f97dd5ef53daf8fe39ef", func := "loop.example/g01129/laws.FnExactRowSums", spec := "fnExactRowSums", unfollowed := true, recurses := true, apart := false, narrowed := true }
def FnExactRowSumsUptoSaid : Prop := fnExactRowSumsUptoRow.holds Try.pinned (OpenSpec.upto fnExactRowSumsSpec)

/-- 'laws.FnExactColumnSums', WHERE WHAT IT READS IS OF BULK AT MOST 1048576: true; the input reads as it did. -/
def fnExactColumnSumsUptoRow : OpenClaim := { program := "ytjoanfgchapbaab", sum := "aa9dd26eb3de2a787b987fa795ef3327a4d03f078612f97dd5ef53daf8fe39ef", func := "loop.example/g01129/laws.FnExactColumnSums", spec := "fnExactColumnSums", unfollowed := true, recurses := true, apart := false, narrowed := true }
def FnExactColumnSumsUptoSaid : Prop := fnExactColumnSumsUptoRow.holds Try.pinned (OpenSpec.upto fnExactColumnSumsSpec)

/-- 'laws.FnExactIsTableRounding', WHERE WHAT IT READS IS OF BULK AT MOST 1048576: true; the input reads as it did. -/
def fnExactIsTableRoundingUptoRow : OpenClaim := { program := "ytjoanfgchapbaab", sum := "aa9dd26eb3de2a787b987fa795ef3327a4d03f078612f97dd5ef53daf8fe39ef", func := "loop.example/g01129/laws.FnExactIsTableRounding", spec := "fnExactIsTableRounding", unfollowed := true, recurses := true, apart := false, narrowed := true }
def FnExactIsTableRoundingUptoSaid : Prop := fnExactIsTableRoundingUptoRow.holds Try.pinned (OpenSpec.upto fnExactIsTableRoundingSpec)

/-- 'laws.FnExactIsMarginRounding', WHERE WHAT IT READS IS OF BULK AT MOST 1048576: true; the input reads as it did. -/
def fnExactIsMarginRoundingUptoRow : OpenClaim := { program := "ytjoanfgchapbaab", sum := "aa9dd26eb3de2a787b987fa795ef3327a4d03f078612f97dd5ef53daf8fe39ef", func := "loop.example/g01129/laws.FnExactIsMarginRounding", spec := "fnExactIsMarginRounding", unfollowed := true, recurses := true, apart := false, narrowed := true }
def FnExactIsMarginRoundingUptoSaid : Prop := fnExactIsMarginRoundingUptoRow.holds Try.pinned (OpenSpec.upto fnExactIsMarginRoundingSpec)

/-- 'laws.FnExactNeedySequence', WHERE WHAT IT READS IS OF BULK AT MOST 1048576: true; the input reads as it did. -/
def fnExactNeedySequenceUptoRow : OpenClaim := { program := "ytjoanfgchapbaab", sum := "aa9dd26eb3de2a787b987fa795ef3327a4d03f078612f97dd5ef53daf8fe39ef", func := "loop.example/g01129/laws.FnExactNeedySequence", spec := "fnExactNeedySequence", unfollowed := true, recurses := true, apart := false, narrowed := true }
def FnExactNeedySequenceUptoSaid : Prop := fnExactNeedySequenceUptoRow.holds Try.pinned (OpenSpec.upto fnExactNeedySequenceSpec)

/-- 'laws.FnExactDotsText', WHERE WHAT IT READS IS OF BULK AT MOST 1048576: true; the input reads as it did. -/
def fnExactDotsTextUptoRow : OpenClaim := { program := "ytjoanfgchapbaab", sum := "aa9dd26eb3de2a787b987fa795ef3327a4d03f078612f97dd5ef53daf8fe39ef", func := "loop.example/g01129/laws.FnExactDotsText", spec := "fnExactDotsText", inPlace := ["internal/abi.NoEscape"], unfollowed := true, recurses := true, apart := false, narrowed := true }
def FnExactDotsTextUptoSaid : Prop := fnExactDotsTextUptoRow.holds Try.pinned (OpenSpec.upto fnExactDotsTextSpec)

/-- 'laws.FnExactReadDots', WHERE WHAT IT READS IS OF BULK AT MOST 1048576: true; the input reads as it did. -/
def fnExactReadDotsUptoRow : OpenClaim := { program := "ytjoanfgchapbaab", sum := "aa9dd26eb3de2a787b987fa795ef3327a4d03f078612f97dd5ef53daf8fe39ef", func := "loop.example/g01129/laws.FnExactReadDots", spec := "fnExactReadDots", inPlace := ["internal/bytealg.IndexByteString", "internal/abi.NoEscape"], unfollowed := true, recurses := true, apart := false, narrowed := true }
def FnExactReadDotsUptoSaid : Prop := fnExactReadDotsUptoRow.holds Try.pinned (OpenSpec.upto fnExactReadDotsSpec)

end Rows
end Go.Proofs.Ytjoanfgchapbaab
