/-
  No cell of these rows narrows 'for every input' (looked for: loops, veiled, ifaces, maps, wideKeys, modest, calm, conditions, laid).
  DERIVED. THE GIVEN ROWS OF THIS SEAT. 7 by the template 'for every input the law returns true; each argument reads behind the call as it read before'; 0 by the template 'total and deterministic' (their statements: YtdekafcpbfmpeaaTotals.lean).
  GIVEN WITH THE SEED: the statements are not yours to turn. If you find one false, say at which input.
  Laid BY PROGRAM, IN A SANDBOX (cutbox-rows.mjs): the forced cells as the released guide's own fill.sh prints them over the translation 268a37bf3b84b04d… (all of the seat's roots in one cut). By AI agents, Wed Nov 11 2026. No macro, syntax, notation, axiom, sorry.
-/
import Derived.Test.YtdekafcpbfmpeaaChecked
import GoSem.Claim
import GoSem.ClaimJoined
import GoSem.ClaimMapViews
import Derived.JoinedTies
import Derived.KernelRfl
namespace Go.Proofs.Ytdekafcpbfmpeaa
/- THE CELL 'sum', in the pinned program and in every row, IS THE sha256 OF THE DUMP (.gsa) THAT YtdekafcpbfmpeaaProg.lean LOADS. Nothing in Lean hashes anything: it is a label: what it is worth is what the hold of that sum in a sandbox is worth. -/
noncomputable def Try.pinned : Pinned := { name := "ytdekafcpbfmpeaa", sum := "268a37bf3b84b04dafaec1947eb3b5e6db9c2616031d3965c4d067e94d05c38d", checked := Try.checked }
namespace Rows
def none {H : Type} : Left H := { results := [], args := [] }

/-- 'laws.FnCountedBest': WHATEVER THE INPUT: true; the input reads as it did. -/
def fnCountedBestSpec : ChangeSpec := { name := "fnCountedBest", fn := fun _ => fun
  | [d1, d2] => { results := [.lit (.bool true)], args := [d1, d2] }
  | _ => none }
def fnCountedBestRow : OpenClaim := { program := "ytdekafcpbfmpeaa", sum := "268a37bf3b84b04dafaec1947eb3b5e6db9c2616031d3965c4d067e94d05c38d", func := "loop.example/g01129/laws.FnCountedBest", spec := "fnCountedBest", unfollowed := true, recurses := true, plainKeys := false, apart := false }
def FnCountedBestSaid : Prop := fnCountedBestRow.holds Try.pinned (OpenSpec.ofChange fnCountedBestSpec)

/-- ITS FALSE NEIGHBOUR: 'it returns false'. Refute it at one input. -/
def fnCountedBestWrong : ChangeSpec := { name := "fnCountedBest", fn := fun _ => fun
  | [d1, d2] => { results := [.lit (.bool false)], args := [d1, d2] }
  | _ => none }
def FnCountedBestWrongFalsely : Prop := fnCountedBestRow.holds Try.pinned (OpenSpec.ofChange fnCountedBestWrong)

/-- 'laws.FnGrouped': WHATEVER THE INPUT: true; the input reads as it did. -/
def fnGroupedSpec : ChangeSpec := { name := "fnGrouped", fn := fun _ => fun
  | [d1, d2] => { results := [.lit (.bool true)], args := [d1, d2] }
  | _ => none }
def fnGroupedRow : OpenClaim := { program := "ytdekafcpbfmpeaa", sum := "268a37bf3b84b04dafaec1947eb3b5e6db9c2616031d3965c4d067e94d05c38d", func := "loop.example/g01129/laws.FnGrouped", spec := "fnGrouped", inPlace := ["internal/reflectlite.ValueOf", "internal/reflectlite.Swapper", "(internal/reflectlite.Value).Len"], unfollowed := true, recurses := true, plainKeys := false, apart := false }
def FnGroupedSaid : Prop := fnGroupedRow.holds Try.pinned (OpenSpec.ofChange fnGroupedSpec)

/-- ITS FALSE NEIGHBOUR: 'it returns false'. Refute it at one input. -/
def fnGroupedWrong : ChangeSpec := { name := "fnGrouped", fn := fun _ => fun
  | [d1, d2] => { results := [.lit (.bool false)], args := [d1, d2] }
  | _ => none }
def FnGroupedWrongFalsely : Prop := fnGroupedRow.holds Try.pinned (OpenSpec.ofChange fnGroupedWrong)

/-- 'laws.FnExactGroupRounding': WHATEVER THE INPUT: true; the input reads as it did. -/
def fnExactGroupRoundingSpec : ChangeSpec := { name := "fnExactGroupRounding", fn := fun _ => fun
  | [d1, d2] => { results := [.lit (.bool true)], args := [d1, d2] }
  | _ => none }
def fnExactGroupRoundingRow : OpenClaim := { program := "ytdekafcpbfmpeaa", sum := "268a37bf3b84b04dafaec1947eb3b5e6db9c2616031d3965c4d067e94d05c38d", func := "loop.example/g01129/laws.FnExactGroupRounding", spec := "fnExactGroupRounding", inPlace := ["internal/reflectlite.ValueOf", "internal/reflectlite.Swapper", "(internal/reflectlite.Value).Len"], unfollowed := true, recurses := true, plainKeys := false, apart := false }
def FnExactGroupRoundingSaid : Prop := fnExactGroupRoundingRow.holds Try.pinned (OpenSpec.ofChange fnExactGroupRoundingSpec)

/-- ITS FALSE NEIGHBOUR: 'it returns false'. Refute it at one input. -/
def fnExactGroupRoundingWrong : ChangeSpec := { name := "fnExactGroupRounding", fn := fun _ => fun
  | [d1, d2] => { results := [.lit (.bool false)], args := [d1, d2] }
  | _ => none }
def FnExactGroupRoundingWrongFalsely : Prop := fnExactGroupRoundingRow.holds Try.pinned (OpenSpec.ofChange fnExactGroupRoundingWrong)

/-- 'laws.FnExactGroupSums': WHATEVER THE INPUT: true; the input reads as it did. -/
def fnExactGroupSumsSpec : ChangeSpec := { name := "fnExactGroupSums", fn := fun _ => fun
  | [d1, d2, d3] => { results := [.lit (.bool true)], args := [d1, d2, d3] }
  | _ => none }
def fnExactGroupSumsRow : OpenClaim := { program := "ytdekafcpbfmpeaa", sum := "268a37bf3b84b04dafaec1947eb3b5e6db9c2616031d3965c4d067e94d05c38d", func := "loop.example/g01129/laws.FnExactGroupSums", spec := "fnExactGroupSums", plainKeys := false, apart := false }
def FnExactGroupSumsSaid : Prop := fnExactGroupSumsRow.holds Try.pinned (OpenSpec.ofChange fnExactGroupSumsSpec)

/-- ITS FALSE NEIGHBOUR: 'it returns false'. Refute it at one input. -/
def fnExactGroupSumsWrong : ChangeSpec := { name := "fnExactGroupSums", fn := fun _ => fun
  | [d1, d2, d3] => { results := [.lit (.bool false)], args := [d1, d2, d3] }
  | _ => none }
def FnExactGroupSumsWrongFalsely : Prop := fnExactGroupSumsRow.holds Try.pinned (OpenSpec.ofChange fnExactGroupSumsWrong)

/-- 'laws.FnRunning': WHATEVER THE INPUT: true; the input reads as it did. -/
def fnRunningSpec : ChangeSpec := { name := "fnRunning", fn := fun _ => fun
  | [d1, d2] => { results := [.lit (.bool true)], args := [d1, d2] }
  | _ => none }
def fnRunningRow : OpenClaim := { program := "ytdekafcpbfmpeaa", sum := "268a37bf3b84b04dafaec1947eb3b5e6db9c2616031d3965c4d067e94d05c38d", func := "loop.example/g01129/laws.FnRunning", spec := "fnRunning", unfollowed := true, recurses := true, plainKeys := false, apart := false }
def FnRunningSaid : Prop := fnRunningRow.holds Try.pinned (OpenSpec.ofChange fnRunningSpec)

/-- ITS FALSE NEIGHBOUR: 'it returns false'. Refute it at one input. -/
def fnRunningWrong : ChangeSpec := { name := "fnRunning", fn := fun _ => fun
  | [d1, d2] => { results := [.lit (.bool false)], args := [d1, d2] }
  | _ => none }
def FnRunningWrongFalsely : Prop := fnRunningRow.holds Try.pinned (OpenSpec.ofChange fnRunningWrong)

/-- 'laws.FnExactCountRunning': WHATEVER THE INPUT: true; the input reads as it did. -/
def fnExactCountRunningSpec : ChangeSpec := { name := "fnExactCountRunning", fn := fun _ => fun
  | [d] => { results := [.lit (.bool true)], args := [d] }
  | _ => none }
def fnExactCountRunningRow : OpenClaim := { program := "ytdekafcpbfmpeaa", sum := "268a37bf3b84b04dafaec1947eb3b5e6db9c2616031d3965c4d067e94d05c38d", func := "loop.example/g01129/laws.FnExactCountRunning", spec := "fnExactCountRunning", unfollowed := true, recurses := true, plainKeys := false, apart := false }
def FnExactCountRunningSaid : Prop := fnExactCountRunningRow.holds Try.pinned (OpenSpec.ofChange fnExactCountRunningSpec)

/-- ITS FALSE NEIGHBOUR: 'it returns false'. Refute it at one input. -/
def fnExactCountRunningWrong : ChangeSpec := { name := "fnExactCountRunning", fn := fun _ => fun
  | [d] => { results := [.lit (.bool false)], args := [d] }
  | _ => none }
def FnExactCountRunningWrongFalsely : Prop := fnExactCountRunningRow.holds Try.pinned (OpenSpec.ofChange fnExactCountRunningWrong)

/-- 'laws.FnExactBestRunning': WHATEVER THE INPUT: true; the input reads as it did. -/
def fnExactBestRunningSpec : ChangeSpec := { name := "fnExactBestRunning", fn := fun _ => fun
  | [d] => { results := [.lit (.bool true)], args := [d] }
  | _ => none }
def fnExactBestRunningRow : OpenClaim := { program := "ytdekafcpbfmpeaa", sum := "268a37bf3b84b04dafaec1947eb3b5e6db9c2616031d3965c4d067e94d05c38d", func := "loop.example/g01129/laws.FnExactBestRunning", spec := "fnExactBestRunning", unfollowed := true, recurses := true, plainKeys := false, apart := false }
def FnExactBestRunningSaid : Prop := fnExactBestRunningRow.holds Try.pinned (OpenSpec.ofChange fnExactBestRunningSpec)

/-- ITS FALSE NEIGHBOUR: 'it returns false'. Refute it at one input. -/
def fnExactBestRunningWrong : ChangeSpec := { name := "fnExactBestRunning", fn := fun _ => fun
  | [d] => { results := [.lit (.bool false)], args := [d] }
  | _ => none }
def FnExactBestRunningWrongFalsely : Prop := fnExactBestRunningRow.holds Try.pinned (OpenSpec.ofChange fnExactBestRunningWrong)

/- THE SECOND FORM. 'bulk': how many values and letters a reading holds, each counted each time it is reached (what is shared counts as often as it is met; a slice's spare places count too). A statement '..UptoSaid' is the law's where the arguments, and the package variables that the reading takes, are together of bulk at most 1048576: NARROWER than '..Said'. Prove '..Said' where nothing that the law and all that it calls make is longer than what came in: it says more and counts as full. Else prove '..UptoSaid'. A law counts once. -/
mutual
def uptoBulk {H : Type} : DataW H → Nat
  | .lit (.string bytes) => bytes.length + 1
  | .lit _ => 1
  | .nil => 1
  | .ptr d => uptoBulk d + 1
  | .slice elems spare => uptoBulkAll elems + uptoBulkAll spare + 1
  | .agg parts => uptoBulkAll parts + 1
  | .iface _ d => uptoBulk d + 1
  | .map entries => uptoBulkEntries entries + 1
  | .held _ => 1
def uptoBulkAll {H : Type} : List (DataW H) → Nat
  | [] => 0
  | d :: r => uptoBulk d + uptoBulkAll r
def uptoBulkEntries {H : Type} : List (Lit × DataW H) → Nat
  | [] => 0
  | x :: r => uptoBulkEntry x + uptoBulkEntries r
def uptoBulkEntry {H : Type} : Lit × DataW H → Nat
  | (.string bytes, d) => bytes.length + uptoBulk d + 1
  | (_, d) => uptoBulk d + 1
 end
def uptoSmall : (H : Type) → List (DataW H) → Bool := fun _ ds => decide (uptoBulkAll ds ≤ 1048576)
def OpenSpec.upto (s : _root_.Go.ChangeSpec) : _root_.Go.OpenSpec := { _root_.Go.OpenSpec.ofChange s with cond := some uptoSmall }

/-- 'laws.FnCountedBest', WHERE WHAT IT READS IS OF BULK AT MOST 1048576: true; the input reads as it did. -/
def fnCountedBestUptoRow : OpenClaim := { program := "ytdekafcpbfmpeaa", sum := "268a37bf3b84b04dafaec1947eb3b5e6db9c2616031d3965c4d067e94d05c38d", func := "loop.example/g01129/laws.FnCountedBest", spec := "fnCountedBest", unfollowed := true, recurses := true, plainKeys := false, apart := false, narrowed := true }
def FnCountedBestUptoSaid : Prop := fnCountedBestUptoRow.holds Try.pinned (OpenSpec.upto fnCountedBestSpec)

/-- 'laws.FnGrouped', WHERE WHAT IT READS IS OF BULK AT MOST 1048576: true; the input reads as it did. -/
def fnGroupedUptoRow : OpenClaim := { program := "ytdekafcpbfmpeaa", sum := "268a37bf3b84b04dafaec1947eb3b5e6db9c2616031d3965c4d067e94d05c38d", func := "loop.example/g01129/laws.FnGrouped", spec := "fnGrouped", inPlace := ["internal/reflectlite.ValueOf", "internal/reflectlite.Swapper", "(internal/reflectlite.Value).Len"], unfollowed := true, recurses := true, plainKeys := false, apart := false, narrowed := true }
def FnGroupedUptoSaid : Prop := fnGroupedUptoRow.holds Try.pinned (OpenSpec.upto fnGroupedSpec)

/-- 'laws.FnExactGroupRounding', WHERE WHAT IT READS IS OF BULK AT MOST 1048576: true; the input reads as it did. -/
def fnExactGroupRoundingUptoRow : OpenClaim := { program := "ytdekafcpbfmpeaa", sum := "268a37bf3b84b04dafaec1947eb3b5e6db9c2616031d3965c4d067e94d05c38d", func := "loop.example/g01129/laws.FnExactGroupRounding", spec := "fnExactGroupRounding", inPlace := ["internal/reflectlite.ValueOf", "internal/reflectlite.Swapper", "(internal/reflectlite.Value).Len"], unfollowed := true, recurses := true, plainKeys := false, apart := false, narrowed := true }
def FnExactGroupRoundingUptoSaid : Prop := fnExactGroupRoundingUptoRow.holds Try.pinned (OpenSpec.upto fnExactGroupRoundingSpec)

/-- 'laws.FnExactGroupSums', WHERE WHAT IT READS IS OF BULK AT MOST 1048576: true; the input reads as it did. -/
def fnExactGroupSumsUptoRow : OpenClaim := { program := "ytdekafcpbfmpeaa", sum := "268a37bf3b84b04dafaec1947eb3b5e6db9c2616031d3965c4d067e94d05c38d", func := "loop.example/g01129/laws.FnExactGroupSums", spec := "fnExactGroupSums", plainKeys := false, apart := false, narrowed := true }
def FnExactGroupSumsUptoSaid : Prop := fnExactGroupSumsUptoRow.holds Try.pinned (OpenSpec.upto fnExactGroupSumsSpec)

/-- 'laws.FnRunning', WHERE WHAT IT READS IS OF BULK AT MOST 1048576: true; the input reads as it did. -/
def fnRunningUptoRow : OpenClaim := { program := "ytdekafcpbfmpeaa", sum := "268a37bf3b84b04dafaec1947eb3b5e6db9c2616031d3965c4d067e94d05c38d", func := "loop.example/g01129/laws.FnRunning", spec := "fnRunning", unfollowed := true, recurses := true, plainKeys := false, apart := false, narrowed := true }
def FnRunningUptoSaid : Prop := fnRunningUptoRow.holds Try.pinned (OpenSpec.upto fnRunningSpec)

/-- 'laws.FnExactCountRunning', WHERE WHAT IT READS IS OF BULK AT MOST 1048576: true; the input reads as it did. -/
def fnExactCountRunningUptoRow : OpenClaim := { program := "ytdekafcpbfmpeaa", sum := "268a37bf3b84b04dafaec1947eb3b5e6db9c2616031d3965c4d067e94d05c38d", func := "loop.example/g01129/laws.FnExactCountRunning", spec := "fnExactCountRunning", unfollowed := true, recurses := true, plainKeys := false, apart := false, narrowed := true }
def FnExactCountRunningUptoSaid : Prop := fnExactCountRunningUptoRow.holds Try.pinned (OpenSpec.upto fnExactCountRunningSpec)

/-- 'laws.FnExactBestRunning', WHERE WHAT IT READS IS OF BULK AT MOST 1048576: true; the input reads as it did. -/
def fnExactBestRunningUptoRow : OpenClaim := { program := "ytdekafcpbfmpeaa", sum := "268a37bf3b84b04dafaec1947eb3b5e6db9c2616031d3965c4d067e94d05c38d", func := "loop.example/g01129/laws.FnExactBestRunning", spec := "fnExactBestRunning", unfollowed := true, recurses := true, plainKeys := false, apart := false, narrowed := true }
def FnExactBestRunningUptoSaid : Prop := fnExactBestRunningUptoRow.holds Try.pinned (OpenSpec.upto fnExactBestRunningSpec)

end Rows
end Go.Proofs.Ytdekafcpbfmpeaa
