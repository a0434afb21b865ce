/-
  No cell of these rows narrows 'for every input' (looked for: loops, veiled, ifaces, maps, wideKeys, modest, calm, conditions, laid).
  DERIVED. THE GIVEN ROWS OF THIS SEAT. 7 by the template 'for every input the law returns true; each argument reads behind the call as it read before'; 0 by the template 'total and deterministic' (their statements: YtanfbddmigbncaaTotals.lean).
  GIVEN WITH THE SEED: the statements are not yours to turn. If you find one false, say at which input.
  Laid BY PROGRAM, IN A SANDBOX (cutbox-rows.mjs): the forced cells as the released guide's own fill.sh prints them over the translation df84eb128b8f68aa… (all of the seat's roots in one cut). By AI agents, Wed Nov 11 2026. No macro, syntax, notation, axiom, sorry.
-/
import Derived.Test.YtanfbddmigbncaaChecked
import GoSem.Claim
import GoSem.ClaimJoined
import GoSem.ClaimMapViews
import Derived.JoinedTies
import Derived.KernelRfl
namespace Go.Proofs.Ytanfbddmigbncaa
/- THE CELL 'sum', in the pinned program and in every row, IS THE sha256 OF THE DUMP (.gsa) THAT YtanfbddmigbncaaProg.lean LOADS. Nothing in Lean hashes anything: it is a label: what it is worth is what the hold of that sum in a sandbox is worth. -/
noncomputable def Try.pinned : Pinned := { name := "ytanfbddmigbncaa", sum := "df84eb128b8f68aaf9edc175745d46b800e745100b63e497e80ddd80567a3661", checked := Try.checked }
namespace Rows
def none {H : Type} : Left H := { results := [], args := [] }

/-- 'laws.FnRunning': WHATEVER THE INPUT: true; the input reads as it did. -/
def fnRunningSpec : ChangeSpec := { name := "fnRunning", fn := fun _ => fun
  | [d1, d2] => { results := [.lit (.bool true)], args := [d1, d2] }
  | _ => none }
def fnRunningRow : OpenClaim := { program := "ytanfbddmigbncaa", sum := "df84eb128b8f68aaf9edc175745d46b800e745100b63e497e80ddd80567a3661", func := "loop.example/g01129/laws.FnRunning", spec := "fnRunning", unfollowed := true, recurses := true, plainKeys := false, leaving := true, apart := false }
def FnRunningSaid : Prop := fnRunningRow.holds Try.pinned (OpenSpec.ofChange fnRunningSpec)

/-- ITS FALSE NEIGHBOUR: 'it returns false'. Refute it at one input. -/
def fnRunningWrong : ChangeSpec := { name := "fnRunning", fn := fun _ => fun
  | [d1, d2] => { results := [.lit (.bool false)], args := [d1, d2] }
  | _ => none }
def FnRunningWrongFalsely : Prop := fnRunningRow.holds Try.pinned (OpenSpec.ofChange fnRunningWrong)

/-- 'laws.FnFeedback': WHATEVER THE INPUT: true; the input reads as it did. -/
def fnFeedbackSpec : ChangeSpec := { name := "fnFeedback", fn := fun _ => fun
  | [d1, d2] => { results := [.lit (.bool true)], args := [d1, d2] }
  | _ => none }
def fnFeedbackRow : OpenClaim := { program := "ytanfbddmigbncaa", sum := "df84eb128b8f68aaf9edc175745d46b800e745100b63e497e80ddd80567a3661", func := "loop.example/g01129/laws.FnFeedback", spec := "fnFeedback", unfollowed := true, recurses := true, plainKeys := false, leaving := true, apart := false }
def FnFeedbackSaid : Prop := fnFeedbackRow.holds Try.pinned (OpenSpec.ofChange fnFeedbackSpec)

/-- ITS FALSE NEIGHBOUR: 'it returns false'. Refute it at one input. -/
def fnFeedbackWrong : ChangeSpec := { name := "fnFeedback", fn := fun _ => fun
  | [d1, d2] => { results := [.lit (.bool false)], args := [d1, d2] }
  | _ => none }
def FnFeedbackWrongFalsely : Prop := fnFeedbackRow.holds Try.pinned (OpenSpec.ofChange fnFeedbackWrong)

/-- 'laws.FnExactIsSeatsBy': WHATEVER THE INPUT: true; the input reads as it did. -/
def fnExactIsSeatsBySpec : ChangeSpec := { name := "fnExactIsSeatsBy", fn := fun _ => fun
  | [d1, d2, d3] => { results := [.lit (.bool true)], args := [d1, d2, d3] }
  | _ => none }
def fnExactIsSeatsByRow : OpenClaim := { program := "ytanfbddmigbncaa", sum := "df84eb128b8f68aaf9edc175745d46b800e745100b63e497e80ddd80567a3661", func := "loop.example/g01129/laws.FnExactIsSeatsBy", spec := "fnExactIsSeatsBy", unfollowed := true, recurses := true, plainKeys := false, leaving := true, apart := false }
def FnExactIsSeatsBySaid : Prop := fnExactIsSeatsByRow.holds Try.pinned (OpenSpec.ofChange fnExactIsSeatsBySpec)

/-- ITS FALSE NEIGHBOUR: 'it returns false'. Refute it at one input. -/
def fnExactIsSeatsByWrong : ChangeSpec := { name := "fnExactIsSeatsBy", fn := fun _ => fun
  | [d1, d2, d3] => { results := [.lit (.bool false)], args := [d1, d2, d3] }
  | _ => none }
def FnExactIsSeatsByWrongFalsely : Prop := fnExactIsSeatsByRow.holds Try.pinned (OpenSpec.ofChange fnExactIsSeatsByWrong)

/-- 'laws.FnExactCountRunning': WHATEVER THE INPUT: true; the input reads as it did. -/
def fnExactCountRunningSpec : ChangeSpec := { name := "fnExactCountRunning", fn := fun _ => fun
  | [d] => { results := [.lit (.bool true)], args := [d] }
  | _ => none }
def fnExactCountRunningRow : OpenClaim := { program := "ytanfbddmigbncaa", sum := "df84eb128b8f68aaf9edc175745d46b800e745100b63e497e80ddd80567a3661", func := "loop.example/g01129/laws.FnExactCountRunning", spec := "fnExactCountRunning", unfollowed := true, recurses := true, plainKeys := false, leaving := true, apart := false }
def FnExactCountRunningSaid : Prop := fnExactCountRunningRow.holds Try.pinned (OpenSpec.ofChange fnExactCountRunningSpec)

/-- ITS FALSE NEIGHBOUR: 'it returns false'. Refute it at one input. -/
def fnExactCountRunningWrong : ChangeSpec := { name := "fnExactCountRunning", fn := fun _ => fun
  | [d] => { results := [.lit (.bool false)], args := [d] }
  | _ => none }
def FnExactCountRunningWrongFalsely : Prop := fnExactCountRunningRow.holds Try.pinned (OpenSpec.ofChange fnExactCountRunningWrong)

/-- 'laws.FnExactBestRunning': WHATEVER THE INPUT: true; the input reads as it did. -/
def fnExactBestRunningSpec : ChangeSpec := { name := "fnExactBestRunning", fn := fun _ => fun
  | [d] => { results := [.lit (.bool true)], args := [d] }
  | _ => none }
def fnExactBestRunningRow : OpenClaim := { program := "ytanfbddmigbncaa", sum := "df84eb128b8f68aaf9edc175745d46b800e745100b63e497e80ddd80567a3661", func := "loop.example/g01129/laws.FnExactBestRunning", spec := "fnExactBestRunning", unfollowed := true, recurses := true, plainKeys := false, leaving := true, apart := false }
def FnExactBestRunningSaid : Prop := fnExactBestRunningRow.holds Try.pinned (OpenSpec.ofChange fnExactBestRunningSpec)

/-- ITS FALSE NEIGHBOUR: 'it returns false'. Refute it at one input. -/
def fnExactBestRunningWrong : ChangeSpec := { name := "fnExactBestRunning", fn := fun _ => fun
  | [d] => { results := [.lit (.bool false)], args := [d] }
  | _ => none }
def FnExactBestRunningWrongFalsely : Prop := fnExactBestRunningRow.holds Try.pinned (OpenSpec.ofChange fnExactBestRunningWrong)

/-- 'laws.FnExactFeedbackOf': WHATEVER THE INPUT: true; the input reads as it did. -/
def fnExactFeedbackOfSpec : ChangeSpec := { name := "fnExactFeedbackOf", fn := fun _ => fun
  | [d1, d2, d3] => { results := [.lit (.bool true)], args := [d1, d2, d3] }
  | _ => none }
def fnExactFeedbackOfRow : OpenClaim := { program := "ytanfbddmigbncaa", sum := "df84eb128b8f68aaf9edc175745d46b800e745100b63e497e80ddd80567a3661", func := "loop.example/g01129/laws.FnExactFeedbackOf", spec := "fnExactFeedbackOf", unfollowed := true, recurses := true, plainKeys := false, leaving := true, apart := false }
def FnExactFeedbackOfSaid : Prop := fnExactFeedbackOfRow.holds Try.pinned (OpenSpec.ofChange fnExactFeedbackOfSpec)

/-- ITS FALSE NEIGHBOUR: 'it returns false'. Refute it at one input. -/
def fnExactFeedbackOfWrong : ChangeSpec := { name := "fnExactFeedbackOf", fn := fun _ => fun
  | [d1, d2, d3] => { results := [.lit (.bool false)], args := [d1, d2, d3] }
  | _ => none }
def FnExactFeedbackOfWrongFalsely : Prop := fnExactFeedbackOfRow.holds Try.pinned (OpenSpec.ofChange fnExactFeedbackOfWrong)

/-- 'laws.FnExactSecondOf': WHATEVER THE INPUT: true; the input reads as it did. -/
def fnExactSecondOfSpec : ChangeSpec := { name := "fnExactSecondOf", fn := fun _ => fun
  | [d1, d2, d3] => { results := [.lit (.bool true)], args := [d1, d2, d3] }
  | _ => none }
def fnExactSecondOfRow : OpenClaim := { program := "ytanfbddmigbncaa", sum := "df84eb128b8f68aaf9edc175745d46b800e745100b63e497e80ddd80567a3661", func := "loop.example/g01129/laws.FnExactSecondOf", spec := "fnExactSecondOf", unfollowed := true, recurses := true, plainKeys := false, leaving := true, apart := false }
def FnExactSecondOfSaid : Prop := fnExactSecondOfRow.holds Try.pinned (OpenSpec.ofChange fnExactSecondOfSpec)

/-- ITS FALSE NEIGHBOUR: 'it returns false'. Refute it at one input. -/
def fnExactSecondOfWrong : ChangeSpec := { name := "fnExactSecondOf", fn := fun _ => fun
  | [d1, d2, d3] => { results := [.lit (.bool false)], args := [d1, d2, d3] }
  | _ => none }
def FnExactSecondOfWrongFalsely : Prop := fnExactSecondOfRow.holds Try.pinned (OpenSpec.ofChange fnExactSecondOfWrong)

/- THE SECOND FORM. 'bulk': how many values and letters a reading holds, each counted each time it is reached (what is shared counts as often as it is met; a slice's spare places count too). A statement '..UptoSaid' is the law's where the arguments, and the package variables that the reading takes, are together of bulk at most 1048576: NARROWER than '..Said'. Prove '..Said' where nothing that the law and all that it calls make is longer than what came in: it says more and counts as full. Else prove '..UptoSaid'. A law counts once. -/
mutual
def uptoBulk {H : Type} : DataW H → Nat
  | .lit (.string bytes) => bytes.length + 1
  | .lit _ => 1
  | .nil => 1
  | .ptr d => uptoBulk d + 1
  | .slice elems spare => uptoBulkAll elems + uptoBulkAll spare + 1
  | .agg parts => uptoBulkAll parts + 1
  | .iface _ d => uptoBulk d + 1
  | .map entries => uptoBulkEntries entries + 1
  | .held _ => 1
def uptoBulkAll {H : Type} : List (DataW H) → Nat
  | [] => 0
  | d :: r => uptoBulk d + uptoBulkAll r
def uptoBulkEntries {H : Type} : List (Lit × DataW H) → Nat
  | [] => 0
  | x :: r => uptoBulkEntry x + uptoBulkEntries r
def uptoBulkEntry {H : Type} : Lit × DataW H → Nat
  | (.string bytes, d) => bytes.length + uptoBulk d + 1
  | (_, d) => uptoBulk d + 1
 end
def uptoSmall : (H : Type) → List (DataW H) → Bool := fun _ ds => decide (uptoBulkAll ds ≤ 1048576)
def OpenSpec.upto (s : _root_.Go.ChangeSpec) : _root_.Go.OpenSpec := { _root_.Go.OpenSpec.ofChange s with cond := some uptoSmall }

/-- 'laws.FnRunning', WHERE WHAT IT READS IS OF BULK AT MOST 1048576: true; the input reads as it did. -/
def fnRunningUptoRow : OpenClaim := { program := "ytanfbddmigbncaa", sum := "df84eb128b8f68aaf9edc175745d46b800e745100b63e497e80ddd80567a3661", func := "loop.example/g01129/laws.FnRunning", spec := "fnRunning", unfollowed := true, recurses := true, plainKeys := false, leaving := true, apart := false, narrowed := true }
def FnRunningUptoSaid : Prop := fnRunningUptoRow.holds Try.pinned (OpenSpec.upto fnRunningSpec)

/-- 'laws.FnFeedback', WHERE WHAT IT READS IS OF BULK AT MOST 1048576: true; the input reads as it did. -/
def fnFeedbackUptoRow : OpenClaim := { program := "ytanfbddmigbncaa", sum := "df84eb128b8f68aaf9edc175745d46b800e745100b63e497e80ddd80567a3661", func := "loop.example/g01129/laws.FnFeedback", spec := "fnFeedback", unfollowed := true, recurses := true, plainKeys := false, leaving := true, apart := false, narrowed := true }
def FnFeedbackUptoSaid : Prop := fnFeedbackUptoRow.holds Try.pinned (OpenSpec.upto fnFeedbackSpec)

/-- 'laws.FnExactIsSeatsBy', WHERE WHAT IT READS IS OF BULK AT MOST 1048576: true; the input reads as it did. -/
def fnExactIsSeatsByUptoRow : OpenClaim := { program := "ytanfbddmigbncaa", sum := "df84eb128b8f68aaf9edc175745d46b800e745100b63e497e80ddd80567a3661", func := "loop.example/g01129/laws.FnExactIsSeatsBy", spec := "fnExactIsSeatsBy", unfollowed := true, recurses := true, plainKeys := false, leaving := true, apart := false, narrowed := true }
def FnExactIsSeatsByUptoSaid : Prop := fnExactIsSeatsByUptoRow.holds Try.pinned (OpenSpec.upto fnExactIsSeatsBySpec)

/-- 'laws.FnExactCountRunning', WHERE WHAT IT READS IS OF BULK AT MOST 1048576: true; the input reads as it did. -/
def fnExactCountRunningUptoRow : OpenClaim := { program := "ytanfbddmigbncaa", sum := "df84eb128b8f68aaf9edc175745d46b800e745100b63e497e80ddd80567a3661", func := "loop.example/g01129/laws.FnExactCountRunning", spec := "fnExactCountRunning", unfollowed := true, recurses := true, plainKeys := false, leaving := true, apart := false, narrowed := true }
def FnExactCountRunningUptoSaid : Prop := fnExactCountRunningUptoRow.holds Try.pinned (OpenSpec.upto fnExactCountRunningSpec)

/-- 'laws.FnExactBestRunning', WHERE WHAT IT READS IS OF BULK AT MOST 1048576: true; the input reads as it did. -/
def fnExactBestRunningUptoRow : OpenClaim := { program := "ytanfbddmigbncaa", sum := "df84eb128b8f68aaf9edc175745d46b800e745100b63e497e80ddd80567a3661", func := "loop.example/g01129/laws.FnExactBestRunning", spec := "fnExactBestRunning", unfollowed := true, recurses := true, plainKeys := false, leaving := true, apart := false, narrowed := true }
def FnExactBestRunningUptoSaid : Prop := fnExactBestRunningUptoRow.holds Try.pinned (OpenSpec.upto fnExactBestRunningSpec)

/-- 'laws.FnExactFeedbackOf', WHERE WHAT IT READS IS OF BULK AT MOST 1048576: true; the input reads as it did. -/
def fnExactFeedbackOfUptoRow : OpenClaim := { program := "ytanfbddmigbncaa", sum := "df84eb128b8f68aaf9edc175745d46b800e745100b63e497e80ddd80567a3661", func := "loop.example/g01129/laws.FnExactFeedbackOf", spec := "fnExactFeedbackOf", unfollowed := true, recurses := true, plainKeys := false, leaving := true, apart := false, narrowed := true }
def FnExactFeedbackOfUptoSaid : Prop := fnExactFeedbackOfUptoRow.holds Try.pinned (OpenSpec.upto fnExactFeedbackOfSpec)

/-- 'laws.FnExactSecondOf', WHERE WHAT IT READS IS OF BULK AT MOST 1048576: true; the input reads as it did. -/
def fnExactSecondOfUptoRow : OpenClaim := { program := "ytanfbddmigbncaa", sum := "df84eb128b8f68aaf9edc175745d46b800e745100b63e497e80ddd80567a3661", func := "loop.example/g01129/laws.FnExactSecondOf", spec := "fnExactSecondOf", unfollowed := true, recurses := true, plainKeys := false, leaving := true, apart := false, narrowed := true }
def FnExactSecondOfUptoSaid : Prop := fnExactSecondOfUptoRow.holds Try.pinned (OpenSpec.upto fnExactSecondOfSpec)

end Rows
end Go.Proofs.Ytanfbddmigbncaa
