/-
  No cell of these rows narrows 'for every input' (looked for: loops, veiled, ifaces, maps, wideKeys, modest, calm, conditions, laid).
  DERIVED. THE GIVEN ROWS OF THIS SEAT. 4 by the template 'for every input the law returns true; each argument reads behind the call as it read before'; 0 by the template 'total and deterministic' (their statements: YtklpnllkpapdoaaTotals.lean).
  GIVEN WITH THE SEED: the statements are not yours to turn. If you find one false, say at which input.
  Laid BY PROGRAM, IN A SANDBOX (cutbox-rows.mjs): the forced cells as the released guide's own fill.sh prints them over the translation ef2bf6da2eb378e8… (all of the seat's roots in one cut). By AI agents, Wed Nov 11 2026. No macro, syntax, notation, axiom, sorry.
-/
import Derived.Test.YtklpnllkpapdoaaChecked
import GoSem.Claim
import GoSem.ClaimJoined
import GoSem.ClaimMapViews
import Derived.JoinedTies
import Derived.KernelRfl
namespace Go.Proofs.Ytklpnllkpapdoaa
/- THE CELL 'sum', in the pinned program and in every row, IS THE sha256 OF THE DUMP (.gsa) THAT YtklpnllkpapdoaaProg.lean LOADS. Nothing in Lean hashes anything: it is a label: what it is worth is what the hold of that sum in a sandbox is worth. -/
noncomputable def Try.pinned : Pinned := { name := "ytklpnllkpapdoaa", sum := "ef2bf6da2eb378e89ffa5c4d80dd42ec2cb6043d8c8ddb6ea7d1c00e7a6bab63", checked := Try.checked }
namespace Rows
def none {H : Type} : Left H := { results := [], args := [] }

/-- 'laws.FnLosses': WHATEVER THE INPUT: true; the input reads as it did. -/
def fnLossesSpec : ChangeSpec := { name := "fnLosses", fn := fun _ => fun
  | [d1, d2] => { results := [.lit (.bool true)], args := [d1, d2] }
  | _ => none }
def fnLossesRow : OpenClaim := { program := "ytklpnllkpapdoaa", sum := "ef2bf6da2eb378e89ffa5c4d80dd42ec2cb6043d8c8ddb6ea7d1c00e7a6bab63", func := "loop.example/g01129/laws.FnLosses", spec := "fnLosses", inPlace := ["internal/reflectlite.ValueOf", "internal/reflectlite.Swapper", "(internal/reflectlite.Value).Len"], unfollowed := true, recurses := true, apart := false }
def FnLossesSaid : Prop := fnLossesRow.holds Try.pinned (OpenSpec.ofChange fnLossesSpec)

/-- ITS FALSE NEIGHBOUR: 'it returns false'. Refute it at one input. -/
def fnLossesWrong : ChangeSpec := { name := "fnLosses", fn := fun _ => fun
  | [d1, d2] => { results := [.lit (.bool false)], args := [d1, d2] }
  | _ => none }
def FnLossesWrongFalsely : Prop := fnLossesRow.holds Try.pinned (OpenSpec.ofChange fnLossesWrong)

/-- 'laws.FnExactSumOf': WHATEVER THE INPUT: true; the input reads as it did. -/
def fnExactSumOfSpec : ChangeSpec := { name := "fnExactSumOf", fn := fun _ => fun
  | [d] => { results := [.lit (.bool true)], args := [d] }
  | _ => none }
def fnExactSumOfRow : OpenClaim := { program := "ytklpnllkpapdoaa", sum := "ef2bf6da2eb378e89ffa5c4d80dd42ec2cb6043d8c8ddb6ea7d1c00e7a6bab63", func := "loop.example/g01129/laws.FnExactSumOf", spec := "fnExactSumOf", apart := false }
def FnExactSumOfSaid : Prop := fnExactSumOfRow.holds Try.pinned (OpenSpec.ofChange fnExactSumOfSpec)

/-- ITS FALSE NEIGHBOUR: 'it returns false'. Refute it at one input. -/
def fnExactSumOfWrong : ChangeSpec := { name := "fnExactSumOf", fn := fun _ => fun
  | [d] => { results := [.lit (.bool false)], args := [d] }
  | _ => none }
def FnExactSumOfWrongFalsely : Prop := fnExactSumOfRow.holds Try.pinned (OpenSpec.ofChange fnExactSumOfWrong)

/-- 'laws.FnExactValidVotes': WHATEVER THE INPUT: true; the input reads as it did. -/
def fnExactValidVotesSpec : ChangeSpec := { name := "fnExactValidVotes", fn := fun _ => fun
  | [d] => { results := [.lit (.bool true)], args := [d] }
  | _ => none }
def fnExactValidVotesRow : OpenClaim := { program := "ytklpnllkpapdoaa", sum := "ef2bf6da2eb378e89ffa5c4d80dd42ec2cb6043d8c8ddb6ea7d1c00e7a6bab63", func := "loop.example/g01129/laws.FnExactValidVotes", spec := "fnExactValidVotes", apart := false }
def FnExactValidVotesSaid : Prop := fnExactValidVotesRow.holds Try.pinned (OpenSpec.ofChange fnExactValidVotesSpec)

/-- ITS FALSE NEIGHBOUR: 'it returns false'. Refute it at one input. -/
def fnExactValidVotesWrong : ChangeSpec := { name := "fnExactValidVotes", fn := fun _ => fun
  | [d] => { results := [.lit (.bool false)], args := [d] }
  | _ => none }
def FnExactValidVotesWrongFalsely : Prop := fnExactValidVotesRow.holds Try.pinned (OpenSpec.ofChange fnExactValidVotesWrong)

/-- 'laws.FnExactIsSeatsBy': WHATEVER THE INPUT: true; the input reads as it did. -/
def fnExactIsSeatsBySpec : ChangeSpec := { name := "fnExactIsSeatsBy", fn := fun _ => fun
  | [d1, d2, d3] => { results := [.lit (.bool true)], args := [d1, d2, d3] }
  | _ => none }
def fnExactIsSeatsByRow : OpenClaim := { program := "ytklpnllkpapdoaa", sum := "ef2bf6da2eb378e89ffa5c4d80dd42ec2cb6043d8c8ddb6ea7d1c00e7a6bab63", func := "loop.example/g01129/laws.FnExactIsSeatsBy", spec := "fnExactIsSeatsBy", unfollowed := true, recurses := true, apart := false }
def FnExactIsSeatsBySaid : Prop := fnExactIsSeatsByRow.holds Try.pinned (OpenSpec.ofChange fnExactIsSeatsBySpec)

/-- ITS FALSE NEIGHBOUR: 'it returns false'. Refute it at one input. -/
def fnExactIsSeatsByWrong : ChangeSpec := { name := "fnExactIsSeatsBy", fn := fun _ => fun
  | [d1, d2, d3] => { results := [.lit (.bool false)], args := [d1, d2, d3] }
  | _ => none }
def FnExactIsSeatsByWrongFalsely : Prop := fnExactIsSeatsByRow.holds Try.pinned (OpenSpec.ofChange fnExactIsSeatsByWrong)

/- THE SECOND FORM. 'bulk': how many values and letters a reading holds, each counted each time it is reached (what is shared counts as often as it is met; a slice's spare places count too). A statement '..UptoSaid' is the law's where the arguments, and the package variables that the reading takes, are together of bulk at most 1048576: NARROWER than '..Said'. Prove '..Said' where nothing that the law and all that it calls make is longer than what came in: it says more and counts as full. Else prove '..UptoSaid'. A law counts once. -/
mutual
def uptoBulk {H : Type} : DataW H → Nat
  | .lit (.string bytes) => bytes.length + 1
  | .lit _ => 1
  | .nil => 1
  | .ptr d => uptoBulk d + 1
  | .slice elems spare => uptoBulkAll elems + uptoBulkAll spare + 1
  | .agg parts => uptoBulkAll parts + 1
  | .iface _ d => uptoBulk d + 1
  | .map entries => uptoBulkEntries entries + 1
  | .held _ => 1
def uptoBulkAll {H : Type} : List (DataW H) → Nat
  | [] => 0
  | d :: r => uptoBulk d + uptoBulkAll r
def uptoBulkEntries {H : Type} : List (Lit × DataW H) → Nat
  | [] => 0
  | x :: r => uptoBulkEntry x + uptoBulkEntries r
def uptoBulkEntry {H : Type} : Lit × DataW H → Nat
  | (.string bytes, d) => bytes.length + uptoBulk d + 1
  | (_, d) => uptoBulk d + 1
 end
def uptoSmall : (H : Type) → List (DataW H) → Bool := fun _ ds => decide (uptoBulkAll ds ≤ 1048576)
def OpenSpec.upto (s : _root_.Go.ChangeSpec) : _root_.Go.OpenSpec := { _root_.Go.OpenSpec.ofChange s with cond := some uptoSmall }

/-- 'laws.FnLosses', WHERE WHAT IT READS IS OF BULK AT MOST 1048576: true; the input reads as it did. -/
def fnLossesUptoRow : OpenClaim := { program := "ytklpnllkpapdoaa", sum := "ef2bf6da2eb378e89ffa5c4d80dd42ec2cb6043d8c8ddb6ea7d1c00e7a6bab63", func := "loop.example/g01129/laws.FnLosses", spec := "fnLosses", inPlace := ["internal/reflectlite.ValueOf", "internal/reflectlite.Swapper", "(internal/reflectlite.Value).Len"], unfollowed := true, recurses := true, apart := false, narrowed := true }
def FnLossesUptoSaid : Prop := fnLossesUptoRow.holds Try.pinned (OpenSpec.upto fnLossesSpec)

/-- 'laws.FnExactSumOf', WHERE WHAT IT READS IS OF BULK AT MOST 1048576: true; the input reads as it did. -/
def fnExactSumOfUptoRow : OpenClaim := { program := "ytklpnllkpapdoaa", sum := "ef2bf6da2eb378e89ffa5c4d80dd42ec2cb6043d8c8ddb6ea7d1c00e7a6bab63", func := "loop.example/g01129/laws.FnExactSumOf", spec := "fnExactSumOf", apart := false, narrowed := true }
def FnExactSumOfUptoSaid : Prop := fnExactSumOfUptoRow.holds Try.pinned (OpenSpec.upto fnExactSumOfSpec)

/-- 'laws.FnExactValidVotes', WHERE WHAT IT READS IS OF BULK AT MOST 1048576: true; the input reads as it did. -/
def fnExactValidVotesUptoRow : OpenClaim := { program := "ytklpnllkpapdoaa", sum := "ef2bf6da2eb378e89ffa5c4d80dd42ec2cb6043d8c8ddb6ea7d1c00e7a6bab63", func := "loop.example/g01129/laws.FnExactValidVotes", spec := "fnExactValidVotes", apart := false, narrowed := true }
def FnExactValidVotesUptoSaid : Prop := fnExactValidVotesUptoRow.holds Try.pinned (OpenSpec.upto fnExactValidVotesSpec)

/-- 'laws.FnExactIsSeatsBy', WHERE WHAT IT READS IS OF BULK AT MOST 1048576: true; the input reads as it did. -/
def fnExactIsSeatsByUptoRow : OpenClaim := { program := "ytklpnllkpapdoaa", sum := "ef2bf6da2eb378e89ffa5c4d80dd42ec2cb6043d8c8ddb6ea7d1c00e7a6bab63", func := "loop.example/g01129/laws.FnExactIsSeatsBy", spec := "fnExactIsSeatsBy", unfollowed := true, recurses := true, apart := false, narrowed := true }
def FnExactIsSeatsByUptoSaid : Prop := fnExactIsSeatsByUptoRow.holds Try.pinned (OpenSpec.upto fnExactIsSeatsBySpec)

end Rows
end Go.Proofs.Ytklpnllkpapdoaa
