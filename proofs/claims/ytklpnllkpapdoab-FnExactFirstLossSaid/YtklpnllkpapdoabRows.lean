/-
  No cell of these rows narrows 'for every input' (looked for: loops, veiled, ifaces, maps, wideKeys, modest, calm, conditions, laid).
  DERIVED. THE GIVEN ROWS OF THIS SEAT. 4 by the template 'for every input the law returns true; each argument reads behind the call as it read before'; 0 by the template 'total and deterministic' (their statements: YtklpnllkpapdoabTotals.lean).
  GIVEN WITH THE SEED: the statements are not yours to turn. If you find one false, say at which input.
  Laid BY PROGRAM, IN A SANDBOX (cutbox-rows.mjs): the forced cells as the released guide's own fill.sh prints them over the translation 8e63eb5c7f1f6a34… (all of the seat's roots in one cut). By AI agents, Wed Nov 11 2026. No macro, syntax, notation, axiom, sorry.
-/
import Derived.Test.YtklpnllkpapdoabChecked
import GoSem.Claim
import GoSem.ClaimJoined
import GoSem.ClaimMapViews
import Derived.JoinedTies
import Derived.KernelRfl
namespace Go.Proofs.Ytklpnllkpapdoab
/- THE CELL 'sum', in the pinned program and in every row, IS THE sha256 OF THE DUMP (.gsa) THAT YtklpnllkpapdoabProg.lean LOADS. Nothing in Lean hashes anything: it is a label: what it is worth is what the hold of that sum in a sandbox is worth. -/
noncomputable def Try.pinned : Pinned := { name := "ytklpnllkpapdoab", sum := "8e63eb5c7f1f6a344a3484379908b3e97466add641f9a64f7043dea2bd08df80", checked := Try.checked }
namespace Rows
def none {H : Type} : Left H := { results := [], args := [] }

/-- 'laws.FnExactQuotasOf': WHATEVER THE INPUT: true; the input reads as it did. -/
def fnExactQuotasOfSpec : ChangeSpec := { name := "fnExactQuotasOf", fn := fun _ => fun
  | [d1, d2] => { results := [.lit (.bool true)], args := [d1, d2] }
  | _ => none }
def fnExactQuotasOfRow : OpenClaim := { program := "ytklpnllkpapdoab", sum := "8e63eb5c7f1f6a344a3484379908b3e97466add641f9a64f7043dea2bd08df80", func := "loop.example/g01129/laws.FnExactQuotasOf", spec := "fnExactQuotasOf", unfollowed := true, recurses := true, apart := false }
def FnExactQuotasOfSaid : Prop := fnExactQuotasOfRow.holds Try.pinned (OpenSpec.ofChange fnExactQuotasOfSpec)

/-- ITS FALSE NEIGHBOUR: 'it returns false'. Refute it at one input. -/
def fnExactQuotasOfWrong : ChangeSpec := { name := "fnExactQuotasOf", fn := fun _ => fun
  | [d1, d2] => { results := [.lit (.bool false)], args := [d1, d2] }
  | _ => none }
def FnExactQuotasOfWrongFalsely : Prop := fnExactQuotasOfRow.holds Try.pinned (OpenSpec.ofChange fnExactQuotasOfWrong)

/-- 'laws.FnExactRemainderSeats': WHATEVER THE INPUT: true; the input reads as it did. -/
def fnExactRemainderSeatsSpec : ChangeSpec := { name := "fnExactRemainderSeats", fn := fun _ => fun
  | [d1, d2] => { results := [.lit (.bool true)], args := [d1, d2] }
  | _ => none }
def fnExactRemainderSeatsRow : OpenClaim := { program := "ytklpnllkpapdoab", sum := "8e63eb5c7f1f6a344a3484379908b3e97466add641f9a64f7043dea2bd08df80", func := "loop.example/g01129/laws.FnExactRemainderSeats", spec := "fnExactRemainderSeats", inPlace := ["internal/reflectlite.ValueOf", "internal/reflectlite.Swapper", "(internal/reflectlite.Value).Len"], unfollowed := true, recurses := true, apart := false }
def FnExactRemainderSeatsSaid : Prop := fnExactRemainderSeatsRow.holds Try.pinned (OpenSpec.ofChange fnExactRemainderSeatsSpec)

/-- ITS FALSE NEIGHBOUR: 'it returns false'. Refute it at one input. -/
def fnExactRemainderSeatsWrong : ChangeSpec := { name := "fnExactRemainderSeats", fn := fun _ => fun
  | [d1, d2] => { results := [.lit (.bool false)], args := [d1, d2] }
  | _ => none }
def FnExactRemainderSeatsWrongFalsely : Prop := fnExactRemainderSeatsRow.holds Try.pinned (OpenSpec.ofChange fnExactRemainderSeatsWrong)

/-- 'laws.FnExactOutsideQuotas': WHATEVER THE INPUT: true; the input reads as it did. -/
def fnExactOutsideQuotasSpec : ChangeSpec := { name := "fnExactOutsideQuotas", fn := fun _ => fun
  | [d1, d2] => { results := [.lit (.bool true)], args := [d1, d2] }
  | _ => none }
def fnExactOutsideQuotasRow : OpenClaim := { program := "ytklpnllkpapdoab", sum := "8e63eb5c7f1f6a344a3484379908b3e97466add641f9a64f7043dea2bd08df80", func := "loop.example/g01129/laws.FnExactOutsideQuotas", spec := "fnExactOutsideQuotas", unfollowed := true, recurses := true, apart := false }
def FnExactOutsideQuotasSaid : Prop := fnExactOutsideQuotasRow.holds Try.pinned (OpenSpec.ofChange fnExactOutsideQuotasSpec)

/-- ITS FALSE NEIGHBOUR: 'it returns false'. Refute it at one input. -/
def fnExactOutsideQuotasWrong : ChangeSpec := { name := "fnExactOutsideQuotas", fn := fun _ => fun
  | [d1, d2] => { results := [.lit (.bool false)], args := [d1, d2] }
  | _ => none }
def FnExactOutsideQuotasWrongFalsely : Prop := fnExactOutsideQuotasRow.holds Try.pinned (OpenSpec.ofChange fnExactOutsideQuotasWrong)

/-- 'laws.FnExactFirstLoss': WHATEVER THE INPUT: true; the input reads as it did. -/
def fnExactFirstLossSpec : ChangeSpec := { name := "fnExactFirstLoss", fn := fun _ => fun
  | [d] => { results := [.lit (.bool true)], args := [d] }
  | _ => none }
def fnExactFirstLossRow : OpenClaim := { program := "ytklpnllkpapdoab", sum := "8e63eb5c7f1f6a344a3484379908b3e97466add641f9a64f7043dea2bd08df80", func := "loop.example/g01129/laws.FnExactFirstLoss", spec := "fnExactFirstLoss", inPlace := ["internal/reflectlite.ValueOf", "internal/reflectlite.Swapper", "(internal/reflectlite.Value).Len"], unfollowed := true, recurses := true, apart := false }
def FnExactFirstLossSaid : Prop := fnExactFirstLossRow.holds Try.pinned (OpenSpec.ofChange fnExactFirstLossSpec)

/-- ITS FALSE NEIGHBOUR: 'it returns false'. Refute it at one input. -/
def fnExactFirstLossWrong : ChangeSpec := { name := "fnExactFirstLoss", fn := fun _ => fun
  | [d] => { results := [.lit (.bool false)], args := [d] }
  | _ => none }
def FnExactFirstLossWrongFalsely : Prop := fnExactFirstLossRow.holds Try.pinned (OpenSpec.ofChange fnExactFirstLossWrong)

/- THE SECOND FORM. 'bulk': how many values and letters a reading holds, each counted each time it is reached (what is shared counts as often as it is met; a slice's spare places count too). A statement '..UptoSaid' is the law's where the arguments, and the package variables that the reading takes, are together of bulk at most 1048576: NARROWER than '..Said'. Prove '..Said' where nothing that the law and all that it calls make is longer than what came in: it says more and counts as full. Else prove '..UptoSaid'. A law counts once. -/
mutual
def uptoBulk {H : Type} : DataW H → Nat
  | .lit (.string bytes) => bytes.length + 1
  | .lit _ => 1
  | .nil => 1
  | .ptr d => uptoBulk d + 1
  | .slice elems spare => uptoBulkAll elems + uptoBulkAll spare + 1
  | .agg parts => uptoBulkAll parts + 1
  | .iface _ d => uptoBulk d + 1
  | .map entries => uptoBulkEntries entries + 1
  | .held _ => 1
def uptoBulkAll {H : Type} : List (DataW H) → Nat
  | [] => 0
  | d :: r => uptoBulk d + uptoBulkAll r
def uptoBulkEntries {H : Type} : List (Lit × DataW H) → Nat
  | [] => 0
  | x :: r => uptoBulkEntry x + uptoBulkEntries r
def uptoBulkEntry {H : Type} : Lit × DataW H → Nat
  | (.string bytes, d) => bytes.length + uptoBulk d + 1
  | (_, d) => uptoBulk d + 1
 end
def uptoSmall : (H : Type) → List (DataW H) → Bool := fun _ ds => decide (uptoBulkAll ds ≤ 1048576)
def OpenSpec.upto (s : _root_.Go.ChangeSpec) : _root_.Go.OpenSpec := { _root_.Go.OpenSpec.ofChange s with cond := some uptoSmall }

/-- 'laws.FnExactQuotasOf', WHERE WHAT IT READS IS OF BULK AT MOST 1048576: true; the input reads as it did. -/
def fnExactQuotasOfUptoRow : OpenClaim := { program := "ytklpnllkpapdoab", sum := "8e63eb5c7f1f6a344a3484379908b3e97466add641f9a64f7043dea2bd08df80", func := "loop.example/g01129/laws.FnExactQuotasOf", spec := "fnExactQuotasOf", unfollowed := true, recurses := true, apart := false, narrowed := true }
def FnExactQuotasOfUptoSaid : Prop := fnExactQuotasOfUptoRow.holds Try.pinned (OpenSpec.upto fnExactQuotasOfSpec)

/-- 'laws.FnExactRemainderSeats', WHERE WHAT IT READS IS OF BULK AT MOST 1048576: true; the input reads as it did. -/
def fnExactRemainderSeatsUptoRow : OpenClaim := { program := "ytklpnllkpapdoab", sum := "8e63eb5c7f1f6a344a3484379908b3e97466add641f9a64f7043dea2bd08df80", func := "loop.example/g01129/laws.FnExactRemainderSeats", spec := "fnExactRemainderSeats", inPlace := ["internal/reflectlite.ValueOf", "internal/reflectlite.Swapper", "(internal/reflectlite.Value).Len"], unfollowed := true, recurses := true, apart := false, narrowed := true }
def FnExactRemainderSeatsUptoSaid : Prop := fnExactRemainderSeatsUptoRow.holds Try.pinned (OpenSpec.upto fnExactRemainderSeatsSpec)

/-- 'laws.FnExactOutsideQuotas', WHERE WHAT IT READS IS OF BULK AT MOST 1048576: true; the input reads as it did. -/
def fnExactOutsideQuotasUptoRow : OpenClaim := { program := "ytklpnllkpapdoab", sum := "8e63eb5c7f1f6a344a3484379908b3e97466add641f9a64f7043dea2bd08df80", func := "loop.example/g01129/laws.FnExactOutsideQuotas", spec := "fnExactOutsideQuotas", unfollowed := true, recurses := true, apart := false, narrowed := true }
def FnExactOutsideQuotasUptoSaid : Prop := fnExactOutsideQuotasUptoRow.holds Try.pinned (OpenSpec.upto fnExactOutsideQuotasSpec)

/-- 'laws.FnExactFirstLoss', WHERE WHAT IT READS IS OF BULK AT MOST 1048576: true; the input reads as it did. -/
def fnExactFirstLossUptoRow : OpenClaim := { program := "ytklpnllkpapdoab", sum := "8e63eb5c7f1f6a344a3484379908b3e97466add641f9a64f7043dea2bd08df80", func := "loop.example/g01129/laws.FnExactFirstLoss", spec := "fnExactFirstLoss", inPlace := ["internal/reflectlite.ValueOf", "internal/reflectlite.Swapper", "(internal/reflectlite.Value).Len"], unfollowed := true, recurses := true, apart := false, narrowed := true }
def FnExactFirstLossUptoSaid : Prop := fnExactFirstLossUptoRow.holds Try.pinned (OpenSpec.upto fnExactFirstLossSpec)

end Rows
end Go.Proofs.Ytklpnllkpapdoab
