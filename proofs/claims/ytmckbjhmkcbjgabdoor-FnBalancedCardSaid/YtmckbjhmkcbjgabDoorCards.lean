/-
  DERIVED. GIVEN WITH THE SEED: THE CARDS: each row of YtmckbjhmkcbjgabDoorRows.lean that lists a variable, with what it lists TIED to the program's text (the seventh form; the later family's looks); each row that meets fmt, with fmt's text TOLD by the authors' own Lean function (tested against real Go, not proved from fmt's source: count such statements apart). THE CARD IS WHAT COUNTS. Prove the row's statement (the work); the ties are given (YtmckbjhmkcbjgabDoorTie.lean); close each card by the builder's one call (the guide's Derived/Test/ToyasCard.lean, 'card_holds'). Laid BY PROGRAM, IN A SANDBOX (cutbox-door.mjs). By AI agents, Wed Nov 11 2026. No macro, syntax, notation, axiom, sorry.
-/
import Derived.Test.YtmckbjhmkcbjgabDoorRows
import GoSem.ClaimSeven
namespace Go.Proofs.YtmckbjhmkcbjgabDoor
namespace Rows

/-- THE TIED CARD OF 'laws.FnBalanced'. -/
def fnBalancedCard : Claim7 := { stood := { row := fnBalancedRow, standIns := [], harness := (true, "2207197ce3fbd470e07b74265bc3ec87f0e6b258e3414d5405d7c41ea0d559a6"), looks := false }, kinds := [], alts := [], laidByText := true, laidKinds := [.data, .pinned], laidTests := true, laidLooks := .later }
def FnBalancedCardSaid : Prop := Claim7.holds Tryd.pinned (.plain (OpenSpec.ofChange fnBalancedSpec)) fnBalancedCard

/-- THE TIED CARD OF 'laws.FnExactSumWeights'. -/
def fnExactSumWeightsCard : Claim7 := { stood := { row := fnExactSumWeightsRow, standIns := [], harness := (true, "2207197ce3fbd470e07b74265bc3ec87f0e6b258e3414d5405d7c41ea0d559a6"), looks := false }, kinds := [], alts := [], laidByText := true, laidKinds := [.data, .data, .data], laidTests := true, laidLooks := .later }
def FnExactSumWeightsCardSaid : Prop := Claim7.holds Tryd.pinned (.plain (OpenSpec.ofChange fnExactSumWeightsSpec)) fnExactSumWeightsCard

/-- THE SECOND FORM's CARD OF 'laws.FnBalanced'. -/
def fnBalancedUptoCard : Claim7 := { stood := { row := fnBalancedUptoRow, standIns := [], harness := (true, "2207197ce3fbd470e07b74265bc3ec87f0e6b258e3414d5405d7c41ea0d559a6"), looks := false }, kinds := [], alts := [], laidByText := true, laidKinds := [.data, .pinned], laidTests := true, laidLooks := .later }
def FnBalancedUptoCardSaid : Prop := Claim7.holds Tryd.pinned (.plain (OpenSpec.upto fnBalancedSpec)) fnBalancedUptoCard

/-- THE SECOND FORM's CARD OF 'laws.FnExactSumWeights'. -/
def fnExactSumWeightsUptoCard : Claim7 := { stood := { row := fnExactSumWeightsUptoRow, standIns := [], harness := (true, "2207197ce3fbd470e07b74265bc3ec87f0e6b258e3414d5405d7c41ea0d559a6"), looks := false }, kinds := [], alts := [], laidByText := true, laidKinds := [.data, .data, .data], laidTests := true, laidLooks := .later }
def FnExactSumWeightsUptoCardSaid : Prop := Claim7.holds Tryd.pinned (.plain (OpenSpec.upto fnExactSumWeightsSpec)) fnExactSumWeightsUptoCard
end Rows
end Go.Proofs.YtmckbjhmkcbjgabDoor
