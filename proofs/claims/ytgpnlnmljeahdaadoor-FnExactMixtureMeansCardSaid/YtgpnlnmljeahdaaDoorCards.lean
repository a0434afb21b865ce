/-
  DERIVED. GIVEN WITH THE SEED: THE CARDS: each row of YtgpnlnmljeahdaaDoorRows.lean that lists a variable, with what it lists TIED to the program's text (the seventh form; the later family's looks); each row that meets fmt, with fmt's text TOLD by the authors' own Lean function (tested against real Go, not proved from fmt's source: count such statements apart). THE CARD IS WHAT COUNTS. Prove the row's statement (the work); the ties are given (YtgpnlnmljeahdaaDoorTie.lean); close each card by the builder's one call (the guide's Derived/Test/ToyasCard.lean, 'card_holds'). Laid BY PROGRAM, IN A SANDBOX (cutbox-door.mjs). By AI agents, Wed Nov 11 2026. No macro, syntax, notation, axiom, sorry.
-/
import Derived.Test.YtgpnlnmljeahdaaDoorRows
import GoSem.ClaimSeven
namespace Go.Proofs.YtgpnlnmljeahdaaDoor
namespace Rows

/-- THE TIED CARD OF 'laws.FnSystematic'. -/
def fnSystematicCard : Claim7 := { stood := { row := fnSystematicRow, standIns := [], harness := (true, "2e77ac393020a737a71f20e1870902f63298a4712e6a84d203ecf02464a41b06"), looks := false }, kinds := [], alts := [], laidByText := true, laidKinds := [.data, .data, .data], laidTests := true, laidLooks := .later }
def FnSystematicCardSaid : Prop := Claim7.holds Tryd.pinned (.plain (OpenSpec.ofChange fnSystematicSpec)) fnSystematicCard

/-- THE TIED CARD OF 'laws.FnTickets'. -/
def fnTicketsCard : Claim7 := { stood := { row := fnTicketsRow, standIns := [], harness := (true, "2e77ac393020a737a71f20e1870902f63298a4712e6a84d203ecf02464a41b06"), looks := false }, kinds := [], alts := [], laidByText := true, laidKinds := [.data, .data, .data], laidTests := true, laidLooks := .later }
def FnTicketsCardSaid : Prop := Claim7.holds Tryd.pinned (.plain (OpenSpec.ofChange fnTicketsSpec)) fnTicketsCard

/-- THE TIED CARD OF 'laws.FnMeans'. -/
def fnMeansCard : Claim7 := { stood := { row := fnMeansRow, standIns := [], harness := (true, "2e77ac393020a737a71f20e1870902f63298a4712e6a84d203ecf02464a41b06"), looks := false }, kinds := [], alts := [], laidByText := true, laidKinds := [.data, .data, .data], laidTests := true, laidLooks := .later }
def FnMeansCardSaid : Prop := Claim7.holds Tryd.pinned (.plain (OpenSpec.ofChange fnMeansSpec)) fnMeansCard

/-- THE TIED CARD OF 'laws.FnPermutations'. -/
def fnPermutationsCard : Claim7 := { stood := { row := fnPermutationsRow, standIns := [], harness := (true, "2e77ac393020a737a71f20e1870902f63298a4712e6a84d203ecf02464a41b06"), looks := false }, kinds := [], alts := [], laidByText := true, laidKinds := [.data, .data, .data], laidTests := true, laidLooks := .later }
def FnPermutationsCardSaid : Prop := Claim7.holds Tryd.pinned (.plain (OpenSpec.ofChange fnPermutationsSpec)) fnPermutationsCard

/-- THE TIED CARD OF 'laws.FnExactValidMixture'. -/
def fnExactValidMixtureCard : Claim7 := { stood := { row := fnExactValidMixtureRow, standIns := [], harness := (true, "2e77ac393020a737a71f20e1870902f63298a4712e6a84d203ecf02464a41b06"), looks := false }, kinds := [], alts := [], laidByText := true, laidKinds := [.data, .data, .data], laidTests := true, laidLooks := .later }
def FnExactValidMixtureCardSaid : Prop := Claim7.holds Tryd.pinned (.plain (OpenSpec.ofChange fnExactValidMixtureSpec)) fnExactValidMixtureCard

/-- THE TIED CARD OF 'laws.FnExactIsMixtureOf'. -/
def fnExactIsMixtureOfCard : Claim7 := { stood := { row := fnExactIsMixtureOfRow, standIns := [], harness := (true, "2e77ac393020a737a71f20e1870902f63298a4712e6a84d203ecf02464a41b06"), looks := false }, kinds := [], alts := [], laidByText := true, laidKinds := [.data, .data, .data], laidTests := true, laidLooks := .later }
def FnExactIsMixtureOfCardSaid : Prop := Claim7.holds Tryd.pinned (.plain (OpenSpec.ofChange fnExactIsMixtureOfSpec)) fnExactIsMixtureOfCard

/-- THE TIED CARD OF 'laws.FnExactMixtureMeans'. -/
def fnExactMixtureMeansCard : Claim7 := { stood := { row := fnExactMixtureMeansRow, standIns := [], harness := (true, "2e77ac393020a737a71f20e1870902f63298a4712e6a84d203ecf02464a41b06"), looks := false }, kinds := [], alts := [], laidByText := true, laidKinds := [.data, .data, .data], laidTests := true, laidLooks := .later }
def FnExactMixtureMeansCardSaid : Prop := Claim7.holds Tryd.pinned (.plain (OpenSpec.ofChange fnExactMixtureMeansSpec)) fnExactMixtureMeansCard

/-- THE TIED CARD OF 'laws.FnExactDrawFrom'. -/
def fnExactDrawFromCard : Claim7 := { stood := { row := fnExactDrawFromRow, standIns := [], harness := (true, "2e77ac393020a737a71f20e1870902f63298a4712e6a84d203ecf02464a41b06"), looks := false }, kinds := [], alts := [], laidByText := true, laidKinds := [.data, .data, .data], laidTests := true, laidLooks := .later }
def FnExactDrawFromCardSaid : Prop := Claim7.holds Tryd.pinned (.plain (OpenSpec.ofChange fnExactDrawFromSpec)) fnExactDrawFromCard

/-- THE TIED CARD OF 'laws.FnExactPairWeight'. -/
def fnExactPairWeightCard : Claim7 := { stood := { row := fnExactPairWeightRow, standIns := [], harness := (true, "2e77ac393020a737a71f20e1870902f63298a4712e6a84d203ecf02464a41b06"), looks := false }, kinds := [], alts := [], laidByText := true, laidKinds := [.data, .data, .data], laidTests := true, laidLooks := .later }
def FnExactPairWeightCardSaid : Prop := Claim7.holds Tryd.pinned (.plain (OpenSpec.ofChange fnExactPairWeightSpec)) fnExactPairWeightCard

/-- THE TIED CARD OF 'laws.FnExactSumWeights'. -/
def fnExactSumWeightsCard : Claim7 := { stood := { row := fnExactSumWeightsRow, standIns := [], harness := (true, "2e77ac393020a737a71f20e1870902f63298a4712e6a84d203ecf02464a41b06"), looks := false }, kinds := [], alts := [], laidByText := true, laidKinds := [.data, .data, .data], laidTests := true, laidLooks := .later }
def FnExactSumWeightsCardSaid : Prop := Claim7.holds Tryd.pinned (.plain (OpenSpec.ofChange fnExactSumWeightsSpec)) fnExactSumWeightsCard

/-- THE TIED CARD OF 'laws.FnExactSystematicMixture'. -/
def fnExactSystematicMixtureCard : Claim7 := { stood := { row := fnExactSystematicMixtureRow, standIns := [], harness := (true, "2e77ac393020a737a71f20e1870902f63298a4712e6a84d203ecf02464a41b06"), looks := false }, kinds := [], alts := [], laidByText := true, laidKinds := [.data, .data, .data], laidTests := true, laidLooks := .later }
def FnExactSystematicMixtureCardSaid : Prop := Claim7.holds Tryd.pinned (.plain (OpenSpec.ofChange fnExactSystematicMixtureSpec)) fnExactSystematicMixtureCard

/-- THE TIED CARD OF 'laws.FnExactSystematicIn'. -/
def fnExactSystematicInCard : Claim7 := { stood := { row := fnExactSystematicInRow, standIns := [], harness := (true, "2e77ac393020a737a71f20e1870902f63298a4712e6a84d203ecf02464a41b06"), looks := false }, kinds := [], alts := [], laidByText := true, laidKinds := [.data, .data, .data], laidTests := true, laidLooks := .later }
def FnExactSystematicInCardSaid : Prop := Claim7.holds Tryd.pinned (.plain (OpenSpec.ofChange fnExactSystematicInSpec)) fnExactSystematicInCard

/-- THE SECOND FORM's CARD OF 'laws.FnSystematic'. -/
def fnSystematicUptoCard : Claim7 := { stood := { row := fnSystematicUptoRow, standIns := [], harness := (true, "2e77ac393020a737a71f20e1870902f63298a4712e6a84d203ecf02464a41b06"), looks := false }, kinds := [], alts := [], laidByText := true, laidKinds := [.data, .data, .data], laidTests := true, laidLooks := .later }
def FnSystematicUptoCardSaid : Prop := Claim7.holds Tryd.pinned (.plain (OpenSpec.upto fnSystematicSpec)) fnSystematicUptoCard

/-- THE SECOND FORM's CARD OF 'laws.FnTickets'. -/
def fnTicketsUptoCard : Claim7 := { stood := { row := fnTicketsUptoRow, standIns := [], harness := (true, "2e77ac393020a737a71f20e1870902f63298a4712e6a84d203ecf02464a41b06"), looks := false }, kinds := [], alts := [], laidByText := true, laidKinds := [.data, .data, .data], laidTests := true, laidLooks := .later }
def FnTicketsUptoCardSaid : Prop := Claim7.holds Tryd.pinned (.plain (OpenSpec.upto fnTicketsSpec)) fnTicketsUptoCard

/-- THE SECOND FORM's CARD OF 'laws.FnMeans'. -/
def fnMeansUptoCard : Claim7 := { stood := { row := fnMeansUptoRow, standIns := [], harness := (true, "2e77ac393020a737a71f20e1870902f63298a4712e6a84d203ecf02464a41b06"), looks := false }, kinds := [], alts := [], laidByText := true, laidKinds := [.data, .data, .data], laidTests := true, laidLooks := .later }
def FnMeansUptoCardSaid : Prop := Claim7.holds Tryd.pinned (.plain (OpenSpec.upto fnMeansSpec)) fnMeansUptoCard

/-- THE SECOND FORM's CARD OF 'laws.FnPermutations'. -/
def fnPermutationsUptoCard : Claim7 := { stood := { row := fnPermutationsUptoRow, standIns := [], harness := (true, "2e77ac393020a737a71f20e1870902f63298a4712e6a84d203ecf02464a41b06"), looks := false }, kinds := [], alts := [], laidByText := true, laidKinds := [.data, .data, .data], laidTests := true, laidLooks := .later }
def FnPermutationsUptoCardSaid : Prop := Claim7.holds Tryd.pinned (.plain (OpenSpec.upto fnPermutationsSpec)) fnPermutationsUptoCard

/-- THE SECOND FORM's CARD OF 'laws.FnExactValidMixture'. -/
def fnExactValidMixtureUptoCard : Claim7 := { stood := { row := fnExactValidMixtureUptoRow, standIns := [], harness := (true, "2e77ac393020a737a71f20e1870902f63298a4712e6a84d203ecf02464a41b06"), looks := false }, kinds := [], alts := [], laidByText := true, laidKinds := [.data, .data, .data], laidTests := true, laidLooks := .later }
def FnExactValidMixtureUptoCardSaid : Prop := Claim7.holds Tryd.pinned (.plain (OpenSpec.upto fnExactValidMixtureSpec)) fnExactValidMixtureUptoCard

/-- THE SECOND FORM's CARD OF 'laws.FnExactIsMixtureOf'. -/
def fnExactIsMixtureOfUptoCard : Claim7 := { stood := { row := fnExactIsMixtureOfUptoRow, standIns := [], harness := (true, "2e77ac393020a737a71f20e1870902f63298a4712e6a84d203ecf02464a41b06"), looks := false }, kinds := [], alts := [], laidByText := true, laidKinds := [.data, .data, .data], laidTests := true, laidLooks := .later }
def FnExactIsMixtureOfUptoCardSaid : Prop := Claim7.holds Tryd.pinned (.plain (OpenSpec.upto fnExactIsMixtureOfSpec)) fnExactIsMixtureOfUptoCard

/-- THE SECOND FORM's CARD OF 'laws.FnExactMixtureMeans'. -/
def fnExactMixtureMeansUptoCard : Claim7 := { stood := { row := fnExactMixtureMeansUptoRow, standIns := [], harness := (true, "2e77ac393020a737a71f20e1870902f63298a4712e6a84d203ecf02464a41b06"), looks := false }, kinds := [], alts := [], laidByText := true, laidKinds := [.data, .data, .data], laidTests := true, laidLooks := .later }
def FnExactMixtureMeansUptoCardSaid : Prop := Claim7.holds Tryd.pinned (.plain (OpenSpec.upto fnExactMixtureMeansSpec)) fnExactMixtureMeansUptoCard

/-- THE SECOND FORM's CARD OF 'laws.FnExactDrawFrom'. -/
def fnExactDrawFromUptoCard : Claim7 := { stood := { row := fnExactDrawFromUptoRow, standIns := [], harness := (true, "2e77ac393020a737a71f20e1870902f63298a4712e6a84d203ecf02464a41b06"), looks := false }, kinds := [], alts := [], laidByText := true, laidKinds := [.data, .data, .data], laidTests := true, laidLooks := .later }
def FnExactDrawFromUptoCardSaid : Prop := Claim7.holds Tryd.pinned (.plain (OpenSpec.upto fnExactDrawFromSpec)) fnExactDrawFromUptoCard

/-- THE SECOND FORM's CARD OF 'laws.FnExactPairWeight'. -/
def fnExactPairWeightUptoCard : Claim7 := { stood := { row := fnExactPairWeightUptoRow, standIns := [], harness := (true, "2e77ac393020a737a71f20e1870902f63298a4712e6a84d203ecf02464a41b06"), looks := false }, kinds := [], alts := [], laidByText := true, laidKinds := [.data, .data, .data], laidTests := true, laidLooks := .later }
def FnExactPairWeightUptoCardSaid : Prop := Claim7.holds Tryd.pinned (.plain (OpenSpec.upto fnExactPairWeightSpec)) fnExactPairWeightUptoCard

/-- THE SECOND FORM's CARD OF 'laws.FnExactSumWeights'. -/
def fnExactSumWeightsUptoCard : Claim7 := { stood := { row := fnExactSumWeightsUptoRow, standIns := [], harness := (true, "2e77ac393020a737a71f20e1870902f63298a4712e6a84d203ecf02464a41b06"), looks := false }, kinds := [], alts := [], laidByText := true, laidKinds := [.data, .data, .data], laidTests := true, laidLooks := .later }
def FnExactSumWeightsUptoCardSaid : Prop := Claim7.holds Tryd.pinned (.plain (OpenSpec.upto fnExactSumWeightsSpec)) fnExactSumWeightsUptoCard

/-- THE SECOND FORM's CARD OF 'laws.FnExactSystematicMixture'. -/
def fnExactSystematicMixtureUptoCard : Claim7 := { stood := { row := fnExactSystematicMixtureUptoRow, standIns := [], harness := (true, "2e77ac393020a737a71f20e1870902f63298a4712e6a84d203ecf02464a41b06"), looks := false }, kinds := [], alts := [], laidByText := true, laidKinds := [.data, .data, .data], laidTests := true, laidLooks := .later }
def FnExactSystematicMixtureUptoCardSaid : Prop := Claim7.holds Tryd.pinned (.plain (OpenSpec.upto fnExactSystematicMixtureSpec)) fnExactSystematicMixtureUptoCard

/-- THE SECOND FORM's CARD OF 'laws.FnExactSystematicIn'. -/
def fnExactSystematicInUptoCard : Claim7 := { stood := { row := fnExactSystematicInUptoRow, standIns := [], harness := (true, "2e77ac393020a737a71f20e1870902f63298a4712e6a84d203ecf02464a41b06"), looks := false }, kinds := [], alts := [], laidByText := true, laidKinds := [.data, .data, .data], laidTests := true, laidLooks := .later }
def FnExactSystematicInUptoCardSaid : Prop := Claim7.holds Tryd.pinned (.plain (OpenSpec.upto fnExactSystematicInSpec)) fnExactSystematicInUptoCard
end Rows
end Go.Proofs.YtgpnlnmljeahdaaDoor
