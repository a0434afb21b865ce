/-
  DERIVED. GIVEN WITH THE SEED: THE CARDS: each row of YtlkljhncpojlkabDoorRows.lean that lists a variable, with what it lists TIED to the program's text (the seventh form; the later family's looks); each row that meets fmt, with fmt's text TOLD by the authors' own Lean function (tested against real Go, not proved from fmt's source: count such statements apart). THE CARD IS WHAT COUNTS. Prove the row's statement (the work); the ties are given (YtlkljhncpojlkabDoorTie.lean); close each card by the builder's one call (the guide's Derived/Test/ToyasCard.lean, 'card_holds'). Laid BY PROGRAM, IN A SANDBOX (cutbox-door.mjs). By AI agents, Wed Nov 11 2026. No macro, syntax, notation, axiom, sorry.
-/
import Derived.Test.YtlkljhncpojlkabDoorRows
import GoSem.ClaimSeven
namespace Go.Proofs.YtlkljhncpojlkabDoor
namespace Rows

/-- THE TIED CARD OF 'laws.FnExactLineFor'. -/
def fnExactLineForCard : Claim7 := { stood := { row := fnExactLineForRow, standIns := [], harness := (true, "97e09acc4e037406f42ce7fadf9a02a5811511e0f44afab10b0c4fd111950448"), looks := false }, kinds := [], alts := [], laidByText := true, laidKinds := [.data, .pinned], laidTests := true, laidLooks := .later }
def FnExactLineForCardSaid : Prop := Claim7.holds Tryd.pinned (.plain (OpenSpec.ofChange fnExactLineForSpec)) fnExactLineForCard

/-- THE TIED CARD OF 'laws.FnBalanced'. -/
def fnBalancedCard : Claim7 := { stood := { row := fnBalancedRow, standIns := [], harness := (true, "97e09acc4e037406f42ce7fadf9a02a5811511e0f44afab10b0c4fd111950448"), looks := false }, kinds := [], alts := [], laidByText := true, laidKinds := [.data, .pinned], laidTests := true, laidLooks := .later }
def FnBalancedCardSaid : Prop := Claim7.holds Tryd.pinned (.plain (OpenSpec.ofChange fnBalancedSpec)) fnBalancedCard

/-- THE TIED CARD OF 'laws.FnLines'. -/
def fnLinesCard : Claim7 := { stood := { row := fnLinesRow, standIns := [], harness := (true, "97e09acc4e037406f42ce7fadf9a02a5811511e0f44afab10b0c4fd111950448"), looks := false }, kinds := [], alts := [], laidByText := true, laidKinds := [.data, .pinned], laidTests := true, laidLooks := .later }
def FnLinesCardSaid : Prop := Claim7.holds Tryd.pinned (.plain (OpenSpec.ofChange fnLinesSpec)) fnLinesCard

/-- THE TIED CARD OF 'laws.FnChristoffel'. -/
def fnChristoffelCard : Claim7 := { stood := { row := fnChristoffelRow, standIns := [], harness := (true, "97e09acc4e037406f42ce7fadf9a02a5811511e0f44afab10b0c4fd111950448"), looks := false }, kinds := [], alts := [], laidByText := true, laidKinds := [.data, .pinned], laidTests := true, laidLooks := .later }
def FnChristoffelCardSaid : Prop := Claim7.holds Tryd.pinned (.plain (OpenSpec.ofChange fnChristoffelSpec)) fnChristoffelCard

/-- THE TIED CARD OF 'laws.FnContinued'. -/
def fnContinuedCard : Claim7 := { stood := { row := fnContinuedRow, standIns := [], harness := (true, "97e09acc4e037406f42ce7fadf9a02a5811511e0f44afab10b0c4fd111950448"), looks := false }, kinds := [], alts := [], laidByText := true, laidKinds := [.data, .pinned], laidTests := true, laidLooks := .later }
def FnContinuedCardSaid : Prop := Claim7.holds Tryd.pinned (.plain (OpenSpec.ofChange fnContinuedSpec)) fnContinuedCard

/-- THE TIED CARD OF 'laws.FnBalancedCount'. -/
def fnBalancedCountCard : Claim7 := { stood := { row := fnBalancedCountRow, standIns := [], harness := (true, "97e09acc4e037406f42ce7fadf9a02a5811511e0f44afab10b0c4fd111950448"), looks := false }, kinds := [], alts := [], laidByText := true, laidKinds := [.data, .pinned], laidTests := true, laidLooks := .later }
def FnBalancedCountCardSaid : Prop := Claim7.holds Tryd.pinned (.plain (OpenSpec.ofChange fnBalancedCountSpec)) fnBalancedCountCard

/-- THE SECOND FORM's CARD OF 'laws.FnExactLineFor'. -/
def fnExactLineForUptoCard : Claim7 := { stood := { row := fnExactLineForUptoRow, standIns := [], harness := (true, "97e09acc4e037406f42ce7fadf9a02a5811511e0f44afab10b0c4fd111950448"), looks := false }, kinds := [], alts := [], laidByText := true, laidKinds := [.data, .pinned], laidTests := true, laidLooks := .later }
def FnExactLineForUptoCardSaid : Prop := Claim7.holds Tryd.pinned (.plain (OpenSpec.upto fnExactLineForSpec)) fnExactLineForUptoCard

/-- THE SECOND FORM's CARD OF 'laws.FnBalanced'. -/
def fnBalancedUptoCard : Claim7 := { stood := { row := fnBalancedUptoRow, standIns := [], harness := (true, "97e09acc4e037406f42ce7fadf9a02a5811511e0f44afab10b0c4fd111950448"), looks := false }, kinds := [], alts := [], laidByText := true, laidKinds := [.data, .pinned], laidTests := true, laidLooks := .later }
def FnBalancedUptoCardSaid : Prop := Claim7.holds Tryd.pinned (.plain (OpenSpec.upto fnBalancedSpec)) fnBalancedUptoCard

/-- THE SECOND FORM's CARD OF 'laws.FnLines'. -/
def fnLinesUptoCard : Claim7 := { stood := { row := fnLinesUptoRow, standIns := [], harness := (true, "97e09acc4e037406f42ce7fadf9a02a5811511e0f44afab10b0c4fd111950448"), looks := false }, kinds := [], alts := [], laidByText := true, laidKinds := [.data, .pinned], laidTests := true, laidLooks := .later }
def FnLinesUptoCardSaid : Prop := Claim7.holds Tryd.pinned (.plain (OpenSpec.upto fnLinesSpec)) fnLinesUptoCard

/-- THE SECOND FORM's CARD OF 'laws.FnChristoffel'. -/
def fnChristoffelUptoCard : Claim7 := { stood := { row := fnChristoffelUptoRow, standIns := [], harness := (true, "97e09acc4e037406f42ce7fadf9a02a5811511e0f44afab10b0c4fd111950448"), looks := false }, kinds := [], alts := [], laidByText := true, laidKinds := [.data, .pinned], laidTests := true, laidLooks := .later }
def FnChristoffelUptoCardSaid : Prop := Claim7.holds Tryd.pinned (.plain (OpenSpec.upto fnChristoffelSpec)) fnChristoffelUptoCard

/-- THE SECOND FORM's CARD OF 'laws.FnContinued'. -/
def fnContinuedUptoCard : Claim7 := { stood := { row := fnContinuedUptoRow, standIns := [], harness := (true, "97e09acc4e037406f42ce7fadf9a02a5811511e0f44afab10b0c4fd111950448"), looks := false }, kinds := [], alts := [], laidByText := true, laidKinds := [.data, .pinned], laidTests := true, laidLooks := .later }
def FnContinuedUptoCardSaid : Prop := Claim7.holds Tryd.pinned (.plain (OpenSpec.upto fnContinuedSpec)) fnContinuedUptoCard

/-- THE SECOND FORM's CARD OF 'laws.FnBalancedCount'. -/
def fnBalancedCountUptoCard : Claim7 := { stood := { row := fnBalancedCountUptoRow, standIns := [], harness := (true, "97e09acc4e037406f42ce7fadf9a02a5811511e0f44afab10b0c4fd111950448"), looks := false }, kinds := [], alts := [], laidByText := true, laidKinds := [.data, .pinned], laidTests := true, laidLooks := .later }
def FnBalancedCountUptoCardSaid : Prop := Claim7.holds Tryd.pinned (.plain (OpenSpec.upto fnBalancedCountSpec)) fnBalancedCountUptoCard
end Rows
end Go.Proofs.YtlkljhncpojlkabDoor
