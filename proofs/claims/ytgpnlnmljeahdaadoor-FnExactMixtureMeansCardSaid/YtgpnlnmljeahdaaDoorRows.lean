/-
  NARROWER THAN 'FOR EVERY INPUT', by the rows' own cells (each row's printed sentence says how): FnSystematic: laid · FnTickets: laid · FnMeans: laid · FnPermutations: laid · FnExactValidMixture: laid · FnExactIsMixtureOf: laid · FnExactMixtureMeans: laid · FnExactDrawFrom: laid · FnExactPairWeight: laid · FnExactSumWeights: laid · FnExactSystematicMixture: laid · FnExactSystematicIn: laid.
  DERIVED. THE GIVEN ROWS OF THIS SEAT. 12 by the template 'for every input the law returns true; each argument reads behind the call as it read before'; 0 by the template 'total and deterministic' (their statements: YtgpnlnmljeahdaaDoorTotals.lean).
  GIVEN WITH THE SEED: the statements are not yours to turn. If you find one false, say at which input.
  Laid BY PROGRAM, IN A SANDBOX (cutbox-rows.mjs): the forced cells as the released guide's own fill.sh prints them over the translation c6cec4bb632ae241… (all of the seat's roots in one cut). By AI agents, Wed Nov 11 2026. No macro, syntax, notation, axiom, sorry.
-/
import Derived.Test.YtgpnlnmljeahdaaDoorChecked
import GoSem.Claim
import GoSem.ClaimJoined
import GoSem.ClaimMapViews
import Derived.JoinedTies
import Derived.KernelRfl
namespace Go.Proofs.YtgpnlnmljeahdaaDoor
/- THE CELL 'sum', in the pinned program and in every row, IS THE sha256 OF THE DUMP (.gsa) THAT YtgpnlnmljeahdaaDoorProg.lean LOADS. Nothing in Lean hashes anything: it is a label: what it is worth is what the hold of that sum in a sandbox is worth. -/
noncomputable def Tryd.pinned : Pinned := { name := "ytgpnlnmljeahdaadoor", sum := "c6cec4bb632ae24147e03486c041d5969cee3572ef1e6f60d0528a7ef877aae7", checked := Tryd.checked }
namespace Rows
def none {H : Type} : Left H := { results := [], args := [] }

/- WHAT THE LISTED PACKAGE-LEVEL VARIABLES READ AS WHEN THE CALL BEGINS. Each datum BY PROGRAM (the guide's laid-datum.mjs) off the statement by which the dump's own 'gosem.cut.vars' lays the variable. In a bare row this is a premise. The card (YtgpnlnmljeahdaaDoorCards.lean) ties it to the program's text. -/
def laid_math_bits_deBruijn32tab {H : Type} : DataW H := .agg [.lit (.int .u8 0), .lit (.int .u8 1), .lit (.int .u8 28), .lit (.int .u8 2), .lit (.int .u8 29), .lit (.int .u8 14), .lit (.int .u8 24), .lit (.int .u8 3), .lit (.int .u8 30), .lit (.int .u8 22), .lit (.int .u8 20), .lit (.int .u8 15), .lit (.int .u8 25), .lit (.int .u8 17), .lit (.int .u8 4), .lit (.int .u8 8), .lit (.int .u8 31), .lit (.int .u8 27), .lit (.int .u8 13), .lit (.int .u8 23), .lit (.int .u8 21), .lit (.int .u8 19), .lit (.int .u8 16), .lit (.int .u8 7), .lit (.int .u8 26), .lit (.int .u8 12), .lit (.int .u8 18), .lit (.int .u8 6), .lit (.int .u8 11), .lit (.int .u8 5), .lit (.int .u8 10), .lit (.int .u8 9)]
def laid_math_bits_deBruijn64tab {H : Type} : DataW H := .agg [.lit (.int .u8 0), .lit (.int .u8 1), .lit (.int .u8 56), .lit (.int .u8 2), .lit (.int .u8 57), .lit (.int .u8 49), .lit (.int .u8 28), .lit (.int .u8 3), .lit (.int .u8 61), .lit (.int .u8 58), .lit (.int .u8 42), .lit (.int .u8 50), .lit (.int .u8 38), .lit (.int .u8 29), .lit (.int .u8 17), .lit (.int .u8 4), .lit (.int .u8 62), .lit (.int .u8 47), .lit (.int .u8 59), .lit (.int .u8 36), .lit (.int .u8 45), .lit (.int .u8 43), .lit (.int .u8 51), .lit (.int .u8 22), .lit (.int .u8 53), .lit (.int .u8 39), .lit (.int .u8 33), .lit (.int .u8 30), .lit (.int .u8 24), .lit (.int .u8 18), .lit (.int .u8 12), .lit (.int .u8 5), .lit (.int .u8 63), .lit (.int .u8 55), .lit (.int .u8 48), .lit (.int .u8 27), .lit (.int .u8 60), .lit (.int .u8 41), .lit (.int .u8 37), .lit (.int .u8 16), .lit (.int .u8 46), .lit (.int .u8 35), .lit (.int .u8 44), .lit (.int .u8 21), .lit (.int .u8 52), .lit (.int .u8 32), .lit (.int .u8 23), .lit (.int .u8 11), .lit (.int .u8 54), .lit (.int .u8 26), .lit (.int .u8 40), .lit (.int .u8 15), .lit (.int .u8 34), .lit (.int .u8 20), .lit (.int .u8 31), .lit (.int .u8 10), .lit (.int .u8 25), .lit (.int .u8 14), .lit (.int .u8 19), .lit (.int .u8 9), .lit (.int .u8 13), .lit (.int .u8 8), .lit (.int .u8 7), .lit (.int .u8 6)]
def laid_internal_strconv_uint64pow10 {H : Type} : DataW H := .agg [.lit (.int .u64 1), .lit (.int .u64 10), .lit (.int .u64 100), .lit (.int .u64 1000), .lit (.int .u64 10000), .lit (.int .u64 100000), .lit (.int .u64 1000000), .lit (.int .u64 10000000), .lit (.int .u64 100000000), .lit (.int .u64 1000000000), .lit (.int .u64 10000000000), .lit (.int .u64 100000000000), .lit (.int .u64 1000000000000), .lit (.int .u64 10000000000000), .lit (.int .u64 100000000000000), .lit (.int .u64 1000000000000000), .lit (.int .u64 10000000000000000), .lit (.int .u64 100000000000000000), .lit (.int .u64 1000000000000000000), .lit (.int .u64 10000000000000000000)]

/-- 'laws.FnSystematic': WHATEVER THE INPUT: true; the input reads as it did. -/
def fnSystematicSpec : ChangeSpec := { name := "fnSystematic", fn := fun _ => fun
  | [d1, d2] => { results := [.lit (.bool true)], args := [d1, d2] }
  | _ => none }
def fnSystematicRow : OpenClaim := { program := "ytgpnlnmljeahdaadoor", sum := "c6cec4bb632ae24147e03486c041d5969cee3572ef1e6f60d0528a7ef877aae7", func := "loop.example/g01129/laws.FnSystematic", spec := "fnSystematic", inPlace := ["internal/abi.NoEscape", "internal/bytealg.MakeNoZero"], unfollowed := true, recurses := true, named := ["internal/strconv.uint64pow10", "math/bits.deBruijn32tab", "math/bits.deBruijn64tab"], apart := false, laid := [("math/bits.deBruijn32tab", laid_math_bits_deBruijn32tab), ("math/bits.deBruijn64tab", laid_math_bits_deBruijn64tab), ("internal/strconv.uint64pow10", laid_internal_strconv_uint64pow10)] }
def FnSystematicSaid : Prop := fnSystematicRow.holds Tryd.pinned (OpenSpec.ofChange fnSystematicSpec)

/-- ITS FALSE NEIGHBOUR: 'it returns false'. Refute it at one input. -/
def fnSystematicWrong : ChangeSpec := { name := "fnSystematic", fn := fun _ => fun
  | [d1, d2] => { results := [.lit (.bool false)], args := [d1, d2] }
  | _ => none }
def FnSystematicWrongFalsely : Prop := fnSystematicRow.holds Tryd.pinned (OpenSpec.ofChange fnSystematicWrong)

/-- 'laws.FnTickets': WHATEVER THE INPUT: true; the input reads as it did. -/
def fnTicketsSpec : ChangeSpec := { name := "fnTickets", fn := fun _ => fun
  | [d1, d2] => { results := [.lit (.bool true)], args := [d1, d2] }
  | _ => none }
def fnTicketsRow : OpenClaim := { program := "ytgpnlnmljeahdaadoor", sum := "c6cec4bb632ae24147e03486c041d5969cee3572ef1e6f60d0528a7ef877aae7", func := "loop.example/g01129/laws.FnTickets", spec := "fnTickets", inPlace := ["internal/abi.NoEscape", "internal/bytealg.MakeNoZero"], unfollowed := true, recurses := true, named := ["internal/strconv.uint64pow10", "math/bits.deBruijn32tab", "math/bits.deBruijn64tab"], apart := false, laid := [("math/bits.deBruijn32tab", laid_math_bits_deBruijn32tab), ("math/bits.deBruijn64tab", laid_math_bits_deBruijn64tab), ("internal/strconv.uint64pow10", laid_internal_strconv_uint64pow10)] }
def FnTicketsSaid : Prop := fnTicketsRow.holds Tryd.pinned (OpenSpec.ofChange fnTicketsSpec)

/-- ITS FALSE NEIGHBOUR: 'it returns false'. Refute it at one input. -/
def fnTicketsWrong : ChangeSpec := { name := "fnTickets", fn := fun _ => fun
  | [d1, d2] => { results := [.lit (.bool false)], args := [d1, d2] }
  | _ => none }
def FnTicketsWrongFalsely : Prop := fnTicketsRow.holds Tryd.pinned (OpenSpec.ofChange fnTicketsWrong)

/-- 'laws.FnMeans': WHATEVER THE INPUT: true; the input reads as it did. -/
def fnMeansSpec : ChangeSpec := { name := "fnMeans", fn := fun _ => fun
  | [d1, d2] => { results := [.lit (.bool true)], args := [d1, d2] }
  | _ => none }
def fnMeansRow : OpenClaim := { program := "ytgpnlnmljeahdaadoor", sum := "c6cec4bb632ae24147e03486c041d5969cee3572ef1e6f60d0528a7ef877aae7", func := "loop.example/g01129/laws.FnMeans", spec := "fnMeans", inPlace := ["internal/abi.NoEscape", "internal/bytealg.MakeNoZero"], unfollowed := true, recurses := true, named := ["internal/strconv.uint64pow10", "math/bits.deBruijn32tab", "math/bits.deBruijn64tab"], apart := false, laid := [("math/bits.deBruijn32tab", laid_math_bits_deBruijn32tab), ("math/bits.deBruijn64tab", laid_math_bits_deBruijn64tab), ("internal/strconv.uint64pow10", laid_internal_strconv_uint64pow10)] }
def FnMeansSaid : Prop := fnMeansRow.holds Tryd.pinned (OpenSpec.ofChange fnMeansSpec)

/-- ITS FALSE NEIGHBOUR: 'it returns false'. Refute it at one input. -/
def fnMeansWrong : ChangeSpec := { name := "fnMeans", fn := fun _ => fun
  | [d1, d2] => { results := [.lit (.bool false)], args := [d1, d2] }
  | _ => none }
def FnMeansWrongFalsely : Prop := fnMeansRow.holds Tryd.pinned (OpenSpec.ofChange fnMeansWrong)

/-- 'laws.FnPermutations': WHATEVER THE INPUT: true; the input reads as it did. -/
def fnPermutationsSpec : ChangeSpec := { name := "fnPermutations", fn := fun _ => fun
  | [d1, d2] => { results := [.lit (.bool true)], args := [d1, d2] }
  | _ => none }
def fnPermutationsRow : OpenClaim := { program := "ytgpnlnmljeahdaadoor", sum := "c6cec4bb632ae24147e03486c041d5969cee3572ef1e6f60d0528a7ef877aae7", func := "loop.example/g01129/laws.FnPermutations", spec := "fnPermutations", inPlace := ["internal/abi.NoEscape", "internal/bytealg.MakeNoZero"], unfollowed := true, recurses := true, named := ["internal/strconv.uint64pow10", "math/bits.deBruijn32tab", "math/bits.deBruijn64tab"], apart := false, laid := [("math/bits.deBruijn32tab", laid_math_bits_deBruijn32tab), ("math/bits.deBruijn64tab", laid_math_bits_deBruijn64tab), ("internal/strconv.uint64pow10", laid_internal_strconv_uint64pow10)] }
def FnPermutationsSaid : Prop := fnPermutationsRow.holds Tryd.pinned (OpenSpec.ofChange fnPermutationsSpec)

/-- ITS FALSE NEIGHBOUR: 'it returns false'. Refute it at one input. -/
def fnPermutationsWrong : ChangeSpec := { name := "fnPermutations", fn := fun _ => fun
  | [d1, d2] => { results := [.lit (.bool false)], args := [d1, d2] }
  | _ => none }
def FnPermutationsWrongFalsely : Prop := fnPermutationsRow.holds Tryd.pinned (OpenSpec.ofChange fnPermutationsWrong)

/-- 'laws.FnExactValidMixture': WHATEVER THE INPUT: true; the input reads as it did. -/
def fnExactValidMixtureSpec : ChangeSpec := { name := "fnExactValidMixture", fn := fun _ => fun
  | [d] => { results := [.lit (.bool true)], args := [d] }
  | _ => none }
def fnExactValidMixtureRow : OpenClaim := { program := "ytgpnlnmljeahdaadoor", sum := "c6cec4bb632ae24147e03486c041d5969cee3572ef1e6f60d0528a7ef877aae7", func := "loop.example/g01129/laws.FnExactValidMixture", spec := "fnExactValidMixture", inPlace := ["internal/abi.NoEscape", "internal/bytealg.MakeNoZero"], unfollowed := true, recurses := true, named := ["internal/strconv.uint64pow10", "math/bits.deBruijn32tab", "math/bits.deBruijn64tab"], apart := false, laid := [("math/bits.deBruijn32tab", laid_math_bits_deBruijn32tab), ("math/bits.deBruijn64tab", laid_math_bits_deBruijn64tab), ("internal/strconv.uint64pow10", laid_internal_strconv_uint64pow10)] }
def FnExactValidMixtureSaid : Prop := fnExactValidMixtureRow.holds Tryd.pinned (OpenSpec.ofChange fnExactValidMixtureSpec)

/-- ITS FALSE NEIGHBOUR: 'it returns false'. Refute it at one input. -/
def fnExactValidMixtureWrong : ChangeSpec := { name := "fnExactValidMixture", fn := fun _ => fun
  | [d] => { results := [.lit (.bool false)], args := [d] }
  | _ => none }
def FnExactValidMixtureWrongFalsely : Prop := fnExactValidMixtureRow.holds Tryd.pinned (OpenSpec.ofChange fnExactValidMixtureWrong)

/-- 'laws.FnExactIsMixtureOf': WHATEVER THE INPUT: true; the input reads as it did. -/
def fnExactIsMixtureOfSpec : ChangeSpec := { name := "fnExactIsMixtureOf", fn := fun _ => fun
  | [d1, d2] => { results := [.lit (.bool true)], args := [d1, d2] }
  | _ => none }
def fnExactIsMixtureOfRow : OpenClaim := { program := "ytgpnlnmljeahdaadoor", sum := "c6cec4bb632ae24147e03486c041d5969cee3572ef1e6f60d0528a7ef877aae7", func := "loop.example/g01129/laws.FnExactIsMixtureOf", spec := "fnExactIsMixtureOf", inPlace := ["internal/abi.NoEscape", "internal/bytealg.MakeNoZero"], unfollowed := true, recurses := true, named := ["internal/strconv.uint64pow10", "math/bits.deBruijn32tab", "math/bits.deBruijn64tab"], apart := false, laid := [("math/bits.deBruijn32tab", laid_math_bits_deBruijn32tab), ("math/bits.deBruijn64tab", laid_math_bits_deBruijn64tab), ("internal/strconv.uint64pow10", laid_internal_strconv_uint64pow10)] }
def FnExactIsMixtureOfSaid : Prop := fnExactIsMixtureOfRow.holds Tryd.pinned (OpenSpec.ofChange fnExactIsMixtureOfSpec)

/-- ITS FALSE NEIGHBOUR: 'it returns false'. Refute it at one input. -/
def fnExactIsMixtureOfWrong : ChangeSpec := { name := "fnExactIsMixtureOf", fn := fun _ => fun
  | [d1, d2] => { results := [.lit (.bool false)], args := [d1, d2] }
  | _ => none }
def FnExactIsMixtureOfWrongFalsely : Prop := fnExactIsMixtureOfRow.holds Tryd.pinned (OpenSpec.ofChange fnExactIsMixtureOfWrong)

/-- 'laws.FnExactMixtureMeans': WHATEVER THE INPUT: true; the input reads as it did. -/
def fnExactMixtureMeansSpec : ChangeSpec := { name := "fnExactMixtureMeans", fn := fun _ => fun
  | [d] => { results := [.lit (.bool true)], args := [d] }
  | _ => none }
def fnExactMixtureMeansRow : OpenClaim := { program := "ytgpnlnmljeahdaadoor", sum := "c6cec4bb632ae24147e03486c041d5969cee3572ef1e6f60d0528a7ef877aae7", func := "loop.example/g01129/laws.FnExactMixtureMeans", spec := "fnExactMixtureMeans", inPlace := ["internal/abi.NoEscape", "internal/bytealg.MakeNoZero"], unfollowed := true, recurses := true, named := ["internal/strconv.uint64pow10", "math/bits.deBruijn32tab", "math/bits.deBruijn64tab"], apart := false, laid := [("math/bits.deBruijn32tab", laid_math_bits_deBruijn32tab), ("math/bits.deBruijn64tab", laid_math_bits_deBruijn64tab), ("internal/strconv.uint64pow10", laid_internal_strconv_uint64pow10)] }
def FnExactMixtureMeansSaid : Prop := fnExactMixtureMeansRow.holds Tryd.pinned (OpenSpec.ofChange fnExactMixtureMeansSpec)

/-- ITS FALSE NEIGHBOUR: 'it returns false'. Refute it at one input. -/
def fnExactMixtureMeansWrong : ChangeSpec := { name := "fnExactMixtureMeans", fn := fun _ => fun
  | [d] => { results := [.lit (.bool false)], args := [d] }
  | _ => none }
def FnExactMixtureMeansWrongFalsely : Prop := fnExactMixtureMeansRow.holds Tryd.pinned (OpenSpec.ofChange fnExactMixtureMeansWrong)

/-- 'laws.FnExactDrawFrom': WHATEVER THE INPUT: true; the input reads as it did. -/
def fnExactDrawFromSpec : ChangeSpec := { name := "fnExactDrawFrom", fn := fun _ => fun
  | [d1, d2] => { results := [.lit (.bool true)], args := [d1, d2] }
  | _ => none }
def fnExactDrawFromRow : OpenClaim := { program := "ytgpnlnmljeahdaadoor", sum := "c6cec4bb632ae24147e03486c041d5969cee3572ef1e6f60d0528a7ef877aae7", func := "loop.example/g01129/laws.FnExactDrawFrom", spec := "fnExactDrawFrom", inPlace := ["internal/abi.NoEscape", "internal/bytealg.MakeNoZero"], unfollowed := true, recurses := true, named := ["internal/strconv.uint64pow10", "math/bits.deBruijn32tab", "math/bits.deBruijn64tab"], apart := false, laid := [("math/bits.deBruijn32tab", laid_math_bits_deBruijn32tab), ("math/bits.deBruijn64tab", laid_math_bits_deBruijn64tab), ("internal/strconv.uint64pow10", laid_internal_strconv_uint64pow10)] }
def FnExactDrawFromSaid : Prop := fnExactDrawFromRow.holds Tryd.pinned (OpenSpec.ofChange fnExactDrawFromSpec)

/-- ITS FALSE NEIGHBOUR: 'it returns false'. Refute it at one input. -/
def fnExactDrawFromWrong : ChangeSpec := { name := "fnExactDrawFrom", fn := fun _ => fun
  | [d1, d2] => { results := [.lit (.bool false)], args := [d1, d2] }
  | _ => none }
def FnExactDrawFromWrongFalsely : Prop := fnExactDrawFromRow.holds Tryd.pinned (OpenSpec.ofChange fnExactDrawFromWrong)

/-- 'laws.FnExactPairWeight': WHATEVER THE INPUT: true; the input reads as it did. -/
def fnExactPairWeightSpec : ChangeSpec := { name := "fnExactPairWeight", fn := fun _ => fun
  | [d1, d2, d3, d4, d5] => { results := [.lit (.bool true)], args := [d1, d2, d3, d4, d5] }
  | _ => none }
def fnExactPairWeightRow : OpenClaim := { program := "ytgpnlnmljeahdaadoor", sum := "c6cec4bb632ae24147e03486c041d5969cee3572ef1e6f60d0528a7ef877aae7", func := "loop.example/g01129/laws.FnExactPairWeight", spec := "fnExactPairWeight", inPlace := ["internal/abi.NoEscape", "internal/bytealg.MakeNoZero"], unfollowed := true, recurses := true, named := ["internal/strconv.uint64pow10", "math/bits.deBruijn32tab", "math/bits.deBruijn64tab"], apart := false, laid := [("math/bits.deBruijn32tab", laid_math_bits_deBruijn32tab), ("math/bits.deBruijn64tab", laid_math_bits_deBruijn64tab), ("internal/strconv.uint64pow10", laid_internal_strconv_uint64pow10)] }
def FnExactPairWeightSaid : Prop := fnExactPairWeightRow.holds Tryd.pinned (OpenSpec.ofChange fnExactPairWeightSpec)

/-- ITS FALSE NEIGHBOUR: 'it returns false'. Refute it at one input. -/
def fnExactPairWeightWrong : ChangeSpec := { name := "fnExactPairWeight", fn := fun _ => fun
  | [d1, d2, d3, d4, d5] => { results := [.lit (.bool false)], args := [d1, d2, d3, d4, d5] }
  | _ => none }
def FnExactPairWeightWrongFalsely : Prop := fnExactPairWeightRow.holds Tryd.pinned (OpenSpec.ofChange fnExactPairWeightWrong)

/-- 'laws.FnExactSumWeights': WHATEVER THE INPUT: true; the input reads as it did. -/
def fnExactSumWeightsSpec : ChangeSpec := { name := "fnExactSumWeights", fn := fun _ => fun
  | [d] => { results := [.lit (.bool true)], args := [d] }
  | _ => none }
def fnExactSumWeightsRow : OpenClaim := { program := "ytgpnlnmljeahdaadoor", sum := "c6cec4bb632ae24147e03486c041d5969cee3572ef1e6f60d0528a7ef877aae7", func := "loop.example/g01129/laws.FnExactSumWeights", spec := "fnExactSumWeights", inPlace := ["internal/abi.NoEscape", "internal/bytealg.MakeNoZero"], unfollowed := true, recurses := true, named := ["internal/strconv.uint64pow10", "math/bits.deBruijn32tab", "math/bits.deBruijn64tab"], apart := false, laid := [("math/bits.deBruijn32tab", laid_math_bits_deBruijn32tab), ("math/bits.deBruijn64tab", laid_math_bits_deBruijn64tab), ("internal/strconv.uint64pow10", laid_internal_strconv_uint64pow10)] }
def FnExactSumWeightsSaid : Prop := fnExactSumWeightsRow.holds Tryd.pinned (OpenSpec.ofChange fnExactSumWeightsSpec)

/-- ITS FALSE NEIGHBOUR: 'it returns false'. Refute it at one input. -/
def fnExactSumWeightsWrong : ChangeSpec := { name := "fnExactSumWeights", fn := fun _ => fun
  | [d] => { results := [.lit (.bool false)], args := [d] }
  | _ => none }
def FnExactSumWeightsWrongFalsely : Prop := fnExactSumWeightsRow.holds Tryd.pinned (OpenSpec.ofChange fnExactSumWeightsWrong)

/-- 'laws.FnExactSystematicMixture': WHATEVER THE INPUT: true; the input reads as it did. -/
def fnExactSystematicMixtureSpec : ChangeSpec := { name := "fnExactSystematicMixture", fn := fun _ => fun
  | [d] => { results := [.lit (.bool true)], args := [d] }
  | _ => none }
def fnExactSystematicMixtureRow : OpenClaim := { program := "ytgpnlnmljeahdaadoor", sum := "c6cec4bb632ae24147e03486c041d5969cee3572ef1e6f60d0528a7ef877aae7", func := "loop.example/g01129/laws.FnExactSystematicMixture", spec := "fnExactSystematicMixture", inPlace := ["internal/abi.NoEscape", "internal/bytealg.MakeNoZero"], unfollowed := true, recurses := true, named := ["internal/strconv.uint64pow10", "math/bits.deBruijn32tab", "math/bits.deBruijn64tab"], apart := false, laid := [("math/bits.deBruijn32tab", laid_math_bits_deBruijn32tab), ("math/bits.deBruijn64tab", laid_math_bits_deBruijn64tab), ("internal/strconv.uint64pow10", laid_internal_strconv_uint64pow10)] }
def FnExactSystematicMixtureSaid : Prop := fnExactSystematicMixtureRow.holds Tryd.pinned (OpenSpec.ofChange fnExactSystematicMixtureSpec)

/-- ITS FALSE NEIGHBOUR: 'it returns false'. Refute it at one input. -/
def fnExactSystematicMixtureWrong : ChangeSpec := { name := "fnExactSystematicMixture", fn := fun _ => fun
  | [d] => { results := [.lit (.bool false)], args := [d] }
  | _ => none }
def FnExactSystematicMixtureWrongFalsely : Prop := fnExactSystematicMixtureRow.holds Tryd.pinned (OpenSpec.ofChange fnExactSystematicMixtureWrong)

/-- 'laws.FnExactSystematicIn': WHATEVER THE INPUT: true; the input reads as it did. -/
def fnExactSystematicInSpec : ChangeSpec := { name := "fnExactSystematicIn", fn := fun _ => fun
  | [d1, d2] => { results := [.lit (.bool true)], args := [d1, d2] }
  | _ => none }
def fnExactSystematicInRow : OpenClaim := { program := "ytgpnlnmljeahdaadoor", sum := "c6cec4bb632ae24147e03486c041d5969cee3572ef1e6f60d0528a7ef877aae7", func := "loop.example/g01129/laws.FnExactSystematicIn", spec := "fnExactSystematicIn", inPlace := ["internal/abi.NoEscape", "internal/bytealg.MakeNoZero"], unfollowed := true, recurses := true, named := ["internal/strconv.uint64pow10", "math/bits.deBruijn32tab", "math/bits.deBruijn64tab"], apart := false, laid := [("math/bits.deBruijn32tab", laid_math_bits_deBruijn32tab), ("math/bits.deBruijn64tab", laid_math_bits_deBruijn64tab), ("internal/strconv.uint64pow10", laid_internal_strconv_uint64pow10)] }
def FnExactSystematicInSaid : Prop := fnExactSystematicInRow.holds Tryd.pinned (OpenSpec.ofChange fnExactSystematicInSpec)

/-- ITS FALSE NEIGHBOUR: 'it returns false'. Refute it at one input. -/
def fnExactSystematicInWrong : ChangeSpec := { name := "fnExactSystematicIn", fn := fun _ => fun
  | [d1, d2] => { results := [.lit (.bool false)], args := [d1, d2] }
  | _ => none }
def FnExactSystematicInWrongFalsely : Prop := fnExactSystematicInRow.holds Tryd.pinned (OpenSpec.ofChange fnExactSystematicInWrong)

/- THE SECOND FORM. 'bulk': how many values and letters a reading holds, each counted each time it is reached (what is shared counts as often as it is met; a slice's spare places count too). A statement '..UptoSaid' is the law's where the arguments, and the package variables that the reading takes, are together of bulk at most 1048576: NARROWER than '..Said'. Prove '..Said' where nothing that the law and all that it calls make is longer than what came in: it says more and counts as full. Else prove '..UptoSaid'. A law counts once. -/
mutual
def uptoBulk {H : Type} : DataW H → Nat
  | .lit (.string bytes) => bytes.length + 1
  | .lit _ => 1
  | .nil => 1
  | .ptr d => uptoBulk d + 1
  | .slice elems spare => uptoBulkAll elems + uptoBulkAll spare + 1
  | .agg parts => uptoBulkAll parts + 1
  | .iface _ d => uptoBulk d + 1
  | .map entries => uptoBulkEntries entries + 1
  | .held _ => 1
def uptoBulkAll {H : Type} : List (DataW H) → Nat
  | [] => 0
  | d :: r => uptoBulk d + uptoBulkAll r
def uptoBulkEntries {H : Type} : List (Lit × DataW H) → Nat
  | [] => 0
  | x :: r => uptoBulkEntry x + uptoBulkEntries r
def uptoBulkEntry {H : Type} : Lit × DataW H → Nat
  | (.string bytes, d) => bytes.length + uptoBulk d + 1
  | (_, d) => uptoBulk d + 1
 end
def uptoSmall : (H : Type) → List (DataW H) → Bool := fun _ ds => decide (uptoBulkAll ds ≤ 1048576)
def OpenSpec.upto (s : _root_.Go.ChangeSpec) : _root_.Go.OpenSpec := { _root_.Go.OpenSpec.ofChange s with cond := some uptoSmall }

/-- 'laws.FnSystematic', WHERE WHAT IT READS IS OF BULK AT MOST 1048576: true; the input reads as it did. -/
def fnSystematicUptoRow : OpenClaim := { program := "ytgpnlnmljeahdaadoor", sum := "c6cec4bb632ae24147e03486c041d5969cee3572ef1e6f60d0528a7ef877aae7", func := "loop.example/g01129/laws.FnSystematic", spec := "fnSystematic", inPlace := ["internal/abi.NoEscape", "internal/bytealg.MakeNoZero"], unfollowed := true, recurses := true, named := ["internal/strconv.uint64pow10", "math/bits.deBruijn32tab", "math/bits.deBruijn64tab"], apart := false, laid := [("math/bits.deBruijn32tab", laid_math_bits_deBruijn32tab), ("math/bits.deBruijn64tab", laid_math_bits_deBruijn64tab), ("internal/strconv.uint64pow10", laid_internal_strconv_uint64pow10)], narrowed := true }
def FnSystematicUptoSaid : Prop := fnSystematicUptoRow.holds Tryd.pinned (OpenSpec.upto fnSystematicSpec)

/-- 'laws.FnTickets', WHERE WHAT IT READS IS OF BULK AT MOST 1048576: true; the input reads as it did. -/
def fnTicketsUptoRow : OpenClaim := { program := "ytgpnlnmljeahdaadoor", sum := "c6cec4bb632ae24147e03486c041d5969cee3572ef1e6f60d0528a7ef877aae7", func := "loop.example/g01129/laws.FnTickets", spec := "fnTickets", inPlace := ["internal/abi.NoEscape", "internal/bytealg.MakeNoZero"], unfollowed := true, recurses := true, named := ["internal/strconv.uint64pow10", "math/bits.deBruijn32tab", "math/bits.deBruijn64tab"], apart := false, laid := [("math/bits.deBruijn32tab", laid_math_bits_deBruijn32tab), ("math/bits.deBruijn64tab", laid_math_bits_deBruijn64tab), ("internal/strconv.uint64pow10", laid_internal_strconv_uint64pow10)], narrowed := true }
def FnTicketsUptoSaid : Prop := fnTicketsUptoRow.holds Tryd.pinned (OpenSpec.upto fnTicketsSpec)

/-- 'laws.FnMeans', WHERE WHAT IT READS IS OF BULK AT MOST 1048576: true; the input reads as it did. -/
def fnMeansUptoRow : OpenClaim := { program := "ytgpnlnmljeahdaadoor", sum := "c6cec4bb632ae24147e03486c041d5969cee3572ef1e6f60d0528a7ef877aae7", func := "loop.example/g01129/laws.FnMeans", spec := "fnMeans", inPlace := ["internal/abi.NoEscape", "internal/bytealg.MakeNoZero"], unfollowed := true, recurses := true, named := ["internal/strconv.uint64pow10", "math/bits.deBruijn32tab", "math/bits.deBruijn64tab"], apart := false, laid := [("math/bits.deBruijn32tab", laid_math_bits_deBruijn32tab), ("math/bits.deBruijn64tab", laid_math_bits_deBruijn64tab), ("internal/strconv.uint64pow10", laid_internal_strconv_uint64pow10)], narrowed := true }
def FnMeansUptoSaid : Prop := fnMeansUptoRow.holds Tryd.pinned (OpenSpec.upto fnMeansSpec)

/-- 'laws.FnPermutations', WHERE WHAT IT READS IS OF BULK AT MOST 1048576: true; the input reads as it did. -/
def fnPermutationsUptoRow : OpenClaim := { program := "ytgpnlnmljeahdaadoor", sum := "c6cec4bb632ae24147e03486c041d5969cee3572ef1e6f60d0528a7ef877aae7", func := "loop.example/g01129/laws.FnPermutations", spec := "fnPermutations", inPlace := ["internal/abi.NoEscape", "internal/bytealg.MakeNoZero"], unfollowed := true, recurses := true, named := ["internal/strconv.uint64pow10", "math/bits.deBruijn32tab", "math/bits.deBruijn64tab"], apart := false, laid := [("math/bits.deBruijn32tab", laid_math_bits_deBruijn32tab), ("math/bits.deBruijn64tab", laid_math_bits_deBruijn64tab), ("internal/strconv.uint64pow10", laid_internal_strconv_uint64pow10)], narrowed := true }
def FnPermutationsUptoSaid : Prop := fnPermutationsUptoRow.holds Tryd.pinned (OpenSpec.upto fnPermutationsSpec)

/-- 'laws.FnExactValidMixture', WHERE WHAT IT READS IS OF BULK AT MOST 1048576: true; the input reads as it did. -/
def fnExactValidMixtureUptoRow : OpenClaim := { program := "ytgpnlnmljeahdaadoor", sum := "c6cec4bb632ae24147e03486c041d5969cee3572ef1e6f60d0528a7ef877aae7", func := "loop.example/g01129/laws.FnExactValidMixture", spec := "fnExactValidMixture", inPlace := ["internal/abi.NoEscape", "internal/bytealg.MakeNoZero"], unfollowed := true, recurses := true, named := ["internal/strconv.uint64pow10", "math/bits.deBruijn32tab", "math/bits.deBruijn64tab"], apart := false, laid := [("math/bits.deBruijn32tab", laid_math_bits_deBruijn32tab), ("math/bits.deBruijn64tab", laid_math_bits_deBruijn64tab), ("internal/strconv.uint64pow10", laid_internal_strconv_uint64pow10)], narrowed := true }
def FnExactValidMixtureUptoSaid : Prop := fnExactValidMixtureUptoRow.holds Tryd.pinned (OpenSpec.upto fnExactValidMixtureSpec)

/-- 'laws.FnExactIsMixtureOf', WHERE WHAT IT READS IS OF BULK AT MOST 1048576: true; the input reads as it did. -/
def fnExactIsMixtureOfUptoRow : OpenClaim := { program := "ytgpnlnmljeahdaadoor", sum := "c6cec4bb632ae24147e03486c041d5969cee3572ef1e6f60d0528a7ef877aae7", func := "loop.example/g01129/laws.FnExactIsMixtureOf", spec := "fnExactIsMixtureOf", inPlace := ["internal/abi.NoEscape", "internal/bytealg.MakeNoZero"], unfollowed := true, recurses := true, named := ["internal/strconv.uint64pow10", "math/bits.deBruijn32tab", "math/bits.deBruijn64tab"], apart := false, laid := [("math/bits.deBruijn32tab", laid_math_bits_deBruijn32tab), ("math/bits.deBruijn64tab", laid_math_bits_deBruijn64tab), ("internal/strconv.uint64pow10", laid_internal_strconv_uint64pow10)], narrowed := true }
def FnExactIsMixtureOfUptoSaid : Prop := fnExactIsMixtureOfUptoRow.holds Tryd.pinned (OpenSpec.upto fnExactIsMixtureOfSpec)

/-- 'laws.FnExactMixtureMeans', WHERE WHAT IT READS IS OF BULK AT MOST 1048576: true; the input reads as it did. -/
def fnExactMixtureMeansUptoRow : OpenClaim := { program := "ytgpnlnmljeahdaadoor", sum := "c6cec4bb632ae24147e03486c041d5969cee3572ef1e6f60d0528a7ef877aae7", func := "loop.example/g01129/laws.FnExactMixtureMeans", spec := "fnExactMixtureMeans", inPlace := ["internal/abi.NoEscape", "internal/bytealg.MakeNoZero"], unfollowed := true, recurses := true, named := ["internal/strconv.uint64pow10", "math/bits.deBruijn32tab", "math/bits.deBruijn64tab"], apart := false, laid := [("math/bits.deBruijn32tab", laid_math_bits_deBruijn32tab), ("math/bits.deBruijn64tab", laid_math_bits_deBruijn64tab), ("internal/strconv.uint64pow10", laid_internal_strconv_uint64pow10)], narrowed := true }
def FnExactMixtureMeansUptoSaid : Prop := fnExactMixtureMeansUptoRow.holds Tryd.pinned (OpenSpec.upto fnExactMixtureMeansSpec)

/-- 'laws.FnExactDrawFrom', WHERE WHAT IT READS IS OF BULK AT MOST 1048576: true; the input reads as it did. -/
def fnExactDrawFromUptoRow : OpenClaim := { program := "ytgpnlnmljeahdaadoor", sum := "c6cec4bb632ae24147e03486c041d5969cee3572ef1e6f60d0528a7ef877aae7", func := "loop.example/g01129/laws.FnExactDrawFrom", spec := "fnExactDrawFrom", inPlace := ["internal/abi.NoEscape", "internal/bytealg.MakeNoZero"], unfollowed := true, recurses := true, named := ["internal/strconv.uint64pow10", "math/bits.deBruijn32tab", "math/bits.deBruijn64tab"], apart := false, laid := [("math/bits.deBruijn32tab", laid_math_bits_deBruijn32tab), ("math/bits.deBruijn64tab", laid_math_bits_deBruijn64tab), ("internal/strconv.uint64pow10", laid_internal_strconv_uint64pow10)], narrowed := true }
def FnExactDrawFromUptoSaid : Prop := fnExactDrawFromUptoRow.holds Tryd.pinned (OpenSpec.upto fnExactDrawFromSpec)

/-- 'laws.FnExactPairWeight', WHERE WHAT IT READS IS OF BULK AT MOST 1048576: true; the input reads as it did. -/
def fnExactPairWeightUptoRow : OpenClaim := { program := "ytgpnlnmljeahdaadoor", sum := "c6cec4bb632ae24147e03486c041d5969cee3572ef1e6f60d0528a7ef877aae7", func := "loop.example/g01129/laws.FnExactPairWeight", spec := "fnExactPairWeight", inPlace := ["internal/abi.NoEscape", "internal/bytealg.MakeNoZero"], unfollowed := true, recurses := true, named := ["internal/strconv.uint64pow10", "math/bits.deBruijn32tab", "math/bits.deBruijn64tab"], apart := false, laid := [("math/bits.deBruijn32tab", laid_math_bits_deBruijn32tab), ("math/bits.deBruijn64tab", laid_math_bits_deBruijn64tab), ("internal/strconv.uint64pow10", laid_internal_strconv_uint64pow10)], narrowed := true }
def FnExactPairWeightUptoSaid : Prop := fnExactPairWeightUptoRow.holds Tryd.pinned (OpenSpec.upto fnExactPairWeightSpec)

/-- 'laws.FnExactSumWeights', WHERE WHAT IT READS IS OF BULK AT MOST 1048576: true; the input reads as it did. -/
def fnExactSumWeightsUptoRow : OpenClaim := { program := "ytgpnlnmljeahdaadoor", sum := "c6cec4bb632ae24147e03486c041d5969cee3572ef1e6f60d0528a7ef877aae7", func := "loop.example/g01129/laws.FnExactSumWeights", spec := "fnExactSumWeights", inPlace := ["internal/abi.NoEscape", "internal/bytealg.MakeNoZero"], unfollowed := true, recurses := true, named := ["internal/strconv.uint64pow10", "math/bits.deBruijn32tab", "math/bits.deBruijn64tab"], apart := false, laid := [("math/bits.deBruijn32tab", laid_math_bits_deBruijn32tab), ("math/bits.deBruijn64tab", laid_math_bits_deBruijn64tab), ("internal/strconv.uint64pow10", laid_internal_strconv_uint64pow10)], narrowed := true }
def FnExactSumWeightsUptoSaid : Prop := fnExactSumWeightsUptoRow.holds Tryd.pinned (OpenSpec.upto fnExactSumWeightsSpec)

/-- 'laws.FnExactSystematicMixture', WHERE WHAT IT READS IS OF BULK AT MOST 1048576: true; the input reads as it did. -/
def fnExactSystematicMixtureUptoRow : OpenClaim := { program := "ytgpnlnmljeahdaadoor", sum := "c6cec4bb632ae24147e03486c041d5969cee3572ef1e6f60d0528a7ef877aae7", func := "loop.example/g01129/laws.FnExactSystematicMixture", spec := "fnExactSystematicMixture", inPlace := ["internal/abi.NoEscape", "internal/bytealg.MakeNoZero"], unfollowed := true, recurses := true, named := ["internal/strconv.uint64pow10", "math/bits.deBruijn32tab", "math/bits.deBruijn64tab"], apart := false, laid := [("math/bits.deBruijn32tab", laid_math_bits_deBruijn32tab), ("math/bits.deBruijn64tab", laid_math_bits_deBruijn64tab), ("internal/strconv.uint64pow10", laid_internal_strconv_uint64pow10)], narrowed := true }
def FnExactSystematicMixtureUptoSaid : Prop := fnExactSystematicMixtureUptoRow.holds Tryd.pinned (OpenSpec.upto fnExactSystematicMixtureSpec)

/-- 'laws.FnExactSystematicIn', WHERE WHAT IT READS IS OF BULK AT MOST 1048576: true; the input reads as it did. -/
def fnExactSystematicInUptoRow : OpenClaim := { program := "ytgpnlnmljeahdaadoor", sum := "c6cec4bb632ae24147e03486c041d5969cee3572ef1e6f60d0528a7ef877aae7", func := "loop.example/g01129/laws.FnExactSystematicIn", spec := "fnExactSystematicIn", inPlace := ["internal/abi.NoEscape", "internal/bytealg.MakeNoZero"], unfollowed := true, recurses := true, named := ["internal/strconv.uint64pow10", "math/bits.deBruijn32tab", "math/bits.deBruijn64tab"], apart := false, laid := [("math/bits.deBruijn32tab", laid_math_bits_deBruijn32tab), ("math/bits.deBruijn64tab", laid_math_bits_deBruijn64tab), ("internal/strconv.uint64pow10", laid_internal_strconv_uint64pow10)], narrowed := true }
def FnExactSystematicInUptoSaid : Prop := fnExactSystematicInUptoRow.holds Tryd.pinned (OpenSpec.upto fnExactSystematicInSpec)

end Rows
end Go.Proofs.YtgpnlnmljeahdaaDoor
