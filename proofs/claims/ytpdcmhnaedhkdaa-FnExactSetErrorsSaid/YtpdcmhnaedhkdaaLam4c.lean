/- Laminar groups of values: the model's side. -/
import Derived.Test.YtpdcmhnaedhkdaaLam4b
namespace Go.Proofs.Ytpdcmhnaedhkdaa
open Go.ChangeShapes Go.WideShapes Go.ChangeAt Go.RowKit
set_option linter.unusedVariables false
noncomputable def lamV (g : Int) (zs : List Int) (zss : List (List Int)) : Bool := okV g zs && lamB zs.length zss
end Go.Proofs.Ytpdcmhnaedhkdaa
