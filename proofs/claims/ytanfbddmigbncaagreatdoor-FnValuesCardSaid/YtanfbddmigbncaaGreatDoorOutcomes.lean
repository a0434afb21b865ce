/- What a reader of a list hands out: the list, or nothing where its error is a *fault, on its own or in parts. -/
import Derived.Test.YtanfbddmigbncaaGreatDoorRead
import Derived.Test.YtanfbddmigbncaaGreatDoorAsPart
namespace Go.Proofs.YtanfbddmigbncaaGreatDoor
open Go.ChangeShapes Go.WideShapes Go.ChangeAt Go.RowKit
set_option linter.unusedVariables false
end Go.Proofs.YtanfbddmigbncaaGreatDoor
