/- Degrees, and the sum of squares over all colourings: the program's side, and the model's. -/
import Derived.Test.YtaockgegghmphabSysI
import Derived.Test.YtaockgegghmphabCnt10
import Derived.Test.YtaockgegghmphabAvg10
import Derived.Test.YtaockgegghmphabMap10
import Derived.Test.YtaockgegghmphabTot
import Derived.Lib.MinMax
namespace Go.Proofs.Ytaockgegghmphab
open Go.ChangeShapes Go.WideShapes Go.ChangeAt Go.RowKit Go.Deep
set_option linter.unusedVariables false
end Go.Proofs.Ytaockgegghmphab
