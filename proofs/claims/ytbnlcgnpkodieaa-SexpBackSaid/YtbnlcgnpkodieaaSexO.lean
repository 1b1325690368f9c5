/- SexpPlaces: stands, and the law. -/
import Derived.Test.YtbnlcgnpkodieaaSexN
namespace Go.Proofs.Ytbnlcgnpkodieaa
open Go.RowKit

set_option linter.unusedVariables false
set_option linter.unusedSimpArgs false

end Go.Proofs.Ytbnlcgnpkodieaa
