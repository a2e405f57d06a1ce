import Derived.Test.YthmdoplickpmaaaMark2
import Derived.Deep.RegionWith
namespace Go.Proofs.Ythmdoplickpmaaa
open Go.RowKit Go.Deep Go.Lib
set_option linter.unusedVariables false
set_option maxRecDepth 100000
set_option linter.unusedSimpArgs false

end Go.Proofs.Ythmdoplickpmaaa
