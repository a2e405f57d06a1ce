import Derived.Test.YtofobmdljelmgaaChecked
import Derived.Test.YtofobmdljelmgaaBase
import Derived.Deep.RegionWith
import Derived.Outline
namespace Go.Proofs.Ytofobmdljelmgaa
open Go.RowKit
set_option linter.unusedVariables false
set_option linter.unusedSimpArgs false

end Go.Proofs.Ytofobmdljelmgaa
