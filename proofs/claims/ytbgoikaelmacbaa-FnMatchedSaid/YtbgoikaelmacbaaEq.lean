import Derived.Test.YtbgoikaelmacbaaChecked
import Derived.Test.YtbgoikaelmacbaaBase
import Derived.Deep.RegionWith
import Derived.Outline
namespace Go.Proofs.Ytbgoikaelmacbaa
open Go.RowKit
set_option linter.unusedVariables false
set_option linter.unusedSimpArgs false

end Go.Proofs.Ytbgoikaelmacbaa
