import Derived.Test.YtfdkbgbgbmnaeahGrow
namespace Go.Proofs.Ytfdkbgbgbmnaeah
open Go.RowKit Go.Deep Go.Lib
set_option linter.unusedVariables false
set_option linter.unusedSimpArgs false

end Go.Proofs.Ytfdkbgbgbmnaeah
