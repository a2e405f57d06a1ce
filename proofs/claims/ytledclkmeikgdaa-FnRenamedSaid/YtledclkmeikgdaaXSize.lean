import Derived.Test.YtledclkmeikgdaaXNm
import Derived.Deep.OwnRows
import Derived.WalkLawsBesides
import Derived.Defers
import Derived.Recover
import Derived.KernelRfl
namespace Go.Proofs.Ytledclkmeikgdaa.T
open Go.RowKit Go.Deep
set_option linter.unusedVariables false
set_option linter.unusedSimpArgs false

end Go.Proofs.Ytledclkmeikgdaa.T

namespace Go.Proofs.Ytledclkmeikgdaa.T
open Go.RowKit Go.Deep
set_option linter.unusedVariables false
set_option linter.unusedSimpArgs false

/-- What TreeSize lays ahead of its walk. -/
abbrev W5 (w : World) (o : Obj) : World := ((((w.alloc o).alloc (.cells #[.int .i64 0] 3)).alloc (.cells #[.int .i64 0] 3)).alloc (.cells #[.int .i64 0] 3)).alloc (.cells #[.int .i64 0, .int .i64 0] 152)

end Go.Proofs.Ytledclkmeikgdaa.T
