import Derived.Test.YtokncahlcphhnaaTc
import Derived.Shelf.Strings.Repeat
import Derived.Shelf.Lay
import Derived.Ground.NamesProg
import Derived.Lib.Agree
/-! A text that is repeated: the shelf's contract, laid at this program. -/
namespace Go.Proofs
open Go.Shelf
shelf_lay Lays.n105 Nm 105 at Try as Try.laysRepeat
end Go.Proofs
