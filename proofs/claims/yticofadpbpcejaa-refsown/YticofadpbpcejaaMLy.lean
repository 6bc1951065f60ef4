/- slices.Sort at texts: the library's contract, laid at this translation. -/
import Derived.Test.YticofadpbpcejaaProg
import Derived.Ground.NamesProg
import Derived.Shelf.Lay
import Derived.Shelf.Sort.Plain
import Derived.Shelf.Slices.In.SortNone
namespace Go.Proofs
open Go.Shelf
shelf_lay Lays.n190 Nm 190 at Try as Try.laysSort
end Go.Proofs
