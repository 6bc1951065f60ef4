/- slices.Sort and slices.Compact at texts: the library's contracts, laid at this translation. -/
import Derived.Test.YtoneedobhopkkaaProg
import Derived.Ground.NamesProg
import Derived.Shelf.Lay
import Derived.Shelf.Sort.Plain
import Derived.Shelf.Slices.In.SortNone
import Derived.Shelf.Slices.CompactS
namespace Go.Proofs
open Go.Shelf
shelf_lay Lays.n190 Nm 190 at Try as Try.laysSort
shelf_lay Lays.n194 Nm 194 at Try as Try.laysCompact
#print axioms Try.laysSort
end Go.Proofs
