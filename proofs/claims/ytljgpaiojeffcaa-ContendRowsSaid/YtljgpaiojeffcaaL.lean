
/- math/bits.Len64 by the library's contract. -/
import Derived.Shelf.Strconv.Itoa0
import Derived.Test.YtljgpaiojeffcaaProg
namespace Go.Proofs.Ytljgpaiojeffcaa
open Go.Shelf
end Go.Proofs.Ytljgpaiojeffcaa
