
/- math/bits.Len64 by the library's contract. -/
import Derived.Shelf.Strconv.Itoa0
import Derived.Test.YtlghfngomiiclaaProg
namespace Go.Proofs.Ytlghfngomiiclaa
open Go.Shelf
end Go.Proofs.Ytlghfngomiiclaa
