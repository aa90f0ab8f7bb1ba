
/- math/bits.Len64 by the library's contract. -/
import Derived.Shelf.Strconv.Itoa0
import Derived.Test.YtedlfcmlchjjlaaProg
namespace Go.Proofs.Ytedlfcmlchjjlaa
open Go.Shelf
end Go.Proofs.Ytedlfcmlchjjlaa
