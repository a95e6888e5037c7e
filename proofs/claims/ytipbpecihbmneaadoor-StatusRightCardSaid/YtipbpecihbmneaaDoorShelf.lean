/- The contracts of strconv.Itoa and of bytes.Buffer's writers at this seat's numbers, as the library gives them. No condition but theirs. -/
import Derived.Shelf.Bytes.WriteStringAt
import Derived.Shelf.Bytes.WriteByteAt
import Derived.Shelf.Strconv.Itoa3
import Derived.Shelf.Lay
import Derived.Ground.NamesProg
import Derived.Test.YtipbpecihbmneaaDoorProg
namespace Go.Proofs
open Go.Shelf
shelf_lay LaysM.n178 Nm 178 at Tryd as Tryd.lays178
shelf_lay LaysM.n179 Nm 179 at Tryd as Tryd.lays179
shelf_lay LaysM.n171 Nm 171 at Tryd as Tryd.lays171
end Go.Proofs
