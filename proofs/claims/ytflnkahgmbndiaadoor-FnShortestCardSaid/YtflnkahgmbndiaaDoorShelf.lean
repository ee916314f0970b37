import Derived.Shelf.LaySoft
import Derived.Shelf.SlGeneric
import Derived.Shelf.SlIter.Nil
import Derived.Ground.GgzProg
import Derived.Test.YtflnkahgmbndiaaDoorProg
namespace Go.Proofs
open Go.RowKit Go.Maps Go.Shelf
shelf_try shelf_lay_g SlLaysZ.n7 Ggz 7 at Tryd 91 as Tryd.keysS
shelf_try shelf_lay_g SlLaysZ.n8 Ggz 8 at Tryd 100 as Tryd.collectS
shelf_tried
end Go.Proofs
