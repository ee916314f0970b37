import Derived.Shelf.LaySoft
import Derived.Shelf.SlGeneric
import Derived.Shelf.SlIter.Nil
import Derived.Shelf.SortM.Plain
import Derived.Shelf.SortM.SortNone
import Derived.Ground.GgzProg
import Derived.Ground.SlgmProg
import Derived.Test.YtflnkahgmbndiaaDoorProg
namespace Go.Proofs
open Go.RowKit Go.Maps Go.Sort Go.Shelf
shelf_try shelf_lay_g SlLaysZ.n6 Ggz 6 at Tryd 90 as Tryd.sortedT
shelf_try shelf_lay_g SlLaysM.n6 Slgm 6 at Tryd 101 as Tryd.sortT
shelf_tried
end Go.Proofs
