/- The walk of the law on what is shown. -/
import Derived.Test.YtaoekpedjgnnjaaDoorRfF
namespace Go.Proofs.YtaoekpedjgnnjaaDoor.Wd
open Go.ChangeShapes Go.WideShapes Go.ChangeAt Go.RowKit Own Bld Go.Lib Nums

theorem below_on {y w w' : World} (h : Below y.heap.size y w) (h2 : Below w.heap.size w w') : Below y.heap.size y w' := h.trans (h2.mono h.size)
end Go.Proofs.YtaoekpedjgnnjaaDoor.Wd
