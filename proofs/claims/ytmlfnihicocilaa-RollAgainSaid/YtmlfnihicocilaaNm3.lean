/- The contract of the document's own answer on names. -/
import Derived.Test.YtmlfnihicocilaaNm2
namespace Go.Proofs.Ytmlfnihicocilaa.wordsNames
open Go.ChangeShapes Go.WideShapes Go.ChangeAt Go.RowKit

end Go.Proofs.Ytmlfnihicocilaa.wordsNames
