/- The contract of the document's own answer on names. -/
import Derived.Test.YtinocgngjhomcaaDoorNm2
namespace Go.Proofs.YtinocgngjhomcaaDoor.wordsNames
open Go.ChangeShapes Go.WideShapes Go.ChangeAt Go.RowKit

end Go.Proofs.YtinocgngjhomcaaDoor.wordsNames
