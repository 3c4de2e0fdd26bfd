/- The contract of the document's own answer on names. -/
import Derived.Test.YtlnndbhnjhdbfaaDoorNm2
namespace Go.Proofs.YtlnndbhnjhdbfaaDoor.wordsNames
open Go.ChangeShapes Go.WideShapes Go.ChangeAt Go.RowKit

end Go.Proofs.YtlnndbhnjhdbfaaDoor.wordsNames
