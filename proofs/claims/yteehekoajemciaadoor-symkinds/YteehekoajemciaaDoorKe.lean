/- Kinds of names: the document's own. -/
import Derived.Test.YteehekoajemciaaDoorKd
namespace Go.Proofs.YteehekoajemciaaDoor
open Go.RowKit

end Go.Proofs.YteehekoajemciaaDoor
