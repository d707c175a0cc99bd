/- Kinds of names: the document's own. -/
import Derived.Test.YtlgjnkegpejpgabKd
namespace Go.Proofs.Ytlgjnkegpejpgab
open Go.RowKit

end Go.Proofs.Ytlgjnkegpejpgab
