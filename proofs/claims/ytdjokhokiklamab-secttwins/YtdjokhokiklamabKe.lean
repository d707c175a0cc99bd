/- Kinds of names: the document's own. -/
import Derived.Test.YtdjokhokiklamabKd
namespace Go.Proofs.Ytdjokhokiklamab
open Go.RowKit

end Go.Proofs.Ytdjokhokiklamab
