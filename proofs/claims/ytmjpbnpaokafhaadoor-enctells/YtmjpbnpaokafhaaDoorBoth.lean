/- What the law EncTells meets: the program's side and the document's. -/
import Derived.Test.YtmjpbnpaokafhaaDoorKit
import Derived.Test.YtmjpbnpaokafhaaDoorRW
namespace Go.Proofs.YtmjpbnpaokafhaaDoor
end Go.Proofs.YtmjpbnpaokafhaaDoor
