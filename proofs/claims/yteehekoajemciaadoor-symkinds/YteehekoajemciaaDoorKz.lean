/- A name of one letter. -/
import Derived.Test.YteehekoajemciaaDoorKit
namespace Go.Proofs.YteehekoajemciaaDoor
theorem a_may : mayNm (nm ⟨#[97]⟩) = true := by decide +kernel
end Go.Proofs.YteehekoajemciaaDoor
