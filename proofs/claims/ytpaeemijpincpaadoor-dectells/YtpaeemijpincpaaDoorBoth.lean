/- Both sides in one: what dec's and the document's calls give. -/
import Derived.Test.YtpaeemijpincpaaDoorKit
import Derived.Test.YtpaeemijpincpaaDoorFld
import Derived.Test.YtpaeemijpincpaaDoorRFix
import Derived.Test.YtpaeemijpincpaaDoorRIns
namespace Go.Proofs.YtpaeemijpincpaaDoor
open Go.RowKit
theorem Box.make (w : World) (op rd rs1 rs2 imm : Int) : Box (w.alloc (.cells #[.int .u8 op, .int .i64 rd, .int .i64 rs1, .int .i64 rs2, .int .i64 imm] 23)) w.heap.size op rd rs1 rs2 imm := by
  constructor <;> simp
end Go.Proofs.YtpaeemijpincpaaDoor
