/- The law SymKinds, walked. -/
import Derived.Test.YteehekoajemciaaDoorKa
import Derived.Test.YteehekoajemciaaDoorKb
import Derived.Test.YteehekoajemciaaDoorKc
import Derived.Test.YteehekoajemciaaDoorKf
import Derived.Test.YteehekoajemciaaDoorKg
import Derived.Test.YteehekoajemciaaDoorKh
import Derived.Test.YteehekoajemciaaDoorKi
namespace Go.Proofs.YteehekoajemciaaDoor
open Go.RowKit

theorem kinds_walk (s : ByteArray) (bind : Int) (hid : Bool) (wh val sz : Int) (w : World) (hT : Tab w) (ok : SymOk s bind wh val sz) :
    Calls Tryd.prog 8 #[symW s bind hid wh val sz] w fun e w' => e = .returned (.bool true) ∧ Kept w w' := by
  by_cases ha : 1 ≤ wh ∧ wh ≤ 16
  · exact kinds_sec s bind hid wh val sz w hT ok ha
  by_cases h0 : wh = 0
  · exact kinds_zero s bind hid wh val sz w hT ok h0
  by_cases h1 : wh = -1
  · exact kinds_abs s bind hid wh val sz w hT ok h1
  by_cases h2 : wh = -2
  · by_cases v1 : val = 1
    · exact kinds_com1 s bind hid wh val sz w hT ok h2 v1
    by_cases v2 : val = 2
    · exact kinds_com2 s bind hid wh val sz w hT ok h2 v2
    by_cases v4 : val = 4
    · exact kinds_com4 s bind hid wh val sz w hT ok h2 v4
    by_cases v8 : val = 8
    · exact kinds_com8 s bind hid wh val sz w hT ok h2 v8
    by_cases v16 : val = 16
    · exact kinds_com16 s bind hid wh val sz w hT ok h2 v16
    by_cases v32 : val = 32
    · exact kinds_com32 s bind hid wh val sz w hT ok h2 v32
    by_cases v64 : val = 64
    · exact kinds_com64 s bind hid wh val sz w hT ok h2 v64
    exact kinds_com0 s bind hid wh val sz w hT ok h2 ⟨v1, v2, v4, v8, v16, v32, v64⟩
  · exact kinds_else s bind hid wh val sz w hT ok ⟨ha, h0, h1, h2⟩
end Go.Proofs.YteehekoajemciaaDoor
