/- What fault's bitsOf and Bit, and the reference's Has and Bit answer. No claim of its own. -/
import Derived.Test.YtpmakkjcpoillaaDoorUBit
namespace Go.Proofs.YtpmakkjcpoillaaDoor.fa
open Go.RowKit
set_option maxRecDepth 20000

theorem makeFn (fn : Fn) (first cap : Array Value) (w : World) : (Instr.makeFunc fn first cap).run Tryd.prog w = .ok (.func fn first cap) w := rfl
end Go.Proofs.YtpmakkjcpoillaaDoor.fa
