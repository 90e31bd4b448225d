/- What Size and mayStand answer: they only compute. Conditions: the arguments are of their kinds. -/
import Derived.Test.YtjgonfaniincbaaRow
import Derived.Test.YtjgonfaniincbaaPure
namespace Go.Proofs.Ytjgonfaniincbaa
open Go.RowKit

set_option maxRecDepth 100000 in
theorem ret_int {k : IntKind} {a b : Int} (h : a = b) : Ending.returned (.int k a) = .returned (.int k b) := by rw [h]

set_option maxRecDepth 100000 in
theorem ret_bool {a b : Bool} (h : a = b) : Ending.returned (.bool a) = .returned (.bool b) := by rw [h]

end Go.Proofs.Ytjgonfaniincbaa
