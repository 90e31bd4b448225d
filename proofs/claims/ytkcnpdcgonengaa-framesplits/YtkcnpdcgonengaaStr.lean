/- Texts of bytes, one behind the other. No conditions; no function of the program. -/
import Derived.Test.YtkcnpdcgonengaaRow
import Derived.Laws.Concat
namespace Go.Proofs.Ytkcnpdcgonengaa
open Go.RowKit

set_option maxRecDepth 100000 in
theorem str_append (xs ys : List Int) : strOfNums xs ++ strOfNums ys = strOfNums (xs ++ ys) := by
  apply ByteArray.ext
  simp [strOfNums]
end Go.Proofs.Ytkcnpdcgonengaa
