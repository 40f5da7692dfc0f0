/- RowOrder, both sides. -/
import Derived.Test.YtjidkjnlnenmbaaRowVQ
namespace Go.Proofs.Ytjidkjnlnenmbaa.Val
open Go.RowKit
set_option linter.unusedVariables false
theorem yes_of {b : Bool} (h : (!b) = false) : b = true := by simpa using h
end Go.Proofs.Ytjidkjnlnenmbaa.Val
