/- RowOrder, both sides. -/
import Derived.Test.YtacinjbaebimhaaRowVQ
namespace Go.Proofs.Ytacinjbaebimhaa.Val
open Go.RowKit
set_option linter.unusedVariables false
theorem yes_of {b : Bool} (h : (!b) = false) : b = true := by simpa using h
end Go.Proofs.Ytacinjbaebimhaa.Val
