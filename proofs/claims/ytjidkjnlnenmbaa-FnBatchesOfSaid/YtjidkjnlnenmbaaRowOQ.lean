/- RowOrder, both sides. -/
import Derived.Test.YtjidkjnlnenmbaaRowVQ
namespace Go.Proofs.Ytjidkjnlnenmbaa.Val
open Go.RowKit
set_option linter.unusedVariables false
theorem yes_of {b : Bool} (h : (!b) = false) : b = true := by simpa using h
def ordV (x y : VT) : Int := ordI x.1 x.2.1 x.2.2 y.1 y.2.1 y.2.2
def lexI : List VT → List VT → Int
  | [], [] => 0
  | [], _ :: _ => -1
  | _ :: _, [] => 1
  | x :: a, y :: b => if ordV x y = 0 then lexI a b else ordV x y
def rowI (a b : List VT) : Int := if rowB a = true ∧ rowB b = true then lexI a b else 0
end Go.Proofs.Ytjidkjnlnenmbaa.Val
