/- Parts: copying, comparing, counting; Rows of parts: copying, comparing, counting; Rows of numbers: copying, comparing, marking; marks that nobody reads. -/
import Derived.Test.YtcgjnilkbdamjabFlP
import Derived.Test.YtcgjnilkbdamjabRowM
namespace Go.Proofs.Ytcgjnilkbdamjab.Val
open Go.RowKit
set_option linter.unusedVariables false
end Go.Proofs.Ytcgjnilkbdamjab.Val
namespace Go.Proofs.Ytcgjnilkbdamjab.Val
open Go.RowKit
set_option linter.unusedVariables false
end Go.Proofs.Ytcgjnilkbdamjab.Val
namespace Go.Proofs.Ytcgjnilkbdamjab.Val
open Go.RowKit
set_option linter.unusedVariables false
/-- The marks of n numbers. -/
def marksN (n : Nat) : List Int := (List.range n).map fun (i : Nat) => (1 : Int) + (i : Int)
theorem marksN_len (n : Nat) : (marksN n).length = n := by simp [marksN]
theorem marksN_get (n i : Nat) (h : i < n) : ((marksN n).map iv)[i]? = some (.int .i64 ((1 : Int) + i)) := by
  rw [List.getElem?_map, List.getElem?_eq_getElem (by rw [marksN_len]; exact h)]
  simp [marksN, iv]
end Go.Proofs.Ytcgjnilkbdamjab.Val
