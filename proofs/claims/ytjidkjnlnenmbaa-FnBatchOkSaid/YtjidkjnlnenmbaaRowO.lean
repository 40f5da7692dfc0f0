/- RowOrder, both sides. -/
import Derived.Test.YtjidkjnlnenmbaaRowV
namespace Go.Proofs.Ytjidkjnlnenmbaa.Val
open Go.RowKit
set_option linter.unusedVariables false
theorem yes_of {b : Bool} (h : (!b) = false) : b = true := by simpa using h
def numI (a b : Nat) : Int := if a < b then -1 else if b < a then 1 else 0
def ordV (x y : VT) : Int := ordI x.1 x.2.1 x.2.2 y.1 y.2.1 y.2.2
def lexI : List VT → List VT → Int
  | [], [] => 0
  | [], _ :: _ => -1
  | _ :: _, [] => 1
  | x :: a, y :: b => if ordV x y = 0 then lexI a b else ordV x y
def rowI (a b : List VT) : Int := if rowB a = true ∧ rowB b = true then lexI a b else 0
theorem lex_step (a b : List VT) (k : Nat) (h : k < a.length) (h' : k < b.length) : lexI (a.drop k) (b.drop k) = if ordV a[k] b[k] = 0 then lexI (a.drop (k + 1)) (b.drop (k + 1)) else ordV a[k] b[k] := by
  rw [List.drop_eq_getElem_cons h, List.drop_eq_getElem_cons h']; rfl
theorem lex_end (a b : List VT) (k : Nat) (h : k ≤ a.length) (h' : k ≤ b.length) (hn : ¬ (k < a.length ∧ k < b.length)) : lexI (a.drop k) (b.drop k) = numI a.length b.length := by
  by_cases h1 : k < a.length
  · have : k = b.length := by omega
    rw [List.drop_eq_getElem_cons h1, List.drop_eq_nil_of_le (show b.length ≤ k by omega)]
    show (1 : Int) = _
    rw [numI, if_neg (by omega), if_pos (by omega)]
  · rw [List.drop_eq_nil_of_le (show a.length ≤ k by omega)]
    by_cases h2 : k < b.length
    · rw [List.drop_eq_getElem_cons h2]
      show (-1 : Int) = _
      rw [numI, if_pos (by omega)]
    · rw [List.drop_eq_nil_of_le (show b.length ≤ k by omega)]
      show (0 : Int) = _
      rw [numI, if_neg (by omega), if_neg (by omega)]
end Go.Proofs.Ytjidkjnlnenmbaa.Val
