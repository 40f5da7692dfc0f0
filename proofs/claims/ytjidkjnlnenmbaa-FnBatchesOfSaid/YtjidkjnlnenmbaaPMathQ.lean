/- Plans: which are plans, their columns, their rows, the tables they ask for: plain facts; What the whole laws ask of plans: two tests in any order, twice and once, the order of tables' rows, joins of two lists, one list behind the other; Plans of two tables: one list behind the other, joins of two lists, joins turned round. -/
import Derived.Test.YtjidkjnlnenmbaaBagQ
import Derived.Test.YtjidkjnlnenmbaaEMathAQ
namespace Go.Proofs.Ytjidkjnlnenmbaa.Val
open Go.RowKit
set_option linter.unusedSimpArgs false
set_option linter.unusedVariables false
/-- A table; a step: kind, A, B, N, E, List. -/
abbrev TB := List CT × List RT
theorem getD_lt {α : Type} {l : List α} {k : Nat} (h : k < l.length) (d : α) : l.getD k d = l[k] := by rw [List.getD_eq_getElem?_getD, List.getElem?_eq_getElem h]; rfl
end Go.Proofs.Ytjidkjnlnenmbaa.Val
namespace Go.Proofs.Ytjidkjnlnenmbaa.Val
open Go.RowKit
set_option linter.unusedSimpArgs false
open List (Perm)
set_option linter.unusedVariables false
/-- The same tables, their rows in another order. -/
def PermT (tb tb' : List TB) : Prop := tb.length = tb'.length ∧ ∀ k, (tb.getD k ([], [])).1 = (tb'.getD k ([], [])).1 ∧ Perm (tb.getD k ([], [])).2 (tb'.getD k ([], [])).2
theorem PermT.symm {tb tb' : List TB} (h : PermT tb tb') : PermT tb' tb := ⟨h.1.symm, fun k => ⟨(h.2 k).1.symm, (h.2 k).2.symm⟩⟩
end Go.Proofs.Ytjidkjnlnenmbaa.Val
namespace Go.Proofs.Ytjidkjnlnenmbaa.Val
open Go.RowKit
set_option linter.unusedSimpArgs false
open List (Perm)
set_option linter.unusedVariables false
end Go.Proofs.Ytjidkjnlnenmbaa.Val
