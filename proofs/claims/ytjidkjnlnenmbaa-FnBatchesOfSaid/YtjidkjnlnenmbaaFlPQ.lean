/- Rows of parts and rows of numbers. -/
import Derived.Test.YtjidkjnlnenmbaaRowVQ
import Derived.Test.YtjidkjnlnenmbaaEMathAQ
namespace Go.Proofs.Ytjidkjnlnenmbaa.Val
open Go.RowKit
set_option linter.unusedVariables false
def iv (n : Int) : Value := .int .i64 n
theorem Fl.n {w : World} {g o : Nat} {A : Option Addr} {l : List Int} (h : Fl w g o A (l.map iv)) (i : Nat) (hi : i < l.length) : A = some ⟨g, o, none⟩ ∧ g < w.heap.size ∧ w.cell? ⟨g, o + i, none⟩ = some (.int .i64 l[i]) := by
  have hl : (l.map iv).length = l.length := List.length_map _
  refine ⟨h.ad (by omega), h.lt (by omega), ?_⟩
  rw [h.c i (by omega), List.getElem_map]; rfl
end Go.Proofs.Ytjidkjnlnenmbaa.Val
