/- What drawing an expression that may be none leaves (l20Wild), and columns, a row and an expression (l20Asked). -/
import Derived.Test.YtacinjbaebimhaaDrawXQ
namespace Go.Proofs.Ytacinjbaebimhaa.Val
open Go.RowKit
set_option linter.unusedVariables false
set_option linter.unusedSimpArgs false
set_option maxRecDepth 4000
theorem TextsP.take {a : List PT} (h : TextsP a) (i : Nat) : TextsP (a.take i) := fun v hv => h v (List.mem_of_mem_take hv)
theorem TextsP.set {a : List PT} (h : TextsP a) (i : Nat) (v : PT) (hv : v.2.2.2.2.size ≤ 20) : TextsP (a.set i v) := fun u hu => by
  rcases List.mem_or_eq_of_mem_set hu with hu | rfl
  · exact h u hu
  · exact hv
end Go.Proofs.Ytacinjbaebimhaa.Val
