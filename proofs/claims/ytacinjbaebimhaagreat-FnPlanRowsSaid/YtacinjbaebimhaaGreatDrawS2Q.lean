/- What drawing rows leaves (l20Fit, l20Any). -/
import Derived.Test.YtacinjbaebimhaaGreatDrawLQ
namespace Go.Proofs.YtacinjbaebimhaaGreat.Val
open Go.RowKit
set_option linter.unusedVariables false
set_option maxRecDepth 4000
/-- A row was drawn. -/
def Texts (vs : List VT) : Prop := ∀ v ∈ vs, v.2.2.size ≤ 20
theorem Texts.short {vs : List VT} (h : Texts vs) : Short vs := fun i hi => by have := h vs[i] (List.getElem_mem _); unfold maxLen; omega
theorem Texts.app {a b : List VT} (h : Texts a) (h2 : Texts b) : Texts (a ++ b) := fun v hv => by
  rcases List.mem_append.1 hv with hv | hv
  · exact h v hv
  · exact h2 v hv
theorem Texts.set {a : List VT} (h : Texts a) (i : Nat) (v : VT) (hv : v.2.2.size ≤ 20) : Texts (a.set i v) := fun u hu => by
  rcases List.mem_or_eq_of_mem_set hu with hu | rfl
  · exact h u hu
  · exact hv
theorem Texts.take {a : List VT} (h : Texts a) (i : Nat) : Texts (a.take i) := fun v hv => h v (List.mem_of_mem_take hv)
end Go.Proofs.YtacinjbaebimhaaGreat.Val
