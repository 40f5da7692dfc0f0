/- Marks told: heldValueS. -/
import Derived.Test.YtcocpmfndodapaaRowN
import Derived.Test.YtcocpmfndodapaaRow
namespace Go.Proofs.Ytcocpmfndodapaa.Val
open Go.RowKit
set_option linter.unusedVariables false
theorem keepM {w W w1 : World} {g o : Nat} {x : Value} (h : W.cell? ⟨g, o, none⟩ = some x ∧ g < W.heap.size ∧ Below w.heap.size w W ∧ w.heap.size ≤ W.heap.size) (hb : Below W.heap.size W w1) : w1.cell? ⟨g, o, none⟩ = some x ∧ g < w1.heap.size ∧ Below w.heap.size w w1 ∧ w.heap.size ≤ w1.heap.size :=
  ⟨(hb.cell (p := ⟨g, o, none⟩) h.2.1).trans h.1, by have := hb.size; omega, h.2.2.1.trans (hb.mono h.2.2.2), Nat.le_trans h.2.2.2 hb.size⟩
theorem keepMD {w W : World} {g o : Nat} {x : Value} (h : W.cell? ⟨g, o, none⟩ = some x ∧ g < W.heap.size ∧ Below w.heap.size w W ∧ w.heap.size ≤ W.heap.size) : W.drew.cell? ⟨g, o, none⟩ = some x ∧ g < W.drew.heap.size ∧ Below w.heap.size w W.drew ∧ w.heap.size ≤ W.drew.heap.size :=
  ⟨h.1, h.2.1, h.2.2.1.drew, h.2.2.2⟩
end Go.Proofs.Ytcocpmfndodapaa.Val
