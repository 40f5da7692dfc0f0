/- What the exact laws of plans need of tables of one's own besides. -/
import Derived.Test.YtacinjbaebimhaaPImpQ
import Derived.Test.YtacinjbaebimhaaTabXQ
namespace Go.Proofs.Ytacinjbaebimhaa.Val
open Go.RowKit
set_option linter.unusedVariables false
theorem Tab.leafs {w : World} {B g cap : Nat} {U : List UT} {ts : List TB} (h : Tab w B g cap U ts) : ∀ b ∈ U.flatMap leafU, B ≤ b ∧ b < w.heap.size := by
  intro b hb
  obtain ⟨u, hu, hb⟩ := List.mem_flatMap.1 hb
  exact (h.tabs u hu).hi b (leaf_blk hb)
end Go.Proofs.Ytacinjbaebimhaa.Val
