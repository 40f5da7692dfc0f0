/- What drawing columns and rows leaves (l20Columns, l20Like, l20Fit, l20Any). -/
import Derived.Test.YtacinjbaebimhaaGreatDrawQ
import Derived.Test.YtacinjbaebimhaaGreatOwnKQ
import Derived.Test.YtacinjbaebimhaaGreatColQ
import Derived.Deep.AppendLies
import Derived.Laws.AppendOwnNone
import Derived.Deep.RegionWith
import Derived.Deep.RegionLaw
namespace Go.Proofs.YtacinjbaebimhaaGreat.Val
open Go.RowKit
set_option linter.unusedVariables false
set_option maxRecDepth 20000
theorem pickEnters (vs : Array Value) (w : World) : (callFunc 26 vs).run Tryz.prog w = .ok (.enter 26 vs) w := by
  go_simp
def four (m : Int) : Int := if m = 2 then 2 else if m = 3 then 3 else 1
theorem four_at (W : World) (t : TypeId) (m : Int) (h0 : 0 ≤ m) (h6 : m < 4) : (W.alloc (.cells #[.int .i64 1, .int .i64 1, .int .i64 2, .int .i64 3] t)).cell? ⟨W.heap.size, m.toNat, none⟩ = some (.int .i64 (four m)) := by
  rw [World.cell?_alloc_mark]
  have hm : m = 0 ∨ m = 1 ∨ m = 2 ∨ m = 3 := by omega
  rcases hm with rfl | rfl | rfl | rfl <;> rfl
end Go.Proofs.YtacinjbaebimhaaGreat.Val
