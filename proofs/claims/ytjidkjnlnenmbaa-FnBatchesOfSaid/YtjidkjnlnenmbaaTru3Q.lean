/- Contracts of the functions on truths (both sides); TruthOf of spec, ValueOf, and Compare's parts; Compare, both sides. -/
import Derived.Test.YtjidkjnlnenmbaaTxtQ
import Derived.Deep.RegionHeld3
import Derived.Deep.RegionWith
namespace Go.Proofs.Ytjidkjnlnenmbaa.Val
open Go.RowKit
theorem leastOf (a b : Int) (w : World) : Calls Try.prog 74 #[.int .i64 a, .int .i64 b] w fun e w' => e = .returned (.int .i64 (if a < b then a else b)) ∧ w = w' := by
  go_enter Try.func74, Try.ntmps74
  go_wp2
  all_goals (go_ret; refine ⟨retI ?_, rfl⟩)
  all_goals (simp_all)
  all_goals (try omega)
end Go.Proofs.Ytjidkjnlnenmbaa.Val
namespace Go.Proofs.Ytjidkjnlnenmbaa.Val
open Go.RowKit
end Go.Proofs.Ytjidkjnlnenmbaa.Val
namespace Go.Proofs.Ytjidkjnlnenmbaa.Val
open Go.RowKit
end Go.Proofs.Ytjidkjnlnenmbaa.Val
