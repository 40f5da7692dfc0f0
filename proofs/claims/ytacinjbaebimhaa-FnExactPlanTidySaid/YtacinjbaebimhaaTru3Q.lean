/- Contracts of the functions on truths (both sides); TruthOf of spec, ValueOf, and Compare's parts; Compare, both sides. -/
import Derived.Test.YtacinjbaebimhaaTMathQ
import Derived.Deep.RegionHeld3
import Derived.Deep.RegionWith
namespace Go.Proofs.Ytacinjbaebimhaa.Val
open Go.RowKit
end Go.Proofs.Ytacinjbaebimhaa.Val
namespace Go.Proofs.Ytacinjbaebimhaa.Val
open Go.RowKit
theorem comparisonOk (n : Int) (w : World) : Calls Try.prog 157 #[.int .i64 n] w fun e w' => e = .returned (.bool (decide (1 ≤ n) && decide (n ≤ 4))) ∧ w = w' := by
  go_enter Try.func157, Try.ntmps157
  go_wp2
  all_goals (go_ret; refine ⟨retB ?_, rfl⟩)
  all_goals (simp_all <;> omega)
end Go.Proofs.Ytacinjbaebimhaa.Val
namespace Go.Proofs.Ytacinjbaebimhaa.Val
open Go.RowKit
end Go.Proofs.Ytacinjbaebimhaa.Val
