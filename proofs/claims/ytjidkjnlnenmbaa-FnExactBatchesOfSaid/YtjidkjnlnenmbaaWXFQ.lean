/- The walk of the law FnExactRowFits. -/
import Derived.Test.YtjidkjnlnenmbaaRowFQ
import Derived.Test.YtjidkjnlnenmbaaOpenSQ
namespace Go.Proofs.Ytjidkjnlnenmbaa.Val
open Go.RowKit
set_option linter.unusedVariables false
theorem szColAny (A : Option Addr) (n cap : Nat) (left : Int) (w : World) (h0 : 0 ≤ left) (h1 : left ≤ 1048576) (hn : n ≤ maxLen) : Calls Try.prog 23 #[.slice A n cap, .int .i64 left] w fun e w' => ∃ r : Int, (e = .returned (.int .i64 r) ∧ r ≤ left ∧ (0 ≤ r → (n : Int) ≤ left)) ∧ w = w' := by
  refine (szColumnS A n cap left w h0 h1 hn).mono ?_
  rintro e w' ⟨rfl, rfl⟩
  refine ⟨_, ⟨rfl, ?_, ?_⟩, rfl⟩ <;> split <;> omega
end Go.Proofs.Ytjidkjnlnenmbaa.Val
