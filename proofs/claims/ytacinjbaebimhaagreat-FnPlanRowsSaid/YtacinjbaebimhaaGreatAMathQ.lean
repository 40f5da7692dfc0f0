/- Plain facts on the order of values. -/
import Derived.Test.YtacinjbaebimhaaGreatTxtQ
namespace Go.Proofs.YtacinjbaebimhaaGreat.Val
open Go.RowKit
theorem okB_kind (k n : Int) (s : ByteArray) (h : okB k n s = true) : 0 ≤ k ∧ k ≤ 3 := by
  rcases ok_cases k n s with h' | ⟨rfl, _⟩ | ⟨rfl, _⟩ | ⟨rfl, _⟩ | ⟨rfl, _⟩ | ⟨rfl, _⟩ <;> first | omega | (rw [h] at h'; cases h')
end Go.Proofs.YtacinjbaebimhaaGreat.Val
