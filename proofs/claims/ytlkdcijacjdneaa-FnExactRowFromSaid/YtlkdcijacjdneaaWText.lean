/- Texts of values can be read back: the walk of the law FnValueText. -/
import Derived.Test.YtlkdcijacjdneaaAlive
import Derived.Test.YtlkdcijacjdneaaRead2
import Derived.Deep.RegionHeld3
import Derived.ProofKit
import Derived.OpenShut
import Derived.ShutString
import Derived.ChangeOld
import Derived.Below
import Derived.Lib.SmallJoins
namespace Go.Proofs.Ytlkdcijacjdneaa.Val
open Go.ChangeShapes Go.WideShapes Go.ChangeAt Go.RowKit
open Go.ChangeMaps (open_string shut_string)
set_option linter.unusedVariables false
theorem text_len (k n : Int) (t : ByteArray) : (textL k n t).length ≤ 30 := by
  by_cases h : okB k n t = true
  · rcases ok_text k n t h with ⟨rfl, rfl, rfl, e⟩ | ⟨rfl, a1, a2, rfl, e⟩ | ⟨rfl, rfl, a1, a2, e⟩ | ⟨rfl, rfl, rfl, e⟩ | ⟨rfl, rfl, rfl, e⟩ <;> rw [e]
    · simp
    · have := (decL_facts n.natAbs (by omega)).2.2.2.1
      unfold decI; split <;> simp <;> omega
    · have hz : t.data.toList.length = t.size := by simp
      rw [List.length_cons, List.length_append, hz]; simp; omega
    · simp
    · simp
  · have : okB k n t = false := by simpa using h
    simp [textL, this]
theorem text_ne (k n : Int) (t : ByteArray) (h : okB k n t = true) : textL k n t ≠ [] := by
  rcases ok_text k n t h with ⟨rfl, rfl, rfl, e⟩ | ⟨rfl, a1, a2, rfl, e⟩ | ⟨rfl, rfl, a1, a2, e⟩ | ⟨rfl, rfl, rfl, e⟩ | ⟨rfl, rfl, rfl, e⟩ <;> rw [e]
  · simp
  · obtain ⟨c, tl, ec, _⟩ := decI_head n a1 a2
    rw [ec]; simp
  · simp
  · simp
  · simp
end Go.Proofs.Ytlkdcijacjdneaa.Val
