/- The walk of the law FnExactValueBytes. -/
import Derived.Test.YtlkdcijacjdneaaRow
import Derived.Test.YtlkdcijacjdneaaByteS2
import Derived.Deep.RegionHeld3
import Derived.ProofKit
import Derived.OpenShut
import Derived.ShutString
import Derived.ChangeOld
import Derived.Below
import Derived.Lib.SmallJoins
namespace Go.Proofs.Ytlkdcijacjdneaa.Val
open Go.ChangeShapes Go.WideShapes Go.ChangeAt Go.RowKit
open Go.ChangeMaps (open_string shut_string)
set_option linter.unusedVariables false
theorem bytes_short (k n : Int) (s : ByteArray) : (bytesL k n s).length ≤ 8 := by
  rcases ok_cases k n s with ho | ⟨rfl, rfl, he, ho⟩ | ⟨rfl, h1, h2, he, ho⟩ | ⟨rfl, rfl, hz, hl, ho⟩ | ⟨rfl, rfl, he, ho⟩ | ⟨rfl, rfl, he, ho⟩
  · simp [bytesL, ho]
  · simp [bytesL, ho]
  · simp [bytesL, ho]
  · have hsl : s.data.toList.length = s.size := by simp
    have : bytesL 2 0 s = 2 :: UInt8.ofNat s.size :: s.data.toList := by simp [bytesL, ho]
    rw [this]; simp only [List.length_cons, hsl]; omega
  · simp [bytesL, ho]
  · simp [bytesL, ho]
end Go.Proofs.Ytlkdcijacjdneaa.Val
