/- Contracts of the functions on columns: both sides, and the exact law's helpers. -/
import Derived.Test.YtjidkjnlnenmbaaFlQ
import Derived.Test.YtjidkjnlnenmbaaBytQ
import Derived.Test.YtjidkjnlnenmbaaTxtQ
import Derived.Lib.AppendStr
import Derived.OwnWalk
namespace Go.Proofs.Ytjidkjnlnenmbaa.Val
open Go.RowKit
set_option linter.unusedVariables false
theorem all_snoc {α : Type} (p : α → Bool) (l : List α) (k : Nat) (h : k < l.length) : (l.take (k + 1)).all p = ((l.take k).all p && p l[k]) := by
  rw [List.take_succ_eq_append_getElem h, List.all_append]; simp
theorem all_no {α : Type} {p : α → Bool} {l : List α} (k : Nat) (h : k < l.length) (hp : p l[k] = false) : l.all p = false := by
  rw [List.all_eq_false]; exact ⟨l[k], List.getElem_mem _, by rw [hp]; simp⟩
theorem hid_all {α : Type} {p : α → Bool} {l : List α} {k : Nat} {b : Bool} (hs : Hid ((l.take (k + 1)).all p = ((l.take k).all p && b))) (hl : Hid ((l.take k).all p = true)) (hb : (!b) = false) : Hid ((l.take (k + 1)).all p = true) := by
  show List.all _ _ = true
  rw [hs.out, hl.out]; simpa using hb
theorem not_of {b : Bool} (h : (!b) = true) : b = false := by simpa using h
theorem all_end {α : Type} {p : α → Bool} {l : List α} (h : Hid ((l.take l.length).all p = true)) : l.all p = true := by
  have := h.out; rwa [List.take_length] at this
end Go.Proofs.Ytjidkjnlnenmbaa.Val
