/- Contracts of the functions on columns: both sides, and the exact law's helpers. -/
import Derived.Test.YtcddkleglmbfgabFl
import Derived.Test.YtcddkleglmbfgabByteI
namespace Go.Proofs.Ytcddkleglmbfgab.Val
open Go.RowKit
set_option linter.unusedVariables false
def kindB (c : Int) : Bool := decide (1 ≤ c) && decide (c ≤ 3)
def colB (cs : List CT) : Bool := decide (cs.length ≤ 4) && cs.all fun c => kindB c.1
theorem all_snoc {α : Type} (p : α → Bool) (l : List α) (k : Nat) (h : k < l.length) : (l.take (k + 1)).all p = ((l.take k).all p && p l[k]) := by
  rw [List.take_succ_eq_append_getElem h, List.all_append]; simp
theorem all_no {α : Type} {p : α → Bool} {l : List α} (k : Nat) (h : k < l.length) (hp : p l[k] = false) : l.all p = false := by
  rw [List.all_eq_false]; exact ⟨l[k], List.getElem_mem _, by rw [hp]; simp⟩
theorem hid_all {α : Type} {p : α → Bool} {l : List α} {k : Nat} {b : Bool} (hs : Hid ((l.take (k + 1)).all p = ((l.take k).all p && b))) (hl : Hid ((l.take k).all p = true)) (hb : (!b) = false) : Hid ((l.take (k + 1)).all p = true) := by
  show List.all _ _ = true
  rw [hs.out, hl.out]; simpa using hb
theorem not_of {b : Bool} (h : (!b) = true) : b = false := by simpa using h
theorem all_end {α : Type} {p : α → Bool} {l : List α} (h : Hid ((l.take l.length).all p = true)) : l.all p = true := by
  have := h.out; rwa [List.take_length] at this
theorem take_eq_step {α : Type} (l m : List α) (k : Nat) (h : k < l.length) (h' : k < m.length) (ht : l.take k = m.take k) : (l[k] = m[k] → l.take (k + 1) = m.take (k + 1)) ∧ (l[k] ≠ m[k] → l ≠ m) := by
  constructor
  · intro e; rw [List.take_succ_eq_append_getElem h, List.take_succ_eq_append_getElem h', ht, e]
  · intro e e2; subst e2; exact e rfl
/-- A copy: a row of its own, of n elements of so many cells each. -/
def CopiedF (n : Nat) (xs : List Value) (w : World) (e : Ending) (w' : World) : Prop := ∃ (g c : Nat), e = .returned (.slice (some ⟨g, 0, none⟩) n c) ∧ Fl w' g 0 (some ⟨g, 0, none⟩) xs ∧ (∀ j, j < xs.length → w'.frozen? ⟨g, j, none⟩ = false) ∧ n ≤ c ∧ c ≤ maxLen ∧ w.heap.size ≤ g ∧ Below w.heap.size w w'
end Go.Proofs.Ytcddkleglmbfgab.Val
