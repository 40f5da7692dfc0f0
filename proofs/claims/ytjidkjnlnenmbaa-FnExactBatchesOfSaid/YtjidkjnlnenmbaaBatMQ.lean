/- Batches: plain facts. -/
import Derived.Test.YtjidkjnlnenmbaaPMathQ
import Derived.Test.YtjidkjnlnenmbaaBatAQ
import Derived.Test.YtjidkjnlnenmbaaBagNQ
import Derived.BigQuiet
import Derived.Deep.RegionHeldLaw
namespace Go.Proofs.Ytjidkjnlnenmbaa.Val
open Go.RowKit
set_option linter.unusedVariables false
set_option maxRecDepth 8000
/-- A row was made. -/
def RetRw (l : RT) (w : World) (e : Ending) (w' : World) : Prop := ∃ (g c : Nat), e = .returned (.slice (some ⟨g, 0, none⟩) l.length c) ∧ RowO w' w.heap.size (g, c, l) ∧ Below w.heap.size w w'
/-- A row of a batch. -/
def acr (ls : List RT) (k : Nat) : RT := ls.map fun c => c.getD k nilV
theorem acr_len (ls : List RT) (k : Nat) : (acr ls k).length = ls.length := List.length_map _
/-- A box of two cells. -/
def Box2 (x : Nat) (u v : Value) (w : World) : Prop := w.cell? ⟨x, 0, none⟩ = some u ∧ w.cell? ⟨x, 1, none⟩ = some v
theorem Box2.below {x : Nat} {u v : Value} {w w' : World} (h : Box2 x u v w) (hb : Below w.heap.size w w') : Box2 x u v w' := by
  have hx := World.block_lt_of_cell? w ⟨x, 0, none⟩ h.1
  exact ⟨(hb.cell (p := ⟨x, 0, none⟩) hx).trans h.1, (hb.cell (p := ⟨x, 1, none⟩) hx).trans h.2⟩
theorem Box2.alloc {x : Nat} {u v : Value} {w : World} (h : Box2 x u v w) (ob : Obj) : Box2 x u v (w.alloc ob) := h.below ((Below.refl _ _).alloc (Nat.le_refl _) _)
theorem Box2.drew {x : Nat} {u v : Value} {w : World} (h : Box2 x u v w) : Box2 x u v w.drew := h.below ((Below.refl _ _).drew)
theorem Box2.grown {x : Nat} {u v : Value} {w w' : World} {g : Nat} (h : Box2 x u v w) (hg : w.grownBy w' (some g)) (hx : x ≠ g) : Box2 x u v w' := by
  have hl := World.block_lt_of_cell? w ⟨x, 0, none⟩ h.1
  have hb := hg.block x hl (fun e => hx (Option.some.inj e))
  exact ⟨(cellOf hb).trans h.1, (cellOf hb).trans h.2⟩
theorem Box2.lt {x : Nat} {u v : Value} {w : World} (h : Box2 x u v w) : x < w.heap.size := World.block_lt_of_cell? w ⟨x, 0, none⟩ h.1
theorem short_acr {ls : List RT} (h : ∀ c ∈ ls, Short c) (k : Nat) : Short (acr ls k) := by
  intro i hi
  simp only [acr, List.length_map] at hi
  simp only [acr, List.getElem_map]
  by_cases hk : k < ls[i].length
  · rw [getD_lt hk]; exact h _ (List.getElem_mem hi) k hk
  · rw [List.getD_eq_getElem?_getD, List.getElem?_eq_none (by omega)]
    show (0 : Nat) ≤ maxLen
    exact Nat.zero_le _
end Go.Proofs.Ytjidkjnlnenmbaa.Val
