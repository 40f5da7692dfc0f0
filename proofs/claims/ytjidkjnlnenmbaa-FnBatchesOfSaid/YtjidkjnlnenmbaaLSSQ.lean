/- Lists of lists of values: measured, copied, compared (the exact laws' helpers); arguments that are such. -/
import Derived.Test.YtjidkjnlnenmbaaBagQ
import Derived.Test.YtjidkjnlnenmbaaFlQ
import Derived.Deep.SlicePairs
import Derived.Deep.Strs
import Derived.ProofKit
import Derived.OpenShut
import Derived.ChangeOld
import Derived.Deep.Slices
namespace Go.Proofs.Ytjidkjnlnenmbaa.Val
open Go.ChangeShapes Go.WideShapes Go.ChangeAt Go.RowKit Go.Deep
set_option linter.unusedVariables false
set_option maxRecDepth 8000
/-- The rows of an argument. -/
structure RwsA (w : World) (g o : Nat) (A : Option Addr) (ls : List RT) : Prop where
  ad : 0 < ls.length → A = some ⟨g, o, none⟩
  hd : ∀ j (h : j < ls.length), ∃ (A' : Option Addr) (c' g' o' : Nat), w.cell? ⟨g, o + j, none⟩ = some (.slice A' ls[j].length c') ∧ Fl w g' o' A' (flatV ls[j])
theorem RwsA.below {w w' : World} {g o : Nat} {A : Option Addr} {ls : List RT} (h : RwsA w g o A ls) (hb : Below w.heap.size w w') : RwsA w' g o A ls := by
  refine ⟨h.ad, fun j hj => ?_⟩
  obtain ⟨A', c', g', o', h1, h2⟩ := h.hd j hj
  exact ⟨A', c', g', o', (hb.cell (p := ⟨g, o + j, none⟩) (World.block_lt_of_cell? w ⟨g, o + j, none⟩ h1)).trans h1, h2.below hb⟩
theorem RwsA.at {w : World} {g o : Nat} {A : Option Addr} {ls : List RT} (h : RwsA w g o A ls) (j : Nat) (hj : j < ls.length) : A = some ⟨g, o, none⟩ ∧ g < w.heap.size ∧ ∃ (A' : Option Addr) (c' g' o' : Nat), w.cell? ⟨g, o + j, none⟩ = some (.slice A' ls[j].length c') ∧ Fl w g' o' A' (flatV ls[j]) := by
  obtain ⟨A', c', g', o', h1, h2⟩ := h.hd j hj
  exact ⟨h.ad (by omega), World.block_lt_of_cell? w ⟨g, o + j, none⟩ h1, A', c', g', o', h1, h2⟩
def Fit2 (ls : List RT) : Prop := ∀ r ∈ ls, r.length ≤ maxLen ∧ Short r
theorem total_at (ls : List RT) (r : RT) (h : r ∈ ls) : r.length ≤ total ls := by
  induction ls with
  | nil => simp at h
  | cons x ls ih =>
    simp only [total, List.map_cons, List.sum_cons] at ih ⊢
    rcases List.mem_cons.1 h with rfl | h
    · omega
    · have := ih h; omega
/-- What was measured is not too much. -/
theorem Fit2.ok {ls : List RT} (h : Fit2 ls) (hl : ls.length ≤ 1048576) (ht : total ls ≤ 1048576) : Ok2 ls := ⟨by omega, fun r hr => ⟨by have := total_at ls r hr; omega, (h r hr).2⟩⟩
end Go.Proofs.Ytjidkjnlnenmbaa.Val
