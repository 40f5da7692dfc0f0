/- RowsLess, both sides. -/
import Derived.Test.YtjidkjnlnenmbaaBagQ
import Derived.Deep.RegionHeldLaw
namespace Go.Proofs.Ytjidkjnlnenmbaa.Val
open Go.RowKit
set_option linter.unusedVariables false
set_option maxRecDepth 8000
/-- Headers of rows that were there at w. -/
def GoneD (w : World) (D : List Value) (ls : List RT) : Prop := D.length = ls.length ∧ ∀ j (h : j < ls.length) (h' : j < D.length), ∃ (c' g' o' : Nat), D[j] = .slice (some ⟨g', o', none⟩) ls[j].length c' ∧ Fl w g' o' (some ⟨g', o', none⟩) (flatV ls[j])
theorem gone_rws {w W : World} {B g cap : Nat} {D : List Value} {ls : List RT} (hd : GoneD w D ls) (ho : W.ownsRow B 53 1 (.slice (some ⟨g, 0, none⟩) ls.length cap) ls.length D) (hb : Below w.heap.size w W) : Rws W g 0 (some ⟨g, 0, none⟩) ls := by
  refine ⟨fun _ => rfl, fun j hj => ?_⟩
  have hj2 : j < D.length := by rw [hd.1]; exact hj
  obtain ⟨c', g', o', h1, h2⟩ := hd.2 j hj hj2
  exact ⟨c', g', o', by rw [Nat.zero_add, ho.cellAt j (by omega), List.getElem?_eq_getElem hj2, h1], h2.below hb⟩
theorem Bag.grown {w w' : World} {B g cap gg : Nat} {T : List TT} {ls : List RT} (h : Bag w B g cap T ls) (hgr : w.grownBy w' (some gg)) (hg : g ≠ gg) (hT : ∀ t ∈ T, t.1 ≠ gg) : Bag w' B g cap T ls :=
  h.keep hgr.size (hgr.block _ h.lo.2 (fun e => hg (Option.some.inj e))) (fun t ht => hgr.block _ (h.rows t ht).hi (fun e => hT t ht (Option.some.inj e)))
end Go.Proofs.Ytjidkjnlnenmbaa.Val
