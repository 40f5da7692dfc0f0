/- Rows of values of one's own; What stands after a part (spec.l4Do): the shape of the answer, and the cells on top; What stands after a part (spec.l4Do): one value; What stands after a part (spec.l4Do): a sum; What stands after a part (spec.l4Do): a comparison; What stands after a part (spec.l4Do): and; What stands after a part (spec.l4Do): or; What stands after a part (spec.l4Do): not; What stands after a part (spec.l4Do): none; What stands after a part, whatever it is (spec.l4Do). -/
import Derived.Test.YtacinjbaebimhaaEStepKQ
import Derived.Test.YtacinjbaebimhaaEMathAQ
import Derived.Test.YtacinjbaebimhaaEVSQ
import Derived.Test.YtacinjbaebimhaaEPVKQ
import Derived.Deep.RegionLaw
namespace Go.Proofs.Ytacinjbaebimhaa.Val
open Go.RowKit
set_option linter.unusedVariables false
theorem fl_slice {W : World} {B g n cap size : Nat} {ty : TypeId} {xs : List Value} (h : W.ownsRow B ty size (.slice (some ⟨g, 0, none⟩) n cap) n xs) : Fl W g 0 (some ⟨g, 0, none⟩) xs := by
  refine ⟨fun _ => rfl, fun j hj => ?_⟩
  rw [Nat.zero_add, h.cellAt j (by rw [← h.1]; exact hj), List.getElem?_eq_getElem hj]
theorem revV_split {vs : List VT} (t : Nat) : flatV vs.reverse = flatV (vs.drop t).reverse ++ flatV (vs.take t).reverse := by rw [← flatV_app, ← List.reverse_append, List.take_append_drop]
theorem revV_len {vs : List VT} {m t : Nat} (hl : vs.length = m + t) : (flatV (vs.drop t).reverse).length = m * 3 := by rw [flatV_len, List.length_reverse, List.length_drop, hl]; omega
theorem fl_tailV1 {W : World} {B g m t cap : Nat} {ty : TypeId} {vs : List VT} (hcm : ¬ cap = m) (h : W.ownsRow B ty 3 (.slice (some ⟨g, 0, none⟩) (m + t) cap) (m + t) (flatV vs.reverse)) (hl : vs.length = m + t) : Fl W g (m * 3) (some ⟨g, m * 3, none⟩) (flatV (vs.take t).reverse) := by
  have F := fl_slice h
  rw [revV_split t] at F
  have hm := revV_len hl
  refine ⟨fun _ => rfl, fun j hj => ?_⟩
  have := F.c (m * 3 + j) (by rw [List.length_append]; omega)
  rw [Nat.zero_add] at this
  rw [this, List.getElem_append_right (by omega)]
  simp only [hm, Nat.add_sub_cancel_left]
theorem fl_tailV0 {W : World} {B g m t : Nat} {ty : TypeId} {vs : List VT} (h : W.ownsRow B ty 3 (.slice (some ⟨g, 0, none⟩) (m + t) m) (m + t) (flatV vs.reverse)) (hl : vs.length = m + t) : Fl W g m (some ⟨g, 0, none⟩) (flatV (vs.take t).reverse) := by
  obtain ⟨-, -, hc, -⟩ := own_cap h
  have ht : t = 0 := by omega
  subst ht
  exact ⟨fun h0 => absurd h0 (by simp [flatV]), fun j hj => absurd hj (by simp [flatV])⟩
theorem own_dropV {W : World} {B g m t cap : Nat} {ty : TypeId} {vs : List VT} (h : W.ownsRow B ty 3 (.slice (some ⟨g, 0, none⟩) (m + t) cap) (m + t) (flatV vs.reverse)) (hl : vs.length = m + t) : W.ownsRow B ty 3 (.slice (some ⟨g, 0, none⟩) m cap) m (flatV (vs.drop t).reverse) := by
  have := own_take h (m := m) (by omega)
  rwa [revV_split t, List.take_append_of_le_length (by rw [revV_len hl]; omega), List.take_of_length_le (by rw [revV_len hl]; omega)] at this
theorem run_val {cs : List CT} {row : List VT} {ps : List PT} {k : Nat} {p : PT} {st st' : List Int} {vs : List VT} (hk : k < ps.length) (hp : ps[k] = p) (hv : runV row (ps.take k) [] = vs) (hs : stepK cs p st = some st') (hty : Typ vs st) (hf : fitB cs row = true) : runV row (ps.take (k + 1)) [] = stepV row p vs ∧ Typ (stepV row p vs) st' := by
  refine ⟨?_, step_typ hf hty hs⟩
  rw [List.take_succ_eq_append_getElem hk, runV_cat, hv, hp]; rfl
end Go.Proofs.Ytacinjbaebimhaa.Val
namespace Go.Proofs.Ytacinjbaebimhaa.Val
open Go.RowKit
set_option linter.unusedVariables false
end Go.Proofs.Ytacinjbaebimhaa.Val
namespace Go.Proofs.Ytacinjbaebimhaa.Val
open Go.RowKit
set_option linter.unusedVariables false
set_option linter.unusedSimpArgs false
set_option maxRecDepth 20000
end Go.Proofs.Ytacinjbaebimhaa.Val
namespace Go.Proofs.Ytacinjbaebimhaa.Val
open Go.RowKit
set_option linter.unusedVariables false
set_option linter.unusedSimpArgs false
set_option maxRecDepth 20000
end Go.Proofs.Ytacinjbaebimhaa.Val
namespace Go.Proofs.Ytacinjbaebimhaa.Val
open Go.RowKit
set_option linter.unusedVariables false
set_option linter.unusedSimpArgs false
set_option maxRecDepth 20000
end Go.Proofs.Ytacinjbaebimhaa.Val
namespace Go.Proofs.Ytacinjbaebimhaa.Val
open Go.RowKit
set_option linter.unusedVariables false
set_option linter.unusedSimpArgs false
set_option maxRecDepth 20000
end Go.Proofs.Ytacinjbaebimhaa.Val
namespace Go.Proofs.Ytacinjbaebimhaa.Val
open Go.RowKit
set_option linter.unusedVariables false
set_option linter.unusedSimpArgs false
set_option maxRecDepth 20000
end Go.Proofs.Ytacinjbaebimhaa.Val
namespace Go.Proofs.Ytacinjbaebimhaa.Val
open Go.RowKit
set_option linter.unusedVariables false
set_option linter.unusedSimpArgs false
set_option maxRecDepth 20000
end Go.Proofs.Ytacinjbaebimhaa.Val
namespace Go.Proofs.Ytacinjbaebimhaa.Val
open Go.RowKit
set_option linter.unusedVariables false
set_option linter.unusedSimpArgs false
set_option maxRecDepth 20000
end Go.Proofs.Ytacinjbaebimhaa.Val
namespace Go.Proofs.Ytacinjbaebimhaa.Val
open Go.RowKit
set_option linter.unusedVariables false
end Go.Proofs.Ytacinjbaebimhaa.Val
