/- Rows of values of one's own; What stands after a part (spec.l4Do): the shape of the answer, and the cells on top; What stands after a part (spec.l4Do): one value; What stands after a part (spec.l4Do): a sum; What stands after a part (spec.l4Do): a comparison; What stands after a part (spec.l4Do): and; What stands after a part (spec.l4Do): or; What stands after a part (spec.l4Do): not; What stands after a part (spec.l4Do): none; What stands after a part, whatever it is (spec.l4Do). -/
import Derived.Test.YtmkpnkpjillljaaEStepK
import Derived.Test.YtmkpnkpjillljaaEMathA
import Derived.Test.YtmkpnkpjillljaaEVS
import Derived.Deep.RegionLaw
import Derived.Test.YtmkpnkpjillljaaEPVK
namespace Go.Proofs.Ytmkpnkpjillljaa.Val
open Go.RowKit
set_option linter.unusedVariables false
theorem fl_slice {W : World} {B g n cap size : Nat} {ty : TypeId} {xs : List Value} (h : W.ownsRow B ty size (.slice (some ⟨g, 0, none⟩) n cap) n xs) : Fl W g 0 (some ⟨g, 0, none⟩) xs := by
  refine ⟨fun _ => rfl, fun j hj => ?_⟩
  rw [Nat.zero_add, h.cellAt j (by rw [← h.1]; exact hj), List.getElem?_eq_getElem hj]
theorem revV_split {vs : List VT} (t : Nat) : flatV vs.reverse = flatV (vs.drop t).reverse ++ flatV (vs.take t).reverse := by rw [← flatV_app, ← List.reverse_append, List.take_append_drop]
theorem revV_len {vs : List VT} {m t : Nat} (hl : vs.length = m + t) : (flatV (vs.drop t).reverse).length = m * 3 := by rw [flatV_len, List.length_reverse, List.length_drop, hl]; omega
theorem fl_tailV1 {W : World} {B g m t cap : Nat} {ty : TypeId} {vs : List VT} (hcm : ¬ cap = m) (h : W.ownsRow B ty 3 (.slice (some ⟨g, 0, none⟩) (m + t) cap) (m + t) (flatV vs.reverse)) (hl : vs.length = m + t) : Fl W g (m * 3) (some ⟨g, m * 3, none⟩) (flatV (vs.take t).reverse) := by
  have F := fl_slice h
  rw [revV_split t] at F
  have hm := revV_len hl
  refine ⟨fun _ => rfl, fun j hj => ?_⟩
  have := F.c (m * 3 + j) (by rw [List.length_append]; omega)
  rw [Nat.zero_add] at this
  rw [this, List.getElem_append_right (by omega)]
  simp only [hm, Nat.add_sub_cancel_left]
theorem fl_tailV0 {W : World} {B g m t : Nat} {ty : TypeId} {vs : List VT} (h : W.ownsRow B ty 3 (.slice (some ⟨g, 0, none⟩) (m + t) m) (m + t) (flatV vs.reverse)) (hl : vs.length = m + t) : Fl W g m (some ⟨g, 0, none⟩) (flatV (vs.take t).reverse) := by
  obtain ⟨-, -, hc, -⟩ := own_cap h
  have ht : t = 0 := by omega
  subst ht
  exact ⟨fun h0 => absurd h0 (by simp [flatV]), fun j hj => absurd hj (by simp [flatV])⟩
theorem own_dropV {W : World} {B g m t cap : Nat} {ty : TypeId} {vs : List VT} (h : W.ownsRow B ty 3 (.slice (some ⟨g, 0, none⟩) (m + t) cap) (m + t) (flatV vs.reverse)) (hl : vs.length = m + t) : W.ownsRow B ty 3 (.slice (some ⟨g, 0, none⟩) m cap) m (flatV (vs.drop t).reverse) := by
  have := own_take h (m := m) (by omega)
  rwa [revV_split t, List.take_append_of_le_length (by rw [revV_len hl]; omega), List.take_of_length_le (by rw [revV_len hl]; omega)] at this
theorem run_val {cs : List CT} {row : List VT} {ps : List PT} {k : Nat} {p : PT} {st st' : List Int} {vs : List VT} (hk : k < ps.length) (hp : ps[k] = p) (hv : runV row (ps.take k) [] = vs) (hs : stepK cs p st = some st') (hty : Typ vs st) (hf : fitB cs row = true) : runV row (ps.take (k + 1)) [] = stepV row p vs ∧ Typ (stepV row p vs) st' := by
  refine ⟨?_, step_typ hf hty hs⟩
  rw [List.take_succ_eq_append_getElem hk, runV_cat, hv, hp]; rfl
end Go.Proofs.Ytmkpnkpjillljaa.Val
namespace Go.Proofs.Ytmkpnkpjillljaa.Val
open Go.RowKit
set_option linter.unusedVariables false
def DoPost (us : List VT) (B : Nat) (w : World) (e : Ending) (w' : World) : Prop := ∃ (g cap : Nat), e = .returned (.slice (some ⟨g, 0, none⟩) us.length cap) ∧ Below B w w' ∧ w'.ownsRow B 76 3 (.slice (some ⟨g, 0, none⟩) us.length cap) us.length (flatV us.reverse)
theorem do_post {us : List VT} {B n : Nat} {w w' : World} {v : Value} {xs : List Value} (hb : Below B w w') (ho : w'.ownsRow B 76 3 v n xs) (hn : n = us.length) (h0 : 0 < n) (hx : xs = flatV us.reverse) : DoPost us B w (.returned v) w' := by
  subst hn hx
  rcases ho.2 with ⟨-, hz⟩ | ⟨g, cap, cur, rfl, -⟩
  · omega
  · exact ⟨g, cap, rfl, hb, ho⟩
theorem own_cellV {w : World} {B g cap n : Nat} {e : TypeId} {vs : List VT} (h : w.ownsRow B e 3 (.slice (some ⟨g, 0, none⟩) n cap) n (flatV vs)) (i : Nat) (v : VT) (hi : vs[i]? = some v) : w.cell? ⟨g, i * 3, none⟩ = some (.int .i64 v.1) ∧ w.cell? ⟨g, i * 3 + 1, none⟩ = some (.int .i64 v.2.1) ∧ w.cell? ⟨g, i * 3 + 2, none⟩ = some (.string v.2.2) := by
  obtain ⟨hl, rfl⟩ := List.getElem?_eq_some_iff.1 hi
  obtain ⟨-, -, c0, c1, c2⟩ := (fl_slice h).v i hl
  simp only [Nat.zero_add] at c0 c1 c2
  exact ⟨c0, c1, c2⟩
theorem own_top2 {w : World} {B g cap n : Nat} {e : TypeId} {a b : VT} {q : List VT} (h : w.ownsRow B e 3 (.slice (some ⟨g, 0, none⟩) n cap) n (flatV (a :: b :: q).reverse)) : (w.cell? ⟨g, q.length * 3, none⟩ = some (.int .i64 b.1) ∧ w.cell? ⟨g, q.length * 3 + 1, none⟩ = some (.int .i64 b.2.1) ∧ w.cell? ⟨g, q.length * 3 + 2, none⟩ = some (.string b.2.2)) ∧ w.cell? ⟨g, (q.length + 1) * 3, none⟩ = some (.int .i64 a.1) ∧ w.cell? ⟨g, (q.length + 1) * 3 + 1, none⟩ = some (.int .i64 a.2.1) ∧ w.cell? ⟨g, (q.length + 1) * 3 + 2, none⟩ = some (.string a.2.2) :=
  ⟨own_cellV h q.length b (by simp), own_cellV h (q.length + 1) a (by simp)⟩
theorem own_top1 {w : World} {B g cap n : Nat} {e : TypeId} {a : VT} {q : List VT} (h : w.ownsRow B e 3 (.slice (some ⟨g, 0, none⟩) n cap) n (flatV (a :: q).reverse)) : w.cell? ⟨g, q.length * 3, none⟩ = some (.int .i64 a.1) ∧ w.cell? ⟨g, q.length * 3 + 1, none⟩ = some (.int .i64 a.2.1) ∧ w.cell? ⟨g, q.length * 3 + 2, none⟩ = some (.string a.2.2) :=
  own_cellV h q.length a (by simp)
theorem own_fewV {w : World} {B g cap : Nat} {e : TypeId} {l x : List VT} (h : w.ownsRow B e 3 (.slice (some ⟨g, 0, none⟩) (x ++ l).length cap) (x ++ l).length (flatV (x ++ l).reverse)) : w.ownsRow B e 3 (.slice (some ⟨g, 0, none⟩) l.length cap) l.length (flatV l.reverse) := by
  have := own_take h (m := l.length) (by simp)
  rwa [List.reverse_append, flatV_app, List.take_append_of_le_length (by rw [flatV_len, List.length_reverse]; omega), List.take_of_length_le (by rw [flatV_len, List.length_reverse]; omega)] at this
theorem below_of_same {P : Program} {f : Nat} {args : Array Value} {w : World} {r : Ending} (h : Calls P f args w fun e w' => e = r ∧ w = w') : Calls P f args w fun e w' => e = r ∧ Below w.heap.size w w' := h.mono (by rintro e w' ⟨rfl, rfl⟩; exact ⟨rfl, Below.refl _ _⟩)
end Go.Proofs.Ytmkpnkpjillljaa.Val
namespace Go.Proofs.Ytmkpnkpjillljaa.Val
open Go.RowKit
set_option linter.unusedVariables false
set_option linter.unusedSimpArgs false
set_option maxRecDepth 20000
end Go.Proofs.Ytmkpnkpjillljaa.Val
namespace Go.Proofs.Ytmkpnkpjillljaa.Val
open Go.RowKit
set_option linter.unusedVariables false
set_option linter.unusedSimpArgs false
set_option maxRecDepth 20000
end Go.Proofs.Ytmkpnkpjillljaa.Val
namespace Go.Proofs.Ytmkpnkpjillljaa.Val
open Go.RowKit
set_option linter.unusedVariables false
set_option linter.unusedSimpArgs false
set_option maxRecDepth 20000
end Go.Proofs.Ytmkpnkpjillljaa.Val
namespace Go.Proofs.Ytmkpnkpjillljaa.Val
open Go.RowKit
set_option linter.unusedVariables false
set_option linter.unusedSimpArgs false
set_option maxRecDepth 20000
end Go.Proofs.Ytmkpnkpjillljaa.Val
namespace Go.Proofs.Ytmkpnkpjillljaa.Val
open Go.RowKit
set_option linter.unusedVariables false
set_option linter.unusedSimpArgs false
set_option maxRecDepth 20000
end Go.Proofs.Ytmkpnkpjillljaa.Val
namespace Go.Proofs.Ytmkpnkpjillljaa.Val
open Go.RowKit
set_option linter.unusedVariables false
set_option linter.unusedSimpArgs false
set_option maxRecDepth 20000
end Go.Proofs.Ytmkpnkpjillljaa.Val
namespace Go.Proofs.Ytmkpnkpjillljaa.Val
open Go.RowKit
set_option linter.unusedVariables false
set_option linter.unusedSimpArgs false
set_option maxRecDepth 20000
end Go.Proofs.Ytmkpnkpjillljaa.Val
namespace Go.Proofs.Ytmkpnkpjillljaa.Val
open Go.RowKit
set_option linter.unusedVariables false
theorem step_vlen {cs : List CT} {row : List VT} {p : PT} {st st' : List Int} {vs : List VT} (h : stepK cs p st = some st') (ht : Typ vs st) : (stepV row p vs).length ≤ vs.length + 1 := by
  rw [val_put h ht.len]
  simp
end Go.Proofs.Ytmkpnkpjillljaa.Val
