/- Lists of lists of values: measured, copied, compared (the exact laws' helpers); arguments that are such. -/
import Derived.Test.YtcgjnilkbdamjabBag
import Derived.Test.YtcgjnilkbdamjabOpenS
import Derived.Deep.Slices
namespace Go.Proofs.Ytcgjnilkbdamjab.Val
open Go.ChangeShapes Go.WideShapes Go.ChangeAt Go.RowKit Go.Deep
set_option linter.unusedVariables false
set_option maxRecDepth 8000
/-- The rows of an argument. -/
structure RwsA (w : World) (g o : Nat) (A : Option Addr) (ls : List RT) : Prop where
  ad : 0 < ls.length → A = some ⟨g, o, none⟩
  hd : ∀ j (h : j < ls.length), ∃ (A' : Option Addr) (c' g' o' : Nat), w.cell? ⟨g, o + j, none⟩ = some (.slice A' ls[j].length c') ∧ Fl w g' o' A' (flatV ls[j])
theorem RwsA.below {w w' : World} {g o : Nat} {A : Option Addr} {ls : List RT} (h : RwsA w g o A ls) (hb : Below w.heap.size w w') : RwsA w' g o A ls := by
  refine ⟨h.ad, fun j hj => ?_⟩
  obtain ⟨A', c', g', o', h1, h2⟩ := h.hd j hj
  exact ⟨A', c', g', o', (hb.cell (p := ⟨g, o + j, none⟩) (World.block_lt_of_cell? w ⟨g, o + j, none⟩ h1)).trans h1, h2.below hb⟩
theorem RwsA.at {w : World} {g o : Nat} {A : Option Addr} {ls : List RT} (h : RwsA w g o A ls) (j : Nat) (hj : j < ls.length) : A = some ⟨g, o, none⟩ ∧ g < w.heap.size ∧ ∃ (A' : Option Addr) (c' g' o' : Nat), w.cell? ⟨g, o + j, none⟩ = some (.slice A' ls[j].length c') ∧ Fl w g' o' A' (flatV ls[j]) := by
  obtain ⟨A', c', g', o', h1, h2⟩ := h.hd j hj
  exact ⟨h.ad (by omega), World.block_lt_of_cell? w ⟨g, o + j, none⟩ h1, A', c', g', o', h1, h2⟩
def Fit2 (ls : List RT) : Prop := ∀ r ∈ ls, r.length ≤ maxLen ∧ Short r
theorem total_snoc (ls : List RT) (k : Nat) (h : k < ls.length) : total (ls.take (k + 1)) = total (ls.take k) + ls[k].length := by
  rw [total, List.take_succ_eq_append_getElem h, List.map_append, List.sum_append]; simp [total]
theorem total_at (ls : List RT) (r : RT) (h : r ∈ ls) : r.length ≤ total ls := by
  induction ls with
  | nil => simp at h
  | cons x ls ih =>
    simp only [total, List.map_cons, List.sum_cons] at ih ⊢
    rcases List.mem_cons.1 h with rfl | h
    · omega
    · have := ih h; omega
/-- What was measured is not too much. -/
theorem Fit2.ok {ls : List RT} (h : Fit2 ls) (hl : ls.length ≤ 1048576) (ht : total ls ≤ 1048576) : Ok2 ls := ⟨by omega, fun r hr => ⟨by have := total_at ls r hr; omega, (h r hr).2⟩⟩
theorem set_snoc {α β : Type} (f : α → β) (T : List α) (zs : List β) (t : α) (k : Nat) (hk : T.length = k) (hz : k < zs.length) : (T.map f ++ zs.drop k).set k (f t) = (T ++ [t]).map f ++ zs.drop (k + 1) := by
  subst hk
  rw [List.drop_eq_getElem_cons hz, List.set_append_right _ _ (by simp), show T.length - (T.map f).length = 0 by simp, List.set_cons_zero, List.map_append, List.append_assoc]
  rfl
end Go.Proofs.Ytcgjnilkbdamjab.Val
