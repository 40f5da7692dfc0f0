/- Rows of one's own, of parts and the like: what reads them, what leaves them. -/
import Derived.Test.YtacinjbaebimhaaOwnKQ
namespace Go.Proofs.Ytacinjbaebimhaa.Val
open Go.RowKit
set_option linter.unusedVariables false
set_option linter.unusedSimpArgs false
theorem fl_sliceP {W : World} {B g n cap size : Nat} {ty : TypeId} {xs : List Value} (h : W.ownsRow B ty size (.slice (some ⟨g, 0, none⟩) n cap) n xs) : Fl W g 0 (some ⟨g, 0, none⟩) xs := by
  refine ⟨fun _ => rfl, fun j hj => ?_⟩
  rw [Nat.zero_add, h.cellAt j (by rw [← h.1]; exact hj), List.getElem?_eq_getElem hj]
theorem own_sliceY {W : World} {B size n : Nat} {ty : TypeId} {v : Value} {xs : List Value} (h : W.ownsRow B ty size v n xs) (h0 : v = .slice none 0 0 → False) : ∃ g cap, v = .slice (some ⟨g, 0, none⟩) n cap := by
  rcases h.2 with ⟨hz, -⟩ | ⟨g, cap, cur, hv, -⟩
  · exact (h0 hz).elim
  · exact ⟨g, cap, hv⟩
theorem news_fl {W : World} {g : Nat} {A : Option Addr} {xs : List Value} (h : Fl W g 0 A xs) : ∀ j u, xs[j]? = some u → W.cell? ((⟨g, 0, none⟩ : Addr).add j) = some u := by
  intro j u hj
  obtain ⟨hl, rfl⟩ := List.getElem?_eq_some_iff.1 hj
  have := h.c j hl
  rw [Nat.zero_add] at this
  have ha : (⟨g, 0, none⟩ : Addr).add j = ⟨g, j, none⟩ := by unfold Addr.add; split <;> simp_all
  rw [ha]
  exact this
end Go.Proofs.Ytacinjbaebimhaa.Val
