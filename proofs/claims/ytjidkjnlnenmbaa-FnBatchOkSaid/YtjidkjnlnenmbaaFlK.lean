/- Flat rows of one's own. -/
import Derived.Test.YtjidkjnlnenmbaaBag
import Derived.Test.YtjidkjnlnenmbaaRMark
namespace Go.Proofs.Ytjidkjnlnenmbaa.Val
open Go.RowKit
set_option linter.unusedVariables false
set_option maxRecDepth 8000
/-- A flat row of one's own: n elements, cells xs, in block g. -/
structure FlO (w : World) (B g c n : Nat) (xs : List Value) : Prop where
  fl : Fl w g 0 (some ⟨g, 0, none⟩) xs
  fz : ∀ j, j < xs.length → w.frozen? ⟨g, j, none⟩ = false
  lo : B ≤ g
  hi : g < w.heap.size
  cap : n ≤ c ∧ c ≤ maxLen
theorem FlO.keep {w w' : World} {B g c n : Nat} {xs : List Value} (h : FlO w B g c n xs) (hz : w.heap.size ≤ w'.heap.size) (hk : w'.heap[g]? = w.heap[g]?) : FlO w' B g c n xs :=
  ⟨h.fl.keep fun _ j => cellOf hk, fun j hj => (frozenOf hk).trans (h.fz j hj), h.lo, Nat.lt_of_lt_of_le h.hi hz, h.cap⟩
theorem FlO.below {w w' : World} {B g c n : Nat} {xs : List Value} (h : FlO w B g c n xs) (hb : Below w.heap.size w w') : FlO w' B g c n xs := h.keep hb.size (hb.block _ h.hi)
theorem FlO.lower {w : World} {B B' g c n : Nat} {xs : List Value} (h : FlO w B g c n xs) (hB : B' ≤ B) : FlO w B' g c n xs := ⟨h.fl, h.fz, Nat.le_trans hB h.lo, h.hi, h.cap⟩
theorem FlO.free {w : World} {B g c n : Nat} {xs : List Value} (h : FlO w B g c n xs) : Free w g xs.length := fun j hj => ⟨⟨_, by have := h.fl.c j hj; rwa [Nat.zero_add] at this⟩, h.fz j hj⟩
theorem FlO.fill {w : World} {B g c n : Nat} {xs ys : List Value} (h : FlO w B g c n xs) (hy : ys.length = xs.length) : Fill w g ys 0 := by
  intro j hj
  have hj2 : j < xs.length := by omega
  exact ⟨⟨_, by have := h.fl.c j hj2; rwa [Nat.zero_add] at this⟩, h.fz j hj2, fun h0 => absurd h0 (by omega)⟩
/-- A row was made. -/
def RetFl (n : Nat) (xs : List Value) (w : World) (e : Ending) (w' : World) : Prop := ∃ (g c : Nat), e = .returned (.slice (some ⟨g, 0, none⟩) n c) ∧ FlO w' w.heap.size g c n xs ∧ Below w.heap.size w w'
/-- A header. -/
def hdF (g n c : Nat) : Value := .slice (some ⟨g, 0, none⟩) n c
theorem setX {α : Type} (X zs : List α) (a : α) (m : Nat) (hX : X.length = m) (hm : m < zs.length) : (X ++ zs.drop m).set m a = (X ++ [a]) ++ zs.drop (m + 1) := by
  subst hX
  rw [List.drop_eq_getElem_cons hm, List.set_append_right _ _ (Nat.le_refl _), Nat.sub_self, List.set_cons_zero, List.append_assoc]
  rfl
theorem FlO.set {w : World} {B g c n : Nat} {xs : List Value} (h : FlO w B g c n xs) {b : Nat} (hb : g ≠ b) (j : Nat) (v : Value) : FlO (w.setCell ⟨b, j, none⟩ v) B g c n xs := h.keep (by simp [World.setCell]) (Below.heap_setCell _ _ _ _ hb)
theorem hsetNe {w : World} {b j k : Nat} {v : Value} (h : k ≠ b) : (w.setCell ⟨b, j, none⟩ v).heap[k]? = w.heap[k]? := Below.heap_setCell _ _ _ _ h
theorem Bag.setFar {w : World} {B g cap : Nat} {T : List TT} {ls : List RT} (h : Bag w B g cap T ls) {b : Nat} (hb : b < B) (j : Nat) (v : Value) : Bag (w.setCell ⟨b, j, none⟩ v) B g cap T ls :=
  h.keep (by simp [World.setCell]) (hsetNe (by have := h.lo.1; omega)) fun t ht => hsetNe (by have := (h.rows t ht).lo; omega)
theorem Bag.lower {w : World} {B B' g cap : Nat} {T : List TT} {ls : List RT} (h : Bag w B g cap T ls) (hB : B' ≤ B) : Bag w B' g cap T ls := by
  refine ⟨h.eq, ?_, fun t ht => (h.rows t ht).lower hB, h.nd, h.ng⟩
  refine ⟨h.own.1, ?_⟩
  rcases h.own.2 with h0 | ⟨g2, cap2, cur, h1, h2, h3⟩
  · exact .inl h0
  · exact .inr ⟨g2, cap2, cur, h1, Nat.le_trans hB h2, h3⟩
end Go.Proofs.Ytjidkjnlnenmbaa.Val
