/- Flat rows of one's own. -/
import Derived.Test.YtjidkjnlnenmbaaBagQ
import Derived.Test.YtjidkjnlnenmbaaRMarkQ
namespace Go.Proofs.Ytjidkjnlnenmbaa.Val
open Go.RowKit
set_option linter.unusedVariables false
set_option maxRecDepth 8000
/-- A flat row of one's own: n elements, cells xs, in block g. -/
structure FlO (w : World) (B g c n : Nat) (xs : List Value) : Prop where
  fl : Fl w g 0 (some ⟨g, 0, none⟩) xs
  fz : ∀ j, j < xs.length → w.frozen? ⟨g, j, none⟩ = false
  lo : B ≤ g
  hi : g < w.heap.size
  cap : n ≤ c ∧ c ≤ maxLen
theorem FlO.keep {w w' : World} {B g c n : Nat} {xs : List Value} (h : FlO w B g c n xs) (hz : w.heap.size ≤ w'.heap.size) (hk : w'.heap[g]? = w.heap[g]?) : FlO w' B g c n xs :=
  ⟨h.fl.keep fun _ j => cellOf hk, fun j hj => (frozenOf hk).trans (h.fz j hj), h.lo, Nat.lt_of_lt_of_le h.hi hz, h.cap⟩
theorem FlO.below {w w' : World} {B g c n : Nat} {xs : List Value} (h : FlO w B g c n xs) (hb : Below w.heap.size w w') : FlO w' B g c n xs := h.keep hb.size (hb.block _ h.hi)
theorem FlO.lower {w : World} {B B' g c n : Nat} {xs : List Value} (h : FlO w B g c n xs) (hB : B' ≤ B) : FlO w B' g c n xs := ⟨h.fl, h.fz, Nat.le_trans hB h.lo, h.hi, h.cap⟩
theorem FlO.set {w : World} {B g c n : Nat} {xs : List Value} (h : FlO w B g c n xs) {b : Nat} (hb : g ≠ b) (j : Nat) (v : Value) : FlO (w.setCell ⟨b, j, none⟩ v) B g c n xs := h.keep (by simp [World.setCell]) (Below.heap_setCell _ _ _ _ hb)
theorem hsetNe {w : World} {b j k : Nat} {v : Value} (h : k ≠ b) : (w.setCell ⟨b, j, none⟩ v).heap[k]? = w.heap[k]? := Below.heap_setCell _ _ _ _ h
theorem Bag.setFar {w : World} {B g cap : Nat} {T : List TT} {ls : List RT} (h : Bag w B g cap T ls) {b : Nat} (hb : b < B) (j : Nat) (v : Value) : Bag (w.setCell ⟨b, j, none⟩ v) B g cap T ls :=
  h.keep (by simp [World.setCell]) (hsetNe (by have := h.lo.1; omega)) fun t ht => hsetNe (by have := (h.rows t ht).lo; omega)
theorem Bag.lower {w : World} {B B' g cap : Nat} {T : List TT} {ls : List RT} (h : Bag w B g cap T ls) (hB : B' ≤ B) : Bag w B' g cap T ls := by
  refine ⟨h.eq, ?_, fun t ht => (h.rows t ht).lower hB, h.nd, h.ng⟩
  refine ⟨h.own.1, ?_⟩
  rcases h.own.2 with h0 | ⟨g2, cap2, cur, h1, h2, h3⟩
  · exact .inl h0
  · exact .inr ⟨g2, cap2, cur, h1, Nat.le_trans hB h2, h3⟩
end Go.Proofs.Ytjidkjnlnenmbaa.Val
