/- What marks leave of rows of one's own; rows that may be nil: copied, marked, told again. -/
import Derived.Test.YtjidkjnlnenmbaaFlKQ
import Derived.Test.YtjidkjnlnenmbaaRMarkQ
namespace Go.Proofs.Ytjidkjnlnenmbaa.Val
open Go.RowKit
set_option linter.unusedVariables false
set_option linter.unusedSimpArgs false
set_option maxRecDepth 8000
/-- No block but those from lo on, below hi, turned. -/
structure OnlyI (lo hi : Nat) (w w' : World) : Prop where
  os : w'.os = w.os
  tape : w'.tape = w.tape
  output : w'.output = w.output
  size : w.heap.size ≤ w'.heap.size
  block : ∀ k, k < w.heap.size → (k < lo ∨ hi ≤ k) → w'.heap[k]? = w.heap[k]?
theorem OnlyI.below {lo hi N : Nat} {w w' : World} (h : OnlyI lo hi w w') (hN : N ≤ lo) (hw : N ≤ w.heap.size) : Below N w w' :=
  ⟨h.os, h.tape, h.output, h.size, fun k hk => h.block k (by omega) (.inl (by omega))⟩
theorem FlO.alloc {w : World} {B g c n : Nat} {xs : List Value} (h : FlO w B g c n xs) (ob : Obj) : FlO (w.alloc ob) B g c n xs := h.below ((Below.refl _ _).alloc (Nat.le_refl _) _)
theorem FlO.drew {w : World} {B g c n : Nat} {xs : List Value} (h : FlO w B g c n xs) : FlO w.drew B g c n xs := h.below ((Below.refl _ _).drew)
theorem OnlyI.refl (lo hi : Nat) (w : World) : OnlyI lo hi w w := ⟨rfl, rfl, rfl, Nat.le_refl _, fun _ _ _ => rfl⟩
/-- Rows of one's own, or nil. -/
def BagN (w : World) (B : Nat) (A : Option Addr) (g c : Nat) (T : List TT) (ls : List RT) : Prop := (A = some ⟨g, 0, none⟩ ∧ Bag w B g c T ls) ∨ (A = none ∧ c = 0 ∧ ls = [] ∧ T = [])
theorem BagN.rws {w : World} {B g c : Nat} {A : Option Addr} {T : List TT} {ls : List RT} (h : BagN w B A g c T ls) : Rws w g 0 A ls := by
  rcases h with ⟨rfl, h⟩ | ⟨rfl, -, rfl, -⟩
  · exact h.rws
  · exact ⟨fun h => absurd h (by simp), fun j hj => absurd hj (by simp)⟩
theorem BagN.eq {w : World} {B g c : Nat} {A : Option Addr} {T : List TT} {ls : List RT} (h : BagN w B A g c T ls) : T.map (fun t => t.2.2) = ls := by
  rcases h with ⟨rfl, h⟩ | ⟨rfl, -, rfl, rfl⟩
  · exact h.eq
  · rfl
theorem BagN.below {w w' : World} {B g c : Nat} {A : Option Addr} {T : List TT} {ls : List RT} (h : BagN w B A g c T ls) (hb : Below w.heap.size w w') : BagN w' B A g c T ls := by
  rcases h with ⟨h1, h⟩ | h
  · exact .inl ⟨h1, h.below hb⟩
  · exact .inr h
theorem BagN.alloc {w : World} {B g c : Nat} {A : Option Addr} {T : List TT} {ls : List RT} (h : BagN w B A g c T ls) (ob : Obj) : BagN (w.alloc ob) B A g c T ls := h.below ((Below.refl _ _).alloc (Nat.le_refl _) _)
theorem BagN.drew {w : World} {B g c : Nat} {A : Option Addr} {T : List TT} {ls : List RT} (h : BagN w B A g c T ls) : BagN w.drew B A g c T ls := h.below ((Below.refl _ _).drew)
end Go.Proofs.Ytjidkjnlnenmbaa.Val
