/- Rows of one's own: what keeps them, new cells, a call as a step of a drawn region. -/
import Derived.Test.YtjidkjnlnenmbaaFlQ
import Derived.Deep.RegionWith
import Derived.Deep.RegionLaw
namespace Go.Proofs.Ytjidkjnlnenmbaa.Val
open Go.RowKit
set_option linter.unusedVariables false
theorem cell_newX {W : World} {C : Array Value} {e : TypeId} {x : Nat × Nat} {j : Nat} {v : Value} (h : C[j]? = some v) : (W.alloc (.cells C e x)).cell? ⟨W.heap.size, j, none⟩ = some v := by
  simp only [World.cell?, World.alloc, Array.getElem?_push_size]
  simpa using h
theorem Only.grown {r : Nat} {w W w2 : World} {row : Option Nat} (h : Only r w W) (hg : W.grownBy w2 row) (hr : ∀ k, row = some k → w.heap.size ≤ k) : Only r w w2 :=
  ⟨hg.os.trans h.os, hg.tape.trans h.tape, hg.output.trans h.output, Nat.le_trans h.size hg.size, fun k hk hkr => (hg.block k (Nat.lt_of_lt_of_le hk h.size) (fun e => by have := hr k e.symm; omega)).trans (h.block k hk hkr)⟩
theorem own_empty3 {w : World} {B X : Nat} (e : TypeId) (size : Nat) (hX : w.heap.size = X) (hB : B ≤ X) : (w.alloc (.cells #[] e)).ownsRow B e size (.slice (some ⟨X, 0, none⟩) 0 0) 0 [] := by
  subst hX
  exact ⟨by simp, .inr ⟨w.heap.size, 0, #[], rfl, hB, heap_alloc_new w _, Nat.le_refl _, by decide, by simp, by simp⟩⟩
/-- The cells of a block that was just laid. -/
theorem news_new {W : World} {C : Array Value} {e : TypeId} {X : Nat} {x : Nat × Nat} (hX : W.heap.size = X) : ∀ j u, C.toList[j]? = some u → (W.alloc (.cells C e x)).cell? ((⟨X, 0, none⟩ : Addr).add j) = some u := by
  subst hX
  intro j u hj
  have ha : (⟨W.heap.size, 0, none⟩ : Addr).add j = ⟨W.heap.size, j, none⟩ := by unfold Addr.add; split <;> simp_all
  rw [ha]
  exact cell_newX (by simpa using hj)
end Go.Proofs.Ytjidkjnlnenmbaa.Val
