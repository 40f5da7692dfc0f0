/- RowsLess, both sides. -/
import Derived.Test.YtjidkjnlnenmbaaBag
import Derived.Deep.RegionHeldLaw
namespace Go.Proofs.Ytjidkjnlnenmbaa.Val
open Go.RowKit
set_option linter.unusedVariables false
set_option maxRecDepth 8000
theorem keepL {W1 : World} {w W : World} {gc g o gB oB g' o' q : Nat} {A B A' : Option Addr} {al bs : List RT} {K : RT} {x : Value} (h : W.cell? ⟨gc, q, none⟩ = some x ∧ Rws W g o A al ∧ Rws W gB oB B bs ∧ Fl W g' o' A' (flatV K) ∧ Below w.heap.size w W ∧ w.heap.size ≤ W.heap.size) (hb : Below W.heap.size W W1) :
    W1.cell? ⟨gc, q, none⟩ = some x ∧ Rws W1 g o A al ∧ Rws W1 gB oB B bs ∧ Fl W1 g' o' A' (flatV K) ∧ Below w.heap.size w W1 ∧ w.heap.size ≤ W1.heap.size :=
  ⟨(hb.cell (p := ⟨gc, q, none⟩) (World.block_lt_of_cell? W ⟨gc, q, none⟩ h.1)).trans h.1, h.2.1.below hb, h.2.2.1.below hb, h.2.2.2.1.below hb, h.2.2.2.2.1.trans (hb.mono h.2.2.2.2.2), Nat.le_trans h.2.2.2.2.2 hb.size⟩
theorem keepLD {w W : World} {gc g o gB oB g' o' q : Nat} {A B A' : Option Addr} {al bs : List RT} {K : RT} {x : Value} (h : W.cell? ⟨gc, q, none⟩ = some x ∧ Rws W g o A al ∧ Rws W gB oB B bs ∧ Fl W g' o' A' (flatV K) ∧ Below w.heap.size w W ∧ w.heap.size ≤ W.heap.size) :
    W.drew.cell? ⟨gc, q, none⟩ = some x ∧ Rws W.drew g o A al ∧ Rws W.drew gB oB B bs ∧ Fl W.drew g' o' A' (flatV K) ∧ Below w.heap.size w W.drew ∧ w.heap.size ≤ W.drew.heap.size := keepL h ((Below.refl _ _).drew)
theorem lA {w W : World} {gc g o gB oB g' o' q : Nat} {A B A' : Option Addr} {al bs : List RT} {K : RT} {x : Value} (h : W.cell? ⟨gc, q, none⟩ = some x ∧ Rws W g o A al ∧ Rws W gB oB B bs ∧ Fl W g' o' A' (flatV K) ∧ Below w.heap.size w W ∧ w.heap.size ≤ W.heap.size) : Rws W g o A al := h.2.1
theorem lB {w W : World} {gc g o gB oB g' o' q : Nat} {A B A' : Option Addr} {al bs : List RT} {K : RT} {x : Value} (h : W.cell? ⟨gc, q, none⟩ = some x ∧ Rws W g o A al ∧ Rws W gB oB B bs ∧ Fl W g' o' A' (flatV K) ∧ Below w.heap.size w W ∧ w.heap.size ≤ W.heap.size) : Rws W gB oB B bs := h.2.2.1
theorem lF {w W : World} {gc g o gB oB g' o' q : Nat} {A B A' : Option Addr} {al bs : List RT} {K : RT} {x : Value} (h : W.cell? ⟨gc, q, none⟩ = some x ∧ Rws W g o A al ∧ Rws W gB oB B bs ∧ Fl W g' o' A' (flatV K) ∧ Below w.heap.size w W ∧ w.heap.size ≤ W.heap.size) : Fl W g' o' A' (flatV K) := h.2.2.2.1
theorem lW {w W : World} {gc g o gB oB g' o' q : Nat} {A B A' : Option Addr} {al bs : List RT} {K : RT} {x : Value} (h : W.cell? ⟨gc, q, none⟩ = some x ∧ Rws W g o A al ∧ Rws W gB oB B bs ∧ Fl W g' o' A' (flatV K) ∧ Below w.heap.size w W ∧ w.heap.size ≤ W.heap.size) : Below w.heap.size w W := h.2.2.2.2.1
theorem lC {w W : World} {gc g o gB oB g' o' q : Nat} {A B A' : Option Addr} {al bs : List RT} {K : RT} {x : Value} (h : W.cell? ⟨gc, q, none⟩ = some x ∧ Rws W g o A al ∧ Rws W gB oB B bs ∧ Fl W g' o' A' (flatV K) ∧ Below w.heap.size w W ∧ w.heap.size ≤ W.heap.size) : W.cell? ⟨gc, q, none⟩ = some x := h.1
/-- The same with what a loop holds beside. -/
theorem take_len {al : List RT} {k : Nat} (h : k ≤ al.length) : (al.take k).length = k := by simp; omega
/-- Headers of rows that were there at w. -/
def GoneD (w : World) (D : List Value) (ls : List RT) : Prop := D.length = ls.length ∧ ∀ j (h : j < ls.length) (h' : j < D.length), ∃ (c' g' o' : Nat), D[j] = .slice (some ⟨g', o', none⟩) ls[j].length c' ∧ Fl w g' o' (some ⟨g', o', none⟩) (flatV ls[j])
theorem gone_rws {w W : World} {B g cap : Nat} {D : List Value} {ls : List RT} (hd : GoneD w D ls) (ho : W.ownsRow B 53 1 (.slice (some ⟨g, 0, none⟩) ls.length cap) ls.length D) (hb : Below w.heap.size w W) : Rws W g 0 (some ⟨g, 0, none⟩) ls := by
  refine ⟨fun _ => rfl, fun j hj => ?_⟩
  have hj2 : j < D.length := by rw [hd.1]; exact hj
  obtain ⟨c', g', o', h1, h2⟩ := hd.2 j hj hj2
  exact ⟨c', g', o', by rw [Nat.zero_add, ho.cellAt j (by omega), List.getElem?_eq_getElem hj2, h1], h2.below hb⟩
theorem gone_snoc {w : World} {D : List Value} {ls : List RT} {g o c kl : Nat} {K : RT} (hd : GoneD w D ls) (hf : Fl w g o (some ⟨g, o, none⟩) (flatV K)) (hk : K.length = kl) : GoneD w (D ++ [.slice (some ⟨g, o, none⟩) kl c]) (ls ++ [K]) := by
  subst hk
  refine ⟨by rw [List.length_append, List.length_append, hd.1]; rfl, fun j hj hj2 => ?_⟩
  by_cases h : j < ls.length
  · obtain ⟨c', g', o', h1, h2⟩ := hd.2 j h (by rw [hd.1]; exact h)
    exact ⟨c', g', o', by rw [List.getElem_append_left (by rw [hd.1]; exact h), List.getElem_append_left h, h1], by rw [List.getElem_append_left h]; exact h2⟩
  · have e : j = ls.length := by simp at hj; omega
    subst e
    refine ⟨c, g, o, ?_, ?_⟩
    · rw [List.getElem_append_right (by rw [hd.1]; exact Nat.le_refl _), List.getElem_append_right (Nat.le_refl _)]
      simp [hd.1]
    · rw [List.getElem_append_right (Nat.le_refl _)]
      simpa using hf
theorem Bag.grown {w w' : World} {B g cap gg : Nat} {T : List TT} {ls : List RT} (h : Bag w B g cap T ls) (hgr : w.grownBy w' (some gg)) (hg : g ≠ gg) (hT : ∀ t ∈ T, t.1 ≠ gg) : Bag w' B g cap T ls :=
  h.keep hgr.size (hgr.block _ h.lo.2 (fun e => hg (Option.some.inj e))) (fun t ht => hgr.block _ (h.rows t ht).hi (fun e => hT t ht (Option.some.inj e)))
theorem own_far {w w' : World} {gg B size n g cap : Nat} {e : TypeId} {xs : List Value} (h : w.ownsRow B e size (.slice (some ⟨g, 0, none⟩) n cap) n xs) (hgr : w.grownBy w' (some gg)) (hg : g ≠ gg) : w'.ownsRow B e size (.slice (some ⟨g, 0, none⟩) n cap) n xs :=
  own_keep h (hgr.block _ (h.lt g rfl).2 (fun e => hg (Option.some.inj e)))
end Go.Proofs.Ytjidkjnlnenmbaa.Val
