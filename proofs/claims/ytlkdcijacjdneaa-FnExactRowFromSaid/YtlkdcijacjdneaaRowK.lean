/- Small facts on rows of bytes of one's own. -/
import Derived.Test.YtlkdcijacjdneaaWVB
namespace Go.Proofs.Ytlkdcijacjdneaa.Val
open Go.RowKit
set_option linter.unusedVariables false
theorem RowAt.take {w : World} {g : Nat} {A : Option Addr} {L : List UInt8} (h : RowAt w g A L) (m : Nat) : RowAt w g A (L.take m) :=
  ⟨fun h0 => h.ad (by simp at h0; omega), fun i hi => by rw [h.c i (by simp at hi; omega), List.getElem_take], fun i hi => h.f i (by simp at hi; omega)⟩
theorem row_of_own3 {w : World} {B n : Nat} {e : TypeId} {v : Value} {L : List UInt8} (h : w.ownsRow B e 1 v n (L.map bv)) (hn : n = L.length) : ∃ (g : Nat) (A : Option Addr) (c : Nat), v = .slice A n c ∧ RowAt w g A L ∧ n ≤ c ∧ c ≤ maxLen := by
  subst hn
  have hh := h
  rcases h.2 with ⟨rfl, hz⟩ | ⟨g, cap, cur, rfl, hB, _, h1, h2, _⟩
  · have : L = [] := List.eq_nil_of_length_eq_zero hz
    subst this
    exact ⟨0, none, 0, rfl, row_none _ _ _, by simp, by omega⟩
  · refine ⟨g, _, cap, rfl, ⟨fun _ => rfl, fun i hi => ?_, fun i hi => hh.frozenAt i⟩, h1, h2⟩
    rw [hh.cellAt i (by omega), List.getElem?_map, List.getElem?_eq_getElem hi]; rfl
theorem own_empty2 {w : World} {B X : Nat} (e : TypeId) (hX : w.heap.size = X) (hB : B ≤ X) : (w.alloc (.cells #[] e)).ownsRow B e 1 (.slice (some ⟨X, 0, none⟩) 0 0) 0 [] := by
  subst hX; exact own_empty e hB
theorem ones_bv (L : List UInt8) : ∀ u ∈ L.map bv, u.oneCell' = true := by
  intro u hu
  obtain ⟨c, _, rfl⟩ := List.mem_map.1 hu
  rfl
end Go.Proofs.Ytlkdcijacjdneaa.Val
