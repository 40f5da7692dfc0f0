/- Rows of bytes of the law's own: where they lie, and what keeps them. -/
import Derived.Test.YtjidkjnlnenmbaaByteI
import Derived.Deep.RegionWith
import Derived.Laws.OwnMore
namespace Go.Proofs.Ytjidkjnlnenmbaa.Val
open Go.RowKit
set_option linter.unusedVariables false
/-- The bytes L lie in block g from its first cell on (where there are any), and A leads to them; they can be written. -/
structure RowAt (w : World) (g : Nat) (A : Option Addr) (L : List UInt8) : Prop where
  ad : 0 < L.length → A = some ⟨g, 0, none⟩
  c : ∀ i (h : i < L.length), w.cell? ⟨g, i, none⟩ = some (.int .u8 L[i].toNat)
  f : ∀ i (_ : i < L.length), w.frozen? ⟨g, i, none⟩ = false
theorem RowAt.lt {w : World} {g : Nat} {A : Option Addr} {L : List UInt8} (h : RowAt w g A L) (h0 : 0 < L.length) : g < w.heap.size := World.block_lt_of_cell? w _ (h.c 0 h0)
theorem RowAt.bat {w : World} {g : Nat} {A : Option Addr} {L : List UInt8} (h : RowAt w g A L) : BAt w A L := by
  intro h0
  exact ⟨g, 0, h.ad h0, fun i hi => by rw [Nat.zero_add]; exact h.c i hi⟩
theorem RowAt.keep {w w' : World} {g : Nat} {A : Option Addr} {L : List UInt8} (h : RowAt w g A L) (hk : g < w.heap.size → ∀ o, w'.cell? ⟨g, o, none⟩ = w.cell? ⟨g, o, none⟩ ∧ w'.frozen? ⟨g, o, none⟩ = w.frozen? ⟨g, o, none⟩) : RowAt w' g A L :=
  ⟨h.ad, fun i hi => ((hk (h.lt (by omega)) i).1).trans (h.c i hi), fun i hi => ((hk (h.lt (by omega)) i).2).trans (h.f i hi)⟩
theorem RowAt.below {w w' : World} {g : Nat} {A : Option Addr} {L : List UInt8} (h : RowAt w g A L) (hb : Below w.heap.size w w') : RowAt w' g A L :=
  h.keep fun hg o => ⟨hb.cell (p := ⟨g, o, none⟩) hg, hb.frozen (p := ⟨g, o, none⟩) hg⟩
theorem RowAt.alloc {w : World} {g : Nat} {A : Option Addr} {L : List UInt8} (h : RowAt w g A L) (o : Obj) : RowAt (w.alloc o) g A L :=
  h.below ((Below.refl _ _).alloc (Nat.le_refl _) _)
theorem RowAt.drew {w : World} {g : Nat} {A : Option Addr} {L : List UInt8} (h : RowAt w g A L) : RowAt w.drew g A L := ⟨h.ad, h.c, h.f⟩
theorem RowAt.only {w w' : World} {g r : Nat} {A : Option Addr} {L : List UInt8} (h : RowAt w g A L) (ho : Only r w w') (hr : 0 < L.length → g ≠ r) : RowAt w' g A L :=
  ⟨h.ad, fun i hi => (ho.cell _ _ (h.lt (by omega)) (hr (by omega))).trans (h.c i hi), fun i hi => (ho.frozen _ _ (h.lt (by omega)) (hr (by omega))).trans (h.f i hi)⟩
/-- What a maker of bytes leaves: a row of its own, behind all blocks that were there. -/
def Bytes (L : List UInt8) (w : World) (e : Ending) (w' : World) : Prop := ∃ (g : Nat) (A : Option Addr) (cap : Nat), e = .returned (.slice A L.length cap) ∧ RowAt w' g A L ∧ w.heap.size ≤ g ∧ Below w.heap.size w w'
theorem row_of_own {w : World} {B : Nat} {e : TypeId} {v : Value} {L : List UInt8} (h : w.ownsRow B e 1 v L.length (L.map bv)) : ∃ (g : Nat) (A : Option Addr) (cap : Nat), v = .slice A L.length cap ∧ RowAt w g A L ∧ B ≤ g := by
  have hh := h
  rcases h.2 with ⟨rfl, h0⟩ | ⟨g, cap, cur, rfl, hB, _⟩
  · refine ⟨B, none, 0, by rw [h0], ⟨fun hp => absurd hp (by omega), fun i hi => absurd hi (by omega), fun i hi => absurd hi (by omega)⟩, Nat.le_refl _⟩
  · refine ⟨g, _, cap, rfl, ⟨fun _ => rfl, fun i hi => ?_, fun i hi => ?_⟩, hB⟩
    · rw [hh.cellAt i (by omega), List.getElem?_map, List.getElem?_eq_getElem hi]; rfl
    · exact hh.frozenAt i
theorem bytes_of_post {f : Nat} {args : Array Value} {L : List UInt8} {w : World} (h : Calls Try.prog f args w (BPost L w)) : Calls Try.prog f args w (Bytes L w) := by
  refine h.mono ?_
  rintro e w' ⟨v, rfl, ho, hb⟩
  obtain ⟨g, A, cap, rfl, hr, hg⟩ := row_of_own ho
  exact ⟨g, A, cap, rfl, hr, hg, hb⟩
theorem below_drewN {B : Nat} {a w : World} (h : Below B a w) (n : Nat) : Below B a (w.drewN n) := ⟨h.os, h.tape, h.output, h.size, h.block⟩
theorem marks_get (n k i : Nat) (h : i < (marks n k).length) (hb : n + k ≤ 256) : (marks n k)[i].toNat = k + i := by
  induction n generalizing k i with
  | zero => simp [marks] at h
  | succ n ih =>
    cases i with
    | zero => simp [marks]; omega
    | succ i =>
      have := ih (k + 1) i (by simpa [marks] using h) (by omega)
      simp only [marks, List.getElem_cons_succ]
      rw [this]; omega
end Go.Proofs.Ytjidkjnlnenmbaa.Val
