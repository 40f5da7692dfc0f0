/- Rows of bytes of the law's own: where they lie, and what keeps them. -/
import Derived.Test.YtjidkjnlnenmbaaBytQ
import Derived.Test.YtjidkjnlnenmbaaTxtQ
import Derived.Lib.AppendStr
import Derived.OwnWalk
import Derived.Deep.RegionWith
import Derived.Laws.OwnMore
namespace Go.Proofs.Ytjidkjnlnenmbaa.Val
open Go.RowKit
set_option linter.unusedVariables false
/-- The bytes L lie in block g from its first cell on (where there are any), and A leads to them; they can be written. -/
structure RowAt (w : World) (g : Nat) (A : Option Addr) (L : List UInt8) : Prop where
  ad : 0 < L.length → A = some ⟨g, 0, none⟩
  c : ∀ i (h : i < L.length), w.cell? ⟨g, i, none⟩ = some (.int .u8 L[i].toNat)
  f : ∀ i (_ : i < L.length), w.frozen? ⟨g, i, none⟩ = false
theorem RowAt.lt {w : World} {g : Nat} {A : Option Addr} {L : List UInt8} (h : RowAt w g A L) (h0 : 0 < L.length) : g < w.heap.size := World.block_lt_of_cell? w _ (h.c 0 h0)
theorem RowAt.keep {w w' : World} {g : Nat} {A : Option Addr} {L : List UInt8} (h : RowAt w g A L) (hk : g < w.heap.size → ∀ o, w'.cell? ⟨g, o, none⟩ = w.cell? ⟨g, o, none⟩ ∧ w'.frozen? ⟨g, o, none⟩ = w.frozen? ⟨g, o, none⟩) : RowAt w' g A L :=
  ⟨h.ad, fun i hi => ((hk (h.lt (by omega)) i).1).trans (h.c i hi), fun i hi => ((hk (h.lt (by omega)) i).2).trans (h.f i hi)⟩
theorem RowAt.below {w w' : World} {g : Nat} {A : Option Addr} {L : List UInt8} (h : RowAt w g A L) (hb : Below w.heap.size w w') : RowAt w' g A L :=
  h.keep fun hg o => ⟨hb.cell (p := ⟨g, o, none⟩) hg, hb.frozen (p := ⟨g, o, none⟩) hg⟩
theorem RowAt.alloc {w : World} {g : Nat} {A : Option Addr} {L : List UInt8} (h : RowAt w g A L) (o : Obj) : RowAt (w.alloc o) g A L :=
  h.below ((Below.refl _ _).alloc (Nat.le_refl _) _)
theorem RowAt.drew {w : World} {g : Nat} {A : Option Addr} {L : List UInt8} (h : RowAt w g A L) : RowAt w.drew g A L := ⟨h.ad, h.c, h.f⟩
theorem RowAt.only {w w' : World} {g r : Nat} {A : Option Addr} {L : List UInt8} (h : RowAt w g A L) (ho : Only r w w') (hr : 0 < L.length → g ≠ r) : RowAt w' g A L :=
  ⟨h.ad, fun i hi => (ho.cell _ _ (h.lt (by omega)) (hr (by omega))).trans (h.c i hi), fun i hi => (ho.frozen _ _ (h.lt (by omega)) (hr (by omega))).trans (h.f i hi)⟩
end Go.Proofs.Ytjidkjnlnenmbaa.Val
