/- Lists of lists of values: measured, copied, compared (the exact laws' helpers); arguments that are such. -/
import Derived.Test.YtacinjbaebimhaaBagQ
import Derived.Test.YtacinjbaebimhaaFlQ
import Derived.Test.YtacinjbaebimhaaDrawQ
import Derived.Test.YtacinjbaebimhaaAMathQ
import Derived.Deep.SlicePairs
import Derived.Deep.Strs
import Derived.ProofKit
import Derived.OpenShut
import Derived.ChangeOld
import Derived.Deep.Slices
import Derived.Deep.Draws
import Derived.Lib.AppendStr
import Derived.OwnWalk
import Derived.Deep.RegionWith
import Derived.Laws.OwnMore
namespace Go.Proofs.Ytacinjbaebimhaa.Val
open Go.ChangeShapes Go.WideShapes Go.ChangeAt Go.RowKit Go.Deep
set_option linter.unusedVariables false
set_option maxRecDepth 8000
/-- The rows of an argument. -/
structure RwsA (w : World) (g o : Nat) (A : Option Addr) (ls : List RT) : Prop where
  ad : 0 < ls.length → A = some ⟨g, o, none⟩
  hd : ∀ j (h : j < ls.length), ∃ (A' : Option Addr) (c' g' o' : Nat), w.cell? ⟨g, o + j, none⟩ = some (.slice A' ls[j].length c') ∧ Fl w g' o' A' (flatV ls[j])
theorem RwsA.below {w w' : World} {g o : Nat} {A : Option Addr} {ls : List RT} (h : RwsA w g o A ls) (hb : Below w.heap.size w w') : RwsA w' g o A ls := by
  refine ⟨h.ad, fun j hj => ?_⟩
  obtain ⟨A', c', g', o', h1, h2⟩ := h.hd j hj
  exact ⟨A', c', g', o', (hb.cell (p := ⟨g, o + j, none⟩) (World.block_lt_of_cell? w ⟨g, o + j, none⟩ h1)).trans h1, h2.below hb⟩
theorem RwsA.at {w : World} {g o : Nat} {A : Option Addr} {ls : List RT} (h : RwsA w g o A ls) (j : Nat) (hj : j < ls.length) : A = some ⟨g, o, none⟩ ∧ g < w.heap.size ∧ ∃ (A' : Option Addr) (c' g' o' : Nat), w.cell? ⟨g, o + j, none⟩ = some (.slice A' ls[j].length c') ∧ Fl w g' o' A' (flatV ls[j]) := by
  obtain ⟨A', c', g', o', h1, h2⟩ := h.hd j hj
  exact ⟨h.ad (by omega), World.block_lt_of_cell? w ⟨g, o + j, none⟩ h1, A', c', g', o', h1, h2⟩
def Fit2 (ls : List RT) : Prop := ∀ r ∈ ls, r.length ≤ maxLen ∧ Short r
theorem total_at (ls : List RT) (r : RT) (h : r ∈ ls) : r.length ≤ total ls := by
  induction ls with
  | nil => simp at h
  | cons x ls ih =>
    simp only [total, List.map_cons, List.sum_cons] at ih ⊢
    rcases List.mem_cons.1 h with rfl | h
    · omega
    · have := ih h; omega
/-- What was measured is not too much. -/
theorem Fit2.ok {ls : List RT} (h : Fit2 ls) (hl : ls.length ≤ 1048576) (ht : total ls ≤ 1048576) : Ok2 ls := ⟨by omega, fun r hr => ⟨by have := total_at ls r hr; omega, (h r hr).2⟩⟩
end Go.Proofs.Ytacinjbaebimhaa.Val
namespace Go.Proofs.Ytacinjbaebimhaa.Val
open Go.RowKit
set_option linter.unusedVariables false
/-- The bytes L lie in block g from its first cell on (where there are any), and A leads to them; they can be written. -/
structure RowAt (w : World) (g : Nat) (A : Option Addr) (L : List UInt8) : Prop where
  ad : 0 < L.length → A = some ⟨g, 0, none⟩
  c : ∀ i (h : i < L.length), w.cell? ⟨g, i, none⟩ = some (.int .u8 L[i].toNat)
  f : ∀ i (_ : i < L.length), w.frozen? ⟨g, i, none⟩ = false
theorem RowAt.lt {w : World} {g : Nat} {A : Option Addr} {L : List UInt8} (h : RowAt w g A L) (h0 : 0 < L.length) : g < w.heap.size := World.block_lt_of_cell? w _ (h.c 0 h0)
theorem RowAt.keep {w w' : World} {g : Nat} {A : Option Addr} {L : List UInt8} (h : RowAt w g A L) (hk : g < w.heap.size → ∀ o, w'.cell? ⟨g, o, none⟩ = w.cell? ⟨g, o, none⟩ ∧ w'.frozen? ⟨g, o, none⟩ = w.frozen? ⟨g, o, none⟩) : RowAt w' g A L :=
  ⟨h.ad, fun i hi => ((hk (h.lt (by omega)) i).1).trans (h.c i hi), fun i hi => ((hk (h.lt (by omega)) i).2).trans (h.f i hi)⟩
theorem RowAt.below {w w' : World} {g : Nat} {A : Option Addr} {L : List UInt8} (h : RowAt w g A L) (hb : Below w.heap.size w w') : RowAt w' g A L :=
  h.keep fun hg o => ⟨hb.cell (p := ⟨g, o, none⟩) hg, hb.frozen (p := ⟨g, o, none⟩) hg⟩
theorem RowAt.alloc {w : World} {g : Nat} {A : Option Addr} {L : List UInt8} (h : RowAt w g A L) (o : Obj) : RowAt (w.alloc o) g A L :=
  h.below ((Below.refl _ _).alloc (Nat.le_refl _) _)
theorem RowAt.drew {w : World} {g : Nat} {A : Option Addr} {L : List UInt8} (h : RowAt w g A L) : RowAt w.drew g A L := ⟨h.ad, h.c, h.f⟩
theorem RowAt.only {w w' : World} {g r : Nat} {A : Option Addr} {L : List UInt8} (h : RowAt w g A L) (ho : Only r w w') (hr : 0 < L.length → g ≠ r) : RowAt w' g A L :=
  ⟨h.ad, fun i hi => (ho.cell _ _ (h.lt (by omega)) (hr (by omega))).trans (h.c i hi), fun i hi => (ho.frozen _ _ (h.lt (by omega)) (hr (by omega))).trans (h.f i hi)⟩
theorem below_drewN {B : Nat} {a w : World} (h : Below B a w) (n : Nat) : Below B a (w.drewN n) := ⟨h.os, h.tape, h.output, h.size, h.block⟩
end Go.Proofs.Ytacinjbaebimhaa.Val
