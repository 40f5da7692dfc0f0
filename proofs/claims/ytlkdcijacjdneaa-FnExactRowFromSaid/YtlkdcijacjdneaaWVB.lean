/- The walk of the law FnValueBytes. -/
import Derived.Test.YtlkdcijacjdneaaFromJ
import Derived.Test.YtlkdcijacjdneaaByteS2
import Derived.Test.YtlkdcijacjdneaaWExB
import Derived.Test.YtlkdcijacjdneaaDraw2
import Derived.Test.YtlkdcijacjdneaaAlive
import Derived.Deep.RegionHeldLaw
import Derived.ProofKit
import Derived.OpenShut
import Derived.ShutString
import Derived.ChangeOld
import Derived.Below
import Derived.Lib.SmallJoins
namespace Go.Proofs.Ytlkdcijacjdneaa.Val
open Go.ChangeShapes Go.WideShapes Go.ChangeAt Go.RowKit
open Go.ChangeMaps (open_string shut_string)
set_option linter.unusedVariables false
theorem row_of_own2 {w : World} {B : Nat} {e : TypeId} {v : Value} {L : List UInt8} (h : w.ownsRow B e 1 v L.length (L.map bv)) (h0 : 0 < L.length) : ∃ (g cap : Nat), v = .slice (some ⟨g, 0, none⟩) L.length cap ∧ RowAt w g (some ⟨g, 0, none⟩) L ∧ B ≤ g ∧ L.length ≤ cap ∧ cap ≤ maxLen := by
  have hh := h
  rcases h.2 with ⟨rfl, hz⟩ | ⟨g, cap, cur, rfl, hB, _, h1, h2, _⟩
  · omega
  · refine ⟨g, cap, rfl, ⟨fun _ => rfl, fun i hi => ?_, fun i hi => hh.frozenAt i⟩, hB, h1, h2⟩
    rw [hh.cellAt i (by omega), List.getElem?_map, List.getElem?_eq_getElem hi]; rfl
/-- Bytes, at least one. -/
def BytesP (L : List UInt8) (w : World) (e : Ending) (w' : World) : Prop := ∃ (g cap : Nat), e = .returned (.slice (some ⟨g, 0, none⟩) L.length cap) ∧ RowAt w' g (some ⟨g, 0, none⟩) L ∧ L.length ≤ cap ∧ cap ≤ maxLen ∧ Below w.heap.size w w'
theorem bytesP_of {f : Nat} {args : Array Value} {L : List UInt8} {w : World} (h : Calls Try.prog f args w (BPost L w)) (h0 : 0 < L.length) : Calls Try.prog f args w (BytesP L w) := by
  refine h.mono ?_
  rintro e w' ⟨v, rfl, ho, hb⟩
  obtain ⟨g, cap, rfl, hr, hg, h1, h2⟩ := row_of_own2 ho h0
  exact ⟨g, cap, rfl, hr, h1, h2, hb⟩
theorem conv_row {W : World} {g cap : Nat} {L : List UInt8} (h : RowAt W g (some ⟨g, 0, none⟩) L) : (convert 22 9 (.slice (some ⟨g, 0, none⟩) L.length cap)).run Try.prog W = .ok (.string ⟨L.toArray⟩) W :=
  run_convert_bytes_back (P := Try.prog) W 22 9 5 ⟨g, 0, none⟩ cap L Try.underlying22 Try.underlying5 Try.underlying9 (fun j hj => by
    have ha : (⟨g, 0, none⟩ : Addr).add j = ⟨g, j, none⟩ := by unfold Addr.add; split <;> simp_all
    rw [ha]; exact h.c j hj)
theorem keepR {w wd W w1 : World} {gg : Nat} {L : List UInt8} {k n : Int} {s : ByteArray} (h : RowAt W gg (some ⟨gg, 0, none⟩) L ∧ W.cell? ⟨wd.heap.size, 0, none⟩ = some (.int .i64 k) ∧ W.cell? ⟨wd.heap.size, 1, none⟩ = some (.int .i64 n) ∧ W.cell? ⟨wd.heap.size, 2, none⟩ = some (.string s) ∧ Below w.heap.size w W ∧ w.heap.size ≤ W.heap.size) (hb : Below W.heap.size W w1) : RowAt w1 gg (some ⟨gg, 0, none⟩) L ∧ w1.cell? ⟨wd.heap.size, 0, none⟩ = some (.int .i64 k) ∧ w1.cell? ⟨wd.heap.size, 1, none⟩ = some (.int .i64 n) ∧ w1.cell? ⟨wd.heap.size, 2, none⟩ = some (.string s) ∧ Below w.heap.size w w1 ∧ w.heap.size ≤ w1.heap.size := by
  obtain ⟨hr, a0, a1, a2, hB, hz⟩ := h
  have c := fun (p : Addr) (v : Value) (h : W.cell? p = some v) => (hb.cell (World.block_lt_of_cell? W p h)).trans h
  have := hb.size
  exact ⟨hr.below hb, c _ _ a0, c _ _ a1, c _ _ a2, hB.trans (hb.mono hz), by omega⟩
theorem keepRD {w wd W : World} {gg : Nat} {L : List UInt8} {k n : Int} {s : ByteArray} (h : RowAt W gg (some ⟨gg, 0, none⟩) L ∧ W.cell? ⟨wd.heap.size, 0, none⟩ = some (.int .i64 k) ∧ W.cell? ⟨wd.heap.size, 1, none⟩ = some (.int .i64 n) ∧ W.cell? ⟨wd.heap.size, 2, none⟩ = some (.string s) ∧ Below w.heap.size w W ∧ w.heap.size ≤ W.heap.size) : RowAt W.drew gg (some ⟨gg, 0, none⟩) L ∧ W.drew.cell? ⟨wd.heap.size, 0, none⟩ = some (.int .i64 k) ∧ W.drew.cell? ⟨wd.heap.size, 1, none⟩ = some (.int .i64 n) ∧ W.drew.cell? ⟨wd.heap.size, 2, none⟩ = some (.string s) ∧ Below w.heap.size w W.drew ∧ w.heap.size ≤ W.drew.heap.size := by
  obtain ⟨hr, a0, a1, a2, hB, hz⟩ := h
  exact ⟨hr.drew, a0, a1, a2, hB.drew, hz⟩
theorem keepGr {w wd W w1 : World} {gg N : Nat} {L : List UInt8} {k n : Int} {s : ByteArray} {row : Option Nat} (h : RowAt W gg (some ⟨gg, 0, none⟩) L ∧ W.cell? ⟨wd.heap.size, 0, none⟩ = some (.int .i64 k) ∧ W.cell? ⟨wd.heap.size, 1, none⟩ = some (.int .i64 n) ∧ W.cell? ⟨wd.heap.size, 2, none⟩ = some (.string s) ∧ Below w.heap.size w W ∧ w.heap.size ≤ W.heap.size) (hg : W.grownBy w1 row) (h1 : gg < N) (h2 : wd.heap.size < N) (h3 : w.heap.size ≤ N) (hrow : ∀ b, row = some b → N ≤ b) : RowAt w1 gg (some ⟨gg, 0, none⟩) L ∧ w1.cell? ⟨wd.heap.size, 0, none⟩ = some (.int .i64 k) ∧ w1.cell? ⟨wd.heap.size, 1, none⟩ = some (.int .i64 n) ∧ w1.cell? ⟨wd.heap.size, 2, none⟩ = some (.string s) ∧ Below w.heap.size w w1 ∧ w.heap.size ≤ w1.heap.size := by
  obtain ⟨hr, a0, a1, a2, hB, hz⟩ := h
  have hs := hg.size
  have ne : ∀ b, b < N → some b ≠ row := fun b hb e => by have := hrow b e.symm; omega
  refine ⟨hr.keep fun hgg o => ⟨World.cell?_of_block (hg.block gg hgg (ne _ h1)), World.frozen?_of_block (hg.block gg hgg (ne _ h1))⟩, hg.cell a0 (ne _ h2), hg.cell a1 (ne _ h2), hg.cell a2 (ne _ h2), hB.grown hg hz (fun b hb => by have := hrow b hb; omega), by omega⟩
theorem keepAl {w wd W : World} {gg : Nat} {L : List UInt8} {k n : Int} {s : ByteArray} (h : RowAt W gg (some ⟨gg, 0, none⟩) L ∧ W.cell? ⟨wd.heap.size, 0, none⟩ = some (.int .i64 k) ∧ W.cell? ⟨wd.heap.size, 1, none⟩ = some (.int .i64 n) ∧ W.cell? ⟨wd.heap.size, 2, none⟩ = some (.string s) ∧ Below w.heap.size w W ∧ w.heap.size ≤ W.heap.size) (o : Obj) : RowAt (W.alloc o) gg (some ⟨gg, 0, none⟩) L ∧ (W.alloc o).cell? ⟨wd.heap.size, 0, none⟩ = some (.int .i64 k) ∧ (W.alloc o).cell? ⟨wd.heap.size, 1, none⟩ = some (.int .i64 n) ∧ (W.alloc o).cell? ⟨wd.heap.size, 2, none⟩ = some (.string s) ∧ Below w.heap.size w (W.alloc o) ∧ w.heap.size ≤ (W.alloc o).heap.size := keepR h ((Below.refl _ _).alloc (Nat.le_refl _) _)
theorem news_row {W : World} {g : Nat} {A : Option Addr} {L : List UInt8} (h : RowAt W g A L) : ∀ j u, (L.map bv)[j]? = some u → W.cell? ((⟨g, 0, none⟩ : Addr).add j) = some u := by
  intro j u hj
  rw [List.getElem?_map] at hj
  obtain ⟨hjl, x, hx⟩ : ∃ (hjl : j < L.length), ∃ x, L[j]? = some x := by
    rcases hx : L[j]? with _ | x
    · rw [hx] at hj; cases hj
    · exact ⟨(List.getElem?_eq_some_iff.1 hx).1, x, rfl⟩
  rw [List.getElem?_eq_getElem hjl] at hj
  have hu : u = .int .u8 L[j].toNat := (Option.some.inj hj).symm
  have ha : (⟨g, 0, none⟩ : Addr).add j = ⟨g, j, none⟩ := by unfold Addr.add; split <;> simp_all
  rw [hu, ha]; exact h.c j hjl
theorem news3 {W : World} {b : Nat} {x y z : Value} (h0 : W.cell? ⟨b, 0, none⟩ = some x) (h1 : W.cell? ⟨b, 1, none⟩ = some y) (h2 : W.cell? ⟨b, 2, none⟩ = some z) : ∀ j u, [x, y, z][j]? = some u → W.cell? ((⟨b, 0, none⟩ : Addr).add j) = some u := by
  intro j u hj
  match j with
  | 0 => simp at hj; subst hj; simpa [Addr.add] using h0
  | 1 => simp at hj; subst hj; simpa [Addr.add] using h1
  | 2 => simp at hj; subst hj; simpa [Addr.add] using h2
  | k + 3 => simp at hj
theorem row_none (W : World) (g : Nat) (A : Option Addr) : RowAt W g A [] := ⟨fun h => absurd h (by simp), fun i h => absurd h (by simp), fun i h => absurd h (by simp)⟩
theorem conv_zero (W : World) (A : Option Addr) (cap : Nat) : (convert 22 9 (.slice A 0 cap)).run Try.prog W = .ok (.string ⟨#[]⟩) W := by
  cases A with
  | some a => exact run_convert_bytes_back (P := Try.prog) W 22 9 5 a cap [] Try.underlying22 Try.underlying5 Try.underlying9 (fun j hj => absurd hj (by simp))
  | none =>
    rw [run_convert_bytes_string (P := Try.prog) W 22 9 5 none 0 cap Try.underlying22 Try.underlying5 Try.underlying9]
    simp [Conv.bytesToString, go_sem]
    rfl
end Go.Proofs.Ytlkdcijacjdneaa.Val
