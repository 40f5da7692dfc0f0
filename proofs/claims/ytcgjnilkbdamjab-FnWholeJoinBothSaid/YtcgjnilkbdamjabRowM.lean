/- Marking a row of values: markText, markValueS; Marks laid in a row of values, and told again: markText, markValueS, heldValueS, and markByteS of a long row; Marks told: heldValueS. -/
import Derived.Test.YtcgjnilkbdamjabRowV
import Derived.Deep.RegionHeldLaw
import Derived.Test.YtcgjnilkbdamjabRow
namespace Go.Proofs.Ytcgjnilkbdamjab.Val
open Go.RowKit
set_option linter.unusedVariables false
/-- The first n cells of block g are there, and can be written. -/
def Free (w : World) (g n : Nat) : Prop := ∀ j, j < n → (∃ v, w.cell? ⟨g, j, none⟩ = some v) ∧ w.frozen? ⟨g, j, none⟩ = false
theorem Free.set {w : World} {g n : Nat} (h : Free w g n) (m : Nat) (u : Value) : Free (w.setCell ⟨g, m, none⟩ u) g n := by
  intro j hj
  obtain ⟨⟨v, hv⟩, hf⟩ := h j hj
  refine ⟨?_, by rw [World.frozen?_setCell]; exact hf⟩
  by_cases e : j = m
  · subst e; exact ⟨_, World.cell?_setCell_same _ _ _ hv⟩
  · exact ⟨v, by rw [World.cell?_setCell_other _ _ _ _ (offNe (by omega))]; exact hv⟩
theorem Free.below {w w' : World} {g n : Nat} (h : Free w g n) (hb : Below w.heap.size w w') : Free w' g n := by
  intro j hj
  obtain ⟨⟨v, hv⟩, hf⟩ := h j hj
  have hg := World.block_lt_of_cell? w _ hv
  exact ⟨⟨v, (hb.cell (p := ⟨g, j, none⟩) hg).trans hv⟩, (hb.frozen (p := ⟨g, j, none⟩) hg).trans hf⟩
theorem only_of_below {g : Nat} {w w' : World} (hb : Below w.heap.size w w') : Only g w w' := ⟨hb.os, hb.tape, hb.output, hb.size, fun k hk _ => hb.block k hk⟩
end Go.Proofs.Ytcgjnilkbdamjab.Val
namespace Go.Proofs.Ytcgjnilkbdamjab.Val
open Go.RowKit
set_option linter.unusedVariables false
def mGo : Nat → Nat → ByteArray → ByteArray
  | 0, _, s => s
  | f + 1, m, s => if m = 0 then s else mGo f (m / 10) (⟨#[(48 : UInt8) + UInt8.ofNat (m % 10)]⟩ ++ s)
theorem mGo_zero (f : Nat) (s : ByteArray) : mGo f 0 s = s := by cases f <;> simp [mGo]
def mT (k : Nat) : ByteArray := ⟨#[109]⟩ ++ mGo k k ⟨#[]⟩
/-- The marks of n values. -/
def marksV (n : Nat) : List VT := (List.range n).map fun (i : Nat) => ((1 : Int) + 3 * (i : Int), (2 : Int) + 3 * (i : Int), mT (3 + 3 * i))
theorem marksV_len (n : Nat) : (marksV n).length = n := by simp [marksV]
theorem marksV_get (n i : Nat) (h : i < n) : (flatV (marksV n))[i * 3]? = some (.int .i64 ((1 : Int) + 3 * i)) ∧ (flatV (marksV n))[i * 3 + 1]? = some (.int .i64 ((2 : Int) + 3 * i)) ∧ (flatV (marksV n))[i * 3 + 2]? = some (.string (mT (3 + 3 * i))) := by
  have hg := flatV_get (marksV n) i (by rw [marksV_len]; exact h)
  have e : (marksV n)[i]'(by rw [marksV_len]; exact h) = ((1 : Int) + 3 * i, (2 : Int) + 3 * i, mT (3 + 3 * i)) := by simp [marksV]
  rw [e] at hg
  exact hg
end Go.Proofs.Ytcgjnilkbdamjab.Val
namespace Go.Proofs.Ytcgjnilkbdamjab.Val
open Go.RowKit
set_option linter.unusedVariables false
theorem keepM {w W w1 : World} {g o : Nat} {x : Value} (h : W.cell? ⟨g, o, none⟩ = some x ∧ g < W.heap.size ∧ Below w.heap.size w W ∧ w.heap.size ≤ W.heap.size) (hb : Below W.heap.size W w1) : w1.cell? ⟨g, o, none⟩ = some x ∧ g < w1.heap.size ∧ Below w.heap.size w w1 ∧ w.heap.size ≤ w1.heap.size :=
  ⟨(hb.cell (p := ⟨g, o, none⟩) h.2.1).trans h.1, by have := hb.size; omega, h.2.2.1.trans (hb.mono h.2.2.2), Nat.le_trans h.2.2.2 hb.size⟩
theorem keepMD {w W : World} {g o : Nat} {x : Value} (h : W.cell? ⟨g, o, none⟩ = some x ∧ g < W.heap.size ∧ Below w.heap.size w W ∧ w.heap.size ≤ W.heap.size) : W.drew.cell? ⟨g, o, none⟩ = some x ∧ g < W.drew.heap.size ∧ Below w.heap.size w W.drew ∧ w.heap.size ≤ W.drew.heap.size :=
  ⟨h.1, h.2.1, h.2.2.1.drew, h.2.2.2⟩
end Go.Proofs.Ytcgjnilkbdamjab.Val
