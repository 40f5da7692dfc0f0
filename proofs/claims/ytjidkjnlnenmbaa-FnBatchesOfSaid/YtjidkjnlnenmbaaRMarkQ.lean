/- Marks laid in rows of rows, and told again. -/
import Derived.Test.YtjidkjnlnenmbaaBagQ
import Derived.Test.YtjidkjnlnenmbaaRowMQ
namespace Go.Proofs.Ytjidkjnlnenmbaa.Val
open Go.RowKit
set_option linter.unusedVariables false
set_option maxRecDepth 8000
/-- The marks of n values. -/
def marksK (N n : Nat) : List VT := (List.range n).map fun (i : Nat) => ((N : Int) + 3 * (i : Int), (N : Int) + 1 + 3 * (i : Int), mT (N + 2 + 3 * i))
/-- What a row, rows are after their marks. -/
def markR (N : Nat) (t : TT) : TT := (t.1, t.2.1, marksK N t.2.2.length)
def tot (T : List TT) : Nat := total (T.map fun t => t.2.2)
def markT (N : Nat) : List TT → List TT
  | [] => []
  | t :: T => markR N t :: markT (N + 3 * t.2.2.length) T
/-- No block but those of bs turned. -/
structure OnlyT (bs : List Nat) (w w' : World) : Prop where
  os : w'.os = w.os
  tape : w'.tape = w.tape
  output : w'.output = w.output
  size : w.heap.size ≤ w'.heap.size
  block : ∀ k, k < w.heap.size → k ∉ bs → w'.heap[k]? = w.heap[k]?
theorem OnlyT.refl (bs : List Nat) (w : World) : OnlyT bs w w := ⟨rfl, rfl, rfl, Nat.le_refl _, fun _ _ _ => rfl⟩
theorem OnlyT.only {bs : List Nat} {w w1 w2 : World} {r : Nat} (h : OnlyT bs w w1) (ho : Only r w1 w2) (hr : r ∈ bs) : OnlyT bs w w2 :=
  ⟨ho.os.trans h.os, ho.tape.trans h.tape, ho.output.trans h.output, Nat.le_trans h.size ho.size, fun k hk hkb => (ho.block k (Nat.lt_of_lt_of_le hk h.size) (fun e => hkb (e ▸ hr))).trans (h.block k hk hkb)⟩
theorem OnlyT.below {bs : List Nat} {w w1 : World} {N : Nat} (h : OnlyT bs w w1) (hN : N ≤ w.heap.size) (hb : ∀ b ∈ bs, N ≤ b) : Below N w w1 :=
  ⟨h.os, h.tape, h.output, h.size, fun k hk => h.block k (by omega) (fun e => by have := hb k e; omega)⟩
/-- All blocks of the rows lie below. -/
def Under (N g : Nat) (T : List TT) : Prop := g < N ∧ ∀ t ∈ T, t.1 < N
theorem Under.all {N g : Nat} {T : List TT} (h : Under N g T) : ∀ b ∈ T.map (fun t => t.1), b < N := by
  intro b hb
  obtain ⟨t, ht, rfl⟩ := List.mem_map.1 hb
  exact h.2 t ht
theorem Bag.tot {w : World} {B g cap : Nat} {T : List TT} {ls : List RT} (h : Bag w B g cap T ls) : tot T = total ls := by rw [← h.eq]; rfl
end Go.Proofs.Ytjidkjnlnenmbaa.Val
