/- What ValueBytes (impl) leaves. -/
import Derived.Test.YtjidkjnlnenmbaaByt
import Derived.Test.YtjidkjnlnenmbaaTxt
import Derived.Lib.AppendStr
import Derived.OwnWalk
namespace Go.Proofs.Ytjidkjnlnenmbaa.Val
open Go.RowKit
theorem info5 : (Try.prog.info? 5).map (fun i => (i.zero, i.size, i.bytes)) = some (some (.int .u8 0), 1, 1) := by kernel_rfl
def bv (c : UInt8) : Value := .int .u8 c.toNat
theorem own_built {w : World} {B : Nat} (e : TypeId) (u : Value) (hB : B ≤ w.heap.size) : (w.alloc (.cells #[u] e)).ownsRow B e 1 (.slice (some ⟨w.heap.size, 0, none⟩) 1 1) 1 [u] :=
  ⟨rfl, .inr ⟨w.heap.size, 1, #[u], rfl, hB, heap_alloc_new w _, Nat.le_refl _, by decide, rfl, rfl⟩⟩
theorem bv_of (x : Int) (h0 : 0 ≤ x) (h1 : x < 256) : bv (UInt8.ofNat x.toNat) = .int .u8 x := by
  unfold bv
  have : (UInt8.ofNat x.toNat).toNat = x.toNat := by rw [UInt8.toNat_ofNat']; omega
  rw [this]; congr 1; omega
/-- What ValueBytes leaves: a row of its own, from the world's first free block on, that holds the bytes L. -/
def BPost (L : List UInt8) (w : World) (e : Ending) (w' : World) : Prop := ∃ v, e = .returned v ∧ w'.ownsRow w.heap.size 5 1 v L.length (L.map bv) ∧ Below w.heap.size w w'
theorem strCells_bv (s : ByteArray) : Lib.strCells s = s.data.toList.map bv := by
  unfold Lib.strCells bv; simp
def bytesL (k n : Int) (s : ByteArray) : List UInt8 :=
  if okB k n s = false then [] else if k = 1 then [1, UInt8.ofNat ((n + 10000) / 256).toNat, UInt8.ofNat ((n + 10000) % 256).toNat] else if k = 2 then 2 :: UInt8.ofNat s.size :: s.data.toList else if k = 3 then [3, UInt8.ofNat n.toNat] else [0]
end Go.Proofs.Ytjidkjnlnenmbaa.Val
