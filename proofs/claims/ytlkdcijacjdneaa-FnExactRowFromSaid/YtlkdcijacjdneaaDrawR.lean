/- What drawing a text leaves. -/
import Derived.Test.YtlkdcijacjdneaaDraw2
import Derived.Test.YtlkdcijacjdneaaWText
import Derived.Deep.RegionWith
namespace Go.Proofs.Ytlkdcijacjdneaa.Val
open Go.RowKit
theorem RdOk.below {B r : Nat} {w w' : World} {p : Int} (h : RdOk B r w p) (hb : Below w.heap.size w w') : RdOk B r w' p :=
  h.keep hb.size fun k hk => hb.block k (by have := h.ge; have := h.lt; omega)
def six (m : Int) : ByteArray := if m = 0 then ⟨#[]⟩ else if m = 1 then ⟨#[48]⟩ else if m = 2 then ⟨#[45]⟩ else if m = 3 then ⟨#[39]⟩ else if m = 4 then ⟨#[97]⟩ else ⟨#[65]⟩
theorem six_size (m : Int) : (six m).size ≤ 1 := by unfold six; repeat' split
                                                    all_goals decide
theorem six_at (W : World) (t : TypeId) (m : Int) (h0 : 0 ≤ m) (h6 : m < 6) : (W.alloc (.cells #[.string ⟨#[]⟩, .string ⟨#[48]⟩, .string ⟨#[45]⟩, .string ⟨#[39]⟩, .string ⟨#[97]⟩, .string ⟨#[65]⟩] t)).cell? ⟨W.heap.size, m.toNat, none⟩ = some (.string (six m)) := by
  rw [World.cell?_alloc_mark]
  have hm : m = 0 ∨ m = 1 ∨ m = 2 ∨ m = 3 ∨ m = 4 ∨ m = 5 := by omega
  rcases hm with rfl | rfl | rfl | rfl | rfl | rfl <;> rfl
def DrewT (w : World) (e : Ending) (w' : World) : Prop := ∃ T : ByteArray, e = .returned (.string T) ∧ T.size ≤ 100 ∧ Below w.heap.size w w'
end Go.Proofs.Ytlkdcijacjdneaa.Val
