/- What drawing one value for a column leaves (l20Like). -/
import Derived.Test.YtacinjbaebimhaaGreatDrawSQ
import Derived.Test.YtacinjbaebimhaaGreatRowVQ
namespace Go.Proofs.YtacinjbaebimhaaGreat.Val
open Go.RowKit
set_option linter.unusedVariables false
def fourT (m : Int) : ByteArray := if m = 0 then ⟨#[]⟩ else if m = 1 then ⟨#[97]⟩ else if m = 2 then ⟨#[98]⟩ else ⟨#[97, 98]⟩
theorem fourT_size (m : Int) : (fourT m).size ≤ 20 := by
  unfold fourT; repeat' split
  all_goals decide
theorem fourT_at (W : World) (t : TypeId) (m : Int) (h0 : 0 ≤ m) (h6 : m < 4) : (W.alloc (.cells #[.string ⟨#[]⟩, .string ⟨#[97]⟩, .string ⟨#[98]⟩, .string ⟨#[97, 98]⟩] t)).cell? ⟨W.heap.size, m.toNat, none⟩ = some (.string (fourT m)) := by
  rw [World.cell?_alloc_mark]
  have hm : m = 0 ∨ m = 1 ∨ m = 2 ∨ m = 3 := by omega
  rcases hm with rfl | rfl | rfl | rfl <;> rfl
theorem fourT_cells {r : Nat} {W0 w1 : World} {m : Int} {t : TypeId} (ho : Only r (W0.alloc (.cells #[.string ⟨#[]⟩, .string ⟨#[97]⟩, .string ⟨#[98]⟩, .string ⟨#[97, 98]⟩] t)) w1) (hr : r < W0.heap.size) (h0 : 0 ≤ m) (h4 : m < 4) : w1.cell? ⟨W0.heap.size, m.toNat, none⟩ = some (.string (fourT m)) := by
  rw [ho.cell W0.heap.size m.toNat (by simp) (by omega)]
  exact fourT_at W0 t m h0 h4
/-- The boxes of l20Like's own. -/
def LK (w wx : World) (c : Int) (b : Bool) : Prop := wx.cell? ⟨w.heap.size, 0, none⟩ = some (.int .i64 c) ∧ wx.cell? ⟨w.heap.size, 1, none⟩ = some (.bool b) ∧ wx.cell? ⟨w.heap.size + 1, 0, none⟩ = some (.int .i64 0) ∧ wx.cell? ⟨w.heap.size + 1, 1, none⟩ = some (.int .i64 0) ∧ wx.cell? ⟨w.heap.size + 1, 2, none⟩ = some (.string ⟨#[]⟩) ∧ wx.frozen? ⟨w.heap.size + 1, 0, none⟩ = false ∧ wx.frozen? ⟨w.heap.size + 1, 1, none⟩ = false ∧ wx.frozen? ⟨w.heap.size + 1, 2, none⟩ = false ∧ w.heap.size + 1 < wx.heap.size
theorem LK.keep {w wx wy : World} {c : Int} {b : Bool} (h : LK w wx c b) (hz : wx.heap.size ≤ wy.heap.size) (hk : ∀ k, k = w.heap.size ∨ k = w.heap.size + 1 → wy.heap[k]? = wx.heap[k]?) : LK w wy c b := by
  obtain ⟨h1, h2, h3, h4, h5, h6, h7, h8, h9⟩ := h
  have ka := hk w.heap.size (.inl rfl)
  have kb := hk (w.heap.size + 1) (.inr rfl)
  exact ⟨(World.cell?_of_block (w := wx) ka).trans h1, (World.cell?_of_block (w := wx) ka).trans h2, (World.cell?_of_block (w := wx) kb).trans h3, (World.cell?_of_block (w := wx) kb).trans h4, (World.cell?_of_block (w := wx) kb).trans h5, (World.frozen?_of_block (w := wx) kb).trans h6, (World.frozen?_of_block (w := wx) kb).trans h7, (World.frozen?_of_block (w := wx) kb).trans h8, by omega⟩
theorem LK.only {r : Nat} {w wx wy : World} {c : Int} {b : Bool} (h : LK w wx c b) (hr : r < w.heap.size) (ho : Only r wx wy) : LK w wy c b :=
  h.keep ho.size fun k hk => ho.block k (by have := h.2.2.2.2.2.2.2.2; omega) (by omega)
theorem LK.alloc {w wx : World} {c : Int} {b : Bool} (h : LK w wx c b) (o : Obj) : LK w (wx.alloc o) c b :=
  h.keep (by simp) fun k hk => Below.heap_alloc _ _ _ (by have := h.2.2.2.2.2.2.2.2; omega)
theorem LK.new (w : World) (c : Int) (b : Bool) (t t2 : TypeId) : LK w ((w.alloc (.cells #[.int .i64 c, .bool b] t)).alloc (.cells #[.int .i64 0, .int .i64 0, .string ⟨#[]⟩] t2)) c b := by
  simp [LK, go_sem]
end Go.Proofs.YtacinjbaebimhaaGreat.Val
