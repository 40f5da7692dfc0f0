/- What drawing one value for a column leaves (l20Like). -/
import Derived.Test.YtjidkjnlnenmbaaDrawS
import Derived.Test.YtjidkjnlnenmbaaRowV
namespace Go.Proofs.Ytjidkjnlnenmbaa.Val
open Go.RowKit
set_option linter.unusedVariables false
def fourT (m : Int) : ByteArray := if m = 0 then ⟨#[]⟩ else if m = 1 then ⟨#[97]⟩ else if m = 2 then ⟨#[98]⟩ else ⟨#[97, 98]⟩
theorem fourT_size (m : Int) : (fourT m).size ≤ 20 := by
  unfold fourT; repeat' split
  all_goals decide
theorem fourT_at (W : World) (t : TypeId) (m : Int) (h0 : 0 ≤ m) (h6 : m < 4) : (W.alloc (.cells #[.string ⟨#[]⟩, .string ⟨#[97]⟩, .string ⟨#[98]⟩, .string ⟨#[97, 98]⟩] t)).cell? ⟨W.heap.size, m.toNat, none⟩ = some (.string (fourT m)) := by
  rw [World.cell?_alloc_mark]
  have hm : m = 0 ∨ m = 1 ∨ m = 2 ∨ m = 3 := by omega
  rcases hm with rfl | rfl | rfl | rfl <;> rfl
theorem fourT_cells {r : Nat} {W0 w1 : World} {m : Int} {t : TypeId} (ho : Only r (W0.alloc (.cells #[.string ⟨#[]⟩, .string ⟨#[97]⟩, .string ⟨#[98]⟩, .string ⟨#[97, 98]⟩] t)) w1) (hr : r < W0.heap.size) (h0 : 0 ≤ m) (h4 : m < 4) : w1.cell? ⟨W0.heap.size, m.toNat, none⟩ = some (.string (fourT m)) := by
  rw [ho.cell W0.heap.size m.toNat (by simp) (by omega)]
  exact fourT_at W0 t m h0 h4
/-- The boxes of l20Like's own. -/
def LK (w wx : World) (c : Int) (b : Bool) : Prop := wx.cell? ⟨w.heap.size, 0, none⟩ = some (.int .i64 c) ∧ wx.cell? ⟨w.heap.size, 1, none⟩ = some (.bool b) ∧ wx.cell? ⟨w.heap.size + 1, 0, none⟩ = some (.int .i64 0) ∧ wx.cell? ⟨w.heap.size + 1, 1, none⟩ = some (.int .i64 0) ∧ wx.cell? ⟨w.heap.size + 1, 2, none⟩ = some (.string ⟨#[]⟩) ∧ wx.frozen? ⟨w.heap.size + 1, 0, none⟩ = false ∧ wx.frozen? ⟨w.heap.size + 1, 1, none⟩ = false ∧ wx.frozen? ⟨w.heap.size + 1, 2, none⟩ = false ∧ w.heap.size + 1 < wx.heap.size
theorem LK.keep {w wx wy : World} {c : Int} {b : Bool} (h : LK w wx c b) (hz : wx.heap.size ≤ wy.heap.size) (hk : ∀ k, k = w.heap.size ∨ k = w.heap.size + 1 → wy.heap[k]? = wx.heap[k]?) : LK w wy c b := by
  obtain ⟨h1, h2, h3, h4, h5, h6, h7, h8, h9⟩ := h
  have ka := hk w.heap.size (.inl rfl)
  have kb := hk (w.heap.size + 1) (.inr rfl)
  exact ⟨(World.cell?_of_block (w := wx) ka).trans h1, (World.cell?_of_block (w := wx) ka).trans h2, (World.cell?_of_block (w := wx) kb).trans h3, (World.cell?_of_block (w := wx) kb).trans h4, (World.cell?_of_block (w := wx) kb).trans h5, (World.frozen?_of_block (w := wx) kb).trans h6, (World.frozen?_of_block (w := wx) kb).trans h7, (World.frozen?_of_block (w := wx) kb).trans h8, by omega⟩
theorem LK.only {r : Nat} {w wx wy : World} {c : Int} {b : Bool} (h : LK w wx c b) (hr : r < w.heap.size) (ho : Only r wx wy) : LK w wy c b :=
  h.keep ho.size fun k hk => ho.block k (by have := h.2.2.2.2.2.2.2.2; omega) (by omega)
theorem LK.alloc {w wx : World} {c : Int} {b : Bool} (h : LK w wx c b) (o : Obj) : LK w (wx.alloc o) c b :=
  h.keep (by simp) fun k hk => Below.heap_alloc _ _ _ (by have := h.2.2.2.2.2.2.2.2; omega)
theorem LK.new (w : World) (c : Int) (b : Bool) (t t2 : TypeId) : LK w ((w.alloc (.cells #[.int .i64 c, .bool b] t)).alloc (.cells #[.int .i64 0, .int .i64 0, .string ⟨#[]⟩] t2)) c b := by
  simp [LK, go_sem]
theorem drawn_mk {B r : Nat} {p q k n : Int} {s : ByteArray} {w w' : World} (ho : Only r w w') (hr : RdOk B r w' q) (hq : q ≤ p + 20) (h1 : -10 ≤ k ∧ k ≤ 10) (h2 : -20000 ≤ n ∧ n ≤ 20000) (h3 : s.size ≤ 20) : Drawn B r p w (.returned (.agg #[.int .i64 k, .int .i64 n, .string s])) w' :=
  ⟨k, n, s, q, rfl, h1.1, h1.2, h2.1, h2.2, h3, hq, ho, hr⟩
theorem drawn_end {B r : Nat} {p q k n : Int} {s : ByteArray} {a b c : Value} {w W : World} (ho : Only r w W) (hr : RdOk B r W q) (hl : r < w.heap.size) (hq : q ≤ p + 20) (h1 : -10 ≤ k ∧ k ≤ 10) (h2 : -20000 ≤ n ∧ n ≤ 20000) (h3 : s.size ≤ 20) :
    Drawn B r p w (.returned (.agg #[.int .i64 k, .int .i64 n, .string s])) (((W.setCell ⟨w.heap.size + 1, 0, none⟩ a).setCell ⟨w.heap.size + 1, 1, none⟩ b).setCell ⟨w.heap.size + 1, 2, none⟩ c) :=
  drawn_mk (q := q) (((ho.setNew (Nat.le_succ _) _).setNew (Nat.le_succ _) _).setNew (Nat.le_succ _) _) (((hr.setFar (Nat.lt_succ_of_lt hl) _).setFar (Nat.lt_succ_of_lt hl) _).setFar (Nat.lt_succ_of_lt hl) _) hq h1 h2 h3
set_option maxHeartbeats 4000000 in
theorem l20Like (B r : Nat) (c : Int) (b : Bool) (p : Int) (w : World) (h : RdOk B r w p) (hp : p ≤ 900000000) : Calls Try.prog 144 #[.pointer (some ⟨r, 0, none⟩), .agg #[.int .i64 c, .bool b]] w (Drawn B r p w) := by
  have hlt := h.lt
  have hge := h.ge
  have hp0 := h.p0
  have n0 : ¬ (w.heap.size = r) := by omega
  have n1 : ¬ (w.heap.size + 1 = r) := by omega
  have n2 : ¬ (w.heap.size + 1 + 1 = r) := by omega
  have HR := Lib.hid h
  have HO := Lib.hid (Only.refl r w)
  clear h
  cases b
  · go_enter Try.func144, Try.ntmps144
    have HL := Lib.hid (LK.new w c false 89 73)
    go_wp2_with ((go_at_call 93; (with_reducible refine (pick B r _ _ _ (by repeat (with_reducible first | exact HR.out | apply RdOk.alloc | apply RdOk.drew | (refine RdOk.setFar ?_ (by first | omega | (simp; done) | (simp; omega)) _))) (by omega)).mono ?_); rintro e w1 ⟨m, rfl, hm0, hm1, hm2, ho, hr⟩; have HOn := Lib.hid (Only.trans (by repeat (with_reducible first | exact HO.out | apply Only.alloc | apply Only.drew | (refine Only.setNew ?_ (by first | omega | (simp; done) | (simp; omega)) _))) ho); clear HO HR; have HO := HOn; have HR := Lib.hid hr; clear HOn hr; have hm1 := hm1 (by omega); clear hm2; (try (have hN := fourT_cells ho (by first | omega | (simp; done) | (simp; omega)) hm0 hm1; (try simp only [World.size_alloc] at hN))); have HLn := Lib.hid (LK.only (w := w) (c := c)  (by (repeat (with_reducible first | exact HL.out | apply LK.alloc))) hlt ho); clear HL; have HL := HLn; clear HLn; obtain ⟨e0, e1, e2, e3, e4, e5, e6, e7, e8⟩ := HL.out; clear ho))
    all_goals first
      | (refine bodyPost_ret (v := .agg #[.int .i64 0, .int .i64 0, .string (⟨#[]⟩)]) ?_ rfl ?_
         · (simp [results, Try.results144, go_sem, *]; done)
         · exact drawn_end HO.out HR.out hlt (by omega) (by omega) (by omega) (by first | exact fourT_size _ | decide)
        )
      | (refine bodyPost_ret (v := .agg #[.int .i64 1, .int .i64 m, .string (⟨#[]⟩)]) ?_ rfl ?_
         · (simp [results, Try.results144, go_sem, *]; done)
         · exact drawn_end HO.out HR.out hlt (by omega) (by omega) (by omega) (by first | exact fourT_size _ | decide)
        )
      | (refine bodyPost_ret (v := .agg #[.int .i64 2, .int .i64 0, .string (fourT m)]) ?_ rfl ?_
         · (simp [results, Try.results144, go_sem, *]; done)
         · exact drawn_end HO.out HR.out hlt (by omega) (by omega) (by omega) (by first | exact fourT_size _ | decide)
        )
      | (refine bodyPost_ret (v := .agg #[.int .i64 3, .int .i64 m, .string (⟨#[]⟩)]) ?_ rfl ?_
         · (simp [results, Try.results144, go_sem, *]; done)
         · exact drawn_end HO.out HR.out hlt (by omega) (by omega) (by omega) (by first | exact fourT_size _ | decide)
        )
  · go_enter Try.func144, Try.ntmps144
    have HL := Lib.hid (LK.new w c true 89 73)
    go_wp2_with ((go_at_call 93; (with_reducible refine (pick B r _ _ _ (by repeat (with_reducible first | exact HR.out | apply RdOk.alloc | apply RdOk.drew | (refine RdOk.setFar ?_ (by first | omega | (simp; done) | (simp; omega)) _))) (by omega)).mono ?_); rintro e w1 ⟨m, rfl, hm0, hm1, hm2, ho, hr⟩; have HOn := Lib.hid (Only.trans (by repeat (with_reducible first | exact HO.out | apply Only.alloc | apply Only.drew | (refine Only.setNew ?_ (by first | omega | (simp; done) | (simp; omega)) _))) ho); clear HO HR; have HO := HOn; have HR := Lib.hid hr; clear HOn hr; have hm1 := hm1 (by omega); clear hm2; (try (have hN := fourT_cells ho (by first | omega | (simp; done) | (simp; omega)) hm0 hm1; (try simp only [World.size_alloc] at hN))); have HLn := Lib.hid (LK.only (w := w) (c := c)  (by (repeat (with_reducible first | exact HL.out | apply LK.alloc))) hlt ho); clear HL; have HL := HLn; clear HLn; obtain ⟨e0, e1, e2, e3, e4, e5, e6, e7, e8⟩ := HL.out; clear ho))
    all_goals first
      | (refine bodyPost_ret (v := .agg #[.int .i64 0, .int .i64 0, .string (⟨#[]⟩)]) ?_ rfl ?_
         · (simp [results, Try.results144, go_sem, *]; done)
         · exact drawn_end HO.out HR.out hlt (by omega) (by omega) (by omega) (by first | exact fourT_size _ | decide)
        )
      | (refine bodyPost_ret (v := .agg #[.int .i64 1, .int .i64 m, .string (⟨#[]⟩)]) ?_ rfl ?_
         · (simp [results, Try.results144, go_sem, *]; done)
         · exact drawn_end HO.out HR.out hlt (by omega) (by omega) (by omega) (by first | exact fourT_size _ | decide)
        )
      | (refine bodyPost_ret (v := .agg #[.int .i64 2, .int .i64 0, .string (fourT m)]) ?_ rfl ?_
         · (simp [results, Try.results144, go_sem, *]; done)
         · exact drawn_end HO.out HR.out hlt (by omega) (by omega) (by omega) (by first | exact fourT_size _ | decide)
        )
      | (refine bodyPost_ret (v := .agg #[.int .i64 3, .int .i64 m, .string (⟨#[]⟩)]) ?_ rfl ?_
         · (simp [results, Try.results144, go_sem, *]; done)
         · exact drawn_end HO.out HR.out hlt (by omega) (by omega) (by omega) (by first | exact fourT_size _ | decide)
        )
end Go.Proofs.Ytjidkjnlnenmbaa.Val
