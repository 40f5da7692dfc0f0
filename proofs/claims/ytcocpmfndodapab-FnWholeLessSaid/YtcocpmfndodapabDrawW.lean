/- What drawing an expression that may be none leaves (l20Wild), and columns, a row and an expression (l20Asked). -/
import Derived.Test.YtcocpmfndodapabDrawX
namespace Go.Proofs.Ytcocpmfndodapab.Val
open Go.RowKit
set_option linter.unusedVariables false
set_option linter.unusedSimpArgs false
set_option maxRecDepth 4000
def kind4 (m : Int) : Int := if m = 2 then 1 else if m = 3 then 2 else 3
theorem kind4_in (m : Int) : kind4 m = 1 ∨ kind4 m = 2 ∨ kind4 m = 3 := by
  unfold kind4
  split
  · exact .inl rfl
  · split
    · exact .inr (.inl rfl)
    · exact .inr (.inr rfl)
theorem kind4_at (W : World) (t : TypeId) (m : Int) (h0 : 0 ≤ m) (h6 : m < 4) : (W.alloc (.cells #[.int .i64 3, .int .i64 3, .int .i64 1, .int .i64 2] t)).cell? ⟨W.heap.size, m.toNat, none⟩ = some (.int .i64 (kind4 m)) := by
  rw [World.cell?_alloc_mark]
  have hm : m = 0 ∨ m = 1 ∨ m = 2 ∨ m = 3 := by omega
  rcases hm with rfl | rfl | rfl | rfl <;> rfl
theorem kind4_cells {r : Nat} {W0 w1 : World} {m : Int} {t : TypeId} (ho : Only r (W0.alloc (.cells #[.int .i64 3, .int .i64 3, .int .i64 1, .int .i64 2] t)) w1) (hr : r < W0.heap.size) (h0 : 0 ≤ m) (h4 : m < 4) : w1.cell? ⟨W0.heap.size, m.toNat, none⟩ = some (.int .i64 (kind4 m)) := by
  rw [ho.cell W0.heap.size m.toNat (by simp) (by omega)]
  exact kind4_at W0 t m h0 h4
theorem flatP_takeE (ps : List PT) (k : Nat) : (flatP ps).take (k * 5) = flatP (ps.take k) := by
  induction ps generalizing k with
  | nil => simp [flatP]
  | cons p ps ih =>
    cases k with
    | zero => simp [flatP]
    | succ k =>
      rw [flatP_cons, List.take_succ_cons, flatP_cons, ← ih k, show (k + 1) * 5 = k * 5 + 1 + 1 + 1 + 1 + 1 by omega]
      rfl
theorem flatP_set (ps : List PT) (i : Nat) (p : PT) : (((((flatP ps).set (i * 5) (.int .i64 p.1)).set (i * 5 + 1) (.int .i64 p.2.1)).set (i * 5 + 2) (.int .i64 p.2.2.1)).set (i * 5 + 3) (.int .i64 p.2.2.2.1)).set (i * 5 + 4) (.string p.2.2.2.2) = flatP (ps.set i p) := by
  induction ps generalizing i with
  | nil => simp [flatP]
  | cons x ps ih =>
    cases i with
    | zero => rfl
    | succ i =>
      rw [List.set_cons_succ, flatP_cons, flatP_cons, ← ih i, show (i + 1) * 5 = i * 5 + 1 + 1 + 1 + 1 + 1 by omega]
      rfl
theorem own_setP {w : World} {B g n cap i : Nat} {e : TypeId} {ps : List PT} (h : w.ownsRow B e 5 (.slice (some ⟨g, 0, none⟩) n cap) n (flatP ps)) (p : PT) : (((((w.setCell ⟨g, i * 5, none⟩ (.int .i64 p.1)).setCell ⟨g, i * 5 + 1, none⟩ (.int .i64 p.2.1)).setCell ⟨g, i * 5 + 2, none⟩ (.int .i64 p.2.2.1)).setCell ⟨g, i * 5 + 3, none⟩ (.int .i64 p.2.2.2.1)).setCell ⟨g, i * 5 + 4, none⟩ (.string p.2.2.2.2)).ownsRow B e 5 (.slice (some ⟨g, 0, none⟩) n cap) n (flatP (ps.set i p)) := by
  rw [← flatP_set]
  exact (((((h.stored _ _).1.stored _ _).1.stored _ _).1.stored _ _).1.stored _ _).1
theorem own_cellsP {w : World} {B g n cap : Nat} {e : TypeId} {xs : List Value} (h : w.ownsRow B e 5 (.slice (some ⟨g, 0, none⟩) n cap) n xs) (i : Nat) (hi : i < n) : ((∃ v, w.cell? ⟨g, i * 5, none⟩ = some v) ∧ (∃ v, w.cell? ⟨g, i * 5 + 1, none⟩ = some v) ∧ (∃ v, w.cell? ⟨g, i * 5 + 2, none⟩ = some v) ∧ (∃ v, w.cell? ⟨g, i * 5 + 3, none⟩ = some v) ∧ (∃ v, w.cell? ⟨g, i * 5 + 4, none⟩ = some v)) ∧ w.frozen? ⟨g, i * 5, none⟩ = false ∧ w.frozen? ⟨g, i * 5 + 1, none⟩ = false ∧ w.frozen? ⟨g, i * 5 + 2, none⟩ = false ∧ w.frozen? ⟨g, i * 5 + 3, none⟩ = false ∧ w.frozen? ⟨g, i * 5 + 4, none⟩ = false := by
  have c := fun (j : Nat) (hj : j < n * 5) => (by
    rw [h.cellAt j hj, List.getElem?_eq_getElem (show j < xs.length by rw [h.1]; exact hj)]
    exact ⟨_, rfl⟩ : ∃ v, w.cell? ⟨g, j, none⟩ = some v)
  exact ⟨⟨c _ (by omega), c _ (by omega), c _ (by omega), c _ (by omega), c _ (by omega)⟩, h.frozenAt _, h.frozenAt _, h.frozenAt _, h.frozenAt _, h.frozenAt _⟩
theorem TextsP.take {a : List PT} (h : TextsP a) (i : Nat) : TextsP (a.take i) := fun v hv => h v (List.mem_of_mem_take hv)
theorem TextsP.set {a : List PT} (h : TextsP a) (i : Nat) (v : PT) (hv : v.2.2.2.2.size ≤ 20) : TextsP (a.set i v) := fun u hu => by
  rcases List.mem_or_eq_of_mem_set hu with hu | rfl
  · exact h u hu
  · exact hv
/-- An expression, or none, was drawn: a row of its own. -/
def WildP (B r : Nat) (p : Int) (w : World) (e : Ending) (w' : World) : Prop := ∃ (ps : List PT) (g c : Nat) (q : Int), e = .returned (.slice (some ⟨g, 0, none⟩) ps.length c) ∧ ps.length ≤ 65 ∧ TextsP ps ∧ w'.ownsRow w.heap.size 44 5 (.slice (some ⟨g, 0, none⟩) ps.length c) ps.length (flatP ps) ∧ q ≤ p + 26000 ∧ Only r w w' ∧ RdOk B r w' q
/-- Columns, a row and an expression were drawn. -/
def AskedP (B r : Nat) (p : Int) (w : World) (e : Ending) (w' : World) : Prop := ∃ (cs : List CT) (g c : Nat) (vs : List VT) (g2 c2 : Nat) (ps : List PT) (g3 c3 : Nat) (q : Int), e = .returned (.tuple #[.slice (some ⟨g, 0, none⟩) cs.length c, .slice (some ⟨g2, 0, none⟩) vs.length c2, .slice (some ⟨g3, 0, none⟩) ps.length c3]) ∧ (0 < cs.length ∧ cs.length ≤ 6) ∧ (0 < vs.length ∧ vs.length ≤ 20) ∧ ps.length ≤ 65 ∧ Texts vs ∧ TextsP ps ∧ (w.heap.size ≤ g ∧ w.heap.size ≤ g2) ∧ Fl w' g 0 (some ⟨g, 0, none⟩) (flatC cs) ∧ Fl w' g2 0 (some ⟨g2, 0, none⟩) (flatV vs) ∧ w'.ownsRow w.heap.size 44 5 (.slice (some ⟨g3, 0, none⟩) ps.length c3) ps.length (flatP ps) ∧ q ≤ p + 30000 ∧ Only r w w' ∧ RdOk B r w' q
end Go.Proofs.Ytcocpmfndodapab.Val
