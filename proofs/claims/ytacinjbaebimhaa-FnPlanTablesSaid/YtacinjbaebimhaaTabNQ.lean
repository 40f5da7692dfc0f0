/- Tables that a law builds one behind the other; a table in a box. -/
import Derived.Test.YtacinjbaebimhaaStpNQ
namespace Go.Proofs.Ytacinjbaebimhaa.Val
open Go.RowKit
set_option linter.unusedSimpArgs false
set_option linter.unusedVariables false
set_option maxRecDepth 20000
/-- A box that holds a table. -/
def BoxT (w : World) (B b : Nat) (vs : List Value) : Prop := w.ownsRow B 45 2 (.slice (some ⟨b, 0, none⟩) 1 1) 1 vs
theorem BoxT.new {w : World} {B b : Nat} (hb : w.heap.size = b) (hB : B ≤ b) (v0 v1 : Value) : BoxT (w.alloc (.cells #[v0, v1] 45)) B b [v0, v1] := by
  subst hb
  exact ⟨rfl, .inr ⟨w.heap.size, 1, _, rfl, hB, heap_alloc_new w _, Nat.le_refl _, by decide, rfl, rfl⟩⟩
theorem BoxT.lo {w : World} {B b : Nat} {vs : List Value} (h : BoxT w B b vs) : B ≤ b ∧ b < w.heap.size := World.ownsRow.lt h b rfl
theorem BoxT.below {w w' : World} {B b : Nat} {vs : List Value} (h : BoxT w B b vs) (hb : Below w.heap.size w w') : BoxT w' B b vs := own_keep h (hb.block _ h.lo.2)
theorem BoxT.facts {w : World} {B b : Nat} {v0 v1 : Value} (h : BoxT w B b [v0, v1]) : (w.cell? ⟨b, 0, none⟩ = some v0 ∧ w.cell? ⟨b, 1, none⟩ = some v1) ∧ w.frozen? ⟨b, 0, none⟩ = false ∧ w.frozen? ⟨b, 1, none⟩ = false := by
  have c := fun (j : Nat) (hj : j < 1 * 2) => World.ownsRow.cellAt h j hj
  have f := fun (j : Nat) => World.ownsRow.frozenAt h j
  exact ⟨⟨c 0 (by decide), c 1 (by decide)⟩, f 0, f 1⟩
/-- Tables of one's own, k of them, one behind the other. -/
structure TabsO (W : World) (B g c k : Nat) (ts : List TB) (D : List (TB × List Value)) : Prop where
  eq : D.map (fun p => p.1) = ts.take k
  le : k ≤ ts.length
  own : W.ownsRow B 45 2 (.slice (some ⟨g, 0, none⟩) k c) k (D.flatMap fun p => p.2)
theorem TabsO.nil {w : World} {B X : Nat} {ts : List TB} (hX : w.heap.size = X) (hB : B ≤ X) : TabsO (w.alloc (.cells #[] 45)) B X 0 0 ts [] :=
  ⟨rfl, Nat.zero_le _, own_empty3 45 2 hX hB⟩
theorem TabsO.tbs {W : World} {B g c k : Nat} {ts : List TB} {D : List (TB × List Value)} (h : TabsO W B g c k ts D) (hk : k = ts.length) (hc : ∀ p ∈ D, CellsT W p.1 p.2) : Tbs W g 0 (some ⟨g, 0, none⟩) ts :=
  tbs_own hc (by rw [h.eq, hk, List.take_length]) h.own
theorem TabsO.caps {W : World} {B g c k : Nat} {ts : List TB} {D : List (TB × List Value)} (h : TabsO W B g c k ts D) : k ≤ c ∧ c ≤ maxLen := own_caps h.own
theorem TabsO.lo {W : World} {B g c k : Nat} {ts : List TB} {D : List (TB × List Value)} (h : TabsO W B g c k ts D) : B ≤ g ∧ g < W.heap.size := h.own.lt g rfl
theorem TabsO.push {W W' : World} {B g c k g' c' : Nat} {ts : List TB} {D : List (TB × List Value)} {vs : List Value} {t : TB} (h : TabsO W B g c k ts D) (hk : k < ts.length) (ht : ts[k] = t) (ho : W'.ownsRow B 45 2 (.slice (some ⟨g', 0, none⟩) (k + 1) c') (k + 1) ((D.flatMap fun p => p.2) ++ vs)) : TabsO W' B g' c' (k + 1) ts (D ++ [(t, vs)]) :=
  ⟨by subst ht; rw [List.map_append, h.eq, List.take_add_one, List.getElem?_eq_getElem hk]; rfl, hk, by rw [List.flatMap_append]; simpa using ho⟩
/-- A table whose columns lie as in wd, whose rows are a bag of one's own, away from block g. -/
def SrtAt (wd W : World) (g : Nat) (t : TB) (vs : List Value) : Prop := ∃ (A1 : Option Addr) (c1 g1 o1 g5 c5 B5 : Nat) (T5 : List TT),
  vs = [.slice A1 t.1.length c1, .slice (some ⟨g5, 0, none⟩) t.2.length c5] ∧ Fl wd g1 o1 A1 (flatC t.1) ∧ t.1.length ≤ c1 ∧ Nice A1 c1 g1 o1 ∧ Bag W B5 g5 c5 T5 t.2 ∧ g5 ≠ g ∧ ∀ x ∈ T5, x.1 ≠ g
theorem SrtAt.cells {wd W : World} {g : Nat} {t : TB} {vs : List Value} (h : SrtAt wd W g t vs) (hb : Below wd.heap.size wd W) : CellsT W t vs := by
  obtain ⟨A1, c1, g1, o1, g5, c5, B5, T5, e, f, l1, n1, b, -⟩ := h
  exact ⟨A1, c1, g1, o1, _, c5, g5, 0, e, f.below hb, b.rws, l1, b.caps.1, n1, .inl rfl⟩
theorem SrtAt.below {wd W W' : World} {g : Nat} {t : TB} {vs : List Value} (h : SrtAt wd W g t vs) (hb : Below W.heap.size W W') : SrtAt wd W' g t vs := by
  obtain ⟨A1, c1, g1, o1, g5, c5, B5, T5, e, f, l1, n1, b, h⟩ := h
  exact ⟨A1, c1, g1, o1, g5, c5, B5, T5, e, f, l1, n1, b.below hb, h⟩
theorem SrtAt.grown {wd W W' : World} {g g' : Nat} {t : TB} {vs : List Value} (h : SrtAt wd W g t vs) (hg : W.grownBy W' (some g)) (hn : g' = g ∨ W.heap.size ≤ g') : SrtAt wd W' g' t vs := by
  obtain ⟨A1, c1, g1, o1, g5, c5, B5, T5, e, f, l1, n1, b, h1, h2⟩ := h
  have lo := b.lo
  have lr := fun x hx => (b.rows x hx).hi
  refine ⟨A1, c1, g1, o1, g5, c5, B5, T5, e, f, l1, n1, b.keep (Nat.le_trans (Nat.le_refl _) hg.size) (hg.block _ lo.2 fun e => h1 (Option.some.inj e)) (fun x hx => hg.block _ (lr x hx) fun e => h2 x hx (Option.some.inj e)), ?_, fun x hx => ?_⟩
  · rcases hn with rfl | hn
    · exact h1
    · omega
  · rcases hn with rfl | hn
    · exact h2 x hx
    · have := lr x hx; omega
end Go.Proofs.Ytacinjbaebimhaa.Val
