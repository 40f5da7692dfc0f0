/- Rows that are written: what a store leaves; places that are all taken once. -/
import Derived.Test.YtcddkleglmbfgaaDrawM
namespace Go.Proofs.Ytcddkleglmbfgaa.Val
open Go.RowKit
set_option linter.unusedVariables false
/-- The cells xs lie in block g; all of them can be written. -/
def Mut (w : World) (g : Nat) (xs : List Value) : Prop := ∀ j (h : j < xs.length), w.cell? ⟨g, j, none⟩ = some xs[j] ∧ w.frozen? ⟨g, j, none⟩ = false
theorem Mut.of_own {w : World} {B g n cap size : Nat} {e : TypeId} {xs : List Value} (h : w.ownsRow B e size (.slice (some ⟨g, 0, none⟩) n cap) n xs) : Mut w g xs := fun j hj => ⟨by rw [h.cellAt j (by rw [← h.1]; exact hj), List.getElem?_eq_getElem hj], h.frozenAt j⟩
theorem Mut.set {w : World} {g : Nat} {xs : List Value} (h : Mut w g xs) (i : Nat) (u : Value) : Mut (w.setCell ⟨g, i, none⟩ u) g (xs.set i u) := by
  intro j hj
  have hj2 : j < xs.length := by simpa using hj
  refine ⟨?_, by rw [World.frozen?_setCell]; exact (h j hj2).2⟩
  by_cases e : j = i
  · subst e
    rw [World.cell?_setCell_same _ _ _ (h j hj2).1]
    simp
  · rw [World.cell?_setCell_other _ _ _ _ (offNe (.inl (by omega))), (h j hj2).1, List.getElem_set_ne (by omega)]
theorem Mut.far {w : World} {g g' i : Nat} {u : Value} {xs : List Value} (h : Mut w g xs) (hne : g ≠ g') : Mut (w.setCell ⟨g', i, none⟩ u) g xs := fun j hj => ⟨by rw [World.cell?_setCell_other _ _ _ _ (offNe (.inr (by omega)))]; exact (h j hj).1, by rw [World.frozen?_setCell]; exact (h j hj).2⟩
theorem Mut.below {w w' : World} {g : Nat} {xs : List Value} (h : Mut w g xs) (hb : Below w.heap.size w w') : Mut w' g xs := by
  intro j hj
  have hg := World.block_lt_of_cell? w _ (h j hj).1
  exact ⟨(hb.cell (p := ⟨g, j, none⟩) hg).trans (h j hj).1, (hb.frozen (p := ⟨g, j, none⟩) hg).trans (h j hj).2⟩
theorem Mut.drew {w : World} {g : Nat} {xs : List Value} (h : Mut w g xs) : Mut w.drew g xs := fun j hj => h j hj
theorem Mut.fl {w : World} {g : Nat} {xs : List Value} (h : Mut w g xs) : Fl w g 0 (some ⟨g, 0, none⟩) xs := ⟨fun _ => rfl, fun j hj => by rw [Nat.zero_add]; exact (h j hj).1⟩
theorem flatC_set (cs : List CT) (i : Nat) (v : CT) : ((flatC cs).set (i * 2) (.int .i64 v.1)).set (i * 2 + 1) (.bool v.2) = flatC (cs.set i v) := by
  induction cs generalizing i with
  | nil => simp [flatC]
  | cons x cs ih =>
    cases i with
    | zero => rfl
    | succ i =>
      have := ih i
      rw [List.set_cons_succ, show flatC (x :: cs.set i v) = .int .i64 x.1 :: .bool x.2 :: flatC (cs.set i v) from rfl, ← this, show flatC (x :: cs) = .int .i64 x.1 :: .bool x.2 :: flatC cs from rfl, show (i + 1) * 2 = i * 2 + 2 by omega]
      rfl
theorem Mut.setC {w : World} {g : Nat} {cs : List CT} (h : Mut w g (flatC cs)) (i : Nat) (v : CT) : Mut ((w.setCell ⟨g, i * 2, none⟩ (.int .i64 v.1)).setCell ⟨g, i * 2 + 1, none⟩ (.bool v.2)) g (flatC (cs.set i v)) := by
  rw [← flatC_set]
  exact (h.set _ _).set _ _
theorem Mut.setV {w : World} {g : Nat} {vs : List VT} (h : Mut w g (flatV vs)) (i : Nat) (v : VT) : Mut (((w.setCell ⟨g, i * 3, none⟩ (.int .i64 v.1)).setCell ⟨g, i * 3 + 1, none⟩ (.int .i64 v.2.1)).setCell ⟨g, i * 3 + 2, none⟩ (.string v.2.2)) g (flatV (vs.set i v)) := by
  rw [← flatV_set]
  exact ((h.set _ _).set _ _).set _ _
theorem Mut.cellC {w : World} {g : Nat} {cs : List CT} (h : Mut w g (flatC cs)) (i : Nat) (hi : i < cs.length) : (∃ v, w.cell? ⟨g, i * 2, none⟩ = some v) ∧ (∃ v, w.cell? ⟨g, i * 2 + 1, none⟩ = some v) ∧ w.frozen? ⟨g, i * 2, none⟩ = false ∧ w.frozen? ⟨g, i * 2 + 1, none⟩ = false :=
  have a := h (i * 2) (by rw [flatC_len]; omega)
  have b := h (i * 2 + 1) (by rw [flatC_len]; omega)
  ⟨⟨_, a.1⟩, ⟨_, b.1⟩, a.2, b.2⟩
theorem Mut.cellV {w : World} {g : Nat} {vs : List VT} (h : Mut w g (flatV vs)) (i : Nat) (hi : i < vs.length) : (∃ v, w.cell? ⟨g, i * 3, none⟩ = some v) ∧ (∃ v, w.cell? ⟨g, i * 3 + 1, none⟩ = some v) ∧ (∃ v, w.cell? ⟨g, i * 3 + 2, none⟩ = some v) ∧ w.frozen? ⟨g, i * 3, none⟩ = false ∧ w.frozen? ⟨g, i * 3 + 1, none⟩ = false ∧ w.frozen? ⟨g, i * 3 + 2, none⟩ = false :=
  have a := h (i * 3) (by rw [flatV_len]; omega)
  have b := h (i * 3 + 1) (by rw [flatV_len]; omega)
  have c := h (i * 3 + 2) (by rw [flatV_len]; omega)
  ⟨⟨_, a.1⟩, ⟨_, b.1⟩, ⟨_, c.1⟩, a.2, b.2, c.2⟩
def noV : VT := (0, 0, ⟨#[]⟩)
def noC : CT := (0, false)
theorem made_noV (n : Nat) : (madeCells (Value.agg #[.int .i64 0, .int .i64 0, .string ⟨#[]⟩]).cells (n * 3)).toList = flatV (List.replicate n noV) := by
  apply List.ext_getElem?
  intro j
  by_cases hj : j < n * 3
  · have hi : j / 3 < (List.replicate n noV).length := by simp; omega
    have hg := flatV_get (List.replicate n noV) (j / 3) hi
    simp only [List.getElem_replicate] at hg
    rcases (by omega : j = j / 3 * 3 ∨ j = j / 3 * 3 + 1 ∨ j = j / 3 * 3 + 2) with e | e | e
    · rw [← e] at hg
      rw [hg.1]
      have hm : j % 3 = 0 := by omega
      simp [madeCells, hj, Value.cells, hm, noV]
    · rw [← e] at hg
      rw [hg.2.1]
      have hm : j % 3 = 1 := by omega
      simp [madeCells, hj, Value.cells, hm, noV]
    · rw [← e] at hg
      rw [hg.2.2]
      have hm : j % 3 = 2 := by omega
      simp [madeCells, hj, Value.cells, hm, noV]
  · rw [List.getElem?_eq_none (by simp [madeCells]; omega), List.getElem?_eq_none (by rw [flatV_len]; simp; omega)]
theorem made_noC (n : Nat) : (madeCells (Value.agg #[.int .i64 0, .bool false]).cells (n * 2)).toList = flatC (List.replicate n noC) := by
  apply List.ext_getElem?
  intro j
  by_cases hj : j < n * 2
  · have hi : j / 2 < (List.replicate n noC).length := by simp; omega
    have hg := flatC_get (List.replicate n noC) (j / 2) hi
    simp only [List.getElem_replicate] at hg
    rcases (by omega : j = j / 2 * 2 ∨ j = j / 2 * 2 + 1) with e | e
    · rw [← e] at hg
      rw [hg.1]
      have hm : j % 2 = 0 := by omega
      simp [madeCells, hj, Value.cells, hm, noC]
    · rw [← e] at hg
      rw [hg.2]
      have hm : j % 2 = 1 := by omega
      simp [madeCells, hj, Value.cells, hm, noC]
  · rw [List.getElem?_eq_none (by simp [madeCells]; omega), List.getElem?_eq_none (by rw [flatC_len]; simp; omega)]
/-- The first k have come to their places. -/
def Put {α : Type} (π : List Nat) (xs ys : List α) (k : Nat) : Prop := ys.length = xs.length ∧ ∀ j, j < k → ys[π.getD j 0]? = xs[j]?
theorem Put.step {α : Type} {π : List Nat} {xs ys : List α} {k : Nat} (hp : π.Perm (List.range xs.length)) (h : Put π xs ys k) (hk : k < xs.length) : Put π xs (ys.set (π.getD k 0) xs[k]) (k + 1) := by
  have hl : π.length = xs.length := by have := hp.length_eq; simpa using this
  have hg : ∀ j (hj : j < xs.length), π.getD j 0 = π[j]'(by omega) := fun j hj => by rw [List.getD_eq_getElem?_getD, List.getElem?_eq_getElem (by omega)]; rfl
  have hlt : ∀ j (hj : j < xs.length), π.getD j 0 < xs.length := fun j hj => by rw [hg j hj]; exact List.mem_range.1 (hp.mem_iff.1 (List.getElem_mem _))
  have hn : π.Nodup := hp.nodup_iff.2 List.nodup_range
  refine ⟨by rw [List.length_set]; exact h.1, fun j hj => ?_⟩
  by_cases e : j = k
  · subst e
    rw [List.getElem?_set_self (by rw [h.1]; exact hlt j hk), List.getElem?_eq_getElem hk]
  · have hne : π.getD k 0 ≠ π.getD j 0 := by
      rw [hg k hk, hg j (by omega)]
      exact fun e2 => (List.pairwise_iff_getElem.1 hn j k (by omega) (by omega) (by omega)) e2.symm
    rw [List.getElem?_set_ne hne]
    exact h.2 j (by omega)
theorem Put.moved {α : Type} {π : List Nat} {xs ys : List α} (hp : π.Perm (List.range xs.length)) (h : Put π xs ys xs.length) : Moved π xs ys :=
  ⟨hp, h.1, fun k hk h2 => by
    have := h.2 k hk
    rw [List.getElem?_eq_getElem h2, List.getElem?_eq_getElem hk] at this
    exact Option.some.inj this⟩
theorem perm_get {π : List Nat} {n : Nat} (hp : π.Perm (List.range n)) (k : Nat) (hk : k < n) : π.getD k 0 < n ∧ (π.map Int.ofNat)[k]? = some ((π.getD k 0 : Nat) : Int) := by
  have hl : π.length = n := by have := hp.length_eq; simpa using this
  have hg : π.getD k 0 = π[k]'(by omega) := by rw [List.getD_eq_getElem?_getD, List.getElem?_eq_getElem (by omega)]; rfl
  refine ⟨by rw [hg]; exact List.mem_range.1 (hp.mem_iff.1 (List.getElem_mem _)), ?_⟩
  rw [List.getElem?_map, List.getElem?_eq_getElem (by omega), hg]
  rfl
theorem fit_len {cs : List CT} {vs : List VT} (h : fitB cs vs = true) : vs.length = cs.length := by
  simp only [fitB, Bool.and_eq_true, decide_eq_true_eq] at h
  exact h.1.2
end Go.Proofs.Ytcddkleglmbfgaa.Val
