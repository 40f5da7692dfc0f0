/- Plans that a law builds: bare steps in a new block; what drawn beginnings give a law; copies of plans and tables that a law makes: the cells of steps and of tables, wherever they lie. -/
import Derived.Test.YtacinjbaebimhaaGreatCellXQ
import Derived.Test.YtacinjbaebimhaaGreatPImpQ
import Derived.Test.YtacinjbaebimhaaGreatPMathQ
import Derived.Test.YtacinjbaebimhaaGreatDrawTbQ
namespace Go.Proofs.YtacinjbaebimhaaGreat.Val
open Go.RowKit
set_option linter.unusedSimpArgs false
set_option linter.unusedVariables false
theorem OneT.fit {t : TB} (h : OneT t) : TabFit t := ⟨by have := h.1; omega, by have := h.1; omega, h.2.1, h.2.2.1, h.2.2.2⟩
end Go.Proofs.YtacinjbaebimhaaGreat.Val
namespace Go.Proofs.YtacinjbaebimhaaGreat.Val
open Go.RowKit
set_option linter.unusedSimpArgs false
set_option linter.unusedVariables false
/-- Two cells that make a table. -/
def CellsT (W : World) (t : TB) (vs : List Value) : Prop := ∃ (A1 : Option Addr) (c1 g1 o1 : Nat) (A2 : Option Addr) (c2 g2 o2 : Nat),
  vs = [.slice A1 t.1.length c1, .slice A2 t.2.length c2] ∧ Fl W g1 o1 A1 (flatC t.1) ∧ Rws W g2 o2 A2 t.2 ∧ t.1.length ≤ c1 ∧ t.2.length ≤ c2 ∧ Nice A1 c1 g1 o1 ∧ Nice A2 c2 g2 o2
theorem CellsT.below {W W' : World} {t : TB} {vs : List Value} (h : CellsT W t vs) (hb : Below W.heap.size W W') : CellsT W' t vs := by
  obtain ⟨A1, c1, g1, o1, A2, c2, g2, o2, e, f1, f2, h⟩ := h
  exact ⟨A1, c1, g1, o1, A2, c2, g2, o2, e, f1.below hb, f2.below hb, h⟩
theorem CellsT.len {W : World} {t : TB} {vs : List Value} (h : CellsT W t vs) : vs.length = 2 := by
  obtain ⟨A1, c1, g1, o1, A2, c2, g2, o2, rfl, -⟩ := h
  rfl
theorem CellsT.one {W : World} {t : TB} {vs : List Value} (h : CellsT W t vs) : ∀ u ∈ vs, u.oneCell' = true := by
  obtain ⟨A1, c1, g1, o1, A2, c2, g2, o2, rfl, -⟩ := h
  intro u hu
  simp only [List.mem_cons, List.not_mem_nil, or_false] at hu
  rcases hu with rfl | rfl <;> rfl
theorem CellsT.at {W : World} {t : TB} {vs : List Value} {g p : Nat} (h : CellsT W t vs) (hs : ∀ i u, vs[i]? = some u → W.cell? ⟨g, p + i, none⟩ = some u) : TabAt W g p t := by
  obtain ⟨A1, c1, g1, o1, A2, c2, g2, o2, rfl, f1, f2, h⟩ := h
  exact ⟨A1, c1, g1, o1, A2, c2, g2, o2, hs 0 _ rfl, hs 1 _ rfl, f1, f2, h⟩
theorem TabAt.cellsT {W : World} {t : TB} {g p : Nat} (h : TabAt W g p t) : ∃ vs, CellsT W t vs ∧ ∀ i u, vs[i]? = some u → W.cell? ⟨g, p + i, none⟩ = some u := by
  obtain ⟨A1, c1, g1, o1, A2, c2, g2, o2, k0, k1, f1, f2, h⟩ := h
  refine ⟨_, ⟨A1, c1, g1, o1, A2, c2, g2, o2, rfl, f1, f2, h⟩, fun i u hi => ?_⟩
  have : i < 2 := (List.getElem?_eq_some_iff.1 hi).1
  obtain rfl | rfl : i = 0 ∨ i = 1 := by omega
  all_goals (cases hi; assumption)
theorem Tbs.cells {W : World} {g o : Nat} {A : Option Addr} {ts : List TB} (h : Tbs W g o A ts) : ∃ L : List (TB × List Value), L.map (fun p => p.1) = ts ∧ (∀ p ∈ L, CellsT W p.1 p.2) ∧ ∀ j u, (L.flatMap fun p => p.2)[j]? = some u → W.cell? ⟨g, o + j, none⟩ = some u := by
  suffices H : ∀ (ts : List TB) (o : Nat), (∀ j (hj : j < ts.length), TabAt W g (o + j * 2) ts[j]) → ∃ L : List (TB × List Value), L.map (fun p => p.1) = ts ∧ (∀ p ∈ L, CellsT W p.1 p.2) ∧ ∀ j u, (L.flatMap fun p => p.2)[j]? = some u → W.cell? ⟨g, o + j, none⟩ = some u from H ts o h.hd
  intro ts
  induction ts with
  | nil => intro o _; exact ⟨[], rfl, fun p hp => absurd hp (by simp), fun j u hj => absurd hj (by simp)⟩
  | cons t ts ih =>
    intro o hs
    obtain ⟨L, h1, h2, h3⟩ := ih (o + 2) fun j hj => by
      have := hs (j + 1) (by simpa using hj)
      rw [show o + (j + 1) * 2 = o + 2 + j * 2 by omega] at this
      exact this
    have h0 := hs 0 (by simp)
    rw [Nat.zero_mul, Nat.add_zero] at h0
    obtain ⟨vs, hv, hc⟩ := h0.cellsT
    have hl := hv.len
    refine ⟨(t, vs) :: L, by simp [h1], fun p hp => ?_, fun j u hj => ?_⟩
    · rcases List.mem_cons.1 hp with rfl | hp
      · exact hv
      · exact h2 p hp
    · rw [List.flatMap_cons] at hj
      by_cases h6 : j < vs.length
      · rw [List.getElem?_append_left h6] at hj
        exact hc j u hj
      · rw [List.getElem?_append_right (by simp only; omega)] at hj
        have := h3 _ u hj
        simp only at this
        rw [show o + 2 + (j - vs.length) = o + j by omega] at this
        exact this
end Go.Proofs.YtacinjbaebimhaaGreat.Val
