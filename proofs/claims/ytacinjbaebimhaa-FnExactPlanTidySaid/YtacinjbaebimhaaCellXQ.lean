/- The cells of steps, wherever they lie; steps whose cells are a row of one's own. -/
import Derived.Test.YtacinjbaebimhaaPImpQ
namespace Go.Proofs.Ytacinjbaebimhaa.Val
open Go.RowKit
set_option linter.unusedSimpArgs false
set_option linter.unusedVariables false
/-- Six cells that make a step, wherever they lie. -/
def CellsOk (W : World) (s : SP) (vs : List Value) : Prop := vs.length = 6 ∧ ∀ g k, (∀ i u, vs[i]? = some u → W.cell? ⟨g, k + i, none⟩ = some u) → StepAt W g k s
theorem steps_of {W : World} {g : Nat} : ∀ (L : List (SP × List Value)) (k : Nat), (∀ p ∈ L, CellsOk W p.1 p.2) → (∀ i u, (L.flatMap fun p => p.2)[i]? = some u → W.cell? ⟨g, k + i, none⟩ = some u) → ∀ j (hj : j < L.length), StepAt W g (k + j * 6) L[j].1 := by
  intro L
  induction L with
  | nil => intro k _ _ j hj; simp at hj
  | cons p L ih =>
    intro k hL h j hj
    obtain ⟨h6, hp⟩ := hL p (by simp)
    rw [List.flatMap_cons] at h
    cases j with
    | zero =>
      have := hp g k fun i u hi => h i u (by rw [List.getElem?_append_left (List.getElem?_eq_some_iff.1 hi).1]; exact hi)
      simpa using this
    | succ j =>
      have := ih (k + 6) (fun q hq => hL q (List.mem_cons_of_mem _ hq)) (fun i u hi => by
        have := h (6 + i) u (by rw [List.getElem?_append_right (by omega), h6]; simpa using hi)
        rw [← Nat.add_assoc] at this
        exact this) j (by simpa using hj)
      rw [show k + (j + 1) * 6 = k + 6 + j * 6 by omega]
      exact this
theorem sps_gen {W : World} {g : Nat} (L : List (SP × List Value)) (hL : ∀ p ∈ L, CellsOk W p.1 p.2) (h : ∀ j u, (L.flatMap fun p => p.2)[j]? = some u → W.cell? ((⟨g, 0, none⟩ : Addr).add j) = some u) : Sps W g 0 (some ⟨g, 0, none⟩) (L.map fun p => p.1) := by
  refine ⟨fun _ => rfl, fun j hj => ?_⟩
  have hj2 : j < L.length := by simpa using hj
  have := steps_of (W := W) (g := g) L 0 hL (fun i u hi => by
    have := h i u hi
    rw [addNone] at this
    exact this) j hj2
  simpa using this
/-- Six cells that make a step, where what they name lies in the world. -/
def CellsX (W : World) (s : SP) (vs : List Value) : Prop := ∃ (A1 : Option Addr) (c1 g1 o1 : Nat) (A2 : Option Addr) (c2 g2 o2 : Nat),
  vs = [.int .i64 s.1, .int .i64 s.2.1, .int .i64 s.2.2.1, .int .i64 s.2.2.2.1, .slice A1 s.2.2.2.2.1.length c1, .slice A2 s.2.2.2.2.2.length c2] ∧ Fl W g1 o1 A1 (flatP s.2.2.2.2.1) ∧ Fl W g2 o2 A2 (s.2.2.2.2.2.map iv) ∧ s.2.2.2.2.1.length ≤ c1 ∧ s.2.2.2.2.2.length ≤ c2 ∧ Nice A1 c1 g1 o1 ∧ Nice A2 c2 g2 o2
theorem CellsX.below {W W' : World} {s : SP} {vs : List Value} (h : CellsX W s vs) (hb : Below W.heap.size W W') : CellsX W' s vs := by
  obtain ⟨A1, c1, g1, o1, A2, c2, g2, o2, e, f1, f2, h⟩ := h
  exact ⟨A1, c1, g1, o1, A2, c2, g2, o2, e, f1.below hb, f2.below hb, h⟩
theorem CellsX.ok {W : World} {s : SP} {vs : List Value} (h : CellsX W s vs) : CellsOk W s vs := by
  obtain ⟨A1, c1, g1, o1, A2, c2, g2, o2, rfl, f1, f2, h⟩ := h
  exact ⟨rfl, fun g k hs => ⟨A1, c1, g1, o1, A2, c2, g2, o2, hs 0 _ rfl, hs 1 _ rfl, hs 2 _ rfl, hs 3 _ rfl, hs 4 _ rfl, hs 5 _ rfl, f1, f2, h⟩⟩
theorem CellsX.len {W : World} {s : SP} {vs : List Value} (h : CellsX W s vs) : vs.length = 6 := h.ok.1
theorem CellsX.one {W : World} {s : SP} {vs : List Value} (h : CellsX W s vs) : ∀ u ∈ vs, u.oneCell' = true := by
  obtain ⟨A1, c1, g1, o1, A2, c2, g2, o2, rfl, -⟩ := h
  intro u hu
  simp only [List.mem_cons, List.not_mem_nil, or_false] at hu
  rcases hu with rfl | rfl | rfl | rfl | rfl | rfl <;> rfl
/-- The cells of steps that lie. -/
theorem Sps.cells {W : World} {g o : Nat} {A : Option Addr} {ps : List SP} (h : Sps W g o A ps) : ∃ L : List (SP × List Value), L.map (fun p => p.1) = ps ∧ (∀ p ∈ L, CellsX W p.1 p.2) ∧ ∀ j u, (L.flatMap fun p => p.2)[j]? = some u → W.cell? ⟨g, o + j, none⟩ = some u := by
  suffices H : ∀ (ps : List SP) (o : Nat), (∀ j (hj : j < ps.length), StepAt W g (o + j * 6) ps[j]) → ∃ L : List (SP × List Value), L.map (fun p => p.1) = ps ∧ (∀ p ∈ L, CellsX W p.1 p.2) ∧ ∀ j u, (L.flatMap fun p => p.2)[j]? = some u → W.cell? ⟨g, o + j, none⟩ = some u from H ps o h.hd
  intro ps
  induction ps with
  | nil => intro o _; exact ⟨[], rfl, fun p hp => absurd hp (by simp), fun j u hj => absurd hj (by simp)⟩
  | cons s ps ih =>
    intro o hs
    obtain ⟨L, h1, h2, h3⟩ := ih (o + 6) fun j hj => by
      have := hs (j + 1) (by simpa using hj)
      rw [show o + (j + 1) * 6 = o + 6 + j * 6 by omega] at this
      exact this
    have h0 := hs 0 (by simp)
    rw [Nat.zero_mul, Nat.add_zero] at h0
    obtain ⟨A1, c1, g1, o1, A2, c2, g2, o2, k0, k1, k2, k3, k4, k5, f1, f2, h⟩ := h0
    simp only [List.getElem_cons_zero] at k0 k1 k2 k3 k4 k5 f1 f2 h
    refine ⟨(s, [.int .i64 s.1, .int .i64 s.2.1, .int .i64 s.2.2.1, .int .i64 s.2.2.2.1, .slice A1 s.2.2.2.2.1.length c1, .slice A2 s.2.2.2.2.2.length c2]) :: L, by simp [h1], fun p hp => ?_, fun j u hj => ?_⟩
    · rcases List.mem_cons.1 hp with rfl | hp
      · exact ⟨A1, c1, g1, o1, A2, c2, g2, o2, rfl, f1, f2, h⟩
      · exact h2 p hp
    · rw [List.flatMap_cons] at hj
      by_cases h6 : j < 6
      · rw [List.getElem?_append_left (by simpa using h6)] at hj
        obtain rfl | rfl | rfl | rfl | rfl | rfl : j = 0 ∨ j = 1 ∨ j = 2 ∨ j = 3 ∨ j = 4 ∨ j = 5 := by omega
        all_goals (cases hj; assumption)
      · rw [List.getElem?_append_right (by simp; omega)] at hj
        have := h3 _ u hj
        rw [show o + 6 + (j - [Value.int .i64 s.1, .int .i64 s.2.1, .int .i64 s.2.2.1, .int .i64 s.2.2.2.1, .slice A1 s.2.2.2.2.1.length c1, .slice A2 s.2.2.2.2.2.length c2].length) = o + j by simp; omega] at this
        exact this
/-- Steps whose cells are a row of one's own. -/
theorem sps_own {W : World} {B g n cap : Nat} {L : List (SP × List Value)} {ps : List SP} (hL : ∀ p ∈ L, CellsX W p.1 p.2) (he : L.map (fun p => p.1) = ps) (h : W.ownsRow B 32 6 (.slice (some ⟨g, 0, none⟩) n cap) n (L.flatMap fun p => p.2)) : Sps W g 0 (some ⟨g, 0, none⟩) ps := by
  subst he
  refine sps_gen L (fun p hp => (hL p hp).ok) fun j u hj => ?_
  have hlt : j < (L.flatMap fun p => p.2).length := (List.getElem?_eq_some_iff.1 hj).1
  rw [addNone, Nat.zero_add, h.cellAt j (by rw [← h.1]; exact hlt), hj]
end Go.Proofs.Ytacinjbaebimhaa.Val
