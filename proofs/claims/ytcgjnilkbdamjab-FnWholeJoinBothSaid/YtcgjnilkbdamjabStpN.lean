/- Plans that a law builds: bare steps in a new block; what drawn beginnings give a law. -/
import Derived.Test.YtcgjnilkbdamjabPImp
import Derived.Test.YtcgjnilkbdamjabPMath
import Derived.Test.YtcgjnilkbdamjabDrawTb
namespace Go.Proofs.Ytcgjnilkbdamjab.Val
open Go.RowKit
set_option linter.unusedSimpArgs false
set_option linter.unusedVariables false
def cellsS (s : SP) : List Value := [.int .i64 s.1, .int .i64 s.2.1, .int .i64 s.2.2.1, .int .i64 s.2.2.2.1, .slice none 0 0, .slice none 0 0]
def Bare (s : SP) : Prop := s.2.2.2.2.1 = [] ∧ s.2.2.2.2.2 = []
theorem bare_at {W : World} {g k : Nat} {s : SP} (h : Bare s) (hs : ∀ i u, (cellsS s)[i]? = some u → W.cell? ⟨g, k + i, none⟩ = some u) : StepAt W g k s := by
  obtain ⟨h1, h2⟩ := h
  refine ⟨none, 0, g, 0, none, 0, g, 0, hs 0 _ rfl, hs 1 _ rfl, hs 2 _ rfl, hs 3 _ rfl, ?_, ?_, ?_, ?_, ?_, ?_, .inr ⟨rfl, rfl⟩, .inr ⟨rfl, rfl⟩⟩
  · rw [h1]; exact hs 4 _ rfl
  · rw [h2]; exact hs 5 _ rfl
  · rw [h1]; exact ⟨fun h => absurd h (by simp [flatP]), fun j hj => absurd hj (by simp [flatP])⟩
  · rw [h2]; exact ⟨fun h => absurd h (by simp), fun j hj => absurd hj (by simp)⟩
  · rw [h1]; exact Nat.le_refl _
  · rw [h2]; exact Nat.le_refl _
theorem sps3 {W : World} {g : Nat} {x y z : SP} (hx : Bare x) (hy : Bare y) (hz : Bare z) (h : ∀ j u, (cellsS x ++ cellsS y ++ cellsS z)[j]? = some u → W.cell? ((⟨g, 0, none⟩ : Addr).add j) = some u) : Sps W g 0 (some ⟨g, 0, none⟩) [x, y, z] := by
  have h' : ∀ j u, (cellsS x ++ cellsS y ++ cellsS z)[j]? = some u → W.cell? ⟨g, j, none⟩ = some u := fun j u hj => by
    have := h j u hj
    rw [addNone, Nat.zero_add] at this
    exact this
  refine ⟨fun _ => rfl, fun j hj => ?_⟩
  have hj3 : j < 3 := hj
  have six : ∀ (s : SP) i u, (cellsS s)[i]? = some u → i = 0 ∨ i = 1 ∨ i = 2 ∨ i = 3 ∨ i = 4 ∨ i = 5 := by
    intro s i u hi
    have : i < 6 := (List.getElem?_eq_some_iff.1 hi).1
    omega
  obtain rfl | rfl | rfl : j = 0 ∨ j = 1 ∨ j = 2 := by omega
  · exact bare_at hx fun i u hi => by
      obtain rfl | rfl | rfl | rfl | rfl | rfl := six _ i u hi <;> exact h' _ u hi
  · exact bare_at hy fun i u hi => by
      obtain rfl | rfl | rfl | rfl | rfl | rfl := six _ i u hi <;> exact h' _ u hi
  · exact bare_at hz fun i u hi => by
      obtain rfl | rfl | rfl | rfl | rfl | rfl := six _ i u hi <;> exact h' _ u hi
theorem OneT.fit {t : TB} (h : OneT t) : TabFit t := ⟨by have := h.1; omega, by have := h.1; omega, h.2.1, h.2.2.1, h.2.2.2⟩
theorem ones_tables {ts : List TB} (h : ∀ t ∈ ts, OneT t) (h3 : ts.length ≤ 3) : tablesB ts = true := TabsFit.tables (fun t ht => (h t ht).fit) h3
theorem ones_ok {ts : List TB} (h : ∀ t ∈ ts, OneT t) (h3 : ts.length ≤ 3) : OkT ts := TabsFit.ok (fun t ht => (h t ht).fit) h3
theorem okS_bare {ps : List SP} (h : ∀ s ∈ ps, Bare s) (hl : ps.length ≤ 2000000) : OkS ps := by
  refine ⟨hl, fun s hs => ?_⟩
  obtain ⟨h1, h2⟩ := h s hs
  unfold OkS1
  rw [h1, h2]
  exact ⟨by simp, fun p hp => absurd hp (by simp), by simp⟩
/-- Six cells that make a step, wherever they lie. -/
def CellsOk (W : World) (s : SP) (vs : List Value) : Prop := vs.length = 6 ∧ ∀ g k, (∀ i u, vs[i]? = some u → W.cell? ⟨g, k + i, none⟩ = some u) → StepAt W g k s
theorem cells_bare {W : World} {s : SP} (h : Bare s) : CellsOk W s (cellsS s) := ⟨rfl, fun g k hs => bare_at h hs⟩
/-- A step with an expression. -/
theorem cells_expr {W : World} {s : SP} {g3 c3 n : Nat} (h2 : s.2.2.2.2.2 = []) (hf : Fl W g3 0 (some ⟨g3, 0, none⟩) (flatP s.2.2.2.2.1)) (hn : s.2.2.2.2.1.length = n) (hc : n ≤ c3) : CellsOk W s [.int .i64 s.1, .int .i64 s.2.1, .int .i64 s.2.2.1, .int .i64 s.2.2.2.1, .slice (some ⟨g3, 0, none⟩) n c3, .slice none 0 0] := by
  subst hn
  refine ⟨rfl, fun g k hs => ⟨some ⟨g3, 0, none⟩, c3, g3, 0, none, 0, g3, 0, hs 0 _ rfl, hs 1 _ rfl, hs 2 _ rfl, hs 3 _ rfl, hs 4 _ rfl, ?_, hf, ?_, hc, ?_, .inl rfl, .inr ⟨rfl, rfl⟩⟩⟩
  · rw [h2]; exact hs 5 _ rfl
  · rw [h2]; exact ⟨fun h => absurd h (by simp), fun j hj => absurd hj (by simp)⟩
  · rw [h2]; exact Nat.le_refl _
theorem steps_of {W : World} {g : Nat} : ∀ (L : List (SP × List Value)) (k : Nat), (∀ p ∈ L, CellsOk W p.1 p.2) → (∀ i u, (L.flatMap fun p => p.2)[i]? = some u → W.cell? ⟨g, k + i, none⟩ = some u) → ∀ j (hj : j < L.length), StepAt W g (k + j * 6) L[j].1 := by
  intro L
  induction L with
  | nil => intro k _ _ j hj; simp at hj
  | cons p L ih =>
    intro k hL h j hj
    obtain ⟨h6, hp⟩ := hL p (by simp)
    rw [List.flatMap_cons] at h
    cases j with
    | zero =>
      have := hp g k fun i u hi => h i u (by rw [List.getElem?_append_left (List.getElem?_eq_some_iff.1 hi).1]; exact hi)
      simpa using this
    | succ j =>
      have := ih (k + 6) (fun q hq => hL q (List.mem_cons_of_mem _ hq)) (fun i u hi => by
        have := h (6 + i) u (by rw [List.getElem?_append_right (by omega), h6]; simpa using hi)
        rw [← Nat.add_assoc] at this
        exact this) j (by simpa using hj)
      rw [show k + (j + 1) * 6 = k + 6 + j * 6 by omega]
      exact this
theorem sps_gen {W : World} {g : Nat} (L : List (SP × List Value)) (hL : ∀ p ∈ L, CellsOk W p.1 p.2) (h : ∀ j u, (L.flatMap fun p => p.2)[j]? = some u → W.cell? ((⟨g, 0, none⟩ : Addr).add j) = some u) : Sps W g 0 (some ⟨g, 0, none⟩) (L.map fun p => p.1) := by
  refine ⟨fun _ => rfl, fun j hj => ?_⟩
  have hj2 : j < L.length := by simpa using hj
  have := steps_of (W := W) (g := g) L 0 hL (fun i u hi => by
    have := h i u hi
    rw [addNone] at this
    exact this) j hj2
  simpa using this
theorem ones_col {ts : List TB} {x : Nat} (h : ∀ t ∈ ts, OneT t) (hx : x < ts.length) : tcol ts (x : Int) = ts[x].1 ∧ (tcol ts (x : Int)).length = 1 := by
  have e : tcol ts (x : Int) = ts[x].1 := by simp [tcol, hx]
  exact ⟨e, by rw [e]; exact (h _ (List.getElem_mem hx)).1⟩
theorem ones_len {ts : List TB} {x y : Nat} (h : ∀ t ∈ ts, OneT t) (hx : x < ts.length) (hy : y < ts.length) : (tcol ts (x : Int) ++ tcol ts (y : Int)).length ≤ 4 := by
  rw [List.length_append, (ones_col h hx).2, (ones_col h hy).2]; omega
theorem ones_kind {ts : List TB} {x y : Nat} {ps : List PT} (h : ∀ t ∈ ts, OneT t) (hx : x < ts.length) (hy : y < ts.length) (hl : ps.length ≤ 12) (hr : runK (ts[x].1 ++ ts[y].1) ps [] = some [3]) : kindI (tcol ts (x : Int) ++ tcol ts (y : Int)) ps = 3 := by
  have hc : colB (tcol ts (x : Int) ++ tcol ts (y : Int)) = true := by
    refine colB_iff.2 ⟨by have := ones_len h hx hy; have h1 := (ones_col h hx).2; rw [List.length_append] at this ⊢; omega, fun c hc => ?_⟩
    have hk : ∀ z, z < ts.length → c ∈ tcol ts (z : Int) → kindB c.1 = true := fun z hz hm => by
      rw [(ones_col h hz).1] at hm
      rcases (h _ (List.getElem_mem hz)).2.1 c hm with h | h | h <;> simp [kindB, h]
    rcases List.mem_append.1 hc with hc | hc
    · exact hk x hx hc
    · exact hk y hy hc
  unfold kindI
  rw [if_pos ⟨hc, hl⟩, (ones_col h hx).1, (ones_col h hy).1, hr]
  rfl
theorem okS_expr {ps : List PT} {L : List SP} (hp : TextsP ps) (hl : ps.length ≤ 2000000) (h : ∀ s ∈ L, (s.2.2.2.2.1 = [] ∨ s.2.2.2.2.1 = ps) ∧ s.2.2.2.2.2.length ≤ 2) (hL : L.length ≤ 2000000) : OkS L := by
  refine ⟨hL, fun s hs => ?_⟩
  obtain ⟨h1, h2⟩ := h s hs
  refine ⟨?_, ?_, by omega⟩
  · rcases h1 with h1 | h1 <;> rw [h1]
    · simp
    · exact hl
  · rcases h1 with h1 | h1 <;> rw [h1]
    · exact fun p hp => absurd hp (by simp)
    · exact hp.short
end Go.Proofs.Ytcgjnilkbdamjab.Val
