/- Arguments that are tables, plans: opened to headers and flat cells. -/
import Derived.Test.YtacinjbaebimhaaTabXQ
import Derived.Test.YtacinjbaebimhaaOpenPQ
namespace Go.Proofs.Ytacinjbaebimhaa.Val
open Go.ChangeShapes Go.WideShapes Go.ChangeAt Go.RowKit Go.Deep
set_option linter.unusedVariables false
set_option maxRecDepth 8000
theorem two_of {α : Type} {l : List α} (h : l.length = 2) : ∃ a b, l = [a, b] := by
  rcases l with _ | ⟨a, _ | ⟨b, _ | ⟨c, l⟩⟩⟩
  · simp at h
  · simp at h
  · exact ⟨a, b, rfl⟩
  · simp at h
theorem six_of {α : Type} {l : List α} (h : l.length = 6) : ∃ a b c d e f, l = [a, b, c, d, e, f] := by
  rcases l with _ | ⟨a, _ | ⟨b, _ | ⟨c, _ | ⟨d, _ | ⟨e, _ | ⟨f, _ | ⟨g, l⟩⟩⟩⟩⟩⟩⟩
  · simp at h
  · simp at h
  · simp at h
  · simp at h
  · simp at h
  · simp at h
  · exact ⟨a, b, c, d, e, f, rfl⟩
  · simp at h
theorem is_slice {H : Type} {enc : TypeId × Value → H} {W : World} {t e : TypeId} {n : Nat} {u : Value} {x : DataW H × List MemPlace} (ht : Try.prog.underlying t = some (.slice e)) (h : DataW.trod enc Try.prog W 0 (fun _ => true) true n t [u] = some x) : ∃ A1 l1 c1, u = .slice A1 l1 c1 := by
  rcases open_slice ht h with ⟨hcs, _⟩ | ⟨a, len, cap, m, n, D, Pl, hcs, _⟩
  · exact ⟨none, 0, 0, by simpa using hcs⟩
  · exact ⟨some a, len, cap, by simpa using hcs⟩
theorem trod_struct6 {H : Type} {enc : TypeId × Value → H} {P : Program} {w : World} {base : Nat} {spare : Nat → Bool} {held : Bool} {t : TypeId} {f0 f1 f2 f3 f4 f5 : Field} {fuel : Nat} {cs : List Value} {x : DataW H × List MemPlace} (ht : P.underlying t = some (.struct #[f0, f1, f2, f3, f4, f5])) (h : DataW.trod enc P w base spare held fuel t cs = some x) :
    ∃ y0 y1 y2 y3 y4 y5 n, DataW.trod enc P w base spare held n f0.type ((cs.drop f0.offset).take (P.cellsOf f0.type)) = some y0 ∧ DataW.trod enc P w base spare held n f1.type ((cs.drop f1.offset).take (P.cellsOf f1.type)) = some y1 ∧ DataW.trod enc P w base spare held n f2.type ((cs.drop f2.offset).take (P.cellsOf f2.type)) = some y2 ∧
      DataW.trod enc P w base spare held n f3.type ((cs.drop f3.offset).take (P.cellsOf f3.type)) = some y3 ∧ DataW.trod enc P w base spare held n f4.type ((cs.drop f4.offset).take (P.cellsOf f4.type)) = some y4 ∧ DataW.trod enc P w base spare held n f5.type ((cs.drop f5.offset).take (P.cellsOf f5.type)) = some y5 := by
  obtain ⟨xs, n, _, rfl, hl, hlen, hf⟩ := DataW.trod_struct ht h
  match xs, hlen with
  | [y0, y1, y2, y3, y4, y5], _ => exact ⟨y0, y1, y2, y3, y4, y5, n, by simpa using hf 0 f0 rfl, by simpa using hf 1 f1 rfl, by simpa using hf 2 f2 rfl, by simpa using hf 3 f3 rfl, by simpa using hf 4 f4 rfl, by simpa using hf 5 f5 rfl⟩
theorem open_tabs {H : Type} {enc : TypeId × Value → H} {W : World} {v : Value} {d : DataW H} {p : List MemPlace} {A0 : Option Addr} {l0 c0 : Nat} (hv : v = .slice A0 l0 c0) (h : DataW.Trod enc Try.prog W 0 (fun _ => true) true 54 v d p) :
    ∃ (A : Option Addr) (cap g o : Nat) (ts : List TB), v = .slice A ts.length cap ∧ ts.length ≤ maxLen ∧ FitT ts ∧ TbsA W g o A ts := by
  obtain ⟨fuel, hf⟩ := h
  have hce : Try.prog.cellsOf 101 = 2 := by kernel_rfl
  have k0 : Try.prog.cellsOf 98 = 1 := by kernel_rfl
  have k1 : Try.prog.cellsOf 99 = 1 := by kernel_rfl
  rcases open_slice Try.underlying54 hf with ⟨hcs, _⟩ | ⟨a, len, cap, m, n, D, Pl, hcs, _, hl, hm, hmm, _, hx⟩
  · subst hv
    simp [Value.cells] at hcs
    obtain ⟨rfl, rfl, rfl⟩ := hcs
    exact ⟨none, 0, 0, 0, [], rfl, Nat.zero_le _, fun i hi => absurd hi (by simp), ⟨fun hp => absurd hp (by simp), fun j hj => absurd hj (by simp)⟩⟩
  · subst hv
    simp [Value.cells] at hcs
    obtain ⟨rfl, rfl, rfl⟩ := hcs
    simp only [if_true] at hmm
    subst hmm
    obtain ⟨b, off, sp⟩ := a
    have ex : ∀ i, i < l0 → ∃ q : TB, (q.1.length ≤ maxLen ∧ q.2.length ≤ maxLen ∧ Fit2 q.2) ∧ ∃ (A1 : Option Addr) (c1 g1 o1 : Nat) (A2 : Option Addr) (c2 g2 o2 : Nat), W.cell? ((⟨b, off, sp⟩ : Addr).add (i * 2)) = some (.slice A1 q.1.length c1) ∧ W.cell? ((⟨b, off, sp⟩ : Addr).add (i * 2 + 1)) = some (.slice A2 q.2.length c2) ∧ Fl W g1 o1 A1 (flatC q.1) ∧ RwsA W g2 o2 A2 q.2 := by
      intro i hi
      obtain ⟨cs', h1, h2⟩ := hx i (by omega)
      rw [hce] at h1
      obtain ⟨_, hlen, hcell⟩ := World.cells?_some h1
      obtain ⟨y0, y1, n', _, _, g0, g1⟩ := trod_struct2 Try.underlying101 h2
      obtain ⟨u0, u1, rfl⟩ := two_of hlen
      simp only [k0, k1] at g0 g1
      have g0' : DataW.trod enc Try.prog W 0 (fun _ => true) true n' 98 [u0] = some y0 := g0
      have g1' : DataW.trod enc Try.prog W 0 (fun _ => true) true n' 99 [u1] = some y1 := g1
      obtain ⟨B1, l1, d1, rfl⟩ := is_slice Try.underlying98 g0'
      obtain ⟨B2, l2, d2, rfl⟩ := is_slice Try.underlying99 g1'
      obtain ⟨A1, c1, g1, o1, cs, hq, hq1, hq2⟩ := open_cols (d := y0.1) (p := y0.2) rfl ⟨n', g0'⟩
      obtain ⟨A2, c2, g2, o2, ls, hr, hr1, hr2, hr3⟩ := open_valss (d := y1.1) (p := y1.2) rfl ⟨n', g1'⟩
      have e0 := hcell 0 (by omega)
      have e1 := hcell 1 (by omega)
      rw [add_add] at e0 e1
      exact ⟨(cs, ls), ⟨hq1, hr1, hr2⟩, A1, c1, g1, o1, A2, c2, g2, o2, by simpa [hq] using e0, by simpa [hr] using e1, hq2, hr3⟩
    obtain ⟨q, hq⟩ := choose_lt ex
    refine ⟨some ⟨b, off, sp⟩, m, b, off, (List.range l0).map q, by simp, by simp; omega, ?_, ?_, ?_⟩
    · intro r hr
      simp at hr
      obtain ⟨i, hi, rfl⟩ := hr
      exact (hq i hi).1
    · intro h0
      simp at h0
      obtain ⟨-, A1, c1, g1, o1, A2, c2, g2, o2, hc, -⟩ := hq 0 h0
      have := spot_none (by omega) hc
      rw [this]
    · intro j hj
      simp at hj
      obtain ⟨-, A1, c1, g1, o1, A2, c2, g2, o2, hc, hc2, h3, h4⟩ := hq j hj
      obtain ⟨-, B1, d1, k1, p1, B2, d2, k2, p2, hd, -⟩ := hq 0 (by omega)
      have := spot_none (by omega) hd
      subst this
      rw [add_none] at hc hc2
      simp only [List.getElem_map, List.getElem_range]
      exact ⟨A1, c1, g1, o1, A2, c2, g2, o2, hc, by rw [Nat.add_assoc]; exact hc2, h3, h4⟩
theorem open_steps {H : Type} {enc : TypeId × Value → H} {W : World} {v : Value} {d : DataW H} {p : List MemPlace} {A0 : Option Addr} {l0 c0 : Nat} (hv : v = .slice A0 l0 c0) (h : DataW.Trod enc Try.prog W 0 (fun _ => true) true 55 v d p) :
    ∃ (A : Option Addr) (cap g o : Nat) (ps : List SP), v = .slice A ps.length cap ∧ ps.length ≤ maxLen ∧ FitP ps ∧ SpsA W g o A ps := by
  obtain ⟨fuel, hf⟩ := h
  have hce : Try.prog.cellsOf 105 = 6 := by kernel_rfl
  have kn : Try.prog.cellsOf 3 = 1 := by kernel_rfl
  have k0 : Try.prog.cellsOf 103 = 1 := by kernel_rfl
  have k1 : Try.prog.cellsOf 30 = 1 := by kernel_rfl
  rcases open_slice Try.underlying55 hf with ⟨hcs, _⟩ | ⟨a, len, cap, m, n, D, Pl, hcs, _, hl, hm, hmm, _, hx⟩
  · subst hv
    simp [Value.cells] at hcs
    obtain ⟨rfl, rfl, rfl⟩ := hcs
    exact ⟨none, 0, 0, 0, [], rfl, Nat.zero_le _, fun i hi => absurd hi (by simp), ⟨fun hp => absurd hp (by simp), fun j hj => absurd hj (by simp)⟩⟩
  · subst hv
    simp [Value.cells] at hcs
    obtain ⟨rfl, rfl, rfl⟩ := hcs
    simp only [if_true] at hmm
    subst hmm
    obtain ⟨b, off, sp⟩ := a
    have ex : ∀ i, i < l0 → ∃ q : SP, (q.2.2.2.2.1.length ≤ maxLen ∧ ShortP q.2.2.2.2.1 ∧ q.2.2.2.2.2.length ≤ maxLen) ∧ ∃ (A1 : Option Addr) (c1 g1 o1 : Nat) (A2 : Option Addr) (c2 g2 o2 : Nat), W.cell? ((⟨b, off, sp⟩ : Addr).add (i * 6)) = some (.int .i64 q.1) ∧ W.cell? ((⟨b, off, sp⟩ : Addr).add (i * 6 + 1)) = some (.int .i64 q.2.1) ∧ W.cell? ((⟨b, off, sp⟩ : Addr).add (i * 6 + 2)) = some (.int .i64 q.2.2.1) ∧ W.cell? ((⟨b, off, sp⟩ : Addr).add (i * 6 + 3)) = some (.int .i64 q.2.2.2.1) ∧ W.cell? ((⟨b, off, sp⟩ : Addr).add (i * 6 + 4)) = some (.slice A1 q.2.2.2.2.1.length c1) ∧ W.cell? ((⟨b, off, sp⟩ : Addr).add (i * 6 + 5)) = some (.slice A2 q.2.2.2.2.2.length c2) ∧ Fl W g1 o1 A1 (flatP q.2.2.2.2.1) ∧ Fl W g2 o2 A2 (q.2.2.2.2.2.map iv) := by
      intro i hi
      obtain ⟨cs', h1, h2⟩ := hx i (by omega)
      rw [hce] at h1
      obtain ⟨_, hlen, hcell⟩ := World.cells?_some h1
      obtain ⟨y0, y1, y2, y3, y4, y5, n', g0, g1, g2, g3, g4, g5⟩ := trod_struct6 Try.underlying105 h2
      obtain ⟨u0, u1, u2, u3, u4, u5, rfl⟩ := six_of hlen
      simp only [k0, k1, kn] at g0 g1 g2 g3 g4 g5
      obtain ⟨z0, x0, _, _⟩ := DataW.trod_int Try.underlying3 g0
      obtain ⟨z1, x1, _, _⟩ := DataW.trod_int Try.underlying3 g1
      obtain ⟨z2, x2, _, _⟩ := DataW.trod_int Try.underlying3 g2
      obtain ⟨z3, x3, _, _⟩ := DataW.trod_int Try.underlying3 g3
      simp at x0 x1 x2 x3
      have g4' : DataW.trod enc Try.prog W 0 (fun _ => true) true n' 103 [u4] = some y4 := g4
      have g5' : DataW.trod enc Try.prog W 0 (fun _ => true) true n' 30 [u5] = some y5 := g5
      obtain ⟨B1, l1, d1, rfl⟩ := is_slice Try.underlying103 g4'
      obtain ⟨B2, l2, d2, rfl⟩ := is_slice Try.underlying30 g5'
      obtain ⟨A1, c1, g1, o1, es, hq, hq1, hqs, hq2⟩ := open_parts (d := y4.1) (p := y4.2) rfl ⟨n', g4'⟩
      obtain ⟨A2, c2, g2, o2, ns, hr, hr1, hr2⟩ := open_nums (d := y5.1) (p := y5.2) rfl ⟨n', g5'⟩
      have e0 := hcell 0 (by omega)
      have e1 := hcell 1 (by omega)
      have e2 := hcell 2 (by omega)
      have e3 := hcell 3 (by omega)
      have e4 := hcell 4 (by omega)
      have e5 := hcell 5 (by omega)
      rw [add_add] at e0 e1 e2 e3 e4 e5
      exact ⟨(z0, z1, z2, z3, es, ns), ⟨hq1, hqs, hr1⟩, A1, c1, g1, o1, A2, c2, g2, o2, by simpa [x0] using e0, by simpa [x1] using e1, by simpa [x2] using e2, by simpa [x3] using e3, by simpa [hq] using e4, by simpa [hr] using e5, hq2, hr2⟩
    obtain ⟨q, hq⟩ := choose_lt ex
    refine ⟨some ⟨b, off, sp⟩, m, b, off, (List.range l0).map q, by simp, by simp; omega, ?_, ?_, ?_⟩
    · intro r hr
      simp at hr
      obtain ⟨i, hi, rfl⟩ := hr
      exact (hq i hi).1
    · intro h0
      simp at h0
      obtain ⟨-, A1, c1, g1, o1, A2, c2, g2, o2, hc, -⟩ := hq 0 h0
      have := spot_none (by omega) hc
      rw [this]
    · intro j hj
      simp at hj
      obtain ⟨-, A1, c1, g1, o1, A2, c2, g2, o2, hc0, hc1, hc2, hc3, hc4, hc5, h3, h4⟩ := hq j hj
      obtain ⟨-, B1, d1, k1, p1, B2, d2, k2, p2, hd, -⟩ := hq 0 (by omega)
      have := spot_none (by omega) hd
      subst this
      rw [add_none] at hc0 hc1 hc2 hc3 hc4 hc5
      simp only [List.getElem_map, List.getElem_range]
      exact ⟨A1, c1, g1, o1, A2, c2, g2, o2, hc0, by rw [Nat.add_assoc]; exact hc1, by rw [Nat.add_assoc]; exact hc2, by rw [Nat.add_assoc]; exact hc3, by rw [Nat.add_assoc]; exact hc4, by rw [Nat.add_assoc]; exact hc5, h3, h4⟩
end Go.Proofs.Ytacinjbaebimhaa.Val
