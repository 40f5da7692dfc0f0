/- Arguments that are lists of parts, of numbers: opened to flat cells. -/
import Derived.Test.YtacinjbaebimhaaOpenSQ
import Derived.Test.YtacinjbaebimhaaFlPQ
namespace Go.Proofs.Ytacinjbaebimhaa.Val
open Go.ChangeShapes Go.WideShapes Go.ChangeAt Go.RowKit Go.Deep
set_option linter.unusedVariables false
theorem five_of {α : Type} {l : List α} (h : l.length = 5) : ∃ a b c d e, l = [a, b, c, d, e] := by
  rcases l with _ | ⟨a, _ | ⟨b, _ | ⟨c, _ | ⟨d, _ | ⟨e, _ | ⟨f, l⟩⟩⟩⟩⟩⟩
  · simp at h
  · simp at h
  · simp at h
  · simp at h
  · simp at h
  · exact ⟨a, b, c, d, e, rfl⟩
  · simp at h
theorem Fl.ofP {w : World} {g o : Nat} {A : Option Addr} {ps : List PT} (h0 : 0 < ps.length → A = some ⟨g, o, none⟩) (h : ∀ i (hi : i < ps.length), w.cell? ⟨g, o + i * 5, none⟩ = some (.int .i64 ps[i].1) ∧ w.cell? ⟨g, o + i * 5 + 1, none⟩ = some (.int .i64 ps[i].2.1) ∧ w.cell? ⟨g, o + i * 5 + 2, none⟩ = some (.int .i64 ps[i].2.2.1) ∧ w.cell? ⟨g, o + i * 5 + 3, none⟩ = some (.int .i64 ps[i].2.2.2.1) ∧ w.cell? ⟨g, o + i * 5 + 4, none⟩ = some (.string ps[i].2.2.2.2)) : Fl w g o A (flatP ps) := by
  have hl := flatP_len ps
  refine ⟨fun hp => h0 (by omega), fun j hj => ?_⟩
  have hi : j / 5 < ps.length := by omega
  have hc := h (j / 5) hi
  have hg := flatP_get ps (j / 5) hi
  rcases (by omega : j = j / 5 * 5 ∨ j = j / 5 * 5 + 1 ∨ j = j / 5 * 5 + 2 ∨ j = j / 5 * 5 + 3 ∨ j = j / 5 * 5 + 4) with e | e | e | e | e
  · rw [← e] at hc hg
    rw [hc.1, ← hg.1, List.getElem?_eq_getElem hj]
  · rw [Nat.add_assoc, ← e] at hc; rw [← e] at hg
    rw [hc.2.1, ← hg.2.1, List.getElem?_eq_getElem hj]
  · rw [Nat.add_assoc o (j / 5 * 5) 2, ← e] at hc; rw [← e] at hg
    rw [hc.2.2.1, ← hg.2.2.1, List.getElem?_eq_getElem hj]
  · rw [Nat.add_assoc o (j / 5 * 5) 3, ← e] at hc; rw [← e] at hg
    rw [hc.2.2.2.1, ← hg.2.2.2.1, List.getElem?_eq_getElem hj]
  · rw [Nat.add_assoc o (j / 5 * 5) 4, ← e] at hc; rw [← e] at hg
    rw [hc.2.2.2.2, ← hg.2.2.2.2, List.getElem?_eq_getElem hj]
theorem open_parts {H : Type} {enc : TypeId × Value → H} {W : World} {v : Value} {d : DataW H} {p : List MemPlace} {A0 : Option Addr} {l0 c0 : Nat} (hv : v = .slice A0 l0 c0) (h : DataW.Trod enc Try.prog W 0 (fun _ => true) true 103 v d p) :
    ∃ (A : Option Addr) (cap g o : Nat) (ps : List PT), v = .slice A ps.length cap ∧ ps.length ≤ maxLen ∧ ShortP ps ∧ Fl W g o A (flatP ps) := by
  obtain ⟨fuel, hf⟩ := h
  have hce : Try.prog.cellsOf 163 = 5 := by kernel_rfl
  have hcv : Try.prog.cellsOf 161 = 3 := by kernel_rfl
  have k0 : Try.prog.cellsOf 3 = 1 := by kernel_rfl
  have k1 : Try.prog.cellsOf 9 = 1 := by kernel_rfl
  rcases open_slice Try.underlying103 hf with ⟨hcs, _⟩ | ⟨a, len, cap, m, n, D, Pl, hcs, _, hl, hm, hmm, _, hx⟩
  · subst hv
    simp [Value.cells] at hcs
    obtain ⟨rfl, rfl, rfl⟩ := hcs
    exact ⟨none, 0, 0, 0, [], rfl, Nat.zero_le _, fun i hi => absurd hi (by simp), ⟨fun hp => absurd hp (by simp [flatP]), fun j hj => absurd hj (by simp [flatP])⟩⟩
  · subst hv
    simp [Value.cells] at hcs
    obtain ⟨rfl, rfl, rfl⟩ := hcs
    simp only [if_true] at hmm
    subst hmm
    obtain ⟨b, off, sp⟩ := a
    have ex : ∀ i, i < l0 → ∃ q : PT, q.2.2.2.2.size ≤ maxLen ∧ W.cell? ((⟨b, off, sp⟩ : Addr).add (i * 5)) = some (.int .i64 q.1) ∧ W.cell? ((⟨b, off, sp⟩ : Addr).add (i * 5 + 1)) = some (.int .i64 q.2.1) ∧ W.cell? ((⟨b, off, sp⟩ : Addr).add (i * 5 + 2)) = some (.int .i64 q.2.2.1) ∧ W.cell? ((⟨b, off, sp⟩ : Addr).add (i * 5 + 3)) = some (.int .i64 q.2.2.2.1) ∧ W.cell? ((⟨b, off, sp⟩ : Addr).add (i * 5 + 4)) = some (.string q.2.2.2.2) := by
      intro i hi
      obtain ⟨cs', h1, h2⟩ := hx i (by omega)
      rw [hce] at h1
      obtain ⟨_, hlen, hcell⟩ := World.cells?_some h1
      obtain ⟨y0, y1, y2, n', _, _, g0, g1, g2⟩ := trod_struct3 Try.underlying163 h2
      obtain ⟨u0, u1, u2, u3, u4, rfl⟩ := five_of hlen
      simp only [k0, hcv] at g0 g1 g2
      obtain ⟨x0, x1, x2, n2, _, _, f0, f1, f2⟩ := trod_struct3 Try.underlying161 g2
      simp only [k0, k1] at f0 f1 f2
      obtain ⟨z0, e0, _, _⟩ := DataW.trod_int Try.underlying3 g0
      obtain ⟨z1, e1, _, _⟩ := DataW.trod_int Try.underlying3 g1
      obtain ⟨z2, e2, _, _⟩ := DataW.trod_int Try.underlying3 f0
      obtain ⟨z3, e3, _, _⟩ := DataW.trod_int Try.underlying3 f1
      obtain ⟨z4, e4, _, hz⟩ := DataW.trod_string Try.underlying9 f2
      simp at e0 e1 e2 e3 e4
      have c0 := hcell 0 (by omega)
      have c1 := hcell 1 (by omega)
      have c2 := hcell 2 (by omega)
      have c3 := hcell 3 (by omega)
      have c4 := hcell 4 (by omega)
      rw [add_add] at c0 c1 c2 c3 c4
      exact ⟨(z0, z1, z2, z3, z4), hz, by simpa [e0] using c0, by simpa [e1] using c1, by simpa [e2] using c2, by simpa [e3] using c3, by simpa [e4] using c4⟩
    obtain ⟨q, hq⟩ := choose_lt ex
    refine ⟨some ⟨b, off, sp⟩, m, b, off, (List.range l0).map q, by simp, by simp; omega, ?_, Fl.ofP ?_ ?_⟩
    · intro i hi
      simp at hi
      simp only [List.getElem_map, List.getElem_range]
      exact (hq i hi).1
    · intro h0
      simp at h0
      have := spot_none (by omega) (hq 0 h0).2.1
      rw [this]
    · intro i hi
      simp at hi
      obtain ⟨-, h1, h2, h3, h4, h5⟩ := hq i hi
      have := spot_none (by omega) (hq 0 (by omega)).2.1
      subst this
      rw [add_none] at h1 h2 h3 h4 h5
      simp only [List.getElem_map, List.getElem_range]
      exact ⟨h1, by rw [Nat.add_assoc]; exact h2, by rw [Nat.add_assoc]; exact h3, by rw [Nat.add_assoc]; exact h4, by rw [Nat.add_assoc]; exact h5⟩
theorem open_nums {H : Type} {enc : TypeId × Value → H} {W : World} {v : Value} {d : DataW H} {p : List MemPlace} {A0 : Option Addr} {l0 c0 : Nat} (hv : v = .slice A0 l0 c0) (h : DataW.Trod enc Try.prog W 0 (fun _ => true) true 30 v d p) :
    ∃ (A : Option Addr) (cap g o : Nat) (l : List Int), v = .slice A l.length cap ∧ l.length ≤ maxLen ∧ Fl W g o A (l.map iv) := by
  obtain ⟨fuel, hf⟩ := h
  rcases open_ints Try.underlying30 Try.underlying3 (by kernel_rfl) hf with ⟨hcs, _⟩ | ⟨x, l, c, zs, hcs, _, hl, hm, hz, _, hcell, hwz⟩
  · subst hv
    simp [Value.cells] at hcs
    obtain ⟨rfl, rfl, rfl⟩ := hcs
    exact ⟨none, 0, 0, 0, [], rfl, Nat.zero_le _, ⟨fun hp => absurd hp (by simp), fun j hj => absurd hj (by simp)⟩⟩
  · subst hv
    simp [Value.cells] at hcs
    obtain ⟨rfl, rfl, rfl⟩ := hcs
    simp only [if_true] at hz
    obtain ⟨b, off, sp⟩ := x
    refine ⟨some ⟨b, off, sp⟩, c0, b, off, zs.take l0, by simp; omega, by simp; omega, fun h0 => ?_, fun j hj => ?_⟩
    · simp at h0
      have := spot_none (i := 0) rfl (hcell 0 (by omega))
      rw [this]
    · simp at hj
      have := spot_none (i := 0) rfl (hcell 0 (by omega))
      subst this
      have h1 := hcell j (by omega)
      rw [add_none] at h1
      rw [h1, List.getElem_map, List.getElem_take, List.getD_eq_getElem?_getD, List.getElem?_eq_getElem (by omega)]
      rfl
end Go.Proofs.Ytacinjbaebimhaa.Val
