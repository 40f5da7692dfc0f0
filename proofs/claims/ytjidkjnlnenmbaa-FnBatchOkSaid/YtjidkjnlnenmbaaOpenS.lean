/- Arguments that are lists of columns, of values: opened to flat cells. -/
import Derived.Test.YtjidkjnlnenmbaaFl
import Derived.Deep.SlicePairs
import Derived.Deep.Strs
import Derived.ProofKit
import Derived.OpenShut
import Derived.ChangeOld
namespace Go.Proofs.Ytjidkjnlnenmbaa.Val
open Go.ChangeShapes Go.WideShapes Go.ChangeAt Go.RowKit Go.Deep
set_option linter.unusedVariables false
theorem Fl.ofC {w : World} {g o : Nat} {A : Option Addr} {cs : List CT} (h0 : 0 < cs.length → A = some ⟨g, o, none⟩) (h : ∀ i (hi : i < cs.length), w.cell? ⟨g, o + i * 2, none⟩ = some (.int .i64 cs[i].1) ∧ w.cell? ⟨g, o + i * 2 + 1, none⟩ = some (.bool cs[i].2)) : Fl w g o A (flatC cs) := by
  have hl := flatC_len cs
  refine ⟨fun hp => h0 (by omega), fun j hj => ?_⟩
  have hi : j / 2 < cs.length := by omega
  have hc := h (j / 2) hi
  have hg := flatC_get cs (j / 2) hi
  rcases (by omega : j = j / 2 * 2 ∨ j = j / 2 * 2 + 1) with e | e
  · rw [← e] at hc hg
    rw [hc.1, ← hg.1, List.getElem?_eq_getElem hj]
  · rw [Nat.add_assoc, ← e] at hc; rw [← e] at hg
    rw [hc.2, ← hg.2, List.getElem?_eq_getElem hj]
theorem Fl.ofV {w : World} {g o : Nat} {A : Option Addr} {vs : List VT} (h0 : 0 < vs.length → A = some ⟨g, o, none⟩) (h : ∀ i (hi : i < vs.length), w.cell? ⟨g, o + i * 3, none⟩ = some (.int .i64 vs[i].1) ∧ w.cell? ⟨g, o + i * 3 + 1, none⟩ = some (.int .i64 vs[i].2.1) ∧ w.cell? ⟨g, o + i * 3 + 2, none⟩ = some (.string vs[i].2.2)) : Fl w g o A (flatV vs) := by
  have hl := flatV_len vs
  refine ⟨fun hp => h0 (by omega), fun j hj => ?_⟩
  have hi : j / 3 < vs.length := by omega
  have hc := h (j / 3) hi
  have hg := flatV_get vs (j / 3) hi
  rcases (by omega : j = j / 3 * 3 ∨ j = j / 3 * 3 + 1 ∨ j = j / 3 * 3 + 2) with e | e | e
  · rw [← e] at hc hg
    rw [hc.1, ← hg.1, List.getElem?_eq_getElem hj]
  · rw [Nat.add_assoc, ← e] at hc; rw [← e] at hg
    rw [hc.2.1, ← hg.2.1, List.getElem?_eq_getElem hj]
  · rw [Nat.add_assoc o (j / 3 * 3) 2, ← e] at hc; rw [← e] at hg
    rw [hc.2.2, ← hg.2.2, List.getElem?_eq_getElem hj]
theorem spot_none {w : World} {b off : Nat} {sp} {i : Nat} {v : Value} (hi : i = 0) (h : w.cell? ((⟨b, off, sp⟩ : Addr).add i) = some v) : sp = none := by
  subst hi
  exact World.cell?_spot h
theorem add_none (b off i : Nat) : (⟨b, off, none⟩ : Addr).add i = ⟨b, off + i, none⟩ := by
  unfold Addr.add; split
  · rename_i h; simp_all
  · rfl
theorem three_of {α : Type} {l : List α} (h : l.length = 3) : ∃ a b c, l = [a, b, c] := by
  rcases l with _ | ⟨a, _ | ⟨b, _ | ⟨c, _ | ⟨d, l⟩⟩⟩⟩
  · simp at h
  · simp at h
  · simp at h
  · exact ⟨a, b, c, rfl⟩
  · simp at h
theorem open_cols {H : Type} {enc : TypeId × Value → H} {W : World} {v : Value} {d : DataW H} {p : List MemPlace} {A0 : Option Addr} {l0 c0 : Nat} (hv : v = .slice A0 l0 c0) (h : DataW.Trod enc Try.prog W 0 (fun _ => true) true 38 v d p) :
    ∃ (A : Option Addr) (cap g o : Nat) (cs : List CT), v = .slice A cs.length cap ∧ cs.length ≤ maxLen ∧ Fl W g o A (flatC cs) := by
  obtain ⟨fuel, hf⟩ := h
  rcases open_slice_pairs Try.underlying38 Try.underlying91 (by kernel_rfl) rfl rfl (by kernel_rfl) (by kernel_rfl) hf with ⟨hcs, _⟩ | ⟨a, len, cap, m, n, V0, V1, D0, D1, P0, P1, hcs, _, hl, hm, hmm, _, hx⟩
  · subst hv
    simp [Value.cells] at hcs
    obtain ⟨rfl, rfl, rfl⟩ := hcs
    exact ⟨none, 0, 0, 0, [], rfl, Nat.zero_le _, ⟨fun hp => absurd hp (by simp [flatC]), fun j hj => absurd hj (by simp [flatC])⟩⟩
  · subst hv
    simp [Value.cells] at hcs
    obtain ⟨rfl, rfl, rfl⟩ := hcs
    simp only [if_true] at hmm
    subst hmm
    obtain ⟨b, off, sp⟩ := a
    have ex : ∀ i, i < l0 → ∃ q : CT, W.cell? ((⟨b, off, sp⟩ : Addr).add (i * 2)) = some (.int .i64 q.1) ∧ W.cell? ((⟨b, off, sp⟩ : Addr).add (i * 2 + 1)) = some (.bool q.2) := by
      intro i hi
      obtain ⟨h1, h2, h3, h4⟩ := hx i (by omega)
      obtain ⟨z, e1, _, _⟩ := DataW.trod_int Try.underlying3 h3
      obtain ⟨b, e2, _⟩ := DataW.trod_bool Try.underlying4 h4
      simp only [List.cons.injEq, and_true] at e1 e2
      exact ⟨(z, b), by rw [h1, e1], by rw [h2, e2]⟩
    obtain ⟨q, hq⟩ := choose_lt ex
    refine ⟨some ⟨b, off, sp⟩, m, b, off, (List.range l0).map q, by simp, by simp; omega, Fl.ofC ?_ ?_⟩
    · intro h0
      simp at h0
      have := spot_none (by omega) (hq 0 h0).1
      rw [this]
    · intro i hi
      simp at hi
      obtain ⟨h1, h2⟩ := hq i hi
      have := spot_none (by omega) (hq 0 (by omega)).1
      subst this
      rw [add_none] at h1 h2
      simp only [List.getElem_map, List.getElem_range]
      exact ⟨h1, by rw [Nat.add_assoc]; exact h2⟩
theorem open_vals {H : Type} {enc : TypeId × Value → H} {W : World} {v : Value} {d : DataW H} {p : List MemPlace} {A0 : Option Addr} {l0 c0 : Nat} (hv : v = .slice A0 l0 c0) (h : DataW.Trod enc Try.prog W 0 (fun _ => true) true 85 v d p) :
    ∃ (A : Option Addr) (cap g o : Nat) (vs : List VT), v = .slice A vs.length cap ∧ vs.length ≤ maxLen ∧ (∀ i (h : i < vs.length), vs[i].2.2.size ≤ maxLen) ∧ Fl W g o A (flatV vs) := by
  obtain ⟨fuel, hf⟩ := h
  have hce : Try.prog.cellsOf 98 = 3 := by kernel_rfl
  have k0 : Try.prog.cellsOf 3 = 1 := by kernel_rfl
  have k1 : Try.prog.cellsOf 9 = 1 := by kernel_rfl
  rcases open_slice Try.underlying85 hf with ⟨hcs, _⟩ | ⟨a, len, cap, m, n, D, Pl, hcs, _, hl, hm, hmm, _, hx⟩
  · subst hv
    simp [Value.cells] at hcs
    obtain ⟨rfl, rfl, rfl⟩ := hcs
    exact ⟨none, 0, 0, 0, [], rfl, Nat.zero_le _, fun i hi => absurd hi (by simp), ⟨fun hp => absurd hp (by simp [flatV]), fun j hj => absurd hj (by simp [flatV])⟩⟩
  · subst hv
    simp [Value.cells] at hcs
    obtain ⟨rfl, rfl, rfl⟩ := hcs
    simp only [if_true] at hmm
    subst hmm
    obtain ⟨b, off, sp⟩ := a
    have ex : ∀ i, i < l0 → ∃ q : VT, q.2.2.size ≤ maxLen ∧ W.cell? ((⟨b, off, sp⟩ : Addr).add (i * 3)) = some (.int .i64 q.1) ∧ W.cell? ((⟨b, off, sp⟩ : Addr).add (i * 3 + 1)) = some (.int .i64 q.2.1) ∧ W.cell? ((⟨b, off, sp⟩ : Addr).add (i * 3 + 2)) = some (.string q.2.2) := by
      intro i hi
      obtain ⟨cs', h1, h2⟩ := hx i (by omega)
      rw [hce] at h1
      obtain ⟨_, hlen, hcell⟩ := World.cells?_some h1
      obtain ⟨y0, y1, y2, n', _, _, g0, g1, g2⟩ := trod_struct3 Try.underlying98 h2
      obtain ⟨u0, u1, u2, rfl⟩ := three_of hlen
      simp only [k0, k1] at g0 g1 g2
      obtain ⟨z0, e0, _, _⟩ := DataW.trod_int Try.underlying3 g0
      obtain ⟨z1, e1, _, _⟩ := DataW.trod_int Try.underlying3 g1
      obtain ⟨z2, e2, _, hz⟩ := DataW.trod_string Try.underlying9 g2
      simp at e0 e1 e2
      have c0 := hcell 0 (by omega)
      have c1 := hcell 1 (by omega)
      have c2 := hcell 2 (by omega)
      rw [add_add] at c0 c1 c2
      exact ⟨(z0, z1, z2), hz, by simpa [e0] using c0, by simpa [e1] using c1, by simpa [e2] using c2⟩
    obtain ⟨q, hq⟩ := choose_lt ex
    refine ⟨some ⟨b, off, sp⟩, m, b, off, (List.range l0).map q, by simp, by simp; omega, ?_, Fl.ofV ?_ ?_⟩
    · intro i hi
      simp at hi
      simp only [List.getElem_map, List.getElem_range]
      exact (hq i hi).1
    · intro h0
      simp at h0
      have := spot_none (by omega) (hq 0 h0).2.1
      rw [this]
    · intro i hi
      simp at hi
      obtain ⟨-, h1, h2, h3⟩ := hq i hi
      have := spot_none (by omega) (hq 0 (by omega)).2.1
      subst this
      rw [add_none] at h1 h2 h3
      simp only [List.getElem_map, List.getElem_range]
      exact ⟨h1, by rw [Nat.add_assoc]; exact h2, by rw [Nat.add_assoc]; exact h3⟩
end Go.Proofs.Ytjidkjnlnenmbaa.Val
