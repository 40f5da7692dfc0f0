/- Arguments that are lists of columns, of values: opened to flat cells. -/
import Derived.Test.YtcgjnilkbdamjabFl
import Derived.Deep.SlicePairs
import Derived.Deep.Strs
import Derived.ProofKit
import Derived.OpenShut
import Derived.ChangeOld
namespace Go.Proofs.Ytcgjnilkbdamjab.Val
open Go.ChangeShapes Go.WideShapes Go.ChangeAt Go.RowKit Go.Deep
set_option linter.unusedVariables false
theorem Fl.ofC {w : World} {g o : Nat} {A : Option Addr} {cs : List CT} (h0 : 0 < cs.length → A = some ⟨g, o, none⟩) (h : ∀ i (hi : i < cs.length), w.cell? ⟨g, o + i * 2, none⟩ = some (.int .i64 cs[i].1) ∧ w.cell? ⟨g, o + i * 2 + 1, none⟩ = some (.bool cs[i].2)) : Fl w g o A (flatC cs) := by
  have hl := flatC_len cs
  refine ⟨fun hp => h0 (by omega), fun j hj => ?_⟩
  have hi : j / 2 < cs.length := by omega
  have hc := h (j / 2) hi
  have hg := flatC_get cs (j / 2) hi
  rcases (by omega : j = j / 2 * 2 ∨ j = j / 2 * 2 + 1) with e | e
  · rw [← e] at hc hg
    rw [hc.1, ← hg.1, List.getElem?_eq_getElem hj]
  · rw [Nat.add_assoc, ← e] at hc; rw [← e] at hg
    rw [hc.2, ← hg.2, List.getElem?_eq_getElem hj]
theorem Fl.ofV {w : World} {g o : Nat} {A : Option Addr} {vs : List VT} (h0 : 0 < vs.length → A = some ⟨g, o, none⟩) (h : ∀ i (hi : i < vs.length), w.cell? ⟨g, o + i * 3, none⟩ = some (.int .i64 vs[i].1) ∧ w.cell? ⟨g, o + i * 3 + 1, none⟩ = some (.int .i64 vs[i].2.1) ∧ w.cell? ⟨g, o + i * 3 + 2, none⟩ = some (.string vs[i].2.2)) : Fl w g o A (flatV vs) := by
  have hl := flatV_len vs
  refine ⟨fun hp => h0 (by omega), fun j hj => ?_⟩
  have hi : j / 3 < vs.length := by omega
  have hc := h (j / 3) hi
  have hg := flatV_get vs (j / 3) hi
  rcases (by omega : j = j / 3 * 3 ∨ j = j / 3 * 3 + 1 ∨ j = j / 3 * 3 + 2) with e | e | e
  · rw [← e] at hc hg
    rw [hc.1, ← hg.1, List.getElem?_eq_getElem hj]
  · rw [Nat.add_assoc, ← e] at hc; rw [← e] at hg
    rw [hc.2.1, ← hg.2.1, List.getElem?_eq_getElem hj]
  · rw [Nat.add_assoc o (j / 3 * 3) 2, ← e] at hc; rw [← e] at hg
    rw [hc.2.2, ← hg.2.2, List.getElem?_eq_getElem hj]
theorem spot_none {w : World} {b off : Nat} {sp} {i : Nat} {v : Value} (hi : i = 0) (h : w.cell? ((⟨b, off, sp⟩ : Addr).add i) = some v) : sp = none := by
  subst hi
  exact World.cell?_spot h
theorem add_none (b off i : Nat) : (⟨b, off, none⟩ : Addr).add i = ⟨b, off + i, none⟩ := by
  unfold Addr.add; split
  · rename_i h; simp_all
  · rfl
theorem three_of {α : Type} {l : List α} (h : l.length = 3) : ∃ a b c, l = [a, b, c] := by
  rcases l with _ | ⟨a, _ | ⟨b, _ | ⟨c, _ | ⟨d, l⟩⟩⟩⟩
  · simp at h
  · simp at h
  · simp at h
  · exact ⟨a, b, c, rfl⟩
  · simp at h
end Go.Proofs.Ytcgjnilkbdamjab.Val
