/- ValueFrom (spec): what it leaves. -/
import Derived.Test.YtlkdcijacjdneaaWVB
import Derived.Test.YtlkdcijacjdneaaToB
namespace Go.Proofs.Ytlkdcijacjdneaa.Val
open Go.RowKit
set_option linter.unusedVariables false
def vN (l : List UInt8) : Int := if bAt l 0 = 1 ∧ 2 < l.length then 256 * bAt l 1 + bAt l 2 - 10000 else if bAt l 0 = 3 ∧ 1 < l.length then bAt l 1 else 0
def vS (l : List UInt8) : List UInt8 := if bAt l 0 = 2 ∧ 1 < l.length ∧ 2 + bAt l 1 ≤ l.length then (l.drop 2).take (bAt l 1).toNat else []
def vL (l : List UInt8) : List UInt8 := bytesL (bAt l 0) (vN l) ⟨(vS l).toArray⟩
theorem tak_v {l : List UInt8} {k n : Int} {s : List UInt8} {m : Nat} (h : takO l = some (k, n, s, m)) : k = bAt l 0 ∧ n = vN l ∧ s = vS l := by
  unfold takO at h
  by_cases h0 : l.length = 0
  · rw [if_pos h0] at h; cases h
  rw [if_neg h0] at h
  by_cases a0 : bAt l 0 = 0
  · rw [if_pos a0] at h
    simp only [Option.some.injEq, Prod.mk.injEq] at h; obtain ⟨rfl, rfl, rfl, rfl⟩ := h
    refine ⟨a0.symm, ?_, ?_⟩
    · unfold vN; rw [if_neg (by omega), if_neg (by omega)]
    · unfold vS; rw [if_neg (by omega)]
  rw [if_neg a0] at h
  by_cases a1 : bAt l 0 = 1
  · rw [if_pos a1] at h
    by_cases hl : l.length < 3
    · rw [if_pos hl] at h; cases h
    rw [if_neg hl] at h
    simp only [Option.some.injEq, Prod.mk.injEq] at h; obtain ⟨rfl, rfl, rfl, rfl⟩ := h
    refine ⟨a1.symm, ?_, ?_⟩
    · unfold vN; rw [if_pos ⟨a1, by omega⟩]; omega
    · unfold vS; rw [if_neg (by omega)]
  rw [if_neg a1] at h
  by_cases a2 : bAt l 0 = 2
  · rw [if_pos a2] at h
    by_cases hl : l.length < 2
    · rw [if_pos hl] at h; cases h
    rw [if_neg hl] at h
    by_cases hc : 6 < bAt l 1 ∨ (l.length : Int) < 2 + bAt l 1
    · rw [if_pos hc] at h; cases h
    rw [if_neg hc] at h
    simp only [Option.some.injEq, Prod.mk.injEq] at h; obtain ⟨rfl, rfl, rfl, rfl⟩ := h
    refine ⟨a2.symm, ?_, ?_⟩
    · unfold vN; rw [if_neg (by omega), if_neg (by omega)]
    · unfold vS; rw [if_pos ⟨a2, by omega, by omega⟩]
  rw [if_neg a2] at h
  by_cases a3 : bAt l 0 = 3
  · rw [if_pos a3] at h
    by_cases hl : l.length < 2
    · rw [if_pos hl] at h; cases h
    rw [if_neg hl] at h
    simp only [Option.some.injEq, Prod.mk.injEq] at h; obtain ⟨rfl, rfl, rfl, rfl⟩ := h
    refine ⟨a3.symm, ?_, ?_⟩
    · unfold vN; rw [if_neg (by omega), if_pos ⟨a3, by omega⟩]
    · unfold vS; rw [if_neg (by omega)]
  rw [if_neg a3] at h
  cases h
theorem bytes_no' {k n : Int} {s : ByteArray} (h : okB k n s = false) : (bytesL k n s).length = 0 := by simp [bytesL, h]
theorem from_v_none {l : List UInt8} (h : (vL l).length = 0 ∨ l.length < (vL l).length ∨ vL l ≠ l.take (vL l).length) : fromO l = none := by
  rcases hf : fromO l with _ | ⟨k, n, s, m⟩
  · rfl
  exfalso
  obtain ⟨ho, hb, h0, hm⟩ := from_some hf
  have ht : takO l = some (k, n, s, m) := by
    unfold fromO at hf
    rcases hh : takO l with _ | ⟨k', n', s', m'⟩
    · rw [hh] at hf; cases hf
    · rw [hh] at hf
      simp only at hf
      split at hf
      · exact hf
      · cases hf
  obtain ⟨rfl, rfl, rfl⟩ := tak_v ht
  have hL : vL l = l.take m := hb
  have hlen : (vL l).length = m := by rw [hL, List.length_take]; omega
  rcases h with h | h | h
  · omega
  · omega
  · exact h (by rw [hlen]; exact hL)
theorem from_v_some {l : List UInt8} (h0 : (vL l).length ≠ 0) (h : vL l = l.take (vL l).length) : fromO l = some (bAt l 0, vN l, vS l, (vL l).length) := by
  have hok : okB (bAt l 0) (vN l) ⟨(vS l).toArray⟩ = true := by
    cases hh : okB (bAt l 0) (vN l) ⟨(vS l).toArray⟩
    · exfalso; apply h0; unfold vL; exact bytes_no' hh
    · rfl
  have e : l = vL l ++ l.drop (vL l).length := by
    conv => lhs; rw [← List.take_append_drop (vL l).length l]
    rw [← h]
  have := from_bytes (bAt l 0) (vN l) ⟨(vS l).toArray⟩ hok (l.drop (vL l).length)
  rw [show bytesL (bAt l 0) (vN l) ⟨(vS l).toArray⟩ = vL l from rfl, ← e] at this
  simpa using this
end Go.Proofs.Ytlkdcijacjdneaa.Val
