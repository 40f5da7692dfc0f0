/- What a tidy plan needs of a plan: kinds, uses. -/
import Derived.Test.YtacinjbaebimhaaTidSQ
namespace Go.Proofs.Ytacinjbaebimhaa.Val
open Go.RowKit
set_option linter.unusedSimpArgs false
set_option linter.unusedVariables false
set_option maxRecDepth 8000
theorem colS_kinds {tb : List TB} {ah : List (List CT)} {s : SP} {c : List CT} (h : colS tb ah s = some c) : s.1 = 1 ∨ s.1 = 2 ∨ s.1 = 3 ∨ s.1 = 4 ∨ s.1 = 5 ∨ s.1 = 6 := by
  unfold colS at h
  split at h
  · cases h
  split at h
  · exact .inl (by assumption)
  split at h
  · cases h
  split at h
  · exact .inr (.inl (by assumption))
  split at h
  · exact .inr (.inr (.inl (by assumption)))
  split at h
  · exact .inr (.inr (.inr (.inl (by assumption))))
  split at h
  · exact .inr (.inr (.inr (.inr (.inl (by assumption)))))
  split at h
  · exact .inr (.inr (.inr (.inr (.inr (by assumption)))))
  · cases h
theorem plan_kinds {tb : List TB} {p : List SP} (h : planB tb p = true) (k : Nat) (hk : k < p.length) : p[k].1 = 1 ∨ p[k].1 = 2 ∨ p[k].1 = 3 ∨ p[k].1 = 4 ∨ p[k].1 = 5 ∨ p[k].1 = 6 := by
  obtain ⟨⟨st, hs⟩, -⟩ := planB_iff.1 h
  have hp := allI_pre (by rw [hs]; rfl : (allI tb p).isSome = true) (k + 1)
  rw [allI_take tb p k hk] at hp
  rcases hq : allI tb (p.take k) with _ | s0
  · rw [hq] at hp; cases hp
  · rw [hq] at hp
    obtain ⟨s1, h1⟩ := Option.isSome_iff_exists.1 hp
    obtain ⟨c, hc, -, -⟩ := stepS_some (st := s0) h1
    exact colS_kinds hc
theorem plcL_at (p : List SP) (U : List Bool) (n j : Nat) (hj : j < n) : (plcL p U n).getD j 0 = ((leftL p U j).length : Int) := by
  induction n with
  | zero => omega
  | succ n ih =>
    rw [plcL]
    by_cases h : j < n
    · rw [getD_app_left (by rw [plcL_len]; exact h)]; exact ih h
    · obtain rfl : j = n := by omega
      rw [getD_app_one (by rw [plcL_len])]
/-- What loop 2 of the reference needs of each step that is used. -/
def TidyAt (p : List SP) (U : List Bool) (k : Nat) (s : SP) : Prop := (s.1 = 1 ∧ asksI s.1 = 0) ∨ (s.1 ≠ 1 ∧ s.1 ≠ 4 ∧ s.1 ≠ 5 ∧ asksI s.1 = 1 ∧ ∃ a : Nat, s.2.1 = (a : Int) ∧ a < k ∧ U.getD a false = true) ∨ ((s.1 = 4 ∨ s.1 = 5) ∧ asksI s.1 = 2 ∧ ∃ a b : Nat, s.2.1 = (a : Int) ∧ s.2.2.1 = (b : Int) ∧ a < k ∧ b < k ∧ U.getD a false = true ∧ U.getD b false = true)
end Go.Proofs.Ytacinjbaebimhaa.Val
