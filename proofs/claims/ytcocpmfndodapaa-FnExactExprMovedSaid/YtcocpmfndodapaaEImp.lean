/- Expressions: a part by what it takes, its fields, and what it puts down (the plain functions of impl's ways). -/
import Derived.Test.YtcocpmfndodapaaEMath2
namespace Go.Proofs.Ytcocpmfndodapaa.Val
set_option linter.unusedVariables false
def takesI (k : Int) : Nat := if k = 3 ∨ k = 4 ∨ k = 5 ∨ k = 6 then 2 else if k = 7 ∨ k = 8 then 1 else 0
def fieldB (cs : List CT) (p : PT) : Bool :=
  if p.1 = 1 then decide (p.2.1 = 0) && (decide (p.2.2.1 ≠ 0) && okV p.2.2)
  else if isNil p.2.2 = false then false
  else if p.1 = 2 then decide (0 ≤ p.2.1) && decide (p.2.1 < cs.length)
  else if p.1 = 4 then decide (1 ≤ p.2.1) && decide (p.2.1 ≤ 4)
  else if p.1 = 3 ∨ p.1 = 5 ∨ p.1 = 6 ∨ p.1 = 7 ∨ p.1 = 8 then decide (p.2.1 = 0)
  else false
def putK (cs : List CT) (p : PT) (l : List Int) : Int :=
  if p.1 = 1 then p.2.2.1
  else if p.1 = 2 then colAt cs p.2.1
  else if p.1 = 3 then (if l.all (fun x => decide (x = 1)) = true then 1 else -1)
  else if p.1 = 4 then (if l.getD 0 0 = l.getD 1 0 then 3 else -1)
  else if p.1 = 5 ∨ p.1 = 6 ∨ p.1 = 7 then (if l.all (fun x => decide (x = 3)) = true then 3 else -1)
  else 3
def putV (row : List VT) (p : PT) (l : List VT) : VT :=
  if p.1 = 1 then p.2.2
  else if p.1 = 2 then row.getD p.2.1.toNat nilV
  else if p.1 = 7 then ofT (notI (toT (l.getD 0 nilV)))
  else if p.1 = 8 then ofT (if (l.getD 0 nilV).1 = 0 then 1 else 0)
  else binV p (l.getD 0 nilV) (l.getD 1 nilV)
theorem kind_eight (k : Int) : k = 1 ∨ k = 2 ∨ k = 3 ∨ k = 4 ∨ k = 5 ∨ k = 6 ∨ k = 7 ∨ k = 8 ∨ (k ≠ 1 ∧ k ≠ 2 ∧ k ≠ 3 ∧ k ≠ 4 ∧ k ≠ 5 ∧ k ≠ 6 ∧ k ≠ 7 ∧ k ≠ 8) := by omega
theorem fits_not {cs : List CT} {p : PT} {st : List Int} (h : fieldB cs p = false) : stepK cs p st = none := by
  obtain ⟨k, n, v⟩ := p
  unfold stepK
  by_cases hb : partBad (k, n, v) = true
  · rw [if_pos hb]
  rw [if_neg hb]
  simp only [partBad, Bool.or_eq_true, Bool.and_eq_true, decide_eq_true_eq, Bool.not_eq_true', not_or, not_and, Bool.not_eq_false] at hb
  simp only [fieldB] at h
  rcases kind_eight k with rfl | rfl | rfl | rfl | rfl | rfl | rfl | rfl | ⟨h1, h2, h3, h4, h5, h6, h7, h8⟩
  all_goals simp at h hb ⊢
  · intro ho; rw [hb] at h; have := h rfl; simp_all
  · have := h hb; omega
  all_goals first
    | (rcases st with _ | ⟨a, _ | ⟨b, q⟩⟩ <;> simp; done)
    | (have := h hb.1; simp_all; done)
    | (have := h hb; rcases st with _ | ⟨a, _ | ⟨b, q⟩⟩ <;> simp <;> intros <;> omega)
    | skip
  rcases st with _ | ⟨a, _ | ⟨b, q⟩⟩ <;> simp [h1, h2, h3, h4, h5, h6, h7, h8]
theorem few_not {cs : List CT} {p : PT} {st : List Int} (h : st.length < takesI p.1) : stepK cs p st = none := by
  obtain ⟨k, n, v⟩ := p
  unfold stepK
  split
  · rfl
  simp only [takesI] at h ⊢
  rcases kind_eight k with rfl | rfl | rfl | rfl | rfl | rfl | rfl | rfl | ⟨h1, h2, h3, h4, h5, h6, h7, h8⟩
  all_goals simp_all
  all_goals (rcases st with _ | ⟨a, _ | ⟨b, q⟩⟩ <;> simp_all <;> omega)
theorem step_put {cs : List CT} {p : PT} {st : List Int} (hc : colB cs = true) (h : takesI p.1 ≤ st.length) (hf : fieldB cs p = true) : stepK cs p st = if putK cs p (st.take (takesI p.1)).reverse < 0 then none else some (putK cs p (st.take (takesI p.1)).reverse :: st.drop (takesI p.1)) := by
  obtain ⟨k, n, v⟩ := p
  unfold stepK
  simp only [fieldB] at hf
  simp only [takesI] at h ⊢
  rcases kind_eight k with rfl | rfl | rfl | rfl | rfl | rfl | rfl | rfl | ⟨h1, h2, h3, h4, h5, h6, h7, h8⟩
  · simp at hf
    have hk := ok_kind hf.2.2
    have hneg : ¬ v.1 < 0 := by omega
    simp [partBad, putK, hf, hneg]
  · simp at hf
    obtain ⟨hv, hn⟩ := hf
    have hk := col_kind hc hn.1 hn.2
    have hneg : ¬ colAt cs n < 0 := by omega
    simp [partBad, putK, hv, hn, hneg]
  · simp at hf h
    obtain ⟨hv, rfl⟩ := hf
    rcases st with _ | ⟨a, _ | ⟨b, q⟩⟩
    · simp at h
    · simp at h
    · by_cases ha : a = 1 <;> by_cases hb : b = 1 <;> simp [partBad, putK, hv, ha, hb]
  · simp at hf h
    obtain ⟨hv, hn⟩ := hf
    rcases st with _ | ⟨a, _ | ⟨b, q⟩⟩
    · simp at h
    · simp at h
    · by_cases ha : a = b
      · subst ha; simp [partBad, putK, hv, hn]
      · have hb : ¬ b = a := fun e => ha e.symm
        simp [partBad, putK, hv, hn, ha, hb]
  · simp at hf h
    obtain ⟨hv, rfl⟩ := hf
    rcases st with _ | ⟨a, _ | ⟨b, q⟩⟩
    · simp at h
    · simp at h
    · by_cases ha : a = 3 <;> by_cases hb : b = 3 <;> simp [partBad, putK, hv, ha, hb]
  · simp at hf h
    obtain ⟨hv, rfl⟩ := hf
    rcases st with _ | ⟨a, _ | ⟨b, q⟩⟩
    · simp at h
    · simp at h
    · by_cases ha : a = 3 <;> by_cases hb : b = 3 <;> simp [partBad, putK, hv, ha, hb]
  · simp at hf h
    obtain ⟨hv, rfl⟩ := hf
    rcases st with _ | ⟨a, q⟩
    · simp at h
    · by_cases ha : a = 3 <;> simp [partBad, putK, hv, ha]
  · simp at hf h
    obtain ⟨hv, rfl⟩ := hf
    rcases st with _ | ⟨a, q⟩
    · simp at h
    · simp [partBad, putK, hv]
  · simp [h1, h2, h3, h4, h5, h6, h7, h8] at hf
theorem val_put {cs : List CT} {p : PT} {st st' : List Int} {row vs : List VT} (h : stepK cs p st = some st') (hl : vs.length = st.length) : stepV row p vs = putV row p (vs.take (takesI p.1)).reverse :: vs.drop (takesI p.1) := by
  have hf : fieldB cs p = true := by
    rcases hb : fieldB cs p with _ | _
    · rw [fits_not hb] at h; cases h
    · rfl
  have ht : takesI p.1 ≤ st.length := by
    rcases Nat.lt_or_ge st.length (takesI p.1) with h2 | h2
    · rw [few_not h2] at h; cases h
    · exact h2
  clear h
  rw [← hl] at ht
  obtain ⟨k, n, v⟩ := p
  simp only [fieldB] at hf
  simp only [takesI] at ht ⊢
  rcases kind_eight k with rfl | rfl | rfl | rfl | rfl | rfl | rfl | rfl | ⟨h1, h2, h3, h4, h5, h6, h7, h8⟩
  case inr.inr.inr.inr.inr.inr.inr.inr => simp [h1, h2, h3, h4, h5, h6, h7, h8] at hf
  all_goals first
    | (simp [stepV, putV]; done)
    | (rcases vs with _ | ⟨a, _ | ⟨b, q⟩⟩ <;> simp at ht <;> simp [stepV, putV]; done)
theorem takes_le (k : Int) : takesI k ≤ 2 := by unfold takesI; split; omega; split <;> omega
end Go.Proofs.Ytcocpmfndodapaa.Val
