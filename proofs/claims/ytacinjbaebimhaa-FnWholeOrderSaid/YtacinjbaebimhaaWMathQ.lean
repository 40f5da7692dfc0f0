/- Expressions that were put together: what laws of truths say of their values. -/
import Derived.Test.YtacinjbaebimhaaDrawXQ
namespace Go.Proofs.Ytacinjbaebimhaa.Val
set_option linter.unusedVariables false
set_option linter.unusedSimpArgs false
theorem xval_same {cs : List CT} {row : List VT} {a b : List PT} {k1 k2 : Int} (h1 : runK cs a [] = some [k1]) (h2 : runK cs b [] = some [k2]) (hk1 : 0 ≤ k1) (hk2 : 0 ≤ k2) (hl1 : a.length ≤ 12) (hl2 : b.length ≤ 12) (hv : fitB cs row = true → runV row a [] = runV row b []) : xvalI cs row a = xvalI cs row b := by
  by_cases hf : fitB cs row = true
  · have hc : colB cs = true := by simp only [fitB, Bool.and_eq_true] at hf; exact hf.1.1.1
    have e1 : kindI cs a = k1 := by unfold kindI; rw [if_pos ⟨hc, hl1⟩, h1]; rfl
    have e2 : kindI cs b = k2 := by unfold kindI; rw [if_pos ⟨hc, hl2⟩, h2]; rfl
    unfold xvalI
    rw [e1, e2, if_neg (by rw [hf]; simp; omega), if_neg (by rw [hf]; simp; omega), hv hf]
  · have hf2 : fitB cs row = false := by simpa using hf
    rw [xval_nil (.inr hf2), xval_nil (.inr hf2)]
theorem put_down {cs : List CT} {row : List VT} {ps : List PT} {k : Int} (hr : ∀ st, runK cs ps st = some (k :: st)) (hf : fitB cs row = true) : ∃ v, TypV v k ∧ ∀ us, runV row ps us = v :: us := by
  have ht := run_typ hf ps (st := []) (vs := []) trivial (hr [])
  rcases hv : runV row ps [] with _ | ⟨v, _ | ⟨u, us⟩⟩
  · rw [hv] at ht; exact absurd ht (by simp [Typ])
  · rw [hv] at ht
    refine ⟨v, ht.1, fun us => ?_⟩
    have := runV_app hf ps (st := []) (vs := []) us trivial (hr [])
    rw [List.nil_append, hv] at this
    exact this
  · rw [hv] at ht; exact absurd ht.2 (by simp [Typ])
theorem tv_of {v : VT} (h : TypV v 3) : ∃ t : Int, (t = 0 ∨ t = 1 ∨ t = 2) ∧ v = ofT t := by
  obtain ⟨k, n, s⟩ := v
  obtain ⟨ho, hk⟩ := h
  have ho : okB k n s = true := ho
  rcases ok_cases k n s with h1 | ⟨rfl, rfl, he, h1⟩ | ⟨rfl, -⟩ | ⟨rfl, -⟩ | ⟨rfl, rfl, he, h1⟩ | ⟨rfl, rfl, he, h1⟩
  · rw [ho] at h1; cases h1
  · exact ⟨2, .inr (.inr rfl), by rw [bytes_none he]; rfl⟩
  · simp at hk
  · simp at hk
  · exact ⟨0, .inl rfl, by rw [bytes_none he]; rfl⟩
  · exact ⟨1, .inr (.inl rfl), by rw [bytes_none he]; rfl⟩
theorem toT_of {t : Int} (h : t = 0 ∨ t = 1 ∨ t = 2) : toT (ofT t) = t := by
  rcases h with rfl | rfl | rfl <;> simp [toT, ofT, toI, okB, nilV]
theorem run_bin {cs : List CT} {a b : List PT} {k : Int} (ha : ∀ st, runK cs a st = some (3 :: st)) (hb : ∀ st, runK cs b st = some (3 :: st)) (hk : k = 5 ∨ k = 6) : ∀ st, runK cs (a ++ b ++ [(k, 0, nilV)]) st = some (3 :: st) := fun st => run_two (run_two (ha st) (hb _)) (run_one (step_and hk st))
theorem run_neg {cs : List CT} {a : List PT} (ha : ∀ st, runK cs a st = some (3 :: st)) : ∀ st, runK cs (a ++ [(7, 0, nilV)]) st = some (3 :: st) := fun st => run_two (ha st) (run_one (step_seven st))
theorem val_bin {row : List VT} {a b : List PT} {k : Int} {p q : Int} (ha : ∀ us, runV row a us = ofT p :: us) (hb : ∀ us, runV row b us = ofT q :: us) (hp : p = 0 ∨ p = 1 ∨ p = 2) (hq : q = 0 ∨ q = 1 ∨ q = 2) (hk : k = 5 ∨ k = 6) : ∀ us, runV row (a ++ b ++ [(k, 0, nilV)]) us = ofT (if k = 5 then andI p q else orI p q) :: us := by
  intro us
  rw [runV_cat, runV_cat, ha, hb]
  rcases hk with rfl | rfl <;> simp [runV, stepV, binV, toT_of hp, toT_of hq]
theorem val_neg {row : List VT} {a : List PT} {p : Int} (ha : ∀ us, runV row a us = ofT p :: us) (hp : p = 0 ∨ p = 1 ∨ p = 2) : ∀ us, runV row (a ++ [(7, 0, nilV)]) us = ofT (notI p) :: us := by
  intro us
  rw [runV_cat, ha]
  simp [runV, stepV, toT_of hp]
theorem turned {cs : List CT} {row : List VT} {a b : List PT} {k : Int} (ha : ∀ st, runK cs a st = some (3 :: st)) (hb : ∀ st, runK cs b st = some (3 :: st)) (hk : k = 5 ∨ k = 6) (hl : a.length + b.length + 1 ≤ 12) : xvalI cs row (a ++ b ++ [(k, 0, nilV)]) = xvalI cs row (b ++ a ++ [(k, 0, nilV)]) := by
  refine xval_same (k1 := 3) (k2 := 3) (run_bin ha hb hk []) (run_bin hb ha hk []) (by omega) (by omega) (by simp; omega) (by simp; omega) (fun hf => ?_)
  obtain ⟨va, hta, hva⟩ := put_down ha hf
  obtain ⟨vb, htb, hvb⟩ := put_down hb hf
  obtain ⟨p, hp, rfl⟩ := tv_of hta
  obtain ⟨q, hq, rfl⟩ := tv_of htb
  rw [val_bin hva hvb hp hq hk [], val_bin hvb hva hq hp hk []]
  rcases hk with rfl | rfl <;> rcases hp with rfl | rfl | rfl <;> rcases hq with rfl | rfl | rfl <;> rfl
theorem comp_ok {k k1 n1 k2 n2 : Int} {s1 s2 : ByteArray} (hk : 1 ≤ k ∧ k ≤ 4) (h1 : okB k1 n1 s1 = true) (h2 : okB k2 n2 s2 = true) : compI k k1 n1 s1 k2 n2 s2 = if k1 = 0 ∨ k2 = 0 then 2 else if k1 ≠ k2 then -1 else if holdB k (ordI k1 n1 s1 k2 n2 s2) = true then 1 else 0 := by
  unfold compI
  rw [if_neg (by rw [h1, h2]; simp; omega)]
theorem less_most {va vb : VT} (ha : TypV va 1) (hb : TypV vb 1) : ofT (compI 3 va.1 va.2.1 va.2.2 vb.1 vb.2.1 vb.2.2) = ofT (notI (toT (ofT (compI 4 vb.1 vb.2.1 vb.2.2 va.1 va.2.1 va.2.2)))) := by
  obtain ⟨k1, n1, s1⟩ := va
  obtain ⟨k2, n2, s2⟩ := vb
  obtain ⟨ho1, hk1⟩ := ha
  obtain ⟨ho2, hk2⟩ := hb
  have ho1 : okB k1 n1 s1 = true := ho1
  have ho2 : okB k2 n2 s2 = true := ho2
  simp only at hk1 hk2 ⊢
  have ht := ordI_turn k1 n1 k2 n2 s1 s2
  have hbd := ordI_bd k1 n1 k2 n2 s1 s2
  rw [comp_ok (by omega) ho1 ho2, comp_ok (by omega) ho2 ho1]
  by_cases h0 : k1 = 0 ∨ k2 = 0
  · rw [if_pos h0, if_pos (by omega)]
    rw [toT_of (.inr (.inr rfl))]
    rfl
  · rw [if_neg h0, if_neg (by omega)]
    have e1 : k1 = 1 := by omega
    have e2 : k2 = 1 := by omega
    subst e1 e2
    simp only [ne_eq, not_true_eq_false, if_false]
    rw [ht]
    generalize ordI 1 n1 s1 1 n2 s2 = z at *
    by_cases hz : z < 0
    · have h4 : ¬ (-z ≤ 0) := by omega
      simp only [holdB, hz, h4, decide_true, decide_false]
      simp [toT, ofT, toI, okB, notI]
    · have h4 : -z ≤ 0 := by omega
      simp only [holdB, hz, h4, decide_true, decide_false]
      simp [toT, ofT, toI, okB, notI]
theorem less {cs : List CT} {row : List VT} {a b : List PT} (ha : ∀ st, runK cs a st = some (1 :: st)) (hb : ∀ st, runK cs b st = some (1 :: st)) (hl : a.length + b.length + 2 ≤ 12) : xvalI cs row (a ++ b ++ [(4, 3, nilV)]) = xvalI cs row (b ++ a ++ [(4, 4, nilV)] ++ [(7, 0, nilV)]) := by
  refine xval_same (k1 := 3) (k2 := 3) (run_two (run_two (ha []) (hb _)) (run_one (step_four (by omega) (by omega) []))) (run_neg (fun st => run_two (run_two (hb st) (ha _)) (run_one (step_four (by omega) (by omega) st))) []) (by omega) (by omega) (by simp; omega) (by simp; omega) (fun hf => ?_)
  obtain ⟨va, hta, hva⟩ := put_down ha hf
  obtain ⟨vb, htb, hvb⟩ := put_down hb hf
  rw [runV_cat, runV_cat, hva, hvb, runV_cat, runV_cat, runV_cat, hvb, hva]
  have := less_most hta htb
  simp [runV, stepV, binV]
  exact this
end Go.Proofs.Ytacinjbaebimhaa.Val
