/- Expressions: values, and what the laws ask of them. -/
import Derived.Test.YtcocpmfndodapaaEMath
import Derived.Test.YtcocpmfndodapaaAMath
namespace Go.Proofs.Ytcocpmfndodapaa.Val
set_option linter.unusedVariables false
def TypV (v : VT) (k : Int) : Prop := okV v = true ∧ (v.1 = 0 ∨ v.1 = k)
def Typ : List VT → List Int → Prop
  | [], [] => True
  | v :: vs, k :: ks => TypV v k ∧ Typ vs ks
  | _, _ => False
theorem Typ.len {vs : List VT} : ∀ {ks : List Int}, Typ vs ks → vs.length = ks.length := by
  induction vs with
  | nil => intro ks h; cases ks with | nil => rfl | cons k ks => exact absurd h (by simp [Typ])
  | cons v vs ih => intro ks h; cases ks with | nil => exact absurd h (by simp [Typ]) | cons k ks => simp [ih h.2]
theorem ok_nil : okV nilV = true := by simp [okV, nilV, okB]
theorem ok_of (t : Int) : okV (ofT t) = true := by
  unfold ofT; split
  · rename_i h; rcases h with rfl | rfl <;> simp [okV, okB]
  · exact ok_nil
theorem of_typ (t : Int) : TypV (ofT t) 3 := ⟨ok_of t, by unfold ofT; split <;> simp [nilV]⟩
theorem sum_typ (x y : VT) (k : Int) (hk : k = 1) : TypV (sumV x y) k := by
  subst hk
  unfold sumV; split
  · exact ⟨ok_nil, .inl rfl⟩
  · rename_i h
    have h2 : -9999 ≤ x.2.1 + y.2.1 ∧ x.2.1 + y.2.1 ≤ 9999 := by
      by_cases hh : -9999 ≤ x.2.1 + y.2.1 ∧ x.2.1 + y.2.1 ≤ 9999
      · exact hh
      · exact absurd (.inr (.inr hh)) h
    exact ⟨by simp [okV, okB, numB]; omega, .inr rfl⟩
theorem fit_at {cs : List CT} {row : List VT} (h : fitB cs row = true) {n : Int} (h0 : 0 ≤ n) (h1 : n < cs.length) : TypV (row.getD n.toNat nilV) (colAt cs n) := by
  simp only [fitB, Bool.and_eq_true, decide_eq_true_eq, List.all_eq_true] at h
  obtain ⟨⟨⟨h2, h3⟩, h4⟩, h5⟩ := h
  have hn : n.toNat < cs.length := by omega
  have hr : n.toNat < row.length := by omega
  have hz : n.toNat < (cs.zip row).length := by simp; omega
  have := h5 _ (List.getElem_mem hz)
  rw [List.getElem_zip] at this
  unfold colAt
  rw [List.getD_eq_getElem?_getD, List.getElem?_eq_getElem hr, List.getD_eq_getElem?_getD, List.getElem?_eq_getElem hn]
  simp only [rowB, Bool.and_eq_true, List.all_eq_true] at h3
  refine ⟨h3.2 _ (List.getElem_mem hr), ?_⟩
  simp only [takeB, Bool.or_eq_true, Bool.and_eq_true, decide_eq_true_eq] at this
  simp only [Option.getD_some]
  rcases this with h | h
  · exact .inr h
  · exact .inl h.2
theorem step_typ {cs : List CT} {row : List VT} {p : PT} {st st' : List Int} {vs : List VT} (hf : fitB cs row = true) (ht : Typ vs st) (h : stepK cs p st = some st') : Typ (stepV row p vs) st' := by
  unfold stepK at h
  split at h
  · cases h
  unfold stepV
  split at h
  · rename_i h1
    rw [if_pos h1]
    split at h
    · rename_i h2; cases h; exact ⟨⟨h2.1, .inr rfl⟩, ht⟩
    · cases h
  rename_i h1
  rw [if_neg h1]
  split at h
  · rename_i h2
    rw [if_pos h2]
    split at h
    · rename_i h3; cases h; exact ⟨fit_at hf h3.1 h3.2, ht⟩
    · cases h
  rename_i h2
  rw [if_neg h2]
  rcases st with _ | ⟨a, r⟩
  · cases h
  rcases vs with _ | ⟨v, us⟩
  · exact absurd ht (by simp [Typ])
  simp only at h ⊢
  split at h
  · rename_i h3; rw [if_pos h3]; cases h; exact ⟨of_typ _, ht.2⟩
  rename_i h3
  rw [if_neg h3]
  split at h
  · rename_i h4; rw [if_pos h4]
    split at h
    · rename_i h5; cases h; subst h5; exact ⟨of_typ _, ht.2⟩
    · cases h
  rename_i h4
  rw [if_neg h4]
  rcases r with _ | ⟨b, q⟩
  · cases h
  rcases us with _ | ⟨u, us⟩
  · exact absurd ht.2 (by simp [Typ])
  have hq := ht.2.2
  simp only at h ⊢
  unfold binV
  split at h
  · rename_i h5; rw [if_pos h5]
    split at h
    · cases h; exact ⟨sum_typ _ _ _ rfl, hq⟩
    · cases h
  rename_i h5; rw [if_neg h5]
  split at h
  · rename_i h6; rw [if_pos h6]
    split at h
    · cases h; exact ⟨of_typ _, hq⟩
    · cases h
  rename_i h6; rw [if_neg h6]
  split at h
  · split at h
    · cases h
      split
      · exact ⟨of_typ _, hq⟩
      · exact ⟨of_typ _, hq⟩
    · cases h
  · cases h
theorem runV_cons (row : List VT) (p : PT) (ps : List PT) (vs : List VT) : runV row (p :: ps) vs = runV row ps (stepV row p vs) := rfl
theorem runV_cat (row : List VT) (ps qs : List PT) (vs : List VT) : runV row (ps ++ qs) vs = runV row qs (runV row ps vs) := by unfold runV; rw [List.foldl_append]
theorem run_typ {cs : List CT} {row : List VT} (hf : fitB cs row = true) (ps : List PT) : ∀ {st st' : List Int} {vs : List VT}, Typ vs st → runK cs ps st = some st' → Typ (runV row ps vs) st' := by
  induction ps with
  | nil => intro st st' vs ht h; rw [runK] at h; cases h; exact ht
  | cons p ps ih =>
    intro st st' vs ht h
    rw [runK] at h
    rcases hs : stepK cs p st with _ | s1
    · rw [hs] at h; cases h
    · rw [hs] at h
      exact ih (step_typ hf ht hs) h
theorem stepV_app {cs : List CT} {row : List VT} {p : PT} {st st' : List Int} {vs : List VT} (x : List VT) (hl : vs.length = st.length) (h : stepK cs p st = some st') : stepV row p (vs ++ x) = stepV row p vs ++ x := by
  unfold stepK at h
  split at h
  · cases h
  unfold stepV
  split at h
  · rename_i h1; rw [if_pos h1, if_pos h1]; rfl
  rename_i h1
  rw [if_neg h1, if_neg h1]
  split at h
  · rename_i h2; rw [if_pos h2, if_pos h2]; rfl
  rename_i h2
  rw [if_neg h2, if_neg h2]
  rcases st with _ | ⟨a, r⟩
  · cases h
  rcases vs with _ | ⟨v, us⟩
  · cases hl
  simp only [List.cons_append] at h ⊢
  split
  · rfl
  rename_i h3
  rw [if_neg h3] at h
  split
  · rfl
  rename_i h4
  rw [if_neg h4] at h
  rcases r with _ | ⟨b, q⟩
  · cases h
  rcases us with _ | ⟨u, us⟩
  · simp at hl
  rfl
theorem runV_app {cs : List CT} {row : List VT} (hf : fitB cs row = true) (ps : List PT) : ∀ {st st' : List Int} {vs : List VT} (x : List VT), Typ vs st → runK cs ps st = some st' → runV row ps (vs ++ x) = runV row ps vs ++ x := by
  induction ps with
  | nil => intro st st' vs x ht h; rfl
  | cons p ps ih =>
    intro st st' vs x ht h
    rw [runK] at h
    rcases hs : stepK cs p st with _ | s1
    · rw [hs] at h; cases h
    · rw [hs] at h
      rw [runV_cons, runV_cons, stepV_app x ht.len hs]
      exact ih x (step_typ hf ht hs) h
/-- The value of an expression. -/
theorem xval_of {cs : List CT} {row : List VT} {ps : List PT} (h : ¬ kindI cs ps < 0) (hf : fitB cs row = true) : runV row ps [] = [xvalI cs row ps] ∧ TypV (xvalI cs row ps) (kindI cs ps) := by
  obtain ⟨-, -, hr, -, -⟩ := kind_some h
  have ht := run_typ hf ps (vs := []) (st := []) trivial hr
  have hv : xvalI cs row ps = (runV row ps []).headD nilV := by unfold xvalI; rw [if_neg (by rintro (h1 | h1); exact h h1; rw [hf] at h1; cases h1)]
  rw [hv]
  rcases hv2 : runV row ps [] with _ | ⟨v, us⟩
  · rw [hv2] at ht; exact absurd ht (by simp [Typ])
  · rw [hv2] at ht
    rcases us with _ | ⟨u, us⟩
    · exact ⟨rfl, ht.1⟩
    · exact absurd ht.2 (by simp [Typ])
theorem xval_nil {cs : List CT} {row : List VT} {ps : List PT} (h : kindI cs ps < 0 ∨ fitB cs row = false) : xvalI cs row ps = nilV := by unfold xvalI; rw [if_pos h]
theorem isYes_of (t : Int) : isYes (ofT t) = decide (t = 1) := by
  unfold ofT; split
  · rename_i h; rcases h with rfl | rfl <;> simp [isYes]
  · rename_i h; have : t ≠ 1 := by omega
    simp [isYes, nilV, this]
theorem comp_self (v : VT) (h : okV v = true) : compI 1 v.1 v.2.1 v.2.2 v.1 v.2.1 v.2.2 = if v.1 = 0 then 2 else 1 := by
  obtain ⟨k, n, s⟩ := v
  have ho : okB k n s = true := h
  unfold compI
  rw [if_neg (by rw [ho]; simp)]
  by_cases hk : k = 0
  · simp [hk]
  · simp only [hk, or_self, if_false]
    rw [if_neg (by simp), (ordI_zero k n k n s s ho ho).2 ⟨rfl, rfl, rfl⟩]
    simp [holdB]
theorem holds_twice {cs : List CT} {row : List VT} {ps : List PT} (h : ¬ kindI cs ps < 0) (hf : fitB cs row = true) (hl : (ps ++ ps ++ [cmpP]).length ≤ 12) : holdsI cs row (ps ++ ps ++ [cmpP]) = decide ((xvalI cs row ps).1 ≠ 0) := by
  obtain ⟨hr2, hk⟩ := kind_twice h hl
  obtain ⟨hv, ht⟩ := xval_of h hf
  obtain ⟨-, -, hr, -, -⟩ := kind_some h
  obtain ⟨hv2, -⟩ := xval_of (show ¬ kindI cs (ps ++ ps ++ [cmpP]) < 0 by omega) hf
  have e : runV row (ps ++ ps ++ [cmpP]) [] = [ofT (compI 1 (xvalI cs row ps).1 (xvalI cs row ps).2.1 (xvalI cs row ps).2.2 (xvalI cs row ps).1 (xvalI cs row ps).2.1 (xvalI cs row ps).2.2)] := by
    rw [runV_cat, runV_cat, hv]
    have := runV_app hf ps (st := []) (vs := []) [xvalI cs row ps] trivial hr
    rw [List.nil_append] at this
    rw [this, hv]
    rfl
  rw [e] at hv2
  have hv3 := (List.cons.inj hv2).1
  unfold holdsI
  rw [hk, ← hv3, isYes_of, comp_self _ ht.1]
  by_cases h0 : (xvalI cs row ps).1 = 0 <;> simp [h0]
theorem truth_cases {v : VT} (h : TypV v 3) : (v.1 = 0 ∧ toT v = 2 ∧ isYes v = false) ∨ (v.1 = 3 ∧ v.2.1 = 0 ∧ toT v = 0 ∧ isYes v = false) ∨ (v.1 = 3 ∧ v.2.1 = 1 ∧ toT v = 1 ∧ isYes v = true) := by
  obtain ⟨k, n, s⟩ := v
  obtain ⟨ho, hk⟩ := h
  have ho : okB k n s = true := ho
  rcases ok_cases k n s with h1 | ⟨rfl, rfl, he, h1⟩ | ⟨rfl, -⟩ | ⟨rfl, -⟩ | ⟨rfl, rfl, he, h1⟩ | ⟨rfl, rfl, he, h1⟩
  · rw [ho] at h1; cases h1
  · exact .inl ⟨rfl, by simp [toT, toI, ho], by simp [isYes]⟩
  · simp at hk
  · simp at hk
  · exact .inr (.inl ⟨rfl, rfl, by simp [toT, toI, ho], by simp [isYes]⟩)
  · exact .inr (.inr ⟨rfl, rfl, by simp [toT, toI, ho], by simp [isYes, he]⟩)
/-- Just one of the three. -/
theorem holds_three {cs : List CT} {row : List VT} {ps : List PT} (h : kindI cs ps = 3) (hf : fitB cs row = true) (hl : ps.length + 1 ≤ 12) : ∃ v : VT, TypV v 3 ∧ holdsI cs row ps = isYes v ∧ holdsI cs row (ps ++ [notP]) = decide (notI (toT v) = 1) ∧ holdsI cs row (ps ++ [noneP]) = decide (v.1 = 0) := by
  have h0 : ¬ kindI cs ps < 0 := by omega
  obtain ⟨-, hk1⟩ := kind_not h (by simpa using hl)
  obtain ⟨-, hk2⟩ := kind_none h0 (by simpa using hl)
  obtain ⟨hv, ht⟩ := xval_of h0 hf
  obtain ⟨hv1, -⟩ := xval_of (show ¬ kindI cs (ps ++ [notP]) < 0 by omega) hf
  obtain ⟨hv2, -⟩ := xval_of (show ¬ kindI cs (ps ++ [noneP]) < 0 by omega) hf
  rw [h] at ht
  rw [runV_cat, hv] at hv1 hv2
  have e1 : ofT (notI (toT (xvalI cs row ps))) = xvalI cs row (ps ++ [notP]) := (List.cons.inj hv1).1
  have e2 : ofT (if (xvalI cs row ps).1 = 0 then 1 else 0) = xvalI cs row (ps ++ [noneP]) := (List.cons.inj hv2).1
  refine ⟨xvalI cs row ps, ht, ?_, ?_, ?_⟩
  · unfold holdsI; rw [h]; simp
  · unfold holdsI; rw [hk1, ← e1, isYes_of]; simp
  · unfold holdsI; rw [hk2, ← e2, isYes_of]
    by_cases hz : (xvalI cs row ps).1 = 0 <;> simp [hz]
theorem three_one {v : VT} (h : TypV v 3) : (isYes v = true ∧ decide (notI (toT v) = 1) = false ∧ decide (v.1 = 0) = false) ∨ (isYes v = false ∧ decide (notI (toT v) = 1) = true ∧ decide (v.1 = 0) = false) ∨ (isYes v = false ∧ decide (notI (toT v) = 1) = false ∧ decide (v.1 = 0) = true) := by
  rcases truth_cases h with ⟨h1, h2, h3⟩ | ⟨h1, h2, h3, h4⟩ | ⟨h1, h2, h3, h4⟩
  · right; right; rw [h1, h2, h3]; decide
  · right; left; rw [h1, h3, h4]; decide
  · left; rw [h1, h3, h4]; decide
end Go.Proofs.Ytcocpmfndodapaa.Val
