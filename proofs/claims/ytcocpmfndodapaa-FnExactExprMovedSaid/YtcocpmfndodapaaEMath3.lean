/- Expressions: the columns that are asked, moving, folding. -/
import Derived.Test.YtcocpmfndodapaaEMath2
namespace Go.Proofs.Ytcocpmfndodapaa.Val
set_option linter.unusedVariables false
def asks (ps : List PT) (k : Nat) : Bool := ps.any fun p => decide (p.1 = 2) && decide (p.2.1 = (k : Int))
def colsI (cs : List CT) (ps : List PT) : List Nat := if kindI cs ps < 0 then [] else (List.range cs.length).filter (asks ps)
theorem step_col {cs : List CT} {p : PT} {st st' : List Int} (h : stepK cs p st = some st') (hp : p.1 = 2) : 0 ≤ p.2.1 ∧ p.2.1 < cs.length := by
  unfold stepK at h
  split at h
  · cases h
  rw [if_neg (by omega)] at h
  first | rw [if_pos hp] at h | skip
  split at h
  · rename_i h1; exact h1
  · cases h
theorem stepV_agree {cs : List CT} {row row' : List VT} {p : PT} {st st' : List Int} (vs : List VT) (h : stepK cs p st = some st') (ha : p.1 = 2 → row.getD p.2.1.toNat nilV = row'.getD p.2.1.toNat nilV) : stepV row p vs = stepV row' p vs := by
  unfold stepV
  by_cases h1 : p.1 = 1
  · rw [if_pos h1, if_pos h1]
  · rw [if_neg h1, if_neg h1]
    by_cases h2 : p.1 = 2
    · rw [if_pos h2, if_pos h2, ha h2]
    · rw [if_neg h2, if_neg h2]
theorem runV_agree {cs : List CT} {row row' : List VT} (ps : List PT) : ∀ {st st' : List Int} (vs : List VT), runK cs ps st = some st' → (∀ k, k < cs.length → asks ps k = true → row.getD k nilV = row'.getD k nilV) → runV row ps vs = runV row' ps vs := by
  induction ps with
  | nil => intro st st' vs h ha; rfl
  | cons p ps ih =>
    intro st st' vs h ha
    rw [runK] at h
    rcases hs : stepK cs p st with _ | s1
    · rw [hs] at h; cases h
    · rw [hs] at h
      rw [runV_cons, runV_cons, stepV_agree (row := row) (row' := row') vs hs (fun h2 => by
        obtain ⟨h3, h4⟩ := step_col hs h2
        refine ha _ (by omega) ?_
        rw [asks, List.any_cons, h2]
        simp; left; omega)]
      exact ih _ h (fun k hk hq => ha k hk (by rw [asks, List.any_cons]; rw [asks] at hq; rw [hq]; simp))
theorem xval_agree {cs : List CT} {row row' : List VT} {ps : List PT} (hf : fitB cs row = fitB cs row') (ha : ∀ k, k < cs.length → asks ps k = true → row.getD k nilV = row'.getD k nilV) : xvalI cs row ps = xvalI cs row' ps := by
  unfold xvalI
  rw [hf]
  split
  · rfl
  · rename_i h
    obtain ⟨-, -, hr, -, -⟩ := kind_some (fun h1 => h (.inl h1))
    rw [runV_agree ps [] hr ha]
/-- A row that fits. -/
def oneRow (cs : List CT) (f : Nat → Int → Int) : List VT := (List.range cs.length).map fun (k : Nat) => (colAt cs k, f k (colAt cs k), ⟨#[]⟩)
theorem ok_plain {k n : Int} (h1 : 1 ≤ k) (h3 : k ≤ 3) (hn : n = 0 ∨ n = 1) (h2 : k = 2 → n = 0) : okV (k, n, ⟨#[]⟩) = true := by
  have hk : k = 1 ∨ k = 2 ∨ k = 3 := by omega
  rcases hk with rfl | rfl | rfl
  · rcases hn with rfl | rfl <;> simp [okV, okB, numB]
  · rw [h2 rfl]; simp [okV, okB, letB]; decide
  · rcases hn with rfl | rfl <;> simp [okV, okB]
theorem oneRow_len (cs : List CT) (f : Nat → Int → Int) : (oneRow cs f).length = cs.length := by simp [oneRow]
theorem oneRow_get (cs : List CT) (f : Nat → Int → Int) (k : Nat) (h : k < cs.length) : (oneRow cs f)[k]'(by rw [oneRow_len]; exact h) = (colAt cs k, f k (colAt cs k), ⟨#[]⟩) := by simp [oneRow]
theorem colAt_nat {cs : List CT} {k : Nat} (h : k < cs.length) : colAt cs k = cs[k].1 := by
  unfold colAt
  rw [Int.toNat_natCast, List.getD_eq_getElem?_getD, List.getElem?_eq_getElem h]; rfl
theorem oneRow_fits {cs : List CT} {f : Nat → Int → Int} (hc : colB cs = true) (h1 : ∀ k c, f k c = 0 ∨ f k c = 1) (h2 : ∀ k, f k 2 = 0) : fitB cs (oneRow cs f) = true := by
  have hl : cs.length ≤ 4 := by simp only [colB, Bool.and_eq_true, decide_eq_true_eq] at hc; exact hc.1
  simp only [fitB, Bool.and_eq_true, decide_eq_true_eq, List.all_eq_true]
  refine ⟨⟨⟨hc, ?_⟩, oneRow_len cs f⟩, ?_⟩
  · simp only [rowB, Bool.and_eq_true, decide_eq_true_eq, List.all_eq_true]
    refine ⟨by rw [oneRow_len]; exact hl, fun v hv => ?_⟩
    obtain ⟨i, hi, rfl⟩ := List.mem_iff_getElem.1 hv
    rw [oneRow_len] at hi
    rw [oneRow_get cs f i hi]
    have := col_kind hc (n := i) (by omega) (by omega)
    exact ok_plain this.1 this.2 (h1 _ _) (fun h => by rw [h]; exact h2 _)
  · intro p hp
    obtain ⟨i, hi, rfl⟩ := List.mem_iff_getElem.1 hp
    have hi2 : i < cs.length := by simp at hi; omega
    rw [List.getElem_zip, oneRow_get cs f i hi2]
    simp [takeB, colAt_nat hi2]
/-- What is read of the two rows of the law. -/
theorem cols_same {cs : List CT} {ps : List PT} {f g : Nat → Int → Int} (hc : colB cs = true → (∀ k c, f k c = 0 ∨ f k c = 1) ∧ (∀ k c, g k c = 0 ∨ g k c = 1) ∧ (∀ k, f k 2 = 0) ∧ (∀ k, g k 2 = 0)) (ha : ∀ k, asks ps k = true → k < cs.length → f k (colAt cs k) = g k (colAt cs k)) : xvalI cs (oneRow cs f) ps = xvalI cs (oneRow cs g) ps := by
  by_cases hk : kindI cs ps < 0
  · rw [xval_nil (.inl hk), xval_nil (.inl hk)]
  · obtain ⟨hcb, -⟩ := kind_some hk
    obtain ⟨h1, h2, h3, h4⟩ := hc hcb
    refine xval_agree (by rw [oneRow_fits hcb h1 h3, oneRow_fits hcb h2 h4]) (fun k hk2 hq => ?_)
    rw [List.getD_eq_getElem?_getD, List.getD_eq_getElem?_getD, List.getElem?_eq_getElem (by rw [oneRow_len]; exact hk2), List.getElem?_eq_getElem (by rw [oneRow_len]; exact hk2), oneRow_get cs f k hk2, oneRow_get cs g k hk2, ha k hq hk2]
/-! ### Folding -/
def foldI (cs : List CT) (ps : List PT) : List PT :=
  if kindI cs ps < 0 then []
  else if colsI cs ps = [] ∧ ((runV [] ps []).headD nilV).1 ≠ 0 then [(1, 0, (runV [] ps []).headD nilV)]
  else ps
theorem kind_ne {cs : List CT} {ps : List PT} (h : ¬ kindI cs ps < 0) : ps ≠ [] := by
  rintro rfl
  unfold kindI at h
  split at h
  · exact h (show (-1 : Int) < 0 by decide)
  · exact h (by decide)
theorem fold_run {cs : List CT} {ps : List PT} {row : List VT} (h : ¬ kindI cs ps < 0) (hn : colsI cs ps = []) : runV [] ps [] = runV row ps [] := by
  obtain ⟨-, -, hr, -, -⟩ := kind_some h
  refine runV_agree ps [] hr (fun k hk hq => ?_)
  unfold colsI at hn
  rw [if_neg h, List.filter_eq_nil_iff] at hn
  exact absurd hq (hn k (List.mem_range.2 hk))
theorem fold_typ {cs : List CT} {ps : List PT} (h : ¬ kindI cs ps < 0) (hn : colsI cs ps = []) : TypV ((runV [] ps []).headD nilV) (kindI cs ps) := by
  obtain ⟨hc, -⟩ := kind_some h
  have hf := oneRow_fits (f := fun _ _ => 0) hc (fun _ _ => .inl rfl) (fun _ => rfl)
  obtain ⟨hv, ht⟩ := xval_of h hf
  rw [fold_run (row := oneRow cs fun _ _ => 0) h hn, hv]
  exact ht
theorem kind_one {cs : List CT} {v : VT} (hc : colB cs = true) (h : okV v = true) (h0 : v.1 ≠ 0) : kindI cs [(1, 0, v)] = v.1 := by
  have hb : partBad (1, 0, v) = false := by simp [partBad]
  have hs : stepK cs (1, 0, v) [] = some [v.1] := by
    unfold stepK
    rw [hb]
    simp only [if_true, Bool.false_eq_true, if_false]
    rw [if_pos ⟨h, h0⟩]
  unfold kindI
  rw [if_pos ⟨hc, by simp⟩]
  simp [runK, hs, kindO]
theorem fold_kind {cs : List CT} {ps : List PT} (h : ¬ kindI cs ps < 0) : kindI cs (foldI cs ps) = kindI cs ps ∧ (foldI cs ps).length ≤ ps.length ∧ 0 < (foldI cs ps).length := by
  obtain ⟨hc, -⟩ := kind_some h
  have hp := List.length_pos_iff.2 (kind_ne h)
  unfold foldI
  rw [if_neg h]
  split
  · rename_i h1
    have ht := fold_typ h h1.1
    refine ⟨?_, by simp; omega, by simp⟩
    rw [kind_one hc ht.1 h1.2]
    rcases ht.2 with h2 | h2
    · exact absurd h2 h1.2
    · exact h2
  · exact ⟨rfl, Nat.le_refl _, hp⟩
theorem fold_val {cs : List CT} {ps : List PT} (row : List VT) (h : ¬ kindI cs ps < 0) : xvalI cs row (foldI cs ps) = xvalI cs row ps := by
  obtain ⟨hk, -, -⟩ := fold_kind h
  by_cases hf : fitB cs row = true
  · obtain ⟨hv, -⟩ := xval_of h hf
    obtain ⟨hv2, -⟩ := xval_of (show ¬ kindI cs (foldI cs ps) < 0 by rw [hk]; exact h) hf
    by_cases hn : colsI cs ps = [] ∧ ((runV [] ps []).headD nilV).1 ≠ 0
    · have e : foldI cs ps = [(1, 0, (runV [] ps []).headD nilV)] := by unfold foldI; rw [if_neg h, if_pos hn]
      rw [e] at hv2 ⊢
      have h2 : runV row [(1, 0, (runV [] ps []).headD nilV)] [] = [(runV [] ps []).headD nilV] := rfl
      rw [h2, fold_run (row := row) h hn.1, hv] at hv2
      rw [fold_run (row := row) h hn.1, hv]
      exact (List.cons.inj hv2).1.symm
    · have e : foldI cs ps = ps := by unfold foldI; rw [if_neg h, if_neg hn]
      rw [e]
  · have hf2 : fitB cs row = false := by simpa using hf
    rw [xval_nil (.inr hf2), xval_nil (.inr hf2)]
end Go.Proofs.Ytcocpmfndodapaa.Val
