/- Expressions: moving. -/
import Derived.Test.YtcocpmfndodapaaEMath3
namespace Go.Proofs.Ytcocpmfndodapaa.Val
set_option linter.unusedVariables false
def mvP (tt : List Int) (p : PT) : PT := if p.1 = 2 then (p.1, tt.getD p.2.1.toNat 0, p.2.2) else p
def movB (cs : List CT) (ps : List PT) (tt : List Int) : Bool := decide (0 ≤ kindI cs ps) && decide (tt.length = cs.length) && tt.all fun t => decide (0 ≤ t) && decide (t ≤ 3)
def movI (cs : List CT) (ps : List PT) (tt : List Int) : List PT := if movB cs ps tt = true then ps.map (mvP tt) else []
/-- The places are all columns, each once. -/
structure Moved {α : Type} (π : List Nat) (xs ys : List α) : Prop where
  perm : π.Perm (List.range xs.length)
  len : ys.length = xs.length
  at_ : ∀ k (h : k < xs.length) (h2 : π.getD k 0 < ys.length), ys[π.getD k 0] = xs[k]
theorem Moved.lt {α : Type} {π : List Nat} {xs ys : List α} (h : Moved π xs ys) (k : Nat) (hk : k < xs.length) : π.getD k 0 < xs.length := by
  have hl : π.length = xs.length := by have := h.perm.length_eq; simpa using this
  rw [List.getD_eq_getElem?_getD, List.getElem?_eq_getElem (by omega)]
  exact List.mem_range.1 (h.perm.mem_iff.1 (List.getElem_mem _))
theorem Moved.get {α : Type} {π : List Nat} {xs ys : List α} (h : Moved π xs ys) (k : Nat) (hk : k < xs.length) : ys[π.getD k 0]? = xs[k]? := by
  have h2 := h.lt k hk
  have h3 : π.getD k 0 < ys.length := by rw [h.len]; exact h2
  rw [List.getElem?_eq_getElem h3, List.getElem?_eq_getElem hk, h.at_ k hk h3]
theorem Moved.from {α : Type} {π : List Nat} {xs ys : List α} (h : Moved π xs ys) (j : Nat) (hj : j < ys.length) : ∃ k, k < xs.length ∧ π.getD k 0 = j := by
  have hl : π.length = xs.length := by have := h.perm.length_eq; simpa using this
  have hm : j ∈ π := h.perm.mem_iff.2 (List.mem_range.2 (by rw [← h.len]; exact hj))
  obtain ⟨k, hk, e⟩ := List.mem_iff_getElem.1 hm
  exact ⟨k, by omega, by rw [List.getD_eq_getElem?_getD, List.getElem?_eq_getElem hk]; exact e⟩
theorem Moved.all {α : Type} {π : List Nat} {xs ys : List α} (h : Moved π xs ys) (f : α → Bool) (hx : xs.all f = true) : ys.all f = true := by
  rw [List.all_eq_true] at hx ⊢
  intro y hy
  obtain ⟨j, hj, rfl⟩ := List.mem_iff_getElem.1 hy
  obtain ⟨k, hk, rfl⟩ := h.from j hj
  rw [h.at_ k hk hj]
  exact hx _ (List.getElem_mem hk)
theorem moved_fit {π : List Nat} {cs ds : List CT} {row other : List VT} (hc : Moved π cs ds) (hr : Moved π row other) (hf : fitB cs row = true) : fitB ds other = true := by
  have hlen : row.length = cs.length := by simp only [fitB, Bool.and_eq_true, decide_eq_true_eq] at hf; exact hf.1.2
  simp only [fitB, colB, rowB, Bool.and_eq_true, decide_eq_true_eq] at hf ⊢
  obtain ⟨⟨⟨⟨h1, h2⟩, h3, h4⟩, h5⟩, h6⟩ := hf
  refine ⟨⟨⟨⟨by rw [hc.len]; exact h1, hc.all _ h2⟩, by rw [hr.len]; exact h3, hr.all _ h4⟩, by rw [hr.len, hc.len]; exact h5⟩, ?_⟩
  rw [List.all_eq_true] at h6 ⊢
  intro p hp
  obtain ⟨j, hj, rfl⟩ := List.mem_iff_getElem.1 hp
  have hj1 : j < ds.length := by simp at hj; omega
  have hj2 : j < other.length := by simp at hj; omega
  obtain ⟨k, hk, rfl⟩ := hc.from j hj1
  rw [List.getElem_zip, hc.at_ k hk hj1, hr.at_ k (by omega) hj2]
  have hz : k < (cs.zip row).length := by simp; omega
  have := h6 _ (List.getElem_mem hz)
  rwa [List.getElem_zip] at this
theorem mv_not {tt : List Int} {p : PT} (h : p.1 ≠ 2) : mvP tt p = p := by unfold mvP; rw [if_neg h]
theorem mv_col {tt : List Int} {p : PT} (h : p.1 = 2) : mvP tt p = (2, tt.getD p.2.1.toNat 0, p.2.2) := by unfold mvP; rw [if_pos h, h]
theorem to_at {π : List Nat} {k : Nat} : (π.map Int.ofNat).getD k 0 = ((π.getD k 0 : Nat) : Int) := by
  rw [List.getD_eq_getElem?_getD, List.getD_eq_getElem?_getD, List.getElem?_map]
  rcases π[k]? with _ | x <;> rfl
theorem colAt_moved {π : List Nat} {cs ds : List CT} (hc : Moved π cs ds) {n : Int} (h0 : 0 ≤ n) (h1 : n < cs.length) : colAt ds ((π.getD n.toNat 0 : Nat) : Int) = colAt cs n := by
  have := hc.get n.toNat (by omega)
  unfold colAt
  rw [Int.toNat_natCast, List.getD_eq_getElem?_getD (l := ds), List.getD_eq_getElem?_getD (l := cs), this]
theorem step_moved {π : List Nat} {cs ds : List CT} {p : PT} {st st' : List Int} (hc : Moved π cs ds) (h : stepK cs p st = some st') : stepK ds (mvP (π.map Int.ofNat) p) st = some st' := by
  by_cases h2 : p.1 = 2
  · obtain ⟨h3, h4⟩ := step_col h h2
    rw [mv_col h2, to_at]
    have hlt := hc.lt p.2.1.toNat (by omega)
    unfold stepK at h ⊢
    split at h
    · cases h
    rename_i hb
    have hb2 : ¬ partBad (2, ((π.getD p.2.1.toNat 0 : Nat) : Int), p.2.2) = true := by
      intro hh; apply hb
      simp only [partBad, h2] at hh ⊢
      simpa using hh
    rw [if_neg hb2]
    rw [if_neg (by omega)] at h
    rw [if_neg (show ¬ (2 : Int) = 1 by decide), if_pos rfl]
    have h : (if p.1 = 2 then (if 0 ≤ p.2.1 ∧ p.2.1 < cs.length then some (colAt cs p.2.1 :: st) else none) else none) = some st' := by
      rw [if_pos h2]; first | exact h | (rw [if_pos h2] at h; exact h)
    rw [if_pos h2, if_pos ⟨h3, h4⟩] at h
    rw [if_pos (show (0 : Int) ≤ ((π.getD p.2.1.toNat 0 : Nat) : Int) ∧ ((π.getD p.2.1.toNat 0 : Nat) : Int) < ds.length from ⟨by omega, by rw [hc.len]; omega⟩), colAt_moved hc h3 h4]
    exact h
  · rw [mv_not h2]
    unfold stepK at h ⊢
    split at h
    · cases h
    rename_i hb
    rw [if_neg hb]
    by_cases h1 : p.1 = 1
    · simp only [h1, if_true] at h ⊢; exact h
    · simp only [h1, h2, if_false] at h ⊢; exact h
theorem run_moved {π : List Nat} {cs ds : List CT} (hc : Moved π cs ds) (ps : List PT) : ∀ {st st' : List Int}, runK cs ps st = some st' → runK ds (ps.map (mvP (π.map Int.ofNat))) st = some st' := by
  induction ps with
  | nil => intro st st' h; exact h
  | cons p ps ih =>
    intro st st' h
    rw [runK] at h
    rcases hs : stepK cs p st with _ | s1
    · rw [hs] at h; cases h
    · rw [hs] at h
      rw [List.map_cons, runK, step_moved hc hs]
      exact ih h
theorem stepV_moved {π : List Nat} {cs : List CT} {row other : List VT} {p : PT} {st st' : List Int} (vs : List VT) (hr : Moved π row other) (hl : row.length = cs.length) (h : stepK cs p st = some st') : stepV other (mvP (π.map Int.ofNat) p) vs = stepV row p vs := by
  by_cases h2 : p.1 = 2
  · obtain ⟨h3, h4⟩ := step_col h h2
    rw [mv_col h2, to_at]
    unfold stepV
    rw [if_neg (show ¬ (2 : Int) = 1 by decide), if_pos rfl, if_neg (by omega), if_pos h2]
    simp only [Int.toNat_natCast]
    rw [List.getD_eq_getElem?_getD (l := other), List.getD_eq_getElem?_getD (l := row), hr.get p.2.1.toNat (by omega)]
  · rw [mv_not h2]
    unfold stepV
    by_cases h1 : p.1 = 1
    · rw [if_pos h1, if_pos h1]
    · rw [if_neg h1, if_neg h1, if_neg h2, if_neg h2]
theorem runV_moved {π : List Nat} {cs : List CT} {row other : List VT} (hr : Moved π row other) (hl : row.length = cs.length) (ps : List PT) : ∀ {st st' : List Int} (vs : List VT), runK cs ps st = some st' → runV other (ps.map (mvP (π.map Int.ofNat))) vs = runV row ps vs := by
  induction ps with
  | nil => intro st st' vs h; rfl
  | cons p ps ih =>
    intro st st' vs h
    rw [runK] at h
    rcases hs : stepK cs p st with _ | s1
    · rw [hs] at h; cases h
    · rw [hs] at h
      rw [List.map_cons, runV_cons, runV_cons, stepV_moved vs hr hl hs]
      exact ih _ h
theorem moved_val {π : List Nat} {cs ds : List CT} {row other : List VT} {ps : List PT} (hc : Moved π cs ds) (hr : Moved π row other) (hf : fitB cs row = true) (hk : ¬ kindI cs ps < 0) : xvalI ds other (ps.map (mvP (π.map Int.ofNat))) = xvalI cs row ps := by
  have hlen : row.length = cs.length := by simp only [fitB, Bool.and_eq_true, decide_eq_true_eq] at hf; exact hf.1.2
  have hf2 := moved_fit hc hr hf
  obtain ⟨hcb, hpl, hrn, -, -⟩ := kind_some hk
  have hcb2 : colB ds = true := by simp only [fitB, Bool.and_eq_true] at hf2; exact hf2.1.1.1
  have hrn2 := run_moved hc ps hrn
  have hk2 : kindI ds (ps.map (mvP (π.map Int.ofNat))) = kindI cs ps := by
    have e : kindI ds (ps.map (mvP (π.map Int.ofNat))) = kindO (some [kindI cs ps]) := by
      rw [← hrn2]; unfold kindI; rw [if_pos ⟨hcb2, by rw [List.length_map]; exact hpl⟩]
    exact e
  obtain ⟨hv, -⟩ := xval_of hk hf
  obtain ⟨hv2, -⟩ := xval_of (show ¬ kindI ds (ps.map (mvP (π.map Int.ofNat))) < 0 by rw [hk2]; exact hk) hf2
  rw [runV_moved hr hlen ps [] hrn, hv] at hv2
  exact (List.cons.inj hv2).1.symm
end Go.Proofs.Ytcocpmfndodapaa.Val
