/- Expressions: the plain functions; Expressions: values, and what the laws ask of them; Expressions: the columns that are asked, moving, folding; Expressions: moving; Expressions: a part by what it takes, its fields, and what it puts down (the plain functions of impl's ways). -/
import Derived.Test.YtjidkjnlnenmbaaRowF
import Derived.Test.YtjidkjnlnenmbaaTMath
import Derived.Test.YtjidkjnlnenmbaaAMath
namespace Go.Proofs.Ytjidkjnlnenmbaa.Val
set_option linter.unusedVariables false
abbrev PT := Int × Int × VT
def nilV : VT := (0, 0, ⟨#[]⟩)
def isNil (v : VT) : Bool := decide (v.1 = 0) && decide (v.2.1 = 0) && decide (v.2.2.toList = [])
def partBad (p : PT) : Bool := (decide (p.1 ≠ 1) && !isNil p.2.2) || (decide (p.1 ≠ 2) && decide (p.1 ≠ 4) && decide (p.2.1 ≠ 0))
def colAt (cs : List CT) (n : Int) : Int := (cs.getD n.toNat (0, false)).1
/-- The kinds that stand behind a part; the last one stands first. -/
def stepK (cs : List CT) (p : PT) (st : List Int) : Option (List Int) :=
  if partBad p = true then none
  else if p.1 = 1 then (if okV p.2.2 = true ∧ p.2.2.1 ≠ 0 then some (p.2.2.1 :: st) else none)
  else if p.1 = 2 then (if 0 ≤ p.2.1 ∧ p.2.1 < cs.length then some (colAt cs p.2.1 :: st) else none)
  else match st with
    | [] => none
    | a :: r =>
      if p.1 = 8 then some (3 :: r)
      else if p.1 = 7 then (if a = 3 then some (a :: r) else none)
      else match r with
        | [] => none
        | b :: q =>
          if p.1 = 3 then (if a = 1 ∧ b = 1 then some (1 :: q) else none)
          else if p.1 = 4 then (if a = b ∧ 1 ≤ p.2.1 ∧ p.2.1 ≤ 4 then some (3 :: q) else none)
          else if p.1 = 5 ∨ p.1 = 6 then (if a = 3 ∧ b = 3 then some (3 :: q) else none)
          else none
def runK (cs : List CT) : List PT → List Int → Option (List Int)
  | [], st => some st
  | p :: ps, st => match stepK cs p st with
    | none => none
    | some st' => runK cs ps st'
def kindO (o : Option (List Int)) : Int := match o with
  | some [k] => k
  | _ => -1
def kindI (cs : List CT) (ps : List PT) : Int := if colB cs = true ∧ ps.length ≤ 12 then kindO (runK cs ps []) else -1
def ofT (t : Int) : VT := if t = 0 ∨ t = 1 then (3, t, ⟨#[]⟩) else nilV
def toT (v : VT) : Int := toI v.1 v.2.1 v.2.2
def sumV (x y : VT) : VT := if x.1 = 0 ∨ y.1 = 0 ∨ ¬ (-9999 ≤ x.2.1 + y.2.1 ∧ x.2.1 + y.2.1 ≤ 9999) then nilV else (1, x.2.1 + y.2.1, ⟨#[]⟩)
def binV (p : PT) (x y : VT) : VT :=
  if p.1 = 3 then sumV x y
  else if p.1 = 4 then ofT (compI p.2.1 x.1 x.2.1 x.2.2 y.1 y.2.1 y.2.2)
  else if p.1 = 5 then ofT (andI (toT x) (toT y))
  else ofT (orI (toT x) (toT y))
/-- The values that stand behind a part; the last one stands first. -/
def stepV (row : List VT) (p : PT) (vs : List VT) : List VT :=
  if p.1 = 1 then p.2.2 :: vs
  else if p.1 = 2 then row.getD p.2.1.toNat nilV :: vs
  else match vs with
    | [] => []
    | a :: r =>
      if p.1 = 8 then ofT (if a.1 = 0 then 1 else 0) :: r
      else if p.1 = 7 then ofT (notI (toT a)) :: r
      else match r with
        | [] => []
        | b :: q => binV p b a :: q
def runV (row : List VT) (ps : List PT) (vs : List VT) : List VT := ps.foldl (fun a p => stepV row p a) vs
def xvalI (cs : List CT) (row : List VT) (ps : List PT) : VT := if kindI cs ps < 0 ∨ fitB cs row = false then nilV else (runV row ps []).headD nilV
def isYes (v : VT) : Bool := decide (v.1 = 3) && decide (v.2.1 = 1) && decide (v.2.2.toList = [])
def holdsI (cs : List CT) (row : List VT) (ps : List PT) : Bool := decide (kindI cs ps = 3) && isYes (xvalI cs row ps)
/-! ### Kinds -/
theorem step_app {cs : List CT} {p : PT} {st st' : List Int} (x : List Int) (h : stepK cs p st = some st') : stepK cs p (st ++ x) = some (st' ++ x) := by
  unfold stepK at h ⊢
  split at h
  · cases h
  rename_i hb
  rw [if_neg hb]
  split at h
  · rename_i h1
    rw [if_pos h1]
    split at h
    · rename_i h2; rw [if_pos h2]; cases h; rfl
    · cases h
  rename_i h1
  rw [if_neg h1]
  split at h
  · rename_i h2
    rw [if_pos h2]
    split at h
    · rename_i h3; rw [if_pos h3]; cases h; rfl
    · cases h
  rename_i h2
  rw [if_neg h2]
  rcases st with _ | ⟨a, _ | ⟨b, q⟩⟩
  · cases h
  · simp only [List.cons_append, List.nil_append] at h ⊢
    split at h
    · rename_i h3; rw [if_pos h3]; cases h; rfl
    rename_i h3
    rw [if_neg h3]
    split at h
    · rename_i h4; rw [if_pos h4]
      split at h
      · rename_i h5; rw [if_pos h5]; cases h; rfl
      · cases h
    · cases h
  · simp only [List.cons_append] at h ⊢
    repeat' split at h
    all_goals first
      | (cases h; done)
      | (cases h; simp_all; done)
theorem run_app {cs : List CT} (ps : List PT) : ∀ {st st' : List Int} (x : List Int), runK cs ps st = some st' → runK cs ps (st ++ x) = some (st' ++ x) := by
  induction ps with
  | nil => intro st st' x h; rw [runK] at h ⊢; cases h; rfl
  | cons p ps ih =>
    intro st st' x h
    rw [runK] at h ⊢
    rcases hs : stepK cs p st with _ | s1
    · rw [hs] at h; cases h
    · rw [hs] at h
      rw [step_app x hs]
      exact ih x h
theorem run_cat (cs : List CT) (ps qs : List PT) : ∀ (st : List Int), runK cs (ps ++ qs) st = (runK cs ps st).bind (runK cs qs) := by
  induction ps with
  | nil => intro st; rfl
  | cons p ps ih =>
    intro st
    rw [List.cons_append, runK, runK]
    rcases stepK cs p st with _ | s1
    · rfl
    · exact ih s1
/-- All kinds are 1, 2 or 3. -/
def In3 (st : List Int) : Prop := ∀ k ∈ st, 1 ≤ k ∧ k ≤ 3
theorem ok_kind {v : VT} (h : okV v = true) : 0 ≤ v.1 ∧ v.1 ≤ 3 := by
  obtain ⟨k, n, s⟩ := v
  rcases ok_cases k n s with ho | ⟨h1, -⟩ | ⟨h1, -⟩ | ⟨h1, -⟩ | ⟨h1, -⟩ | ⟨h1, -⟩
  · rw [okV] at h; rw [h] at ho; cases ho
  all_goals (simp only; omega)
theorem col_kind {cs : List CT} (h : colB cs = true) {n : Int} (h0 : 0 ≤ n) (h1 : n < cs.length) : 1 ≤ colAt cs n ∧ colAt cs n ≤ 3 := by
  have hn : n.toNat < cs.length := by omega
  unfold colAt
  rw [List.getD_eq_getElem?_getD, List.getElem?_eq_getElem hn]
  simp only [colB, Bool.and_eq_true, List.all_eq_true] at h
  have := h.2 _ (List.getElem_mem hn)
  simpa [kindB] using this
theorem step_in {cs : List CT} {p : PT} {st st' : List Int} (hc : colB cs = true) (hs : In3 st) (h : stepK cs p st = some st') : In3 st' := by
  have c3 : ∀ {k : Int} {r : List Int}, 1 ≤ k → k ≤ 3 → In3 r → In3 (k :: r) := by
    intro k r h1 h2 hr x hx
    rcases List.mem_cons.1 hx with rfl | hx
    · exact ⟨h1, h2⟩
    · exact hr x hx
  have tl : ∀ {k : Int} {r : List Int}, In3 (k :: r) → In3 r := fun h x hx => h x (List.mem_cons_of_mem _ hx)
  unfold stepK at h
  split at h
  · cases h
  split at h
  · split at h
    · rename_i h2
      cases h
      have := ok_kind h2.1
      exact c3 (by have := h2.2; omega) this.2 hs
    · cases h
  split at h
  · split at h
    · rename_i h3
      cases h
      have := col_kind hc h3.1 h3.2
      exact c3 this.1 this.2 hs
    · cases h
  rcases st with _ | ⟨a, _ | ⟨b, q⟩⟩
  · cases h
  · simp only at h
    split at h
    · cases h; exact c3 (by omega) (by omega) (tl hs)
    split at h
    · split at h
      · cases h; exact hs
      · cases h
    · cases h
  · simp only at h
    repeat' split at h
    all_goals first
      | (cases h; done)
      | (cases h; exact c3 (by omega) (by omega) (tl hs))
      | (cases h; exact hs)
      | (cases h; exact c3 (by omega) (by omega) (tl (tl hs)))
theorem runIn3 {cs : List CT} (hc : colB cs = true) (ps : List PT) : ∀ {st st' : List Int}, In3 st → runK cs ps st = some st' → In3 st' := by
  induction ps with
  | nil => intro st st' hs h; rw [runK] at h; cases h; exact hs
  | cons p ps ih =>
    intro st st' hs h
    rw [runK] at h
    rcases hk : stepK cs p st with _ | s1
    · rw [hk] at h; cases h
    · rw [hk] at h
      exact ih (step_in hc hs hk) h
theorem kind_some {cs : List CT} {ps : List PT} (h : ¬ kindI cs ps < 0) : colB cs = true ∧ ps.length ≤ 12 ∧ runK cs ps [] = some [kindI cs ps] ∧ 1 ≤ kindI cs ps ∧ kindI cs ps ≤ 3 := by
  unfold kindI at h ⊢
  split at h
  · rename_i hc
    rw [if_pos hc]
    rcases hr : runK cs ps [] with _ | st
    · rw [hr] at h; exact absurd (by decide) h
    · rw [hr] at h
      have hin := runIn3 hc.1 ps (st := []) (by intro k hk; cases hk) hr
      rcases st with _ | ⟨k, _ | ⟨b, q⟩⟩
      · exact absurd (by decide) h
      · have := hin k (by simp)
        exact ⟨hc.1, hc.2, rfl, this.1, this.2⟩
      · exact absurd (show (-1 : Int) < 0 by decide) h
  · exact absurd (by decide) h
theorem kind_neg {cs : List CT} {ps : List PT} (h : kindI cs ps < 0) : kindI cs ps = -1 := by
  by_cases h2 : colB cs = true ∧ ps.length ≤ 12
  · unfold kindI at h ⊢
    rw [if_pos h2] at h ⊢
    rcases hr : runK cs ps [] with _ | st
    · rfl
    · rw [hr] at h
      have hin := runIn3 h2.1 ps (st := []) (by intro k hk; cases hk) hr
      rcases st with _ | ⟨k, _ | ⟨b, q⟩⟩
      · rfl
      · have := hin k (by simp)
        have h' : k < 0 := h
        omega
      · rfl
  · unfold kindI; rw [if_neg h2]
def cmpP : PT := (4, 1, nilV)
def noneP : PT := (8, 0, nilV)
def notP : PT := (7, 0, nilV)
theorem kind_twice {cs : List CT} {ps : List PT} (h : ¬ kindI cs ps < 0) (hl : (ps ++ ps ++ [cmpP]).length ≤ 12) : runK cs (ps ++ ps ++ [cmpP]) [] = some [3] ∧ kindI cs (ps ++ ps ++ [cmpP]) = 3 := by
  obtain ⟨hc, -, hr, -, -⟩ := kind_some h
  have h2 := run_app ps [kindI cs ps] hr
  have h3 : runK cs (ps ++ ps ++ [cmpP]) [] = some [3] := by
    rw [run_cat, run_cat, hr]
    show (runK cs ps ([] ++ [kindI cs ps])).bind _ = _
    rw [h2]
    simp [runK, stepK, cmpP, partBad, isNil, nilV]
  exact ⟨h3, by unfold kindI; rw [if_pos ⟨hc, hl⟩, h3]; rfl⟩
theorem kind_none {cs : List CT} {ps : List PT} (h : ¬ kindI cs ps < 0) (hl : (ps ++ [noneP]).length ≤ 12) : runK cs (ps ++ [noneP]) [] = some [3] ∧ kindI cs (ps ++ [noneP]) = 3 := by
  obtain ⟨hc, -, hr, -, -⟩ := kind_some h
  have h3 : runK cs (ps ++ [noneP]) [] = some [3] := by
    rw [run_cat, hr]
    simp [runK, stepK, noneP, partBad, isNil, nilV]
  exact ⟨h3, by unfold kindI; rw [if_pos ⟨hc, hl⟩, h3]; rfl⟩
theorem kind_not {cs : List CT} {ps : List PT} (h : kindI cs ps = 3) (hl : (ps ++ [notP]).length ≤ 12) : runK cs (ps ++ [notP]) [] = some [3] ∧ kindI cs (ps ++ [notP]) = 3 := by
  obtain ⟨hc, -, hr, -, -⟩ := kind_some (show ¬ kindI cs ps < 0 by omega)
  have h3 : runK cs (ps ++ [notP]) [] = some [3] := by
    rw [run_cat, hr, h]
    simp [runK, stepK, notP, partBad, isNil, nilV]
  exact ⟨h3, by unfold kindI; rw [if_pos ⟨hc, hl⟩, h3]; rfl⟩
end Go.Proofs.Ytjidkjnlnenmbaa.Val
namespace Go.Proofs.Ytjidkjnlnenmbaa.Val
set_option linter.unusedVariables false
def TypV (v : VT) (k : Int) : Prop := okV v = true ∧ (v.1 = 0 ∨ v.1 = k)
def Typ : List VT → List Int → Prop
  | [], [] => True
  | v :: vs, k :: ks => TypV v k ∧ Typ vs ks
  | _, _ => False
theorem Typ.len {vs : List VT} : ∀ {ks : List Int}, Typ vs ks → vs.length = ks.length := by
  induction vs with
  | nil => intro ks h; cases ks with | nil => rfl | cons k ks => exact absurd h (by simp [Typ])
  | cons v vs ih => intro ks h; cases ks with | nil => exact absurd h (by simp [Typ]) | cons k ks => simp [ih h.2]
theorem ok_nil : okV nilV = true := by simp [okV, nilV, okB]
theorem ok_of (t : Int) : okV (ofT t) = true := by
  unfold ofT; split
  · rename_i h; rcases h with rfl | rfl <;> simp [okV, okB]
  · exact ok_nil
theorem of_typ (t : Int) : TypV (ofT t) 3 := ⟨ok_of t, by unfold ofT; split <;> simp [nilV]⟩
theorem sum_typ (x y : VT) (k : Int) (hk : k = 1) : TypV (sumV x y) k := by
  subst hk
  unfold sumV; split
  · exact ⟨ok_nil, .inl rfl⟩
  · rename_i h
    have h2 : -9999 ≤ x.2.1 + y.2.1 ∧ x.2.1 + y.2.1 ≤ 9999 := by
      by_cases hh : -9999 ≤ x.2.1 + y.2.1 ∧ x.2.1 + y.2.1 ≤ 9999
      · exact hh
      · exact absurd (.inr (.inr hh)) h
    exact ⟨by simp [okV, okB, numB]; omega, .inr rfl⟩
theorem fit_at {cs : List CT} {row : List VT} (h : fitB cs row = true) {n : Int} (h0 : 0 ≤ n) (h1 : n < cs.length) : TypV (row.getD n.toNat nilV) (colAt cs n) := by
  simp only [fitB, Bool.and_eq_true, decide_eq_true_eq, List.all_eq_true] at h
  obtain ⟨⟨⟨h2, h3⟩, h4⟩, h5⟩ := h
  have hn : n.toNat < cs.length := by omega
  have hr : n.toNat < row.length := by omega
  have hz : n.toNat < (cs.zip row).length := by simp; omega
  have := h5 _ (List.getElem_mem hz)
  rw [List.getElem_zip] at this
  unfold colAt
  rw [List.getD_eq_getElem?_getD, List.getElem?_eq_getElem hr, List.getD_eq_getElem?_getD, List.getElem?_eq_getElem hn]
  simp only [rowB, Bool.and_eq_true, List.all_eq_true] at h3
  refine ⟨h3.2 _ (List.getElem_mem hr), ?_⟩
  simp only [takeB, Bool.or_eq_true, Bool.and_eq_true, decide_eq_true_eq] at this
  simp only [Option.getD_some]
  rcases this with h | h
  · exact .inr h
  · exact .inl h.2
theorem step_typ {cs : List CT} {row : List VT} {p : PT} {st st' : List Int} {vs : List VT} (hf : fitB cs row = true) (ht : Typ vs st) (h : stepK cs p st = some st') : Typ (stepV row p vs) st' := by
  unfold stepK at h
  split at h
  · cases h
  unfold stepV
  split at h
  · rename_i h1
    rw [if_pos h1]
    split at h
    · rename_i h2; cases h; exact ⟨⟨h2.1, .inr rfl⟩, ht⟩
    · cases h
  rename_i h1
  rw [if_neg h1]
  split at h
  · rename_i h2
    rw [if_pos h2]
    split at h
    · rename_i h3; cases h; exact ⟨fit_at hf h3.1 h3.2, ht⟩
    · cases h
  rename_i h2
  rw [if_neg h2]
  rcases st with _ | ⟨a, r⟩
  · cases h
  rcases vs with _ | ⟨v, us⟩
  · exact absurd ht (by simp [Typ])
  simp only at h ⊢
  split at h
  · rename_i h3; rw [if_pos h3]; cases h; exact ⟨of_typ _, ht.2⟩
  rename_i h3
  rw [if_neg h3]
  split at h
  · rename_i h4; rw [if_pos h4]
    split at h
    · rename_i h5; cases h; subst h5; exact ⟨of_typ _, ht.2⟩
    · cases h
  rename_i h4
  rw [if_neg h4]
  rcases r with _ | ⟨b, q⟩
  · cases h
  rcases us with _ | ⟨u, us⟩
  · exact absurd ht.2 (by simp [Typ])
  have hq := ht.2.2
  simp only at h ⊢
  unfold binV
  split at h
  · rename_i h5; rw [if_pos h5]
    split at h
    · cases h; exact ⟨sum_typ _ _ _ rfl, hq⟩
    · cases h
  rename_i h5; rw [if_neg h5]
  split at h
  · rename_i h6; rw [if_pos h6]
    split at h
    · cases h; exact ⟨of_typ _, hq⟩
    · cases h
  rename_i h6; rw [if_neg h6]
  split at h
  · split at h
    · cases h
      split
      · exact ⟨of_typ _, hq⟩
      · exact ⟨of_typ _, hq⟩
    · cases h
  · cases h
theorem runV_cons (row : List VT) (p : PT) (ps : List PT) (vs : List VT) : runV row (p :: ps) vs = runV row ps (stepV row p vs) := rfl
theorem runV_cat (row : List VT) (ps qs : List PT) (vs : List VT) : runV row (ps ++ qs) vs = runV row qs (runV row ps vs) := by unfold runV; rw [List.foldl_append]
theorem run_typ {cs : List CT} {row : List VT} (hf : fitB cs row = true) (ps : List PT) : ∀ {st st' : List Int} {vs : List VT}, Typ vs st → runK cs ps st = some st' → Typ (runV row ps vs) st' := by
  induction ps with
  | nil => intro st st' vs ht h; rw [runK] at h; cases h; exact ht
  | cons p ps ih =>
    intro st st' vs ht h
    rw [runK] at h
    rcases hs : stepK cs p st with _ | s1
    · rw [hs] at h; cases h
    · rw [hs] at h
      exact ih (step_typ hf ht hs) h
theorem stepV_app {cs : List CT} {row : List VT} {p : PT} {st st' : List Int} {vs : List VT} (x : List VT) (hl : vs.length = st.length) (h : stepK cs p st = some st') : stepV row p (vs ++ x) = stepV row p vs ++ x := by
  unfold stepK at h
  split at h
  · cases h
  unfold stepV
  split at h
  · rename_i h1; rw [if_pos h1, if_pos h1]; rfl
  rename_i h1
  rw [if_neg h1, if_neg h1]
  split at h
  · rename_i h2; rw [if_pos h2, if_pos h2]; rfl
  rename_i h2
  rw [if_neg h2, if_neg h2]
  rcases st with _ | ⟨a, r⟩
  · cases h
  rcases vs with _ | ⟨v, us⟩
  · cases hl
  simp only [List.cons_append] at h ⊢
  split
  · rfl
  rename_i h3
  rw [if_neg h3] at h
  split
  · rfl
  rename_i h4
  rw [if_neg h4] at h
  rcases r with _ | ⟨b, q⟩
  · cases h
  rcases us with _ | ⟨u, us⟩
  · simp at hl
  rfl
theorem runV_app {cs : List CT} {row : List VT} (hf : fitB cs row = true) (ps : List PT) : ∀ {st st' : List Int} {vs : List VT} (x : List VT), Typ vs st → runK cs ps st = some st' → runV row ps (vs ++ x) = runV row ps vs ++ x := by
  induction ps with
  | nil => intro st st' vs x ht h; rfl
  | cons p ps ih =>
    intro st st' vs x ht h
    rw [runK] at h
    rcases hs : stepK cs p st with _ | s1
    · rw [hs] at h; cases h
    · rw [hs] at h
      rw [runV_cons, runV_cons, stepV_app x ht.len hs]
      exact ih x (step_typ hf ht hs) h
/-- The value of an expression. -/
theorem xval_of {cs : List CT} {row : List VT} {ps : List PT} (h : ¬ kindI cs ps < 0) (hf : fitB cs row = true) : runV row ps [] = [xvalI cs row ps] ∧ TypV (xvalI cs row ps) (kindI cs ps) := by
  obtain ⟨-, -, hr, -, -⟩ := kind_some h
  have ht := run_typ hf ps (vs := []) (st := []) trivial hr
  have hv : xvalI cs row ps = (runV row ps []).headD nilV := by unfold xvalI; rw [if_neg (by rintro (h1 | h1); exact h h1; rw [hf] at h1; cases h1)]
  rw [hv]
  rcases hv2 : runV row ps [] with _ | ⟨v, us⟩
  · rw [hv2] at ht; exact absurd ht (by simp [Typ])
  · rw [hv2] at ht
    rcases us with _ | ⟨u, us⟩
    · exact ⟨rfl, ht.1⟩
    · exact absurd ht.2 (by simp [Typ])
theorem xval_nil {cs : List CT} {row : List VT} {ps : List PT} (h : kindI cs ps < 0 ∨ fitB cs row = false) : xvalI cs row ps = nilV := by unfold xvalI; rw [if_pos h]
theorem isYes_of (t : Int) : isYes (ofT t) = decide (t = 1) := by
  unfold ofT; split
  · rename_i h; rcases h with rfl | rfl <;> simp [isYes]
  · rename_i h; have : t ≠ 1 := by omega
    simp [isYes, nilV, this]
theorem comp_self (v : VT) (h : okV v = true) : compI 1 v.1 v.2.1 v.2.2 v.1 v.2.1 v.2.2 = if v.1 = 0 then 2 else 1 := by
  obtain ⟨k, n, s⟩ := v
  have ho : okB k n s = true := h
  unfold compI
  rw [if_neg (by rw [ho]; simp)]
  by_cases hk : k = 0
  · simp [hk]
  · simp only [hk, or_self, if_false]
    rw [if_neg (by simp), (ordI_zero k n k n s s ho ho).2 ⟨rfl, rfl, rfl⟩]
    simp [holdB]
theorem holds_twice {cs : List CT} {row : List VT} {ps : List PT} (h : ¬ kindI cs ps < 0) (hf : fitB cs row = true) (hl : (ps ++ ps ++ [cmpP]).length ≤ 12) : holdsI cs row (ps ++ ps ++ [cmpP]) = decide ((xvalI cs row ps).1 ≠ 0) := by
  obtain ⟨hr2, hk⟩ := kind_twice h hl
  obtain ⟨hv, ht⟩ := xval_of h hf
  obtain ⟨-, -, hr, -, -⟩ := kind_some h
  obtain ⟨hv2, -⟩ := xval_of (show ¬ kindI cs (ps ++ ps ++ [cmpP]) < 0 by omega) hf
  have e : runV row (ps ++ ps ++ [cmpP]) [] = [ofT (compI 1 (xvalI cs row ps).1 (xvalI cs row ps).2.1 (xvalI cs row ps).2.2 (xvalI cs row ps).1 (xvalI cs row ps).2.1 (xvalI cs row ps).2.2)] := by
    rw [runV_cat, runV_cat, hv]
    have := runV_app hf ps (st := []) (vs := []) [xvalI cs row ps] trivial hr
    rw [List.nil_append] at this
    rw [this, hv]
    rfl
  rw [e] at hv2
  have hv3 := (List.cons.inj hv2).1
  unfold holdsI
  rw [hk, ← hv3, isYes_of, comp_self _ ht.1]
  by_cases h0 : (xvalI cs row ps).1 = 0 <;> simp [h0]
theorem truth_cases {v : VT} (h : TypV v 3) : (v.1 = 0 ∧ toT v = 2 ∧ isYes v = false) ∨ (v.1 = 3 ∧ v.2.1 = 0 ∧ toT v = 0 ∧ isYes v = false) ∨ (v.1 = 3 ∧ v.2.1 = 1 ∧ toT v = 1 ∧ isYes v = true) := by
  obtain ⟨k, n, s⟩ := v
  obtain ⟨ho, hk⟩ := h
  have ho : okB k n s = true := ho
  rcases ok_cases k n s with h1 | ⟨rfl, rfl, he, h1⟩ | ⟨rfl, -⟩ | ⟨rfl, -⟩ | ⟨rfl, rfl, he, h1⟩ | ⟨rfl, rfl, he, h1⟩
  · rw [ho] at h1; cases h1
  · exact .inl ⟨rfl, by simp [toT, toI, ho], by simp [isYes]⟩
  · simp at hk
  · simp at hk
  · exact .inr (.inl ⟨rfl, rfl, by simp [toT, toI, ho], by simp [isYes]⟩)
  · exact .inr (.inr ⟨rfl, rfl, by simp [toT, toI, ho], by simp [isYes, he]⟩)
/-- Just one of the three. -/
theorem holds_three {cs : List CT} {row : List VT} {ps : List PT} (h : kindI cs ps = 3) (hf : fitB cs row = true) (hl : ps.length + 1 ≤ 12) : ∃ v : VT, TypV v 3 ∧ holdsI cs row ps = isYes v ∧ holdsI cs row (ps ++ [notP]) = decide (notI (toT v) = 1) ∧ holdsI cs row (ps ++ [noneP]) = decide (v.1 = 0) := by
  have h0 : ¬ kindI cs ps < 0 := by omega
  obtain ⟨-, hk1⟩ := kind_not h (by simpa using hl)
  obtain ⟨-, hk2⟩ := kind_none h0 (by simpa using hl)
  obtain ⟨hv, ht⟩ := xval_of h0 hf
  obtain ⟨hv1, -⟩ := xval_of (show ¬ kindI cs (ps ++ [notP]) < 0 by omega) hf
  obtain ⟨hv2, -⟩ := xval_of (show ¬ kindI cs (ps ++ [noneP]) < 0 by omega) hf
  rw [h] at ht
  rw [runV_cat, hv] at hv1 hv2
  have e1 : ofT (notI (toT (xvalI cs row ps))) = xvalI cs row (ps ++ [notP]) := (List.cons.inj hv1).1
  have e2 : ofT (if (xvalI cs row ps).1 = 0 then 1 else 0) = xvalI cs row (ps ++ [noneP]) := (List.cons.inj hv2).1
  refine ⟨xvalI cs row ps, ht, ?_, ?_, ?_⟩
  · unfold holdsI; rw [h]; simp
  · unfold holdsI; rw [hk1, ← e1, isYes_of]; simp
  · unfold holdsI; rw [hk2, ← e2, isYes_of]
    by_cases hz : (xvalI cs row ps).1 = 0 <;> simp [hz]
theorem three_one {v : VT} (h : TypV v 3) : (isYes v = true ∧ decide (notI (toT v) = 1) = false ∧ decide (v.1 = 0) = false) ∨ (isYes v = false ∧ decide (notI (toT v) = 1) = true ∧ decide (v.1 = 0) = false) ∨ (isYes v = false ∧ decide (notI (toT v) = 1) = false ∧ decide (v.1 = 0) = true) := by
  rcases truth_cases h with ⟨h1, h2, h3⟩ | ⟨h1, h2, h3, h4⟩ | ⟨h1, h2, h3, h4⟩
  · right; right; rw [h1, h2, h3]; decide
  · right; left; rw [h1, h3, h4]; decide
  · left; rw [h1, h3, h4]; decide
end Go.Proofs.Ytjidkjnlnenmbaa.Val
namespace Go.Proofs.Ytjidkjnlnenmbaa.Val
set_option linter.unusedVariables false
def asks (ps : List PT) (k : Nat) : Bool := ps.any fun p => decide (p.1 = 2) && decide (p.2.1 = (k : Int))
def colsI (cs : List CT) (ps : List PT) : List Nat := if kindI cs ps < 0 then [] else (List.range cs.length).filter (asks ps)
theorem step_col {cs : List CT} {p : PT} {st st' : List Int} (h : stepK cs p st = some st') (hp : p.1 = 2) : 0 ≤ p.2.1 ∧ p.2.1 < cs.length := by
  unfold stepK at h
  split at h
  · cases h
  rw [if_neg (by omega)] at h
  first | rw [if_pos hp] at h | skip
  split at h
  · rename_i h1; exact h1
  · cases h
theorem stepV_agree {cs : List CT} {row row' : List VT} {p : PT} {st st' : List Int} (vs : List VT) (h : stepK cs p st = some st') (ha : p.1 = 2 → row.getD p.2.1.toNat nilV = row'.getD p.2.1.toNat nilV) : stepV row p vs = stepV row' p vs := by
  unfold stepV
  by_cases h1 : p.1 = 1
  · rw [if_pos h1, if_pos h1]
  · rw [if_neg h1, if_neg h1]
    by_cases h2 : p.1 = 2
    · rw [if_pos h2, if_pos h2, ha h2]
    · rw [if_neg h2, if_neg h2]
theorem runV_agree {cs : List CT} {row row' : List VT} (ps : List PT) : ∀ {st st' : List Int} (vs : List VT), runK cs ps st = some st' → (∀ k, k < cs.length → asks ps k = true → row.getD k nilV = row'.getD k nilV) → runV row ps vs = runV row' ps vs := by
  induction ps with
  | nil => intro st st' vs h ha; rfl
  | cons p ps ih =>
    intro st st' vs h ha
    rw [runK] at h
    rcases hs : stepK cs p st with _ | s1
    · rw [hs] at h; cases h
    · rw [hs] at h
      rw [runV_cons, runV_cons, stepV_agree (row := row) (row' := row') vs hs (fun h2 => by
        obtain ⟨h3, h4⟩ := step_col hs h2
        refine ha _ (by omega) ?_
        rw [asks, List.any_cons, h2]
        simp; left; omega)]
      exact ih _ h (fun k hk hq => ha k hk (by rw [asks, List.any_cons]; rw [asks] at hq; rw [hq]; simp))
theorem xval_agree {cs : List CT} {row row' : List VT} {ps : List PT} (hf : fitB cs row = fitB cs row') (ha : ∀ k, k < cs.length → asks ps k = true → row.getD k nilV = row'.getD k nilV) : xvalI cs row ps = xvalI cs row' ps := by
  unfold xvalI
  rw [hf]
  split
  · rfl
  · rename_i h
    obtain ⟨-, -, hr, -, -⟩ := kind_some (fun h1 => h (.inl h1))
    rw [runV_agree ps [] hr ha]
/-- A row that fits. -/
def oneRow (cs : List CT) (f : Nat → Int → Int) : List VT := (List.range cs.length).map fun (k : Nat) => (colAt cs k, f k (colAt cs k), ⟨#[]⟩)
theorem ok_plain {k n : Int} (h1 : 1 ≤ k) (h3 : k ≤ 3) (hn : n = 0 ∨ n = 1) (h2 : k = 2 → n = 0) : okV (k, n, ⟨#[]⟩) = true := by
  have hk : k = 1 ∨ k = 2 ∨ k = 3 := by omega
  rcases hk with rfl | rfl | rfl
  · rcases hn with rfl | rfl <;> simp [okV, okB, numB]
  · rw [h2 rfl]; simp [okV, okB, letB]; decide
  · rcases hn with rfl | rfl <;> simp [okV, okB]
theorem oneRow_len (cs : List CT) (f : Nat → Int → Int) : (oneRow cs f).length = cs.length := by simp [oneRow]
theorem oneRow_get (cs : List CT) (f : Nat → Int → Int) (k : Nat) (h : k < cs.length) : (oneRow cs f)[k]'(by rw [oneRow_len]; exact h) = (colAt cs k, f k (colAt cs k), ⟨#[]⟩) := by simp [oneRow]
theorem colAt_nat {cs : List CT} {k : Nat} (h : k < cs.length) : colAt cs k = cs[k].1 := by
  unfold colAt
  rw [Int.toNat_natCast, List.getD_eq_getElem?_getD, List.getElem?_eq_getElem h]; rfl
theorem oneRow_fits {cs : List CT} {f : Nat → Int → Int} (hc : colB cs = true) (h1 : ∀ k c, f k c = 0 ∨ f k c = 1) (h2 : ∀ k, f k 2 = 0) : fitB cs (oneRow cs f) = true := by
  have hl : cs.length ≤ 4 := by simp only [colB, Bool.and_eq_true, decide_eq_true_eq] at hc; exact hc.1
  simp only [fitB, Bool.and_eq_true, decide_eq_true_eq, List.all_eq_true]
  refine ⟨⟨⟨hc, ?_⟩, oneRow_len cs f⟩, ?_⟩
  · simp only [rowB, Bool.and_eq_true, decide_eq_true_eq, List.all_eq_true]
    refine ⟨by rw [oneRow_len]; exact hl, fun v hv => ?_⟩
    obtain ⟨i, hi, rfl⟩ := List.mem_iff_getElem.1 hv
    rw [oneRow_len] at hi
    rw [oneRow_get cs f i hi]
    have := col_kind hc (n := i) (by omega) (by omega)
    exact ok_plain this.1 this.2 (h1 _ _) (fun h => by rw [h]; exact h2 _)
  · intro p hp
    obtain ⟨i, hi, rfl⟩ := List.mem_iff_getElem.1 hp
    have hi2 : i < cs.length := by simp at hi; omega
    rw [List.getElem_zip, oneRow_get cs f i hi2]
    simp [takeB, colAt_nat hi2]
/-- What is read of the two rows of the law. -/
theorem cols_same {cs : List CT} {ps : List PT} {f g : Nat → Int → Int} (hc : colB cs = true → (∀ k c, f k c = 0 ∨ f k c = 1) ∧ (∀ k c, g k c = 0 ∨ g k c = 1) ∧ (∀ k, f k 2 = 0) ∧ (∀ k, g k 2 = 0)) (ha : ∀ k, asks ps k = true → k < cs.length → f k (colAt cs k) = g k (colAt cs k)) : xvalI cs (oneRow cs f) ps = xvalI cs (oneRow cs g) ps := by
  by_cases hk : kindI cs ps < 0
  · rw [xval_nil (.inl hk), xval_nil (.inl hk)]
  · obtain ⟨hcb, -⟩ := kind_some hk
    obtain ⟨h1, h2, h3, h4⟩ := hc hcb
    refine xval_agree (by rw [oneRow_fits hcb h1 h3, oneRow_fits hcb h2 h4]) (fun k hk2 hq => ?_)
    rw [List.getD_eq_getElem?_getD, List.getD_eq_getElem?_getD, List.getElem?_eq_getElem (by rw [oneRow_len]; exact hk2), List.getElem?_eq_getElem (by rw [oneRow_len]; exact hk2), oneRow_get cs f k hk2, oneRow_get cs g k hk2, ha k hq hk2]
/-! ### Folding -/
def foldI (cs : List CT) (ps : List PT) : List PT :=
  if kindI cs ps < 0 then []
  else if colsI cs ps = [] ∧ ((runV [] ps []).headD nilV).1 ≠ 0 then [(1, 0, (runV [] ps []).headD nilV)]
  else ps
theorem kind_ne {cs : List CT} {ps : List PT} (h : ¬ kindI cs ps < 0) : ps ≠ [] := by
  rintro rfl
  unfold kindI at h
  split at h
  · exact h (show (-1 : Int) < 0 by decide)
  · exact h (by decide)
theorem fold_run {cs : List CT} {ps : List PT} {row : List VT} (h : ¬ kindI cs ps < 0) (hn : colsI cs ps = []) : runV [] ps [] = runV row ps [] := by
  obtain ⟨-, -, hr, -, -⟩ := kind_some h
  refine runV_agree ps [] hr (fun k hk hq => ?_)
  unfold colsI at hn
  rw [if_neg h, List.filter_eq_nil_iff] at hn
  exact absurd hq (hn k (List.mem_range.2 hk))
theorem fold_typ {cs : List CT} {ps : List PT} (h : ¬ kindI cs ps < 0) (hn : colsI cs ps = []) : TypV ((runV [] ps []).headD nilV) (kindI cs ps) := by
  obtain ⟨hc, -⟩ := kind_some h
  have hf := oneRow_fits (f := fun _ _ => 0) hc (fun _ _ => .inl rfl) (fun _ => rfl)
  obtain ⟨hv, ht⟩ := xval_of h hf
  rw [fold_run (row := oneRow cs fun _ _ => 0) h hn, hv]
  exact ht
theorem kind_one {cs : List CT} {v : VT} (hc : colB cs = true) (h : okV v = true) (h0 : v.1 ≠ 0) : kindI cs [(1, 0, v)] = v.1 := by
  have hb : partBad (1, 0, v) = false := by simp [partBad]
  have hs : stepK cs (1, 0, v) [] = some [v.1] := by
    unfold stepK
    rw [hb]
    simp only [if_true, Bool.false_eq_true, if_false]
    rw [if_pos ⟨h, h0⟩]
  unfold kindI
  rw [if_pos ⟨hc, by simp⟩]
  simp [runK, hs, kindO]
theorem fold_kind {cs : List CT} {ps : List PT} (h : ¬ kindI cs ps < 0) : kindI cs (foldI cs ps) = kindI cs ps ∧ (foldI cs ps).length ≤ ps.length ∧ 0 < (foldI cs ps).length := by
  obtain ⟨hc, -⟩ := kind_some h
  have hp := List.length_pos_iff.2 (kind_ne h)
  unfold foldI
  rw [if_neg h]
  split
  · rename_i h1
    have ht := fold_typ h h1.1
    refine ⟨?_, by simp; omega, by simp⟩
    rw [kind_one hc ht.1 h1.2]
    rcases ht.2 with h2 | h2
    · exact absurd h2 h1.2
    · exact h2
  · exact ⟨rfl, Nat.le_refl _, hp⟩
theorem fold_val {cs : List CT} {ps : List PT} (row : List VT) (h : ¬ kindI cs ps < 0) : xvalI cs row (foldI cs ps) = xvalI cs row ps := by
  obtain ⟨hk, -, -⟩ := fold_kind h
  by_cases hf : fitB cs row = true
  · obtain ⟨hv, -⟩ := xval_of h hf
    obtain ⟨hv2, -⟩ := xval_of (show ¬ kindI cs (foldI cs ps) < 0 by rw [hk]; exact h) hf
    by_cases hn : colsI cs ps = [] ∧ ((runV [] ps []).headD nilV).1 ≠ 0
    · have e : foldI cs ps = [(1, 0, (runV [] ps []).headD nilV)] := by unfold foldI; rw [if_neg h, if_pos hn]
      rw [e] at hv2 ⊢
      have h2 : runV row [(1, 0, (runV [] ps []).headD nilV)] [] = [(runV [] ps []).headD nilV] := rfl
      rw [h2, fold_run (row := row) h hn.1, hv] at hv2
      rw [fold_run (row := row) h hn.1, hv]
      exact (List.cons.inj hv2).1.symm
    · have e : foldI cs ps = ps := by unfold foldI; rw [if_neg h, if_neg hn]
      rw [e]
  · have hf2 : fitB cs row = false := by simpa using hf
    rw [xval_nil (.inr hf2), xval_nil (.inr hf2)]
end Go.Proofs.Ytjidkjnlnenmbaa.Val
namespace Go.Proofs.Ytjidkjnlnenmbaa.Val
set_option linter.unusedVariables false
def mvP (tt : List Int) (p : PT) : PT := if p.1 = 2 then (p.1, tt.getD p.2.1.toNat 0, p.2.2) else p
def movB (cs : List CT) (ps : List PT) (tt : List Int) : Bool := decide (0 ≤ kindI cs ps) && decide (tt.length = cs.length) && tt.all fun t => decide (0 ≤ t) && decide (t ≤ 3)
def movI (cs : List CT) (ps : List PT) (tt : List Int) : List PT := if movB cs ps tt = true then ps.map (mvP tt) else []
/-- The places are all columns, each once. -/
structure Moved {α : Type} (π : List Nat) (xs ys : List α) : Prop where
  perm : π.Perm (List.range xs.length)
  len : ys.length = xs.length
  at_ : ∀ k (h : k < xs.length) (h2 : π.getD k 0 < ys.length), ys[π.getD k 0] = xs[k]
theorem Moved.lt {α : Type} {π : List Nat} {xs ys : List α} (h : Moved π xs ys) (k : Nat) (hk : k < xs.length) : π.getD k 0 < xs.length := by
  have hl : π.length = xs.length := by have := h.perm.length_eq; simpa using this
  rw [List.getD_eq_getElem?_getD, List.getElem?_eq_getElem (by omega)]
  exact List.mem_range.1 (h.perm.mem_iff.1 (List.getElem_mem _))
theorem Moved.get {α : Type} {π : List Nat} {xs ys : List α} (h : Moved π xs ys) (k : Nat) (hk : k < xs.length) : ys[π.getD k 0]? = xs[k]? := by
  have h2 := h.lt k hk
  have h3 : π.getD k 0 < ys.length := by rw [h.len]; exact h2
  rw [List.getElem?_eq_getElem h3, List.getElem?_eq_getElem hk, h.at_ k hk h3]
theorem Moved.from {α : Type} {π : List Nat} {xs ys : List α} (h : Moved π xs ys) (j : Nat) (hj : j < ys.length) : ∃ k, k < xs.length ∧ π.getD k 0 = j := by
  have hl : π.length = xs.length := by have := h.perm.length_eq; simpa using this
  have hm : j ∈ π := h.perm.mem_iff.2 (List.mem_range.2 (by rw [← h.len]; exact hj))
  obtain ⟨k, hk, e⟩ := List.mem_iff_getElem.1 hm
  exact ⟨k, by omega, by rw [List.getD_eq_getElem?_getD, List.getElem?_eq_getElem hk]; exact e⟩
theorem Moved.all {α : Type} {π : List Nat} {xs ys : List α} (h : Moved π xs ys) (f : α → Bool) (hx : xs.all f = true) : ys.all f = true := by
  rw [List.all_eq_true] at hx ⊢
  intro y hy
  obtain ⟨j, hj, rfl⟩ := List.mem_iff_getElem.1 hy
  obtain ⟨k, hk, rfl⟩ := h.from j hj
  rw [h.at_ k hk hj]
  exact hx _ (List.getElem_mem hk)
theorem moved_fit {π : List Nat} {cs ds : List CT} {row other : List VT} (hc : Moved π cs ds) (hr : Moved π row other) (hf : fitB cs row = true) : fitB ds other = true := by
  have hlen : row.length = cs.length := by simp only [fitB, Bool.and_eq_true, decide_eq_true_eq] at hf; exact hf.1.2
  simp only [fitB, colB, rowB, Bool.and_eq_true, decide_eq_true_eq] at hf ⊢
  obtain ⟨⟨⟨⟨h1, h2⟩, h3, h4⟩, h5⟩, h6⟩ := hf
  refine ⟨⟨⟨⟨by rw [hc.len]; exact h1, hc.all _ h2⟩, by rw [hr.len]; exact h3, hr.all _ h4⟩, by rw [hr.len, hc.len]; exact h5⟩, ?_⟩
  rw [List.all_eq_true] at h6 ⊢
  intro p hp
  obtain ⟨j, hj, rfl⟩ := List.mem_iff_getElem.1 hp
  have hj1 : j < ds.length := by simp at hj; omega
  have hj2 : j < other.length := by simp at hj; omega
  obtain ⟨k, hk, rfl⟩ := hc.from j hj1
  rw [List.getElem_zip, hc.at_ k hk hj1, hr.at_ k (by omega) hj2]
  have hz : k < (cs.zip row).length := by simp; omega
  have := h6 _ (List.getElem_mem hz)
  rwa [List.getElem_zip] at this
theorem mv_not {tt : List Int} {p : PT} (h : p.1 ≠ 2) : mvP tt p = p := by unfold mvP; rw [if_neg h]
theorem mv_col {tt : List Int} {p : PT} (h : p.1 = 2) : mvP tt p = (2, tt.getD p.2.1.toNat 0, p.2.2) := by unfold mvP; rw [if_pos h, h]
theorem to_at {π : List Nat} {k : Nat} : (π.map Int.ofNat).getD k 0 = ((π.getD k 0 : Nat) : Int) := by
  rw [List.getD_eq_getElem?_getD, List.getD_eq_getElem?_getD, List.getElem?_map]
  rcases π[k]? with _ | x <;> rfl
theorem colAt_moved {π : List Nat} {cs ds : List CT} (hc : Moved π cs ds) {n : Int} (h0 : 0 ≤ n) (h1 : n < cs.length) : colAt ds ((π.getD n.toNat 0 : Nat) : Int) = colAt cs n := by
  have := hc.get n.toNat (by omega)
  unfold colAt
  rw [Int.toNat_natCast, List.getD_eq_getElem?_getD (l := ds), List.getD_eq_getElem?_getD (l := cs), this]
theorem step_moved {π : List Nat} {cs ds : List CT} {p : PT} {st st' : List Int} (hc : Moved π cs ds) (h : stepK cs p st = some st') : stepK ds (mvP (π.map Int.ofNat) p) st = some st' := by
  by_cases h2 : p.1 = 2
  · obtain ⟨h3, h4⟩ := step_col h h2
    rw [mv_col h2, to_at]
    have hlt := hc.lt p.2.1.toNat (by omega)
    unfold stepK at h ⊢
    split at h
    · cases h
    rename_i hb
    have hb2 : ¬ partBad (2, ((π.getD p.2.1.toNat 0 : Nat) : Int), p.2.2) = true := by
      intro hh; apply hb
      simp only [partBad, h2] at hh ⊢
      simpa using hh
    rw [if_neg hb2]
    rw [if_neg (by omega)] at h
    rw [if_neg (show ¬ (2 : Int) = 1 by decide), if_pos rfl]
    have h : (if p.1 = 2 then (if 0 ≤ p.2.1 ∧ p.2.1 < cs.length then some (colAt cs p.2.1 :: st) else none) else none) = some st' := by
      rw [if_pos h2]; first | exact h | (rw [if_pos h2] at h; exact h)
    rw [if_pos h2, if_pos ⟨h3, h4⟩] at h
    rw [if_pos (show (0 : Int) ≤ ((π.getD p.2.1.toNat 0 : Nat) : Int) ∧ ((π.getD p.2.1.toNat 0 : Nat) : Int) < ds.length from ⟨by omega, by rw [hc.len]; omega⟩), colAt_moved hc h3 h4]
    exact h
  · rw [mv_not h2]
    unfold stepK at h ⊢
    split at h
    · cases h
    rename_i hb
    rw [if_neg hb]
    by_cases h1 : p.1 = 1
    · simp only [h1, if_true] at h ⊢; exact h
    · simp only [h1, h2, if_false] at h ⊢; exact h
theorem run_moved {π : List Nat} {cs ds : List CT} (hc : Moved π cs ds) (ps : List PT) : ∀ {st st' : List Int}, runK cs ps st = some st' → runK ds (ps.map (mvP (π.map Int.ofNat))) st = some st' := by
  induction ps with
  | nil => intro st st' h; exact h
  | cons p ps ih =>
    intro st st' h
    rw [runK] at h
    rcases hs : stepK cs p st with _ | s1
    · rw [hs] at h; cases h
    · rw [hs] at h
      rw [List.map_cons, runK, step_moved hc hs]
      exact ih h
theorem stepV_moved {π : List Nat} {cs : List CT} {row other : List VT} {p : PT} {st st' : List Int} (vs : List VT) (hr : Moved π row other) (hl : row.length = cs.length) (h : stepK cs p st = some st') : stepV other (mvP (π.map Int.ofNat) p) vs = stepV row p vs := by
  by_cases h2 : p.1 = 2
  · obtain ⟨h3, h4⟩ := step_col h h2
    rw [mv_col h2, to_at]
    unfold stepV
    rw [if_neg (show ¬ (2 : Int) = 1 by decide), if_pos rfl, if_neg (by omega), if_pos h2]
    simp only [Int.toNat_natCast]
    rw [List.getD_eq_getElem?_getD (l := other), List.getD_eq_getElem?_getD (l := row), hr.get p.2.1.toNat (by omega)]
  · rw [mv_not h2]
    unfold stepV
    by_cases h1 : p.1 = 1
    · rw [if_pos h1, if_pos h1]
    · rw [if_neg h1, if_neg h1, if_neg h2, if_neg h2]
theorem runV_moved {π : List Nat} {cs : List CT} {row other : List VT} (hr : Moved π row other) (hl : row.length = cs.length) (ps : List PT) : ∀ {st st' : List Int} (vs : List VT), runK cs ps st = some st' → runV other (ps.map (mvP (π.map Int.ofNat))) vs = runV row ps vs := by
  induction ps with
  | nil => intro st st' vs h; rfl
  | cons p ps ih =>
    intro st st' vs h
    rw [runK] at h
    rcases hs : stepK cs p st with _ | s1
    · rw [hs] at h; cases h
    · rw [hs] at h
      rw [List.map_cons, runV_cons, runV_cons, stepV_moved vs hr hl hs]
      exact ih _ h
theorem moved_val {π : List Nat} {cs ds : List CT} {row other : List VT} {ps : List PT} (hc : Moved π cs ds) (hr : Moved π row other) (hf : fitB cs row = true) (hk : ¬ kindI cs ps < 0) : xvalI ds other (ps.map (mvP (π.map Int.ofNat))) = xvalI cs row ps := by
  have hlen : row.length = cs.length := by simp only [fitB, Bool.and_eq_true, decide_eq_true_eq] at hf; exact hf.1.2
  have hf2 := moved_fit hc hr hf
  obtain ⟨hcb, hpl, hrn, -, -⟩ := kind_some hk
  have hcb2 : colB ds = true := by simp only [fitB, Bool.and_eq_true] at hf2; exact hf2.1.1.1
  have hrn2 := run_moved hc ps hrn
  have hk2 : kindI ds (ps.map (mvP (π.map Int.ofNat))) = kindI cs ps := by
    have e : kindI ds (ps.map (mvP (π.map Int.ofNat))) = kindO (some [kindI cs ps]) := by
      rw [← hrn2]; unfold kindI; rw [if_pos ⟨hcb2, by rw [List.length_map]; exact hpl⟩]
    exact e
  obtain ⟨hv, -⟩ := xval_of hk hf
  obtain ⟨hv2, -⟩ := xval_of (show ¬ kindI ds (ps.map (mvP (π.map Int.ofNat))) < 0 by rw [hk2]; exact hk) hf2
  rw [runV_moved hr hlen ps [] hrn, hv] at hv2
  exact (List.cons.inj hv2).1.symm
end Go.Proofs.Ytjidkjnlnenmbaa.Val
namespace Go.Proofs.Ytjidkjnlnenmbaa.Val
set_option linter.unusedVariables false
def takesI (k : Int) : Nat := if k = 3 ∨ k = 4 ∨ k = 5 ∨ k = 6 then 2 else if k = 7 ∨ k = 8 then 1 else 0
def fieldB (cs : List CT) (p : PT) : Bool :=
  if p.1 = 1 then decide (p.2.1 = 0) && (decide (p.2.2.1 ≠ 0) && okV p.2.2)
  else if isNil p.2.2 = false then false
  else if p.1 = 2 then decide (0 ≤ p.2.1) && decide (p.2.1 < cs.length)
  else if p.1 = 4 then decide (1 ≤ p.2.1) && decide (p.2.1 ≤ 4)
  else if p.1 = 3 ∨ p.1 = 5 ∨ p.1 = 6 ∨ p.1 = 7 ∨ p.1 = 8 then decide (p.2.1 = 0)
  else false
def putK (cs : List CT) (p : PT) (l : List Int) : Int :=
  if p.1 = 1 then p.2.2.1
  else if p.1 = 2 then colAt cs p.2.1
  else if p.1 = 3 then (if l.all (fun x => decide (x = 1)) = true then 1 else -1)
  else if p.1 = 4 then (if l.getD 0 0 = l.getD 1 0 then 3 else -1)
  else if p.1 = 5 ∨ p.1 = 6 ∨ p.1 = 7 then (if l.all (fun x => decide (x = 3)) = true then 3 else -1)
  else 3
def putV (row : List VT) (p : PT) (l : List VT) : VT :=
  if p.1 = 1 then p.2.2
  else if p.1 = 2 then row.getD p.2.1.toNat nilV
  else if p.1 = 7 then ofT (notI (toT (l.getD 0 nilV)))
  else if p.1 = 8 then ofT (if (l.getD 0 nilV).1 = 0 then 1 else 0)
  else binV p (l.getD 0 nilV) (l.getD 1 nilV)
theorem kind_eight (k : Int) : k = 1 ∨ k = 2 ∨ k = 3 ∨ k = 4 ∨ k = 5 ∨ k = 6 ∨ k = 7 ∨ k = 8 ∨ (k ≠ 1 ∧ k ≠ 2 ∧ k ≠ 3 ∧ k ≠ 4 ∧ k ≠ 5 ∧ k ≠ 6 ∧ k ≠ 7 ∧ k ≠ 8) := by omega
theorem fits_not {cs : List CT} {p : PT} {st : List Int} (h : fieldB cs p = false) : stepK cs p st = none := by
  obtain ⟨k, n, v⟩ := p
  unfold stepK
  by_cases hb : partBad (k, n, v) = true
  · rw [if_pos hb]
  rw [if_neg hb]
  simp only [partBad, Bool.or_eq_true, Bool.and_eq_true, decide_eq_true_eq, Bool.not_eq_true', not_or, not_and, Bool.not_eq_false] at hb
  simp only [fieldB] at h
  rcases kind_eight k with rfl | rfl | rfl | rfl | rfl | rfl | rfl | rfl | ⟨h1, h2, h3, h4, h5, h6, h7, h8⟩
  all_goals simp at h hb ⊢
  · intro ho; rw [hb] at h; have := h rfl; simp_all
  · have := h hb; omega
  all_goals first
    | (rcases st with _ | ⟨a, _ | ⟨b, q⟩⟩ <;> simp; done)
    | (have := h hb.1; simp_all; done)
    | (have := h hb; rcases st with _ | ⟨a, _ | ⟨b, q⟩⟩ <;> simp <;> intros <;> omega)
    | skip
  rcases st with _ | ⟨a, _ | ⟨b, q⟩⟩ <;> simp [h1, h2, h3, h4, h5, h6, h7, h8]
theorem few_not {cs : List CT} {p : PT} {st : List Int} (h : st.length < takesI p.1) : stepK cs p st = none := by
  obtain ⟨k, n, v⟩ := p
  unfold stepK
  split
  · rfl
  simp only [takesI] at h ⊢
  rcases kind_eight k with rfl | rfl | rfl | rfl | rfl | rfl | rfl | rfl | ⟨h1, h2, h3, h4, h5, h6, h7, h8⟩
  all_goals simp_all
  all_goals (rcases st with _ | ⟨a, _ | ⟨b, q⟩⟩ <;> simp_all <;> omega)
theorem step_put {cs : List CT} {p : PT} {st : List Int} (hc : colB cs = true) (h : takesI p.1 ≤ st.length) (hf : fieldB cs p = true) : stepK cs p st = if putK cs p (st.take (takesI p.1)).reverse < 0 then none else some (putK cs p (st.take (takesI p.1)).reverse :: st.drop (takesI p.1)) := by
  obtain ⟨k, n, v⟩ := p
  unfold stepK
  simp only [fieldB] at hf
  simp only [takesI] at h ⊢
  rcases kind_eight k with rfl | rfl | rfl | rfl | rfl | rfl | rfl | rfl | ⟨h1, h2, h3, h4, h5, h6, h7, h8⟩
  · simp at hf
    have hk := ok_kind hf.2.2
    have hneg : ¬ v.1 < 0 := by omega
    simp [partBad, putK, hf, hneg]
  · simp at hf
    obtain ⟨hv, hn⟩ := hf
    have hk := col_kind hc hn.1 hn.2
    have hneg : ¬ colAt cs n < 0 := by omega
    simp [partBad, putK, hv, hn, hneg]
  · simp at hf h
    obtain ⟨hv, rfl⟩ := hf
    rcases st with _ | ⟨a, _ | ⟨b, q⟩⟩
    · simp at h
    · simp at h
    · by_cases ha : a = 1 <;> by_cases hb : b = 1 <;> simp [partBad, putK, hv, ha, hb]
  · simp at hf h
    obtain ⟨hv, hn⟩ := hf
    rcases st with _ | ⟨a, _ | ⟨b, q⟩⟩
    · simp at h
    · simp at h
    · by_cases ha : a = b
      · subst ha; simp [partBad, putK, hv, hn]
      · have hb : ¬ b = a := fun e => ha e.symm
        simp [partBad, putK, hv, hn, ha, hb]
  · simp at hf h
    obtain ⟨hv, rfl⟩ := hf
    rcases st with _ | ⟨a, _ | ⟨b, q⟩⟩
    · simp at h
    · simp at h
    · by_cases ha : a = 3 <;> by_cases hb : b = 3 <;> simp [partBad, putK, hv, ha, hb]
  · simp at hf h
    obtain ⟨hv, rfl⟩ := hf
    rcases st with _ | ⟨a, _ | ⟨b, q⟩⟩
    · simp at h
    · simp at h
    · by_cases ha : a = 3 <;> by_cases hb : b = 3 <;> simp [partBad, putK, hv, ha, hb]
  · simp at hf h
    obtain ⟨hv, rfl⟩ := hf
    rcases st with _ | ⟨a, q⟩
    · simp at h
    · by_cases ha : a = 3 <;> simp [partBad, putK, hv, ha]
  · simp at hf h
    obtain ⟨hv, rfl⟩ := hf
    rcases st with _ | ⟨a, q⟩
    · simp at h
    · simp [partBad, putK, hv]
  · simp [h1, h2, h3, h4, h5, h6, h7, h8] at hf
theorem val_put {cs : List CT} {p : PT} {st st' : List Int} {row vs : List VT} (h : stepK cs p st = some st') (hl : vs.length = st.length) : stepV row p vs = putV row p (vs.take (takesI p.1)).reverse :: vs.drop (takesI p.1) := by
  have hf : fieldB cs p = true := by
    rcases hb : fieldB cs p with _ | _
    · rw [fits_not hb] at h; cases h
    · rfl
  have ht : takesI p.1 ≤ st.length := by
    rcases Nat.lt_or_ge st.length (takesI p.1) with h2 | h2
    · rw [few_not h2] at h; cases h
    · exact h2
  clear h
  rw [← hl] at ht
  obtain ⟨k, n, v⟩ := p
  simp only [fieldB] at hf
  simp only [takesI] at ht ⊢
  rcases kind_eight k with rfl | rfl | rfl | rfl | rfl | rfl | rfl | rfl | ⟨h1, h2, h3, h4, h5, h6, h7, h8⟩
  case inr.inr.inr.inr.inr.inr.inr.inr => simp [h1, h2, h3, h4, h5, h6, h7, h8] at hf
  all_goals first
    | (simp [stepV, putV]; done)
    | (rcases vs with _ | ⟨a, _ | ⟨b, q⟩⟩ <;> simp at ht <;> simp [stepV, putV]; done)
theorem takes_le (k : Int) : takesI k ≤ 2 := by unfold takesI; split; omega; split <;> omega
end Go.Proofs.Ytjidkjnlnenmbaa.Val
