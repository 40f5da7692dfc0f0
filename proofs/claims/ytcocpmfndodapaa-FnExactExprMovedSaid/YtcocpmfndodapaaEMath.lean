/- Expressions: the plain functions. -/
import Derived.Test.YtcocpmfndodapaaRowF
import Derived.Test.YtcocpmfndodapaaTMath
namespace Go.Proofs.Ytcocpmfndodapaa.Val
set_option linter.unusedVariables false
abbrev PT := Int × Int × VT
def nilV : VT := (0, 0, ⟨#[]⟩)
def isNil (v : VT) : Bool := decide (v.1 = 0) && decide (v.2.1 = 0) && decide (v.2.2.toList = [])
def partBad (p : PT) : Bool := (decide (p.1 ≠ 1) && !isNil p.2.2) || (decide (p.1 ≠ 2) && decide (p.1 ≠ 4) && decide (p.2.1 ≠ 0))
def colAt (cs : List CT) (n : Int) : Int := (cs.getD n.toNat (0, false)).1
/-- The kinds that stand behind a part; the last one stands first. -/
def stepK (cs : List CT) (p : PT) (st : List Int) : Option (List Int) :=
  if partBad p = true then none
  else if p.1 = 1 then (if okV p.2.2 = true ∧ p.2.2.1 ≠ 0 then some (p.2.2.1 :: st) else none)
  else if p.1 = 2 then (if 0 ≤ p.2.1 ∧ p.2.1 < cs.length then some (colAt cs p.2.1 :: st) else none)
  else match st with
    | [] => none
    | a :: r =>
      if p.1 = 8 then some (3 :: r)
      else if p.1 = 7 then (if a = 3 then some (a :: r) else none)
      else match r with
        | [] => none
        | b :: q =>
          if p.1 = 3 then (if a = 1 ∧ b = 1 then some (1 :: q) else none)
          else if p.1 = 4 then (if a = b ∧ 1 ≤ p.2.1 ∧ p.2.1 ≤ 4 then some (3 :: q) else none)
          else if p.1 = 5 ∨ p.1 = 6 then (if a = 3 ∧ b = 3 then some (3 :: q) else none)
          else none
def runK (cs : List CT) : List PT → List Int → Option (List Int)
  | [], st => some st
  | p :: ps, st => match stepK cs p st with
    | none => none
    | some st' => runK cs ps st'
def kindO (o : Option (List Int)) : Int := match o with
  | some [k] => k
  | _ => -1
def kindI (cs : List CT) (ps : List PT) : Int := if colB cs = true ∧ ps.length ≤ 12 then kindO (runK cs ps []) else -1
def ofT (t : Int) : VT := if t = 0 ∨ t = 1 then (3, t, ⟨#[]⟩) else nilV
def toT (v : VT) : Int := toI v.1 v.2.1 v.2.2
def sumV (x y : VT) : VT := if x.1 = 0 ∨ y.1 = 0 ∨ ¬ (-9999 ≤ x.2.1 + y.2.1 ∧ x.2.1 + y.2.1 ≤ 9999) then nilV else (1, x.2.1 + y.2.1, ⟨#[]⟩)
def binV (p : PT) (x y : VT) : VT :=
  if p.1 = 3 then sumV x y
  else if p.1 = 4 then ofT (compI p.2.1 x.1 x.2.1 x.2.2 y.1 y.2.1 y.2.2)
  else if p.1 = 5 then ofT (andI (toT x) (toT y))
  else ofT (orI (toT x) (toT y))
/-- The values that stand behind a part; the last one stands first. -/
def stepV (row : List VT) (p : PT) (vs : List VT) : List VT :=
  if p.1 = 1 then p.2.2 :: vs
  else if p.1 = 2 then row.getD p.2.1.toNat nilV :: vs
  else match vs with
    | [] => []
    | a :: r =>
      if p.1 = 8 then ofT (if a.1 = 0 then 1 else 0) :: r
      else if p.1 = 7 then ofT (notI (toT a)) :: r
      else match r with
        | [] => []
        | b :: q => binV p b a :: q
def runV (row : List VT) (ps : List PT) (vs : List VT) : List VT := ps.foldl (fun a p => stepV row p a) vs
def xvalI (cs : List CT) (row : List VT) (ps : List PT) : VT := if kindI cs ps < 0 ∨ fitB cs row = false then nilV else (runV row ps []).headD nilV
def isYes (v : VT) : Bool := decide (v.1 = 3) && decide (v.2.1 = 1) && decide (v.2.2.toList = [])
def holdsI (cs : List CT) (row : List VT) (ps : List PT) : Bool := decide (kindI cs ps = 3) && isYes (xvalI cs row ps)
/-! ### Kinds -/
theorem step_app {cs : List CT} {p : PT} {st st' : List Int} (x : List Int) (h : stepK cs p st = some st') : stepK cs p (st ++ x) = some (st' ++ x) := by
  unfold stepK at h ⊢
  split at h
  · cases h
  rename_i hb
  rw [if_neg hb]
  split at h
  · rename_i h1
    rw [if_pos h1]
    split at h
    · rename_i h2; rw [if_pos h2]; cases h; rfl
    · cases h
  rename_i h1
  rw [if_neg h1]
  split at h
  · rename_i h2
    rw [if_pos h2]
    split at h
    · rename_i h3; rw [if_pos h3]; cases h; rfl
    · cases h
  rename_i h2
  rw [if_neg h2]
  rcases st with _ | ⟨a, _ | ⟨b, q⟩⟩
  · cases h
  · simp only [List.cons_append, List.nil_append] at h ⊢
    split at h
    · rename_i h3; rw [if_pos h3]; cases h; rfl
    rename_i h3
    rw [if_neg h3]
    split at h
    · rename_i h4; rw [if_pos h4]
      split at h
      · rename_i h5; rw [if_pos h5]; cases h; rfl
      · cases h
    · cases h
  · simp only [List.cons_append] at h ⊢
    repeat' split at h
    all_goals first
      | (cases h; done)
      | (cases h; simp_all; done)
theorem run_app {cs : List CT} (ps : List PT) : ∀ {st st' : List Int} (x : List Int), runK cs ps st = some st' → runK cs ps (st ++ x) = some (st' ++ x) := by
  induction ps with
  | nil => intro st st' x h; rw [runK] at h ⊢; cases h; rfl
  | cons p ps ih =>
    intro st st' x h
    rw [runK] at h ⊢
    rcases hs : stepK cs p st with _ | s1
    · rw [hs] at h; cases h
    · rw [hs] at h
      rw [step_app x hs]
      exact ih x h
theorem run_cat (cs : List CT) (ps qs : List PT) : ∀ (st : List Int), runK cs (ps ++ qs) st = (runK cs ps st).bind (runK cs qs) := by
  induction ps with
  | nil => intro st; rfl
  | cons p ps ih =>
    intro st
    rw [List.cons_append, runK, runK]
    rcases stepK cs p st with _ | s1
    · rfl
    · exact ih s1
/-- All kinds are 1, 2 or 3. -/
def In3 (st : List Int) : Prop := ∀ k ∈ st, 1 ≤ k ∧ k ≤ 3
theorem ok_kind {v : VT} (h : okV v = true) : 0 ≤ v.1 ∧ v.1 ≤ 3 := by
  obtain ⟨k, n, s⟩ := v
  rcases ok_cases k n s with ho | ⟨h1, -⟩ | ⟨h1, -⟩ | ⟨h1, -⟩ | ⟨h1, -⟩ | ⟨h1, -⟩
  · rw [okV] at h; rw [h] at ho; cases ho
  all_goals (simp only; omega)
theorem col_kind {cs : List CT} (h : colB cs = true) {n : Int} (h0 : 0 ≤ n) (h1 : n < cs.length) : 1 ≤ colAt cs n ∧ colAt cs n ≤ 3 := by
  have hn : n.toNat < cs.length := by omega
  unfold colAt
  rw [List.getD_eq_getElem?_getD, List.getElem?_eq_getElem hn]
  simp only [colB, Bool.and_eq_true, List.all_eq_true] at h
  have := h.2 _ (List.getElem_mem hn)
  simpa [kindB] using this
theorem step_in {cs : List CT} {p : PT} {st st' : List Int} (hc : colB cs = true) (hs : In3 st) (h : stepK cs p st = some st') : In3 st' := by
  have c3 : ∀ {k : Int} {r : List Int}, 1 ≤ k → k ≤ 3 → In3 r → In3 (k :: r) := by
    intro k r h1 h2 hr x hx
    rcases List.mem_cons.1 hx with rfl | hx
    · exact ⟨h1, h2⟩
    · exact hr x hx
  have tl : ∀ {k : Int} {r : List Int}, In3 (k :: r) → In3 r := fun h x hx => h x (List.mem_cons_of_mem _ hx)
  unfold stepK at h
  split at h
  · cases h
  split at h
  · split at h
    · rename_i h2
      cases h
      have := ok_kind h2.1
      exact c3 (by have := h2.2; omega) this.2 hs
    · cases h
  split at h
  · split at h
    · rename_i h3
      cases h
      have := col_kind hc h3.1 h3.2
      exact c3 this.1 this.2 hs
    · cases h
  rcases st with _ | ⟨a, _ | ⟨b, q⟩⟩
  · cases h
  · simp only at h
    split at h
    · cases h; exact c3 (by omega) (by omega) (tl hs)
    split at h
    · split at h
      · cases h; exact hs
      · cases h
    · cases h
  · simp only at h
    repeat' split at h
    all_goals first
      | (cases h; done)
      | (cases h; exact c3 (by omega) (by omega) (tl hs))
      | (cases h; exact hs)
      | (cases h; exact c3 (by omega) (by omega) (tl (tl hs)))
theorem runIn3 {cs : List CT} (hc : colB cs = true) (ps : List PT) : ∀ {st st' : List Int}, In3 st → runK cs ps st = some st' → In3 st' := by
  induction ps with
  | nil => intro st st' hs h; rw [runK] at h; cases h; exact hs
  | cons p ps ih =>
    intro st st' hs h
    rw [runK] at h
    rcases hk : stepK cs p st with _ | s1
    · rw [hk] at h; cases h
    · rw [hk] at h
      exact ih (step_in hc hs hk) h
theorem kind_some {cs : List CT} {ps : List PT} (h : ¬ kindI cs ps < 0) : colB cs = true ∧ ps.length ≤ 12 ∧ runK cs ps [] = some [kindI cs ps] ∧ 1 ≤ kindI cs ps ∧ kindI cs ps ≤ 3 := by
  unfold kindI at h ⊢
  split at h
  · rename_i hc
    rw [if_pos hc]
    rcases hr : runK cs ps [] with _ | st
    · rw [hr] at h; exact absurd (by decide) h
    · rw [hr] at h
      have hin := runIn3 hc.1 ps (st := []) (by intro k hk; cases hk) hr
      rcases st with _ | ⟨k, _ | ⟨b, q⟩⟩
      · exact absurd (by decide) h
      · have := hin k (by simp)
        exact ⟨hc.1, hc.2, rfl, this.1, this.2⟩
      · exact absurd (show (-1 : Int) < 0 by decide) h
  · exact absurd (by decide) h
theorem kind_neg {cs : List CT} {ps : List PT} (h : kindI cs ps < 0) : kindI cs ps = -1 := by
  by_cases h2 : colB cs = true ∧ ps.length ≤ 12
  · unfold kindI at h ⊢
    rw [if_pos h2] at h ⊢
    rcases hr : runK cs ps [] with _ | st
    · rfl
    · rw [hr] at h
      have hin := runIn3 h2.1 ps (st := []) (by intro k hk; cases hk) hr
      rcases st with _ | ⟨k, _ | ⟨b, q⟩⟩
      · rfl
      · have := hin k (by simp)
        have h' : k < 0 := h
        omega
      · rfl
  · unfold kindI; rw [if_neg h2]
def cmpP : PT := (4, 1, nilV)
def noneP : PT := (8, 0, nilV)
def notP : PT := (7, 0, nilV)
theorem kind_twice {cs : List CT} {ps : List PT} (h : ¬ kindI cs ps < 0) (hl : (ps ++ ps ++ [cmpP]).length ≤ 12) : runK cs (ps ++ ps ++ [cmpP]) [] = some [3] ∧ kindI cs (ps ++ ps ++ [cmpP]) = 3 := by
  obtain ⟨hc, -, hr, -, -⟩ := kind_some h
  have h2 := run_app ps [kindI cs ps] hr
  have h3 : runK cs (ps ++ ps ++ [cmpP]) [] = some [3] := by
    rw [run_cat, run_cat, hr]
    show (runK cs ps ([] ++ [kindI cs ps])).bind _ = _
    rw [h2]
    simp [runK, stepK, cmpP, partBad, isNil, nilV]
  exact ⟨h3, by unfold kindI; rw [if_pos ⟨hc, hl⟩, h3]; rfl⟩
theorem kind_none {cs : List CT} {ps : List PT} (h : ¬ kindI cs ps < 0) (hl : (ps ++ [noneP]).length ≤ 12) : runK cs (ps ++ [noneP]) [] = some [3] ∧ kindI cs (ps ++ [noneP]) = 3 := by
  obtain ⟨hc, -, hr, -, -⟩ := kind_some h
  have h3 : runK cs (ps ++ [noneP]) [] = some [3] := by
    rw [run_cat, hr]
    simp [runK, stepK, noneP, partBad, isNil, nilV]
  exact ⟨h3, by unfold kindI; rw [if_pos ⟨hc, hl⟩, h3]; rfl⟩
theorem kind_not {cs : List CT} {ps : List PT} (h : kindI cs ps = 3) (hl : (ps ++ [notP]).length ≤ 12) : runK cs (ps ++ [notP]) [] = some [3] ∧ kindI cs (ps ++ [notP]) = 3 := by
  obtain ⟨hc, -, hr, -, -⟩ := kind_some (show ¬ kindI cs ps < 0 by omega)
  have h3 : runK cs (ps ++ [notP]) [] = some [3] := by
    rw [run_cat, hr, h]
    simp [runK, stepK, notP, partBad, isNil, nilV]
  exact ⟨h3, by unfold kindI; rw [if_pos ⟨hc, hl⟩, h3]; rfl⟩
end Go.Proofs.Ytcocpmfndodapaa.Val
