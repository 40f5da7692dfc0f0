/- Expressions: the plain functions; Expressions: values, and what the laws ask of them; Expressions: the columns that are asked, moving, folding; Expressions: moving; Expressions: a part by what it takes, its fields, and what it puts down (the plain functions of impl's ways). -/
import Derived.Test.YtacinjbaebimhaaRowFQ
import Derived.Test.YtacinjbaebimhaaTMathQ
import Derived.Test.YtacinjbaebimhaaTxtQ
namespace Go.Proofs.Ytacinjbaebimhaa.Val
set_option linter.unusedVariables false
abbrev PT := Int × Int × VT
def nilV : VT := (0, 0, ⟨#[]⟩)
def isNil (v : VT) : Bool := decide (v.1 = 0) && decide (v.2.1 = 0) && decide (v.2.2.toList = [])
def partBad (p : PT) : Bool := (decide (p.1 ≠ 1) && !isNil p.2.2) || (decide (p.1 ≠ 2) && decide (p.1 ≠ 4) && decide (p.2.1 ≠ 0))
def colAt (cs : List CT) (n : Int) : Int := (cs.getD n.toNat (0, false)).1
/-- The kinds that stand behind a part; the last one stands first. -/
def stepK (cs : List CT) (p : PT) (st : List Int) : Option (List Int) :=
  if partBad p = true then none
  else if p.1 = 1 then (if okV p.2.2 = true ∧ p.2.2.1 ≠ 0 then some (p.2.2.1 :: st) else none)
  else if p.1 = 2 then (if 0 ≤ p.2.1 ∧ p.2.1 < cs.length then some (colAt cs p.2.1 :: st) else none)
  else match st with
    | [] => none
    | a :: r =>
      if p.1 = 8 then some (3 :: r)
      else if p.1 = 7 then (if a = 3 then some (a :: r) else none)
      else match r with
        | [] => none
        | b :: q =>
          if p.1 = 3 then (if a = 1 ∧ b = 1 then some (1 :: q) else none)
          else if p.1 = 4 then (if a = b ∧ 1 ≤ p.2.1 ∧ p.2.1 ≤ 4 then some (3 :: q) else none)
          else if p.1 = 5 ∨ p.1 = 6 then (if a = 3 ∧ b = 3 then some (3 :: q) else none)
          else none
def runK (cs : List CT) : List PT → List Int → Option (List Int)
  | [], st => some st
  | p :: ps, st => match stepK cs p st with
    | none => none
    | some st' => runK cs ps st'
def kindO (o : Option (List Int)) : Int := match o with
  | some [k] => k
  | _ => -1
def kindI (cs : List CT) (ps : List PT) : Int := if colB cs = true ∧ ps.length ≤ 12 then kindO (runK cs ps []) else -1
def ofT (t : Int) : VT := if t = 0 ∨ t = 1 then (3, t, ⟨#[]⟩) else nilV
def toT (v : VT) : Int := toI v.1 v.2.1 v.2.2
def sumV (x y : VT) : VT := if x.1 = 0 ∨ y.1 = 0 ∨ ¬ (-9999 ≤ x.2.1 + y.2.1 ∧ x.2.1 + y.2.1 ≤ 9999) then nilV else (1, x.2.1 + y.2.1, ⟨#[]⟩)
def binV (p : PT) (x y : VT) : VT :=
  if p.1 = 3 then sumV x y
  else if p.1 = 4 then ofT (compI p.2.1 x.1 x.2.1 x.2.2 y.1 y.2.1 y.2.2)
  else if p.1 = 5 then ofT (andI (toT x) (toT y))
  else ofT (orI (toT x) (toT y))
/-- The values that stand behind a part; the last one stands first. -/
def stepV (row : List VT) (p : PT) (vs : List VT) : List VT :=
  if p.1 = 1 then p.2.2 :: vs
  else if p.1 = 2 then row.getD p.2.1.toNat nilV :: vs
  else match vs with
    | [] => []
    | a :: r =>
      if p.1 = 8 then ofT (if a.1 = 0 then 1 else 0) :: r
      else if p.1 = 7 then ofT (notI (toT a)) :: r
      else match r with
        | [] => []
        | b :: q => binV p b a :: q
def runV (row : List VT) (ps : List PT) (vs : List VT) : List VT := ps.foldl (fun a p => stepV row p a) vs
def isYes (v : VT) : Bool := decide (v.1 = 3) && decide (v.2.1 = 1) && decide (v.2.2.toList = [])
theorem run_cat (cs : List CT) (ps qs : List PT) : ∀ (st : List Int), runK cs (ps ++ qs) st = (runK cs ps st).bind (runK cs qs) := by
  induction ps with
  | nil => intro st; rfl
  | cons p ps ih =>
    intro st
    rw [List.cons_append, runK, runK]
    rcases stepK cs p st with _ | s1
    · rfl
    · exact ih s1
/-- All kinds are 1, 2 or 3. -/
def In3 (st : List Int) : Prop := ∀ k ∈ st, 1 ≤ k ∧ k ≤ 3
theorem ok_kind {v : VT} (h : okV v = true) : 0 ≤ v.1 ∧ v.1 ≤ 3 := by
  obtain ⟨k, n, s⟩ := v
  rcases ok_cases k n s with ho | ⟨h1, -⟩ | ⟨h1, -⟩ | ⟨h1, -⟩ | ⟨h1, -⟩ | ⟨h1, -⟩
  · rw [okV] at h; rw [h] at ho; cases ho
  all_goals (simp only; omega)
theorem col_kind {cs : List CT} (h : colB cs = true) {n : Int} (h0 : 0 ≤ n) (h1 : n < cs.length) : 1 ≤ colAt cs n ∧ colAt cs n ≤ 3 := by
  have hn : n.toNat < cs.length := by omega
  unfold colAt
  rw [List.getD_eq_getElem?_getD, List.getElem?_eq_getElem hn]
  simp only [colB, Bool.and_eq_true, List.all_eq_true] at h
  have := h.2 _ (List.getElem_mem hn)
  simpa [kindB] using this
theorem step_in {cs : List CT} {p : PT} {st st' : List Int} (hc : colB cs = true) (hs : In3 st) (h : stepK cs p st = some st') : In3 st' := by
  have c3 : ∀ {k : Int} {r : List Int}, 1 ≤ k → k ≤ 3 → In3 r → In3 (k :: r) := by
    intro k r h1 h2 hr x hx
    rcases List.mem_cons.1 hx with rfl | hx
    · exact ⟨h1, h2⟩
    · exact hr x hx
  have tl : ∀ {k : Int} {r : List Int}, In3 (k :: r) → In3 r := fun h x hx => h x (List.mem_cons_of_mem _ hx)
  unfold stepK at h
  split at h
  · cases h
  split at h
  · split at h
    · rename_i h2
      cases h
      have := ok_kind h2.1
      exact c3 (by have := h2.2; omega) this.2 hs
    · cases h
  split at h
  · split at h
    · rename_i h3
      cases h
      have := col_kind hc h3.1 h3.2
      exact c3 this.1 this.2 hs
    · cases h
  rcases st with _ | ⟨a, _ | ⟨b, q⟩⟩
  · cases h
  · simp only at h
    split at h
    · cases h; exact c3 (by omega) (by omega) (tl hs)
    split at h
    · split at h
      · cases h; exact hs
      · cases h
    · cases h
  · simp only at h
    repeat' split at h
    all_goals first
      | (cases h; done)
      | (cases h; exact c3 (by omega) (by omega) (tl hs))
      | (cases h; exact hs)
      | (cases h; exact c3 (by omega) (by omega) (tl (tl hs)))
theorem runIn3 {cs : List CT} (hc : colB cs = true) (ps : List PT) : ∀ {st st' : List Int}, In3 st → runK cs ps st = some st' → In3 st' := by
  induction ps with
  | nil => intro st st' hs h; rw [runK] at h; cases h; exact hs
  | cons p ps ih =>
    intro st st' hs h
    rw [runK] at h
    rcases hk : stepK cs p st with _ | s1
    · rw [hk] at h; cases h
    · rw [hk] at h
      exact ih (step_in hc hs hk) h
theorem kind_some {cs : List CT} {ps : List PT} (h : ¬ kindI cs ps < 0) : colB cs = true ∧ ps.length ≤ 12 ∧ runK cs ps [] = some [kindI cs ps] ∧ 1 ≤ kindI cs ps ∧ kindI cs ps ≤ 3 := by
  unfold kindI at h ⊢
  split at h
  · rename_i hc
    rw [if_pos hc]
    rcases hr : runK cs ps [] with _ | st
    · rw [hr] at h; exact absurd (by decide) h
    · rw [hr] at h
      have hin := runIn3 hc.1 ps (st := []) (by intro k hk; cases hk) hr
      rcases st with _ | ⟨k, _ | ⟨b, q⟩⟩
      · exact absurd (by decide) h
      · have := hin k (by simp)
        exact ⟨hc.1, hc.2, rfl, this.1, this.2⟩
      · exact absurd (show (-1 : Int) < 0 by decide) h
  · exact absurd (by decide) h
end Go.Proofs.Ytacinjbaebimhaa.Val
namespace Go.Proofs.Ytacinjbaebimhaa.Val
set_option linter.unusedVariables false
def TypV (v : VT) (k : Int) : Prop := okV v = true ∧ (v.1 = 0 ∨ v.1 = k)
def Typ : List VT → List Int → Prop
  | [], [] => True
  | v :: vs, k :: ks => TypV v k ∧ Typ vs ks
  | _, _ => False
theorem Typ.len {vs : List VT} : ∀ {ks : List Int}, Typ vs ks → vs.length = ks.length := by
  induction vs with
  | nil => intro ks h; cases ks with | nil => rfl | cons k ks => exact absurd h (by simp [Typ])
  | cons v vs ih => intro ks h; cases ks with | nil => exact absurd h (by simp [Typ]) | cons k ks => simp [ih h.2]
end Go.Proofs.Ytacinjbaebimhaa.Val
namespace Go.Proofs.Ytacinjbaebimhaa.Val
set_option linter.unusedVariables false
end Go.Proofs.Ytacinjbaebimhaa.Val
namespace Go.Proofs.Ytacinjbaebimhaa.Val
set_option linter.unusedVariables false
/-- The places are all columns, each once. -/
structure Moved {α : Type} (π : List Nat) (xs ys : List α) : Prop where
  perm : π.Perm (List.range xs.length)
  len : ys.length = xs.length
  at_ : ∀ k (h : k < xs.length) (h2 : π.getD k 0 < ys.length), ys[π.getD k 0] = xs[k]
theorem Moved.lt {α : Type} {π : List Nat} {xs ys : List α} (h : Moved π xs ys) (k : Nat) (hk : k < xs.length) : π.getD k 0 < xs.length := by
  have hl : π.length = xs.length := by have := h.perm.length_eq; simpa using this
  rw [List.getD_eq_getElem?_getD, List.getElem?_eq_getElem (by omega)]
  exact List.mem_range.1 (h.perm.mem_iff.1 (List.getElem_mem _))
theorem Moved.from {α : Type} {π : List Nat} {xs ys : List α} (h : Moved π xs ys) (j : Nat) (hj : j < ys.length) : ∃ k, k < xs.length ∧ π.getD k 0 = j := by
  have hl : π.length = xs.length := by have := h.perm.length_eq; simpa using this
  have hm : j ∈ π := h.perm.mem_iff.2 (List.mem_range.2 (by rw [← h.len]; exact hj))
  obtain ⟨k, hk, e⟩ := List.mem_iff_getElem.1 hm
  exact ⟨k, by omega, by rw [List.getD_eq_getElem?_getD, List.getElem?_eq_getElem hk]; exact e⟩
theorem Moved.all {α : Type} {π : List Nat} {xs ys : List α} (h : Moved π xs ys) (f : α → Bool) (hx : xs.all f = true) : ys.all f = true := by
  rw [List.all_eq_true] at hx ⊢
  intro y hy
  obtain ⟨j, hj, rfl⟩ := List.mem_iff_getElem.1 hy
  obtain ⟨k, hk, rfl⟩ := h.from j hj
  rw [h.at_ k hk hj]
  exact hx _ (List.getElem_mem hk)
end Go.Proofs.Ytacinjbaebimhaa.Val
namespace Go.Proofs.Ytacinjbaebimhaa.Val
set_option linter.unusedVariables false
def takesI (k : Int) : Nat := if k = 3 ∨ k = 4 ∨ k = 5 ∨ k = 6 then 2 else if k = 7 ∨ k = 8 then 1 else 0
def fieldB (cs : List CT) (p : PT) : Bool :=
  if p.1 = 1 then decide (p.2.1 = 0) && (decide (p.2.2.1 ≠ 0) && okV p.2.2)
  else if isNil p.2.2 = false then false
  else if p.1 = 2 then decide (0 ≤ p.2.1) && decide (p.2.1 < cs.length)
  else if p.1 = 4 then decide (1 ≤ p.2.1) && decide (p.2.1 ≤ 4)
  else if p.1 = 3 ∨ p.1 = 5 ∨ p.1 = 6 ∨ p.1 = 7 ∨ p.1 = 8 then decide (p.2.1 = 0)
  else false
def putK (cs : List CT) (p : PT) (l : List Int) : Int :=
  if p.1 = 1 then p.2.2.1
  else if p.1 = 2 then colAt cs p.2.1
  else if p.1 = 3 then (if l.all (fun x => decide (x = 1)) = true then 1 else -1)
  else if p.1 = 4 then (if l.getD 0 0 = l.getD 1 0 then 3 else -1)
  else if p.1 = 5 ∨ p.1 = 6 ∨ p.1 = 7 then (if l.all (fun x => decide (x = 3)) = true then 3 else -1)
  else 3
theorem kind_eight (k : Int) : k = 1 ∨ k = 2 ∨ k = 3 ∨ k = 4 ∨ k = 5 ∨ k = 6 ∨ k = 7 ∨ k = 8 ∨ (k ≠ 1 ∧ k ≠ 2 ∧ k ≠ 3 ∧ k ≠ 4 ∧ k ≠ 5 ∧ k ≠ 6 ∧ k ≠ 7 ∧ k ≠ 8) := by omega
theorem fits_not {cs : List CT} {p : PT} {st : List Int} (h : fieldB cs p = false) : stepK cs p st = none := by
  obtain ⟨k, n, v⟩ := p
  unfold stepK
  by_cases hb : partBad (k, n, v) = true
  · rw [if_pos hb]
  rw [if_neg hb]
  simp only [partBad, Bool.or_eq_true, Bool.and_eq_true, decide_eq_true_eq, Bool.not_eq_true', not_or, not_and, Bool.not_eq_false] at hb
  simp only [fieldB] at h
  rcases kind_eight k with rfl | rfl | rfl | rfl | rfl | rfl | rfl | rfl | ⟨h1, h2, h3, h4, h5, h6, h7, h8⟩
  all_goals simp at h hb ⊢
  · intro ho; rw [hb] at h; have := h rfl; simp_all
  · have := h hb; omega
  all_goals first
    | (rcases st with _ | ⟨a, _ | ⟨b, q⟩⟩ <;> simp; done)
    | (have := h hb.1; simp_all; done)
    | (have := h hb; rcases st with _ | ⟨a, _ | ⟨b, q⟩⟩ <;> simp <;> intros <;> omega)
    | skip
  rcases st with _ | ⟨a, _ | ⟨b, q⟩⟩ <;> simp [h1, h2, h3, h4, h5, h6, h7, h8]
theorem few_not {cs : List CT} {p : PT} {st : List Int} (h : st.length < takesI p.1) : stepK cs p st = none := by
  obtain ⟨k, n, v⟩ := p
  unfold stepK
  split
  · rfl
  simp only [takesI] at h ⊢
  rcases kind_eight k with rfl | rfl | rfl | rfl | rfl | rfl | rfl | rfl | ⟨h1, h2, h3, h4, h5, h6, h7, h8⟩
  all_goals simp_all
  all_goals (rcases st with _ | ⟨a, _ | ⟨b, q⟩⟩ <;> simp_all <;> omega)
theorem step_put {cs : List CT} {p : PT} {st : List Int} (hc : colB cs = true) (h : takesI p.1 ≤ st.length) (hf : fieldB cs p = true) : stepK cs p st = if putK cs p (st.take (takesI p.1)).reverse < 0 then none else some (putK cs p (st.take (takesI p.1)).reverse :: st.drop (takesI p.1)) := by
  obtain ⟨k, n, v⟩ := p
  unfold stepK
  simp only [fieldB] at hf
  simp only [takesI] at h ⊢
  rcases kind_eight k with rfl | rfl | rfl | rfl | rfl | rfl | rfl | rfl | ⟨h1, h2, h3, h4, h5, h6, h7, h8⟩
  · simp at hf
    have hk := ok_kind hf.2.2
    have hneg : ¬ v.1 < 0 := by omega
    simp [partBad, putK, hf, hneg]
  · simp at hf
    obtain ⟨hv, hn⟩ := hf
    have hk := col_kind hc hn.1 hn.2
    have hneg : ¬ colAt cs n < 0 := by omega
    simp [partBad, putK, hv, hn, hneg]
  · simp at hf h
    obtain ⟨hv, rfl⟩ := hf
    rcases st with _ | ⟨a, _ | ⟨b, q⟩⟩
    · simp at h
    · simp at h
    · by_cases ha : a = 1 <;> by_cases hb : b = 1 <;> simp [partBad, putK, hv, ha, hb]
  · simp at hf h
    obtain ⟨hv, hn⟩ := hf
    rcases st with _ | ⟨a, _ | ⟨b, q⟩⟩
    · simp at h
    · simp at h
    · by_cases ha : a = b
      · subst ha; simp [partBad, putK, hv, hn]
      · have hb : ¬ b = a := fun e => ha e.symm
        simp [partBad, putK, hv, hn, ha, hb]
  · simp at hf h
    obtain ⟨hv, rfl⟩ := hf
    rcases st with _ | ⟨a, _ | ⟨b, q⟩⟩
    · simp at h
    · simp at h
    · by_cases ha : a = 3 <;> by_cases hb : b = 3 <;> simp [partBad, putK, hv, ha, hb]
  · simp at hf h
    obtain ⟨hv, rfl⟩ := hf
    rcases st with _ | ⟨a, _ | ⟨b, q⟩⟩
    · simp at h
    · simp at h
    · by_cases ha : a = 3 <;> by_cases hb : b = 3 <;> simp [partBad, putK, hv, ha, hb]
  · simp at hf h
    obtain ⟨hv, rfl⟩ := hf
    rcases st with _ | ⟨a, q⟩
    · simp at h
    · by_cases ha : a = 3 <;> simp [partBad, putK, hv, ha]
  · simp at hf h
    obtain ⟨hv, rfl⟩ := hf
    rcases st with _ | ⟨a, q⟩
    · simp at h
    · simp [partBad, putK, hv]
  · simp [h1, h2, h3, h4, h5, h6, h7, h8] at hf
theorem takes_le (k : Int) : takesI k ≤ 2 := by unfold takesI; split; omega; split <;> omega
end Go.Proofs.Ytacinjbaebimhaa.Val
