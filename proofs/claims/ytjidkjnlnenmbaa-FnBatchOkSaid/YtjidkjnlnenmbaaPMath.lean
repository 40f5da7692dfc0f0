/- Plans: which are plans, their columns, their rows, the tables they ask for: plain facts; What the whole laws ask of plans: two tests in any order, twice and once, the order of tables' rows, joins of two lists, one list behind the other; Plans of two tables: one list behind the other, joins of two lists, joins turned round. -/
import Derived.Test.YtjidkjnlnenmbaaBag
import Derived.Test.YtjidkjnlnenmbaaEMathA
namespace Go.Proofs.Ytjidkjnlnenmbaa.Val
open Go.RowKit
set_option linter.unusedSimpArgs false
set_option linter.unusedVariables false
/-- A table; a step: kind, A, B, N, E, List. -/
abbrev TB := List CT × List RT
abbrev SP := Int × Int × Int × Int × List PT × List Int
def fieldsB (s : SP) : Bool :=
  (decide (s.1 ≠ 1) || decide (s.2.1 = 0)) && ((decide (s.1 = 4) || decide (s.1 = 5)) || decide (s.2.2.1 = 0)) && (decide (s.1 = 1) || decide (s.2.2.2.1 = 0)) && ((decide (s.1 = 2) || decide (s.1 = 4)) || decide (s.2.2.2.2.1.length = 0)) && (decide (s.1 = 3) || decide (s.2.2.2.2.2.length = 0))
def inB (x : Int) (n : Nat) : Bool := decide (0 ≤ x) && decide (x < (n : Int))
theorem inB_nat {x : Int} {n : Nat} (h : inB x n = true) : ∃ k : Nat, x = (k : Int) ∧ k < n := by
  simp only [inB, Bool.and_eq_true, decide_eq_true_eq] at h
  exact ⟨x.toNat, by omega, by omega⟩
def takeC (a : List CT) (l : List Int) : Option (List CT) := if l.all (fun t => inB t a.length) = true ∧ l.length ≤ 4 then some (l.map fun t => a.getD t.toNat (0, false)) else none
def bothC (a b : List CT) : Option (List CT) := if a.length = b.length ∧ (a.zip b).all (fun p => decide (p.1.1 = p.2.1)) = true then some ((a.zip b).map fun p => (p.1.1, p.1.2 || p.2.2)) else none
def joinC (a b : List CT) (e : List PT) : Option (List CT) := if (a ++ b).length ≤ 4 ∧ kindI (a ++ b) e = 3 then some (a ++ b) else none
/-- The columns of a step. -/
def colS (tb : List TB) (ah : List (List CT)) (s : SP) : Option (List CT) :=
  if fieldsB s = false then none
  else if s.1 = 1 then (if inB s.2.2.2.1 tb.length = true then some (tb.getD s.2.2.2.1.toNat ([], [])).1 else none)
  else if inB s.2.1 ah.length = false ∨ inB s.2.2.1 ah.length = false then none
  else if s.1 = 2 then (if kindI (ah.getD s.2.1.toNat []) s.2.2.2.2.1 = 3 then some (ah.getD s.2.1.toNat []) else none)
  else if s.1 = 3 then takeC (ah.getD s.2.1.toNat []) s.2.2.2.2.2
  else if s.1 = 4 then joinC (ah.getD s.2.1.toNat []) (ah.getD s.2.2.1.toNat []) s.2.2.2.2.1
  else if s.1 = 5 then bothC (ah.getD s.2.1.toNat []) (ah.getD s.2.2.1.toNat [])
  else if s.1 = 6 then some (ah.getD s.2.1.toNat []) else none
/-- How many rows a step may have. -/
def madeS (ah : List Nat) (s : SP) : Nat :=
  if s.1 = 1 then 6 else if s.1 = 4 then ah.getD s.2.1.toNat 0 * ah.getD s.2.2.1.toNat 0 else if s.1 = 5 then ah.getD s.2.1.toNat 0 + ah.getD s.2.2.1.toNat 0 else ah.getD s.2.1.toNat 0
def stepS (tb : List TB) (st : List (List CT) × List Nat) (s : SP) : Option (List (List CT) × List Nat) :=
  match colS tb st.1 s with
  | none => none
  | some c => if 300 < madeS st.2 s then none else some (st.1 ++ [c], st.2 ++ [madeS st.2 s])
def allF (tb : List TB) : List SP → List (List CT) × List Nat → Option (List (List CT) × List Nat)
  | [], st => some st
  | s :: p, st => (stepS tb st s).bind (allF tb p)
def allI (tb : List TB) (p : List SP) : Option (List (List CT) × List Nat) := allF tb p ([], [])
theorem allF_app (tb : List TB) (p q : List SP) (st : List (List CT) × List Nat) : allF tb (p ++ q) st = (allF tb p st).bind (allF tb q) := by
  induction p generalizing st with
  | nil => rfl
  | cons s p ih =>
    simp only [List.cons_append, allF]
    rcases stepS tb st s with _ | st'
    · rfl
    · simp only [Option.bind_some, ih]
theorem allI_snoc (tb : List TB) (p : List SP) (s : SP) : allI tb (p ++ [s]) = (allI tb p).bind fun st => stepS tb st s := by
  rw [allI, allF_app]
  show _ = (allF tb p ([], [])).bind _
  rcases allF tb p ([], []) with _ | st
  · rfl
  · simp only [Option.bind_some, allF]
    rcases stepS tb st s with _ | st' <;> rfl
theorem allI_take (tb : List TB) (p : List SP) (k : Nat) (hk : k < p.length) : allI tb (p.take (k + 1)) = (allI tb (p.take k)).bind fun st => stepS tb st p[k] := by
  rw [List.take_succ_eq_append_getElem hk, allI_snoc]
theorem stepS_some {tb : List TB} {st st' : List (List CT) × List Nat} {s : SP} (h : stepS tb st s = some st') : ∃ c, colS tb st.1 s = some c ∧ madeS st.2 s ≤ 300 ∧ st' = (st.1 ++ [c], st.2 ++ [madeS st.2 s]) := by
  unfold stepS at h
  rcases hc : colS tb st.1 s with _ | c
  · rw [hc] at h; cases h
  · rw [hc] at h
    simp only at h
    split at h
    · cases h
    · exact ⟨c, rfl, by omega, (Option.some.inj h).symm⟩
theorem allI_pre {tb : List TB} {p : List SP} (h : (allI tb p).isSome = true) (k : Nat) : (allI tb (p.take k)).isSome = true := by
  have e : allI tb p = (allI tb (p.take k)).bind (allF tb (p.drop k)) := by
    conv => lhs; rw [← List.take_append_drop k p]
    rw [allI, allF_app]; rfl
  rw [e] at h
  rcases hk : allI tb (p.take k) with _ | st
  · rw [hk] at h; cases h
  · rfl
def tablesB (tb : List TB) : Bool := decide (tb.length ≤ 3) && tb.all fun t => decide (t.2.length ≤ 6) && rowsB t.1 t.2
def planB (tb : List TB) (p : List SP) : Bool := (allI tb p).isSome && tablesB tb && (decide (1 ≤ p.length) && decide (p.length ≤ 6))
theorem planB_iff {tb : List TB} {p : List SP} : planB tb p = true ↔ (∃ st, allI tb p = some st) ∧ tablesB tb = true ∧ 1 ≤ p.length ∧ p.length ≤ 6 := by
  simp only [planB, Bool.and_eq_true, decide_eq_true_eq, Option.isSome_iff_exists]
  exact ⟨fun ⟨⟨h1, h2⟩, h3, h4⟩ => ⟨h1, h2, h3, h4⟩, fun ⟨h1, h2, h3, h4⟩ => ⟨⟨h1, h2⟩, h3, h4⟩⟩
/-- Each beginning of a plan is a plan. -/
theorem planB_take {tb : List TB} {p : List SP} (h : planB tb p = true) (k : Nat) (h1 : 1 ≤ k) (hk : k ≤ p.length) : planB tb (p.take k) = true := by
  obtain ⟨⟨st, hs⟩, h2, h3, h4⟩ := planB_iff.1 h
  have hp := allI_pre (by rw [hs]; rfl : (allI tb p).isSome = true) k
  exact planB_iff.2 ⟨Option.isSome_iff_exists.1 hp, h2, by rw [List.length_take]; omega, by rw [List.length_take]; omega⟩
theorem allI_len {tb : List TB} {p : List SP} {st : List (List CT) × List Nat} (h : allI tb p = some st) : st.1.length = p.length ∧ st.2.length = p.length := by
  have hx : ∀ k, k ≤ p.length → ∀ st, allI tb (p.take k) = some st → st.1.length = k ∧ st.2.length = k := by
    intro k
    induction k with
    | zero =>
      intro _ st h
      have : st = ([], []) := (Option.some.inj h).symm
      subst this; exact ⟨rfl, rfl⟩
    | succ k ih =>
      intro hk st h
      rw [allI_take tb p k (by omega)] at h
      rcases hq : allI tb (p.take k) with _ | s0
      · rw [hq] at h; cases h
      · rw [hq] at h
        obtain ⟨c, -, -, rfl⟩ := stepS_some (st := s0) h
        obtain ⟨l1, l2⟩ := ih (by omega) s0 hq
        exact ⟨by rw [List.length_append, l1]; rfl, by rw [List.length_append, l2]; rfl⟩
  have := hx p.length (Nat.le_refl _) st (by rw [List.take_length]; exact h)
  exact this
/-- The columns of a plan. -/
def pcolsI (tb : List TB) (p : List SP) : List CT := if planB tb p = true then ((allI tb p).getD ([], [])).1.getD (p.length - 1) [] else []
/-! ### Rows -/
def yesR (e : List PT) (row : RT) : Bool := isYes ((runV row e []).headD nilV)
def rowS (tb : List TB) (ah : List (List RT)) (s : SP) : List RT :=
  if s.1 = 1 then (tb.getD s.2.2.2.1.toNat ([], [])).2
  else if s.1 = 2 then (ah.getD s.2.1.toNat []).filter (yesR s.2.2.2.2.1)
  else if s.1 = 3 then (ah.getD s.2.1.toNat []).map fun r => s.2.2.2.2.2.map fun t => r.getD t.toNat nilV
  else if s.1 = 4 then (ah.getD s.2.1.toNat []).flatMap fun r => ((ah.getD s.2.2.1.toNat []).map fun q => r ++ q).filter (yesR s.2.2.2.2.1)
  else if s.1 = 5 then ah.getD s.2.1.toNat [] ++ ah.getD s.2.2.1.toNat []
  else if s.1 = 6 then onceI (ah.getD s.2.1.toNat [])
  else []
def everyI (tb : List TB) (p : List SP) : List (List RT) := p.foldl (fun ah s => ah ++ [rowS tb ah s]) []
theorem everyI_snoc (tb : List TB) (p : List SP) (s : SP) : everyI tb (p ++ [s]) = everyI tb p ++ [rowS tb (everyI tb p) s] := by
  rw [everyI, List.foldl_append]; rfl
theorem everyI_take (tb : List TB) (p : List SP) (k : Nat) (hk : k < p.length) : everyI tb (p.take (k + 1)) = everyI tb (p.take k) ++ [rowS tb (everyI tb (p.take k)) p[k]] := by
  rw [List.take_succ_eq_append_getElem hk, everyI_snoc]
theorem everyI_len (tb : List TB) (p : List SP) : (everyI tb p).length = p.length := by
  have hx : ∀ k, k ≤ p.length → (everyI tb (p.take k)).length = k := by
    intro k
    induction k with
    | zero => intro _; rfl
    | succ k ih =>
      intro hk
      rw [everyI_take tb p k (by omega), List.length_append, ih (by omega)]; rfl
  have := hx p.length (Nat.le_refl _)
  rwa [List.take_length] at this
def prowsI (tb : List TB) (p : List SP) : List RT := if planB tb p = true then (everyI tb p).getD (p.length - 1) [] else []
/-- The rows of the last step. -/
theorem prows_snoc {tb : List TB} {p : List SP} {s : SP} (h : planB tb (p ++ [s]) = true) : prowsI tb (p ++ [s]) = rowS tb (everyI tb p) s := by
  rw [prowsI, if_pos h, everyI_snoc, List.length_append, List.getD_eq_getElem?_getD, List.getElem?_append_right (by rw [everyI_len]; simp)]
  simp [everyI_len]
theorem prows_last {tb : List TB} {p : List SP} (h : planB tb p = true) : (everyI tb p).getD (p.length - 1) [] = prowsI tb p := by rw [prowsI, if_pos h]
/-- Each row once is so, by plan and by hand; both of a step and itself are twice. -/
def onceS (p : List SP) : SP := (6, (p.length : Int) - 1, 0, 0, [], [])
def bothS (p : List SP) : SP := (5, (p.length : Int) - 1, (p.length : Int) - 1, 0, [], [])
theorem prows_once {tb : List TB} {p : List SP} (hp : planB tb p = true) (h : planB tb (p ++ [onceS p]) = true) : prowsI tb (p ++ [onceS p]) = onceI (prowsI tb p) := by
  obtain ⟨-, -, h1, -⟩ := planB_iff.1 hp
  rw [prows_snoc h, ← prows_last hp]
  have e : ((p.length : Int) - 1).toNat = p.length - 1 := by omega
  simp [rowS, onceS, e]
theorem prows_both {tb : List TB} {p : List SP} (hp : planB tb p = true) (h : planB tb (p ++ [bothS p]) = true) : prowsI tb (p ++ [bothS p]) = prowsI tb p ++ prowsI tb p := by
  obtain ⟨-, -, h1, -⟩ := planB_iff.1 hp
  rw [prows_snoc h, ← prows_last hp]
  have e : ((p.length : Int) - 1).toNat = p.length - 1 := by omega
  simp [rowS, bothS, e]
/-- With each row once at its end a plan is one, as far as a step is left. -/
theorem planB_once {tb : List TB} {p : List SP} (h : planB tb p = true) (h6 : p.length < 6) : planB tb (p ++ [onceS p]) = true := by
  obtain ⟨⟨st, hs⟩, h2, h1, -⟩ := planB_iff.1 h
  obtain ⟨l1, l2⟩ := allI_len hs
  refine planB_iff.2 ⟨?_, h2, by rw [List.length_append]; simp, by rw [List.length_append]; simp; omega⟩
  have hin : inB ((p.length : Int) - 1) st.1.length = true := by
    simp only [inB, Bool.and_eq_true, decide_eq_true_eq, l1]; omega
  have hin0 : inB 0 st.1.length = true := by
    simp only [inB, Bool.and_eq_true, decide_eq_true_eq, l1]; omega
  have hc : colS tb st.1 (onceS p) = some (st.1.getD ((p.length : Int) - 1).toNat []) := by
    simp [colS, onceS, fieldsB, hin, hin0]
  have hm : madeS st.2 (onceS p) ≤ 300 := by
    have e : p.length = (p.length - 1) + 1 := by omega
    have ht := allI_take tb p (p.length - 1) (by omega)
    rw [← e, List.take_length, hs] at ht
    rcases hq : allI tb (p.take (p.length - 1)) with _ | s0
    · rw [hq] at ht; cases ht
    · rw [hq] at ht
      obtain ⟨c, -, hm, e0⟩ := stepS_some (st := s0) ht.symm
      rw [e0] at l2 ⊢
      have l0 : s0.2.length = p.length - 1 := by simp at l2; omega
      have e2 : ((p.length : Int) - 1).toNat = s0.2.length := by omega
      simp [madeS, onceS, e2]
      exact hm
  rw [allI_snoc, hs]
  simp only [Option.bind_some, stepS, hc]
  rw [if_neg (by omega)]
  exact ⟨_, rfl⟩
/-! ### Rows fit the columns that were told -/
theorem rowsB_iff {cs : List CT} {ls : List RT} : rowsB cs ls = true ↔ colB cs = true ∧ ∀ r ∈ ls, fitB cs r = true := by
  simp only [rowsB, Bool.and_eq_true, List.all_eq_true]
theorem fitB_iff {cs : List CT} {r : RT} : fitB cs r = true ↔ colB cs = true ∧ rowB r = true ∧ r.length = cs.length ∧ ∀ p ∈ cs.zip r, takeB p.1 p.2 = true := by
  simp only [fitB, Bool.and_eq_true, decide_eq_true_eq, List.all_eq_true]
  exact ⟨fun ⟨⟨⟨h1, h2⟩, h3⟩, h4⟩ => ⟨h1, h2, h3, h4⟩, fun ⟨h1, h2, h3, h4⟩ => ⟨⟨⟨h1, h2⟩, h3⟩, h4⟩⟩
theorem colB_iff {cs : List CT} : colB cs = true ↔ cs.length ≤ 4 ∧ ∀ c ∈ cs, kindB c.1 = true := by
  simp only [colB, Bool.and_eq_true, decide_eq_true_eq, List.all_eq_true]
theorem rowB_iff {r : RT} : rowB r = true ↔ r.length ≤ 4 ∧ ∀ v ∈ r, okV v = true := by
  simp only [rowB, Bool.and_eq_true, decide_eq_true_eq, List.all_eq_true]
/-- A value at its column. -/
theorem pfit_at {cs : List CT} {r : RT} (h : fitB cs r = true) (k : Nat) (hk : k < cs.length) : k < r.length ∧ takeB (cs.getD k (0, false)) (r.getD k nilV) = true ∧ okV (r.getD k nilV) = true := by
  obtain ⟨-, h2, h3, h4⟩ := fitB_iff.1 h
  have hr : k < r.length := by omega
  have hz : (cs[k], r[k]) ∈ cs.zip r := by
    rw [List.mem_iff_getElem]
    exact ⟨k, by rw [List.length_zip]; omega, by simp⟩
  have e1 : cs.getD k (0, false) = cs[k] := by rw [List.getD_eq_getElem?_getD, List.getElem?_eq_getElem hk]; rfl
  have e2 : r.getD k nilV = r[k] := by rw [List.getD_eq_getElem?_getD, List.getElem?_eq_getElem hr]; rfl
  rw [e1, e2]
  exact ⟨hr, h4 _ hz, (rowB_iff.1 h2).2 _ (List.getElem_mem _)⟩
theorem fit_join {a b : List CT} {r q : RT} (h : fitB a r = true) (k : fitB b q = true) (hl : (a ++ b).length ≤ 4) : fitB (a ++ b) (r ++ q) = true := by
  obtain ⟨h1, h2, h3, h4⟩ := fitB_iff.1 h
  obtain ⟨k1, k2, k3, k4⟩ := fitB_iff.1 k
  obtain ⟨-, c1⟩ := colB_iff.1 h1
  obtain ⟨-, c2⟩ := colB_iff.1 k1
  obtain ⟨-, v1⟩ := rowB_iff.1 h2
  obtain ⟨-, v2⟩ := rowB_iff.1 k2
  refine fitB_iff.2 ⟨colB_iff.2 ⟨hl, ?_⟩, rowB_iff.2 ⟨by rw [List.length_append] at hl ⊢; omega, ?_⟩, by rw [List.length_append, List.length_append]; omega, ?_⟩
  · intro c hc; rcases List.mem_append.1 hc with hc | hc
    · exact c1 c hc
    · exact c2 c hc
  · intro c hc; rcases List.mem_append.1 hc with hc | hc
    · exact v1 c hc
    · exact v2 c hc
  · intro p hp
    rw [List.zip_append h3.symm] at hp
    rcases List.mem_append.1 hp with hp | hp
    · exact h4 p hp
    · exact k4 p hp
theorem fit_take {a c : List CT} {r : RT} {l : List Int} (h : fitB a r = true) (hc : takeC a l = some c) : fitB c (l.map fun t => r.getD t.toNat nilV) = true := by
  unfold takeC at hc
  split at hc
  · rename_i hl
    obtain ⟨hl1, hl2⟩ := hl
    obtain rfl := Option.some.inj hc
    rw [List.all_eq_true] at hl1
    have hat : ∀ t ∈ l, takeB (a.getD t.toNat (0, false)) (r.getD t.toNat nilV) = true ∧ okV (r.getD t.toNat nilV) = true ∧ kindB (a.getD t.toNat (0, false)).1 = true := by
      intro t ht
      obtain ⟨k, rfl, hk⟩ := inB_nat (hl1 t ht)
      have hf := pfit_at h k hk
      refine ⟨hf.2.1, hf.2.2, ?_⟩
      have e1 : a.getD k (0, false) = a[k] := by rw [List.getD_eq_getElem?_getD, List.getElem?_eq_getElem hk]; rfl
      rw [Int.toNat_natCast, e1]
      exact (colB_iff.1 (fitB_iff.1 h).1).2 _ (List.getElem_mem _)
    refine fitB_iff.2 ⟨colB_iff.2 ⟨by simpa using hl2, ?_⟩, rowB_iff.2 ⟨by simpa using hl2, ?_⟩, by simp, ?_⟩
    · intro c hc
      obtain ⟨t, ht, rfl⟩ := List.mem_map.1 hc
      exact (hat t ht).2.2
    · intro c hc
      obtain ⟨t, ht, rfl⟩ := List.mem_map.1 hc
      exact (hat t ht).2.1
    · intro p hp
      rw [List.zip_map'] at hp
      obtain ⟨t, ht, rfl⟩ := List.mem_map.1 hp
      exact (hat t ht).1
  · cases hc
theorem colB_take {a c : List CT} {l : List Int} (h : colB a = true) (hc : takeC a l = some c) : colB c = true := by
  unfold takeC at hc
  split at hc
  · rename_i hl
    obtain ⟨hl1, hl2⟩ := hl
    obtain rfl := Option.some.inj hc
    rw [List.all_eq_true] at hl1
    refine colB_iff.2 ⟨by simpa using hl2, fun c hc => ?_⟩
    obtain ⟨t, ht, rfl⟩ := List.mem_map.1 hc
    obtain ⟨k, rfl, hk⟩ := inB_nat (hl1 t ht)
    have e1 : a.getD k (0, false) = a[k] := by rw [List.getD_eq_getElem?_getD, List.getElem?_eq_getElem hk]; rfl
    rw [Int.toNat_natCast, e1]
    exact (colB_iff.1 h).2 _ (List.getElem_mem _)
  · cases hc
theorem getD_lt {α : Type} {l : List α} {k : Nat} (h : k < l.length) (d : α) : l.getD k d = l[k] := by rw [List.getD_eq_getElem?_getD, List.getElem?_eq_getElem h]; rfl
theorem fit_of {cs : List CT} {r : RT} (h1 : colB cs = true) (h2 : rowB r = true) (h3 : r.length = cs.length) (h4 : ∀ k, k < cs.length → takeB (cs.getD k (0, false)) (r.getD k nilV) = true) : fitB cs r = true := by
  refine fitB_iff.2 ⟨h1, h2, h3, fun p hp => ?_⟩
  obtain ⟨k, hk, rfl⟩ := List.mem_iff_getElem.1 hp
  rw [List.length_zip] at hk
  have := h4 k (by omega)
  rw [getD_lt (by omega), getD_lt (by omega)] at this
  simpa using this
theorem bothC_some {a b c : List CT} (h : bothC a b = some c) : a.length = b.length ∧ c.length = a.length ∧ ∀ k, k < a.length → (a.getD k (0, false)).1 = (b.getD k (0, false)).1 ∧ c.getD k (0, false) = ((a.getD k (0, false)).1, (a.getD k (0, false)).2 || (b.getD k (0, false)).2) := by
  unfold bothC at h
  split at h
  · rename_i hl
    obtain ⟨hl1, hl2⟩ := hl
    obtain rfl := Option.some.inj h
    rw [List.all_eq_true] at hl2
    refine ⟨hl1, by simp; omega, fun k hk => ?_⟩
    have hz : k < (a.zip b).length := by rw [List.length_zip]; omega
    have h1 := hl2 _ (List.getElem_mem hz)
    simp only [List.getElem_zip, decide_eq_true_eq] at h1
    rw [getD_lt hk, getD_lt (show k < b.length by omega), getD_lt (by simpa using hz)]
    refine ⟨h1, ?_⟩
    simp
  · cases h
theorem colB_both {a b c : List CT} (h : bothC a b = some c) (ha : colB a = true) : colB c = true := by
  obtain ⟨h1, h2, h3⟩ := bothC_some h
  obtain ⟨l1, l2⟩ := colB_iff.1 ha
  refine colB_iff.2 ⟨by omega, fun x hx => ?_⟩
  obtain ⟨k, hk, rfl⟩ := List.mem_iff_getElem.1 hx
  have := (h3 k (by omega)).2
  rw [getD_lt hk, getD_lt (show k < a.length by omega)] at this
  rw [this]
  exact l2 (a[k]'(by omega)) (List.getElem_mem _)
theorem takeB_more {k : Int} {e e' : Bool} {v : VT} (h : takeB (k, e) v = true) (he : e = true → e' = true) : takeB (k, e') v = true := by
  simp only [takeB, Bool.or_eq_true, Bool.and_eq_true, decide_eq_true_eq] at h ⊢
  rcases h with h | ⟨h1, h2⟩
  · exact .inl h
  · exact .inr ⟨he h1, h2⟩
theorem fit_bothA {a b c : List CT} {r : RT} (h : bothC a b = some c) (hf : fitB a r = true) : fitB c r = true := by
  obtain ⟨h1, h2, h3⟩ := bothC_some h
  obtain ⟨f1, f2, f3, -⟩ := fitB_iff.1 hf
  refine fit_of (colB_both h f1) f2 (by omega) fun k hk => ?_
  rw [(h3 k (by omega)).2]
  exact takeB_more (e := (a.getD k (0, false)).2) (pfit_at hf k (by omega)).2.1 (fun e => by rw [e]; rfl)
theorem fit_bothB {a b c : List CT} {r : RT} (h : bothC a b = some c) (ha : colB a = true) (hf : fitB b r = true) : fitB c r = true := by
  obtain ⟨h1, h2, h3⟩ := bothC_some h
  obtain ⟨f1, f2, f3, -⟩ := fitB_iff.1 hf
  refine fit_of (colB_both h ha) f2 (by omega) fun k hk => ?_
  rw [(h3 k (by omega)).2, (h3 k (by omega)).1]
  exact takeB_more (e := (b.getD k (0, false)).2) (pfit_at hf k (by omega)).2.1 (fun e => by rw [e]; simp)
theorem tablesB_iff {tb : List TB} : tablesB tb = true ↔ tb.length ≤ 3 ∧ ∀ t ∈ tb, t.2.length ≤ 6 ∧ rowsB t.1 t.2 = true := by
  simp only [tablesB, Bool.and_eq_true, decide_eq_true_eq, List.all_eq_true]
theorem flat_len {α β : Type} (l : List α) (f : α → List β) (n : Nat) (h : ∀ x ∈ l, (f x).length ≤ n) : (l.flatMap f).length ≤ l.length * n := by
  induction l with
  | nil => simp
  | cons x l ih =>
    rw [List.flatMap_cons, List.length_append, List.length_cons, Nat.succ_mul]
    have h1 := h x (by simp)
    have h2 := ih (fun y hy => h y (List.mem_cons_of_mem _ hy))
    omega
/-- One step: its rows fit its columns, and are no more than it may have. -/
theorem step_fits {tb : List TB} {ah : List (List CT)} {md : List Nat} {ev : List (List RT)} {s : SP} {c : List CT} {n : Nat} (ht : tablesB tb = true) (la : ah.length = n) (he : ∀ j, j < n → rowsB (ah.getD j []) (ev.getD j []) = true ∧ (ev.getD j []).length ≤ md.getD j 0) (hc : colS tb ah s = some c) : rowsB c (rowS tb ev s) = true ∧ (rowS tb ev s).length ≤ madeS md s := by
  unfold colS at hc
  split at hc
  · cases hc
  split at hc
  · rename_i h1
    split at hc
    · rename_i hin
      obtain ⟨k, hk, hlt⟩ := inB_nat hin
      obtain rfl := Option.some.inj hc
      have hm := (tablesB_iff.1 ht).2 _ (List.getElem_mem hlt)
      rw [rowS, if_pos h1, madeS, if_pos h1, hk, Int.toNat_natCast, getD_lt hlt]
      exact ⟨hm.2, hm.1⟩
    · cases hc
  rename_i h1
  split at hc
  · cases hc
  rename_i hin
  have hina : inB s.2.1 ah.length = true := by
    cases hq : inB s.2.1 ah.length with
    | true => rfl
    | false => exact absurd (.inl hq) hin
  have hinb : inB s.2.2.1 ah.length = true := by
    cases hq : inB s.2.2.1 ah.length with
    | true => rfl
    | false => exact absurd (.inr hq) hin
  obtain ⟨i, hi, hli⟩ := inB_nat hina
  obtain ⟨j, hj, hlj⟩ := inB_nat hinb
  obtain ⟨ri, mi⟩ := he i (by omega)
  obtain ⟨rj, mj⟩ := he j (by omega)
  obtain ⟨ci, fi⟩ := rowsB_iff.1 ri
  obtain ⟨cj, fj⟩ := rowsB_iff.1 rj
  have ei : s.2.1.toNat = i := by omega
  have ej : s.2.2.1.toNat = j := by omega
  rw [ei, ej] at hc
  rw [rowS, if_neg h1, madeS, if_neg h1, ei, ej]
  split at hc
  · rename_i h2
    split at hc
    · obtain rfl := Option.some.inj hc
      rw [if_pos h2, if_neg (by omega), if_neg (by omega)]
      exact ⟨rowsB_iff.2 ⟨ci, fun r hr => fi r (List.mem_filter.1 hr).1⟩, Nat.le_trans (List.length_filter_le _ _) mi⟩
    · cases hc
  rename_i h2
  rw [if_neg h2]
  split at hc
  · rename_i h3
    rw [if_pos h3, if_neg (by omega), if_neg (by omega)]
    refine ⟨rowsB_iff.2 ⟨colB_take ci hc, fun r hr => ?_⟩, by rw [List.length_map]; exact mi⟩
    obtain ⟨q, hq, rfl⟩ := List.mem_map.1 hr
    exact fit_take (fi q hq) hc
  rename_i h3
  rw [if_neg h3]
  split at hc
  · rename_i h4
    rw [if_pos h4, if_pos h4]
    unfold joinC at hc
    split at hc
    · rename_i hl
      obtain rfl := Option.some.inj hc
      refine ⟨rowsB_iff.2 ⟨colB_iff.2 ⟨hl.1, fun x hx => ?_⟩, fun r hr => ?_⟩, ?_⟩
      · rcases List.mem_append.1 hx with hx | hx
        · exact (colB_iff.1 ci).2 x hx
        · exact (colB_iff.1 cj).2 x hx
      · obtain ⟨q, hq, hr⟩ := List.mem_flatMap.1 hr
        obtain ⟨u, hu, rfl⟩ := List.mem_map.1 (List.mem_filter.1 hr).1
        exact fit_join (fi q hq) (fj u hu) hl.1
      · refine Nat.le_trans (flat_len _ _ (ev.getD j []).length fun x hx => ?_) (Nat.mul_le_mul mi mj)
        exact Nat.le_trans (List.length_filter_le _ _) (by rw [List.length_map]; exact Nat.le_refl _)
    · cases hc
  rename_i h4
  rw [if_neg h4, if_neg h4]
  split at hc
  · rename_i h5
    rw [if_pos h5, if_pos h5]
    refine ⟨rowsB_iff.2 ⟨colB_both hc ci, fun r hr => ?_⟩, by rw [List.length_append]; omega⟩
    rcases List.mem_append.1 hr with hr | hr
    · exact fit_bothA hc (fi r hr)
    · exact fit_bothB hc ci (fj r hr)
  rename_i h5
  rw [if_neg h5, if_neg h5]
  split at hc
  · rename_i h6
    obtain rfl := Option.some.inj hc
    rw [if_pos h6]
    exact ⟨rowsB_iff.2 ⟨ci, fun r hr => fi r ((once_mem _ r).1 hr)⟩, Nat.le_trans (once_len _) mi⟩
  · cases hc
theorem getD_app_left {α : Type} {l m : List α} {k : Nat} (h : k < l.length) (d : α) : (l ++ m).getD k d = l.getD k d := by
  rw [List.getD_eq_getElem?_getD, List.getD_eq_getElem?_getD, List.getElem?_append_left h]
theorem getD_app_one {α : Type} {l : List α} {x : α} {k : Nat} (h : k = l.length) (d : α) : (l ++ [x]).getD k d = x := by
  subst h
  rw [List.getD_eq_getElem?_getD, List.getElem?_append_right (Nat.le_refl _)]; simp
theorem every_fits {tb : List TB} {p : List SP} {st : List (List CT) × List Nat} (ht : tablesB tb = true) (h : allI tb p = some st) : ∀ j, j < p.length → rowsB (st.1.getD j []) ((everyI tb p).getD j []) = true ∧ ((everyI tb p).getD j []).length ≤ st.2.getD j 0 ∧ st.2.getD j 0 ≤ 300 := by
  have hx : ∀ k, k ≤ p.length → ∀ st, allI tb (p.take k) = some st → ∀ j, j < k → rowsB (st.1.getD j []) ((everyI tb (p.take k)).getD j []) = true ∧ ((everyI tb (p.take k)).getD j []).length ≤ st.2.getD j 0 ∧ st.2.getD j 0 ≤ 300 := by
    intro k
    induction k with
    | zero => intro _ st _ j hj; omega
    | succ k ih =>
      intro hk st h j hj
      rw [allI_take tb p k (by omega)] at h
      rcases hq : allI tb (p.take k) with _ | s0
      · rw [hq] at h; cases h
      · rw [hq] at h
        obtain ⟨c, hc, hm, rfl⟩ := stepS_some (st := s0) h
        obtain ⟨l1, l2⟩ := allI_len hq
        have hl : (p.take k).length = k := by rw [List.length_take]; omega
        have ih2 := ih (by omega) s0 hq
        have hel : (everyI tb (p.take k)).length = k := by rw [everyI_len, hl]
        rw [everyI_take tb p k (by omega)]
        by_cases hjk : j < k
        · rw [getD_app_left (by omega), getD_app_left (by omega), getD_app_left (by omega)]
          exact ih2 j hjk
        · obtain rfl : j = k := by omega
          rw [getD_app_one (by omega), getD_app_one (by omega), getD_app_one (by omega)]
          have := step_fits (n := j) ht (by omega) (fun i hi => ⟨(ih2 i hi).1, (ih2 i hi).2.1⟩) hc
          exact ⟨this.1, this.2, hm⟩
  have := hx p.length (Nat.le_refl _) st (by rw [List.take_length]; exact h)
  rwa [List.take_length] at this
/-- What a plan yields was told. -/
theorem plan_fits {tb : List TB} {p : List SP} (h : planB tb p = true) : rowsB (pcolsI tb p) (prowsI tb p) = true ∧ (prowsI tb p).length ≤ 300 := by
  obtain ⟨⟨st, hs⟩, h2, h3, h4⟩ := planB_iff.1 h
  have := every_fits h2 hs (p.length - 1) (by omega)
  rw [pcolsI, if_pos h, prowsI, if_pos h, hs]
  exact ⟨this.1, Nat.le_trans this.2.1 this.2.2⟩
theorem plan_none {tb : List TB} {p : List SP} (h : planB tb p = false) : pcolsI tb p = [] ∧ prowsI tb p = [] := by
  rw [pcolsI, prowsI, h]; exact ⟨rfl, rfl⟩
/-! ### The tables that a plan asks for -/
def nilS : SP := (0, 0, 0, 0, [], [])
theorem colS_refs {tb : List TB} {ah : List (List CT)} {s : SP} {c : List CT} (h : colS tb ah s = some c) : (s.1 = 1 → inB s.2.2.2.1 tb.length = true) ∧ (s.1 ≠ 1 → inB s.2.1 ah.length = true ∧ inB s.2.2.1 ah.length = true) := by
  unfold colS at h
  split at h
  · cases h
  split at h
  · rename_i h1
    split at h
    · rename_i hin; exact ⟨fun _ => hin, fun h2 => absurd h1 h2⟩
    · cases h
  · rename_i h1
    split at h
    · cases h
    · rename_i hin
      refine ⟨fun h2 => absurd h2 h1, fun _ => ⟨?_, ?_⟩⟩
      · cases hq : inB s.2.1 ah.length with
        | true => rfl
        | false => exact absurd (.inl hq) hin
      · cases hq : inB s.2.2.1 ah.length with
        | true => rfl
        | false => exact absurd (.inr hq) hin
theorem plan_refs {tb : List TB} {p : List SP} (h : planB tb p = true) (k : Nat) (hk : k < p.length) : (p[k].1 = 1 → inB p[k].2.2.2.1 tb.length = true) ∧ (p[k].1 ≠ 1 → inB p[k].2.1 k = true ∧ inB p[k].2.2.1 k = true) := by
  obtain ⟨⟨st, hs⟩, -⟩ := planB_iff.1 h
  have hp := allI_pre (by rw [hs]; rfl : (allI tb p).isSome = true) (k + 1)
  rw [allI_take tb p k hk] at hp
  rcases hq : allI tb (p.take k) with _ | s0
  · rw [hq] at hp; cases hp
  · rw [hq] at hp
    obtain ⟨s1, h1⟩ := Option.isSome_iff_exists.1 hp
    obtain ⟨c, hc, -, -⟩ := stepS_some (st := s0) h1
    have := colS_refs hc
    have l := (allI_len hq).1
    rw [List.length_take, Nat.min_eq_left (by omega)] at l
    rwa [l] at this
def useOne (s : SP) (k : Nat) (st : List Bool × List Bool) : List Bool × List Bool :=
  if st.1.getD k false = false then st
  else if s.1 = 1 then (st.1, st.2.set s.2.2.2.1.toNat true)
  else ((st.1.set s.2.1.toNat true).set s.2.2.1.toNat ((st.1.set s.2.1.toNat true).getD s.2.2.1.toNat false || (decide (s.1 = 4) || decide (s.1 = 5))), st.2)
def useF (p : List SP) : Nat → List Bool × List Bool → List Bool × List Bool
  | 0, st => st
  | k + 1, st => useF p k (useOne (p.getD k nilS) k st)
def use0 (tb : List TB) (p : List SP) : List Bool × List Bool := ((List.replicate p.length false).set (p.length - 1) true, List.replicate tb.length false)
def askedI (tb : List TB) (p : List SP) : List Bool := (useF p p.length (use0 tb p)).2
def ptabI (tb : List TB) (p : List SP) : List Nat := if planB tb p = true then (List.range tb.length).filter fun k => (askedI tb p).getD k false else []
theorem set_true {l : List Bool} {i k : Nat} (h : l.getD k false = true) : (l.set i true).getD k false = true := by
  rw [List.getD_eq_getElem?_getD] at h ⊢
  by_cases e : i = k
  · subst e
    by_cases hl : i < l.length
    · simp [hl]
    · rw [List.getElem?_eq_none (by omega)] at h; simp at h
  · rw [List.getElem?_set_ne e]; exact h
theorem set_or {l : List Bool} {i k : Nat} {b : Bool} (h : l.getD k false = true) : (l.set i (l.getD i false || b)).getD k false = true := by
  by_cases e : i = k
  · subst e
    rw [h]
    simp only [Bool.true_or]
    exact set_true h
  · rw [List.getD_eq_getElem?_getD, List.getElem?_set_ne e, ← List.getD_eq_getElem?_getD]; exact h
theorem set_far {l : List Bool} {i k : Nat} {b : Bool} (h : i ≠ k) : (l.set i b).getD k false = l.getD k false := by
  rw [List.getD_eq_getElem?_getD, List.getElem?_set_ne h, ← List.getD_eq_getElem?_getD]
theorem set_at {l : List Bool} {i : Nat} {b : Bool} (h : i < l.length) : (l.set i b).getD i false = b := by
  rw [List.getD_eq_getElem?_getD]; simp [h]
theorem useOne_len (s : SP) (k : Nat) (st : List Bool × List Bool) : (useOne s k st).1.length = st.1.length ∧ (useOne s k st).2.length = st.2.length := by
  unfold useOne
  split
  · exact ⟨rfl, rfl⟩
  split
  · exact ⟨rfl, by simp⟩
  · exact ⟨by simp, rfl⟩
theorem useOne_up (s : SP) (k : Nat) (st : List Bool × List Bool) : (∀ j, st.1.getD j false = true → (useOne s k st).1.getD j false = true) ∧ ∀ j, st.2.getD j false = true → (useOne s k st).2.getD j false = true := by
  unfold useOne
  split
  · exact ⟨fun j h => h, fun j h => h⟩
  split
  · exact ⟨fun j h => h, fun j h => set_true h⟩
  · exact ⟨fun j h => set_or (set_true h), fun j h => h⟩
theorem useF_up (p : List SP) (k : Nat) (st : List Bool × List Bool) : (∀ j, st.1.getD j false = true → (useF p k st).1.getD j false = true) ∧ ∀ j, st.2.getD j false = true → (useF p k st).2.getD j false = true := by
  induction k generalizing st with
  | zero => exact ⟨fun j h => h, fun j h => h⟩
  | succ k ih =>
    have h1 := useOne_up (p.getD k nilS) k st
    have h2 := ih (useOne (p.getD k nilS) k st)
    exact ⟨fun j h => h2.1 j (h1.1 j h), fun j h => h2.2 j (h1.2 j h)⟩
theorem useF_len (p : List SP) (k : Nat) (st : List Bool × List Bool) : (useF p k st).1.length = st.1.length ∧ (useF p k st).2.length = st.2.length := by
  induction k generalizing st with
  | zero => exact ⟨rfl, rfl⟩
  | succ k ih =>
    have h1 := useOne_len (p.getD k nilS) k st
    have h2 := ih (useOne (p.getD k nilS) k st)
    exact ⟨h2.1.trans h1.1, h2.2.trans h1.2⟩
/-- What is used leads on to what it hangs on. -/
def Leads (p : List SP) (U A : List Bool) (k : Nat) : Prop := ∀ h : k < p.length, U.getD k false = true → (p[k].1 = 1 → A.getD p[k].2.2.2.1.toNat false = true) ∧ (p[k].1 ≠ 1 → U.getD p[k].2.1.toNat false = true ∧ (p[k].1 = 4 ∨ p[k].1 = 5 → U.getD p[k].2.2.1.toNat false = true))
theorem useF_far {tb : List TB} {p : List SP} (h : planB tb p = true) (k : Nat) (hk : k ≤ p.length) (st : List Bool × List Bool) (j : Nat) (hj : k ≤ j) : (useF p k st).1.getD j false = st.1.getD j false := by
  induction k generalizing st with
  | zero => rfl
  | succ k ih =>
    rw [useF, ih (by omega) _ (by omega)]
    have hr := plan_refs h k (by omega)
    have e : p.getD k nilS = p[k] := getD_lt (by omega) _
    rw [e]
    unfold useOne
    split
    · rfl
    split
    · rfl
    · rename_i h1
      obtain ⟨ra, rb⟩ := hr.2 h1
      obtain ⟨a, ha, hla⟩ := inB_nat ra
      obtain ⟨b, hb, hlb⟩ := inB_nat rb
      rw [set_far (by omega), set_far (by omega)]
theorem useF_leads {tb : List TB} {p : List SP} (h : planB tb p = true) (k : Nat) (hk : k ≤ p.length) (st : List Bool × List Bool) (hl1 : st.1.length = p.length) (hl2 : st.2.length = tb.length) : ∀ j, j < k → Leads p (useF p k st).1 (useF p k st).2 j := by
  induction k generalizing st with
  | zero => intro j hj; omega
  | succ k ih =>
    intro j hj
    have hlen := useOne_len (p.getD k nilS) k st
    by_cases hjk : j < k
    · exact ih (by omega) (useOne (p.getD k nilS) k st) (by omega) (by omega) j hjk
    · obtain rfl : j = k := by omega
      intro hp hu
      have hr := plan_refs h j hp
      have e : p.getD j nilS = p[j] := getD_lt hp _
      rw [useF, e] at hu ⊢
      have hup := useF_up p j (useOne p[j] j st)
      rw [useF_far h j (by omega) _ j (Nat.le_refl _)] at hu
      have hst : st.1.getD j false = true := by
        have : (useOne p[j] j st).1.getD j false = st.1.getD j false := by
          unfold useOne
          split
          · rfl
          split
          · rfl
          · rename_i h1
            obtain ⟨ra, rb⟩ := hr.2 h1
            obtain ⟨a, ha, hla⟩ := inB_nat ra
            obtain ⟨b, hb, hlb⟩ := inB_nat rb
            rw [set_far (by omega), set_far (by omega)]
        rw [← this]; exact hu
      refine ⟨fun h1 => hup.2 _ ?_, fun h1 => ?_⟩
      · obtain ⟨n, hn, hln⟩ := inB_nat (hr.1 h1)
        unfold useOne
        rw [if_neg (by rw [hst]; simp), if_pos h1]
        exact set_at (by omega)
      · obtain ⟨ra, rb⟩ := hr.2 h1
        obtain ⟨a, ha, hla⟩ := inB_nat ra
        obtain ⟨b, hb, hlb⟩ := inB_nat rb
        have hO : useOne p[j] j st = ((st.1.set p[j].2.1.toNat true).set p[j].2.2.1.toNat ((st.1.set p[j].2.1.toNat true).getD p[j].2.2.1.toNat false || (decide (p[j].1 = 4) || decide (p[j].1 = 5))), st.2) := by
          unfold useOne
          rw [if_neg (by rw [hst]; simp), if_neg h1]
        refine ⟨hup.1 _ ?_, fun h45 => hup.1 _ ?_⟩
        · rw [hO]
          exact set_or (set_at (by omega))
        · rw [hO]
          simp only
          rw [set_at (by rw [List.length_set]; omega)]
          rcases h45 with h45 | h45 <;> simp [h45]
/-- Tables without the rows that nobody asks for. -/
def blankT (A : List Bool) (tb : List TB) : List TB := (List.range tb.length).map fun k => ((tb.getD k ([], [])).1, if A.getD k false = true then (tb.getD k ([], [])).2 else [])
theorem blank_at (A : List Bool) (tb : List TB) (k : Nat) (hk : k < tb.length) : (blankT A tb).getD k ([], []) = ((tb.getD k ([], [])).1, if A.getD k false = true then (tb.getD k ([], [])).2 else []) := by
  rw [getD_lt (by simp [blankT]; exact hk)]
  simp [blankT]
theorem blank_len (A : List Bool) (tb : List TB) : (blankT A tb).length = tb.length := by simp [blankT]
theorem colS_blank (A : List Bool) (tb : List TB) (ah : List (List CT)) (s : SP) : colS (blankT A tb) ah s = colS tb ah s := by
  unfold colS
  rw [blank_len]
  by_cases h1 : s.1 = 1
  · rw [if_pos h1, if_pos h1]
    by_cases hin : inB s.2.2.2.1 tb.length = true
    · obtain ⟨n, hn, hln⟩ := inB_nat hin
      rw [if_pos hin, if_pos hin, hn, Int.toNat_natCast, blank_at A tb n hln]
    · rw [if_neg hin, if_neg hin]
  · rw [if_neg h1, if_neg h1]
theorem allF_blank (A : List Bool) (tb : List TB) (p : List SP) (st : List (List CT) × List Nat) : allF (blankT A tb) p st = allF tb p st := by
  induction p generalizing st with
  | nil => rfl
  | cons s p ih =>
    have e : stepS (blankT A tb) st s = stepS tb st s := by unfold stepS; rw [colS_blank]
    simp only [allF, e]
    rcases stepS tb st s with _ | st'
    · rfl
    · exact ih st'
theorem tablesB_blank {A : List Bool} {tb : List TB} (h : tablesB tb = true) : tablesB (blankT A tb) = true := by
  obtain ⟨h1, h2⟩ := tablesB_iff.1 h
  refine tablesB_iff.2 ⟨by rw [blank_len]; exact h1, fun t ht => ?_⟩
  obtain ⟨k, hk, rfl⟩ := List.mem_map.1 ht
  have hk2 : k < tb.length := by simpa using hk
  obtain ⟨l, hr⟩ := h2 _ (List.getElem_mem hk2)
  rw [getD_lt hk2]
  simp only
  split
  · exact ⟨l, hr⟩
  · exact ⟨by simp, rowsB_iff.2 ⟨(rowsB_iff.1 hr).1, fun r hr => absurd hr (by simp)⟩⟩
theorem planB_blank {A : List Bool} {tb : List TB} {p : List SP} (h : planB tb p = true) : planB (blankT A tb) p = true := by
  obtain ⟨h1, h2, h3, h4⟩ := planB_iff.1 h
  exact planB_iff.2 ⟨by rw [allI, allF_blank]; exact h1, tablesB_blank h2, h3, h4⟩
/-- Other tables do not matter. -/
theorem rows_blank {tb : List TB} {p : List SP} (h : planB tb p = true) (U A : List Bool) (hL : ∀ j, j < p.length → Leads p U A j) : ∀ k, k < p.length → U.getD k false = true → (everyI (blankT A tb) p).getD k [] = (everyI tb p).getD k [] := by
  have hpre : ∀ (tb : List TB) k, k ≤ p.length → ∀ j, j < k → (everyI tb p).getD j [] = (everyI tb (p.take k)).getD j [] := by
    intro tb k hk j hj
    have hx : ∀ m, k ≤ m → m ≤ p.length → (everyI tb (p.take m)).getD j [] = (everyI tb (p.take k)).getD j [] := by
      intro m
      induction m with
      | zero => intro h1 _; have : k = 0 := by omega
                subst this; omega
      | succ m ih =>
        intro h1 h2
        by_cases e : k = m + 1
        · rw [e]
        · rw [everyI_take tb p m (by omega), getD_app_left (by rw [everyI_len, List.length_take]; omega)]
          exact ih (by omega) (by omega)
    have := hx p.length hk (Nat.le_refl _)
    rwa [List.take_length] at this
  intro k
  induction k using Nat.strongRecOn with
  | ind k ih =>
    intro hk hu
    have hl := hL k hk hk hu
    have hr := plan_refs h k hk
    have key : ∀ tb : List TB, (everyI tb p).getD k [] = rowS tb (everyI tb (p.take k)) p[k] := by
      intro tb
      rw [hpre tb (k + 1) (by omega) k (by omega), everyI_take tb p k hk, getD_app_one (by rw [everyI_len, List.length_take]; omega)]
    rw [key, key]
    by_cases h1 : p[k].1 = 1
    · obtain ⟨n, hn, hln⟩ := inB_nat (hr.1 h1)
      have hA := hl.1 h1
      rw [rowS, if_pos h1, rowS, if_pos h1, hn, Int.toNat_natCast, blank_at A tb n hln]
      rw [hn, Int.toNat_natCast] at hA
      simp only
      rw [if_pos hA]
    · obtain ⟨ra, rb⟩ := hr.2 h1
      obtain ⟨a, ha, hla⟩ := inB_nat ra
      obtain ⟨b, hb, hlb⟩ := inB_nat rb
      obtain ⟨ua, ub⟩ := hl.2 h1
      have ea : p[k].2.1.toNat = a := by omega
      have eb : p[k].2.2.1.toNat = b := by omega
      rw [ea] at ua
      rw [eb] at ub
      have qa := ih a hla (by omega) ua
      rw [hpre (blankT A tb) k (by omega) a hla, hpre tb k (by omega) a hla] at qa
      simp only [rowS, if_neg h1, ea, eb, qa]
      by_cases h4 : p[k].1 = 4
      · have qb := ih b hlb (by omega) (ub (.inl h4))
        rw [hpre (blankT A tb) k (by omega) b hlb, hpre tb k (by omega) b hlb] at qb
        rw [qb]
      · by_cases h5 : p[k].1 = 5
        · have qb := ih b hlb (by omega) (ub (.inr h5))
          rw [hpre (blankT A tb) k (by omega) b hlb, hpre tb k (by omega) b hlb] at qb
          rw [qb]
        · simp only [if_neg h4, if_neg h5]
theorem use_final {tb : List TB} {p : List SP} (h : planB tb p = true) : (useF p p.length (use0 tb p)).1.getD (p.length - 1) false = true ∧ (askedI tb p).length = tb.length ∧ ∀ j, j < p.length → Leads p (useF p p.length (use0 tb p)).1 (askedI tb p) j := by
  obtain ⟨-, -, h1, -⟩ := planB_iff.1 h
  have l1 : (use0 tb p).1.length = p.length := by simp [use0]
  have l2 : (use0 tb p).2.length = tb.length := by simp [use0]
  refine ⟨(useF_up p p.length _).1 _ ?_, (useF_len p p.length _).2.trans l2, useF_leads h p.length (Nat.le_refl _) _ l1 l2⟩
  rw [use0]
  exact set_at (by simp; omega)
theorem prows_blank {tb : List TB} {p : List SP} (h : planB tb p = true) : prowsI (blankT (askedI tb p) tb) p = prowsI tb p := by
  obtain ⟨u1, -, u3⟩ := use_final h
  obtain ⟨-, -, h1, -⟩ := planB_iff.1 h
  rw [← prows_last h, ← prows_last (planB_blank h)]
  exact rows_blank h _ _ u3 (p.length - 1) (by omega) u1
/-- A plan asks for a table. -/
theorem ptab_some {tb : List TB} {p : List SP} (h : planB tb p = true) : ptabI tb p ≠ [] := by
  obtain ⟨u1, u2, u3⟩ := use_final h
  obtain ⟨-, -, h1, -⟩ := planB_iff.1 h
  have hx : ∀ k, k < p.length → (useF p p.length (use0 tb p)).1.getD k false = true → ∃ n, n < tb.length ∧ (askedI tb p).getD n false = true := by
    intro k
    induction k using Nat.strongRecOn with
    | ind k ih =>
      intro hk hu
      have hl := u3 k hk hk hu
      have hr := plan_refs h k hk
      by_cases e : p[k].1 = 1
      · obtain ⟨n, hn, hln⟩ := inB_nat (hr.1 e)
        have := hl.1 e
        rw [hn, Int.toNat_natCast] at this
        exact ⟨n, hln, this⟩
      · obtain ⟨a, ha, hla⟩ := inB_nat (hr.2 e).1
        have := (hl.2 e).1
        rw [ha, Int.toNat_natCast] at this
        exact ih a hla (by omega) this
  obtain ⟨n, hn, ha⟩ := hx (p.length - 1) (by omega) u1
  rw [ptabI, if_pos h]
  intro e
  have : n ∈ (List.range tb.length).filter fun k => (askedI tb p).getD k false := List.mem_filter.2 ⟨List.mem_range.2 hn, ha⟩
  rw [e] at this
  simp at this
end Go.Proofs.Ytjidkjnlnenmbaa.Val
namespace Go.Proofs.Ytjidkjnlnenmbaa.Val
open Go.RowKit
set_option linter.unusedSimpArgs false
open List (Perm)
set_option linter.unusedVariables false
def whereS (n : Int) (e : List PT) : SP := (2, n, 0, 0, e, [])
theorem last_made {tb : List TB} {p : List SP} {st : List (List CT) × List Nat} (h : allI tb p = some st) (h1 : 1 ≤ p.length) : st.2.getD (p.length - 1) 0 ≤ 300 := by
  have l2 := (allI_len h).2
  have e : p.length = (p.length - 1) + 1 := by omega
  have ht := allI_take tb p (p.length - 1) (by omega)
  rw [← e, List.take_length, h] at ht
  rcases hq : allI tb (p.take (p.length - 1)) with _ | s0
  · rw [hq] at ht; cases ht
  · rw [hq] at ht
    obtain ⟨c, -, hm, e0⟩ := stepS_some (st := s0) ht.symm
    rw [e0] at l2 ⊢
    have l0 : s0.2.length = p.length - 1 := by simp at l2; omega
    rw [getD_app_one (by omega)]
    exact hm
theorem stepS_where {tb : List TB} {ah : List (List CT)} {md : List Nat} {n : Nat} {e : List PT} (hn : n < ah.length) (hm : md.getD n 0 ≤ 300) : stepS tb (ah, md) (whereS (n : Int) e) = if kindI (ah.getD n []) e = 3 then some (ah ++ [ah.getD n []], md ++ [md.getD n 0]) else none := by
  have hin : inB (n : Int) ah.length = true := by simp only [inB, Bool.and_eq_true, decide_eq_true_eq]; omega
  have hin0 : inB 0 ah.length = true := by simp only [inB, Bool.and_eq_true, decide_eq_true_eq]; omega
  have hc : colS tb ah (whereS (n : Int) e) = if kindI (ah.getD n []) e = 3 then some (ah.getD n []) else none := by
    unfold colS
    rw [if_neg (by simp [whereS, fieldsB]), if_neg (by simp [whereS]), if_neg (by simp [whereS, hin, hin0]), if_pos (by rfl)]
    rfl
  have hmm : madeS md (whereS (n : Int) e) = md.getD n 0 := by
    unfold madeS
    rw [if_neg (by simp [whereS]), if_neg (by simp [whereS]), if_neg (by simp [whereS])]
    rfl
  unfold stepS
  rw [hc, hmm]
  by_cases hk : kindI (ah.getD n []) e = 3
  · rw [if_pos hk, if_pos hk]
    simp only
    rw [if_neg (by omega)]
  · rw [if_neg hk, if_neg hk]
theorem allI_where {tb : List TB} {p : List SP} {st : List (List CT) × List Nat} (h : allI tb p = some st) (h1 : 1 ≤ p.length) (e : List PT) : allI tb (p ++ [whereS ((p.length - 1 : Nat) : Int) e]) = if kindI (st.1.getD (p.length - 1) []) e = 3 then some (st.1 ++ [st.1.getD (p.length - 1) []], st.2 ++ [st.2.getD (p.length - 1) 0]) else none := by
  rw [allI_snoc, h]
  have l1 := (allI_len h).1
  exact stepS_where (tb := tb) (ah := st.1) (md := st.2) (by omega) (last_made h h1)
/-- Two tests behind a plan. -/
def twoS (p : List SP) (a b : List PT) : List SP := (p ++ [whereS ((p.length - 1 : Nat) : Int) a]) ++ [whereS (p.length : Int) b]
theorem allI_two {tb : List TB} {p : List SP} {st : List (List CT) × List Nat} (h : allI tb p = some st) (h1 : 1 ≤ p.length) (a b : List PT) : allI tb (twoS p a b) = if kindI (st.1.getD (p.length - 1) []) a = 3 ∧ kindI (st.1.getD (p.length - 1) []) b = 3 then some (st.1 ++ [st.1.getD (p.length - 1) []] ++ [st.1.getD (p.length - 1) []], st.2 ++ [st.2.getD (p.length - 1) 0] ++ [st.2.getD (p.length - 1) 0]) else none := by
  obtain ⟨l1, l2⟩ := allI_len h
  have hw := allI_where h h1 a
  have hl := last_made h h1
  by_cases ha : kindI (st.1.getD (p.length - 1) []) a = 3
  · rw [if_pos ha] at hw
    have hw2 := allI_where (p := p ++ [whereS ((p.length - 1 : Nat) : Int) a]) hw (by simp) b
    have el : (p ++ [whereS ((p.length - 1 : Nat) : Int) a]).length - 1 = p.length := by simp
    rw [el] at hw2
    simp only at hw2
    rw [getD_app_one (by omega), getD_app_one (by omega)] at hw2
    rw [twoS, hw2]
    by_cases hb : kindI (st.1.getD (p.length - 1) []) b = 3
    · rw [if_pos hb, if_pos ⟨ha, hb⟩]
    · rw [if_neg hb, if_neg (fun hx => hb hx.2)]
  · rw [if_neg ha] at hw
    rw [twoS, allI_snoc, hw, if_neg (fun hx => ha hx.1)]; rfl
theorem rowS_where (tb : List TB) (ev : List (List RT)) (n : Nat) (e : List PT) : rowS tb ev (whereS (n : Int) e) = (ev.getD n []).filter (yesR e) := by simp [rowS, whereS]
theorem prows_two {tb : List TB} {p : List SP} {a b : List PT} (h1 : 1 ≤ p.length) (h : planB tb (twoS p a b) = true) : prowsI tb (twoS p a b) = (((everyI tb p).getD (p.length - 1) []).filter (yesR a)).filter (yesR b) := by
  have h2 := h
  unfold twoS at h2 ⊢
  rw [prows_snoc h2, rowS_where, everyI_snoc, getD_app_one (by rw [everyI_len]), rowS_where]
theorem planB_two {tb : List TB} {p : List SP} (h1 : 1 ≤ p.length) (a b : List PT) : planB tb (twoS p a b) = planB tb (twoS p b a) := by
  have hl : ∀ a b, (twoS p a b).length = p.length + 2 := fun a b => by simp [twoS]
  unfold planB
  rw [hl, hl]
  rcases h : allI tb p with _ | st
  · have : ∀ a b, allI tb (twoS p a b) = none := fun a b => by rw [twoS, allI_snoc, allI_snoc, h]; rfl
    rw [this, this]
  · rw [allI_two h h1, allI_two h h1]
    by_cases hk : kindI (st.1.getD (p.length - 1) []) a = 3 ∧ kindI (st.1.getD (p.length - 1) []) b = 3
    · rw [if_pos hk, if_pos ⟨hk.2, hk.1⟩]
    · rw [if_neg hk, if_neg (fun hx => hk ⟨hx.2, hx.1⟩)]
/-- Two tests are done in any order. -/
theorem tests_same {tb : List TB} {p : List SP} (h1 : 1 ≤ p.length) (a b : List PT) : prowsI tb (twoS p a b) = prowsI tb (twoS p b a) := by
  have hp := planB_two (tb := tb) h1 a b
  cases hx : planB tb (twoS p a b) with
  | false => rw [(plan_none hx).2, (plan_none (by rw [← hp]; exact hx)).2]
  | true =>
    rw [prows_two h1 hx, prows_two h1 (by rw [← hp]; exact hx), List.filter_filter, List.filter_filter]
    congr 1
    funext r
    exact Bool.and_comm _ _
/-! ### Twice and once -/
theorem once_in {l o : List RT} (h : ∀ r ∈ l, r ∈ o) : l.foldl onceF o = o := by
  induction l with
  | nil => rfl
  | cons r l ih =>
    have hr : r ∈ o := h r (by simp)
    rw [List.foldl_cons, onceF, if_neg (by have := List.count_pos_iff.2 hr; omega)]
    exact ih (fun x hx => h x (List.mem_cons_of_mem _ hx))
theorem once_twice (R : List RT) : onceI (R ++ R) = onceI R := by
  rw [onceI, List.foldl_append]
  exact once_in (fun r hr => (once_mem R r).2 hr)
theorem prows_twice {tb : List TB} {p : List SP} (hp : planB tb p = true) (h : planB tb ((p ++ [bothS p]) ++ [onceS (p ++ [bothS p])]) = true) : prowsI tb ((p ++ [bothS p]) ++ [onceS (p ++ [bothS p])]) = onceI (prowsI tb p) := by
  have hb : planB tb (p ++ [bothS p]) = true := by
    have := planB_take h (p ++ [bothS p]).length (by simp) (by simp)
    rwa [List.take_left' rfl] at this
  rw [prows_once hb h, prows_both hp hb, once_twice]
/-! ### The order of rows in tables -/
/-- The same tables, their rows in another order. -/
def PermT (tb tb' : List TB) : Prop := tb.length = tb'.length ∧ ∀ k, (tb.getD k ([], [])).1 = (tb'.getD k ([], [])).1 ∧ Perm (tb.getD k ([], [])).2 (tb'.getD k ([], [])).2
theorem once_perm {a b : List RT} (h : Perm a b) : Perm (onceI a) (onceI b) :=
  (List.perm_ext_iff_of_nodup (once_nodup a) (once_nodup b)).2 fun x => by rw [once_mem, once_mem, h.mem_iff]
theorem flat_perm {α β : Type} {l : List α} {f g : α → List β} (h : ∀ x ∈ l, Perm (f x) (g x)) : Perm (l.flatMap f) (l.flatMap g) := by
  induction l with
  | nil => exact Perm.refl _
  | cons x l ih =>
    rw [List.flatMap_cons, List.flatMap_cons]
    exact (h x (by simp)).append (ih fun y hy => h y (List.mem_cons_of_mem _ hy))
theorem flat_perm_left {α β : Type} {l m : List α} (f : α → List β) (h : Perm l m) : Perm (l.flatMap f) (m.flatMap f) := by
  induction h with
  | nil => exact Perm.refl _
  | cons x h ih => rw [List.flatMap_cons, List.flatMap_cons]; exact ih.append_left _
  | swap x y l =>
    simp only [List.flatMap_cons]
    rw [← List.append_assoc, ← List.append_assoc]
    exact List.perm_append_comm.append_right _
  | trans h1 h2 i1 i2 => exact i1.trans i2
theorem rowS_perm {tb tb' : List TB} (ht : PermT tb tb') {ev ev' : List (List RT)} (he : ∀ k, Perm (ev.getD k []) (ev'.getD k [])) (s : SP) : Perm (rowS tb ev s) (rowS tb' ev' s) := by
  unfold rowS
  split
  · exact (ht.2 _).2
  split
  · exact (he _).filter _
  split
  · exact (he _).map _
  split
  · exact (flat_perm_left _ (he _)).trans (flat_perm fun x _ => ((he _).map _).filter _)
  split
  · exact (he _).append (he _)
  split
  · exact once_perm (he _)
  · exact Perm.refl _
theorem every_perm {tb tb' : List TB} (ht : PermT tb tb') (p : List SP) : ∀ k, Perm ((everyI tb p).getD k []) ((everyI tb' p).getD k []) := by
  have hx : ∀ m, m ≤ p.length → ∀ k, Perm ((everyI tb (p.take m)).getD k []) ((everyI tb' (p.take m)).getD k []) := by
    intro m
    induction m with
    | zero => intro _ k; exact Perm.refl _
    | succ m ih =>
      intro hm k
      have ih := ih (by omega)
      have l1 : (everyI tb (p.take m)).length = m := by rw [everyI_len, List.length_take]; omega
      have l2 : (everyI tb' (p.take m)).length = m := by rw [everyI_len, List.length_take]; omega
      rw [everyI_take tb p m (by omega), everyI_take tb' p m (by omega)]
      by_cases h1 : k < m
      · rw [getD_app_left (by omega), getD_app_left (by omega)]; exact ih k
      · by_cases h2 : k = m
        · rw [getD_app_one (by omega), getD_app_one (by omega)]; exact rowS_perm ht ih _
        · rw [List.getD_eq_getElem?_getD, List.getElem?_eq_none (by simp; omega), List.getD_eq_getElem?_getD, List.getElem?_eq_none (by simp; omega)]
  have := hx p.length (Nat.le_refl _)
  rwa [List.take_length] at this
theorem colS_perm {tb tb' : List TB} (ht : PermT tb tb') (ah : List (List CT)) (s : SP) : colS tb ah s = colS tb' ah s := by
  unfold colS
  rw [ht.1, (ht.2 _).1]
theorem allF_perm {tb tb' : List TB} (ht : PermT tb tb') (p : List SP) (st : List (List CT) × List Nat) : allF tb p st = allF tb' p st := by
  induction p generalizing st with
  | nil => rfl
  | cons s p ih =>
    have e : stepS tb st s = stepS tb' st s := by unfold stepS; rw [colS_perm ht]
    simp only [allF, e]
    rcases stepS tb' st s with _ | st'
    · rfl
    · exact ih st'
theorem rowsB_perm {cs : List CT} {a b : List RT} (h : Perm a b) : rowsB cs a = rowsB cs b := by
  rw [Bool.eq_iff_iff, rowsB_iff, rowsB_iff]
  exact ⟨fun ⟨h1, h2⟩ => ⟨h1, fun r hr => h2 r (h.mem_iff.2 hr)⟩, fun ⟨h1, h2⟩ => ⟨h1, fun r hr => h2 r (h.mem_iff.1 hr)⟩⟩
theorem tablesB_perm {tb tb' : List TB} (ht : PermT tb tb') (h : tablesB tb = true) : tablesB tb' = true := by
  obtain ⟨h1, h2⟩ := tablesB_iff.1 h
  refine tablesB_iff.2 ⟨by rw [← ht.1]; exact h1, fun t hm => ?_⟩
  obtain ⟨k, hk, rfl⟩ := List.mem_iff_getElem.1 hm
  have hk2 : k < tb.length := by rw [ht.1]; exact hk
  obtain ⟨c, r⟩ := ht.2 k
  rw [getD_lt hk2, getD_lt hk] at c r
  have := h2 _ (List.getElem_mem hk2)
  rw [← c, ← rowsB_perm r, ← r.length_eq]
  exact this
theorem PermT.symm {tb tb' : List TB} (h : PermT tb tb') : PermT tb' tb := ⟨h.1.symm, fun k => ⟨(h.2 k).1.symm, (h.2 k).2.symm⟩⟩
theorem planB_perm {tb tb' : List TB} (ht : PermT tb tb') (p : List SP) : planB tb p = planB tb' p := by
  have e : tablesB tb = tablesB tb' := by
    rw [Bool.eq_iff_iff]; exact ⟨tablesB_perm ht, tablesB_perm ht.symm⟩
  rw [planB, planB, allI, allF_perm ht, e]; rfl
/-- The order of rows in tables does not matter to bags. -/
theorem prows_perm {tb tb' : List TB} (ht : PermT tb tb') (p : List SP) : Perm (prowsI tb p) (prowsI tb' p) := by
  rw [prowsI, prowsI, planB_perm ht]
  split
  · exact every_perm ht p _
  · exact Perm.refl _
def sortT (tb : List TB) : List TB := tb.map fun t => (t.1, sortI t.2)
theorem sortT_perm (tb : List TB) : PermT tb (sortT tb) := by
  refine ⟨by simp [sortT], fun k => ?_⟩
  by_cases hk : k < tb.length
  · rw [getD_lt hk, getD_lt (by simpa [sortT] using hk)]
    simp only [sortT, List.getElem_map]
    exact ⟨trivial, (sortI_perm _).symm⟩
  · rw [List.getD_eq_getElem?_getD, List.getElem?_eq_none (by omega), List.getD_eq_getElem?_getD, List.getElem?_eq_none (by simp [sortT]; omega)]
    exact ⟨rfl, Perm.refl _⟩
/-! ### Joins of two lists; one behind the other -/
theorem bothC_self (a : List CT) : bothC a a = some a := by
  unfold bothC
  have h : (a.zip a).all (fun p => decide (p.1.1 = p.2.1)) = true := by
    rw [List.all_eq_true]
    intro p hp
    obtain ⟨k, hk, rfl⟩ := List.mem_iff_getElem.1 hp
    simp
  rw [if_pos ⟨rfl, h⟩]
  congr 1
  apply List.ext_getElem
  · simp
  · intro k h1 h2
    simp
theorem bothC_turn (a b : List CT) : (bothC a b).isSome = (bothC b a).isSome := by
  rw [Bool.eq_iff_iff]
  have hx : ∀ a b : List CT, (bothC a b).isSome = true → (bothC b a).isSome = true := by
    intro a b h
    obtain ⟨c, hc⟩ := Option.isSome_iff_exists.1 h
    obtain ⟨h1, h2, h3⟩ := bothC_some hc
    have hz : (b.zip a).all (fun p => decide (p.1.1 = p.2.1)) = true := by
      rw [List.all_eq_true]
      intro p hp
      obtain ⟨k, hk, rfl⟩ := List.mem_iff_getElem.1 hp
      rw [List.length_zip] at hk
      have := (h3 k (by omega)).1
      rw [getD_lt (show k < a.length by omega), getD_lt (show k < b.length by omega)] at this
      simp [this]
    unfold bothC
    simp only [h1.symm, hz, and_self, if_true, Option.isSome_some]
  exact ⟨hx a b, hx b a⟩
/-- Steps that the laws name. -/
def tabS (n : Int) : SP := (1, 0, 0, n, [], [])
def joinS (a b : Int) (e : List PT) : SP := (4, a, b, 0, e, [])
def bothN (a b : Int) : SP := (5, a, b, 0, [], [])
/-- The join of a list, twice behind itself, is the join, twice. -/
theorem join_both (A B : List RT) (e : List PT) : (A ++ A).flatMap (fun r => (B.map fun q => r ++ q).filter (yesR e)) = A.flatMap (fun r => (B.map fun q => r ++ q).filter (yesR e)) ++ A.flatMap (fun r => (B.map fun q => r ++ q).filter (yesR e)) := List.flatMap_append
theorem both_turned (A B : List RT) : bagB (A ++ B) (B ++ A) = true := (bagB_iff _ _).2 List.perm_append_comm
/-- A row holds, does not hold, or is unknown. -/
theorem three_parts {R : List RT} {p q r : RT → Bool} (h : ∀ x ∈ R, (q x = (!p x && q x)) ∧ (r x = (!p x && !q x))) : Perm (R.filter p ++ R.filter q ++ R.filter r) R := by
  have e1 : R.filter q = (R.filter fun x => !p x).filter q := by
    rw [List.filter_filter]
    refine List.filter_congr fun x hx => ?_
    have := (h x hx).1
    cases hp : p x <;> cases hq : q x <;> simp_all
  have e2 : R.filter r = (R.filter fun x => !p x).filter fun x => !q x := by
    rw [List.filter_filter]
    refine List.filter_congr fun x hx => ?_
    have := (h x hx).2
    cases hp : p x <;> cases hq : q x <;> simp_all
  rw [e1, e2, List.append_assoc]
  exact ((List.filter_append_perm q (R.filter fun x => !p x)).append_left (R.filter p)).trans (List.filter_append_perm p R)
end Go.Proofs.Ytjidkjnlnenmbaa.Val
namespace Go.Proofs.Ytjidkjnlnenmbaa.Val
open Go.RowKit
set_option linter.unusedSimpArgs false
open List (Perm)
set_option linter.unusedVariables false
def tcol (tb : List TB) (n : Int) : List CT := (tb.getD n.toNat ([], [])).1
def trow (tb : List TB) (n : Int) : List RT := (tb.getD n.toNat ([], [])).2
theorem stepS_tab {tb : List TB} {ah : List (List CT)} {md : List Nat} {n : Int} (h : inB n tb.length = true) : stepS tb (ah, md) (tabS n) = some (ah ++ [tcol tb n], md ++ [6]) := by
  unfold stepS colS madeS
  simp [tabS, fieldsB, h, tcol]
theorem allF_cons (tb : List TB) (s : SP) (p : List SP) (st : List (List CT) × List Nat) : allF tb (s :: p) st = (stepS tb st s).bind (allF tb p) := rfl
theorem allI_pair {tb : List TB} {a b : Int} (ha : inB a tb.length = true) (hb : inB b tb.length = true) (r : List SP) : allI tb (tabS a :: tabS b :: r) = allF tb r ([tcol tb a, tcol tb b], [6, 6]) := by
  rw [allI, allF_cons, stepS_tab ha, Option.bind_some, allF_cons, stepS_tab hb, Option.bind_some]; rfl
theorem every_pair (tb : List TB) (a b : Int) (r : List SP) : everyI tb (tabS a :: tabS b :: r) = r.foldl (fun ah s => ah ++ [rowS tb ah s]) [trow tb a, trow tb b] := rfl
/-! ### One behind the other -/
theorem step_both {tb : List TB} {ah : List (List CT)} {md : List Nat} {x y : Nat} (hx : x < ah.length) (hy : y < ah.length) (hm : md.getD x 0 + md.getD y 0 ≤ 300) : stepS tb (ah, md) (bothN (x : Int) (y : Int)) = (bothC (ah.getD x []) (ah.getD y [])).map fun c => (ah ++ [c], md ++ [md.getD x 0 + md.getD y 0]) := by
  have h1 : inB (x : Int) ah.length = true := by simp only [inB, Bool.and_eq_true, decide_eq_true_eq]; omega
  have h2 : inB (y : Int) ah.length = true := by simp only [inB, Bool.and_eq_true, decide_eq_true_eq]; omega
  have hc : colS tb ah (bothN (x : Int) (y : Int)) = bothC (ah.getD x []) (ah.getD y []) := by
    unfold colS
    simp [bothN, fieldsB, h1, h2]
  have hd : madeS md (bothN (x : Int) (y : Int)) = md.getD x 0 + md.getD y 0 := by
    unfold madeS
    simp [bothN]
  unfold stepS
  rw [hc, hd]
  cases hb : bothC (ah.getD x []) (ah.getD y []) with
  | none => simp only [hb, Option.map_none]
  | some c => simp only [Option.map_some]; rw [if_neg (by omega)]
theorem step_join {tb : List TB} {ah : List (List CT)} {md : List Nat} {x y : Nat} {e : List PT} (hx : x < ah.length) (hy : y < ah.length) (hm : md.getD x 0 * md.getD y 0 ≤ 300) (hl : (ah.getD x [] ++ ah.getD y []).length ≤ 4) (hk : kindI (ah.getD x [] ++ ah.getD y []) e = 3) : stepS tb (ah, md) (joinS (x : Int) (y : Int) e) = some (ah ++ [ah.getD x [] ++ ah.getD y []], md ++ [md.getD x 0 * md.getD y 0]) := by
  have h1 : inB (x : Int) ah.length = true := by simp only [inB, Bool.and_eq_true, decide_eq_true_eq]; omega
  have h2 : inB (y : Int) ah.length = true := by simp only [inB, Bool.and_eq_true, decide_eq_true_eq]; omega
  have hc : colS tb ah (joinS (x : Int) (y : Int) e) = some (ah.getD x [] ++ ah.getD y []) := by
    unfold colS
    rw [if_neg (by simp [joinS, fieldsB]), if_neg (by simp [joinS]), if_neg (by simp [joinS, h1, h2]), if_neg (by simp [joinS]), if_neg (by simp [joinS]), if_pos (by rfl)]
    exact if_pos ⟨hl, hk⟩
  have hd : madeS md (joinS (x : Int) (y : Int) e) = md.getD x 0 * md.getD y 0 := by
    unfold madeS
    simp [joinS]
  unfold stepS
  rw [hc, hd]
  simp only
  rw [if_neg (by omega)]
theorem planB_of {tb : List TB} {p : List SP} (ht : tablesB tb = true) (h1 : 1 ≤ p.length) (h6 : p.length ≤ 6) : planB tb p = (allI tb p).isSome := by
  simp only [planB, ht, h1, h6, decide_true, Bool.and_true]
theorem both_at {tb : List TB} {a b : Int} (ha : inB a tb.length = true) (hb : inB b tb.length = true) {x y : Nat} (hx : x < 2) (hy : y < 2) : allI tb [tabS a, tabS b, bothN (x : Int) (y : Int)] = (bothC ([tcol tb a, tcol tb b].getD x []) ([tcol tb a, tcol tb b].getD y [])).map fun c => ([tcol tb a, tcol tb b, c], [6, 6, 12]) := by
  have hm : ∀ z, z < 2 → ([6, 6] : List Nat).getD z 0 = 6 := by
    intro z hz
    have : z = 0 ∨ z = 1 := by omega
    rcases this with rfl | rfl <;> rfl
  rw [allI_pair ha hb, allF_cons, step_both (by simpa using hx) (by simpa using hy) (by rw [hm _ hx, hm _ hy]; decide), hm _ hx, hm _ hy]
  cases bothC ([tcol tb a, tcol tb b].getD x []) ([tcol tb a, tcol tb b].getD y []) <;> rfl
/-- Two tables, one behind the other, are a bag, whichever comes first. -/
theorem whole_turned {tb : List TB} {a b : Int} (ht : tablesB tb = true) (ha : inB a tb.length = true) (hb : inB b tb.length = true) :
    planB tb [tabS a, tabS b, bothN 0 1] = planB tb [tabS a, tabS b, bothN 1 0] ∧ bagB (prowsI tb [tabS a, tabS b, bothN 0 1]) (prowsI tb [tabS a, tabS b, bothN 1 0]) = true := by
  have hp : planB tb [tabS a, tabS b, bothN 0 1] = planB tb [tabS a, tabS b, bothN 1 0] := by
    rw [planB_of ht (by simp) (by simp), planB_of ht (by simp) (by simp)]
    have h1 := both_at ha hb (x := 0) (y := 1) (by omega) (by omega)
    have h2 := both_at ha hb (x := 1) (y := 0) (by omega) (by omega)
    have e0 : ((0 : Nat) : Int) = 0 := rfl
    have e1 : ((1 : Nat) : Int) = 1 := rfl
    rw [e0, e1] at h1 h2
    rw [h1, h2, Option.isSome_map, Option.isSome_map]
    exact bothC_turn _ _
  refine ⟨hp, ?_⟩
  unfold prowsI
  rw [hp]
  split
  · exact both_turned (trow tb a) (trow tb b)
  · rfl
/-! ### Joins of two lists -/
theorem whole_lists {tb : List TB} {a b : Int} {e : List PT} (ht : tablesB tb = true) (ha : inB a tb.length = true) (hb : inB b tb.length = true) (hl : (tcol tb a ++ tcol tb b).length ≤ 4) (hk : kindI (tcol tb a ++ tcol tb b) e = 3) :
    planB tb [tabS a, tabS b, bothN 0 0, joinS 2 1 e] = true ∧ planB tb [tabS a, tabS b, joinS 0 1 e, bothN 2 2] = true ∧ bagB (prowsI tb [tabS a, tabS b, bothN 0 0, joinS 2 1 e]) (prowsI tb [tabS a, tabS b, joinS 0 1 e, bothN 2 2]) = true := by
  have hx : planB tb [tabS a, tabS b, bothN 0 0, joinS 2 1 e] = true := by
    rw [planB_of ht (by simp) (by simp), allI_pair ha hb, allF_cons]
    have h1 := step_both (tb := tb) (ah := [tcol tb a, tcol tb b]) (md := [6, 6]) (x := 0) (y := 0) (by simp) (by simp) (by decide)
    have h2 := step_join (tb := tb) (ah := [tcol tb a, tcol tb b, tcol tb a]) (md := [6, 6, 12]) (x := 2) (y := 1) (e := e) (by simp) (by simp) (by decide) hl hk
    rw [show (([tcol tb a, tcol tb b] : List (List CT)).getD 0 []) = tcol tb a from rfl, bothC_self] at h1
    have e0 : ((0 : Nat) : Int) = 0 := rfl
    have e1 : ((1 : Nat) : Int) = 1 := rfl
    have e2 : ((2 : Nat) : Int) = 2 := rfl
    rw [e0] at h1
    rw [e1, e2] at h2
    rw [h1]
    show ((stepS tb ([tcol tb a, tcol tb b, tcol tb a], [6, 6, 12]) (joinS 2 1 e)).bind (allF tb [])).isSome = true
    rw [h2]; rfl
  have hy : planB tb [tabS a, tabS b, joinS 0 1 e, bothN 2 2] = true := by
    rw [planB_of ht (by simp) (by simp), allI_pair ha hb, allF_cons]
    have h1 := step_join (tb := tb) (ah := [tcol tb a, tcol tb b]) (md := [6, 6]) (x := 0) (y := 1) (e := e) (by simp) (by simp) (by decide) hl hk
    have h2 := step_both (tb := tb) (ah := [tcol tb a, tcol tb b, tcol tb a ++ tcol tb b]) (md := [6, 6, 36]) (x := 2) (y := 2) (by simp) (by simp) (by decide)
    rw [show (([tcol tb a, tcol tb b, tcol tb a ++ tcol tb b] : List (List CT)).getD 2 []) = tcol tb a ++ tcol tb b from rfl, bothC_self] at h2
    have e0 : ((0 : Nat) : Int) = 0 := rfl
    have e1 : ((1 : Nat) : Int) = 1 := rfl
    have e2 : ((2 : Nat) : Int) = 2 := rfl
    rw [e0, e1] at h1
    rw [e2] at h2
    rw [h1]
    show ((stepS tb ([tcol tb a, tcol tb b, tcol tb a ++ tcol tb b], [6, 6, 36]) (bothN 2 2)).bind (allF tb [])).isSome = true
    rw [h2]; rfl
  refine ⟨hx, hy, (bagB_iff _ _).2 ?_⟩
  rw [prowsI, if_pos hx, prowsI, if_pos hy]
  exact Perm.of_eq (join_both (trow tb a) (trow tb b) e)
/-! ### Joins turned round -/
theorem flat_cat {α β : Type} (l : List α) (f g : α → List β) : Perm (l.flatMap f ++ l.flatMap g) (l.flatMap fun x => f x ++ g x) := by
  induction l with
  | nil => exact Perm.refl _
  | cons x l ih =>
    rw [List.flatMap_cons, List.flatMap_cons, List.flatMap_cons, List.append_assoc, List.append_assoc]
    refine Perm.append_left _ ?_
    refine Perm.trans ?_ (Perm.append_left (g x) ih)
    rw [← List.append_assoc, ← List.append_assoc]
    exact Perm.append_right _ List.perm_append_comm
theorem flat_turn {α β γ : Type} (A : List α) (B : List β) (g : α → β → List γ) : Perm (A.flatMap fun a => B.flatMap fun b => g a b) (B.flatMap fun b => A.flatMap fun a => g a b) := by
  induction A with
  | nil => simp
  | cons a A ih =>
    rw [List.flatMap_cons]
    refine (Perm.append_left _ ih).trans ?_
    refine (flat_cat B _ _).trans (Perm.of_eq ?_)
    simp only [List.flatMap_cons]
theorem map_filter_flat {α β : Type} (B : List α) (f : α → β) (p : β → Bool) : (B.map f).filter p = B.flatMap fun q => if p (f q) = true then [f q] else [] := by
  induction B with
  | nil => rfl
  | cons q B ih =>
    rw [List.map_cons, List.filter_cons, List.flatMap_cons, ih]
    split <;> simp
theorem moved_two (x y : List CT) (hx : x.length = 1) (hy : y.length = 1) : Moved [1, 0] (x ++ y) (y ++ x) := by
  obtain ⟨u, rfl⟩ := List.length_eq_one_iff.1 hx
  obtain ⟨v, rfl⟩ := List.length_eq_one_iff.1 hy
  refine ⟨List.Perm.swap 0 1 [], rfl, fun k h h2 => ?_⟩
  have : k = 0 ∨ k = 1 := by simp at h; omega
  rcases this with rfl | rfl <;> rfl
theorem moved_twoV (x y : List VT) (hx : x.length = 1) (hy : y.length = 1) : Moved [1, 0] (x ++ y) (y ++ x) := by
  obtain ⟨u, rfl⟩ := List.length_eq_one_iff.1 hx
  obtain ⟨v, rfl⟩ := List.length_eq_one_iff.1 hy
  refine ⟨List.Perm.swap 0 1 [], rfl, fun k h h2 => ?_⟩
  have : k = 0 ∨ k = 1 := by simp at h; omega
  rcases this with rfl | rfl <;> rfl
theorem take_two (x y : List VT) (hx : x.length = 1) (hy : y.length = 1) : [((x ++ y).getD (1 : Int).toNat nilV), ((x ++ y).getD (0 : Int).toNat nilV)] = y ++ x := by
  obtain ⟨u, rfl⟩ := List.length_eq_one_iff.1 hx
  obtain ⟨v, rfl⟩ := List.length_eq_one_iff.1 hy
  rfl
theorem yes_two {cs : List CT} {x y : List VT} {e : List PT} (hx : x.length = 1) (hy : y.length = 1) (hl : cs.length = 2) (hk : kindI cs e = 3) : yesR (e.map (mvP [1, 0])) (y ++ x) = yesR e (x ++ y) := by
  have hr := (kind_some (cs := cs) (ps := e) (by omega)).2.2.1
  unfold yesR
  have := runV_moved (moved_twoV x y hx hy) (by simp; omega) e [] hr
  rw [show ([1, 0] : List Nat).map Int.ofNat = ([1, 0] : List Int) from rfl] at this
  rw [this]
theorem kind_two {x y : List CT} {e : List PT} (hx : x.length = 1) (hy : y.length = 1) (hk : kindI (x ++ y) e = 3) : kindI (y ++ x) (e.map (mvP [1, 0])) = 3 := by
  obtain ⟨hc, hl, hr, -, -⟩ := kind_some (cs := x ++ y) (ps := e) (by omega)
  have hm := moved_two x y hx hy
  have h2 := run_moved hm e hr
  rw [show ([1, 0] : List Nat).map Int.ofNat = ([1, 0] : List Int) from rfl, hk] at h2
  have hc2 : colB (y ++ x) = true := by
    rw [colB_iff] at hc ⊢
    refine ⟨by simp; omega, fun c h => hc.2 c ?_⟩
    rw [List.mem_append] at h ⊢
    exact h.symm
  rw [kindI, if_pos ⟨hc2, by simpa using hl⟩, h2]; rfl
theorem mov_two {x y : List CT} {e : List PT} (hx : x.length = 1) (hy : y.length = 1) (hk : kindI (x ++ y) e = 3) : movI (x ++ y) e [1, 0] = e.map (mvP [1, 0]) := by
  unfold movI movB
  rw [hk, if_pos (by simp [hx, hy])]
def takeS (n : Int) (l : List Int) : SP := (3, n, 0, 0, [], l)
theorem one_each {tb : List TB} {n : Int} (ht : tablesB tb = true) (hn : inB n tb.length = true) (h1 : (tcol tb n).length = 1) : ∀ r ∈ trow tb n, r.length = 1 := by
  intro r hr
  obtain ⟨k, rfl, hk⟩ := inB_nat hn
  have hm : tb.getD (k : Int).toNat ([], []) ∈ tb := by rw [Int.toNat_natCast, getD_lt hk]; exact List.getElem_mem hk
  have := ((tablesB_iff.1 ht).2 _ hm).2
  have hf := (fitB_iff.1 ((rowsB_iff.1 this).2 r hr)).2.2.1
  rw [hf]; exact h1
/-- A join can be turned round. -/
theorem whole_joined {tb : List TB} {a b : Int} {e : List PT} (ht : tablesB tb = true) (ha : inB a tb.length = true) (hb : inB b tb.length = true) (h1 : (tcol tb a).length = 1) (h2 : (tcol tb b).length = 1) (hk : kindI (tcol tb a ++ tcol tb b) e = 3) :
    planB tb [tabS a, tabS b, joinS 0 1 e] = true ∧ planB tb [tabS b, tabS a, joinS 0 1 (movI (tcol tb a ++ tcol tb b) e [1, 0]), takeS 2 [1, 0]] = true ∧ bagB (prowsI tb [tabS a, tabS b, joinS 0 1 e]) (prowsI tb [tabS b, tabS a, joinS 0 1 (movI (tcol tb a ++ tcol tb b) e [1, 0]), takeS 2 [1, 0]]) = true := by
  have e0 : ((0 : Nat) : Int) = 0 := rfl
  have e1 : ((1 : Nat) : Int) = 1 := rfl
  have hk2 := kind_two h1 h2 hk
  rw [mov_two h1 h2 hk]
  have hx : planB tb [tabS a, tabS b, joinS 0 1 e] = true := by
    rw [planB_of ht (by simp) (by simp), allI_pair ha hb, allF_cons]
    have h3 := step_join (tb := tb) (ah := [tcol tb a, tcol tb b]) (md := [6, 6]) (x := 0) (y := 1) (e := e) (by simp) (by simp) (by decide) (by show (tcol tb a ++ tcol tb b).length ≤ 4; rw [List.length_append]; omega) hk
    rw [e0, e1] at h3
    rw [h3]; rfl
  have hy : planB tb [tabS b, tabS a, joinS 0 1 (e.map (mvP [1, 0])), takeS 2 [1, 0]] = true := by
    rw [planB_of ht (by simp) (by simp), allI_pair hb ha, allF_cons]
    have h3 := step_join (tb := tb) (ah := [tcol tb b, tcol tb a]) (md := [6, 6]) (x := 0) (y := 1) (e := e.map (mvP [1, 0])) (by simp) (by simp) (by decide) (by show (tcol tb b ++ tcol tb a).length ≤ 4; rw [List.length_append]; omega) hk2
    rw [e0, e1] at h3
    rw [h3]
    show ((stepS tb ([tcol tb b, tcol tb a, tcol tb b ++ tcol tb a], [6, 6, 36]) (takeS 2 [1, 0])).bind (allF tb [])).isSome = true
    have hl : (tcol tb b ++ tcol tb a).length = 2 := by rw [List.length_append]; omega
    unfold stepS colS madeS
    simp [takeS, fieldsB, inB, takeC, h1, h2, allF]
  refine ⟨hx, hy, (bagB_iff _ _).2 ?_⟩
  rw [prowsI, if_pos hx, prowsI, if_pos hy]
  have hA := one_each ht ha h1
  have hB := one_each ht hb h2
  show Perm ((trow tb a).flatMap fun r => ((trow tb b).map fun q => r ++ q).filter (yesR e)) (((trow tb b).flatMap fun q => ((trow tb a).map fun r => q ++ r).filter (yesR (e.map (mvP [1, 0])))).map fun r => [r.getD (1 : Int).toNat nilV, r.getD (0 : Int).toNat nilV])
  simp only [map_filter_flat, List.map_flatMap]
  refine (flat_turn _ _ _).trans (flat_perm fun q hq => flat_perm fun r hr => Perm.of_eq ?_)
  have hl : (tcol tb a ++ tcol tb b).length = 2 := by rw [List.length_append]; omega
  rw [yes_two (hA r hr) (hB q hq) hl hk]
  split
  · rw [List.map_singleton, take_two q r (hB q hq) (hA r hr)]
  · rfl
end Go.Proofs.Ytjidkjnlnenmbaa.Val
