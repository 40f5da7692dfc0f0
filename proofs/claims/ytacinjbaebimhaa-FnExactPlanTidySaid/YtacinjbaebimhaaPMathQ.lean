/- Plans: which are plans, their columns, their rows, the tables they ask for: plain facts; What the whole laws ask of plans: two tests in any order, twice and once, the order of tables' rows, joins of two lists, one list behind the other; Plans of two tables: one list behind the other, joins of two lists, joins turned round. -/
import Derived.Test.YtacinjbaebimhaaBagQ
import Derived.Test.YtacinjbaebimhaaEMathAQ
namespace Go.Proofs.Ytacinjbaebimhaa.Val
open Go.RowKit
set_option linter.unusedSimpArgs false
set_option linter.unusedVariables false
/-- A table; a step: kind, A, B, N, E, List. -/
abbrev TB := List CT × List RT
abbrev SP := Int × Int × Int × Int × List PT × List Int
def fieldsB (s : SP) : Bool :=
  (decide (s.1 ≠ 1) || decide (s.2.1 = 0)) && ((decide (s.1 = 4) || decide (s.1 = 5)) || decide (s.2.2.1 = 0)) && (decide (s.1 = 1) || decide (s.2.2.2.1 = 0)) && ((decide (s.1 = 2) || decide (s.1 = 4)) || decide (s.2.2.2.2.1.length = 0)) && (decide (s.1 = 3) || decide (s.2.2.2.2.2.length = 0))
def inB (x : Int) (n : Nat) : Bool := decide (0 ≤ x) && decide (x < (n : Int))
theorem inB_nat {x : Int} {n : Nat} (h : inB x n = true) : ∃ k : Nat, x = (k : Int) ∧ k < n := by
  simp only [inB, Bool.and_eq_true, decide_eq_true_eq] at h
  exact ⟨x.toNat, by omega, by omega⟩
def takeC (a : List CT) (l : List Int) : Option (List CT) := if l.all (fun t => inB t a.length) = true ∧ l.length ≤ 4 then some (l.map fun t => a.getD t.toNat (0, false)) else none
def bothC (a b : List CT) : Option (List CT) := if a.length = b.length ∧ (a.zip b).all (fun p => decide (p.1.1 = p.2.1)) = true then some ((a.zip b).map fun p => (p.1.1, p.1.2 || p.2.2)) else none
def joinC (a b : List CT) (e : List PT) : Option (List CT) := if (a ++ b).length ≤ 4 ∧ kindI (a ++ b) e = 3 then some (a ++ b) else none
/-- The columns of a step. -/
def colS (tb : List TB) (ah : List (List CT)) (s : SP) : Option (List CT) :=
  if fieldsB s = false then none
  else if s.1 = 1 then (if inB s.2.2.2.1 tb.length = true then some (tb.getD s.2.2.2.1.toNat ([], [])).1 else none)
  else if inB s.2.1 ah.length = false ∨ inB s.2.2.1 ah.length = false then none
  else if s.1 = 2 then (if kindI (ah.getD s.2.1.toNat []) s.2.2.2.2.1 = 3 then some (ah.getD s.2.1.toNat []) else none)
  else if s.1 = 3 then takeC (ah.getD s.2.1.toNat []) s.2.2.2.2.2
  else if s.1 = 4 then joinC (ah.getD s.2.1.toNat []) (ah.getD s.2.2.1.toNat []) s.2.2.2.2.1
  else if s.1 = 5 then bothC (ah.getD s.2.1.toNat []) (ah.getD s.2.2.1.toNat [])
  else if s.1 = 6 then some (ah.getD s.2.1.toNat []) else none
/-- How many rows a step may have. -/
def madeS (ah : List Nat) (s : SP) : Nat :=
  if s.1 = 1 then 6 else if s.1 = 4 then ah.getD s.2.1.toNat 0 * ah.getD s.2.2.1.toNat 0 else if s.1 = 5 then ah.getD s.2.1.toNat 0 + ah.getD s.2.2.1.toNat 0 else ah.getD s.2.1.toNat 0
def stepS (tb : List TB) (st : List (List CT) × List Nat) (s : SP) : Option (List (List CT) × List Nat) :=
  match colS tb st.1 s with
  | none => none
  | some c => if 300 < madeS st.2 s then none else some (st.1 ++ [c], st.2 ++ [madeS st.2 s])
def allF (tb : List TB) : List SP → List (List CT) × List Nat → Option (List (List CT) × List Nat)
  | [], st => some st
  | s :: p, st => (stepS tb st s).bind (allF tb p)
def allI (tb : List TB) (p : List SP) : Option (List (List CT) × List Nat) := allF tb p ([], [])
theorem allF_app (tb : List TB) (p q : List SP) (st : List (List CT) × List Nat) : allF tb (p ++ q) st = (allF tb p st).bind (allF tb q) := by
  induction p generalizing st with
  | nil => rfl
  | cons s p ih =>
    simp only [List.cons_append, allF]
    rcases stepS tb st s with _ | st'
    · rfl
    · simp only [Option.bind_some, ih]
theorem allI_snoc (tb : List TB) (p : List SP) (s : SP) : allI tb (p ++ [s]) = (allI tb p).bind fun st => stepS tb st s := by
  rw [allI, allF_app]
  show _ = (allF tb p ([], [])).bind _
  rcases allF tb p ([], []) with _ | st
  · rfl
  · simp only [Option.bind_some, allF]
    rcases stepS tb st s with _ | st' <;> rfl
theorem allI_take (tb : List TB) (p : List SP) (k : Nat) (hk : k < p.length) : allI tb (p.take (k + 1)) = (allI tb (p.take k)).bind fun st => stepS tb st p[k] := by
  rw [List.take_succ_eq_append_getElem hk, allI_snoc]
theorem stepS_some {tb : List TB} {st st' : List (List CT) × List Nat} {s : SP} (h : stepS tb st s = some st') : ∃ c, colS tb st.1 s = some c ∧ madeS st.2 s ≤ 300 ∧ st' = (st.1 ++ [c], st.2 ++ [madeS st.2 s]) := by
  unfold stepS at h
  rcases hc : colS tb st.1 s with _ | c
  · rw [hc] at h; cases h
  · rw [hc] at h
    simp only at h
    split at h
    · cases h
    · exact ⟨c, rfl, by omega, (Option.some.inj h).symm⟩
theorem allI_pre {tb : List TB} {p : List SP} (h : (allI tb p).isSome = true) (k : Nat) : (allI tb (p.take k)).isSome = true := by
  have e : allI tb p = (allI tb (p.take k)).bind (allF tb (p.drop k)) := by
    conv => lhs; rw [← List.take_append_drop k p]
    rw [allI, allF_app]; rfl
  rw [e] at h
  rcases hk : allI tb (p.take k) with _ | st
  · rw [hk] at h; cases h
  · rfl
def tablesB (tb : List TB) : Bool := decide (tb.length ≤ 3) && tb.all fun t => decide (t.2.length ≤ 6) && rowsB t.1 t.2
def planB (tb : List TB) (p : List SP) : Bool := (allI tb p).isSome && tablesB tb && (decide (1 ≤ p.length) && decide (p.length ≤ 6))
theorem planB_iff {tb : List TB} {p : List SP} : planB tb p = true ↔ (∃ st, allI tb p = some st) ∧ tablesB tb = true ∧ 1 ≤ p.length ∧ p.length ≤ 6 := by
  simp only [planB, Bool.and_eq_true, decide_eq_true_eq, Option.isSome_iff_exists]
  exact ⟨fun ⟨⟨h1, h2⟩, h3, h4⟩ => ⟨h1, h2, h3, h4⟩, fun ⟨h1, h2, h3, h4⟩ => ⟨⟨h1, h2⟩, h3, h4⟩⟩
theorem allI_len {tb : List TB} {p : List SP} {st : List (List CT) × List Nat} (h : allI tb p = some st) : st.1.length = p.length ∧ st.2.length = p.length := by
  have hx : ∀ k, k ≤ p.length → ∀ st, allI tb (p.take k) = some st → st.1.length = k ∧ st.2.length = k := by
    intro k
    induction k with
    | zero =>
      intro _ st h
      have : st = ([], []) := (Option.some.inj h).symm
      subst this; exact ⟨rfl, rfl⟩
    | succ k ih =>
      intro hk st h
      rw [allI_take tb p k (by omega)] at h
      rcases hq : allI tb (p.take k) with _ | s0
      · rw [hq] at h; cases h
      · rw [hq] at h
        obtain ⟨c, -, -, rfl⟩ := stepS_some (st := s0) h
        obtain ⟨l1, l2⟩ := ih (by omega) s0 hq
        exact ⟨by rw [List.length_append, l1]; rfl, by rw [List.length_append, l2]; rfl⟩
  have := hx p.length (Nat.le_refl _) st (by rw [List.take_length]; exact h)
  exact this
def yesR (e : List PT) (row : RT) : Bool := isYes ((runV row e []).headD nilV)
def rowS (tb : List TB) (ah : List (List RT)) (s : SP) : List RT :=
  if s.1 = 1 then (tb.getD s.2.2.2.1.toNat ([], [])).2
  else if s.1 = 2 then (ah.getD s.2.1.toNat []).filter (yesR s.2.2.2.2.1)
  else if s.1 = 3 then (ah.getD s.2.1.toNat []).map fun r => s.2.2.2.2.2.map fun t => r.getD t.toNat nilV
  else if s.1 = 4 then (ah.getD s.2.1.toNat []).flatMap fun r => ((ah.getD s.2.2.1.toNat []).map fun q => r ++ q).filter (yesR s.2.2.2.2.1)
  else if s.1 = 5 then ah.getD s.2.1.toNat [] ++ ah.getD s.2.2.1.toNat []
  else if s.1 = 6 then onceI (ah.getD s.2.1.toNat [])
  else []
def everyI (tb : List TB) (p : List SP) : List (List RT) := p.foldl (fun ah s => ah ++ [rowS tb ah s]) []
theorem everyI_snoc (tb : List TB) (p : List SP) (s : SP) : everyI tb (p ++ [s]) = everyI tb p ++ [rowS tb (everyI tb p) s] := by
  rw [everyI, List.foldl_append]; rfl
theorem everyI_take (tb : List TB) (p : List SP) (k : Nat) (hk : k < p.length) : everyI tb (p.take (k + 1)) = everyI tb (p.take k) ++ [rowS tb (everyI tb (p.take k)) p[k]] := by
  rw [List.take_succ_eq_append_getElem hk, everyI_snoc]
theorem everyI_len (tb : List TB) (p : List SP) : (everyI tb p).length = p.length := by
  have hx : ∀ k, k ≤ p.length → (everyI tb (p.take k)).length = k := by
    intro k
    induction k with
    | zero => intro _; rfl
    | succ k ih =>
      intro hk
      rw [everyI_take tb p k (by omega), List.length_append, ih (by omega)]; rfl
  have := hx p.length (Nat.le_refl _)
  rwa [List.take_length] at this
theorem rowsB_iff {cs : List CT} {ls : List RT} : rowsB cs ls = true ↔ colB cs = true ∧ ∀ r ∈ ls, fitB cs r = true := by
  simp only [rowsB, Bool.and_eq_true, List.all_eq_true]
theorem fitB_iff {cs : List CT} {r : RT} : fitB cs r = true ↔ colB cs = true ∧ rowB r = true ∧ r.length = cs.length ∧ ∀ p ∈ cs.zip r, takeB p.1 p.2 = true := by
  simp only [fitB, Bool.and_eq_true, decide_eq_true_eq, List.all_eq_true]
  exact ⟨fun ⟨⟨⟨h1, h2⟩, h3⟩, h4⟩ => ⟨h1, h2, h3, h4⟩, fun ⟨h1, h2, h3, h4⟩ => ⟨⟨⟨h1, h2⟩, h3⟩, h4⟩⟩
theorem colB_iff {cs : List CT} : colB cs = true ↔ cs.length ≤ 4 ∧ ∀ c ∈ cs, kindB c.1 = true := by
  simp only [colB, Bool.and_eq_true, decide_eq_true_eq, List.all_eq_true]
theorem rowB_iff {r : RT} : rowB r = true ↔ r.length ≤ 4 ∧ ∀ v ∈ r, okV v = true := by
  simp only [rowB, Bool.and_eq_true, decide_eq_true_eq, List.all_eq_true]
/-- A value at its column. -/
theorem pfit_at {cs : List CT} {r : RT} (h : fitB cs r = true) (k : Nat) (hk : k < cs.length) : k < r.length ∧ takeB (cs.getD k (0, false)) (r.getD k nilV) = true ∧ okV (r.getD k nilV) = true := by
  obtain ⟨-, h2, h3, h4⟩ := fitB_iff.1 h
  have hr : k < r.length := by omega
  have hz : (cs[k], r[k]) ∈ cs.zip r := by
    rw [List.mem_iff_getElem]
    exact ⟨k, by rw [List.length_zip]; omega, by simp⟩
  have e1 : cs.getD k (0, false) = cs[k] := by rw [List.getD_eq_getElem?_getD, List.getElem?_eq_getElem hk]; rfl
  have e2 : r.getD k nilV = r[k] := by rw [List.getD_eq_getElem?_getD, List.getElem?_eq_getElem hr]; rfl
  rw [e1, e2]
  exact ⟨hr, h4 _ hz, (rowB_iff.1 h2).2 _ (List.getElem_mem _)⟩
theorem fit_join {a b : List CT} {r q : RT} (h : fitB a r = true) (k : fitB b q = true) (hl : (a ++ b).length ≤ 4) : fitB (a ++ b) (r ++ q) = true := by
  obtain ⟨h1, h2, h3, h4⟩ := fitB_iff.1 h
  obtain ⟨k1, k2, k3, k4⟩ := fitB_iff.1 k
  obtain ⟨-, c1⟩ := colB_iff.1 h1
  obtain ⟨-, c2⟩ := colB_iff.1 k1
  obtain ⟨-, v1⟩ := rowB_iff.1 h2
  obtain ⟨-, v2⟩ := rowB_iff.1 k2
  refine fitB_iff.2 ⟨colB_iff.2 ⟨hl, ?_⟩, rowB_iff.2 ⟨by rw [List.length_append] at hl ⊢; omega, ?_⟩, by rw [List.length_append, List.length_append]; omega, ?_⟩
  · intro c hc; rcases List.mem_append.1 hc with hc | hc
    · exact c1 c hc
    · exact c2 c hc
  · intro c hc; rcases List.mem_append.1 hc with hc | hc
    · exact v1 c hc
    · exact v2 c hc
  · intro p hp
    rw [List.zip_append h3.symm] at hp
    rcases List.mem_append.1 hp with hp | hp
    · exact h4 p hp
    · exact k4 p hp
theorem fit_take {a c : List CT} {r : RT} {l : List Int} (h : fitB a r = true) (hc : takeC a l = some c) : fitB c (l.map fun t => r.getD t.toNat nilV) = true := by
  unfold takeC at hc
  split at hc
  · rename_i hl
    obtain ⟨hl1, hl2⟩ := hl
    obtain rfl := Option.some.inj hc
    rw [List.all_eq_true] at hl1
    have hat : ∀ t ∈ l, takeB (a.getD t.toNat (0, false)) (r.getD t.toNat nilV) = true ∧ okV (r.getD t.toNat nilV) = true ∧ kindB (a.getD t.toNat (0, false)).1 = true := by
      intro t ht
      obtain ⟨k, rfl, hk⟩ := inB_nat (hl1 t ht)
      have hf := pfit_at h k hk
      refine ⟨hf.2.1, hf.2.2, ?_⟩
      have e1 : a.getD k (0, false) = a[k] := by rw [List.getD_eq_getElem?_getD, List.getElem?_eq_getElem hk]; rfl
      rw [Int.toNat_natCast, e1]
      exact (colB_iff.1 (fitB_iff.1 h).1).2 _ (List.getElem_mem _)
    refine fitB_iff.2 ⟨colB_iff.2 ⟨by simpa using hl2, ?_⟩, rowB_iff.2 ⟨by simpa using hl2, ?_⟩, by simp, ?_⟩
    · intro c hc
      obtain ⟨t, ht, rfl⟩ := List.mem_map.1 hc
      exact (hat t ht).2.2
    · intro c hc
      obtain ⟨t, ht, rfl⟩ := List.mem_map.1 hc
      exact (hat t ht).2.1
    · intro p hp
      rw [List.zip_map'] at hp
      obtain ⟨t, ht, rfl⟩ := List.mem_map.1 hp
      exact (hat t ht).1
  · cases hc
theorem colB_take {a c : List CT} {l : List Int} (h : colB a = true) (hc : takeC a l = some c) : colB c = true := by
  unfold takeC at hc
  split at hc
  · rename_i hl
    obtain ⟨hl1, hl2⟩ := hl
    obtain rfl := Option.some.inj hc
    rw [List.all_eq_true] at hl1
    refine colB_iff.2 ⟨by simpa using hl2, fun c hc => ?_⟩
    obtain ⟨t, ht, rfl⟩ := List.mem_map.1 hc
    obtain ⟨k, rfl, hk⟩ := inB_nat (hl1 t ht)
    have e1 : a.getD k (0, false) = a[k] := by rw [List.getD_eq_getElem?_getD, List.getElem?_eq_getElem hk]; rfl
    rw [Int.toNat_natCast, e1]
    exact (colB_iff.1 h).2 _ (List.getElem_mem _)
  · cases hc
theorem getD_lt {α : Type} {l : List α} {k : Nat} (h : k < l.length) (d : α) : l.getD k d = l[k] := by rw [List.getD_eq_getElem?_getD, List.getElem?_eq_getElem h]; rfl
theorem fit_of {cs : List CT} {r : RT} (h1 : colB cs = true) (h2 : rowB r = true) (h3 : r.length = cs.length) (h4 : ∀ k, k < cs.length → takeB (cs.getD k (0, false)) (r.getD k nilV) = true) : fitB cs r = true := by
  refine fitB_iff.2 ⟨h1, h2, h3, fun p hp => ?_⟩
  obtain ⟨k, hk, rfl⟩ := List.mem_iff_getElem.1 hp
  rw [List.length_zip] at hk
  have := h4 k (by omega)
  rw [getD_lt (by omega), getD_lt (by omega)] at this
  simpa using this
theorem bothC_some {a b c : List CT} (h : bothC a b = some c) : a.length = b.length ∧ c.length = a.length ∧ ∀ k, k < a.length → (a.getD k (0, false)).1 = (b.getD k (0, false)).1 ∧ c.getD k (0, false) = ((a.getD k (0, false)).1, (a.getD k (0, false)).2 || (b.getD k (0, false)).2) := by
  unfold bothC at h
  split at h
  · rename_i hl
    obtain ⟨hl1, hl2⟩ := hl
    obtain rfl := Option.some.inj h
    rw [List.all_eq_true] at hl2
    refine ⟨hl1, by simp; omega, fun k hk => ?_⟩
    have hz : k < (a.zip b).length := by rw [List.length_zip]; omega
    have h1 := hl2 _ (List.getElem_mem hz)
    simp only [List.getElem_zip, decide_eq_true_eq] at h1
    rw [getD_lt hk, getD_lt (show k < b.length by omega), getD_lt (by simpa using hz)]
    refine ⟨h1, ?_⟩
    simp
  · cases h
theorem colB_both {a b c : List CT} (h : bothC a b = some c) (ha : colB a = true) : colB c = true := by
  obtain ⟨h1, h2, h3⟩ := bothC_some h
  obtain ⟨l1, l2⟩ := colB_iff.1 ha
  refine colB_iff.2 ⟨by omega, fun x hx => ?_⟩
  obtain ⟨k, hk, rfl⟩ := List.mem_iff_getElem.1 hx
  have := (h3 k (by omega)).2
  rw [getD_lt hk, getD_lt (show k < a.length by omega)] at this
  rw [this]
  exact l2 (a[k]'(by omega)) (List.getElem_mem _)
theorem takeB_more {k : Int} {e e' : Bool} {v : VT} (h : takeB (k, e) v = true) (he : e = true → e' = true) : takeB (k, e') v = true := by
  simp only [takeB, Bool.or_eq_true, Bool.and_eq_true, decide_eq_true_eq] at h ⊢
  rcases h with h | ⟨h1, h2⟩
  · exact .inl h
  · exact .inr ⟨he h1, h2⟩
theorem fit_bothA {a b c : List CT} {r : RT} (h : bothC a b = some c) (hf : fitB a r = true) : fitB c r = true := by
  obtain ⟨h1, h2, h3⟩ := bothC_some h
  obtain ⟨f1, f2, f3, -⟩ := fitB_iff.1 hf
  refine fit_of (colB_both h f1) f2 (by omega) fun k hk => ?_
  rw [(h3 k (by omega)).2]
  exact takeB_more (e := (a.getD k (0, false)).2) (pfit_at hf k (by omega)).2.1 (fun e => by rw [e]; rfl)
theorem fit_bothB {a b c : List CT} {r : RT} (h : bothC a b = some c) (ha : colB a = true) (hf : fitB b r = true) : fitB c r = true := by
  obtain ⟨h1, h2, h3⟩ := bothC_some h
  obtain ⟨f1, f2, f3, -⟩ := fitB_iff.1 hf
  refine fit_of (colB_both h ha) f2 (by omega) fun k hk => ?_
  rw [(h3 k (by omega)).2, (h3 k (by omega)).1]
  exact takeB_more (e := (b.getD k (0, false)).2) (pfit_at hf k (by omega)).2.1 (fun e => by rw [e]; simp)
theorem tablesB_iff {tb : List TB} : tablesB tb = true ↔ tb.length ≤ 3 ∧ ∀ t ∈ tb, t.2.length ≤ 6 ∧ rowsB t.1 t.2 = true := by
  simp only [tablesB, Bool.and_eq_true, decide_eq_true_eq, List.all_eq_true]
theorem flat_len {α β : Type} (l : List α) (f : α → List β) (n : Nat) (h : ∀ x ∈ l, (f x).length ≤ n) : (l.flatMap f).length ≤ l.length * n := by
  induction l with
  | nil => simp
  | cons x l ih =>
    rw [List.flatMap_cons, List.length_append, List.length_cons, Nat.succ_mul]
    have h1 := h x (by simp)
    have h2 := ih (fun y hy => h y (List.mem_cons_of_mem _ hy))
    omega
/-- One step: its rows fit its columns, and are no more than it may have. -/
theorem step_fits {tb : List TB} {ah : List (List CT)} {md : List Nat} {ev : List (List RT)} {s : SP} {c : List CT} {n : Nat} (ht : tablesB tb = true) (la : ah.length = n) (he : ∀ j, j < n → rowsB (ah.getD j []) (ev.getD j []) = true ∧ (ev.getD j []).length ≤ md.getD j 0) (hc : colS tb ah s = some c) : rowsB c (rowS tb ev s) = true ∧ (rowS tb ev s).length ≤ madeS md s := by
  unfold colS at hc
  split at hc
  · cases hc
  split at hc
  · rename_i h1
    split at hc
    · rename_i hin
      obtain ⟨k, hk, hlt⟩ := inB_nat hin
      obtain rfl := Option.some.inj hc
      have hm := (tablesB_iff.1 ht).2 _ (List.getElem_mem hlt)
      rw [rowS, if_pos h1, madeS, if_pos h1, hk, Int.toNat_natCast, getD_lt hlt]
      exact ⟨hm.2, hm.1⟩
    · cases hc
  rename_i h1
  split at hc
  · cases hc
  rename_i hin
  have hina : inB s.2.1 ah.length = true := by
    cases hq : inB s.2.1 ah.length with
    | true => rfl
    | false => exact absurd (.inl hq) hin
  have hinb : inB s.2.2.1 ah.length = true := by
    cases hq : inB s.2.2.1 ah.length with
    | true => rfl
    | false => exact absurd (.inr hq) hin
  obtain ⟨i, hi, hli⟩ := inB_nat hina
  obtain ⟨j, hj, hlj⟩ := inB_nat hinb
  obtain ⟨ri, mi⟩ := he i (by omega)
  obtain ⟨rj, mj⟩ := he j (by omega)
  obtain ⟨ci, fi⟩ := rowsB_iff.1 ri
  obtain ⟨cj, fj⟩ := rowsB_iff.1 rj
  have ei : s.2.1.toNat = i := by omega
  have ej : s.2.2.1.toNat = j := by omega
  rw [ei, ej] at hc
  rw [rowS, if_neg h1, madeS, if_neg h1, ei, ej]
  split at hc
  · rename_i h2
    split at hc
    · obtain rfl := Option.some.inj hc
      rw [if_pos h2, if_neg (by omega), if_neg (by omega)]
      exact ⟨rowsB_iff.2 ⟨ci, fun r hr => fi r (List.mem_filter.1 hr).1⟩, Nat.le_trans (List.length_filter_le _ _) mi⟩
    · cases hc
  rename_i h2
  rw [if_neg h2]
  split at hc
  · rename_i h3
    rw [if_pos h3, if_neg (by omega), if_neg (by omega)]
    refine ⟨rowsB_iff.2 ⟨colB_take ci hc, fun r hr => ?_⟩, by rw [List.length_map]; exact mi⟩
    obtain ⟨q, hq, rfl⟩ := List.mem_map.1 hr
    exact fit_take (fi q hq) hc
  rename_i h3
  rw [if_neg h3]
  split at hc
  · rename_i h4
    rw [if_pos h4, if_pos h4]
    unfold joinC at hc
    split at hc
    · rename_i hl
      obtain rfl := Option.some.inj hc
      refine ⟨rowsB_iff.2 ⟨colB_iff.2 ⟨hl.1, fun x hx => ?_⟩, fun r hr => ?_⟩, ?_⟩
      · rcases List.mem_append.1 hx with hx | hx
        · exact (colB_iff.1 ci).2 x hx
        · exact (colB_iff.1 cj).2 x hx
      · obtain ⟨q, hq, hr⟩ := List.mem_flatMap.1 hr
        obtain ⟨u, hu, rfl⟩ := List.mem_map.1 (List.mem_filter.1 hr).1
        exact fit_join (fi q hq) (fj u hu) hl.1
      · refine Nat.le_trans (flat_len _ _ (ev.getD j []).length fun x hx => ?_) (Nat.mul_le_mul mi mj)
        exact Nat.le_trans (List.length_filter_le _ _) (by rw [List.length_map]; exact Nat.le_refl _)
    · cases hc
  rename_i h4
  rw [if_neg h4, if_neg h4]
  split at hc
  · rename_i h5
    rw [if_pos h5, if_pos h5]
    refine ⟨rowsB_iff.2 ⟨colB_both hc ci, fun r hr => ?_⟩, by rw [List.length_append]; omega⟩
    rcases List.mem_append.1 hr with hr | hr
    · exact fit_bothA hc (fi r hr)
    · exact fit_bothB hc ci (fj r hr)
  rename_i h5
  rw [if_neg h5, if_neg h5]
  split at hc
  · rename_i h6
    obtain rfl := Option.some.inj hc
    rw [if_pos h6]
    exact ⟨rowsB_iff.2 ⟨ci, fun r hr => fi r ((once_mem _ r).1 hr)⟩, Nat.le_trans (once_len _) mi⟩
  · cases hc
theorem getD_app_left {α : Type} {l m : List α} {k : Nat} (h : k < l.length) (d : α) : (l ++ m).getD k d = l.getD k d := by
  rw [List.getD_eq_getElem?_getD, List.getD_eq_getElem?_getD, List.getElem?_append_left h]
theorem getD_app_one {α : Type} {l : List α} {x : α} {k : Nat} (h : k = l.length) (d : α) : (l ++ [x]).getD k d = x := by
  subst h
  rw [List.getD_eq_getElem?_getD, List.getElem?_append_right (Nat.le_refl _)]; simp
theorem every_fits {tb : List TB} {p : List SP} {st : List (List CT) × List Nat} (ht : tablesB tb = true) (h : allI tb p = some st) : ∀ j, j < p.length → rowsB (st.1.getD j []) ((everyI tb p).getD j []) = true ∧ ((everyI tb p).getD j []).length ≤ st.2.getD j 0 ∧ st.2.getD j 0 ≤ 300 := by
  have hx : ∀ k, k ≤ p.length → ∀ st, allI tb (p.take k) = some st → ∀ j, j < k → rowsB (st.1.getD j []) ((everyI tb (p.take k)).getD j []) = true ∧ ((everyI tb (p.take k)).getD j []).length ≤ st.2.getD j 0 ∧ st.2.getD j 0 ≤ 300 := by
    intro k
    induction k with
    | zero => intro _ st _ j hj; omega
    | succ k ih =>
      intro hk st h j hj
      rw [allI_take tb p k (by omega)] at h
      rcases hq : allI tb (p.take k) with _ | s0
      · rw [hq] at h; cases h
      · rw [hq] at h
        obtain ⟨c, hc, hm, rfl⟩ := stepS_some (st := s0) h
        obtain ⟨l1, l2⟩ := allI_len hq
        have hl : (p.take k).length = k := by rw [List.length_take]; omega
        have ih2 := ih (by omega) s0 hq
        have hel : (everyI tb (p.take k)).length = k := by rw [everyI_len, hl]
        rw [everyI_take tb p k (by omega)]
        by_cases hjk : j < k
        · rw [getD_app_left (by omega), getD_app_left (by omega), getD_app_left (by omega)]
          exact ih2 j hjk
        · obtain rfl : j = k := by omega
          rw [getD_app_one (by omega), getD_app_one (by omega), getD_app_one (by omega)]
          have := step_fits (n := j) ht (by omega) (fun i hi => ⟨(ih2 i hi).1, (ih2 i hi).2.1⟩) hc
          exact ⟨this.1, this.2, hm⟩
  have := hx p.length (Nat.le_refl _) st (by rw [List.take_length]; exact h)
  rwa [List.take_length] at this
def nilS : SP := (0, 0, 0, 0, [], [])
theorem colS_refs {tb : List TB} {ah : List (List CT)} {s : SP} {c : List CT} (h : colS tb ah s = some c) : (s.1 = 1 → inB s.2.2.2.1 tb.length = true) ∧ (s.1 ≠ 1 → inB s.2.1 ah.length = true ∧ inB s.2.2.1 ah.length = true) := by
  unfold colS at h
  split at h
  · cases h
  split at h
  · rename_i h1
    split at h
    · rename_i hin; exact ⟨fun _ => hin, fun h2 => absurd h1 h2⟩
    · cases h
  · rename_i h1
    split at h
    · cases h
    · rename_i hin
      refine ⟨fun h2 => absurd h2 h1, fun _ => ⟨?_, ?_⟩⟩
      · cases hq : inB s.2.1 ah.length with
        | true => rfl
        | false => exact absurd (.inl hq) hin
      · cases hq : inB s.2.2.1 ah.length with
        | true => rfl
        | false => exact absurd (.inr hq) hin
theorem plan_refs {tb : List TB} {p : List SP} (h : planB tb p = true) (k : Nat) (hk : k < p.length) : (p[k].1 = 1 → inB p[k].2.2.2.1 tb.length = true) ∧ (p[k].1 ≠ 1 → inB p[k].2.1 k = true ∧ inB p[k].2.2.1 k = true) := by
  obtain ⟨⟨st, hs⟩, -⟩ := planB_iff.1 h
  have hp := allI_pre (by rw [hs]; rfl : (allI tb p).isSome = true) (k + 1)
  rw [allI_take tb p k hk] at hp
  rcases hq : allI tb (p.take k) with _ | s0
  · rw [hq] at hp; cases hp
  · rw [hq] at hp
    obtain ⟨s1, h1⟩ := Option.isSome_iff_exists.1 hp
    obtain ⟨c, hc, -, -⟩ := stepS_some (st := s0) h1
    have := colS_refs hc
    have l := (allI_len hq).1
    rw [List.length_take, Nat.min_eq_left (by omega)] at l
    rwa [l] at this
def useOne (s : SP) (k : Nat) (st : List Bool × List Bool) : List Bool × List Bool :=
  if st.1.getD k false = false then st
  else if s.1 = 1 then (st.1, st.2.set s.2.2.2.1.toNat true)
  else ((st.1.set s.2.1.toNat true).set s.2.2.1.toNat ((st.1.set s.2.1.toNat true).getD s.2.2.1.toNat false || (decide (s.1 = 4) || decide (s.1 = 5))), st.2)
def useF (p : List SP) : Nat → List Bool × List Bool → List Bool × List Bool
  | 0, st => st
  | k + 1, st => useF p k (useOne (p.getD k nilS) k st)
def use0 (tb : List TB) (p : List SP) : List Bool × List Bool := ((List.replicate p.length false).set (p.length - 1) true, List.replicate tb.length false)
def askedI (tb : List TB) (p : List SP) : List Bool := (useF p p.length (use0 tb p)).2
theorem set_true {l : List Bool} {i k : Nat} (h : l.getD k false = true) : (l.set i true).getD k false = true := by
  rw [List.getD_eq_getElem?_getD] at h ⊢
  by_cases e : i = k
  · subst e
    by_cases hl : i < l.length
    · simp [hl]
    · rw [List.getElem?_eq_none (by omega)] at h; simp at h
  · rw [List.getElem?_set_ne e]; exact h
theorem set_or {l : List Bool} {i k : Nat} {b : Bool} (h : l.getD k false = true) : (l.set i (l.getD i false || b)).getD k false = true := by
  by_cases e : i = k
  · subst e
    rw [h]
    simp only [Bool.true_or]
    exact set_true h
  · rw [List.getD_eq_getElem?_getD, List.getElem?_set_ne e, ← List.getD_eq_getElem?_getD]; exact h
theorem set_far {l : List Bool} {i k : Nat} {b : Bool} (h : i ≠ k) : (l.set i b).getD k false = l.getD k false := by
  rw [List.getD_eq_getElem?_getD, List.getElem?_set_ne h, ← List.getD_eq_getElem?_getD]
theorem set_at {l : List Bool} {i : Nat} {b : Bool} (h : i < l.length) : (l.set i b).getD i false = b := by
  rw [List.getD_eq_getElem?_getD]; simp [h]
theorem useOne_len (s : SP) (k : Nat) (st : List Bool × List Bool) : (useOne s k st).1.length = st.1.length ∧ (useOne s k st).2.length = st.2.length := by
  unfold useOne
  split
  · exact ⟨rfl, rfl⟩
  split
  · exact ⟨rfl, by simp⟩
  · exact ⟨by simp, rfl⟩
theorem useOne_up (s : SP) (k : Nat) (st : List Bool × List Bool) : (∀ j, st.1.getD j false = true → (useOne s k st).1.getD j false = true) ∧ ∀ j, st.2.getD j false = true → (useOne s k st).2.getD j false = true := by
  unfold useOne
  split
  · exact ⟨fun j h => h, fun j h => h⟩
  split
  · exact ⟨fun j h => h, fun j h => set_true h⟩
  · exact ⟨fun j h => set_or (set_true h), fun j h => h⟩
theorem useF_up (p : List SP) (k : Nat) (st : List Bool × List Bool) : (∀ j, st.1.getD j false = true → (useF p k st).1.getD j false = true) ∧ ∀ j, st.2.getD j false = true → (useF p k st).2.getD j false = true := by
  induction k generalizing st with
  | zero => exact ⟨fun j h => h, fun j h => h⟩
  | succ k ih =>
    have h1 := useOne_up (p.getD k nilS) k st
    have h2 := ih (useOne (p.getD k nilS) k st)
    exact ⟨fun j h => h2.1 j (h1.1 j h), fun j h => h2.2 j (h1.2 j h)⟩
theorem useF_len (p : List SP) (k : Nat) (st : List Bool × List Bool) : (useF p k st).1.length = st.1.length ∧ (useF p k st).2.length = st.2.length := by
  induction k generalizing st with
  | zero => exact ⟨rfl, rfl⟩
  | succ k ih =>
    have h1 := useOne_len (p.getD k nilS) k st
    have h2 := ih (useOne (p.getD k nilS) k st)
    exact ⟨h2.1.trans h1.1, h2.2.trans h1.2⟩
/-- What is used leads on to what it hangs on. -/
def Leads (p : List SP) (U A : List Bool) (k : Nat) : Prop := ∀ h : k < p.length, U.getD k false = true → (p[k].1 = 1 → A.getD p[k].2.2.2.1.toNat false = true) ∧ (p[k].1 ≠ 1 → U.getD p[k].2.1.toNat false = true ∧ (p[k].1 = 4 ∨ p[k].1 = 5 → U.getD p[k].2.2.1.toNat false = true))
theorem useF_far {tb : List TB} {p : List SP} (h : planB tb p = true) (k : Nat) (hk : k ≤ p.length) (st : List Bool × List Bool) (j : Nat) (hj : k ≤ j) : (useF p k st).1.getD j false = st.1.getD j false := by
  induction k generalizing st with
  | zero => rfl
  | succ k ih =>
    rw [useF, ih (by omega) _ (by omega)]
    have hr := plan_refs h k (by omega)
    have e : p.getD k nilS = p[k] := getD_lt (by omega) _
    rw [e]
    unfold useOne
    split
    · rfl
    split
    · rfl
    · rename_i h1
      obtain ⟨ra, rb⟩ := hr.2 h1
      obtain ⟨a, ha, hla⟩ := inB_nat ra
      obtain ⟨b, hb, hlb⟩ := inB_nat rb
      rw [set_far (by omega), set_far (by omega)]
theorem useF_leads {tb : List TB} {p : List SP} (h : planB tb p = true) (k : Nat) (hk : k ≤ p.length) (st : List Bool × List Bool) (hl1 : st.1.length = p.length) (hl2 : st.2.length = tb.length) : ∀ j, j < k → Leads p (useF p k st).1 (useF p k st).2 j := by
  induction k generalizing st with
  | zero => intro j hj; omega
  | succ k ih =>
    intro j hj
    have hlen := useOne_len (p.getD k nilS) k st
    by_cases hjk : j < k
    · exact ih (by omega) (useOne (p.getD k nilS) k st) (by omega) (by omega) j hjk
    · obtain rfl : j = k := by omega
      intro hp hu
      have hr := plan_refs h j hp
      have e : p.getD j nilS = p[j] := getD_lt hp _
      rw [useF, e] at hu ⊢
      have hup := useF_up p j (useOne p[j] j st)
      rw [useF_far h j (by omega) _ j (Nat.le_refl _)] at hu
      have hst : st.1.getD j false = true := by
        have : (useOne p[j] j st).1.getD j false = st.1.getD j false := by
          unfold useOne
          split
          · rfl
          split
          · rfl
          · rename_i h1
            obtain ⟨ra, rb⟩ := hr.2 h1
            obtain ⟨a, ha, hla⟩ := inB_nat ra
            obtain ⟨b, hb, hlb⟩ := inB_nat rb
            rw [set_far (by omega), set_far (by omega)]
        rw [← this]; exact hu
      refine ⟨fun h1 => hup.2 _ ?_, fun h1 => ?_⟩
      · obtain ⟨n, hn, hln⟩ := inB_nat (hr.1 h1)
        unfold useOne
        rw [if_neg (by rw [hst]; simp), if_pos h1]
        exact set_at (by omega)
      · obtain ⟨ra, rb⟩ := hr.2 h1
        obtain ⟨a, ha, hla⟩ := inB_nat ra
        obtain ⟨b, hb, hlb⟩ := inB_nat rb
        have hO : useOne p[j] j st = ((st.1.set p[j].2.1.toNat true).set p[j].2.2.1.toNat ((st.1.set p[j].2.1.toNat true).getD p[j].2.2.1.toNat false || (decide (p[j].1 = 4) || decide (p[j].1 = 5))), st.2) := by
          unfold useOne
          rw [if_neg (by rw [hst]; simp), if_neg h1]
        refine ⟨hup.1 _ ?_, fun h45 => hup.1 _ ?_⟩
        · rw [hO]
          exact set_or (set_at (by omega))
        · rw [hO]
          simp only
          rw [set_at (by rw [List.length_set]; omega)]
          rcases h45 with h45 | h45 <;> simp [h45]
theorem use_final {tb : List TB} {p : List SP} (h : planB tb p = true) : (useF p p.length (use0 tb p)).1.getD (p.length - 1) false = true ∧ (askedI tb p).length = tb.length ∧ ∀ j, j < p.length → Leads p (useF p p.length (use0 tb p)).1 (askedI tb p) j := by
  obtain ⟨-, -, h1, -⟩ := planB_iff.1 h
  have l1 : (use0 tb p).1.length = p.length := by simp [use0]
  have l2 : (use0 tb p).2.length = tb.length := by simp [use0]
  refine ⟨(useF_up p p.length _).1 _ ?_, (useF_len p p.length _).2.trans l2, useF_leads h p.length (Nat.le_refl _) _ l1 l2⟩
  rw [use0]
  exact set_at (by simp; omega)
end Go.Proofs.Ytacinjbaebimhaa.Val
namespace Go.Proofs.Ytacinjbaebimhaa.Val
open Go.RowKit
set_option linter.unusedSimpArgs false
open List (Perm)
set_option linter.unusedVariables false
/-- The same tables, their rows in another order. -/
def PermT (tb tb' : List TB) : Prop := tb.length = tb'.length ∧ ∀ k, (tb.getD k ([], [])).1 = (tb'.getD k ([], [])).1 ∧ Perm (tb.getD k ([], [])).2 (tb'.getD k ([], [])).2
theorem PermT.symm {tb tb' : List TB} (h : PermT tb tb') : PermT tb' tb := ⟨h.1.symm, fun k => ⟨(h.2 k).1.symm, (h.2 k).2.symm⟩⟩
end Go.Proofs.Ytacinjbaebimhaa.Val
namespace Go.Proofs.Ytacinjbaebimhaa.Val
open Go.RowKit
set_option linter.unusedSimpArgs false
open List (Perm)
set_option linter.unusedVariables false
end Go.Proofs.Ytacinjbaebimhaa.Val
