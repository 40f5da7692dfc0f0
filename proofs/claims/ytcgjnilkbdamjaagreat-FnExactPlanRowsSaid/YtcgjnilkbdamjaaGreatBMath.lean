/- Bags of rows: how many, in order, each once, less: plain facts. -/
import Derived.Test.YtcgjnilkbdamjaaGreatRowX
import Derived.Test.YtcgjnilkbdamjaaGreatAMath
namespace Go.Proofs.YtcgjnilkbdamjaaGreat.Val
open Go.RowKit
open List (Perm)
set_option linter.unusedVariables false
abbrev RT := List VT
instance rtEq : BEq (List VT) := instBEqOfDecidableEq
instance rtLaw : LawfulBEq (List VT) := { eq_of_beq := fun h => of_decide_eq_true h, rfl := decide_eq_true rfl }
/-! ### The order of rows -/
theorem bytesLess_trans : ∀ (a b c : List UInt8), Op.bytesLess a b = true → Op.bytesLess b c = true → Op.bytesLess a c = true
  | _, [], _, h, _ => by cases ‹List UInt8› <;> simp [Op.bytesLess] at h
  | _, _ :: _, [], _, h => by simp [Op.bytesLess] at h
  | [], _ :: _, _ :: _, _, _ => rfl
  | x :: a, y :: b, z :: c, h, k => by
    simp only [Op.bytesLess, Bool.or_eq_true, Bool.and_eq_true, decide_eq_true_eq, beq_iff_eq] at h k ⊢
    rcases h with h | ⟨rfl, h⟩
    · rcases k with k | ⟨rfl, k⟩
      · left
        have h1 := UInt8.lt_iff_toNat_lt.1 h
        have h2 := UInt8.lt_iff_toNat_lt.1 k
        exact UInt8.lt_iff_toNat_lt.2 (by omega)
      · exact Or.inl h
    · rcases k with k | ⟨rfl, k⟩
      · exact Or.inl k
      · exact Or.inr ⟨rfl, bytesLess_trans a b c h k⟩
theorem cmpI_le (a b : ByteArray) : cmpI a b ≤ 0 ↔ (Op.bytesLess a.toList b.toList = true ∨ a.toList = b.toList) := by
  unfold cmpI
  by_cases h1 : Op.bytesLess a.toList b.toList = true
  · simp [h1]
  · by_cases h2 : a.toList = b.toList
    · rw [if_neg h1]; simp [h2]
    · rw [if_neg h1, if_neg (by simpa using h2)]; simp [h1, h2]
theorem cmpI_trans {a b c : ByteArray} (h : cmpI a b ≤ 0) (k : cmpI b c ≤ 0) : cmpI a c ≤ 0 := by
  rw [cmpI_le] at *
  rcases h with h | h
  · rcases k with k | k
    · exact Or.inl (bytesLess_trans _ _ _ h k)
    · rw [← k]; exact Or.inl h
  · rw [h]; exact k
theorem ordV_le_trans {x y z : VT} (h1 : okV x = true) (h2 : okV y = true) (h3 : okV z = true) (h : ordV x y ≤ 0) (k : ordV y z ≤ 0) : ordV x z ≤ 0 := by
  obtain ⟨k1, n1, s1⟩ := x
  obtain ⟨k2, n2, s2⟩ := y
  obtain ⟨k3, n3, s3⟩ := z
  simp only [okV] at h1 h2 h3
  simp only [ordV, ordI] at h k ⊢
  rw [if_neg (by simp [h1, h2])] at h
  rw [if_neg (by simp [h2, h3])] at k
  rw [if_neg (by simp [h1, h3])]
  by_cases e1 : k1 = k2
  · subst e1
    rw [if_neg (by simp)] at h
    by_cases e2 : k1 = k3
    · subst e2
      rw [if_neg (by simp)] at k ⊢
      by_cases f1 : n1 = n2
      · subst f1
        rw [if_neg (by simp)] at h
        by_cases f2 : n1 = n3
        · subst f2
          rw [if_neg (by simp)] at k ⊢
          exact cmpI_trans h k
        · rw [if_pos f2] at k ⊢; exact k
      · rw [if_pos f1] at h
        have g1 : ¬ n2 < n1 := by intro g; rw [if_pos g] at h; omega
        by_cases f2 : n2 = n3
        · subst f2; rw [if_pos f1, if_neg g1]; omega
        · rw [if_pos f2] at k
          have g2 : ¬ n3 < n2 := by intro g; rw [if_pos g] at k; omega
          rw [if_pos (by omega), if_neg (by omega)]; omega
    · rw [if_pos e2] at k ⊢; exact k
  · rw [if_pos e1] at h
    have g1 : ¬ k2 < k1 := by intro g; rw [if_pos g] at h; omega
    by_cases e2 : k2 = k3
    · subst e2; rw [if_pos e1, if_neg g1]; omega
    · rw [if_pos e2] at k
      have g2 : ¬ k3 < k2 := by intro g; rw [if_pos g] at k; omega
      rw [if_pos (by omega), if_neg (by omega)]; omega
theorem lexI_le_trans : ∀ (a b c : List VT), a.all okV = true → b.all okV = true → c.all okV = true → lexI a b ≤ 0 → lexI b c ≤ 0 → lexI a c ≤ 0
  | [], _, [], _, _, _, _, _ => by simp [lexI]
  | [], _, _ :: _, _, _, _, _, _ => by simp [lexI]
  | _ :: _, [], _, _, _, _, h, _ => by simp [lexI] at h
  | _ :: _, _ :: _, [], _, _, _, _, k => by simp [lexI] at k
  | x :: a, y :: b, z :: c, h1, h2, h3, h, k => by
    simp only [List.all_cons, Bool.and_eq_true] at h1 h2 h3
    simp only [lexI] at h k ⊢
    have hxy : ordV x y ≤ 0 := by by_cases e : ordV x y = 0 <;> simp_all
    have hyz : ordV y z ≤ 0 := by by_cases e : ordV y z = 0 <;> simp_all
    have hxz := ordV_le_trans h1.1 h2.1 h3.1 hxy hyz
    by_cases e : ordV x z = 0
    · rw [if_pos e]
      have e' := (ordV_zero x z h1.1 h3.1).1 e
      subst e'
      have t := ordV_turn x y
      have hy0 : ordV x y = 0 := by omega
      have e'' := (ordV_zero x y h1.1 h2.1).1 hy0
      subst e''
      rw [if_pos hy0] at h
      rw [if_pos hy0] at k
      exact lexI_le_trans a b c h1.2 h2.2 h3.2 h k
    · rw [if_neg e]; exact hxz
theorem rowI_le_trans {a b c : RT} (h1 : rowB a = true) (h2 : rowB b = true) (h3 : rowB c = true) (h : rowI a b ≤ 0) (k : rowI b c ≤ 0) : rowI a c ≤ 0 := by
  rw [rowI, if_pos ⟨‹_›, ‹_›⟩] at *
  exact lexI_le_trans a b c (rowB_all h1) (rowB_all h2) (rowB_all h3) h k
/-! ### In order -/
/-- Where a row goes: behind the last one of the first k that does not come behind it. -/
def posI (ls : List RT) (r : RT) : Nat → Nat
  | 0 => 0
  | k + 1 => if 0 < rowI (ls.getD k []) r then posI ls r k else k + 1
theorem posI_le (ls : List RT) (r : RT) (k : Nat) : posI ls r k ≤ k := by
  induction k with
  | zero => exact Nat.le_refl _
  | succ k ih => simp only [posI]; split <;> omega
theorem posI_at (ls : List RT) (r : RT) (k p : Nat) (h : posI ls r k = p + 1) : rowI (ls.getD p []) r ≤ 0 := by
  induction k with
  | zero => simp [posI] at h
  | succ k ih =>
    simp only [posI] at h
    split at h
    · exact ih h
    · rename_i hn
      obtain rfl : k = p := by omega
      omega
theorem posI_behind (ls : List RT) (r : RT) (k : Nat) : posI ls r k < k → 0 < rowI (ls.getD (posI ls r k) []) r := by
  induction k with
  | zero => intro h; simp [posI] at h
  | succ k ih =>
    intro h
    simp only [posI] at h ⊢
    by_cases e : 0 < rowI (ls.getD k []) r
    · rw [if_pos e]
      by_cases f : posI ls r k < k
      · exact ih f
      · have := posI_le ls r k
        rw [show posI ls r k = k by omega]; exact e
    · rw [if_neg e] at h; omega
def insL {α : Type} (l : List α) (p : Nat) (x : α) : List α := l.take p ++ x :: l.drop p
theorem insL_len {α : Type} (l : List α) (p : Nat) (x : α) : (insL l p x).length = l.length + 1 := by
  simp [insL]; omega
theorem insL_perm {α : Type} (l : List α) (p : Nat) (x : α) : Perm (insL l p x) (x :: l) := by
  unfold insL
  refine (List.perm_middle).trans ?_
  rw [List.take_append_drop]
theorem insL_map {α β : Type} (f : α → β) (l : List α) (p : Nat) (x : α) : (insL l p x).map f = insL (l.map f) p (f x) := by
  simp [insL, List.map_take, List.map_drop]
theorem insL_get {α : Type} (l : List α) (p : Nat) (x : α) (hp : p ≤ l.length) (k : Nat) : (insL l p x)[k]? = if k < p then l[k]? else if k = p then some x else l[k - 1]? := by
  have hl : (l.take p).length = p := by simp; omega
  unfold insL
  by_cases h1 : k < p
  · rw [if_pos h1, List.getElem?_append_left (by omega), List.getElem?_take, if_pos h1]
  · rw [if_neg h1, List.getElem?_append_right (by omega), hl]
    by_cases h2 : k = p
    · subst h2; simp
    · rw [if_neg h2]
      obtain ⟨j, hj⟩ : ∃ j, k - p = j + 1 := ⟨k - p - 1, by omega⟩
      rw [hj, List.getElem?_cons_succ, List.getElem?_drop]
      congr 1; omega
def putI (ls : List RT) (r : RT) : List RT := insL ls (posI ls r ls.length) r
def sortI (ls : List RT) : List RT := ls.foldl putI []
theorem fold_take {α β : Type} (f : β → α → β) (b : β) (l : List α) (k : Nat) (h : k < l.length) : (l.take (k + 1)).foldl f b = f ((l.take k).foldl f b) l[k] := by
  rw [List.take_succ_eq_append_getElem h, List.foldl_append]; rfl
theorem sortI_snoc (l : List RT) (k : Nat) (h : k < l.length) : sortI (l.take (k + 1)) = putI (sortI (l.take k)) l[k] := fold_take _ _ _ _ h
theorem putI_len (ls : List RT) (r : RT) : (putI ls r).length = ls.length + 1 := insL_len _ _ _
theorem putI_perm (ls : List RT) (r : RT) : Perm (putI ls r) (r :: ls) := insL_perm _ _ _
theorem fold_put_perm (l o : List RT) : Perm (l.foldl putI o) (o ++ l) := by
  induction l generalizing o with
  | nil => simp
  | cons r l ih =>
    refine (ih _).trans (((putI_perm o r).append_right l).trans ?_)
    exact (List.perm_middle).symm
theorem sortI_perm (l : List RT) : Perm (sortI l) l := fold_put_perm l []
theorem sortI_len (l : List RT) : (sortI l).length = l.length := (sortI_perm l).length_eq
/-- No row comes behind the next one. -/
def Adj (l : List RT) : Prop := ∀ k a b, l[k]? = some a → l[k + 1]? = some b → rowI a b ≤ 0
theorem adj_put {l : List RT} (h : Adj l) (r : RT) : Adj (putI l r) := by
  have hp := posI_le l r l.length
  intro k a b ha hb
  rw [putI, insL_get _ _ _ hp] at ha hb
  by_cases h1 : k + 1 < posI l r l.length
  · rw [if_pos (by omega)] at ha
    rw [if_pos h1] at hb
    exact h k a b ha hb
  · rw [if_neg h1] at hb
    by_cases h2 : k + 1 = posI l r l.length
    · rw [if_pos h2] at hb
      rw [if_pos (by omega)] at ha
      obtain rfl := Option.some.inj hb
      have := posI_at l r l.length k h2.symm
      rwa [List.getD_eq_getElem?_getD, ha] at this
    · rw [if_neg h2] at hb
      rw [if_neg (by omega)] at ha
      by_cases h3 : k = posI l r l.length
      · rw [if_pos h3] at ha
        obtain rfl := Option.some.inj ha
        have hk : k < l.length := (List.getElem?_eq_some_iff.1 hb).1
        have := posI_behind l r l.length (by omega)
        rw [← h3, List.getD_eq_getElem?_getD, show l[k]? = some b by simpa using hb] at this
        have t := rowI_turn b r
        simp at this
        omega
      · rw [if_neg h3] at ha
        exact h (k - 1) a b ha (by rw [show k - 1 + 1 = k by omega]; simpa using hb)
theorem adj_nil : Adj [] := fun k a b h => by simp at h
theorem adj_fold (l o : List RT) (h : Adj o) : Adj (l.foldl putI o) := by
  induction l generalizing o with
  | nil => exact h
  | cons r l ih => exact ih _ (adj_put h r)
theorem adj_sort (l : List RT) : Adj (sortI l) := adj_fold l [] adj_nil
theorem sort_adj_take {l : List RT} (h : Adj l) (k : Nat) (hk : k ≤ l.length) : sortI (l.take k) = l.take k := by
  induction k with
  | zero => rfl
  | succ k ih =>
    rw [sortI_snoc l k (by omega), ih (by omega)]
    have hlen : (l.take k).length = k := by simp; omega
    have hpos : posI (l.take k) l[k] (l.take k).length = k := by
      rw [hlen]
      cases k with
      | zero => rfl
      | succ k =>
        simp only [posI]
        rw [if_neg]
        have hg : (l.take (k + 1))[k]? = some l[k] := by rw [List.getElem?_take, if_pos (by omega)]; exact List.getElem?_eq_getElem _
        rw [List.getD_eq_getElem?_getD, hg]
        have := h k l[k] l[k + 1] (List.getElem?_eq_getElem _) (List.getElem?_eq_getElem _)
        simp; omega
    rw [putI, hpos, insL, List.take_of_length_le (by omega), List.drop_eq_nil_of_le (by omega), ← List.take_succ_eq_append_getElem]
theorem sort_sort (l : List RT) : sortI (sortI l) = sortI l := by
  have := sort_adj_take (adj_sort l) (sortI l).length (Nat.le_refl _)
  rwa [List.take_length] at this
theorem adj_pairwise {l : List RT} (h : Adj l) (hok : ∀ r ∈ l, rowB r = true) : l.Pairwise (fun a b => rowI a b ≤ 0) := by
  induction l with
  | nil => exact List.Pairwise.nil
  | cons a l ih =>
    have h' : Adj l := fun k x y hx hy => h (k + 1) x y (by simpa using hx) (by simpa using hy)
    have hp := ih h' (fun r hr => hok r (List.mem_cons_of_mem _ hr))
    refine List.Pairwise.cons (fun b hb => ?_) hp
    cases l with
    | nil => simp at hb
    | cons c l =>
      have hac := h 0 a c (by simp) (by simp)
      rcases List.mem_cons.1 hb with rfl | hb
      · exact hac
      · have hcb := (List.pairwise_cons.1 hp).1 b hb
        exact rowI_le_trans (hok a (by simp)) (hok c (by simp)) (hok b (by simp [hb])) hac hcb
/-- Rows that are rows are the same bag just if they are in order the same. -/
theorem perm_sort {a b : List RT} (ha : ∀ r ∈ a, rowB r = true) (hb : ∀ r ∈ b, rowB r = true) : Perm a b ↔ sortI a = sortI b := by
  refine ⟨fun h => ?_, fun h => (sortI_perm a).symm.trans (h ▸ sortI_perm b)⟩
  have ha' : ∀ r ∈ sortI a, rowB r = true := fun r hr => ha r ((sortI_perm a).mem_iff.1 hr)
  have hb' : ∀ r ∈ sortI b, rowB r = true := fun r hr => hb r ((sortI_perm b).mem_iff.1 hr)
  refine List.Perm.eq_of_pairwise (fun x y hx hy h1 h2 => ?_) (adj_pairwise (adj_sort a) ha') (adj_pairwise (adj_sort b) hb') ((sortI_perm a).trans (h.trans (sortI_perm b).symm))
  have t := rowI_turn x y
  exact (rowI_zero x y (ha' x hx) (hb' y hy)).1 (by omega)
/-! ### The same bag -/
def bagB (a b : List RT) : Bool := decide (a.length = b.length) && a.all fun x => decide (a.count x = b.count x)
theorem count_sub {a b : List RT} (h : ∀ x, x ∈ a → a.count x ≤ b.count x) : ∃ c, Perm b (a ++ c) := by
  induction a generalizing b with
  | nil => exact ⟨b, Perm.refl _⟩
  | cons x a ih =>
    have hx : x ∈ b := List.count_pos_iff.1 (by have := h x (by simp); rw [List.count_cons_self] at this; omega)
    have hp := List.perm_cons_erase hx
    obtain ⟨c, hc⟩ := ih (b := b.erase x) (fun y hy => by
      have h1 := h y (List.mem_cons_of_mem _ hy)
      rw [hp.count_eq, List.count_cons, List.count_cons] at h1
      omega)
    exact ⟨c, hp.trans (hc.cons x)⟩
theorem bagB_iff (a b : List RT) : bagB a b = true ↔ Perm a b := by
  unfold bagB
  simp only [Bool.and_eq_true, decide_eq_true_eq, List.all_eq_true]
  constructor
  · rintro ⟨hl, hc⟩
    obtain ⟨c, hp⟩ := count_sub (a := a) (b := b) (fun x hx => Nat.le_of_eq (hc x hx))
    have := hp.length_eq
    rw [List.length_append] at this
    obtain rfl : c = [] := List.eq_nil_of_length_eq_zero (by omega)
    rw [List.append_nil] at hp
    exact hp.symm
  · intro h
    exact ⟨h.length_eq, fun x _ => h.count_eq x⟩
theorem bagB_turn (a b : List RT) : bagB a b = bagB b a := by
  rw [Bool.eq_iff_iff, bagB_iff, bagB_iff]
  exact ⟨Perm.symm, Perm.symm⟩
theorem bagB_sort (a : List RT) : bagB (sortI a) a = true := (bagB_iff _ _).2 (sortI_perm a)
/-! ### Each row once -/
def onceF (o : List RT) (r : RT) : List RT := if o.count r = 0 then o ++ [r] else o
def onceI (l : List RT) : List RT := l.foldl onceF []
theorem onceI_snoc (l : List RT) (k : Nat) (h : k < l.length) : onceI (l.take (k + 1)) = onceF (onceI (l.take k)) l[k] := fold_take _ _ _ _ h
theorem onceF_mem {o : List RT} {r x : RT} : x ∈ onceF o r ↔ x ∈ o ∨ x = r := by
  unfold onceF; split
  · simp
  · rename_i h
    have : r ∈ o := List.count_pos_iff.1 (by omega)
    constructor
    · exact Or.inl
    · rintro (h | rfl)
      · exact h
      · exact this
theorem onceF_nodup {o : List RT} (h : o.Nodup) (r : RT) : (onceF o r).Nodup := by
  unfold onceF; split
  · rename_i h0
    have hr : r ∉ o := List.count_eq_zero.1 h0
    rw [List.nodup_append]
    exact ⟨h, by simp, fun a ha b hb => by simp at hb; subst hb; intro e; subst e; exact hr ha⟩
  · exact h
theorem once_fold (l o : List RT) (h : o.Nodup) : (l.foldl onceF o).Nodup ∧ ∀ x, x ∈ l.foldl onceF o ↔ x ∈ o ∨ x ∈ l := by
  induction l generalizing o with
  | nil => exact ⟨h, fun x => by simp⟩
  | cons r l ih =>
    obtain ⟨h1, h2⟩ := ih _ (onceF_nodup h r)
    refine ⟨h1, fun x => ?_⟩
    rw [List.foldl_cons, h2, onceF_mem, List.mem_cons, or_assoc]
theorem once_nodup (l : List RT) : (onceI l).Nodup := (once_fold l [] (by simp)).1
theorem once_mem (l : List RT) (x : RT) : x ∈ onceI l ↔ x ∈ l := by rw [onceI, (once_fold l [] (by simp)).2]; simp
theorem nodup_count {l : List RT} (h : l.Nodup) {x : RT} (hx : x ∈ l) : l.count x = 1 := by
  have h1 := List.nodup_iff_count.1 h x
  have h2 := List.count_pos_iff.2 hx
  omega
theorem once_fix_fold (l o : List RT) (h : (o ++ l).Nodup) : l.foldl onceF o = o ++ l := by
  induction l generalizing o with
  | nil => simp
  | cons r l ih =>
    have hr : r ∉ o := fun hr => by
      rw [List.nodup_append] at h
      exact h.2.2 r hr r (by simp) rfl
    rw [List.foldl_cons, onceF, if_pos (List.count_eq_zero.2 hr), ih _ (by simpa using h)]
    simp
theorem once_once (l : List RT) : onceI (onceI l) = onceI l := by
  have := once_fix_fold (onceI l) [] (by simpa using once_nodup l)
  simpa [onceI] using this
theorem once_len_le (l o : List RT) : (l.foldl onceF o).length ≤ o.length + l.length := by
  induction l generalizing o with
  | nil => simp
  | cons r l ih =>
    have h1 := ih (onceF o r)
    have h2 : (onceF o r).length ≤ o.length + 1 := by unfold onceF; split <;> simp
    simp only [List.foldl_cons, List.length_cons]; omega
theorem once_len (l : List RT) : (onceI l).length ≤ l.length := by
  have := once_len_le l []
  simp only [List.length_nil] at this
  show (l.foldl onceF []).length ≤ _
  omega
/-- How many of rows are one of others. -/
def sumC (o l : List RT) : Nat := (o.map fun x => l.count x).sum
theorem sumC_cons (o l : List RT) (r : RT) : sumC o (r :: l) = sumC o l + o.count r := by
  induction o with
  | nil => rfl
  | cons x o ih =>
    simp only [sumC, List.map_cons, List.sum_cons] at ih ⊢
    rw [ih, List.count_cons, List.count_cons]
    have e : (r == x) = (x == r) := by rw [Bool.eq_iff_iff, beq_iff_eq, beq_iff_eq]; exact ⟨Eq.symm, Eq.symm⟩
    rw [e]; omega
theorem sumC_nil (o : List RT) : sumC o [] = 0 := by
  induction o with
  | nil => rfl
  | cons x o ih =>
    simp only [sumC, List.map_cons, List.sum_cons, List.count_nil] at ih ⊢
    omega
theorem sumC_nodup {o : List RT} (h : o.Nodup) (l : List RT) (hl : ∀ x ∈ l, x ∈ o) : sumC o l = l.length := by
  induction l with
  | nil => rw [sumC_nil]; rfl
  | cons r l ih =>
    rw [sumC_cons, ih (fun x hx => hl x (List.mem_cons_of_mem _ hx)), nodup_count h (hl r List.mem_cons_self)]
    rfl
theorem sum_once (l : List RT) : sumC (onceI l) l = l.length := sumC_nodup (once_nodup l) l (fun x hx => (once_mem l x).2 hx)
theorem sumC_snoc (o l : List RT) (k : Nat) (h : k < o.length) : sumC (o.take (k + 1)) l = sumC (o.take k) l + l.count o[k] := by
  rw [sumC, List.take_succ_eq_append_getElem h, List.map_append, List.sum_append]; simp [sumC]
/-! ### Less -/
/-- What is left of the first k rows. -/
def lessN (a b : List RT) : Nat → List RT
  | 0 => []
  | k + 1 => if b.count (a.getD k []) ≤ (a.take k).count (a.getD k []) then lessN a b k ++ [a.getD k []] else lessN a b k
def lessI (a b : List RT) : List RT := lessN a b a.length
/-- What went of the first k rows. -/
def goneN (a b : List RT) : Nat → List RT
  | 0 => []
  | k + 1 => if b.count (a.getD k []) ≤ (a.take k).count (a.getD k []) then goneN a b k else goneN a b k ++ [a.getD k []]
theorem take_getD {a : List RT} {k : Nat} (h : k < a.length) : a.take (k + 1) = a.take k ++ [a.getD k []] := by
  rw [List.take_succ_eq_append_getElem h, List.getD_eq_getElem?_getD, List.getElem?_eq_getElem h]; rfl
theorem gone_count (a b : List RT) (k : Nat) (hk : k ≤ a.length) (x : RT) : (goneN a b k).count x = min ((a.take k).count x) (b.count x) := by
  induction k with
  | zero => simp [goneN]
  | succ k ih =>
    have ih := ih (by omega)
    rw [take_getD (by omega)]
    simp only [goneN]
    obtain ⟨y, hy⟩ : ∃ y, a.getD k [] = y := ⟨_, rfl⟩
    rw [hy]
    by_cases h : b.count y ≤ (a.take k).count y
    · rw [if_pos h, ih, List.count_append, List.count_singleton]
      by_cases e : y = x
      · subst e; rw [show (y == y) = true by simp, if_pos rfl]; omega
      · rw [show (y == x) = false by simpa using e]; simp
    · rw [if_neg h, List.count_append, ih, List.count_append, List.count_singleton]
      by_cases e : y = x
      · subst e; rw [show (y == y) = true by simp, if_pos rfl]; omega
      · rw [show (y == x) = false by simpa using e]; simp
theorem gone_less (a b : List RT) (k : Nat) (hk : k < a.length) : (goneN a b k).count a[k] < b.count a[k] ↔ ¬ b.count a[k] ≤ (a.take k).count a[k] := by
  rw [gone_count a b k (by omega)]; omega
theorem less_gone (a b : List RT) (k : Nat) (hk : k ≤ a.length) (x : RT) : (lessN a b k).count x + (goneN a b k).count x = (a.take k).count x := by
  induction k with
  | zero => simp [lessN, goneN]
  | succ k ih =>
    have ih := ih (by omega)
    rw [take_getD (by omega)]
    simp only [lessN, goneN]
    by_cases h : b.count (a.getD k []) ≤ (a.take k).count (a.getD k [])
    · rw [if_pos h, if_pos h, List.count_append, List.count_append]; omega
    · rw [if_neg h, if_neg h, List.count_append, List.count_append]; omega
theorem less_count (a b : List RT) (x : RT) : (lessI a b).count x = a.count x - b.count x := by
  have h1 := less_gone a b a.length (Nat.le_refl _) x
  have h2 := gone_count a b a.length (Nat.le_refl _) x
  rw [List.take_length] at h1 h2
  unfold lessI; omega
theorem lessN_len (a b : List RT) (k : Nat) : (lessN a b k).length ≤ k := by
  induction k with
  | zero => simp [lessN]
  | succ k ih =>
    simp only [lessN]; split
    · rw [List.length_append]; simp only [List.length_singleton]; omega
    · omega
theorem lessI_len (a b : List RT) : (lessI a b).length ≤ a.length := lessN_len _ _ _
theorem goneN_len (a b : List RT) (k : Nat) : (goneN a b k).length ≤ k := by
  induction k with
  | zero => simp [goneN]
  | succ k ih =>
    simp only [goneN]; split
    · omega
    · rw [List.length_append]; simp only [List.length_singleton]; omega
theorem less_joined (a b : List RT) : bagB (lessI (a ++ b) b) a = true := by
  rw [bagB_iff, List.perm_iff_count]
  intro x
  rw [less_count, List.count_append]; omega
theorem lessN_snoc (a b : List RT) (k : Nat) (h : k < a.length) : lessN a b (k + 1) = if b.count a[k] ≤ (a.take k).count a[k] then lessN a b k ++ [a[k]] else lessN a b k := by
  have e : a.getD k [] = a[k] := by rw [List.getD_eq_getElem?_getD, List.getElem?_eq_getElem h]; rfl
  simp only [lessN, e]
theorem goneN_snoc (a b : List RT) (k : Nat) (h : k < a.length) : goneN a b (k + 1) = if b.count a[k] ≤ (a.take k).count a[k] then goneN a b k else goneN a b k ++ [a[k]] := by
  have e : a.getD k [] = a[k] := by rw [List.getD_eq_getElem?_getD, List.getElem?_eq_getElem h]; rfl
  simp only [goneN, e]
theorem less_mem (a b : List RT) (k : Nat) (hk : k ≤ a.length) (x : RT) (h : x ∈ lessN a b k) : x ∈ a := by
  induction k with
  | zero => simp [lessN] at h
  | succ k ih =>
    rw [lessN_snoc a b k (by omega)] at h
    split at h
    · rcases List.mem_append.1 h with h | h
      · exact ih (by omega) h
      · simp at h; subst h; exact List.getElem_mem _
    · exact ih (by omega) h
/-! ### All values of rows -/
def total (l : List RT) : Nat := (l.map List.length).sum
theorem total_perm {a b : List RT} (h : Perm a b) : total a = total b := (h.map _).sum_nat
theorem total_sort (l : List RT) : total (sortI l) = total l := total_perm (sortI_perm l)
theorem total_sub {a b : List RT} (h : ∀ x, a.count x ≤ b.count x) : total a ≤ total b := by
  obtain ⟨c, hc⟩ := count_sub (a := a) (b := b) (fun x _ => h x)
  rw [total_perm hc, total, total, List.map_append, List.sum_append]; omega
theorem total_once (l : List RT) : total (onceI l) ≤ total l := total_sub fun x => by
  by_cases h : x ∈ onceI l
  · rw [nodup_count (once_nodup l) h]
    exact List.count_pos_iff.2 ((once_mem l x).1 h)
  · rw [List.count_eq_zero.2 h]; omega
theorem total_less (a b : List RT) : total (lessI a b) ≤ total a := total_sub fun x => by rw [less_count]; omega
end Go.Proofs.YtcgjnilkbdamjaaGreat.Val
