/- Bags of rows: how many, in order, each once, less: plain facts; Rows of rows: headers that lie; rows of headers of one's own over rows of one's own; How many of rows are a row: rowIs, l3Same, RowMany; A row of one's own with the values of another one (rowCopy, l3Own); RowsOnce, both sides; SameBag, RowsOk, both sides. -/
import Derived.Test.YtjidkjnlnenmbaaRowX
import Derived.Test.YtjidkjnlnenmbaaAMath
import Derived.Test.YtjidkjnlnenmbaaOwnK
import Derived.Test.YtjidkjnlnenmbaaAppB
import Derived.Test.YtjidkjnlnenmbaaRowF
import Derived.Deep.RegionHeldLaw
namespace Go.Proofs.Ytjidkjnlnenmbaa.Val
open Go.RowKit
open List (Perm)
set_option linter.unusedVariables false
abbrev RT := List VT
instance rtEq : BEq (List VT) := instBEqOfDecidableEq
instance rtLaw : LawfulBEq (List VT) := { eq_of_beq := fun h => of_decide_eq_true h, rfl := decide_eq_true rfl }
/-! ### The order of rows -/
theorem bytesLess_trans : ∀ (a b c : List UInt8), Op.bytesLess a b = true → Op.bytesLess b c = true → Op.bytesLess a c = true
  | _, [], _, h, _ => by cases ‹List UInt8› <;> simp [Op.bytesLess] at h
  | _, _ :: _, [], _, h => by simp [Op.bytesLess] at h
  | [], _ :: _, _ :: _, _, _ => rfl
  | x :: a, y :: b, z :: c, h, k => by
    simp only [Op.bytesLess, Bool.or_eq_true, Bool.and_eq_true, decide_eq_true_eq, beq_iff_eq] at h k ⊢
    rcases h with h | ⟨rfl, h⟩
    · rcases k with k | ⟨rfl, k⟩
      · left
        have h1 := UInt8.lt_iff_toNat_lt.1 h
        have h2 := UInt8.lt_iff_toNat_lt.1 k
        exact UInt8.lt_iff_toNat_lt.2 (by omega)
      · exact Or.inl h
    · rcases k with k | ⟨rfl, k⟩
      · exact Or.inl k
      · exact Or.inr ⟨rfl, bytesLess_trans a b c h k⟩
theorem cmpI_le (a b : ByteArray) : cmpI a b ≤ 0 ↔ (Op.bytesLess a.toList b.toList = true ∨ a.toList = b.toList) := by
  unfold cmpI
  by_cases h1 : Op.bytesLess a.toList b.toList = true
  · simp [h1]
  · by_cases h2 : a.toList = b.toList
    · rw [if_neg h1]; simp [h2]
    · rw [if_neg h1, if_neg (by simpa using h2)]; simp [h1, h2]
theorem cmpI_trans {a b c : ByteArray} (h : cmpI a b ≤ 0) (k : cmpI b c ≤ 0) : cmpI a c ≤ 0 := by
  rw [cmpI_le] at *
  rcases h with h | h
  · rcases k with k | k
    · exact Or.inl (bytesLess_trans _ _ _ h k)
    · rw [← k]; exact Or.inl h
  · rw [h]; exact k
theorem ordV_le_trans {x y z : VT} (h1 : okV x = true) (h2 : okV y = true) (h3 : okV z = true) (h : ordV x y ≤ 0) (k : ordV y z ≤ 0) : ordV x z ≤ 0 := by
  obtain ⟨k1, n1, s1⟩ := x
  obtain ⟨k2, n2, s2⟩ := y
  obtain ⟨k3, n3, s3⟩ := z
  simp only [okV] at h1 h2 h3
  simp only [ordV, ordI] at h k ⊢
  rw [if_neg (by simp [h1, h2])] at h
  rw [if_neg (by simp [h2, h3])] at k
  rw [if_neg (by simp [h1, h3])]
  by_cases e1 : k1 = k2
  · subst e1
    rw [if_neg (by simp)] at h
    by_cases e2 : k1 = k3
    · subst e2
      rw [if_neg (by simp)] at k ⊢
      by_cases f1 : n1 = n2
      · subst f1
        rw [if_neg (by simp)] at h
        by_cases f2 : n1 = n3
        · subst f2
          rw [if_neg (by simp)] at k ⊢
          exact cmpI_trans h k
        · rw [if_pos f2] at k ⊢; exact k
      · rw [if_pos f1] at h
        have g1 : ¬ n2 < n1 := by intro g; rw [if_pos g] at h; omega
        by_cases f2 : n2 = n3
        · subst f2; rw [if_pos f1, if_neg g1]; omega
        · rw [if_pos f2] at k
          have g2 : ¬ n3 < n2 := by intro g; rw [if_pos g] at k; omega
          rw [if_pos (by omega), if_neg (by omega)]; omega
    · rw [if_pos e2] at k ⊢; exact k
  · rw [if_pos e1] at h
    have g1 : ¬ k2 < k1 := by intro g; rw [if_pos g] at h; omega
    by_cases e2 : k2 = k3
    · subst e2; rw [if_pos e1, if_neg g1]; omega
    · rw [if_pos e2] at k
      have g2 : ¬ k3 < k2 := by intro g; rw [if_pos g] at k; omega
      rw [if_pos (by omega), if_neg (by omega)]; omega
theorem lexI_le_trans : ∀ (a b c : List VT), a.all okV = true → b.all okV = true → c.all okV = true → lexI a b ≤ 0 → lexI b c ≤ 0 → lexI a c ≤ 0
  | [], _, [], _, _, _, _, _ => by simp [lexI]
  | [], _, _ :: _, _, _, _, _, _ => by simp [lexI]
  | _ :: _, [], _, _, _, _, h, _ => by simp [lexI] at h
  | _ :: _, _ :: _, [], _, _, _, _, k => by simp [lexI] at k
  | x :: a, y :: b, z :: c, h1, h2, h3, h, k => by
    simp only [List.all_cons, Bool.and_eq_true] at h1 h2 h3
    simp only [lexI] at h k ⊢
    have hxy : ordV x y ≤ 0 := by by_cases e : ordV x y = 0 <;> simp_all
    have hyz : ordV y z ≤ 0 := by by_cases e : ordV y z = 0 <;> simp_all
    have hxz := ordV_le_trans h1.1 h2.1 h3.1 hxy hyz
    by_cases e : ordV x z = 0
    · rw [if_pos e]
      have e' := (ordV_zero x z h1.1 h3.1).1 e
      subst e'
      have t := ordV_turn x y
      have hy0 : ordV x y = 0 := by omega
      have e'' := (ordV_zero x y h1.1 h2.1).1 hy0
      subst e''
      rw [if_pos hy0] at h
      rw [if_pos hy0] at k
      exact lexI_le_trans a b c h1.2 h2.2 h3.2 h k
    · rw [if_neg e]; exact hxz
theorem rowI_le_trans {a b c : RT} (h1 : rowB a = true) (h2 : rowB b = true) (h3 : rowB c = true) (h : rowI a b ≤ 0) (k : rowI b c ≤ 0) : rowI a c ≤ 0 := by
  rw [rowI, if_pos ⟨‹_›, ‹_›⟩] at *
  exact lexI_le_trans a b c (rowB_all h1) (rowB_all h2) (rowB_all h3) h k
/-! ### In order -/
/-- Where a row goes: behind the last one of the first k that does not come behind it. -/
def posI (ls : List RT) (r : RT) : Nat → Nat
  | 0 => 0
  | k + 1 => if 0 < rowI (ls.getD k []) r then posI ls r k else k + 1
theorem posI_le (ls : List RT) (r : RT) (k : Nat) : posI ls r k ≤ k := by
  induction k with
  | zero => exact Nat.le_refl _
  | succ k ih => simp only [posI]; split <;> omega
theorem posI_at (ls : List RT) (r : RT) (k p : Nat) (h : posI ls r k = p + 1) : rowI (ls.getD p []) r ≤ 0 := by
  induction k with
  | zero => simp [posI] at h
  | succ k ih =>
    simp only [posI] at h
    split at h
    · exact ih h
    · rename_i hn
      obtain rfl : k = p := by omega
      omega
theorem posI_behind (ls : List RT) (r : RT) (k : Nat) : posI ls r k < k → 0 < rowI (ls.getD (posI ls r k) []) r := by
  induction k with
  | zero => intro h; simp [posI] at h
  | succ k ih =>
    intro h
    simp only [posI] at h ⊢
    by_cases e : 0 < rowI (ls.getD k []) r
    · rw [if_pos e]
      by_cases f : posI ls r k < k
      · exact ih f
      · have := posI_le ls r k
        rw [show posI ls r k = k by omega]; exact e
    · rw [if_neg e] at h; omega
def insL {α : Type} (l : List α) (p : Nat) (x : α) : List α := l.take p ++ x :: l.drop p
theorem insL_len {α : Type} (l : List α) (p : Nat) (x : α) : (insL l p x).length = l.length + 1 := by
  simp [insL]; omega
theorem insL_perm {α : Type} (l : List α) (p : Nat) (x : α) : Perm (insL l p x) (x :: l) := by
  unfold insL
  refine (List.perm_middle).trans ?_
  rw [List.take_append_drop]
theorem insL_map {α β : Type} (f : α → β) (l : List α) (p : Nat) (x : α) : (insL l p x).map f = insL (l.map f) p (f x) := by
  simp [insL, List.map_take, List.map_drop]
theorem insL_get {α : Type} (l : List α) (p : Nat) (x : α) (hp : p ≤ l.length) (k : Nat) : (insL l p x)[k]? = if k < p then l[k]? else if k = p then some x else l[k - 1]? := by
  have hl : (l.take p).length = p := by simp; omega
  unfold insL
  by_cases h1 : k < p
  · rw [if_pos h1, List.getElem?_append_left (by omega), List.getElem?_take, if_pos h1]
  · rw [if_neg h1, List.getElem?_append_right (by omega), hl]
    by_cases h2 : k = p
    · subst h2; simp
    · rw [if_neg h2]
      obtain ⟨j, hj⟩ : ∃ j, k - p = j + 1 := ⟨k - p - 1, by omega⟩
      rw [hj, List.getElem?_cons_succ, List.getElem?_drop]
      congr 1; omega
def putI (ls : List RT) (r : RT) : List RT := insL ls (posI ls r ls.length) r
def sortI (ls : List RT) : List RT := ls.foldl putI []
theorem fold_take {α β : Type} (f : β → α → β) (b : β) (l : List α) (k : Nat) (h : k < l.length) : (l.take (k + 1)).foldl f b = f ((l.take k).foldl f b) l[k] := by
  rw [List.take_succ_eq_append_getElem h, List.foldl_append]; rfl
theorem sortI_snoc (l : List RT) (k : Nat) (h : k < l.length) : sortI (l.take (k + 1)) = putI (sortI (l.take k)) l[k] := fold_take _ _ _ _ h
theorem putI_len (ls : List RT) (r : RT) : (putI ls r).length = ls.length + 1 := insL_len _ _ _
theorem putI_perm (ls : List RT) (r : RT) : Perm (putI ls r) (r :: ls) := insL_perm _ _ _
theorem fold_put_perm (l o : List RT) : Perm (l.foldl putI o) (o ++ l) := by
  induction l generalizing o with
  | nil => simp
  | cons r l ih =>
    refine (ih _).trans (((putI_perm o r).append_right l).trans ?_)
    exact (List.perm_middle).symm
theorem sortI_perm (l : List RT) : Perm (sortI l) l := fold_put_perm l []
theorem sortI_len (l : List RT) : (sortI l).length = l.length := (sortI_perm l).length_eq
/-- No row comes behind the next one. -/
def Adj (l : List RT) : Prop := ∀ k a b, l[k]? = some a → l[k + 1]? = some b → rowI a b ≤ 0
theorem adj_put {l : List RT} (h : Adj l) (r : RT) : Adj (putI l r) := by
  have hp := posI_le l r l.length
  intro k a b ha hb
  rw [putI, insL_get _ _ _ hp] at ha hb
  by_cases h1 : k + 1 < posI l r l.length
  · rw [if_pos (by omega)] at ha
    rw [if_pos h1] at hb
    exact h k a b ha hb
  · rw [if_neg h1] at hb
    by_cases h2 : k + 1 = posI l r l.length
    · rw [if_pos h2] at hb
      rw [if_pos (by omega)] at ha
      obtain rfl := Option.some.inj hb
      have := posI_at l r l.length k h2.symm
      rwa [List.getD_eq_getElem?_getD, ha] at this
    · rw [if_neg h2] at hb
      rw [if_neg (by omega)] at ha
      by_cases h3 : k = posI l r l.length
      · rw [if_pos h3] at ha
        obtain rfl := Option.some.inj ha
        have hk : k < l.length := (List.getElem?_eq_some_iff.1 hb).1
        have := posI_behind l r l.length (by omega)
        rw [← h3, List.getD_eq_getElem?_getD, show l[k]? = some b by simpa using hb] at this
        have t := rowI_turn b r
        simp at this
        omega
      · rw [if_neg h3] at ha
        exact h (k - 1) a b ha (by rw [show k - 1 + 1 = k by omega]; simpa using hb)
theorem adj_nil : Adj [] := fun k a b h => by simp at h
theorem adj_fold (l o : List RT) (h : Adj o) : Adj (l.foldl putI o) := by
  induction l generalizing o with
  | nil => exact h
  | cons r l ih => exact ih _ (adj_put h r)
theorem adj_sort (l : List RT) : Adj (sortI l) := adj_fold l [] adj_nil
theorem sort_adj_take {l : List RT} (h : Adj l) (k : Nat) (hk : k ≤ l.length) : sortI (l.take k) = l.take k := by
  induction k with
  | zero => rfl
  | succ k ih =>
    rw [sortI_snoc l k (by omega), ih (by omega)]
    have hlen : (l.take k).length = k := by simp; omega
    have hpos : posI (l.take k) l[k] (l.take k).length = k := by
      rw [hlen]
      cases k with
      | zero => rfl
      | succ k =>
        simp only [posI]
        rw [if_neg]
        have hg : (l.take (k + 1))[k]? = some l[k] := by rw [List.getElem?_take, if_pos (by omega)]; exact List.getElem?_eq_getElem _
        rw [List.getD_eq_getElem?_getD, hg]
        have := h k l[k] l[k + 1] (List.getElem?_eq_getElem _) (List.getElem?_eq_getElem _)
        simp; omega
    rw [putI, hpos, insL, List.take_of_length_le (by omega), List.drop_eq_nil_of_le (by omega), ← List.take_succ_eq_append_getElem]
theorem sort_sort (l : List RT) : sortI (sortI l) = sortI l := by
  have := sort_adj_take (adj_sort l) (sortI l).length (Nat.le_refl _)
  rwa [List.take_length] at this
theorem adj_pairwise {l : List RT} (h : Adj l) (hok : ∀ r ∈ l, rowB r = true) : l.Pairwise (fun a b => rowI a b ≤ 0) := by
  induction l with
  | nil => exact List.Pairwise.nil
  | cons a l ih =>
    have h' : Adj l := fun k x y hx hy => h (k + 1) x y (by simpa using hx) (by simpa using hy)
    have hp := ih h' (fun r hr => hok r (List.mem_cons_of_mem _ hr))
    refine List.Pairwise.cons (fun b hb => ?_) hp
    cases l with
    | nil => simp at hb
    | cons c l =>
      have hac := h 0 a c (by simp) (by simp)
      rcases List.mem_cons.1 hb with rfl | hb
      · exact hac
      · have hcb := (List.pairwise_cons.1 hp).1 b hb
        exact rowI_le_trans (hok a (by simp)) (hok c (by simp)) (hok b (by simp [hb])) hac hcb
/-- Rows that are rows are the same bag just if they are in order the same. -/
theorem perm_sort {a b : List RT} (ha : ∀ r ∈ a, rowB r = true) (hb : ∀ r ∈ b, rowB r = true) : Perm a b ↔ sortI a = sortI b := by
  refine ⟨fun h => ?_, fun h => (sortI_perm a).symm.trans (h ▸ sortI_perm b)⟩
  have ha' : ∀ r ∈ sortI a, rowB r = true := fun r hr => ha r ((sortI_perm a).mem_iff.1 hr)
  have hb' : ∀ r ∈ sortI b, rowB r = true := fun r hr => hb r ((sortI_perm b).mem_iff.1 hr)
  refine List.Perm.eq_of_pairwise (fun x y hx hy h1 h2 => ?_) (adj_pairwise (adj_sort a) ha') (adj_pairwise (adj_sort b) hb') ((sortI_perm a).trans (h.trans (sortI_perm b).symm))
  have t := rowI_turn x y
  exact (rowI_zero x y (ha' x hx) (hb' y hy)).1 (by omega)
/-! ### The same bag -/
def bagB (a b : List RT) : Bool := decide (a.length = b.length) && a.all fun x => decide (a.count x = b.count x)
theorem count_sub {a b : List RT} (h : ∀ x, x ∈ a → a.count x ≤ b.count x) : ∃ c, Perm b (a ++ c) := by
  induction a generalizing b with
  | nil => exact ⟨b, Perm.refl _⟩
  | cons x a ih =>
    have hx : x ∈ b := List.count_pos_iff.1 (by have := h x (by simp); rw [List.count_cons_self] at this; omega)
    have hp := List.perm_cons_erase hx
    obtain ⟨c, hc⟩ := ih (b := b.erase x) (fun y hy => by
      have h1 := h y (List.mem_cons_of_mem _ hy)
      rw [hp.count_eq, List.count_cons, List.count_cons] at h1
      omega)
    exact ⟨c, hp.trans (hc.cons x)⟩
theorem bagB_iff (a b : List RT) : bagB a b = true ↔ Perm a b := by
  unfold bagB
  simp only [Bool.and_eq_true, decide_eq_true_eq, List.all_eq_true]
  constructor
  · rintro ⟨hl, hc⟩
    obtain ⟨c, hp⟩ := count_sub (a := a) (b := b) (fun x hx => Nat.le_of_eq (hc x hx))
    have := hp.length_eq
    rw [List.length_append] at this
    obtain rfl : c = [] := List.eq_nil_of_length_eq_zero (by omega)
    rw [List.append_nil] at hp
    exact hp.symm
  · intro h
    exact ⟨h.length_eq, fun x _ => h.count_eq x⟩
theorem bagB_turn (a b : List RT) : bagB a b = bagB b a := by
  rw [Bool.eq_iff_iff, bagB_iff, bagB_iff]
  exact ⟨Perm.symm, Perm.symm⟩
theorem bagB_sort (a : List RT) : bagB (sortI a) a = true := (bagB_iff _ _).2 (sortI_perm a)
/-! ### Each row once -/
def onceF (o : List RT) (r : RT) : List RT := if o.count r = 0 then o ++ [r] else o
def onceI (l : List RT) : List RT := l.foldl onceF []
theorem onceI_snoc (l : List RT) (k : Nat) (h : k < l.length) : onceI (l.take (k + 1)) = onceF (onceI (l.take k)) l[k] := fold_take _ _ _ _ h
theorem onceF_mem {o : List RT} {r x : RT} : x ∈ onceF o r ↔ x ∈ o ∨ x = r := by
  unfold onceF; split
  · simp
  · rename_i h
    have : r ∈ o := List.count_pos_iff.1 (by omega)
    constructor
    · exact Or.inl
    · rintro (h | rfl)
      · exact h
      · exact this
theorem onceF_nodup {o : List RT} (h : o.Nodup) (r : RT) : (onceF o r).Nodup := by
  unfold onceF; split
  · rename_i h0
    have hr : r ∉ o := List.count_eq_zero.1 h0
    rw [List.nodup_append]
    exact ⟨h, by simp, fun a ha b hb => by simp at hb; subst hb; intro e; subst e; exact hr ha⟩
  · exact h
theorem once_fold (l o : List RT) (h : o.Nodup) : (l.foldl onceF o).Nodup ∧ ∀ x, x ∈ l.foldl onceF o ↔ x ∈ o ∨ x ∈ l := by
  induction l generalizing o with
  | nil => exact ⟨h, fun x => by simp⟩
  | cons r l ih =>
    obtain ⟨h1, h2⟩ := ih _ (onceF_nodup h r)
    refine ⟨h1, fun x => ?_⟩
    rw [List.foldl_cons, h2, onceF_mem, List.mem_cons, or_assoc]
theorem once_nodup (l : List RT) : (onceI l).Nodup := (once_fold l [] (by simp)).1
theorem once_mem (l : List RT) (x : RT) : x ∈ onceI l ↔ x ∈ l := by rw [onceI, (once_fold l [] (by simp)).2]; simp
theorem nodup_count {l : List RT} (h : l.Nodup) {x : RT} (hx : x ∈ l) : l.count x = 1 := by
  have h1 := List.nodup_iff_count.1 h x
  have h2 := List.count_pos_iff.2 hx
  omega
theorem once_fix_fold (l o : List RT) (h : (o ++ l).Nodup) : l.foldl onceF o = o ++ l := by
  induction l generalizing o with
  | nil => simp
  | cons r l ih =>
    have hr : r ∉ o := fun hr => by
      rw [List.nodup_append] at h
      exact h.2.2 r hr r (by simp) rfl
    rw [List.foldl_cons, onceF, if_pos (List.count_eq_zero.2 hr), ih _ (by simpa using h)]
    simp
theorem once_once (l : List RT) : onceI (onceI l) = onceI l := by
  have := once_fix_fold (onceI l) [] (by simpa using once_nodup l)
  simpa [onceI] using this
theorem once_len_le (l o : List RT) : (l.foldl onceF o).length ≤ o.length + l.length := by
  induction l generalizing o with
  | nil => simp
  | cons r l ih =>
    have h1 := ih (onceF o r)
    have h2 : (onceF o r).length ≤ o.length + 1 := by unfold onceF; split <;> simp
    simp only [List.foldl_cons, List.length_cons]; omega
theorem once_len (l : List RT) : (onceI l).length ≤ l.length := by
  have := once_len_le l []
  simp only [List.length_nil] at this
  show (l.foldl onceF []).length ≤ _
  omega
/-- How many of rows are one of others. -/
def sumC (o l : List RT) : Nat := (o.map fun x => l.count x).sum
theorem sumC_cons (o l : List RT) (r : RT) : sumC o (r :: l) = sumC o l + o.count r := by
  induction o with
  | nil => rfl
  | cons x o ih =>
    simp only [sumC, List.map_cons, List.sum_cons] at ih ⊢
    rw [ih, List.count_cons, List.count_cons]
    have e : (r == x) = (x == r) := by rw [Bool.eq_iff_iff, beq_iff_eq, beq_iff_eq]; exact ⟨Eq.symm, Eq.symm⟩
    rw [e]; omega
theorem sumC_nil (o : List RT) : sumC o [] = 0 := by
  induction o with
  | nil => rfl
  | cons x o ih =>
    simp only [sumC, List.map_cons, List.sum_cons, List.count_nil] at ih ⊢
    omega
theorem sumC_nodup {o : List RT} (h : o.Nodup) (l : List RT) (hl : ∀ x ∈ l, x ∈ o) : sumC o l = l.length := by
  induction l with
  | nil => rw [sumC_nil]; rfl
  | cons r l ih =>
    rw [sumC_cons, ih (fun x hx => hl x (List.mem_cons_of_mem _ hx)), nodup_count h (hl r List.mem_cons_self)]
    rfl
theorem sum_once (l : List RT) : sumC (onceI l) l = l.length := sumC_nodup (once_nodup l) l (fun x hx => (once_mem l x).2 hx)
theorem sumC_snoc (o l : List RT) (k : Nat) (h : k < o.length) : sumC (o.take (k + 1)) l = sumC (o.take k) l + l.count o[k] := by
  rw [sumC, List.take_succ_eq_append_getElem h, List.map_append, List.sum_append]; simp [sumC]
/-! ### Less -/
/-- What is left of the first k rows. -/
def lessN (a b : List RT) : Nat → List RT
  | 0 => []
  | k + 1 => if b.count (a.getD k []) ≤ (a.take k).count (a.getD k []) then lessN a b k ++ [a.getD k []] else lessN a b k
def lessI (a b : List RT) : List RT := lessN a b a.length
/-- What went of the first k rows. -/
def goneN (a b : List RT) : Nat → List RT
  | 0 => []
  | k + 1 => if b.count (a.getD k []) ≤ (a.take k).count (a.getD k []) then goneN a b k else goneN a b k ++ [a.getD k []]
theorem take_getD {a : List RT} {k : Nat} (h : k < a.length) : a.take (k + 1) = a.take k ++ [a.getD k []] := by
  rw [List.take_succ_eq_append_getElem h, List.getD_eq_getElem?_getD, List.getElem?_eq_getElem h]; rfl
theorem gone_count (a b : List RT) (k : Nat) (hk : k ≤ a.length) (x : RT) : (goneN a b k).count x = min ((a.take k).count x) (b.count x) := by
  induction k with
  | zero => simp [goneN]
  | succ k ih =>
    have ih := ih (by omega)
    rw [take_getD (by omega)]
    simp only [goneN]
    obtain ⟨y, hy⟩ : ∃ y, a.getD k [] = y := ⟨_, rfl⟩
    rw [hy]
    by_cases h : b.count y ≤ (a.take k).count y
    · rw [if_pos h, ih, List.count_append, List.count_singleton]
      by_cases e : y = x
      · subst e; rw [show (y == y) = true by simp, if_pos rfl]; omega
      · rw [show (y == x) = false by simpa using e]; simp
    · rw [if_neg h, List.count_append, ih, List.count_append, List.count_singleton]
      by_cases e : y = x
      · subst e; rw [show (y == y) = true by simp, if_pos rfl]; omega
      · rw [show (y == x) = false by simpa using e]; simp
theorem gone_less (a b : List RT) (k : Nat) (hk : k < a.length) : (goneN a b k).count a[k] < b.count a[k] ↔ ¬ b.count a[k] ≤ (a.take k).count a[k] := by
  rw [gone_count a b k (by omega)]; omega
theorem less_gone (a b : List RT) (k : Nat) (hk : k ≤ a.length) (x : RT) : (lessN a b k).count x + (goneN a b k).count x = (a.take k).count x := by
  induction k with
  | zero => simp [lessN, goneN]
  | succ k ih =>
    have ih := ih (by omega)
    rw [take_getD (by omega)]
    simp only [lessN, goneN]
    by_cases h : b.count (a.getD k []) ≤ (a.take k).count (a.getD k [])
    · rw [if_pos h, if_pos h, List.count_append, List.count_append]; omega
    · rw [if_neg h, if_neg h, List.count_append, List.count_append]; omega
theorem less_count (a b : List RT) (x : RT) : (lessI a b).count x = a.count x - b.count x := by
  have h1 := less_gone a b a.length (Nat.le_refl _) x
  have h2 := gone_count a b a.length (Nat.le_refl _) x
  rw [List.take_length] at h1 h2
  unfold lessI; omega
theorem lessN_len (a b : List RT) (k : Nat) : (lessN a b k).length ≤ k := by
  induction k with
  | zero => simp [lessN]
  | succ k ih =>
    simp only [lessN]; split
    · rw [List.length_append]; simp only [List.length_singleton]; omega
    · omega
theorem lessI_len (a b : List RT) : (lessI a b).length ≤ a.length := lessN_len _ _ _
theorem goneN_len (a b : List RT) (k : Nat) : (goneN a b k).length ≤ k := by
  induction k with
  | zero => simp [goneN]
  | succ k ih =>
    simp only [goneN]; split
    · omega
    · rw [List.length_append]; simp only [List.length_singleton]; omega
theorem less_joined (a b : List RT) : bagB (lessI (a ++ b) b) a = true := by
  rw [bagB_iff, List.perm_iff_count]
  intro x
  rw [less_count, List.count_append]; omega
theorem lessN_snoc (a b : List RT) (k : Nat) (h : k < a.length) : lessN a b (k + 1) = if b.count a[k] ≤ (a.take k).count a[k] then lessN a b k ++ [a[k]] else lessN a b k := by
  have e : a.getD k [] = a[k] := by rw [List.getD_eq_getElem?_getD, List.getElem?_eq_getElem h]; rfl
  simp only [lessN, e]
theorem goneN_snoc (a b : List RT) (k : Nat) (h : k < a.length) : goneN a b (k + 1) = if b.count a[k] ≤ (a.take k).count a[k] then goneN a b k else goneN a b k ++ [a[k]] := by
  have e : a.getD k [] = a[k] := by rw [List.getD_eq_getElem?_getD, List.getElem?_eq_getElem h]; rfl
  simp only [goneN, e]
theorem less_mem (a b : List RT) (k : Nat) (hk : k ≤ a.length) (x : RT) (h : x ∈ lessN a b k) : x ∈ a := by
  induction k with
  | zero => simp [lessN] at h
  | succ k ih =>
    rw [lessN_snoc a b k (by omega)] at h
    split at h
    · rcases List.mem_append.1 h with h | h
      · exact ih (by omega) h
      · simp at h; subst h; exact List.getElem_mem _
    · exact ih (by omega) h
/-! ### All values of rows -/
def total (l : List RT) : Nat := (l.map List.length).sum
theorem total_perm {a b : List RT} (h : Perm a b) : total a = total b := (h.map _).sum_nat
theorem total_sort (l : List RT) : total (sortI l) = total l := total_perm (sortI_perm l)
theorem total_sub {a b : List RT} (h : ∀ x, a.count x ≤ b.count x) : total a ≤ total b := by
  obtain ⟨c, hc⟩ := count_sub (a := a) (b := b) (fun x _ => h x)
  rw [total_perm hc, total, total, List.map_append, List.sum_append]; omega
theorem total_once (l : List RT) : total (onceI l) ≤ total l := total_sub fun x => by
  by_cases h : x ∈ onceI l
  · rw [nodup_count (once_nodup l) h]
    exact List.count_pos_iff.2 ((once_mem l x).1 h)
  · rw [List.count_eq_zero.2 h]; omega
theorem total_less (a b : List RT) : total (lessI a b) ≤ total a := total_sub fun x => by rw [less_count]; omega
end Go.Proofs.Ytjidkjnlnenmbaa.Val
namespace Go.Proofs.Ytjidkjnlnenmbaa.Val
open Go.RowKit
set_option linter.unusedVariables false
theorem cellOf {w w' : World} {g o : Nat} (h : w'.heap[g]? = w.heap[g]?) : w'.cell? ⟨g, o, none⟩ = w.cell? ⟨g, o, none⟩ := World.cell?_of_block (a := ⟨g, o, none⟩) h
theorem frozenOf {w w' : World} {g o : Nat} (h : w'.heap[g]? = w.heap[g]?) : w'.frozen? ⟨g, o, none⟩ = w.frozen? ⟨g, o, none⟩ := World.frozen?_of_block (a := ⟨g, o, none⟩) h
/-- The rows ls lie: their headers in block g from cell o on, each row somewhere. -/
structure Rws (w : World) (g o : Nat) (A : Option Addr) (ls : List RT) : Prop where
  ad : 0 < ls.length → A = some ⟨g, o, none⟩
  hd : ∀ j (h : j < ls.length), ∃ (c' g' o' : Nat), w.cell? ⟨g, o + j, none⟩ = some (.slice (some ⟨g', o', none⟩) ls[j].length c') ∧ Fl w g' o' (some ⟨g', o', none⟩) (flatV ls[j])
theorem Rws.below {w w' : World} {g o : Nat} {A : Option Addr} {ls : List RT} (h : Rws w g o A ls) (hb : Below w.heap.size w w') : Rws w' g o A ls := by
  refine ⟨h.ad, fun j hj => ?_⟩
  obtain ⟨c', g', o', h1, h2⟩ := h.hd j hj
  exact ⟨c', g', o', (hb.cell (p := ⟨g, o + j, none⟩) (World.block_lt_of_cell? w ⟨g, o + j, none⟩ h1)).trans h1, h2.below hb⟩
theorem Rws.alloc {w : World} {g o : Nat} {A : Option Addr} {ls : List RT} (h : Rws w g o A ls) (ob : Obj) : Rws (w.alloc ob) g o A ls := h.below ((Below.refl _ _).alloc (Nat.le_refl _) _)
theorem Rws.drew {w : World} {g o : Nat} {A : Option Addr} {ls : List RT} (h : Rws w g o A ls) : Rws w.drew g o A ls := h.below ((Below.refl _ _).drew)
theorem Rws.take {w : World} {g o : Nat} {A : Option Addr} {ls : List RT} (h : Rws w g o A ls) (k : Nat) : Rws w g o A (ls.take k) := by
  refine ⟨fun h0 => h.ad (by simp at h0; omega), fun j hj => ?_⟩
  have hj2 : j < ls.length := by simp at hj; omega
  have := h.hd j hj2
  simpa using this
theorem Rws.drop {w : World} {g o : Nat} {A : Option Addr} {ls : List RT} (h : Rws w g o A ls) (k : Nat) : Rws w g (o + k) (some ⟨g, o + k, none⟩) (ls.drop k) := by
  refine ⟨fun h0 => rfl, fun j hj => ?_⟩
  have hj2 : k + j < ls.length := by simp at hj; omega
  have := h.hd (k + j) hj2
  simpa [Nat.add_assoc] using this
theorem Rws.at {w : World} {g o : Nat} {A : Option Addr} {ls : List RT} (h : Rws w g o A ls) (j : Nat) (hj : j < ls.length) : A = some ⟨g, o, none⟩ ∧ g < w.heap.size ∧ ∃ (c' g' o' : Nat), w.cell? ⟨g, o + j, none⟩ = some (.slice (some ⟨g', o', none⟩) ls[j].length c') ∧ Fl w g' o' (some ⟨g', o', none⟩) (flatV ls[j]) := by
  obtain ⟨c', g', o', h1, h2⟩ := h.hd j hj
  exact ⟨h.ad (by omega), World.block_lt_of_cell? w ⟨g, o + j, none⟩ h1, c', g', o', h1, h2⟩
/-- Rows, texts that a machine can hold. -/
def Ok2 (ls : List RT) : Prop := ls.length ≤ 2000000 ∧ ∀ r ∈ ls, r.length ≤ 2000000 ∧ Short r
theorem Ok2.at {ls : List RT} (h : Ok2 ls) (j : Nat) (hj : j < ls.length) : ls[j].length ≤ 2000000 ∧ Short ls[j] := h.2 _ (List.getElem_mem _)
theorem Ok2.sub {ls ms : List RT} (h : Ok2 ls) (hl : ms.length ≤ 2000000) (hm : ∀ r ∈ ms, r ∈ ls) : Ok2 ms := ⟨hl, fun r hr => h.2 r (hm r hr)⟩
/-! ### Rows of one's own -/
abbrev TT := Nat × Nat × RT
def hdr (t : TT) : Value := .slice (some ⟨t.1, 0, none⟩) t.2.2.length t.2.1
structure RowO (w : World) (B : Nat) (t : TT) : Prop where
  fl : Fl w t.1 0 (some ⟨t.1, 0, none⟩) (flatV t.2.2)
  fz : ∀ j, j < (flatV t.2.2).length → w.frozen? ⟨t.1, j, none⟩ = false
  lo : B ≤ t.1
  hi : t.1 < w.heap.size
theorem RowO.keep {w w' : World} {B : Nat} {t : TT} (h : RowO w B t) (hz : w.heap.size ≤ w'.heap.size) (hk : w'.heap[t.1]? = w.heap[t.1]?) : RowO w' B t :=
  ⟨h.fl.keep fun _ j => cellOf hk, fun j hj => (frozenOf hk).trans (h.fz j hj), h.lo, Nat.lt_of_lt_of_le h.hi hz⟩
theorem RowO.below {w w' : World} {B : Nat} {t : TT} (h : RowO w B t) (hb : Below w.heap.size w w') : RowO w' B t := h.keep hb.size (hb.block _ h.hi)
theorem RowO.alloc {w : World} {B : Nat} {t : TT} (h : RowO w B t) (ob : Obj) : RowO (w.alloc ob) B t := h.below ((Below.refl _ _).alloc (Nat.le_refl _) _)
theorem RowO.drew {w : World} {B : Nat} {t : TT} (h : RowO w B t) : RowO w.drew B t := h.below ((Below.refl _ _).drew)
theorem RowO.lower {w : World} {B B' : Nat} {t : TT} (h : RowO w B t) (hB : B' ≤ B) : RowO w B' t := ⟨h.fl, h.fz, Nat.le_trans hB h.lo, h.hi⟩
theorem RowO.of_own {w : World} {B g c : Nat} {e : TypeId} {l : RT} (h : w.ownsRow B e 3 (.slice (some ⟨g, 0, none⟩) l.length c) l.length (flatV l)) : RowO w B (g, c, l) := by
  have hl := flatV_len l
  refine ⟨⟨fun _ => rfl, fun j hj => ?_⟩, fun j hj => h.frozenAt j, (h.lt g rfl).1, (h.lt g rfl).2⟩
  rw [Nat.zero_add, h.cellAt j (by simp only at hj; omega), List.getElem?_eq_getElem hj]
structure Bag (w : World) (B g cap : Nat) (T : List TT) (ls : List RT) : Prop where
  eq : T.map (fun t => t.2.2) = ls
  own : w.ownsRow B 53 1 (.slice (some ⟨g, 0, none⟩) ls.length cap) ls.length (T.map hdr)
  rows : ∀ t ∈ T, RowO w B t
  nd : (T.map fun t => t.1).Nodup
  ng : ∀ t ∈ T, t.1 ≠ g
theorem Bag.len {w : World} {B g cap : Nat} {T : List TT} {ls : List RT} (h : Bag w B g cap T ls) : T.length = ls.length := by rw [← h.eq, List.length_map]
theorem Bag.lo {w : World} {B g cap : Nat} {T : List TT} {ls : List RT} (h : Bag w B g cap T ls) : B ≤ g ∧ g < w.heap.size := h.own.lt g rfl
theorem own_keep {w w' : World} {B g n cap size : Nat} {e : TypeId} {xs : List Value} (h : w.ownsRow B e size (.slice (some ⟨g, 0, none⟩) n cap) n xs) (hk : w'.heap[g]? = w.heap[g]?) : w'.ownsRow B e size (.slice (some ⟨g, 0, none⟩) n cap) n xs := by
  refine ⟨h.1, ?_⟩
  rcases h.2 with h0 | ⟨g2, cap2, cur, h1, h2, h3, h4⟩
  · exact .inl h0
  · have e1 : g = g2 := by
      injection h1 with e1 e2 e3
      injection e1 with e1
      injection e1
    subst e1
    exact .inr ⟨g, cap2, cur, h1, h2, hk.trans h3, h4⟩
theorem own_caps {w : World} {B g n cap size : Nat} {e : TypeId} {xs : List Value} (h : w.ownsRow B e size (.slice (some ⟨g, 0, none⟩) n cap) n xs) : n ≤ cap ∧ cap ≤ maxLen := by
  rcases h.2 with ⟨h0, -⟩ | ⟨g2, cap2, cur, h1, h2, h3, h4, h5, -⟩
  · cases h0
  · have e2 : cap = cap2 := by injection h1
    subst e2
    exact ⟨h4, h5⟩
theorem Bag.caps {w : World} {B g cap : Nat} {T : List TT} {ls : List RT} (h : Bag w B g cap T ls) : ls.length ≤ cap ∧ cap ≤ maxLen := own_caps h.own
theorem Bag.keep {w w' : World} {B g cap : Nat} {T : List TT} {ls : List RT} (h : Bag w B g cap T ls) (hz : w.heap.size ≤ w'.heap.size) (hg : w'.heap[g]? = w.heap[g]?) (hk : ∀ t ∈ T, w'.heap[t.1]? = w.heap[t.1]?) : Bag w' B g cap T ls :=
  ⟨h.eq, own_keep h.own hg, fun t ht => (h.rows t ht).keep hz (hk t ht), h.nd, h.ng⟩
theorem Bag.below {w w' : World} {B g cap : Nat} {T : List TT} {ls : List RT} (h : Bag w B g cap T ls) (hb : Below w.heap.size w w') : Bag w' B g cap T ls :=
  h.keep hb.size (hb.block _ h.lo.2) fun t ht => hb.block _ (h.rows t ht).hi
theorem Bag.alloc {w : World} {B g cap : Nat} {T : List TT} {ls : List RT} (h : Bag w B g cap T ls) (ob : Obj) : Bag (w.alloc ob) B g cap T ls := h.below ((Below.refl _ _).alloc (Nat.le_refl _) _)
theorem Bag.drew {w : World} {B g cap : Nat} {T : List TT} {ls : List RT} (h : Bag w B g cap T ls) : Bag w.drew B g cap T ls := h.below ((Below.refl _ _).drew)
theorem Bag.empty (w : World) : Bag (w.alloc (.cells #[] 53)) w.heap.size w.heap.size 0 [] [] :=
  ⟨rfl, own_empty3 53 1 rfl (Nat.le_refl _), fun t ht => absurd ht (by simp), by simp, fun t ht => absurd ht (by simp)⟩
theorem Bag.rws {w : World} {B g cap : Nat} {T : List TT} {ls : List RT} (h : Bag w B g cap T ls) : Rws w g 0 (some ⟨g, 0, none⟩) ls := by
  have hl := h.len
  refine ⟨fun _ => rfl, fun j hj => ?_⟩
  have hj2 : j < T.length := by omega
  have hr := h.rows T[j] (List.getElem_mem _)
  have he : ls[j] = T[j].2.2 := by
    have := h.eq
    subst this
    simp
  refine ⟨T[j].2.1, T[j].1, 0, ?_, ?_⟩
  · rw [Nat.zero_add, h.own.cellAt j (by omega), List.getElem?_map, List.getElem?_eq_getElem hj2, he]; rfl
  · rw [he]; exact hr.fl
/-- A header more. -/
theorem Bag.push {w w' : World} {B g cap g' cap' n : Nat} {T : List TT} {ls : List RT} {t : TT} (h : Bag w B g cap T ls) (ht : RowO w B t) (hn : ∀ u ∈ T, u.1 ≠ t.1) (hg : t.1 ≠ g) (hnl : n = ls.length + 1)
    (hown : w'.ownsRow B 53 1 (.slice (some ⟨g', 0, none⟩) n cap') n (T.map hdr ++ [hdr t])) (hgr : w.grownBy w' (some g)) (hgg : g' = g ∨ w.heap.size ≤ g') : Bag w' B g' cap' (T ++ [t]) (ls ++ [t.2.2]) := by
  subst hnl
  have hk : ∀ u, RowO w B u → u.1 ≠ g → RowO w' B u := fun u hu hne => hu.keep hgr.size (hgr.block _ hu.hi (fun e => hne (Option.some.inj e)))
  refine ⟨by rw [List.map_append, h.eq]; rfl, ?_, ?_, ?_, ?_⟩
  · rw [List.length_append, List.map_append]; exact hown
  · intro u hu
    rcases List.mem_append.1 hu with hu | hu
    · exact hk u (h.rows u hu) (h.ng u hu)
    · obtain rfl := List.mem_singleton.1 hu
      exact hk _ ht hg
  · rw [List.map_append, List.nodup_append]
    refine ⟨h.nd, by simp, fun a ha b hb e => ?_⟩
    simp at hb
    obtain ⟨u, hu, rfl⟩ := List.mem_map.1 ha
    exact hn u hu (by rw [e, hb])
  · intro u hu e
    have hlt : u.1 < w.heap.size ∧ u.1 ≠ g := by
      rcases List.mem_append.1 hu with hu | hu
      · exact ⟨(h.rows u hu).hi, h.ng u hu⟩
      · obtain rfl := List.mem_singleton.1 hu
        exact ⟨ht.hi, hg⟩
    rcases hgg with hgg | hgg
    · exact hlt.2 (e.trans hgg)
    · omega
theorem count_snoc (ls : List RT) (k : Nat) (h : k < ls.length) (r : RT) : (ls.take (k + 1)).count r = (ls.take k).count r + if ls[k] = r then 1 else 0 := by
  rw [List.take_succ_eq_append_getElem h, List.count_append, List.count_singleton]
  by_cases e : ls[k] = r
  · rw [if_pos e, show (ls[k] == r) = true by simpa using e]; rfl
  · rw [if_neg e, show (ls[k] == r) = false by simpa using e]; rfl
theorem infoVS : (Try.prog.info? 53).map (fun i => (i.zero, i.size, i.bytes)) = some (some (.slice none 0 0), 1, 24) := by kernel_rfl
end Go.Proofs.Ytjidkjnlnenmbaa.Val
namespace Go.Proofs.Ytjidkjnlnenmbaa.Val
open Go.RowKit
set_option linter.unusedVariables false
end Go.Proofs.Ytjidkjnlnenmbaa.Val
namespace Go.Proofs.Ytjidkjnlnenmbaa.Val
open Go.RowKit
set_option linter.unusedVariables false
set_option maxRecDepth 8000
def RetBag (ls : List RT) (w : World) (e : Ending) (w' : World) : Prop := ∃ (g c : Nat) (T : List TT), e = .returned (.slice (some ⟨g, 0, none⟩) ls.length c) ∧ Bag w' w.heap.size g c T ls ∧ Below w.heap.size w w'
theorem addNone (b off i : Nat) : (⟨b, off, none⟩ : Addr).add i = ⟨b, off + i, none⟩ := by
  unfold Addr.add; split
  · rename_i h; simp_all
  · rfl
theorem news_flo {W : World} {g o : Nat} {A : Option Addr} {xs : List Value} (h : Fl W g o A xs) : ∀ j u, xs[j]? = some u → W.cell? ((⟨g, o, none⟩ : Addr).add j) = some u := by
  intro j u hj
  obtain ⟨hl, rfl⟩ := List.getElem?_eq_some_iff.1 hj
  rw [addNone]
  exact h.c j hl
theorem one_flatV (vs : List VT) : ∀ u ∈ flatV vs, u.oneCell' = true := by
  induction vs with
  | nil => intro u hu; simp [flatV] at hu
  | cons v vs ih =>
    intro u hu
    rw [flatV_cons] at hu
    simp only [List.mem_cons] at hu
    rcases hu with rfl | rfl | rfl | hu
    · rfl
    · rfl
    · rfl
    · exact ih u hu
theorem infoVc : (Try.prog.info? 73).map (fun i => (i.zero, i.size, i.bytes)) = some (some (.agg #[.int .i64 0, .int .i64 0, .string ⟨#[]⟩]), 3, 32) := by kernel_rfl
theorem Bag.push2 {w1 w2 w' : World} {B g cap g' cap' n : Nat} {T : List TT} {ls : List RT} {t : TT} {ob : Obj} (h : Bag w1 B g cap T ls) (ht : RowO w2 w1.heap.size t) (hb : Below w1.heap.size w1 w2) (hnl : n = ls.length + 1)
    (hown : w'.ownsRow B 53 1 (.slice (some ⟨g', 0, none⟩) n cap') n (T.map hdr ++ [hdr t])) (hgr : (w2.alloc ob).grownBy w' (some g)) (hgg : g' = g ∨ (w2.alloc ob).heap.size ≤ g') : Bag w' B g' cap' (T ++ [t]) (ls ++ [t.2.2]) := by
  have hlo := ht.lo
  have hg := h.lo
  refine ((h.below hb).alloc ob).push ((ht.lower (by omega)).alloc ob) (fun u hu => ?_) (by omega) hnl hown hgr hgg
  have := (h.rows u hu).hi
  omega
theorem rowCopy (g o c : Nat) (l : List VT) (w : World) (h : Fl w g o (some ⟨g, o, none⟩) (flatV l)) (hl : l.length ≤ 2000000) :
    Calls Try.prog 132 #[.slice (some ⟨g, o, none⟩) l.length c] w fun e w' => ∃ (g2 c2 : Nat), e = .returned (.slice (some ⟨g2, 0, none⟩) l.length c2) ∧ RowO w' w.heap.size (g2, c2, l) ∧ Below w.heap.size w w' := by
  obtain ⟨i0, hi, iz0, iz1, iz2⟩ := info_parts infoVc
  have HA := Lib.hid h
  clear h
  have hfl := Lib.hid (flatV_len l)
  have OWN := Lib.hid (own_empty3 (w := w) (B := w.heap.size) 73 3 rfl (Nat.le_refl _))
  go_enter Try.func132, Try.ntmps132
  go_wp2_with (at_builtin; refine wpList_append_block _ rfl (.tmp 3) (.tmp 4) 53 rfl w.heap.size 73 i0 (.agg #[.int .i64 0, .int .i64 0, .string ⟨#[]⟩]) 3 32 Try.underlying53 hi iz0 iz1 iz2 rfl (by decide) w.heap.size 0 0 [] rfl OWN.out _ _ _ (flatV l) rfl hfl.out (news_flo (HA.out.alloc _)) (one_flatV l) (by unfold maxLen; omega) (by omega) (by first | omega | (simp; done) | (simp; omega)) ?_; intro g2 c2 w2 hown hgr hgg; (try simp only [Nat.zero_add, List.nil_append] at hown); have HO := Lib.hid hown; have HB := Lib.hid (Below.grown ((Below.refl _ _).alloc (Nat.le_refl _) _) hgr (by simp) (fun k hk => by obtain rfl := Option.some.inj hk; exact Nat.le_refl _)); clear hown hgr hgg)
  go_ret
  exact ⟨g2, c2, by simp, RowO.of_own HO.out, HB.out⟩
theorem l3Own (g o c : Nat) (l : List VT) (w : World) (h : Fl w g o (some ⟨g, o, none⟩) (flatV l)) (hl : l.length ≤ 2000000) :
    Calls Try.prog 102 #[.slice (some ⟨g, o, none⟩) l.length c] w fun e w' => ∃ (g2 c2 : Nat), e = .returned (.slice (some ⟨g2, 0, none⟩) l.length c2) ∧ RowO w' w.heap.size (g2, c2, l) ∧ Below w.heap.size w w' := by
  obtain ⟨i0, hi, iz0, iz1, iz2⟩ := info_parts infoVc
  have HA := Lib.hid h
  clear h
  have hfl := Lib.hid (flatV_len l)
  have OWN := Lib.hid (own_empty3 (w := w) (B := w.heap.size) 73 3 rfl (Nat.le_refl _))
  go_enter Try.func102, Try.ntmps102
  go_wp2_with (at_builtin; refine wpList_append_block _ rfl (.tmp 3) (.tmp 4) 53 rfl w.heap.size 73 i0 (.agg #[.int .i64 0, .int .i64 0, .string ⟨#[]⟩]) 3 32 Try.underlying53 hi iz0 iz1 iz2 rfl (by decide) w.heap.size 0 0 [] rfl OWN.out _ _ _ (flatV l) rfl hfl.out (news_flo (HA.out.alloc _)) (one_flatV l) (by unfold maxLen; omega) (by omega) (by first | omega | (simp; done) | (simp; omega)) ?_; intro g2 c2 w2 hown hgr hgg; (try simp only [Nat.zero_add, List.nil_append] at hown); have HO := Lib.hid hown; have HB := Lib.hid (Below.grown ((Below.refl _ _).alloc (Nat.le_refl _) _) hgr (by simp) (fun k hk => by obtain rfl := Option.some.inj hk; exact Nat.le_refl _)); clear hown hgr hgg)
  go_ret
  exact ⟨g2, c2, by simp, RowO.of_own HO.out, HB.out⟩
end Go.Proofs.Ytjidkjnlnenmbaa.Val
namespace Go.Proofs.Ytjidkjnlnenmbaa.Val
open Go.RowKit
set_option linter.unusedVariables false
set_option maxRecDepth 8000
theorem keepR2 {w W W1 : World} {g o gB oB g' o' q : Nat} {A B A' : Option Addr} {al bs : List RT} {K : RT} {x : Value} (h : W.cell? ⟨g, q, none⟩ = some x ∧ Rws W g o A al ∧ Rws W gB oB B bs ∧ Fl W g' o' A' (flatV K) ∧ Below w.heap.size w W ∧ w.heap.size ≤ W.heap.size) (hb : Below W.heap.size W W1) :
    W1.cell? ⟨g, q, none⟩ = some x ∧ Rws W1 g o A al ∧ Rws W1 gB oB B bs ∧ Fl W1 g' o' A' (flatV K) ∧ Below w.heap.size w W1 ∧ w.heap.size ≤ W1.heap.size :=
  ⟨(hb.cell (p := ⟨g, q, none⟩) (World.block_lt_of_cell? W ⟨g, q, none⟩ h.1)).trans h.1, h.2.1.below hb, h.2.2.1.below hb, h.2.2.2.1.below hb, h.2.2.2.2.1.trans (hb.mono h.2.2.2.2.2), Nat.le_trans h.2.2.2.2.2 hb.size⟩
theorem keepR2D {w W : World} {g o gB oB g' o' q : Nat} {A B A' : Option Addr} {al bs : List RT} {K : RT} {x : Value} (h : W.cell? ⟨g, q, none⟩ = some x ∧ Rws W g o A al ∧ Rws W gB oB B bs ∧ Fl W g' o' A' (flatV K) ∧ Below w.heap.size w W ∧ w.heap.size ≤ W.heap.size) :
    W.drew.cell? ⟨g, q, none⟩ = some x ∧ Rws W.drew g o A al ∧ Rws W.drew gB oB B bs ∧ Fl W.drew g' o' A' (flatV K) ∧ Below w.heap.size w W.drew ∧ w.heap.size ≤ W.drew.heap.size := keepR2 h ((Below.refl _ _).drew)
theorem kA {w W : World} {g o gB oB g' o' q : Nat} {A B A' : Option Addr} {al bs : List RT} {K : RT} {x : Value} (h : W.cell? ⟨g, q, none⟩ = some x ∧ Rws W g o A al ∧ Rws W gB oB B bs ∧ Fl W g' o' A' (flatV K) ∧ Below w.heap.size w W ∧ w.heap.size ≤ W.heap.size) : Rws W g o A al := h.2.1
theorem kB {w W : World} {g o gB oB g' o' q : Nat} {A B A' : Option Addr} {al bs : List RT} {K : RT} {x : Value} (h : W.cell? ⟨g, q, none⟩ = some x ∧ Rws W g o A al ∧ Rws W gB oB B bs ∧ Fl W g' o' A' (flatV K) ∧ Below w.heap.size w W ∧ w.heap.size ≤ W.heap.size) : Rws W gB oB B bs := h.2.2.1
theorem kF {w W : World} {g o gB oB g' o' q : Nat} {A B A' : Option Addr} {al bs : List RT} {K : RT} {x : Value} (h : W.cell? ⟨g, q, none⟩ = some x ∧ Rws W g o A al ∧ Rws W gB oB B bs ∧ Fl W g' o' A' (flatV K) ∧ Below w.heap.size w W ∧ w.heap.size ≤ W.heap.size) : Fl W g' o' A' (flatV K) := h.2.2.2.1
theorem kW {w W : World} {g o gB oB g' o' q : Nat} {A B A' : Option Addr} {al bs : List RT} {K : RT} {x : Value} (h : W.cell? ⟨g, q, none⟩ = some x ∧ Rws W g o A al ∧ Rws W gB oB B bs ∧ Fl W g' o' A' (flatV K) ∧ Below w.heap.size w W ∧ w.heap.size ≤ W.heap.size) : Below w.heap.size w W := h.2.2.2.2.1
def rowsB (cs : List CT) (ls : List RT) : Bool := colB cs && ls.all (fitB cs)
theorem rowsOkI (A B : Option Addr) (g o gB oB cap capB : Nat) (cs : List CT) (ls : List RT) (w : World) (hA : Fl w g o A (flatC cs)) (hB : Rws w gB oB B ls) (hl : cs.length ≤ 2000000) (hok : Ok2 ls) :
    Calls Try.prog 50 #[.slice A cs.length cap, .slice B ls.length capB] w fun e w' => e = .returned (.bool (rowsB cs ls)) ∧ Below w.heap.size w w' := by
  have HA := Lib.hid hA
  have HB := Lib.hid hB
  have HK := Lib.hid hok
  have hl2 := hok.1
  clear hA hB hok
  have CC := Lib.hid (fun w hw => columnsOkI A g o cap cs w hw hl)
  obtain ⟨B1, hB1⟩ : ∃ b, colB cs = b := ⟨_, rfl⟩
  rw [hB1] at CC
  have F1 := Lib.hid hB1
  clear hB1
  go_enter Try.func50, Try.ntmps50
  go_wp2_with (go_at_call 94; (with_reducible refine (CC.out _ HA.out).mono ?_); rintro e w1 ⟨rfl, rfl⟩)
  · go_ret
    refine ⟨retB ?_, Below.refl _ _⟩
    have f1 := F1.out
    rw [rowsB, f1]; simp_all
  · obtain rfl : B1 = true := yes_of (by assumption)
    simp only [Bool.not_true]
    go_loopw [5] (fun ix wr => ∃ (k : Nat), k ≤ ls.length ∧ ix = .int .i64 k ∧ Hid ((ls.take k).all (fitB cs) = true) ∧ Hid (Below w.heap.size w wr)) (fun ix _ => ls.length - (intOf ix).toNat)
    case atStart => exact ⟨0, Nat.zero_le _, rfl, rfl, Below.refl _ _⟩
    case round =>
      obtain ⟨k, hk, rfl, HL, HW⟩ := hrel
      by_cases hlt : k < ls.length
      · obtain ⟨rfl, hg, c', g', o', hc, hf⟩ := (HB.out.below HW.out).at k hlt
        have HF := Lib.hid hf
        obtain ⟨hlr, hsr⟩ := HK.out.at k hlt
        have HS := Lib.hid (all_snoc (fitB cs) ls k hlt)
        have HN := Lib.hid (fun hp => all_no (p := fitB cs) k hlt hp)
        obtain ⟨K, hK⟩ : ∃ K, ls[k] = K := ⟨_, rfl⟩
        rw [hK] at hc HF HS HN hlr hsr
        clear hK hf
        have CF := Lib.hid (fun W hW hW2 => rowFitsI A (some ⟨g', o', none⟩) g o g' o' cap c' cs K W hW hW2 hl hlr hsr)
        obtain ⟨kl, hkl⟩ : ∃ n, K.length = n := ⟨_, rfl⟩
        rw [hkl] at hc CF
        clear hkl hsr
        obtain ⟨E, hE⟩ : ∃ E, fitB cs K = E := ⟨_, rfl⟩
        rw [hE] at CF HS HN
        clear hE
        have i0' : (0 : Int) ≤ (k : Int) := by omega
        have i1' : (k : Int) < (ls.length : Int) := by omega
        go_wp2_with (go_at_call 95; (with_reducible refine (CF.out _ (HA.out.below HW.out) HF.out).mono ?_); rintro e w1 ⟨rfl, hb1⟩; have HW1 := Lib.hid (HW.out.trans (hb1.mono HW.out.size)); clear hb1 HW)
        · go_ret
          refine ⟨retB ?_, HW1.out⟩
          rw [rowsB, HN.out (not_of (by assumption))]; simp
        · go_round
          case rel => exact ⟨k + 1, by omega, by go_num, hid_all HS HL (by assumption), HW1⟩
          case measure => simp [intOf]; omega
      · obtain rfl : k = ls.length := by omega
        go_wp2
        go_ret
        refine ⟨retB ?_, HW.out⟩
        have f1 := F1.out
        rw [rowsB, all_end HL, f1]; simp_all
theorem rowsOkS (A B : Option Addr) (g o gB oB cap capB : Nat) (cs : List CT) (ls : List RT) (w : World) (hA : Fl w g o A (flatC cs)) (hB : Rws w gB oB B ls) (hl : cs.length ≤ 2000000) (hok : Ok2 ls) :
    Calls Try.prog 67 #[.slice A cs.length cap, .slice B ls.length capB] w fun e w' => e = .returned (.bool (rowsB cs ls)) ∧ Below w.heap.size w w' := by
  have HA := Lib.hid hA
  have HB := Lib.hid hB
  have HK := Lib.hid hok
  have hl2 := hok.1
  clear hA hB hok
  have CC := Lib.hid (fun w hw => columnsOkS A g o cap cs w hw hl)
  go_enter Try.func67, Try.ntmps67
  go_wp2
  go_loopw [5] (fun ix wr => ∃ (k : Nat), k ≤ ls.length ∧ ix = .int .i64 k ∧ Hid ((ls.take k).all (fitB cs) = true) ∧ Hid (Below w.heap.size w wr)) (fun ix _ => ls.length - (intOf ix).toNat)
  case atStart => exact ⟨0, Nat.zero_le _, rfl, rfl, Below.refl _ _⟩
  case round =>
    obtain ⟨k, hk, rfl, HL, HW⟩ := hrel
    by_cases hlt : k < ls.length
    · obtain ⟨rfl, hg, c', g', o', hc, hf⟩ := (HB.out.below HW.out).at k hlt
      have HF := Lib.hid hf
      obtain ⟨hlr, hsr⟩ := HK.out.at k hlt
      have HS := Lib.hid (all_snoc (fitB cs) ls k hlt)
      have HN := Lib.hid (fun hp => all_no (p := fitB cs) k hlt hp)
      obtain ⟨K, hK⟩ : ∃ K, ls[k] = K := ⟨_, rfl⟩
      rw [hK] at hc HF HS HN hlr hsr
      clear hK hf
      have CF := Lib.hid (fun W hW hW2 => rowFitsS A (some ⟨g', o', none⟩) g o g' o' cap c' cs K W hW hW2 hl hlr hsr)
      obtain ⟨kl, hkl⟩ : ∃ n, K.length = n := ⟨_, rfl⟩
      rw [hkl] at hc CF
      clear hkl hsr
      obtain ⟨E, hE⟩ : ∃ E, fitB cs K = E := ⟨_, rfl⟩
      rw [hE] at CF HS HN
      clear hE
      have i0' : (0 : Int) ≤ (k : Int) := by omega
      have i1' : (k : Int) < (ls.length : Int) := by omega
      go_wp2_with (go_at_call 106; (with_reducible refine (CF.out _ (HA.out.below HW.out) HF.out).mono ?_); rintro e w1 ⟨rfl, hb1⟩; have HW1 := Lib.hid (HW.out.trans (hb1.mono HW.out.size)); clear hb1 HW)
      · go_ret
        refine ⟨retB ?_, HW1.out⟩
        rw [rowsB, HN.out (not_of (by assumption))]; simp
      · go_round
        case rel => exact ⟨k + 1, by omega, by go_num, hid_all HS HL (by assumption), HW1⟩
        case measure => simp [intOf]; omega
    · obtain rfl : k = ls.length := by omega
      go_wp2_with (go_at_call 107; (with_reducible refine (CC.out _ (HA.out.below HW.out)).mono ?_); rintro e w1 ⟨rfl, rfl⟩)
      all_goals (go_ret; refine ⟨retB ?_, HW.out⟩; rw [rowsB, all_end HL]; simp)
end Go.Proofs.Ytjidkjnlnenmbaa.Val
