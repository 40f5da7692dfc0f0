/- Batches: plain facts. -/
import Derived.Test.YtjidkjnlnenmbaaPMath
import Derived.Test.YtjidkjnlnenmbaaBatA
import Derived.Test.YtjidkjnlnenmbaaBagN
import Derived.BigQuiet
import Derived.Deep.RegionHeldLaw
namespace Go.Proofs.Ytjidkjnlnenmbaa.Val
open Go.RowKit
set_option linter.unusedVariables false
set_option maxRecDepth 8000
/-- A row was made. -/
def RetRw (l : RT) (w : World) (e : Ending) (w' : World) : Prop := ∃ (g c : Nat), e = .returned (.slice (some ⟨g, 0, none⟩) l.length c) ∧ RowO w' w.heap.size (g, c, l) ∧ Below w.heap.size w w'
/-- A column of a batch of n rows. -/
def colN (n : Nat) (c : RT) : Bool := decide (c.length = n) && c.all okV
/-- A batch of these columns, of n rows. -/
def batB (ls : List RT) (n : Nat) : Bool := decide (ls.length ≤ 4) && decide (n ≤ 4) && ls.all (colN n)
/-- A row of a batch. -/
def acr (ls : List RT) (k : Nat) : RT := ls.map fun c => c.getD k nilV
theorem acr_len (ls : List RT) (k : Nat) : (acr ls k).length = ls.length := List.length_map _
/-- The rows that are picked among the first k. -/
def pckN (ls : List RT) (bs : List Bool) (k : Nat) : List RT := ((List.range k).filter fun j => bs.getD j false).map (acr ls)
def batR (ls : List RT) (bs : List Bool) : List RT := if batB ls bs.length = true then pckN ls bs bs.length else []
theorem pckN_succ (ls : List RT) (bs : List Bool) (k : Nat) (h : k < bs.length) : pckN ls bs (k + 1) = pckN ls bs k ++ if bs[k] = true then [acr ls k] else [] := by
  unfold pckN
  rw [List.range_succ, List.filter_append, List.map_append]
  congr 1
  have e : bs.getD k false = bs[k] := getD_lt h _
  by_cases hb : bs[k] = true
  · rw [if_pos hb, List.filter_cons_of_pos (by rw [e]; exact hb)]; rfl
  · rw [if_neg hb, List.filter_cons_of_neg (by rw [e]; exact hb)]; rfl
theorem pckN_len (ls : List RT) (bs : List Bool) (k : Nat) : (pckN ls bs k).length ≤ k := by
  unfold pckN
  rw [List.length_map]
  refine Nat.le_trans (List.length_filter_le _ _) ?_
  simp
theorem batB_in {ls : List RT} {n : Nat} (h : batB ls n = true) : ls.length ≤ 4 ∧ n ≤ 4 ∧ ∀ c ∈ ls, c.length = n ∧ c.all okV = true := by
  unfold batB at h
  simp only [Bool.and_eq_true, decide_eq_true_eq, List.all_eq_true] at h
  refine ⟨h.1.1, h.1.2, fun c hc => ?_⟩
  have := h.2 c hc
  unfold colN at this
  simpa using this
theorem batB_too {ls : List RT} {n : Nat} (h : 4 < ls.length ∨ 4 < n) : batB ls n = false := by
  unfold batB
  rcases h with h | h
  · rw [decide_eq_false (by omega)]; rfl
  · rw [show decide (n ≤ 4) = false from decide_eq_false (by omega)]; simp
theorem batB_all {ls : List RT} {n : Nat} (h : ls.length ≤ 4) (hn : n ≤ 4) : batB ls n = ls.all (colN n) := by
  unfold batB
  rw [decide_eq_true h, decide_eq_true hn]; rfl
theorem batB_no {ls : List RT} {n : Nat} {k : Nat} (hk : k < ls.length) (h : colN n ls[k] = false) : batB ls n = false := by
  unfold batB
  rw [all_no (p := colN n) k hk h]; simp
theorem colN_len {n : Nat} {c : RT} (h : c.length ≠ n) : colN n c = false := by
  unfold colN; rw [decide_eq_false h]; rfl
theorem colN_same {n : Nat} {c : RT} (h : c.length = n) : colN n c = c.all okV := by
  unfold colN; rw [decide_eq_true h]; rfl
/-- A box of two cells. -/
def Box2 (x : Nat) (u v : Value) (w : World) : Prop := w.cell? ⟨x, 0, none⟩ = some u ∧ w.cell? ⟨x, 1, none⟩ = some v
theorem Box2.below {x : Nat} {u v : Value} {w w' : World} (h : Box2 x u v w) (hb : Below w.heap.size w w') : Box2 x u v w' := by
  have hx := World.block_lt_of_cell? w ⟨x, 0, none⟩ h.1
  exact ⟨(hb.cell (p := ⟨x, 0, none⟩) hx).trans h.1, (hb.cell (p := ⟨x, 1, none⟩) hx).trans h.2⟩
theorem Box2.alloc {x : Nat} {u v : Value} {w : World} (h : Box2 x u v w) (ob : Obj) : Box2 x u v (w.alloc ob) := h.below ((Below.refl _ _).alloc (Nat.le_refl _) _)
theorem Box2.drew {x : Nat} {u v : Value} {w : World} (h : Box2 x u v w) : Box2 x u v w.drew := h.below ((Below.refl _ _).drew)
theorem Box2.grown {x : Nat} {u v : Value} {w w' : World} {g : Nat} (h : Box2 x u v w) (hg : w.grownBy w' (some g)) (hx : x ≠ g) : Box2 x u v w' := by
  have hl := World.block_lt_of_cell? w ⟨x, 0, none⟩ h.1
  have hb := hg.block x hl (fun e => hx (Option.some.inj e))
  exact ⟨(cellOf hb).trans h.1, (cellOf hb).trans h.2⟩
/-- What lies while a row is asked: a box, a header, its row. -/
theorem keep3 {w W W1 : World} {a b q g o : Nat} {A : Option Addr} {x y z : Value} {xs : List Value} (h : W.cell? ⟨a, 0, none⟩ = some x ∧ W.cell? ⟨a, 1, none⟩ = some y ∧ W.cell? ⟨b, q, none⟩ = some z ∧ Fl W g o A xs ∧ Below w.heap.size w W ∧ w.heap.size ≤ W.heap.size) (hb : Below W.heap.size W W1) :
    W1.cell? ⟨a, 0, none⟩ = some x ∧ W1.cell? ⟨a, 1, none⟩ = some y ∧ W1.cell? ⟨b, q, none⟩ = some z ∧ Fl W1 g o A xs ∧ Below w.heap.size w W1 ∧ w.heap.size ≤ W1.heap.size := by
  obtain ⟨h1, h2, h3, h4, h5, h6⟩ := h
  have hc := fun b q x (h : W.cell? ⟨b, q, none⟩ = some x) => (hb.cell (p := ⟨b, q, none⟩) (World.block_lt_of_cell? W ⟨b, q, none⟩ h)).trans h
  exact ⟨hc _ _ _ h1, hc _ _ _ h2, hc _ _ _ h3, h4.below hb, h5.trans (hb.mono h6), Nat.le_trans h6 hb.size⟩
theorem keep3D {w W : World} {a b q g o : Nat} {A : Option Addr} {x y z : Value} {xs : List Value} (h : W.cell? ⟨a, 0, none⟩ = some x ∧ W.cell? ⟨a, 1, none⟩ = some y ∧ W.cell? ⟨b, q, none⟩ = some z ∧ Fl W g o A xs ∧ Below w.heap.size w W ∧ w.heap.size ≤ W.heap.size) :
    W.drew.cell? ⟨a, 0, none⟩ = some x ∧ W.drew.cell? ⟨a, 1, none⟩ = some y ∧ W.drew.cell? ⟨b, q, none⟩ = some z ∧ Fl W.drew g o A xs ∧ Below w.heap.size w W.drew ∧ w.heap.size ≤ W.drew.heap.size := keep3 h ((Below.refl _ _).drew)
theorem keep3F {w W : World} {a b q g o : Nat} {A : Option Addr} {x y z : Value} {xs : List Value} (h : W.cell? ⟨a, 0, none⟩ = some x ∧ W.cell? ⟨a, 1, none⟩ = some y ∧ W.cell? ⟨b, q, none⟩ = some z ∧ Fl W g o A xs ∧ Below w.heap.size w W ∧ w.heap.size ≤ W.heap.size) : Fl W g o A xs := h.2.2.2.1
theorem keep3B {w W : World} {a b q g o : Nat} {A : Option Addr} {x y z : Value} {xs : List Value} (h : W.cell? ⟨a, 0, none⟩ = some x ∧ W.cell? ⟨a, 1, none⟩ = some y ∧ W.cell? ⟨b, q, none⟩ = some z ∧ Fl W g o A xs ∧ Below w.heap.size w W ∧ w.heap.size ≤ W.heap.size) : Below w.heap.size w W := h.2.2.2.2.1
theorem keep3X {w W : World} {a b q g o : Nat} {A : Option Addr} {x y z : Value} {xs : List Value} (h : W.cell? ⟨a, 0, none⟩ = some x ∧ W.cell? ⟨a, 1, none⟩ = some y ∧ W.cell? ⟨b, q, none⟩ = some z ∧ Fl W g o A xs ∧ Below w.heap.size w W ∧ w.heap.size ≤ W.heap.size) : Box2 a x y W := ⟨h.1, h.2.1⟩
theorem below_drewB {N q : Nat} {w w' : World} (h : Below N w w') : Below N w (w'.drewN q) := by
  induction q with
  | zero => exact h
  | succ q ih => exact ih.drew
theorem Box2.lt {x : Nat} {u v : Value} {w : World} (h : Box2 x u v w) : x < w.heap.size := World.block_lt_of_cell? w ⟨x, 0, none⟩ h.1
/-- What lies while a batch is compared: two boxes. -/
theorem keep4 {w W W1 : World} {a b : Nat} {x y z u : Value} (h : W.cell? ⟨a, 0, none⟩ = some x ∧ W.cell? ⟨a, 1, none⟩ = some y ∧ W.cell? ⟨b, 0, none⟩ = some z ∧ W.cell? ⟨b, 1, none⟩ = some u ∧ Below w.heap.size w W ∧ w.heap.size ≤ W.heap.size) (hb : Below W.heap.size W W1) :
    W1.cell? ⟨a, 0, none⟩ = some x ∧ W1.cell? ⟨a, 1, none⟩ = some y ∧ W1.cell? ⟨b, 0, none⟩ = some z ∧ W1.cell? ⟨b, 1, none⟩ = some u ∧ Below w.heap.size w W1 ∧ w.heap.size ≤ W1.heap.size := by
  obtain ⟨h1, h2, h3, h4, h5, h6⟩ := h
  have hc := fun b q x (h : W.cell? ⟨b, q, none⟩ = some x) => (hb.cell (p := ⟨b, q, none⟩) (World.block_lt_of_cell? W ⟨b, q, none⟩ h)).trans h
  exact ⟨hc _ _ _ h1, hc _ _ _ h2, hc _ _ _ h3, hc _ _ _ h4, h5.trans (hb.mono h6), Nat.le_trans h6 hb.size⟩
theorem keep4D {w W : World} {a b : Nat} {x y z u : Value} (h : W.cell? ⟨a, 0, none⟩ = some x ∧ W.cell? ⟨a, 1, none⟩ = some y ∧ W.cell? ⟨b, 0, none⟩ = some z ∧ W.cell? ⟨b, 1, none⟩ = some u ∧ Below w.heap.size w W ∧ w.heap.size ≤ W.heap.size) :
    W.drew.cell? ⟨a, 0, none⟩ = some x ∧ W.drew.cell? ⟨a, 1, none⟩ = some y ∧ W.drew.cell? ⟨b, 0, none⟩ = some z ∧ W.drew.cell? ⟨b, 1, none⟩ = some u ∧ Below w.heap.size w W.drew ∧ w.heap.size ≤ W.drew.heap.size := keep4 h ((Below.refl _ _).drew)
theorem keep4B {w W : World} {a b : Nat} {x y z u : Value} (h : W.cell? ⟨a, 0, none⟩ = some x ∧ W.cell? ⟨a, 1, none⟩ = some y ∧ W.cell? ⟨b, 0, none⟩ = some z ∧ W.cell? ⟨b, 1, none⟩ = some u ∧ Below w.heap.size w W ∧ w.heap.size ≤ W.heap.size) : Below w.heap.size w W := h.2.2.2.2.1
theorem bag_empty {w : World} {X : Nat} (hX : w.heap.size = X) : Bag (w.alloc (.cells #[] 53)) X X 0 [] [] := by subst hX; exact Bag.empty w
theorem short_acr {ls : List RT} (h : ∀ c ∈ ls, Short c) (k : Nat) : Short (acr ls k) := by
  intro i hi
  simp only [acr, List.length_map] at hi
  simp only [acr, List.getElem_map]
  by_cases hk : k < ls[i].length
  · rw [getD_lt hk]; exact h _ (List.getElem_mem hi) k hk
  · rw [List.getD_eq_getElem?_getD, List.getElem?_eq_none (by omega)]
    show (0 : Nat) ≤ maxLen
    exact Nat.zero_le _
theorem batR_small (ls : List RT) (bs : List Bool) (h : Ok2 ls) : (batR ls bs).length ≤ 4 ∧ total (batR ls bs) ≤ 16 ∧ Ok2 (batR ls bs) := by
  unfold batR
  by_cases hE : batB ls bs.length = true
  · rw [if_pos hE]
    obtain ⟨h4, h5, hin⟩ := batB_in hE
    have hl := pckN_len ls bs bs.length
    have hr : ∀ r ∈ pckN ls bs bs.length, r.length ≤ 4 ∧ Short r := by
      intro r hr
      obtain ⟨k, -, rfl⟩ := List.mem_map.1 hr
      exact ⟨by rw [acr_len]; exact h4, short_acr (fun c hc => (h.2 c hc).2) k⟩
    refine ⟨by omega, ?_, by omega, fun r hr' => ⟨by have := (hr r hr').1; omega, (hr r hr').2⟩⟩
    have : ∀ (l : List RT), (∀ r ∈ l, r.length ≤ 4) → total l ≤ 4 * l.length := by
      intro l
      induction l with
      | nil => intro _; simp [total]
      | cons x l ih =>
        intro hx
        have h1 := hx x (by simp)
        have h2 := ih (fun r hr => hx r (by simp [hr]))
        simp only [total, List.map_cons, List.sum_cons, List.length_cons] at h2 ⊢
        omega
    have := this _ (fun r hr' => (hr r hr').1)
    omega
  · rw [if_neg hE]
    exact ⟨by simp, by simp [total], by simp, fun r hr => absurd hr (by simp)⟩
theorem Box2.onlyI {x lo hi : Nat} {u v : Value} {w w' : World} (h : Box2 x u v w) (ho : OnlyI lo hi w w') (hx : x < lo ∨ hi ≤ x) : Box2 x u v w' := by
  have hl := World.block_lt_of_cell? w ⟨x, 0, none⟩ h.1
  have hb := ho.block x hl hx
  exact ⟨(cellOf hb).trans h.1, (cellOf hb).trans h.2⟩
theorem keep4W {w W : World} {a b : Nat} {x y z u : Value} (h : W.cell? ⟨a, 0, none⟩ = some x ∧ W.cell? ⟨a, 1, none⟩ = some y ∧ W.cell? ⟨b, 0, none⟩ = some z ∧ W.cell? ⟨b, 1, none⟩ = some u ∧ Below w.heap.size w W ∧ w.heap.size ≤ W.heap.size) : W.cell? ⟨a, 0, none⟩ = some x ∧ W.cell? ⟨a, 1, none⟩ = some y ∧ W.cell? ⟨b, 0, none⟩ = some z ∧ W.cell? ⟨b, 1, none⟩ = some u ∧ Below w.heap.size w W ∧ w.heap.size ≤ W.heap.size := h
end Go.Proofs.Ytjidkjnlnenmbaa.Val
