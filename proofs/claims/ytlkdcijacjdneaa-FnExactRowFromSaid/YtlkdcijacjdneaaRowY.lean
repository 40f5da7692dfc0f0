/- RowFrom and RowBytes: what was written is read, what is read was written; what stays. -/
import Derived.Test.YtlkdcijacjdneaaRowR
import Derived.Test.YtlkdcijacjdneaaDrawR3
namespace Go.Proofs.Ytlkdcijacjdneaa.Val
open Go.RowKit
set_option linter.unusedVariables false
theorem goV_bytes (vs : List VT) (h : vs.all okV = true) (x : List UInt8) : goV vs.length (vs.flatMap bytesV ++ x) = some (vs, (vs.flatMap bytesV).length) := by
  induction vs with
  | nil => simp [goV]
  | cons v vs ih =>
    simp only [List.all_cons, Bool.and_eq_true] at h
    obtain ⟨k, n, s⟩ := v
    have hf := from_bytes k n s h.1 (vs.flatMap bytesV ++ x)
    have hb : bytesV (k, n, s) = bytesL k n s := rfl
    rw [List.length_cons, goV, List.flatMap_cons, List.append_assoc, hb, hf]
    simp only [List.drop_left, ih h.2, List.length_append]
theorem rfO_bytes (vs : List VT) (h : rowB vs = true) (x : List UInt8) : rfO (rbL vs ++ x) = some (vs, (rbL vs).length) := by
  have h4 : vs.length ≤ 4 := by simp only [rowB, Bool.and_eq_true, decide_eq_true_eq] at h; exact h.1
  have hL : rbL vs = UInt8.ofNat vs.length :: vs.flatMap bytesV := by rw [rbL, if_pos h]
  rw [hL]
  have hb : bAt (UInt8.ofNat vs.length :: vs.flatMap bytesV ++ x) 0 = (vs.length : Int) := by
    show ((UInt8.ofNat vs.length).toNat : Int) = _
    rw [UInt8.toNat_ofNat']; omega
  unfold rfO
  rw [hb, if_neg (by simp; omega), Int.toNat_natCast]
  show (goV vs.length (vs.flatMap bytesV ++ x)).map _ = _
  rw [goV_bytes vs (by simp only [rowB, Bool.and_eq_true] at h; exact h.2) x]
  simp; omega
theorem keepF (w : World) (gg : Nat) (L : List UInt8) {W : World} {g o : Nat} {A B : Option Addr} {xs : List Value} (h : RowAt W gg A L ∧ Fl W g o B xs ∧ Below w.heap.size w W ∧ w.heap.size ≤ W.heap.size) : Fl W g o B xs := h.2.1
theorem keepY {w W w1 : World} {gg g o : Nat} {A B : Option Addr} {L : List UInt8} {xs : List Value} (h : RowAt W gg A L ∧ Fl W g o B xs ∧ Below w.heap.size w W ∧ w.heap.size ≤ W.heap.size) (hb : Below W.heap.size W w1) : RowAt w1 gg A L ∧ Fl w1 g o B xs ∧ Below w.heap.size w w1 ∧ w.heap.size ≤ w1.heap.size :=
  ⟨h.1.below hb, h.2.1.below hb, h.2.2.1.trans (hb.mono h.2.2.2), Nat.le_trans h.2.2.2 hb.size⟩
theorem keepYD {w W : World} {gg g o : Nat} {A B : Option Addr} {L : List UInt8} {xs : List Value} (h : RowAt W gg A L ∧ Fl W g o B xs ∧ Below w.heap.size w W ∧ w.heap.size ≤ W.heap.size) : RowAt W.drew gg A L ∧ Fl W.drew g o B xs ∧ Below w.heap.size w W.drew ∧ w.heap.size ≤ W.drew.heap.size :=
  ⟨h.1.drew, h.2.1.drew, h.2.2.1.drew, h.2.2.2⟩
theorem keepYG {w W w1 : World} {gg g o N : Nat} {A B : Option Addr} {L : List UInt8} {xs : List Value} {row : Option Nat} (h : RowAt W gg A L ∧ Fl W g o B xs ∧ Below w.heap.size w W ∧ w.heap.size ≤ W.heap.size) (hg : W.grownBy w1 row) (h1 : gg < N) (h2 : 0 < xs.length → g < N) (h3 : w.heap.size ≤ N) (hrow : ∀ b, row = some b → N ≤ b) : RowAt w1 gg A L ∧ Fl w1 g o B xs ∧ Below w.heap.size w w1 ∧ w.heap.size ≤ w1.heap.size := by
  have ne : ∀ b, b < N → some b ≠ row := fun b hb e => by have := hrow b e.symm; omega
  refine ⟨h.1.keep fun hgg o => ⟨World.cell?_of_block (hg.block gg hgg (ne _ h1)), World.frozen?_of_block (hg.block gg hgg (ne _ h1))⟩, ⟨h.2.1.ad, fun j hj => ?_⟩, h.2.2.1.grown hg h.2.2.2 (fun b hb => by have := hrow b hb; omega), Nat.le_trans h.2.2.2 hg.size⟩
  exact (World.cell?_of_block (w := W) (hg.block g (h.2.1.lt (by omega)) (ne _ (h2 (by omega))))).trans (h.2.1.c j hj)
theorem goV_some (n : Nat) : ∀ (l : List UInt8) (vs : List VT) (e : Nat), goV n l = some (vs, e) → vs.length = n ∧ vs.all okV = true ∧ vs.flatMap bytesV = l.take e ∧ e ≤ l.length := by
  induction n with
  | zero =>
    intro l vs e h
    rw [goV] at h
    obtain ⟨rfl, rfl⟩ := Prod.mk.inj (Option.some.inj h)
    simp
  | succ n ih =>
    intro l vs e h
    rw [goV] at h
    rcases hf : fromO l with _ | ⟨k, x, s, m⟩
    · rw [hf] at h; cases h
    · rw [hf] at h
      obtain ⟨ho, hb, h0, hm⟩ := from_some hf
      rcases hg : goV n (l.drop m) with _ | ⟨us, d⟩
      · simp only [hg] at h; cases h
      · simp only [hg] at h
        obtain ⟨rfl, rfl⟩ := Prod.mk.inj (Option.some.inj h)
        obtain ⟨h1, h2, h3, h4⟩ := ih _ _ _ hg
        rw [List.length_drop] at h4
        refine ⟨by simp [h1], ?_, ?_, by omega⟩
        · rw [List.all_cons, h2, Bool.and_true]; exact ho
        · rw [List.flatMap_cons, h3]
          show bytesL k x ⟨s.toArray⟩ ++ _ = _
          rw [hb, List.take_add]
theorem rfO_some {l : List UInt8} {vs : List VT} {m : Nat} (h : rfO l = some (vs, m)) : rowB vs = true ∧ rbL vs = l.take m ∧ 0 < m ∧ m ≤ l.length := by
  unfold rfO at h
  split at h
  · cases h
  · rename_i hn
    rcases l with _ | ⟨b, t⟩
    · exact absurd (.inl rfl) hn
    · have hb : bAt (b :: t) 0 = (b.toNat : Int) := rfl
      rw [hb] at h hn
      rw [Int.toNat_natCast] at h
      rcases hg : goV b.toNat ((b :: t).drop 1) with _ | ⟨us, d⟩
      · rw [hg] at h; cases h
      · rw [hg] at h
        obtain ⟨rfl, rfl⟩ := Prod.mk.inj (Option.some.inj h)
        obtain ⟨h1, h2, h3, h4⟩ := goV_some _ _ _ _ hg
        have hB : rowB us = true := by
          unfold rowB
          rw [h2, Bool.and_true, decide_eq_true_eq]
          omega
        refine ⟨hB, ?_, by omega, ?_⟩
        · rw [rbL, if_pos hB, h3, h1, Nat.add_comm 1 d, List.take_succ_cons]
          simp
        · simp at h4 ⊢; omega
theorem rfO_less {l : List UInt8} {vs : List VT} {m : Nat} (h : rfO l = some (vs, m)) : rfO (l.take (m - 1)) = none := by
  obtain ⟨-, -, h0, hm⟩ := rfO_some h
  rcases h2 : rfO (l.take (m - 1)) with _ | ⟨vs2, m2⟩
  · rfl
  exfalso
  obtain ⟨hB, hb, -, hm2⟩ := rfO_some h2
  rw [List.length_take] at hm2
  rw [List.take_take, Nat.min_eq_left (by omega)] at hb
  have h3 := rfO_bytes vs2 hB (l.drop m2)
  rw [hb, List.take_append_drop, h] at h3
  have h4 := (Prod.mk.inj (Option.some.inj h3)).2
  simp at h4
  omega
theorem short_row {vs : List VT} (h : rowB vs = true) : Short vs := by
  intro i hi
  have ho := rowB_ok h i hi
  generalize vs[i] = v at ho
  obtain ⟨k, n, s⟩ := v
  show s.size ≤ maxLen
  rcases ok_cases k n s with h | ⟨-, -, he, -⟩ | ⟨-, -, -, he, -⟩ | ⟨-, -, he, -, -⟩ | ⟨-, -, he, -⟩ | ⟨-, -, he, -⟩
  · rw [okV] at ho; rw [h] at ho; cases ho
  all_goals (first | (rw [bytes_none he]; exact Nat.zero_le _) | (unfold maxLen; omega))
end Go.Proofs.Ytlkdcijacjdneaa.Val
