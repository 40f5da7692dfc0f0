/- Plain facts on the order of values. -/
import Derived.Test.YtjidkjnlnenmbaaTxt
namespace Go.Proofs.Ytjidkjnlnenmbaa.Val
open Go.RowKit
theorem bytesLess_tri : ∀ (a b : List UInt8), a ≠ b → Op.bytesLess a b = !Op.bytesLess b a
  | [], [], h => absurd rfl h
  | [], _ :: _, _ => rfl
  | _ :: _, [], _ => rfl
  | x :: a, y :: b, h => by
    simp only [Op.bytesLess]
    by_cases e : x = y
    · subst e
      have := bytesLess_tri a b (by intro e; exact h (by rw [e]))
      simp [this]
    · have b1 : (x == y) = false := by simpa using e
      have b2 : (y == x) = false := by simpa using fun h : y = x => e h.symm
      rcases Nat.lt_or_gt_of_ne (show x.toNat ≠ y.toNat from fun h => e (UInt8.toNat_inj.1 h)) with hl | hl
      · have a1 : decide (x < y) = true := decide_eq_true (UInt8.lt_iff_toNat_lt.2 hl)
        have a2 : decide (y < x) = false := decide_eq_false (fun h => by have := UInt8.lt_iff_toNat_lt.1 h; omega)
        rw [a1, a2, b1, b2]; rfl
      · have a1 : decide (y < x) = true := decide_eq_true (UInt8.lt_iff_toNat_lt.2 hl)
        have a2 : decide (x < y) = false := decide_eq_false (fun h => by have := UInt8.lt_iff_toNat_lt.1 h; omega)
        rw [a1, a2, b1, b2]; rfl
theorem cmpI_turn (a b : ByteArray) : cmpI b a = - cmpI a b := by
  unfold cmpI
  by_cases h : a.toList = b.toList
  · simp [h, bytesLess_self]
  · have := bytesLess_tri _ _ h
    have h' : ¬ b.toList = a.toList := fun e => h e.symm
    cases hb : Op.bytesLess b.toList a.toList <;> simp_all
theorem ordI_turn (k1 n1 k2 n2 : Int) (s1 s2 : ByteArray) : ordI k2 n2 s2 k1 n1 s1 = - ordI k1 n1 s1 k2 n2 s2 := by
  unfold ordI
  by_cases ho : okB k1 n1 s1 = false ∨ okB k2 n2 s2 = false
  · rw [if_pos ho, if_pos (Or.symm ho)]; rfl
  · rw [if_neg ho, if_neg (fun h => ho (Or.symm h)), cmpI_turn]
    by_cases hk : k1 = k2
    · subst hk
      by_cases hn : n1 = n2
      · subst hn; simp
      · have hn' : ¬ n2 = n1 := fun e => hn e.symm
        simp [hn, hn']; split <;> split <;> omega
    · have hk' : ¬ k2 = k1 := fun e => hk e.symm
      simp [hk, hk']; split <;> split <;> omega
theorem cmpI_bd (a b : ByteArray) : -1 ≤ cmpI a b ∧ cmpI a b ≤ 1 := by unfold cmpI; split <;> (try split) <;> omega
theorem ordI_bd (k1 n1 k2 n2 : Int) (s1 s2 : ByteArray) : -1 ≤ ordI k1 n1 s1 k2 n2 s2 ∧ ordI k1 n1 s1 k2 n2 s2 ≤ 1 := by
  have := cmpI_bd s1 s2
  unfold ordI; repeat' split
  all_goals omega
theorem cmpI_zero (a b : ByteArray) : cmpI a b = 0 ↔ a.toList = b.toList := by
  unfold cmpI
  by_cases h : a.toList = b.toList
  · simp [h, bytesLess_self]
  · have := bytesLess_tri _ _ h
    cases hb : Op.bytesLess a.toList b.toList <;> simp_all
theorem ordI_zero (k1 n1 k2 n2 : Int) (s1 s2 : ByteArray) (h1 : okB k1 n1 s1 = true) (h2 : okB k2 n2 s2 = true) : ordI k1 n1 s1 k2 n2 s2 = 0 ↔ (k1 = k2 ∧ n1 = n2 ∧ s1.toList = s2.toList) := by
  unfold ordI
  rw [if_neg (by simp [h1, h2])]
  by_cases hk : k1 = k2
  · by_cases hn : n1 = n2
    · simp [hk, hn, cmpI_zero]
    · simp [hk, hn]; split <;> omega
  · simp [hk]; split <;> omega
theorem okB_kind (k n : Int) (s : ByteArray) (h : okB k n s = true) : 0 ≤ k ∧ k ≤ 3 := by
  rcases ok_cases k n s with h' | ⟨rfl, _⟩ | ⟨rfl, _⟩ | ⟨rfl, _⟩ | ⟨rfl, _⟩ | ⟨rfl, _⟩ <;> first | omega | (rw [h] at h'; cases h')
theorem ordI_none (k n : Int) (s : ByteArray) (h : okB k n s = true) (hk : k ≠ 0) : ordI 0 0 ⟨#[]⟩ k n s = -1 := by
  have := okB_kind k n s h
  unfold ordI
  rw [if_neg (by rw [h]; simp; decide +kernel), if_pos (by omega), if_neg (by omega)]
end Go.Proofs.Ytjidkjnlnenmbaa.Val
