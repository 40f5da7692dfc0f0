/- alive, and the plain facts on the order of values. -/
import Derived.Test.YtcaggcehcdikmaaDraw2
namespace Go.Proofs.Ytcaggcehcdikmaa.Val
open Go.RowKit
theorem alive (w : World) : Calls Try.prog 20 #[] w fun e w' => e = .returned (.bool true) ∧ Below w.heap.size w w' := by
  have o1 : okB 1 3 ⟨#[]⟩ = true := by decide +kernel
  have o2 : okB 9 0 ⟨#[]⟩ = false := by decide +kernel
  go_enter Try.func20, Try.ntmps20
  go_wp2_with ((go_at_call 16; ((with_reducible refine (valueOk _ _ _ _ (by decide)).mono ?_); (try (have hc10 := hc9; have hf10 := hf9; have hz10 := hz9; have hb10 := hb9; clear hc9 hf9 hz9 hb9)); (try (have hc9 := hc8; have hf9 := hf8; have hz9 := hz8; have hb9 := hb8; clear hc8 hf8 hz8 hb8)); (try (have hc8 := hc7; have hf8 := hf7; have hz8 := hz7; have hb8 := hb7; clear hc7 hf7 hz7 hb7)); (try (have hc7 := hc6; have hf7 := hf6; have hz7 := hz6; have hb7 := hb6; clear hc6 hf6 hz6 hb6)); (try (have hc6 := hc5; have hf6 := hf5; have hz6 := hz5; have hb6 := hb5; clear hc5 hf5 hz5 hb5)); (try (have hc5 := hc4; have hf5 := hf4; have hz5 := hz4; have hb5 := hb4; clear hc4 hf4 hz4 hb4)); (try (have hc4 := hc3; have hf4 := hf3; have hz4 := hz3; have hb4 := hb3; clear hc3 hf3 hz3 hb3)); (try (have hc3 := hc2; have hf3 := hf2; have hz3 := hz2; have hb3 := hb2; clear hc2 hf2 hz2 hb2)); (try (have hc2 := hc1; have hf2 := hf1; have hz2 := hz1; have hb2 := hb1; clear hc1 hf1 hz1 hb1)); rintro e w1 ⟨rfl, hb1⟩; obtain ⟨hc1, hf1⟩ := bcell hb1; (try simp only [World.size_drew, World.cell?_drew, World.frozen?_drew] at hc1 hf1); have hz1 := hb1.size; (try simp at hz1))))
  all_goals (go_ret; exact ⟨rfl, by (repeat (with_reducible first | exact Below.refl _ _ | (refine Below.trans ?_ (Below.mono hb1 (by first | omega | (simp; done) | (simp; omega))); clear hb1) | (refine Below.trans ?_ (Below.mono hb2 (by first | omega | (simp; done) | (simp; omega))); clear hb2) | (refine Below.trans ?_ (Below.mono hb3 (by first | omega | (simp; done) | (simp; omega))); clear hb3) | (refine Below.trans ?_ (Below.mono hb4 (by first | omega | (simp; done) | (simp; omega))); clear hb4) | (refine Below.trans ?_ (Below.mono hb5 (by first | omega | (simp; done) | (simp; omega))); clear hb5) | (refine Below.trans ?_ (Below.mono hb6 (by first | omega | (simp; done) | (simp; omega))); clear hb6) | (refine Below.trans ?_ (Below.mono hb7 (by first | omega | (simp; done) | (simp; omega))); clear hb7) | (refine Below.trans ?_ (Below.mono hb8 (by first | omega | (simp; done) | (simp; omega))); clear hb8) | (refine Below.trans ?_ (Below.mono hb9 (by first | omega | (simp; done) | (simp; omega))); clear hb9) | (refine Below.trans ?_ (Below.mono hb10 (by first | omega | (simp; done) | (simp; omega))); clear hb10) | refine Below.alloc ?_ (by first | omega | (simp; done) | (simp; omega)) _ | refine Below.setCell ?_ (by first | omega | (simp; done) | (simp; omega)) _ | refine Below.drew ?_))⟩)
theorem bytesLess_tri : ∀ (a b : List UInt8), a ≠ b → Op.bytesLess a b = !Op.bytesLess b a
  | [], [], h => absurd rfl h
  | [], _ :: _, _ => rfl
  | _ :: _, [], _ => rfl
  | x :: a, y :: b, h => by
    simp only [Op.bytesLess]
    by_cases e : x = y
    · subst e
      have := bytesLess_tri a b (by intro e; exact h (by rw [e]))
      simp [this]
    · have b1 : (x == y) = false := by simpa using e
      have b2 : (y == x) = false := by simpa using fun h : y = x => e h.symm
      rcases Nat.lt_or_gt_of_ne (show x.toNat ≠ y.toNat from fun h => e (UInt8.toNat_inj.1 h)) with hl | hl
      · have a1 : decide (x < y) = true := decide_eq_true (UInt8.lt_iff_toNat_lt.2 hl)
        have a2 : decide (y < x) = false := decide_eq_false (fun h => by have := UInt8.lt_iff_toNat_lt.1 h; omega)
        rw [a1, a2, b1, b2]; rfl
      · have a1 : decide (y < x) = true := decide_eq_true (UInt8.lt_iff_toNat_lt.2 hl)
        have a2 : decide (x < y) = false := decide_eq_false (fun h => by have := UInt8.lt_iff_toNat_lt.1 h; omega)
        rw [a1, a2, b1, b2]; rfl
theorem cmpI_turn (a b : ByteArray) : cmpI b a = - cmpI a b := by
  unfold cmpI
  by_cases h : a.toList = b.toList
  · simp [h, bytesLess_self]
  · have := bytesLess_tri _ _ h
    have h' : ¬ b.toList = a.toList := fun e => h e.symm
    cases hb : Op.bytesLess b.toList a.toList <;> simp_all
theorem ordI_turn (k1 n1 k2 n2 : Int) (s1 s2 : ByteArray) : ordI k2 n2 s2 k1 n1 s1 = - ordI k1 n1 s1 k2 n2 s2 := by
  unfold ordI
  by_cases ho : okB k1 n1 s1 = false ∨ okB k2 n2 s2 = false
  · rw [if_pos ho, if_pos (Or.symm ho)]; rfl
  · rw [if_neg ho, if_neg (fun h => ho (Or.symm h)), cmpI_turn]
    by_cases hk : k1 = k2
    · subst hk
      by_cases hn : n1 = n2
      · subst hn; simp
      · have hn' : ¬ n2 = n1 := fun e => hn e.symm
        simp [hn, hn']; split <;> split <;> omega
    · have hk' : ¬ k2 = k1 := fun e => hk e.symm
      simp [hk, hk']; split <;> split <;> omega
theorem cmpI_bd (a b : ByteArray) : -1 ≤ cmpI a b ∧ cmpI a b ≤ 1 := by unfold cmpI; split <;> (try split) <;> omega
theorem ordI_bd (k1 n1 k2 n2 : Int) (s1 s2 : ByteArray) : -1 ≤ ordI k1 n1 s1 k2 n2 s2 ∧ ordI k1 n1 s1 k2 n2 s2 ≤ 1 := by
  have := cmpI_bd s1 s2
  unfold ordI; repeat' split
  all_goals omega
theorem cmpI_zero (a b : ByteArray) : cmpI a b = 0 ↔ a.toList = b.toList := by
  unfold cmpI
  by_cases h : a.toList = b.toList
  · simp [h, bytesLess_self]
  · have := bytesLess_tri _ _ h
    cases hb : Op.bytesLess a.toList b.toList <;> simp_all
theorem ordI_zero (k1 n1 k2 n2 : Int) (s1 s2 : ByteArray) (h1 : okB k1 n1 s1 = true) (h2 : okB k2 n2 s2 = true) : ordI k1 n1 s1 k2 n2 s2 = 0 ↔ (k1 = k2 ∧ n1 = n2 ∧ s1.toList = s2.toList) := by
  unfold ordI
  rw [if_neg (by simp [h1, h2])]
  by_cases hk : k1 = k2
  · by_cases hn : n1 = n2
    · simp [hk, hn, cmpI_zero]
    · simp [hk, hn]; split <;> omega
  · simp [hk]; split <;> omega
theorem okB_kind (k n : Int) (s : ByteArray) (h : okB k n s = true) : 0 ≤ k ∧ k ≤ 3 := by
  rcases ok_cases k n s with h' | ⟨rfl, _⟩ | ⟨rfl, _⟩ | ⟨rfl, _⟩ | ⟨rfl, _⟩ | ⟨rfl, _⟩ <;> first | omega | (rw [h] at h'; cases h')
theorem ordI_none (k n : Int) (s : ByteArray) (h : okB k n s = true) (hk : k ≠ 0) : ordI 0 0 ⟨#[]⟩ k n s = -1 := by
  have := okB_kind k n s h
  unfold ordI
  rw [if_neg (by rw [h]; simp; decide +kernel), if_pos (by omega), if_neg (by omega)]
end Go.Proofs.Ytcaggcehcdikmaa.Val
