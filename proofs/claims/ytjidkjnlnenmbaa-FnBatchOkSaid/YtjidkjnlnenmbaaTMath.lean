/- Truths: the plain functions that both sides reckon. -/
import Derived.Test.YtjidkjnlnenmbaaAMath
namespace Go.Proofs.Ytjidkjnlnenmbaa.Val
open Go.RowKit
def tB (n : Int) : Bool := decide (0 ≤ n) && decide (n ≤ 2)
def pl (n : Int) : Int := if n = 1 then 2 else if n = 2 then 1 else n
def andI (a b : Int) : Int := if (tB a && tB b) = true then (if pl a < pl b then a else b) else -1
def orI (a b : Int) : Int := if (tB a && tB b) = true then (if pl a > pl b then a else b) else -1
def notI (a : Int) : Int := if a = 0 then 1 else if a = 1 then 0 else if a = 2 then 2 else -1
def toI (k n : Int) (s : ByteArray) : Int := if okB k n s = true then (if k = 0 then 2 else if k = 3 then n else -1) else -1
def holdB (kind o : Int) : Bool := if kind = 1 then decide (o = 0) else if kind = 2 then decide (o ≠ 0) else if kind = 3 then decide (o < 0) else decide (o ≤ 0)
def compI (kind k1 n1 : Int) (s1 : ByteArray) (k2 n2 : Int) (s2 : ByteArray) : Int :=
  if kind < 1 ∨ 4 < kind ∨ okB k1 n1 s1 = false ∨ okB k2 n2 s2 = false then -1
  else if k1 = 0 ∨ k2 = 0 then 2
  else if k1 ≠ k2 then -1
  else if holdB kind (ordI k1 n1 s1 k2 n2 s2) = true then 1 else 0
theorem tB_cases {n : Int} (h : tB n = true) : n = 0 ∨ n = 1 ∨ n = 2 := by simp [tB] at h; omega
theorem tB_no {n : Int} (h : tB n = false) : n ≠ 0 ∧ n ≠ 1 ∧ n ≠ 2 := by simp [tB] at h; omega
theorem tB_or {a b : Int} (h : ¬ (tB a = true ∧ tB b = true)) : tB a = false ∨ tB b = false := by
  cases ha : tB a
  · exact .inl rfl
  cases hb : tB b
  · exact .inr rfl
  exact absurd ⟨ha, hb⟩ h
theorem andI_no {a b : Int} (h : tB a = false ∨ tB b = false) : andI a b = -1 := by unfold andI; rcases h with h | h <;> simp [h]
theorem orI_no {a b : Int} (h : tB a = false ∨ tB b = false) : orI a b = -1 := by unfold orI; rcases h with h | h <;> simp [h]
theorem notI_no {a : Int} (h : tB a = false) : notI a = -1 := by have := tB_no h; unfold notI; simp [this]
theorem andI_neg {a b : Int} : andI a b < 0 ↔ (tB a = false ∨ tB b = false) := by
  constructor
  · intro h
    cases ha : tB a
    · exact .inl rfl
    cases hb : tB b
    · exact .inr rfl
    have h1 := tB_cases ha; have h2 := tB_cases hb
    unfold andI at h; rw [if_pos (by simp [ha, hb])] at h; split at h <;> omega
  · intro h; rw [andI_no h]; omega
theorem orI_neg {a b : Int} : orI a b < 0 ↔ (tB a = false ∨ tB b = false) := by
  constructor
  · intro h
    cases ha : tB a
    · exact .inl rfl
    cases hb : tB b
    · exact .inr rfl
    have h1 := tB_cases ha; have h2 := tB_cases hb
    unfold orI at h; rw [if_pos (by simp [ha, hb])] at h; split at h <;> omega
  · intro h; rw [orI_no h]; omega
theorem three {P : Int → Prop} (h0 : P 0) (h1 : P 1) (h2 : P 2) (a : Int) (h : tB a = true) : P a := by
  rcases tB_cases h with rfl | rfl | rfl <;> assumption
theorem andI_comm (a b : Int) : andI a b = andI b a := by
  cases ha : tB a
  · rw [andI_no (.inl ha), andI_no (.inr ha)]
  cases hb : tB b
  · rw [andI_no (.inr hb), andI_no (.inl hb)]
  rcases tB_cases ha with rfl | rfl | rfl <;> rcases tB_cases hb with rfl | rfl | rfl <;> decide
theorem orI_comm (a b : Int) : orI a b = orI b a := by
  cases ha : tB a
  · rw [orI_no (.inl ha), orI_no (.inr ha)]
  cases hb : tB b
  · rw [orI_no (.inr hb), orI_no (.inl hb)]
  rcases tB_cases ha with rfl | rfl | rfl <;> rcases tB_cases hb with rfl | rfl | rfl <;> decide
theorem andI_turn {a b : Int} (ha : tB a = true) (hb : tB b = true) : notI (orI (notI a) (notI b)) = andI a b := by
  rcases tB_cases ha with rfl | rfl | rfl <;> rcases tB_cases hb with rfl | rfl | rfl <;> decide
theorem andI_three {a b c : Int} (ha : tB a = true) (hb : tB b = true) (hc : tB c = true) : andI a (andI b c) = andI (andI a b) c := by
  rcases tB_cases ha with rfl | rfl | rfl <;> rcases tB_cases hb with rfl | rfl | rfl <;> rcases tB_cases hc with rfl | rfl | rfl <;> decide
theorem orI_spread {a b c : Int} (ha : tB a = true) (hb : tB b = true) (hc : tB c = true) : andI (orI c a) (orI c b) = orI c (andI a b) := by
  rcases tB_cases ha with rfl | rfl | rfl <;> rcases tB_cases hb with rfl | rfl | rfl <;> rcases tB_cases hc with rfl | rfl | rfl <;> decide
theorem hold_not (o : Int) : holdB 1 o = !holdB 2 o := by simp [holdB]
theorem hold_turn (o : Int) : holdB 3 o = !holdB 4 (-o) := by simp [holdB]; by_cases h : o < 0 <;> simp [h] <;> omega
theorem compI_no {kind k1 n1 k2 n2 : Int} {s1 s2 : ByteArray} (h : okB k1 n1 s1 = false ∨ okB k2 n2 s2 = false) : compI kind k1 n1 s1 k2 n2 s2 = -1 := by
  unfold compI; rw [if_pos (.inr (.inr h))]
theorem compI_yes {kind k1 n1 k2 n2 : Int} {s1 s2 : ByteArray} (hk : 1 ≤ kind) (hk4 : kind ≤ 4) (h : ¬ (okB k1 n1 s1 = false ∨ okB k2 n2 s2 = false)) :
    compI kind k1 n1 s1 k2 n2 s2 = if k1 = 0 ∨ k2 = 0 then 2 else if k1 ≠ k2 then -1 else if holdB kind (ordI k1 n1 s1 k2 n2 s2) = true then 1 else 0 := by
  unfold compI; rw [if_neg]; rintro (h' | h' | h') <;> first | omega | exact h h'
theorem compI_not (k1 n1 k2 n2 : Int) (s1 s2 : ByteArray) : notI (compI 2 k1 n1 s1 k2 n2 s2) = compI 1 k1 n1 s1 k2 n2 s2 := by
  by_cases h : okB k1 n1 s1 = false ∨ okB k2 n2 s2 = false
  · rw [compI_no h, compI_no h]; rfl
  · rw [compI_yes (by omega) (by omega) h, compI_yes (by omega) (by omega) h, hold_not]
    by_cases h0 : k1 = 0 ∨ k2 = 0
    · rw [if_pos h0, if_pos h0]; rfl
    · rw [if_neg h0, if_neg h0]
      by_cases h1 : k1 ≠ k2
      · rw [if_pos h1, if_pos h1]; rfl
      · rw [if_neg h1, if_neg h1]; cases holdB 2 (ordI k1 n1 s1 k2 n2 s2) <;> rfl
theorem compI_turn (k1 n1 k2 n2 : Int) (s1 s2 : ByteArray) : notI (compI 4 k2 n2 s2 k1 n1 s1) = compI 3 k1 n1 s1 k2 n2 s2 := by
  by_cases h : okB k1 n1 s1 = false ∨ okB k2 n2 s2 = false
  · rw [compI_no h, compI_no (Or.symm h)]; rfl
  · rw [compI_yes (by omega) (by omega) h, compI_yes (by omega) (by omega) (fun h' => h (Or.symm h')), hold_turn, ordI_turn k1 n1 k2 n2]
    by_cases h0 : k1 = 0 ∨ k2 = 0
    · rw [if_pos h0, if_pos (Or.symm h0)]; rfl
    · rw [if_neg h0, if_neg (fun h' => h0 (Or.symm h'))]
      by_cases h1 : k1 = k2
      · have a1 : ¬ (k2 ≠ k1) := fun h => h h1.symm
        have a2 : ¬ (k1 ≠ k2) := fun h => h h1
        rw [if_neg a1, if_neg a2]; cases holdB 4 (-ordI k1 n1 s1 k2 n2 s2) <;> rfl
      · rw [if_pos (fun e : k2 = k1 => h1 e.symm), if_pos h1]; rfl
theorem compI_none {kind n1 k2 n2 : Int} {s1 s2 : ByteArray} (h0 : 0 ≤ compI kind 0 n1 s1 k2 n2 s2) : compI kind 0 n1 s1 k2 n2 s2 = 2 := by
  unfold compI at h0 ⊢
  by_cases h : kind < 1 ∨ 4 < kind ∨ okB 0 n1 s1 = false ∨ okB k2 n2 s2 = false
  · rw [if_pos h] at h0; omega
  · rw [if_neg h, if_pos (.inl rfl)]
theorem bytes_none {s : ByteArray} (h : s.toList = []) : s = ⟨#[]⟩ := by
  rw [ByteArray.toList_eq] at h
  obtain ⟨d⟩ := s
  have : d = #[] := Array.toList_inj.1 (by simpa using h)
  rw [this]
theorem toI_back {k n : Int} {s : ByteArray} (h : toI k n s ≠ -1) : (toI k n s = 2 ∧ k = 0 ∧ n = 0 ∧ s = ⟨#[]⟩) ∨ (toI k n s = 0 ∧ k = 3 ∧ n = 0 ∧ s = ⟨#[]⟩) ∨ (toI k n s = 1 ∧ k = 3 ∧ n = 1 ∧ s = ⟨#[]⟩) := by
  rcases ok_cases k n s with ho | ⟨rfl, rfl, he, ho⟩ | ⟨rfl, _, _, he, ho⟩ | ⟨rfl, rfl, _, _, ho⟩ | ⟨rfl, rfl, he, ho⟩ | ⟨rfl, rfl, he, ho⟩
  · exact absurd (by unfold toI; rw [if_neg (by simp [ho])]) h
  · exact .inl ⟨by unfold toI; rw [if_pos ho]; rfl, rfl, rfl, bytes_none he⟩
  · exact absurd (by unfold toI; rw [if_pos ho]; rfl) h
  · exact absurd (by unfold toI; rw [if_pos ho]; rfl) h
  · exact .inr (.inl ⟨by unfold toI; rw [if_pos ho]; rfl, rfl, rfl, bytes_none he⟩)
  · exact .inr (.inr ⟨by unfold toI; rw [if_pos ho]; rfl, rfl, rfl, bytes_none he⟩)
end Go.Proofs.Ytjidkjnlnenmbaa.Val
