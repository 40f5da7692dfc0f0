/- Plain facts on reading texts of values back (no program). -/
import Derived.Test.YtlkdcijacjdneaaVMath
import Derived.Lib.Strings
namespace Go.Proofs.Ytlkdcijacjdneaa.Val
/-- A digit's byte. -/
def isDig (c : UInt8) : Prop := 48 ≤ c.toNat ∧ c.toNat ≤ 57
theorem decC_toNat (n : Nat) : (decC n).toNat = 48 + n % 10 := by
  unfold decC; rw [UInt8.toNat_ofNat']; omega
/-- The number that a list of bytes spells, digit or not. -/
def valI (l : List UInt8) : Int := l.foldl (fun n c => n * 10 + (c.toNat : Int) - 48) 0
theorem valI_snoc (l : List UInt8) (c : UInt8) : valI (l ++ [c]) = valI l * 10 + (c.toNat : Int) - 48 := by simp [valI]
theorem decZ_facts (m : Nat) : valI (decZ m) = m ∧ (∀ c ∈ decZ m, isDig c) ∧ (0 < m → ∃ c t, decZ m = c :: t ∧ c ≠ 48) := by
  induction m using Nat.strongRecOn with
  | ind m ih =>
    by_cases h : m = 0
    · subst h; rw [decZ_zero]; exact ⟨rfl, by simp, by omega⟩
    · obtain ⟨h1, h2, h3⟩ := ih (m / 10) (by omega)
      rw [decZ_pos m (by omega)]
      refine ⟨?_, ?_, fun _ => ?_⟩
      · rw [valI_snoc, h1, decC_toNat]; omega
      · intro c hc
        rcases List.mem_append.1 hc with hc | hc
        · exact h2 c hc
        · have : c = decC m := by simpa using hc
          subst this; unfold isDig; rw [decC_toNat]; omega
      · by_cases hs : m / 10 = 0
        · rw [hs, decZ_zero]
          refine ⟨decC m, [], rfl, fun e => ?_⟩
          have := congrArg UInt8.toNat e
          rw [decC_toNat] at this
          have h48 : (48 : UInt8).toNat = 48 := rfl
          omega
        · obtain ⟨c, t, e, hc⟩ := h3 (by omega)
          exact ⟨c, t ++ [decC m], by rw [e]; rfl, hc⟩
theorem decZ_lenN : ∀ (k m : Nat), m < 10 ^ k → (decZ m).length ≤ k
  | 0, m, h => by have : m = 0 := by simpa using h
                  subst this; rw [decZ_zero]; simp
  | k + 1, m, h => by
    by_cases hm : m = 0
    · subst hm; rw [decZ_zero]; simp
    · rw [decZ_pos m (by omega)]
      have := decZ_lenN k (m / 10) (by rw [Nat.pow_succ] at h; omega)
      simp; omega
theorem decL_facts (m : Nat) (hm : m ≤ 9999) : valI (decL m) = m ∧ (∀ c ∈ decL m, isDig c) ∧ 1 ≤ (decL m).length ∧ (decL m).length ≤ 4 ∧ (∃ c t, decL m = c :: t ∧ (t ≠ [] → c ≠ 48)) := by
  unfold decL
  by_cases h : m = 0
  · subst h; rw [if_pos rfl]
    exact ⟨rfl, by intro c hc; simp at hc; subst hc; exact ⟨by decide, by decide⟩, by simp, by simp, 48, [], rfl, fun h => absurd rfl h⟩
  · rw [if_neg h]
    obtain ⟨h1, h2, h3⟩ := decZ_facts m
    obtain ⟨c, t, e, hc⟩ := h3 (by omega)
    refine ⟨h1, h2, by rw [e]; simp, decZ_lenN 4 m (by omega), c, t, e, fun _ => hc⟩
theorem decI_neg (n : Int) (h : n < 0) : decI n = 45 :: decL n.natAbs := by unfold decI; rw [if_pos h]
theorem decI_pos (n : Int) (h : 0 ≤ n) : decI n = decL n.natAbs := by unfold decI; rw [if_neg (by omega)]
theorem dig_ne (c : UInt8) (h : isDig c) (d : UInt8) (hd : d.toNat < 48 ∨ 57 < d.toNat) : c ≠ d := by
  rintro rfl; unfold isDig at h; omega
/-- The first byte of a number's text. -/
theorem decI_head (n : Int) (h0 : -9999 ≤ n) (h1 : n ≤ 9999) : ∃ c t, decI n = c :: t ∧ (n < 0 ∧ c = 45 ∧ t = decL n.natAbs ∨ 0 ≤ n ∧ isDig c) := by
  obtain ⟨_, hd, _, _, c, t, e, _⟩ := decL_facts n.natAbs (by omega)
  by_cases h : n < 0
  · exact ⟨45, decL n.natAbs, decI_neg n h, .inl ⟨h, rfl, rfl⟩⟩
  · exact ⟨c, t, by rw [decI_pos n (by omega), e], .inr ⟨by omega, hd c (by rw [e]; simp)⟩⟩
theorem decI_inj (n m : Int) (hn0 : -9999 ≤ n) (hn1 : n ≤ 9999) (hm0 : -9999 ≤ m) (hm1 : m ≤ 9999) (h : decI n = decI m) : n = m := by
  have key : ∀ a b : Nat, a ≤ 9999 → b ≤ 9999 → decL a = decL b → a = b := fun a b ha hb e => by
    have := congrArg valI e
    rw [(decL_facts a ha).1, (decL_facts b hb).1] at this; omega
  have d45 : ¬ isDig 45 := by unfold isDig; decide
  obtain ⟨c, t, e, hc⟩ := decI_head n hn0 hn1
  obtain ⟨c', t', e', hc'⟩ := decI_head m hm0 hm1
  rw [e, e'] at h
  injection h with h1 h2
  rcases hc with ⟨a1, a2, a3⟩ | ⟨a1, a2⟩ <;> rcases hc' with ⟨b1, b2, b3⟩ | ⟨b1, b2⟩
  · have := key _ _ (by omega) (by omega) (a3.symm.trans (h2.trans b3)); omega
  · exact absurd b2 (by rw [← h1, a2]; exact d45)
  · exact absurd a2 (by rw [h1, b2]; exact d45)
  · have := key _ _ (by omega) (by omega) (show decL n.natAbs = decL m.natAbs by rw [← decI_pos n a1, ← decI_pos m b1, e, e', h1, h2]); omega
theorem fold_bd : ∀ (l : List UInt8) (a A : Int), 0 ≤ A → -A ≤ a → a ≤ A → -((A + 23) * 10 ^ l.length - 23) ≤ l.foldl (fun n c => n * 10 + (c.toNat : Int) - 48) a ∧ l.foldl (fun n c => n * 10 + (c.toNat : Int) - 48) a ≤ (A + 23) * 10 ^ l.length - 23
  | [], a, A, h0, h1, h2 => by simp; omega
  | c :: l, a, A, h0, h1, h2 => by
    have hc := c.toNat_lt
    have ih := fold_bd l (a * 10 + (c.toNat : Int) - 48) (10 * A + 207) (by omega) (by omega) (by omega)
    simp only [List.foldl_cons, List.length_cons]
    have e : (10 * A + 207 + 23) * 10 ^ l.length = (A + 23) * 10 ^ (l.length + 1) := by
      rw [Int.pow_succ, show (10 * A + 207 + 23 : Int) = (A + 23) * 10 by omega, Int.mul_assoc, Int.mul_comm 10]
    rw [e] at ih
    exact ih
theorem valI_bd (l : List UInt8) (h : l.length ≤ 4) : -300000 ≤ valI l ∧ valI l ≤ 300000 := by
  have hb := fold_bd l 0 0 (by omega) (by omega) (by omega)
  have : l.length = 0 ∨ l.length = 1 ∨ l.length = 2 ∨ l.length = 3 ∨ l.length = 4 := by omega
  unfold valI
  rcases this with e | e | e | e | e <;> rw [e] at hb <;> simp at hb <;> omega
/-- Where a number has the text l, reading finds it. -/
theorem num_find (l : List UInt8) (m : Int) (h0 : -9999 ≤ m) (h1 : m ≤ 9999) (e : decI m = l) :
    (∀ t, l = 45 :: t → m < 0 ∧ t.length ≤ 4 ∧ -valI t = m) ∧ ((∀ t, l ≠ 45 :: t) → 0 ≤ m ∧ 1 ≤ l.length ∧ l.length ≤ 4 ∧ valI l = m) := by
  obtain ⟨v, hd, l1, l4, _⟩ := decL_facts m.natAbs (by omega)
  obtain ⟨c, t, ec, hc⟩ := decI_head m h0 h1
  constructor
  · intro t' e'
    rcases hc with ⟨a, b, d⟩ | ⟨a, b⟩
    · have : t' = decL m.natAbs := by
        have := e.symm.trans ec
        rw [e'] at this; injection this with _ h2; rw [h2, d]
      subst this
      exact ⟨a, l4, by rw [v]; omega⟩
    · exfalso
      have := e.symm.trans ec
      rw [e'] at this; injection this with h2 _
      subst h2; exact absurd b (by unfold isDig; decide)
  · intro hn
    rcases hc with ⟨a, b, d⟩ | ⟨a, b⟩
    · exact absurd (e.symm.trans ec) (by rw [b]; exact hn t)
    · rw [decI_pos m a] at e
      subst e
      exact ⟨a, l1, l4, by rw [v]; omega⟩
/-- What numberRead leaves: the number that has the text l, or nothing where none has. -/
def NumR (l : List UInt8) (n : Int) (b : Bool) : Prop := (b = true ∧ -9999 ≤ n ∧ n ≤ 9999 ∧ decI n = l) ∨ (b = false ∧ n = 0 ∧ ∀ m, -9999 ≤ m → m ≤ 9999 → decI m ≠ l)
theorem numB_iff (n : Int) : numB n = true ↔ (-9999 ≤ n ∧ n ≤ 9999) := by simp [numB]
end Go.Proofs.Ytlkdcijacjdneaa.Val
