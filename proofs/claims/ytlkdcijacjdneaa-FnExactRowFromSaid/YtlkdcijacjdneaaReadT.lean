/- Texts of values tell them apart. -/
import Derived.Test.YtlkdcijacjdneaaTxt
import Derived.Test.YtlkdcijacjdneaaRMath
namespace Go.Proofs.Ytlkdcijacjdneaa.Val
open Go.RowKit
theorem ba_nil (t : ByteArray) (h : t.toList = []) : t = ⟨#[]⟩ := by
  rw [Lib.toList_data] at h
  apply ByteArray.ext
  exact Array.toList_inj.1 (by simpa using h)
theorem ok_text (k n : Int) (t : ByteArray) (h : okB k n t = true) :
    (k = 0 ∧ n = 0 ∧ t = ⟨#[]⟩ ∧ textL k n t = [110, 111, 110, 101]) ∨ (k = 1 ∧ -9999 ≤ n ∧ n ≤ 9999 ∧ t = ⟨#[]⟩ ∧ textL k n t = decI n) ∨
    (k = 2 ∧ n = 0 ∧ t.size ≤ 6 ∧ letB t.data.toList = true ∧ textL k n t = 39 :: (t.data.toList ++ [39])) ∨ (k = 3 ∧ n = 0 ∧ t = ⟨#[]⟩ ∧ textL k n t = [102, 97, 108, 115, 101]) ∨
    (k = 3 ∧ n = 1 ∧ t = ⟨#[]⟩ ∧ textL k n t = [116, 114, 117, 101]) := by
  rcases ok_cases k n t with h' | ⟨rfl, rfl, hl, _⟩ | ⟨rfl, h1, h2, hl, _⟩ | ⟨rfl, rfl, hz, hl, _⟩ | ⟨rfl, rfl, hl, _⟩ | ⟨rfl, rfl, hl, _⟩
  · rw [h] at h'; cases h'
  · exact .inl ⟨rfl, rfl, ba_nil _ hl, by simp [textL, h]⟩
  · exact .inr (.inl ⟨rfl, h1, h2, ba_nil _ hl, by simp [textL, h]⟩)
  · exact .inr (.inr (.inl ⟨rfl, rfl, hz, hl, by simp [textL, h]⟩))
  · exact .inr (.inr (.inr (.inl ⟨rfl, rfl, ba_nil _ hl, by simp [textL, h]⟩)))
  · exact .inr (.inr (.inr (.inr ⟨rfl, rfl, ba_nil _ hl, by simp [textL, h]⟩)))
/-- The value (k, n, t) is one, and its text is l. -/
def HasText (l : List UInt8) (k n : Int) (t : ByteArray) : Prop := okB k n t = true ∧ textL k n t = l
theorem head_num (n : Int) (h1 : -9999 ≤ n) (h2 : n ≤ 9999) : ∃ c tl, decI n = c :: tl ∧ c ≠ 110 ∧ c ≠ 39 ∧ c ≠ 102 ∧ c ≠ 116 := by
  obtain ⟨c, tl, e, hc⟩ := decI_head n h1 h2
  refine ⟨c, tl, e, ?_⟩
  rcases hc with ⟨_, rfl, _⟩ | ⟨_, hd⟩
  · exact ⟨by decide, by decide, by decide, by decide⟩
  · exact ⟨dig_ne c hd _ (by decide), dig_ne c hd _ (by decide), dig_ne c hd _ (by decide), dig_ne c hd _ (by decide)⟩
theorem has_inj {l : List UInt8} {k n k' n' : Int} {t t' : ByteArray} (h : HasText l k n t) (h' : HasText l k' n' t') : k = k' ∧ n = n' ∧ t = t' := by
  obtain ⟨ho, hx⟩ := h
  obtain ⟨ho', hx'⟩ := h'
  rcases ok_text k n t ho with ⟨rfl, rfl, rfl, e⟩ | ⟨rfl, a1, a2, rfl, e⟩ | ⟨rfl, rfl, a1, a2, e⟩ | ⟨rfl, rfl, rfl, e⟩ | ⟨rfl, rfl, rfl, e⟩ <;>
    rcases ok_text k' n' t' ho' with ⟨rfl, rfl, rfl, e'⟩ | ⟨rfl, b1, b2, rfl, e'⟩ | ⟨rfl, rfl, b1, b2, e'⟩ | ⟨rfl, rfl, rfl, e'⟩ | ⟨rfl, rfl, rfl, e'⟩ <;>
    rw [e] at hx <;> rw [e'] at hx' <;> subst hx
  all_goals (try exact ⟨rfl, rfl, rfl⟩)
  all_goals (try (exfalso; simp at hx'; done))
  · exfalso; obtain ⟨c, tl, ec, c1, c2, c3, c4⟩ := head_num _ b1 b2; rw [ec] at hx'; simp_all
  · exfalso; obtain ⟨c, tl, ec, c1, c2, c3, c4⟩ := head_num _ a1 a2; rw [ec] at hx'; simp_all
  · exact ⟨rfl, (decI_inj _ _ b1 b2 a1 a2 hx').symm, rfl⟩
  · exfalso; obtain ⟨c, tl, ec, c1, c2, c3, c4⟩ := head_num _ a1 a2; rw [ec] at hx'; simp_all
  · exfalso; obtain ⟨c, tl, ec, c1, c2, c3, c4⟩ := head_num _ a1 a2; rw [ec] at hx'; simp_all
  · exfalso; obtain ⟨c, tl, ec, c1, c2, c3, c4⟩ := head_num _ a1 a2; rw [ec] at hx'; simp_all
  · exfalso; obtain ⟨c, tl, ec, c1, c2, c3, c4⟩ := head_num _ b1 b2; rw [ec] at hx'; simp_all
  · refine ⟨rfl, rfl, ?_⟩
    injection hx' with _ h2
    have := List.append_cancel_right h2
    exact ByteArray.ext (Array.toList_inj.1 this.symm)
  · exfalso; obtain ⟨c, tl, ec, c1, c2, c3, c4⟩ := head_num _ b1 b2; rw [ec] at hx'; simp_all
  · exfalso; obtain ⟨c, tl, ec, c1, c2, c3, c4⟩ := head_num _ b1 b2; rw [ec] at hx'; simp_all
/-- What reading a text leaves: the value that has it, or nothing where none has. -/
def ReadsV (l : List UInt8) (k n : Int) (t : ByteArray) (b : Bool) : Prop :=
  (b = true ∧ HasText l k n t) ∨ (b = false ∧ k = 0 ∧ n = 0 ∧ t = ⟨#[]⟩ ∧ ∀ k n t, ¬ HasText l k n t)
theorem reads_same {l : List UInt8} {k n k' n' : Int} {t t' : ByteArray} {b b' : Bool} (h : ReadsV l k n t b) (h' : ReadsV l k' n' t' b') : k = k' ∧ n = n' ∧ t = t' ∧ b = b' := by
  rcases h with ⟨rfl, h⟩ | ⟨rfl, rfl, rfl, rfl, h⟩ <;> rcases h' with ⟨rfl, h'⟩ | ⟨rfl, rfl, rfl, rfl, h'⟩
  · obtain ⟨a, b, c⟩ := has_inj h h'; exact ⟨a, b, c, rfl⟩
  · exact absurd h (h' _ _ _)
  · exact absurd h' (h _ _ _)
  · exact ⟨rfl, rfl, rfl, rfl⟩
end Go.Proofs.Ytlkdcijacjdneaa.Val
