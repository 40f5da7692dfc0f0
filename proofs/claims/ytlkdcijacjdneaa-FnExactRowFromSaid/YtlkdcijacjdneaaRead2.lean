/- What ValueRead (impl) leaves. -/
import Derived.Test.YtlkdcijacjdneaaRead
namespace Go.Proofs.Ytlkdcijacjdneaa.Val
open Go.RowKit
theorem noText {l : List UInt8} (h0 : l ≠ [110, 111, 110, 101]) (h1 : l ≠ [102, 97, 108, 115, 101]) (h2 : l ≠ [116, 114, 117, 101]) (h3 : ∀ r, l ≠ 39 :: r) (h4 : ∀ m, -9999 ≤ m → m ≤ 9999 → decI m ≠ l) : ∀ k n t, ¬ HasText l k n t := by
  intro k n t ⟨ho, hx⟩
  rcases ok_text k n t ho with ⟨rfl, rfl, rfl, e⟩ | ⟨rfl, a1, a2, rfl, e⟩ | ⟨rfl, rfl, a1, a2, e⟩ | ⟨rfl, rfl, rfl, e⟩ | ⟨rfl, rfl, rfl, e⟩ <;> rw [e] at hx
  · exact h0 hx.symm
  · exact h4 n a1 a2 hx
  · exact h3 _ hx.symm
  · exact h1 hx.symm
  · exact h2 hx.symm
theorem has_none : HasText [110, 111, 110, 101] 0 0 ⟨#[]⟩ := ⟨by decide +kernel, by decide +kernel⟩
theorem has_false : HasText [102, 97, 108, 115, 101] 3 0 ⟨#[]⟩ := ⟨by decide +kernel, by decide +kernel⟩
theorem has_true : HasText [116, 114, 117, 101] 3 1 ⟨#[]⟩ := ⟨by decide +kernel, by decide +kernel⟩
theorem has_num {l : List UInt8} {n : Int} (h0 : -9999 ≤ n) (h1 : n ≤ 9999) (e : decI n = l) : HasText l 1 n ⟨#[]⟩ := by
  have ho : okB 1 n ⟨#[]⟩ = true := by
    have : numB n = true := (numB_iff n).2 ⟨h0, h1⟩
    simp [okB, this]
  exact ⟨ho, by rw [← e]; simp [textL, ho]⟩
theorem eqL (s : ByteArray) (l : List UInt8) (h : s.data.toList = l) : (s.toList == l) = true := by rw [Lib.toList_data, h]; simp
theorem neL (s : ByteArray) (l : List UInt8) (h : ¬ s.data.toList = l) : (s.toList == l) = false := by rw [Lib.toList_data]; simpa using h
end Go.Proofs.Ytlkdcijacjdneaa.Val
