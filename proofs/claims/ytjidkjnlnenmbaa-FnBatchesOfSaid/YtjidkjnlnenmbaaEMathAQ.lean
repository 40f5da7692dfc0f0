/- Expressions: the plain functions; Expressions: values, and what the laws ask of them; Expressions: the columns that are asked, moving, folding; Expressions: moving; Expressions: a part by what it takes, its fields, and what it puts down (the plain functions of impl's ways). -/
import Derived.Test.YtjidkjnlnenmbaaRowFQ
import Derived.Test.YtjidkjnlnenmbaaTxtQ
namespace Go.Proofs.Ytjidkjnlnenmbaa.Val
set_option linter.unusedVariables false
def nilV : VT := (0, 0, ⟨#[]⟩)
end Go.Proofs.Ytjidkjnlnenmbaa.Val
namespace Go.Proofs.Ytjidkjnlnenmbaa.Val
set_option linter.unusedVariables false
def TypV (v : VT) (k : Int) : Prop := okV v = true ∧ (v.1 = 0 ∨ v.1 = k)
def Typ : List VT → List Int → Prop
  | [], [] => True
  | v :: vs, k :: ks => TypV v k ∧ Typ vs ks
  | _, _ => False
theorem Typ.len {vs : List VT} : ∀ {ks : List Int}, Typ vs ks → vs.length = ks.length := by
  induction vs with
  | nil => intro ks h; cases ks with | nil => rfl | cons k ks => exact absurd h (by simp [Typ])
  | cons v vs ih => intro ks h; cases ks with | nil => exact absurd h (by simp [Typ]) | cons k ks => simp [ih h.2]
end Go.Proofs.Ytjidkjnlnenmbaa.Val
namespace Go.Proofs.Ytjidkjnlnenmbaa.Val
set_option linter.unusedVariables false
end Go.Proofs.Ytjidkjnlnenmbaa.Val
namespace Go.Proofs.Ytjidkjnlnenmbaa.Val
set_option linter.unusedVariables false
/-- The places are all columns, each once. -/
structure Moved {α : Type} (π : List Nat) (xs ys : List α) : Prop where
  perm : π.Perm (List.range xs.length)
  len : ys.length = xs.length
  at_ : ∀ k (h : k < xs.length) (h2 : π.getD k 0 < ys.length), ys[π.getD k 0] = xs[k]
theorem Moved.lt {α : Type} {π : List Nat} {xs ys : List α} (h : Moved π xs ys) (k : Nat) (hk : k < xs.length) : π.getD k 0 < xs.length := by
  have hl : π.length = xs.length := by have := h.perm.length_eq; simpa using this
  rw [List.getD_eq_getElem?_getD, List.getElem?_eq_getElem (by omega)]
  exact List.mem_range.1 (h.perm.mem_iff.1 (List.getElem_mem _))
theorem Moved.from {α : Type} {π : List Nat} {xs ys : List α} (h : Moved π xs ys) (j : Nat) (hj : j < ys.length) : ∃ k, k < xs.length ∧ π.getD k 0 = j := by
  have hl : π.length = xs.length := by have := h.perm.length_eq; simpa using this
  have hm : j ∈ π := h.perm.mem_iff.2 (List.mem_range.2 (by rw [← h.len]; exact hj))
  obtain ⟨k, hk, e⟩ := List.mem_iff_getElem.1 hm
  exact ⟨k, by omega, by rw [List.getD_eq_getElem?_getD, List.getElem?_eq_getElem hk]; exact e⟩
theorem Moved.all {α : Type} {π : List Nat} {xs ys : List α} (h : Moved π xs ys) (f : α → Bool) (hx : xs.all f = true) : ys.all f = true := by
  rw [List.all_eq_true] at hx ⊢
  intro y hy
  obtain ⟨j, hj, rfl⟩ := List.mem_iff_getElem.1 hy
  obtain ⟨k, hk, rfl⟩ := h.from j hj
  rw [h.at_ k hk hj]
  exact hx _ (List.getElem_mem hk)
end Go.Proofs.Ytjidkjnlnenmbaa.Val
namespace Go.Proofs.Ytjidkjnlnenmbaa.Val
set_option linter.unusedVariables false
end Go.Proofs.Ytjidkjnlnenmbaa.Val
