/- BatchesOf's exact law: how large the batches are, what marks leave. -/
import Derived.Test.YtjidkjnlnenmbaaBatKQ
import Derived.Test.YtjidkjnlnenmbaaFlPQ
import Derived.Test.YtjidkjnlnenmbaaRowMQ
namespace Go.Proofs.Ytjidkjnlnenmbaa.Val
open Go.RowKit
set_option linter.unusedVariables false
set_option linter.unusedSimpArgs false
set_option maxRecDepth 8000
def sumA (bas : List BA) : Nat := (bas.map fun b => 3 * total b.1 + b.2.length).sum
theorem total_const {ls : List RT} {m : Nat} (h : ∀ r ∈ ls, r.length = m) : total ls = m * ls.length := by
  induction ls with
  | nil => simp [total]
  | cons r ls ih =>
    have h1 := h r (by simp)
    have h2 := ih (fun x hx => h x (by simp [hx]))
    simp only [total, List.map_cons, List.sum_cons, List.length_cons] at h2 ⊢
    rw [h2, h1, Nat.mul_add]; omega
theorem bat_cols (m s : Nat) (ls : List RT) (k : Nat) : total (batK m s ls k).1 = m * (chk s ls k).length := by
  rw [total_const (m := (chk s ls k).length)]
  · simp only [batK, List.length_map, List.length_range]; exact Nat.mul_comm _ _
  · intro r hr
    simp only [batK, List.mem_map] at hr
    obtain ⟨j, -, rfl⟩ := hr
    exact acr_len _ _
theorem sum_bats (m s : Nat) (ls : List RT) (K : Nat) : sumA ((List.range K).map (batK m s ls)) = (3 * m + 1) * min (K * s) ls.length := by
  induction K with
  | zero => simp [sumA]
  | succ K ih =>
    have hb : 3 * total (batK m s ls K).1 + (batK m s ls K).2.length = (3 * m + 1) * (chk s ls K).length := by
      rw [bat_cols]
      simp only [batK, List.length_replicate]
      rw [Nat.add_mul, Nat.mul_assoc]; omega
    rw [bats_snoc]
    unfold sumA at ih ⊢
    rw [List.map_append, List.sum_append, ih]
    simp only [List.map_cons, List.map_nil, List.sum_cons, List.sum_nil, Nat.add_zero]
    rw [hb, chk_len, ← Nat.mul_add]
    congr 1
    rw [Nat.add_mul]
    omega
theorem rowsB_col {cs : List CT} {ls : List RT} (h : rowsB cs ls = true) : cs.length ≤ 4 := by
  simp only [rowsB, Bool.and_eq_true] at h
  have := h.1
  simp only [colB, Bool.and_eq_true, decide_eq_true_eq] at this
  omega
theorem bats_small (cs : List CT) (ls : List RT) (s : Int) (hok : Ok2 ls) (hl : ls.length + total ls ≤ 1048576) (hc : cs.length ≤ 1048576) : OkB (batsI cs ls s) ∧ sumA (batsI cs ls s) ≤ 3145728 ∧ (batsI cs ls s).length ≤ 1048576 := by
  unfold batsI
  by_cases hE : rowsB cs ls = true ∧ 1 ≤ s ∧ s ≤ 4
  · rw [if_pos hE]
    obtain ⟨hr, h1, h4⟩ := hE
    obtain ⟨S, rfl⟩ : ∃ S : Nat, s = (S : Int) := ⟨s.toNat, by omega⟩
    rw [Int.toNat_natCast]
    have hlen := rowsB_len hr
    have htot := total_const hlen
    have hK : (ls.length + S - 1) / S ≤ ls.length := by
      rcases (by omega : S = 1 ∨ S = 2 ∨ S = 3 ∨ S = 4) with rfl | rfl | rfl | rfl <;> omega
    have hcl : (cutB cs.length S ls).length ≤ ls.length := by simp only [cutB, List.length_map, List.length_range]; exact hK
    refine ⟨⟨by omega, ?_⟩, ?_, by omega⟩
    · intro b hb
      simp only [cutB, List.mem_map] at hb
      obtain ⟨k, -, rfl⟩ := hb
      have hcm := chk_len S ls k
      refine ⟨⟨by simp only [batK, List.length_map, List.length_range]; omega, ?_⟩, by simp only [batK, List.length_replicate]; omega⟩
      intro r hr2
      simp only [batK, List.mem_map] at hr2
      obtain ⟨j, -, rfl⟩ := hr2
      exact ⟨by rw [acr_len]; omega, short_acr (fun c hc2 => (hok.2 c (chk_mem hc2)).2) j⟩
    · rw [cutB, sum_bats]
      have h5 : (3 * cs.length + 1) * min ((ls.length + S - 1) / S * S) ls.length ≤ (3 * cs.length + 1) * ls.length := Nat.mul_le_mul_left _ (Nat.min_le_right _ _)
      have h6 : (3 * cs.length + 1) * ls.length = 3 * total ls + ls.length := by rw [htot, Nat.add_mul, Nat.mul_assoc]; omega
      omega
  · rw [if_neg hE]
    exact ⟨⟨by simp, fun b hb => absurd hb (by simp)⟩, by simp [sumA], by simp⟩
theorem BLN.below {w w' : World} {B g c : Nat} {A : Option Addr} {U : List UB} {bas : List BA} (h : BLN w B A g c U bas) (hb : Below w.heap.size w w') : BLN w' B A g c U bas := by
  rcases h with ⟨h1, h⟩ | h
  · exact .inl ⟨h1, h.below hb⟩
  · exact .inr h
theorem BLN.alloc {w : World} {B g c : Nat} {A : Option Addr} {U : List UB} {bas : List BA} (h : BLN w B A g c U bas) (ob : Obj) : BLN (w.alloc ob) B A g c U bas := h.below ((Below.refl _ _).alloc (Nat.le_refl _) _)
theorem BLN.drew {w : World} {B g c : Nat} {A : Option Addr} {U : List UB} {bas : List BA} (h : BLN w B A g c U bas) : BLN w.drew B A g c U bas := h.below ((Below.refl _ _).drew)
theorem BLN.eq {w : World} {B g c : Nat} {A : Option Addr} {U : List UB} {bas : List BA} (h : BLN w B A g c U bas) : U.map baOf = bas := by
  rcases h with ⟨rfl, h⟩ | ⟨rfl, -, rfl, rfl⟩
  · exact h.eq
  · rfl
/-- Marked batches, or nil. -/
def BMN (w : World) (B : Nat) (A : Option Addr) (g c : Nat) (U : List UB) : Prop := (A = some ⟨g, 0, none⟩ ∧ BMk w B g c 1 U) ∨ (A = none ∧ c = 0 ∧ U = [])
theorem BMN.below {w w' : World} {B g c : Nat} {A : Option Addr} {U : List UB} (h : BMN w B A g c U) (hb : Below w.heap.size w w') : BMN w' B A g c U := by
  rcases h with ⟨h1, h⟩ | h
  · exact .inl ⟨h1, h.below hb⟩
  · exact .inr h
theorem BMN.alloc {w : World} {B g c : Nat} {A : Option Addr} {U : List UB} (h : BMN w B A g c U) (ob : Obj) : BMN (w.alloc ob) B A g c U := h.below ((Below.refl _ _).alloc (Nat.le_refl _) _)
theorem BMN.drew {w : World} {B g c : Nat} {A : Option Addr} {U : List UB} (h : BMN w B A g c U) : BMN w.drew B A g c U := h.below ((Below.refl _ _).drew)
/-- Columns that were copied. -/
structure ColX (w : World) (g : Nat) (cs : List CT) : Prop where
  fl : Fl w g 0 (some ⟨g, 0, none⟩) (flatC cs)
  fz : ∀ j, j < (flatC cs).length → w.frozen? ⟨g, j, none⟩ = false
theorem ColX.below {w w' : World} {g : Nat} {cs : List CT} (h : ColX w g cs) (hb : Below w.heap.size w w') : ColX w' g cs :=
  ⟨h.fl.below hb, fun j hj => (hb.frozen (p := ⟨g, j, none⟩) (h.fl.lt (by omega))).trans (h.fz j hj)⟩
theorem ColX.alloc {w : World} {g : Nat} {cs : List CT} (h : ColX w g cs) (ob : Obj) : ColX (w.alloc ob) g cs := h.below ((Below.refl _ _).alloc (Nat.le_refl _) _)
theorem ColX.drew {w : World} {g : Nat} {cs : List CT} (h : ColX w g cs) : ColX w.drew g cs := h.below ((Below.refl _ _).drew)
end Go.Proofs.Ytjidkjnlnenmbaa.Val
