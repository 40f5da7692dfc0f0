/- Rows of parts and rows of numbers. -/
import Derived.Test.YtjidkjnlnenmbaaRowV
import Derived.Test.YtjidkjnlnenmbaaEMathA
namespace Go.Proofs.Ytjidkjnlnenmbaa.Val
open Go.RowKit
set_option linter.unusedVariables false
def aggV (v : VT) : Value := .agg #[.int .i64 v.1, .int .i64 v.2.1, .string v.2.2]
def aggP (p : PT) : Value := .agg #[.int .i64 p.1, .int .i64 p.2.1, .int .i64 p.2.2.1, .int .i64 p.2.2.2.1, .string p.2.2.2.2]
def flatP (ps : List PT) : List Value := ps.flatMap fun p => [.int .i64 p.1, .int .i64 p.2.1, .int .i64 p.2.2.1, .int .i64 p.2.2.2.1, .string p.2.2.2.2]
theorem flatP_nil : flatP [] = [] := rfl
theorem flatP_cons (p : PT) (ps : List PT) : flatP (p :: ps) = .int .i64 p.1 :: .int .i64 p.2.1 :: .int .i64 p.2.2.1 :: .int .i64 p.2.2.2.1 :: .string p.2.2.2.2 :: flatP ps := rfl
theorem flatP_app (a b : List PT) : flatP (a ++ b) = flatP a ++ flatP b := List.flatMap_append
theorem flatP_len (ps : List PT) : (flatP ps).length = ps.length * 5 := by
  induction ps with
  | nil => rfl
  | cons v vs ih => rw [flatP_cons, List.length_cons, List.length_cons, List.length_cons, List.length_cons, List.length_cons, ih, List.length_cons]; omega
theorem flatP_get (ps : List PT) (i : Nat) (h : i < ps.length) : (flatP ps)[i * 5]? = some (.int .i64 ps[i].1) ∧ (flatP ps)[i * 5 + 1]? = some (.int .i64 ps[i].2.1) ∧ (flatP ps)[i * 5 + 2]? = some (.int .i64 ps[i].2.2.1) ∧ (flatP ps)[i * 5 + 3]? = some (.int .i64 ps[i].2.2.2.1) ∧ (flatP ps)[i * 5 + 4]? = some (.string ps[i].2.2.2.2) := by
  induction ps generalizing i with
  | nil => simp at h
  | cons v vs ih =>
    cases i with
    | zero => rw [flatP_cons]; simp
    | succ i =>
      have := ih i (by simpa using h)
      rw [flatP_cons, show (i + 1) * 5 = i * 5 + 5 by omega]
      simpa using this
theorem flatP_take (ps : List PT) (k : Nat) : flatP (ps.take k) <+: flatP ps := by
  refine ⟨flatP (ps.drop k), ?_⟩
  rw [← flatP_app, List.take_append_drop]
theorem Fl.pt {w : World} {g o : Nat} {A : Option Addr} {ps : List PT} (h : Fl w g o A (flatP ps)) (i : Nat) (hi : i < ps.length) : A = some ⟨g, o, none⟩ ∧ g < w.heap.size ∧ w.cell? ⟨g, o + i * 5, none⟩ = some (.int .i64 ps[i].1) ∧ w.cell? ⟨g, o + i * 5 + 1, none⟩ = some (.int .i64 ps[i].2.1) ∧ w.cell? ⟨g, o + i * 5 + 2, none⟩ = some (.int .i64 ps[i].2.2.1) ∧ w.cell? ⟨g, o + i * 5 + 3, none⟩ = some (.int .i64 ps[i].2.2.2.1) ∧ w.cell? ⟨g, o + i * 5 + 4, none⟩ = some (.string ps[i].2.2.2.2) := by
  have hl := flatP_len ps
  have hg := flatP_get ps i hi
  have c := fun (j : Nat) (u : Value) (hu : (flatP ps)[j]? = some u) => (by
    obtain ⟨h1, h2⟩ := List.getElem?_eq_some_iff.1 hu
    rw [h.c j h1, h2] : w.cell? ⟨g, o + j, none⟩ = some u)
  refine ⟨h.ad (by omega), h.lt (by omega), c _ _ hg.1, ?_, ?_, ?_, ?_⟩
  · have := c _ _ hg.2.1; rwa [← Nat.add_assoc] at this
  · have := c _ _ hg.2.2.1; rwa [← Nat.add_assoc] at this
  · have := c _ _ hg.2.2.2.1; rwa [← Nat.add_assoc] at this
  · have := c _ _ hg.2.2.2.2; rwa [← Nat.add_assoc] at this
theorem infoP : (Try.prog.info? 105).map (fun i => (i.zero, i.size, i.bytes)) = some (some (.agg #[.int .i64 0, .int .i64 0, .int .i64 0, .int .i64 0, .string ⟨#[]⟩]), 5, 48) := by kernel_rfl
/-- Texts that a machine can hold. -/
def ShortP (ps : List PT) : Prop := ∀ i (h : i < ps.length), ps[i].2.2.2.2.size ≤ maxLen
/-! ### Numbers -/
def iv (n : Int) : Value := .int .i64 n
theorem Fl.n {w : World} {g o : Nat} {A : Option Addr} {l : List Int} (h : Fl w g o A (l.map iv)) (i : Nat) (hi : i < l.length) : A = some ⟨g, o, none⟩ ∧ g < w.heap.size ∧ w.cell? ⟨g, o + i, none⟩ = some (.int .i64 l[i]) := by
  have hl : (l.map iv).length = l.length := List.length_map _
  refine ⟨h.ad (by omega), h.lt (by omega), ?_⟩
  rw [h.c i (by omega), List.getElem_map]; rfl
theorem infoN : (Try.prog.info? 3).map (fun i => (i.zero, i.size, i.bytes)) = some (some (.int .i64 0), 1, 8) := by kernel_rfl
/-- The beginning of a row of one's own. -/
theorem own_take {w : World} {B g n cap size m : Nat} {e : TypeId} {xs : List Value} (h : w.ownsRow B e size (.slice (some ⟨g, 0, none⟩) n cap) n xs) (hm : m ≤ n) : w.ownsRow B e size (.slice (some ⟨g, 0, none⟩) m cap) m (xs.take (m * size)) := by
  obtain ⟨h1, h2⟩ := h
  rcases h2 with ⟨h3, -⟩ | ⟨g2, cap2, cur, h3, h4, h5, h6, h7, h8, h9⟩
  · cases h3
  · injection h3 with e1 e2 e3
    injection e1 with e1
    injection e1 with e1
    subst e1 e3
    have hms : m * size ≤ n * size := Nat.mul_le_mul_right _ hm
    refine ⟨by rw [List.length_take, h1]; omega, .inr ⟨g, cap, cur, rfl, h4, h5, by omega, h7, h8, ?_⟩⟩
    rw [← h9, List.take_take, Nat.min_eq_left hms]
end Go.Proofs.Ytjidkjnlnenmbaa.Val
