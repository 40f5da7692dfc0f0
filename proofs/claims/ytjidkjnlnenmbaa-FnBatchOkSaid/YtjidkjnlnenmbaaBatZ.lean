/- What the law FnBatchOk asks of two batches that it builds: one without columns, one whose column is too long. -/
import Derived.Test.YtjidkjnlnenmbaaDrawBk
import Derived.OwnWalk
namespace Go.Proofs.Ytjidkjnlnenmbaa.Val
open Go.RowKit
set_option linter.unusedVariables false
set_option linter.unusedSimpArgs false
theorem batB_none (n : Nat) : batB [] n = decide (n ≤ 4) := by
  simp [batB]
theorem batB_long (n : Nat) : batB [List.replicate (n + 1) nilV] n = false := by
  simp [batB, colN]
theorem batR_none {w : World} {A1 A2 : Option Addr} {g1 o1 g2 o2 : Nat} {ls : List RT} {bs : List Bool} (h : BatR w A1 g1 o1 A2 g2 o2 ls bs) : BatR w none 0 0 A2 g2 o2 [] bs :=
  ⟨⟨fun h => absurd h (by simp), fun j hj => absurd hj (by simp)⟩, h.pk⟩
theorem ok2_long {n : Nat} (hn : n ≤ 5) : Ok2 [List.replicate (n + 1) nilV] := by
  refine ⟨by simp, fun r hr => ?_⟩
  obtain rfl := List.mem_singleton.1 hr
  refine ⟨by simp; omega, fun i hi => ?_⟩
  rw [List.getElem_replicate]
  exact Nat.zero_le _
theorem fl_some9 {w : World} {B size n g cap : Nat} {e : TypeId} {xs : List Value} (h : w.ownsRow B e size (.slice (some ⟨g, 0, none⟩) n cap) n xs) : Fl w g 0 (some ⟨g, 0, none⟩) xs :=
  ⟨fun _ => rfl, fun j hj => by rw [Nat.zero_add, h.cellAt j (by rw [← h.1]; exact hj), List.getElem?_eq_getElem hj]⟩
theorem made_nil (n : Nat) : (madeCells (Value.agg #[.int .i64 0, .int .i64 0, .string ⟨#[]⟩]).cells (n * 3)).toList = flatV (List.replicate n nilV) := by
  apply List.ext_getElem?
  intro j
  by_cases hj : j < n * 3
  · have hi : j / 3 < (List.replicate n nilV).length := by simp; omega
    have hg := flatV_get (List.replicate n nilV) (j / 3) hi
    simp only [List.getElem_replicate] at hg
    rcases (by omega : j = j / 3 * 3 ∨ j = j / 3 * 3 + 1 ∨ j = j / 3 * 3 + 2) with e | e | e
    · rw [← e] at hg
      rw [hg.1]
      have hm : j % 3 = 0 := by omega
      simp [madeCells, hj, Value.cells, hm, nilV]
    · rw [← e] at hg
      rw [hg.2.1]
      have hm : j % 3 = 1 := by omega
      simp [madeCells, hj, Value.cells, hm, nilV]
    · rw [← e] at hg
      rw [hg.2.2]
      have hm : j % 3 = 2 := by omega
      simp [madeCells, hj, Value.cells, hm, nilV]
  · rw [List.getElem?_eq_none (by simp [madeCells]; omega), List.getElem?_eq_none (by rw [flatV_len]; simp; omega)]
/-- The columns, each of which may be empty. -/
def wideL (cs : List CT) : List CT := cs.map fun c => (c.1, true)
/-- A row of zeros is made, as one step of a drawn region. -/
theorem step_make {P : Program} {w : World} {ops : Array Oper} {o : Oper} {a : Act} {K : Act → World → Prop} {Q : Exit → Act → World → Prop} {E : Prop} (hgd : o.guard = none) (l c : Operand) (t : TypeId) (hop : o.op = Op.makeSlice t l c)
    (base : Nat) (e : TypeId) (i : TypeInfo) (z : Value) (size : Nat) (h1 : P.underlying t = some (.slice e)) (h2 : P.info? e = some i) (h3 : i.zero = some z) (h4 : i.size = size)
    (kl kc : IntKind) (L C : Int) (n : Nat) (hl : a.eval l = .int kl L) (hc : a.eval c = .int kc C) (hL : L = (n : Int)) (hC : C = (n : Int)) (b2 : i.bytes * n ≤ 281474976710656) (b3 : n ≤ maxLen) (b4 : base ≤ w.heap.size)
    (hK : ∀ w', w'.ownsRow base e size (.slice (some ⟨w.heap.size, 0, none⟩) n n) n (madeCells z.cells (n * size)).toList → w.grownBy w' none → K (a.put o.dst (.slice (some ⟨w.heap.size, 0, none⟩) n n)) w') :
    if Region.wanted o (yielded ops a.tmps) = true then Oper.wp P o a w K Q else E := by
  have hw : Region.wanted o (yielded ops a.tmps) = true := by simp [Region.wanted, hgd]
  rw [if_pos hw]
  obtain ⟨w', hrun, r1, r2⟩ := run_make_full (P := P) w base t e i z size h1 h2 h3 h4 kl kc n b2 b3 b4
  subst hL
  subst hC
  unfold Oper.wp
  simp [execOp, hop, hl, hc, hrun, Result.andThen]
  exact hK w' r1 r2
end Go.Proofs.Ytjidkjnlnenmbaa.Val
