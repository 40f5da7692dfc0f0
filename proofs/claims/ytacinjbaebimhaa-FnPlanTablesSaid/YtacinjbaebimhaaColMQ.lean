/- The columns that an expression asks: what the law FnExprColumns reads of them; laws.sameInts, laws.hasInt. -/
import Derived.Test.YtacinjbaebimhaaDrawWQ
import Derived.Test.YtacinjbaebimhaaOwnAQ
import Derived.Test.YtacinjbaebimhaaEKIQ
import Derived.Test.YtacinjbaebimhaaEMathAQ
namespace Go.Proofs.Ytacinjbaebimhaa.Val
open Go.RowKit
set_option linter.unusedVariables false
set_option linter.unusedSimpArgs false
set_option maxHeartbeats 4000000 in
theorem sameIntsE (A B : Option Addr) (g g' o o' cA cB : Nat) (l : List Int) (w : World) (hA : Fl w g o A (l.map iv)) (hB : Fl w g' o' B (l.map iv)) (hl : l.length ≤ 2000000) :
    Calls Try.prog 23 #[.slice A l.length cA, .slice B l.length cB] w fun e w' => e = .returned (.bool true) ∧ Below w.heap.size w w' := by
  have HA := Lib.hid hA
  have HB := Lib.hid hB
  clear hA hB
  have e0 : ((l.length : Int) != l.length) = false := by simp
  go_enter Try.func23, Try.ntmps23
  go_wp2
  go_loopw [5] (fun ix wr => ∃ (k : Nat), k ≤ l.length ∧ ix = .int .i64 k ∧ Hid (Below w.heap.size w wr)) (fun ix _ => l.length - (intOf ix).toNat)
  case atStart => exact ⟨0, by omega, rfl, Below.refl _ _⟩
  case round =>
    obtain ⟨k, hk, rfl, HW⟩ := hrel
    by_cases hlt : k < l.length
    · obtain ⟨rfl, -, -⟩ := HA.out.n k hlt
      obtain ⟨rfl, -, -⟩ := HB.out.n k hlt
      obtain ⟨-, hg2, c0⟩ := (HA.out.below HW.out).n k hlt
      obtain ⟨-, hg2', d0⟩ := (HB.out.below HW.out).n k hlt
      obtain ⟨K, hK⟩ : ∃ K, l[k] = K := ⟨_, rfl⟩
      rw [hK] at c0 d0
      clear hK
      have i0' : (0 : Int) ≤ (k : Int) := by omega
      have i1' : (k : Int) < (l.length : Int) := by omega
      go_wp2
      go_region
      all_goals go_wp2
      all_goals exact ⟨⟨k + 1, by omega, by go_num, HW.out.drew⟩, by simp [intOf]; omega⟩
    · obtain rfl : k = l.length := by omega
      go_wp2
      go_ret
      exact ⟨rfl, HW.out⟩
set_option maxHeartbeats 4000000 in
theorem hasInt (A : Option Addr) (g o cA : Nat) (l : List Int) (n : Int) (w : World) (hA : Fl w g o A (l.map iv)) (hl : l.length ≤ 2000000) :
    Calls Try.prog 25 #[.slice A l.length cA, .int .i64 n] w fun e w' => e = .returned (.bool (decide (n ∈ l))) ∧ Below w.heap.size w w' := by
  have HA := Lib.hid hA
  clear hA
  go_enter Try.func25, Try.ntmps25
  go_wp2
  go_loopw [5] (fun ix wr => ∃ (k : Nat), k ≤ l.length ∧ ix = .int .i64 k ∧ Hid (Below w.heap.size w wr) ∧ Hid (¬ n ∈ l.take k)) (fun ix _ => l.length - (intOf ix).toNat)
  case atStart => exact ⟨0, by omega, rfl, Below.refl _ _, Lib.hid (by simp)⟩
  case round =>
    obtain ⟨k, hk, rfl, HW, HN⟩ := hrel
    by_cases hlt : k < l.length
    · obtain ⟨rfl, -, -⟩ := HA.out.n k hlt
      obtain ⟨-, hg2, c0⟩ := (HA.out.below HW.out).n k hlt
      have hst := List.take_succ_eq_append_getElem hlt
      have hmem : l[k] ∈ l := List.getElem_mem hlt
      obtain ⟨K, hK⟩ : ∃ K, l[k] = K := ⟨_, rfl⟩
      rw [hK] at c0 hst hmem
      have HST := Lib.hid hst
      have HM := Lib.hid hmem
      clear hK hst hmem
      have i0' : (0 : Int) ≤ (k : Int) := by omega
      have i1' : (k : Int) < (l.length : Int) := by omega
      by_cases hq : K = n
      · subst hq
        go_wp2
        all_goals (try go_region)
        all_goals go_wp2
        all_goals (go_ret; exact ⟨retB (by simp [HM.out]), by first | exact HW.out | exact HW.out.drew⟩)
      · have hq2 : ¬ (n = K) := fun h => hq h.symm
        go_wp2
        all_goals (try go_region)
        all_goals go_wp2
        all_goals exact ⟨⟨k + 1, by omega, by go_num, by first | exact HW.out | exact HW.out.drew, by rw [HST.out]; simp only [List.mem_append, List.mem_singleton]; exact fun h => h.elim HN.out hq2⟩, by simp [intOf]; omega⟩
    · obtain rfl : k = l.length := by omega
      have hnm : ¬ n ∈ l := by have := HN.out; rwa [List.take_length] at this
      go_wp2
      go_ret
      exact ⟨retB (by simp [hnm]), HW.out⟩
end Go.Proofs.Ytacinjbaebimhaa.Val
