/- Equal lists of parts: laws.sameParts. -/
import Derived.Test.YtcocpmfndodapaaDrawX
namespace Go.Proofs.Ytcocpmfndodapaa.Val
open Go.RowKit
set_option linter.unusedVariables false
set_option linter.unusedSimpArgs false
set_option maxHeartbeats 4000000 in
theorem samePartsE (A B : Option Addr) (g g' o o' cA cB : Nat) (l : List PT) (w : World) (hA : Fl w g o A (flatP l)) (hB : Fl w g' o' B (flatP l)) (hl : l.length ≤ 2000000) :
    Calls Try.prog 33 #[.slice A l.length cA, .slice B l.length cB] w fun e w' => e = .returned (.bool true) ∧ Below w.heap.size w w' := by
  have HA := Lib.hid hA
  have HB := Lib.hid hB
  clear hA hB
  have e0 : ((l.length : Int) != l.length) = false := by simp
  go_enter Try.func33, Try.ntmps33
  go_wp2
  go_loopw [5] (fun ix wr => ∃ (k : Nat), k ≤ l.length ∧ ix = .int .i64 k ∧ Hid (Below w.heap.size w wr)) (fun ix _ => l.length - (intOf ix).toNat)
  case atStart => exact ⟨0, by omega, rfl, Below.refl _ _⟩
  case round =>
    obtain ⟨k, hk, rfl, HW⟩ := hrel
    by_cases hlt : k < l.length
    · obtain ⟨rfl, -, -, -, -, -, -⟩ := HA.out.pt k hlt
      obtain ⟨rfl, -, -, -, -, -, -⟩ := HB.out.pt k hlt
      obtain ⟨-, hg2, c0, c1, c2, c3, c4⟩ := (HA.out.below HW.out).pt k hlt
      obtain ⟨-, hg2', d0, d1, d2, d3, d4⟩ := (HB.out.below HW.out).pt k hlt
      obtain ⟨K, hK⟩ : ∃ K, l[k] = K := ⟨_, rfl⟩
      rw [hK] at c0 c1 c2 c3 c4 d0 d1 d2 d3 d4
      obtain ⟨x, n, vx, vn, s⟩ := K
      simp only at c0 c1 c2 c3 c4 d0 d1 d2 d3 d4
      clear hK
      have i0' : (0 : Int) ≤ (k : Int) := by omega
      have i1' : (k : Int) < (l.length : Int) := by omega
      go_wp2
      go_region
      all_goals go_wp2
      all_goals exact ⟨⟨k + 1, by omega, by go_num, HW.out.drew⟩, by simp [intOf]; omega⟩
    · obtain rfl : k = l.length := by omega
      go_wp2
      go_ret
      exact ⟨rfl, HW.out⟩
end Go.Proofs.Ytcocpmfndodapaa.Val
