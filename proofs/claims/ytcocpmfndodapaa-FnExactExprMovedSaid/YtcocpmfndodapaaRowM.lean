/- Marking a row of values: markText, markValueS. -/
import Derived.Test.YtcocpmfndodapaaRowV
namespace Go.Proofs.Ytcocpmfndodapaa.Val
open Go.RowKit
set_option linter.unusedVariables false
theorem markText (k : Nat) (w : World) (hk : k ≤ 8000000) : Calls Try.prog 83 #[.int .i64 k] w fun e w' => ∃ s : ByteArray, e = .returned (.string s) ∧ Below w.heap.size w w' := by
  by_cases h0 : k = 0
  · subst h0
    go_enter Try.func83, Try.ntmps83
    go_wp2
    go_ret
    exact ⟨_, rfl, Below.refl _ _⟩
  · have d0 : ¬ ((k : Int) ≤ 0) := by omega
    go_enter Try.func83, Try.ntmps83
    go_wp2
    go_loopw [0, 3] (fun kx sx wr => ∃ (m : Nat) (s : ByteArray), kx = .int .i64 m ∧ sx = .string s ∧ s.size + m ≤ k ∧ Hid (Below w.heap.size w wr)) (fun kx _ _ => (intOf kx).toNat)
    case atStart => exact ⟨k, ⟨#[]⟩, rfl, rfl, by show 0 + k ≤ k; omega, Below.refl _ _⟩
    case round =>
      obtain ⟨m, s, rfl, rfl, hs, HB⟩ := hrel
      have hB := HB.out.size
      by_cases hm : m = 0
      · subst hm
        go_wp2
        go_ret
        exact ⟨_, rfl, HB.out⟩
      · have kc := convAt (48 + (m : Int) % 10)
        have b1 : (m : Int) % 10 < 10 := by omega
        have b2 : 0 ≤ (m : Int) % 10 := by omega
        have e1 : Int.tmod (m : Int) 10 = (m : Int) % 10 := Int.tmod_eq_emod_of_nonneg (by omega)
        have e2 : Int.tdiv (m : Int) 10 = ((m / 10 : Nat) : Int) := by rw [Int.tdiv_eq_ediv_of_nonneg (by omega)]; rfl
        have hm0 : (0 : Int) < (m : Int) := by omega
        go_wp2
        refine ⟨⟨m / 10, _, rfl, rfl, ?_, HB.out.alloc hB _⟩, by simp [intOf]; omega⟩
        rw [ByteArray.size_append]
        show 1 + s.size + m / 10 ≤ k
        omega
theorem markTextZ (z : Int) (w : World) (h0 : 0 ≤ z) (hk : z ≤ 8000000) : Calls Try.prog 83 #[.int .i64 z] w fun e w' => ∃ s : ByteArray, e = .returned (.string s) ∧ Below w.heap.size w w' := by
  obtain ⟨k, rfl⟩ := Int.eq_ofNat_of_zero_le h0
  exact markText k w (by omega)
/-- The first n cells of block g are there, and can be written. -/
def Free (w : World) (g n : Nat) : Prop := ∀ j, j < n → (∃ v, w.cell? ⟨g, j, none⟩ = some v) ∧ w.frozen? ⟨g, j, none⟩ = false
theorem Free.set {w : World} {g n : Nat} (h : Free w g n) (m : Nat) (u : Value) : Free (w.setCell ⟨g, m, none⟩ u) g n := by
  intro j hj
  obtain ⟨⟨v, hv⟩, hf⟩ := h j hj
  refine ⟨?_, by rw [World.frozen?_setCell]; exact hf⟩
  by_cases e : j = m
  · subst e; exact ⟨_, World.cell?_setCell_same _ _ _ hv⟩
  · exact ⟨v, by rw [World.cell?_setCell_other _ _ _ _ (offNe (by omega))]; exact hv⟩
theorem Free.below {w w' : World} {g n : Nat} (h : Free w g n) (hb : Below w.heap.size w w') : Free w' g n := by
  intro j hj
  obtain ⟨⟨v, hv⟩, hf⟩ := h j hj
  have hg := World.block_lt_of_cell? w _ hv
  exact ⟨⟨v, (hb.cell (p := ⟨g, j, none⟩) hg).trans hv⟩, (hb.frozen (p := ⟨g, j, none⟩) hg).trans hf⟩
theorem only_of_below {g : Nat} {w w' : World} (hb : Below w.heap.size w w') : Only g w w' := ⟨hb.os, hb.tape, hb.output, hb.size, fun k hk _ => hb.block k hk⟩
end Go.Proofs.Ytcocpmfndodapaa.Val
