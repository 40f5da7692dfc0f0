/- Marking a row of values: markText, markValueS; Marks laid in a row of values, and told again: markText, markValueS, heldValueS, and markByteS of a long row; Marks told: heldValueS. -/
import Derived.Test.YtjidkjnlnenmbaaRowVQ
import Derived.Test.YtjidkjnlnenmbaaRowQ
import Derived.Deep.RegionHeldLaw
namespace Go.Proofs.Ytjidkjnlnenmbaa.Val
open Go.RowKit
set_option linter.unusedVariables false
/-- The first n cells of block g are there, and can be written. -/
def Free (w : World) (g n : Nat) : Prop := ∀ j, j < n → (∃ v, w.cell? ⟨g, j, none⟩ = some v) ∧ w.frozen? ⟨g, j, none⟩ = false
theorem Free.set {w : World} {g n : Nat} (h : Free w g n) (m : Nat) (u : Value) : Free (w.setCell ⟨g, m, none⟩ u) g n := by
  intro j hj
  obtain ⟨⟨v, hv⟩, hf⟩ := h j hj
  refine ⟨?_, by rw [World.frozen?_setCell]; exact hf⟩
  by_cases e : j = m
  · subst e; exact ⟨_, World.cell?_setCell_same _ _ _ hv⟩
  · exact ⟨v, by rw [World.cell?_setCell_other _ _ _ _ (offNe (by omega))]; exact hv⟩
theorem Free.below {w w' : World} {g n : Nat} (h : Free w g n) (hb : Below w.heap.size w w') : Free w' g n := by
  intro j hj
  obtain ⟨⟨v, hv⟩, hf⟩ := h j hj
  have hg := World.block_lt_of_cell? w _ hv
  exact ⟨⟨v, (hb.cell (p := ⟨g, j, none⟩) hg).trans hv⟩, (hb.frozen (p := ⟨g, j, none⟩) hg).trans hf⟩
theorem only_of_below {g : Nat} {w w' : World} (hb : Below w.heap.size w w') : Only g w w' := ⟨hb.os, hb.tape, hb.output, hb.size, fun k hk _ => hb.block k hk⟩
end Go.Proofs.Ytjidkjnlnenmbaa.Val
namespace Go.Proofs.Ytjidkjnlnenmbaa.Val
open Go.RowKit
set_option linter.unusedVariables false
def mGo : Nat → Nat → ByteArray → ByteArray
  | 0, _, s => s
  | f + 1, m, s => if m = 0 then s else mGo f (m / 10) (⟨#[(48 : UInt8) + UInt8.ofNat (m % 10)]⟩ ++ s)
theorem mGo_zero (f : Nat) (s : ByteArray) : mGo f 0 s = s := by cases f <;> simp [mGo]
def mT (k : Nat) : ByteArray := ⟨#[109]⟩ ++ mGo k k ⟨#[]⟩
theorem markTextP (k : Nat) (w : World) (h0 : 0 < k) (hk : k ≤ 8000000) : Calls Try.prog 87 #[.int .i64 k] w fun e w' => e = .returned (.string (mT k)) ∧ Below w.heap.size w w' := by
  have d0 : ¬ ((k : Int) ≤ 0) := by omega
  go_enter Try.func87, Try.ntmps87
  go_wp2
  go_loopw [0, 3] (fun kx sx wr => ∃ (m f : Nat) (s : ByteArray), kx = .int .i64 m ∧ sx = .string s ∧ s.size + m ≤ k ∧ m ≤ f ∧ mGo f m s = mGo k k ⟨#[]⟩ ∧ Hid (Below w.heap.size w wr)) (fun kx _ _ => (intOf kx).toNat)
  case atStart => exact ⟨k, k, ⟨#[]⟩, rfl, rfl, by show 0 + k ≤ k; omega, Nat.le_refl _, rfl, Below.refl _ _⟩
  case round =>
    obtain ⟨m, f, s, rfl, rfl, hs, hmf, hg, HB⟩ := hrel
    have hB := HB.out.size
    by_cases hm : m = 0
    · subst hm
      rw [mGo_zero] at hg
      subst hg
      go_wp2
      go_ret
      exact ⟨rfl, HB.out⟩
    · obtain ⟨f, rfl⟩ : ∃ f', f = f' + 1 := ⟨f - 1, by omega⟩
      rw [mGo, if_neg hm] at hg
      have HG := Lib.hid hg
      clear hg
      have kc := convAt (48 + (m : Int) % 10)
      have b1 : (m : Int) % 10 < 10 := by omega
      have b2 : 0 ≤ (m : Int) % 10 := by omega
      have e1 : Int.tmod (m : Int) 10 = (m : Int) % 10 := Int.tmod_eq_emod_of_nonneg (by omega)
      have e2 : Int.tdiv (m : Int) 10 = ((m / 10 : Nat) : Int) := by rw [Int.tdiv_eq_ediv_of_nonneg (by omega)]; rfl
      have hm0 : (0 : Int) < (m : Int) := by omega
      go_wp2
      refine ⟨⟨m / 10, f, _, rfl, rfl, ?_, by omega, HG.out, HB.out.alloc hB _⟩, by simp [intOf]; omega⟩
      rw [ByteArray.size_append]
      show 1 + s.size + m / 10 ≤ k
      omega
theorem markTextPZ (z : Int) (k : Nat) (w : World) (hz : z = k) (h0 : 0 < k) (hk : k ≤ 8000000) : Calls Try.prog 87 #[.int .i64 z] w fun e w' => e = .returned (.string (mT k)) ∧ Below w.heap.size w w' := by
  subst hz
  exact markTextP k w h0 hk
end Go.Proofs.Ytjidkjnlnenmbaa.Val
namespace Go.Proofs.Ytjidkjnlnenmbaa.Val
open Go.RowKit
set_option linter.unusedVariables false
theorem keepM {w W w1 : World} {g o : Nat} {x : Value} (h : W.cell? ⟨g, o, none⟩ = some x ∧ g < W.heap.size ∧ Below w.heap.size w W ∧ w.heap.size ≤ W.heap.size) (hb : Below W.heap.size W w1) : w1.cell? ⟨g, o, none⟩ = some x ∧ g < w1.heap.size ∧ Below w.heap.size w w1 ∧ w.heap.size ≤ w1.heap.size :=
  ⟨(hb.cell (p := ⟨g, o, none⟩) h.2.1).trans h.1, by have := hb.size; omega, h.2.2.1.trans (hb.mono h.2.2.2), Nat.le_trans h.2.2.2 hb.size⟩
theorem keepMD {w W : World} {g o : Nat} {x : Value} (h : W.cell? ⟨g, o, none⟩ = some x ∧ g < W.heap.size ∧ Below w.heap.size w W ∧ w.heap.size ≤ W.heap.size) : W.drew.cell? ⟨g, o, none⟩ = some x ∧ g < W.drew.heap.size ∧ Below w.heap.size w W.drew ∧ w.heap.size ≤ W.drew.heap.size :=
  ⟨h.1, h.2.1, h.2.2.1.drew, h.2.2.2⟩
end Go.Proofs.Ytjidkjnlnenmbaa.Val
