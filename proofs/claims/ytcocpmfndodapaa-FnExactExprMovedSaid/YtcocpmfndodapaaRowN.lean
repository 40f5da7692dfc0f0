/- Marks laid in a row of values, and told again: markText, markValueS, heldValueS, and markByteS of a long row. -/
import Derived.Test.YtcocpmfndodapaaRowM
import Derived.Deep.RegionHeldLaw
namespace Go.Proofs.Ytcocpmfndodapaa.Val
open Go.RowKit
set_option linter.unusedVariables false
def mGo : Nat → Nat → ByteArray → ByteArray
  | 0, _, s => s
  | f + 1, m, s => if m = 0 then s else mGo f (m / 10) (⟨#[(48 : UInt8) + UInt8.ofNat (m % 10)]⟩ ++ s)
theorem mGo_zero (f : Nat) (s : ByteArray) : mGo f 0 s = s := by cases f <;> simp [mGo]
def mT (k : Nat) : ByteArray := ⟨#[109]⟩ ++ mGo k k ⟨#[]⟩
theorem markTextP (k : Nat) (w : World) (h0 : 0 < k) (hk : k ≤ 8000000) : Calls Try.prog 83 #[.int .i64 k] w fun e w' => e = .returned (.string (mT k)) ∧ Below w.heap.size w w' := by
  have d0 : ¬ ((k : Int) ≤ 0) := by omega
  go_enter Try.func83, Try.ntmps83
  go_wp2
  go_loopw [0, 3] (fun kx sx wr => ∃ (m f : Nat) (s : ByteArray), kx = .int .i64 m ∧ sx = .string s ∧ s.size + m ≤ k ∧ m ≤ f ∧ mGo f m s = mGo k k ⟨#[]⟩ ∧ Hid (Below w.heap.size w wr)) (fun kx _ _ => (intOf kx).toNat)
  case atStart => exact ⟨k, k, ⟨#[]⟩, rfl, rfl, by show 0 + k ≤ k; omega, Nat.le_refl _, rfl, Below.refl _ _⟩
  case round =>
    obtain ⟨m, f, s, rfl, rfl, hs, hmf, hg, HB⟩ := hrel
    have hB := HB.out.size
    by_cases hm : m = 0
    · subst hm
      rw [mGo_zero] at hg
      subst hg
      go_wp2
      go_ret
      exact ⟨rfl, HB.out⟩
    · obtain ⟨f, rfl⟩ : ∃ f', f = f' + 1 := ⟨f - 1, by omega⟩
      rw [mGo, if_neg hm] at hg
      have HG := Lib.hid hg
      clear hg
      have kc := convAt (48 + (m : Int) % 10)
      have b1 : (m : Int) % 10 < 10 := by omega
      have b2 : 0 ≤ (m : Int) % 10 := by omega
      have e1 : Int.tmod (m : Int) 10 = (m : Int) % 10 := Int.tmod_eq_emod_of_nonneg (by omega)
      have e2 : Int.tdiv (m : Int) 10 = ((m / 10 : Nat) : Int) := by rw [Int.tdiv_eq_ediv_of_nonneg (by omega)]; rfl
      have hm0 : (0 : Int) < (m : Int) := by omega
      go_wp2
      refine ⟨⟨m / 10, f, _, rfl, rfl, ?_, by omega, HG.out, HB.out.alloc hB _⟩, by simp [intOf]; omega⟩
      rw [ByteArray.size_append]
      show 1 + s.size + m / 10 ≤ k
      omega
theorem markTextPZ (z : Int) (k : Nat) (w : World) (hz : z = k) (h0 : 0 < k) (hk : k ≤ 8000000) : Calls Try.prog 83 #[.int .i64 z] w fun e w' => e = .returned (.string (mT k)) ∧ Below w.heap.size w w' := by
  subst hz
  exact markTextP k w h0 hk
/-- The marks of n values. -/
def marksV (n : Nat) : List VT := (List.range n).map fun (i : Nat) => ((1 : Int) + 3 * (i : Int), (2 : Int) + 3 * (i : Int), mT (3 + 3 * i))
theorem marksV_len (n : Nat) : (marksV n).length = n := by simp [marksV]
theorem marksV_get (n i : Nat) (h : i < n) : (flatV (marksV n))[i * 3]? = some (.int .i64 ((1 : Int) + 3 * i)) ∧ (flatV (marksV n))[i * 3 + 1]? = some (.int .i64 ((2 : Int) + 3 * i)) ∧ (flatV (marksV n))[i * 3 + 2]? = some (.string (mT (3 + 3 * i))) := by
  have hg := flatV_get (marksV n) i (by rw [marksV_len]; exact h)
  have e : (marksV n)[i]'(by rw [marksV_len]; exact h) = ((1 : Int) + 3 * i, (2 : Int) + 3 * i, mT (3 + 3 * i)) := by simp [marksV]
  rw [e] at hg
  exact hg
end Go.Proofs.Ytcocpmfndodapaa.Val
