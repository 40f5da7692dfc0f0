/- Marks laid in a row of values, and told again: markText, markValueS, heldValueS, and markByteS of a long row. -/
import Derived.Test.YtlkdcijacjdneaaRowM
import Derived.Deep.RegionHeldLaw
namespace Go.Proofs.Ytlkdcijacjdneaa.Val
open Go.RowKit
set_option linter.unusedVariables false
def mGo : Nat → Nat → ByteArray → ByteArray
  | 0, _, s => s
  | f + 1, m, s => if m = 0 then s else mGo f (m / 10) (⟨#[(48 : UInt8) + UInt8.ofNat (m % 10)]⟩ ++ s)
theorem mGo_zero (f : Nat) (s : ByteArray) : mGo f 0 s = s := by cases f <;> simp [mGo]
def mT (k : Nat) : ByteArray := ⟨#[109]⟩ ++ mGo k k ⟨#[]⟩
theorem markTextP (k : Nat) (w : World) (h0 : 0 < k) (hk : k ≤ 8000000) : Calls Try.prog 72 #[.int .i64 k] w fun e w' => e = .returned (.string (mT k)) ∧ Below w.heap.size w w' := by
  have d0 : ¬ ((k : Int) ≤ 0) := by omega
  go_enter Try.func72, Try.ntmps72
  go_wp2
  go_loopw [0, 3] (fun kx sx wr => ∃ (m f : Nat) (s : ByteArray), kx = .int .i64 m ∧ sx = .string s ∧ s.size + m ≤ k ∧ m ≤ f ∧ mGo f m s = mGo k k ⟨#[]⟩ ∧ Hid (Below w.heap.size w wr)) (fun kx _ _ => (intOf kx).toNat)
  case atStart => exact ⟨k, k, ⟨#[]⟩, rfl, rfl, by show 0 + k ≤ k; omega, Nat.le_refl _, rfl, Below.refl _ _⟩
  case round =>
    obtain ⟨m, f, s, rfl, rfl, hs, hmf, hg, HB⟩ := hrel
    have hB := HB.out.size
    by_cases hm : m = 0
    · subst hm
      rw [mGo_zero] at hg
      subst hg
      go_wp2
      go_ret
      exact ⟨rfl, HB.out⟩
    · obtain ⟨f, rfl⟩ : ∃ f', f = f' + 1 := ⟨f - 1, by omega⟩
      rw [mGo, if_neg hm] at hg
      have HG := Lib.hid hg
      clear hg
      have kc := convAt (48 + (m : Int) % 10)
      have b1 : (m : Int) % 10 < 10 := by omega
      have b2 : 0 ≤ (m : Int) % 10 := by omega
      have e1 : Int.tmod (m : Int) 10 = (m : Int) % 10 := Int.tmod_eq_emod_of_nonneg (by omega)
      have e2 : Int.tdiv (m : Int) 10 = ((m / 10 : Nat) : Int) := by rw [Int.tdiv_eq_ediv_of_nonneg (by omega)]; rfl
      have hm0 : (0 : Int) < (m : Int) := by omega
      go_wp2
      refine ⟨⟨m / 10, f, _, rfl, rfl, ?_, by omega, HG.out, HB.out.alloc hB _⟩, by simp [intOf]; omega⟩
      rw [ByteArray.size_append]
      show 1 + s.size + m / 10 ≤ k
      omega
theorem markTextPZ (z : Int) (k : Nat) (w : World) (hz : z = k) (h0 : 0 < k) (hk : k ≤ 8000000) : Calls Try.prog 72 #[.int .i64 z] w fun e w' => e = .returned (.string (mT k)) ∧ Below w.heap.size w w' := by
  subst hz
  exact markTextP k w h0 hk
/-- The marks of n values. -/
def marksV (n : Nat) : List VT := (List.range n).map fun (i : Nat) => ((1 : Int) + 3 * (i : Int), (2 : Int) + 3 * (i : Int), mT (3 + 3 * i))
theorem marksV_len (n : Nat) : (marksV n).length = n := by simp [marksV]
theorem marksV_get (n i : Nat) (h : i < n) : (flatV (marksV n))[i * 3]? = some (.int .i64 ((1 : Int) + 3 * i)) ∧ (flatV (marksV n))[i * 3 + 1]? = some (.int .i64 ((2 : Int) + 3 * i)) ∧ (flatV (marksV n))[i * 3 + 2]? = some (.string (mT (3 + 3 * i))) := by
  have hg := flatV_get (marksV n) i (by rw [marksV_len]; exact h)
  have e : (marksV n)[i]'(by rw [marksV_len]; exact h) = ((1 : Int) + 3 * i, (2 : Int) + 3 * i, mT (3 + 3 * i)) := by simp [marksV]
  rw [e] at hg
  exact hg
set_option maxHeartbeats 1000000 in
theorem markValueSP (A : Option Addr) (g cap n : Nat) (w : World) (hl : n ≤ 1048576) (hA : 0 < n → A = some ⟨g, 0, none⟩) (hF : Fill w g (flatV (marksV n)) 0) : Calls Try.prog 43 #[.slice A n cap, .int .i64 1] w fun e w' => e = .returned (.int .i64 ((1 : Int) + 3 * n)) ∧ (n = 0 → w' = w) ∧ Only g w w' ∧ Fill w' g (flatV (marksV n)) (n * 3) := by
  have HA := Lib.hid hF
  have HAD := Lib.hid hA
  clear hF hA
  go_enter Try.func43, Try.ntmps43
  go_wp2
  go_loopw [1, 5] (fun kx ix wr => ∃ (k : Nat), k ≤ n ∧ ix = .int .i64 k ∧ kx = .int .i64 ((1 : Int) + 3 * k) ∧ Hid (Fill wr g (flatV (marksV n)) (k * 3)) ∧ Hid (k = 0 → wr = w) ∧ Hid (Only g w wr)) (fun _ ix _ => n - (intOf ix).toNat)
  case atStart => exact ⟨0, Nat.zero_le _, rfl, rfl, HA, fun _ => rfl, Only.refl _ _⟩
  case round =>
    obtain ⟨k, hk, rfl, rfl, HF, HZ, HO⟩ := hrel
    by_cases hlt : k < n
    · obtain rfl := HAD.out (by omega)
      obtain ⟨u0, u1, u2⟩ := marksV_get n k hlt
      have hlen : (flatV (marksV n)).length = n * 3 := by rw [flatV_len, marksV_len]
      have F1 := Lib.hid (HF.out.set u0)
      have F2 := Lib.hid (F1.out.set u1)
      have U2 := Lib.hid u2
      have O1 := Lib.hid (HO.out.trans (Only.set wr (k * 3) (.int .i64 ((1 : Int) + 3 * k))))
      have O2 := Lib.hid (O1.out.trans (Only.set _ (k * 3 + 1) (.int .i64 ((2 : Int) + 3 * k))))
      obtain ⟨⟨v0, hv0⟩, f0, -⟩ := HF.out (k * 3) (by omega)
      obtain ⟨⟨v1, hv1⟩, f1, -⟩ := F1.out (k * 3 + 1) (by omega)
      have HL := Lib.hid hlen
      have i0' : (0 : Int) ≤ (k : Int) := by omega
      have i1' : (k : Int) < (n : Int) := by omega
      have j0' : (1 : Int) + 3 * k + 1 = 2 + 3 * k := by omega
      clear u0 u1 u2 hlen
      go_wp2_with (go_at_call 72; (with_reducible refine (markTextPZ _ (3 + 3 * k) _ (by omega) (by omega) (by omega)).mono ?_); rintro e w3 ⟨rfl, hb3⟩; have F3 := Lib.hid (F2.out.below hb3); have O3 := Lib.hid (O2.out.trans (only_of_below hb3)); obtain ⟨⟨v2, hv2⟩, f2, -⟩ := F3.out (k * 3 + 2) (by have := HL.out; omega); clear hb3)
      exact ⟨⟨k + 1, by omega, by go_num, by go_num, by rw [show (k + 1) * 3 = k * 3 + 1 + 1 + 1 by omega]; exact F3.out.set U2.out, fun h => absurd h (by omega), O3.out.trans (Only.set _ _ _)⟩, by simp [intOf]; omega⟩
    · obtain rfl : k = n := by omega
      go_wp2
      go_ret
      exact ⟨rfl, HZ.out, HO.out, HF.out⟩
end Go.Proofs.Ytlkdcijacjdneaa.Val
