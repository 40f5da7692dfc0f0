/- Rows of numbers: copying, comparing, marking; marks that nobody reads. -/
import Derived.Test.YtcgjnilkbdamjaaGreatPartS
namespace Go.Proofs.YtcgjnilkbdamjaaGreat.Val
open Go.RowKit
set_option linter.unusedVariables false
theorem toIntS (A : Option Addr) (g0 o cap : Nat) (l : List Int) (w : World) (h : Fl w g0 o A (l.map iv)) (hl : l.length ≤ 1048576) : Calls Tryz.prog 58 #[.slice A l.length cap] w (CopiedF l.length (l.map iv) w) := by
  obtain ⟨i0, hi, hz0, hz1', hz2⟩ := info_parts infoN
  have HA := Lib.hid h
  clear h
  have hfl : (l.map iv).length = l.length := List.length_map _
  have hfl1 : (l.map iv).length = l.length * 1 := by omega
  go_enter Tryz.func58, Tryz.ntmps58
  go_wp2_with (at_make; refine wpList_make_full w rfl _ _ 45 rfl w.heap.size 3 i0 (.int .i64 0) 1 Tryz.underlying45 hi hz0 hz1' .i64 .i64 l.length l.length l.length rfl rfl rfl rfl (by rw [hz2]; omega) (by unfold maxLen; omega) (Nat.le_refl _) ?_; intro w0 hown hgr)
  have HB0 : Hid (Below w.heap.size w w0) := Below.grown (Below.refl _ _) hgr (Nat.le_refl _) (by intro k hk; cases hk)
  have HC0 : Hid (Fill w0 w.heap.size (l.map iv) 0) := Fill.made hown hfl1
  clear hown hgr
  go_wp2
  go_loopw [4] (fun ix wr => ∃ k : Nat, k ≤ l.length ∧ ix = .int .i64 k ∧ Hid (Below w.heap.size w wr) ∧ Hid (Fill wr w.heap.size (l.map iv) k)) (fun ix _ => l.length - (intOf ix).toNat)
  case atStart => exact ⟨0, by omega, rfl, HB0, HC0⟩
  case round =>
    obtain ⟨k, hk, rfl, HB, HF⟩ := hrel
    clear HB0 HC0
    by_cases hlt : k < l.length
    · obtain ⟨rfl, hg, -⟩ := HA.out.n k hlt
      obtain ⟨-, hg2, c0⟩ := (HA.out.below HB.out).n k hlt
      have u0 : (l.map iv)[k]? = some (.int .i64 l[k]) := by rw [List.getElem?_map, List.getElem?_eq_getElem hlt]; rfl
      obtain ⟨K, hK⟩ : ∃ K, l[k] = K := ⟨_, rfl⟩
      rw [hK] at c0 u0
      have U0 := Lib.hid u0
      obtain ⟨⟨v0, hv0⟩, hf0, -⟩ := HF.out k (by omega)
      clear hK u0
      have i0' : (0 : Int) ≤ (k : Int) := by omega
      have i1' : (k : Int) < (l.length : Int) := by omega
      go_wp2
      exact ⟨⟨k + 1, by omega, by go_num, HB.out.setCell (Nat.le_refl _) _, HF.out.set U0.out⟩, by simp [intOf]; omega⟩
    · obtain rfl : k = l.length := by omega
      go_wp2
      go_ret
      rw [← hfl] at HF
      exact ⟨w.heap.size, l.length, rfl, HF.out.fl, HF.out.fz, Nat.le_refl _, by unfold maxLen; omega, Nat.le_refl _, HB.out⟩
/-- Two rows of the same numbers. -/
theorem eqIntS (A B : Option Addr) (g g' o o' cA cB : Nat) (l : List Int) (w : World) (hA : Fl w g o A (l.map iv)) (hB : Fl w g' o' B (l.map iv)) (hl : l.length ≤ 2000000) :
    Calls Tryz.prog 67 #[.slice A l.length cA, .slice B l.length cB] w fun e w' => e = .returned (.bool true) ∧ Below w.heap.size w w' := by
  have HA := Lib.hid hA
  have HB := Lib.hid hB
  clear hA hB
  have e0 : ((l.length : Int) != l.length) = false := by simp
  go_enter Tryz.func67, Tryz.ntmps67
  go_wp2
  go_loopw [5] (fun ix wr => ∃ (k : Nat), k ≤ l.length ∧ ix = .int .i64 k ∧ Hid (Below w.heap.size w wr)) (fun ix _ => l.length - (intOf ix).toNat)
  case atStart => exact ⟨0, by omega, rfl, Below.refl _ _⟩
  case round =>
    obtain ⟨k, hk, rfl, HW⟩ := hrel
    by_cases hlt : k < l.length
    · obtain ⟨rfl, -, -⟩ := HA.out.n k hlt
      obtain ⟨rfl, -, -⟩ := HB.out.n k hlt
      obtain ⟨-, hg2, c0⟩ := (HA.out.below HW.out).n k hlt
      obtain ⟨-, hg2', d0⟩ := (HB.out.below HW.out).n k hlt
      obtain ⟨K, hK⟩ : ∃ K, l[k] = K := ⟨_, rfl⟩
      rw [hK] at c0 d0
      clear hK
      have e1 : (K != K) = false := by simp
      have i0' : (0 : Int) ≤ (k : Int) := by omega
      have i1' : (k : Int) < (l.length : Int) := by omega
      go_wp2
      all_goals (try go_region)
      all_goals (try go_wp2)
      all_goals first
        | exact ⟨⟨k + 1, by omega, by go_num, HW⟩, by simp [intOf]; omega⟩
        | exact ⟨⟨k + 1, by omega, by go_num, HW.out.drew⟩, by simp [intOf]; omega⟩
    · obtain rfl : k = l.length := by omega
      go_wp2
      go_ret
      exact ⟨rfl, HW.out⟩
/-- The marks of n numbers. -/
def marksN (n : Nat) : List Int := (List.range n).map fun (i : Nat) => (1 : Int) + (i : Int)
theorem marksN_len (n : Nat) : (marksN n).length = n := by simp [marksN]
theorem marksN_get (n i : Nat) (h : i < n) : ((marksN n).map iv)[i]? = some (.int .i64 ((1 : Int) + i)) := by
  rw [List.getElem?_map, List.getElem?_eq_getElem (by rw [marksN_len]; exact h)]
  simp [marksN, iv]
theorem markIntSP (A : Option Addr) (g cap n : Nat) (w : World) (hl : n ≤ 1048576) (hA : 0 < n → A = some ⟨g, 0, none⟩) (hF : Fill w g ((marksN n).map iv) 0) : Calls Tryz.prog 38 #[.slice A n cap, .int .i64 1] w fun e w' => e = .returned (.int .i64 ((1 : Int) + n)) ∧ (n = 0 → w' = w) ∧ Only g w w' ∧ Fill w' g ((marksN n).map iv) n := by
  have HA := Lib.hid hF
  have HAD := Lib.hid hA
  clear hF hA
  go_enter Tryz.func38, Tryz.ntmps38
  go_wp2
  go_loopw [1, 5] (fun kx ix wr => ∃ (k : Nat), k ≤ n ∧ ix = .int .i64 k ∧ kx = .int .i64 ((1 : Int) + k) ∧ Hid (Fill wr g ((marksN n).map iv) k) ∧ Hid (k = 0 → wr = w) ∧ Hid (Only g w wr)) (fun _ ix _ => n - (intOf ix).toNat)
  case atStart => exact ⟨0, Nat.zero_le _, rfl, rfl, HA, fun _ => rfl, Only.refl _ _⟩
  case round =>
    obtain ⟨k, hk, rfl, rfl, HF, HZ, HO⟩ := hrel
    by_cases hlt : k < n
    · obtain rfl := HAD.out (by omega)
      have U0 := Lib.hid (marksN_get n k hlt)
      have hlen : ((marksN n).map iv).length = n := by rw [List.length_map, marksN_len]
      have F1 := Lib.hid (HF.out.set U0.out)
      have O1 := Lib.hid (HO.out.trans (Only.set wr k (.int .i64 ((1 : Int) + k))))
      obtain ⟨⟨v0, hv0⟩, f0, -⟩ := HF.out k (by omega)
      have i0' : (0 : Int) ≤ (k : Int) := by omega
      have i1' : (k : Int) < (n : Int) := by omega
      clear hlen
      go_wp2
      exact ⟨⟨k + 1, by omega, by go_num, by go_num, F1, fun h => absurd h (by omega), O1⟩, by simp [intOf]; omega⟩
    · obtain rfl : k = n := by omega
      go_wp2
      go_ret
      exact ⟨rfl, HZ.out, HO.out, HF.out⟩
/-! ### Marks that nobody reads -/
theorem markIntF (A : Option Addr) (g cap n : Nat) (z : Int) (w : World) (hz0 : 0 ≤ z) (hz1 : z ≤ 900000000) (hl : n ≤ 1048576) (hA : 0 < n → A = some ⟨g, 0, none⟩) (hF : Free w g n) : Calls Tryz.prog 38 #[.slice A n cap, .int .i64 z] w fun e w' => ∃ r : Int, (e = .returned (.int .i64 r) ∧ 0 ≤ r ∧ r ≤ z + n) ∧ (n = 0 → w' = w) ∧ Only g w w' := by
  have HA := Lib.hid hF
  have HAD := Lib.hid hA
  clear hF hA
  go_enter Tryz.func38, Tryz.ntmps38
  go_wp2
  go_loopw [1, 5] (fun kx ix wr => ∃ (k : Nat) (r : Int), k ≤ n ∧ ix = .int .i64 k ∧ kx = .int .i64 r ∧ 0 ≤ r ∧ r ≤ z + k ∧ Hid (Free wr g n) ∧ Hid (k = 0 → wr = w) ∧ Hid (Only g w wr)) (fun _ ix _ => n - (intOf ix).toNat)
  case atStart => exact ⟨0, z, Nat.zero_le _, rfl, rfl, hz0, by omega, HA, fun _ => rfl, Only.refl _ _⟩
  case round =>
    obtain ⟨k, r, hk, rfl, rfl, hr0, hr1, HF, HZ, HO⟩ := hrel
    by_cases hlt : k < n
    · obtain rfl := HAD.out (by omega)
      obtain ⟨⟨v0, hv0⟩, f0⟩ := HF.out k hlt
      have F1 := Lib.hid (HF.out.set k (.int .i64 r))
      have O1 := Lib.hid (HO.out.trans (Only.set wr k (.int .i64 r)))
      have i0' : (0 : Int) ≤ (k : Int) := by omega
      have i1' : (k : Int) < (n : Int) := by omega
      go_wp2
      exact ⟨⟨k + 1, r + 1, by omega, by go_num, by go_num, by omega, by omega, F1, fun h => absurd h (by omega), O1⟩, by simp [intOf]; omega⟩
    · obtain rfl : k = n := by omega
      go_wp2
      go_ret
      exact ⟨r, ⟨rfl, hr0, hr1⟩, HZ.out, HO.out⟩
theorem markColF (A : Option Addr) (g cap n : Nat) (z : Int) (w : World) (hz0 : 0 ≤ z) (hz1 : z ≤ 900000000) (hl : n ≤ 1048576) (hA : 0 < n → A = some ⟨g, 0, none⟩) (hF : Free w g (n * 2)) : Calls Tryz.prog 36 #[.slice A n cap, .int .i64 z] w fun e w' => ∃ r : Int, (e = .returned (.int .i64 r) ∧ 0 ≤ r ∧ r ≤ z + 2 * n) ∧ (n = 0 → w' = w) ∧ Only g w w' := by
  have HA := Lib.hid hF
  have HAD := Lib.hid hA
  clear hF hA
  go_enter Tryz.func36, Tryz.ntmps36
  go_wp2
  go_loopw [1, 5] (fun kx ix wr => ∃ (k : Nat) (r : Int), k ≤ n ∧ ix = .int .i64 k ∧ kx = .int .i64 r ∧ 0 ≤ r ∧ r ≤ z + 2 * k ∧ Hid (Free wr g (n * 2)) ∧ Hid (k = 0 → wr = w) ∧ Hid (Only g w wr)) (fun _ ix _ => n - (intOf ix).toNat)
  case atStart => exact ⟨0, z, Nat.zero_le _, rfl, rfl, hz0, by omega, HA, fun _ => rfl, Only.refl _ _⟩
  case round =>
    obtain ⟨k, r, hk, rfl, rfl, hr0, hr1, HF, HZ, HO⟩ := hrel
    by_cases hlt : k < n
    · obtain rfl := HAD.out (by omega)
      obtain ⟨⟨v0, hv0⟩, f0⟩ := HF.out (k * 2) (by omega)
      have F1 := Lib.hid (HF.out.set (k * 2) (.int .i64 r))
      obtain ⟨⟨v1, hv1⟩, f1⟩ := F1.out (k * 2 + 1) (by omega)
      have F2 := Lib.hid (fun u => F1.out.set (k * 2 + 1) u)
      have O1 := Lib.hid (HO.out.trans (Only.set wr (k * 2) (.int .i64 r)))
      have O2 := Lib.hid (fun u => O1.out.trans (Only.set _ (k * 2 + 1) u))
      have e1 : Int.tmod (r + 1) 3 = (r + 1) % 3 := Int.tmod_eq_emod_of_nonneg (by omega)
      have i0' : (0 : Int) ≤ (k : Int) := by omega
      have i1' : (k : Int) < (n : Int) := by omega
      go_wp2
      exact ⟨⟨k + 1, r + 1 + 1, by omega, by go_num, by go_num, by omega, by omega, F2.out _, fun h => absurd h (by omega), O2.out _⟩, by simp [intOf]; omega⟩
    · obtain rfl : k = n := by omega
      go_wp2
      go_ret
      exact ⟨r, ⟨rfl, hr0, hr1⟩, HZ.out, HO.out⟩
set_option maxHeartbeats 2000000 in
theorem markPartF (A : Option Addr) (g cap n : Nat) (z : Int) (w : World) (hz0 : 0 ≤ z) (hz1 : z ≤ 2500000) (hl : n ≤ 1048576) (hA : 0 < n → A = some ⟨g, 0, none⟩) (hF : Free w g (n * 5)) : Calls Tryz.prog 37 #[.slice A n cap, .int .i64 z] w fun e w' => ∃ r : Int, (e = .returned (.int .i64 r) ∧ 0 ≤ r ∧ r ≤ z + 5 * n) ∧ (n = 0 → w' = w) ∧ Only g w w' := by
  have HA := Lib.hid hF
  have HAD := Lib.hid hA
  clear hF hA
  go_enter Tryz.func37, Tryz.ntmps37
  go_wp2
  go_loopw [1, 5] (fun kx ix wr => ∃ (k : Nat) (r : Int), k ≤ n ∧ ix = .int .i64 k ∧ kx = .int .i64 r ∧ 0 ≤ r ∧ r ≤ z + 5 * k ∧ Hid (Free wr g (n * 5)) ∧ Hid (k = 0 → wr = w) ∧ Hid (Only g w wr)) (fun _ ix _ => n - (intOf ix).toNat)
  case atStart => exact ⟨0, z, Nat.zero_le _, rfl, rfl, hz0, by omega, HA, fun _ => rfl, Only.refl _ _⟩
  case round =>
    obtain ⟨k, r, hk, rfl, rfl, hr0, hr1, HF, HZ, HO⟩ := hrel
    by_cases hlt : k < n
    · obtain rfl := HAD.out (by omega)
      have F1 := Lib.hid (HF.out.set (k * 5) (.int .i64 r))
      have F2 := Lib.hid (F1.out.set (k * 5 + 1) (.int .i64 (r + 1)))
      have F3 := Lib.hid (F2.out.set (k * 5 + 2) (.int .i64 (r + 1 + 1)))
      have F4 := Lib.hid (F3.out.set (k * 5 + 3) (.int .i64 (r + 1 + 1 + 1)))
      have O1 := Lib.hid (HO.out.trans (Only.set wr (k * 5) (.int .i64 r)))
      have O2 := Lib.hid (O1.out.trans (Only.set _ (k * 5 + 1) (.int .i64 (r + 1))))
      have O3 := Lib.hid (O2.out.trans (Only.set _ (k * 5 + 2) (.int .i64 (r + 1 + 1))))
      have O4 := Lib.hid (O3.out.trans (Only.set _ (k * 5 + 3) (.int .i64 (r + 1 + 1 + 1))))
      obtain ⟨⟨v0, hv0⟩, f0⟩ := HF.out (k * 5) (by omega)
      obtain ⟨⟨v1, hv1⟩, f1⟩ := F1.out (k * 5 + 1) (by omega)
      obtain ⟨⟨v2, hv2⟩, f2⟩ := F2.out (k * 5 + 2) (by omega)
      obtain ⟨⟨v3, hv3⟩, f3⟩ := F3.out (k * 5 + 3) (by omega)
      have i0' : (0 : Int) ≤ (k : Int) := by omega
      have i1' : (k : Int) < (n : Int) := by omega
      go_wp2_with (go_at_call 68; (with_reducible refine (markTextZ _ _ (by omega) (by omega)).mono ?_); rintro e w3 ⟨s, rfl, hb3⟩; have F5 := Lib.hid (F4.out.below hb3); have O5 := Lib.hid (O4.out.trans (only_of_below hb3)); obtain ⟨⟨v4, hv4⟩, f4⟩ := F5.out (k * 5 + 4) (by omega); clear hb3)
      exact ⟨⟨k + 1, r + 1 + 1 + 1 + 1 + 1, by omega, by go_num, by go_num, by omega, by omega, F5.out.set _ _, fun h => absurd h (by omega), O5.out.trans (Only.set _ _ _)⟩, by simp [intOf]; omega⟩
    · obtain rfl : k = n := by omega
      go_wp2
      go_ret
      exact ⟨r, ⟨rfl, hr0, hr1⟩, HZ.out, HO.out⟩
end Go.Proofs.YtcgjnilkbdamjaaGreat.Val
