/- Marks laid in a row of parts, of numbers, from any number on, and told again. -/
import Derived.Test.YtacinjbaebimhaaPartSQ
namespace Go.Proofs.Ytacinjbaebimhaa.Val
open Go.RowKit
set_option linter.unusedVariables false
/-- The marks of n parts. -/
def marksPK (N n : Nat) : List PT := (List.range n).map fun (i : Nat) => ((N : Int) + 5 * (i : Int), ((N : Int) + 1) + 5 * (i : Int), (((N : Int) + 2) + 5 * (i : Int), ((N : Int) + 3) + 5 * (i : Int), mT (N + 4 + 5 * i)))
theorem marksPK_len (N n : Nat) : (marksPK N n).length = n := by simp [marksPK]
theorem marksPK_get (N n i : Nat) (h : i < n) : (flatP (marksPK N n))[i * 5]? = some (.int .i64 ((N : Int) + 5 * i)) ∧ (flatP (marksPK N n))[i * 5 + 1]? = some (.int .i64 (((N : Int) + 1) + 5 * i)) ∧ (flatP (marksPK N n))[i * 5 + 2]? = some (.int .i64 (((N : Int) + 2) + 5 * i)) ∧ (flatP (marksPK N n))[i * 5 + 3]? = some (.int .i64 (((N : Int) + 3) + 5 * i)) ∧ (flatP (marksPK N n))[i * 5 + 4]? = some (.string (mT (N + 4 + 5 * i))) := by
  have hg := flatP_get (marksPK N n) i (by rw [marksPK_len]; exact h)
  have e : (marksPK N n)[i]'(by rw [marksPK_len]; exact h) = ((N : Int) + 5 * (i : Int), ((N : Int) + 1) + 5 * (i : Int), (((N : Int) + 2) + 5 * (i : Int), ((N : Int) + 3) + 5 * (i : Int), mT (N + 4 + 5 * i))) := by simp [marksPK]
  rw [e] at hg
  exact hg
set_option maxHeartbeats 2000000 in
theorem markPartSK (N : Nat) (A : Option Addr) (g cap n : Nat) (w : World) (hl : N + 5 * n ≤ 7000000) (hA : 0 < n → A = some ⟨g, 0, none⟩) (hF : Fill w g (flatP (marksPK N n)) 0) : Calls Try.prog 73 #[.slice A n cap, .int .i64 (N : Int)] w fun e w' => e = .returned (.int .i64 ((N : Int) + 5 * n)) ∧ (n = 0 → w' = w) ∧ Only g w w' ∧ Fill w' g (flatP (marksPK N n)) (n * 5) := by
  have HA := Lib.hid hF
  have HAD := Lib.hid hA
  clear hF hA
  go_enter Try.func73, Try.ntmps73
  go_wp2
  go_loopw [1, 5] (fun kx ix wr => ∃ (k : Nat), k ≤ n ∧ ix = .int .i64 k ∧ kx = .int .i64 ((N : Int) + 5 * k) ∧ Hid (Fill wr g (flatP (marksPK N n)) (k * 5)) ∧ Hid (k = 0 → wr = w) ∧ Hid (Only g w wr)) (fun _ ix _ => n - (intOf ix).toNat)
  case atStart => exact ⟨0, Nat.zero_le _, rfl, by simp, HA, fun _ => rfl, Only.refl _ _⟩
  case round =>
    obtain ⟨k, hk, rfl, rfl, HF, HZ, HO⟩ := hrel
    by_cases hlt : k < n
    · obtain rfl := HAD.out (by omega)
      obtain ⟨u0, u1, u2, u3, u4⟩ := marksPK_get N n k hlt
      have hlen : (flatP (marksPK N n)).length = n * 5 := by rw [flatP_len, marksPK_len]
      have F1 := Lib.hid (HF.out.set u0)
      have F2 := Lib.hid (F1.out.set u1)
      have F3 := Lib.hid (F2.out.set u2)
      have F4 := Lib.hid (F3.out.set u3)
      have U4 := Lib.hid u4
      have O1 := Lib.hid (HO.out.trans (Only.set wr (k * 5) (.int .i64 ((N : Int) + 5 * k))))
      have O2 := Lib.hid (O1.out.trans (Only.set _ (k * 5 + 1) (.int .i64 (((N : Int) + 1) + 5 * k))))
      have O3 := Lib.hid (O2.out.trans (Only.set _ (k * 5 + 1 + 1) (.int .i64 (((N : Int) + 2) + 5 * k))))
      have O4 := Lib.hid (O3.out.trans (Only.set _ (k * 5 + 1 + 1 + 1) (.int .i64 (((N : Int) + 3) + 5 * k))))
      obtain ⟨⟨v0, hv0⟩, f0, -⟩ := HF.out (k * 5) (by omega)
      obtain ⟨⟨v1, hv1⟩, f1, -⟩ := F1.out (k * 5 + 1) (by omega)
      obtain ⟨⟨v2, hv2⟩, f2, -⟩ := F2.out (k * 5 + 2) (by omega)
      obtain ⟨⟨v3, hv3⟩, f3, -⟩ := F3.out (k * 5 + 3) (by omega)
      have HL := Lib.hid hlen
      have i0' : (0 : Int) ≤ (k : Int) := by omega
      have i1' : (k : Int) < (n : Int) := by omega
      have j0' : (N : Int) + 5 * k + 1 = ((N : Int) + 1) + 5 * k := by omega
      have j1' : ((N : Int) + 1) + 5 * k + 1 = ((N : Int) + 2) + 5 * k := by omega
      have j2' : ((N : Int) + 2) + 5 * k + 1 = ((N : Int) + 3) + 5 * k := by omega
      clear u0 u1 u2 u3 u4 hlen
      go_wp2_with (go_at_call 111; (with_reducible refine (markTextPZ _ (N + 4 + 5 * k) _ (by omega) (by omega) (by omega)).mono ?_); rintro e w3 ⟨rfl, hb3⟩; have F5 := Lib.hid (F4.out.below hb3); have O5 := Lib.hid (O4.out.trans (only_of_below hb3)); obtain ⟨⟨v4, hv4⟩, f4, -⟩ := F5.out (k * 5 + 4) (by have := HL.out; omega); clear hb3)
      exact ⟨⟨k + 1, by omega, by go_num, by go_num, by rw [show (k + 1) * 5 = k * 5 + 1 + 1 + 1 + 1 + 1 by omega]; exact F5.out.set U4.out, fun h => absurd h (by omega), O5.out.trans (Only.set _ _ _)⟩, by simp [intOf]; omega⟩
    · obtain rfl : k = n := by omega
      go_wp2
      go_ret
      exact ⟨rfl, HZ.out, HO.out, HF.out⟩
set_option maxHeartbeats 1000000 in
theorem heldPartSK (N : Nat) (A : Option Addr) (g cap n : Nat) (w : World) (hl : N + 5 * n ≤ 7000000) (hF : Fl w g 0 A (flatP (marksPK N n))) : Calls Try.prog 75 #[.slice A n cap, .int .i64 (N : Int)] w fun e w' => e = .returned (.int .i64 ((N : Int) + 5 * n)) ∧ Below w.heap.size w w' := by
  have HF := Lib.hid hF
  clear hF
  go_enter Try.func75, Try.ntmps75
  go_wp2
  go_loopw [1, 5] (fun kx ix wr => ∃ (k : Nat), k ≤ n ∧ ix = .int .i64 k ∧ kx = .int .i64 ((N : Int) + 5 * k) ∧ Hid (Below w.heap.size w wr)) (fun _ ix _ => n - (intOf ix).toNat)
  case atStart => exact ⟨0, Nat.zero_le _, rfl, by simp, Below.refl _ _⟩
  case round =>
    obtain ⟨k, hk, rfl, rfl, HB⟩ := hrel
    by_cases hlt : k < n
    · have hB := HB.out.size
      have hv := (HF.out.below HB.out).pt k (by rw [marksPK_len]; exact hlt)
      have e : (marksPK N n)[k]'(by rw [marksPK_len]; exact hlt) = ((N : Int) + 5 * (k : Int), ((N : Int) + 1) + 5 * (k : Int), (((N : Int) + 2) + 5 * (k : Int), ((N : Int) + 3) + 5 * (k : Int), mT (N + 4 + 5 * k))) := by simp [marksPK]
      rw [e] at hv
      obtain ⟨rfl, hg, c0, c1, c2, c3, c4⟩ := hv
      simp only [Nat.zero_add] at c0 c1 c2 c3 c4
      clear e
      obtain ⟨T, hT⟩ : ∃ T, mT (N + 4 + 5 * k) = T := ⟨_, rfl⟩
      have CM := Lib.hid (fun z W hz => markTextPZ z (N + 4 + 5 * k) W hz (by omega) (by omega))
      rw [hT] at CM c4
      clear hT
      have i0' : (0 : Int) ≤ (k : Int) := by omega
      have i1' : (k : Int) < (n : Int) := by omega
      have j0' : (N : Int) + 5 * k + 1 = ((N : Int) + 1) + 5 * k := by omega
      have j1' : ((N : Int) + 1) + 5 * k + 1 = ((N : Int) + 2) + 5 * k := by omega
      have j2' : ((N : Int) + 2) + 5 * k + 1 = ((N : Int) + 3) + 5 * k := by omega
      have HS0 : wr.cell? ⟨g, k * 5 + 4, none⟩ = some (.string T) ∧ g < wr.heap.size ∧ Below w.heap.size w wr ∧ w.heap.size ≤ wr.heap.size := ⟨c4, hg, HB.out, hB⟩
      clear c4
      go_wp2_with (fail)
      go_region_held_law (fun w' => w'.cell? ⟨g, k * 5 + 4, none⟩ = some (.string T) ∧ g < w'.heap.size ∧ Below w.heap.size w w' ∧ w.heap.size ≤ w'.heap.size) (first | exact keepM (by assumption) hbq | exact keepMD (by assumption) | assumption) (first | (go_at_call 111; (with_reducible refine (CM.out _ _ (by omega)).mono ?_); rintro e w1 ⟨rfl, hbq⟩))
      have HW : w1.cell? ⟨g, k * 5 + 4, none⟩ = some (.string T) ∧ g < w1.heap.size ∧ Below w.heap.size w w1 ∧ w.heap.size ≤ w1.heap.size := by assumption
      go_wp2
      exact ⟨⟨k + 1, by omega, by go_num, by go_num, HW.2.2.1⟩, by simp [intOf]; omega⟩
    · obtain rfl : k = n := by omega
      go_wp2
      go_ret
      exact ⟨rfl, HB.out⟩
/-- The marks of n numbers. -/
def marksNK (N n : Nat) : List Int := (List.range n).map fun (i : Nat) => (N : Int) + (i : Int)
theorem marksNK_len (N n : Nat) : (marksNK N n).length = n := by simp [marksNK]
theorem marksNK_get (N n i : Nat) (h : i < n) : ((marksNK N n).map iv)[i]? = some (.int .i64 ((N : Int) + i)) := by
  rw [List.getElem?_map, List.getElem?_eq_getElem (by rw [marksNK_len]; exact h)]
  simp [marksNK, iv]
theorem markIntSK (N : Nat) (A : Option Addr) (g cap n : Nat) (w : World) (hl : N + n ≤ 7000000) (hA : 0 < n → A = some ⟨g, 0, none⟩) (hF : Fill w g ((marksNK N n).map iv) 0) : Calls Try.prog 74 #[.slice A n cap, .int .i64 (N : Int)] w fun e w' => e = .returned (.int .i64 ((N : Int) + n)) ∧ (n = 0 → w' = w) ∧ Only g w w' ∧ Fill w' g ((marksNK N n).map iv) n := by
  have HA := Lib.hid hF
  have HAD := Lib.hid hA
  clear hF hA
  go_enter Try.func74, Try.ntmps74
  go_wp2
  go_loopw [1, 5] (fun kx ix wr => ∃ (k : Nat), k ≤ n ∧ ix = .int .i64 k ∧ kx = .int .i64 ((N : Int) + k) ∧ Hid (Fill wr g ((marksNK N n).map iv) k) ∧ Hid (k = 0 → wr = w) ∧ Hid (Only g w wr)) (fun _ ix _ => n - (intOf ix).toNat)
  case atStart => exact ⟨0, Nat.zero_le _, rfl, by simp, HA, fun _ => rfl, Only.refl _ _⟩
  case round =>
    obtain ⟨k, hk, rfl, rfl, HF, HZ, HO⟩ := hrel
    by_cases hlt : k < n
    · obtain rfl := HAD.out (by omega)
      have U0 := Lib.hid (marksNK_get N n k hlt)
      have hlen : ((marksNK N n).map iv).length = n := by rw [List.length_map, marksNK_len]
      have F1 := Lib.hid (HF.out.set U0.out)
      have O1 := Lib.hid (HO.out.trans (Only.set wr k (.int .i64 ((N : Int) + k))))
      obtain ⟨⟨v0, hv0⟩, f0, -⟩ := HF.out k (by omega)
      have i0' : (0 : Int) ≤ (k : Int) := by omega
      have i1' : (k : Int) < (n : Int) := by omega
      clear hlen
      go_wp2
      exact ⟨⟨k + 1, by omega, by go_num, by go_num, F1, fun h => absurd h (by omega), O1⟩, by simp [intOf]; omega⟩
    · obtain rfl : k = n := by omega
      go_wp2
      go_ret
      exact ⟨rfl, HZ.out, HO.out, HF.out⟩
theorem heldIntSK (N : Nat) (A : Option Addr) (g cap n : Nat) (w : World) (hl : N + n ≤ 7000000) (hF : Fl w g 0 A ((marksNK N n).map iv)) : Calls Try.prog 76 #[.slice A n cap, .int .i64 (N : Int)] w fun e w' => e = .returned (.int .i64 ((N : Int) + n)) ∧ Below w.heap.size w w' := by
  have HF := Lib.hid hF
  clear hF
  go_enter Try.func76, Try.ntmps76
  go_wp2
  go_loopw [1, 5] (fun kx ix wr => ∃ (k : Nat), k ≤ n ∧ ix = .int .i64 k ∧ kx = .int .i64 ((N : Int) + k) ∧ Hid (Below w.heap.size w wr)) (fun _ ix _ => n - (intOf ix).toNat)
  case atStart => exact ⟨0, Nat.zero_le _, rfl, by simp, Below.refl _ _⟩
  case round =>
    obtain ⟨k, hk, rfl, rfl, HB⟩ := hrel
    by_cases hlt : k < n
    · have hv := (HF.out.below HB.out).n k (by rw [marksNK_len]; exact hlt)
      have e : (marksNK N n)[k]'(by rw [marksNK_len]; exact hlt) = (N : Int) + (k : Int) := by simp [marksNK]
      rw [e] at hv
      obtain ⟨rfl, hg, c0⟩ := hv
      simp only [Nat.zero_add] at c0
      clear e
      have e1 : ((N : Int) + k != (N : Int) + k) = false := by simp
      have i0' : (0 : Int) ≤ (k : Int) := by omega
      have i1' : (k : Int) < (n : Int) := by omega
      go_wp2
      all_goals exact ⟨⟨k + 1, by omega, by go_num, by go_num, HB⟩, by simp [intOf]; omega⟩
    · obtain rfl : k = n := by omega
      go_wp2
      go_ret
      exact ⟨rfl, HB.out⟩
end Go.Proofs.Ytacinjbaebimhaa.Val
