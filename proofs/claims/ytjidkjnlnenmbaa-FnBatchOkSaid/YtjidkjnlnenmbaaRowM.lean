/- Marking a row of values: markText, markValueS; Marks laid in a row of values, and told again: markText, markValueS, heldValueS, and markByteS of a long row; Marks told: heldValueS. -/
import Derived.Test.YtjidkjnlnenmbaaRowV
import Derived.Deep.RegionHeldLaw
import Derived.Test.YtjidkjnlnenmbaaRow
namespace Go.Proofs.Ytjidkjnlnenmbaa.Val
open Go.RowKit
set_option linter.unusedVariables false
theorem markText (k : Nat) (w : World) (hk : k ≤ 8000000) : Calls Try.prog 87 #[.int .i64 k] w fun e w' => ∃ s : ByteArray, e = .returned (.string s) ∧ Below w.heap.size w w' := by
  by_cases h0 : k = 0
  · subst h0
    go_enter Try.func87, Try.ntmps87
    go_wp2
    go_ret
    exact ⟨_, rfl, Below.refl _ _⟩
  · have d0 : ¬ ((k : Int) ≤ 0) := by omega
    go_enter Try.func87, Try.ntmps87
    go_wp2
    go_loopw [0, 3] (fun kx sx wr => ∃ (m : Nat) (s : ByteArray), kx = .int .i64 m ∧ sx = .string s ∧ s.size + m ≤ k ∧ Hid (Below w.heap.size w wr)) (fun kx _ _ => (intOf kx).toNat)
    case atStart => exact ⟨k, ⟨#[]⟩, rfl, rfl, by show 0 + k ≤ k; omega, Below.refl _ _⟩
    case round =>
      obtain ⟨m, s, rfl, rfl, hs, HB⟩ := hrel
      have hB := HB.out.size
      by_cases hm : m = 0
      · subst hm
        go_wp2
        go_ret
        exact ⟨_, rfl, HB.out⟩
      · have kc := convAt (48 + (m : Int) % 10)
        have b1 : (m : Int) % 10 < 10 := by omega
        have b2 : 0 ≤ (m : Int) % 10 := by omega
        have e1 : Int.tmod (m : Int) 10 = (m : Int) % 10 := Int.tmod_eq_emod_of_nonneg (by omega)
        have e2 : Int.tdiv (m : Int) 10 = ((m / 10 : Nat) : Int) := by rw [Int.tdiv_eq_ediv_of_nonneg (by omega)]; rfl
        have hm0 : (0 : Int) < (m : Int) := by omega
        go_wp2
        refine ⟨⟨m / 10, _, rfl, rfl, ?_, HB.out.alloc hB _⟩, by simp [intOf]; omega⟩
        rw [ByteArray.size_append]
        show 1 + s.size + m / 10 ≤ k
        omega
theorem markTextZ (z : Int) (w : World) (h0 : 0 ≤ z) (hk : z ≤ 8000000) : Calls Try.prog 87 #[.int .i64 z] w fun e w' => ∃ s : ByteArray, e = .returned (.string s) ∧ Below w.heap.size w w' := by
  obtain ⟨k, rfl⟩ := Int.eq_ofNat_of_zero_le h0
  exact markText k w (by omega)
/-- The first n cells of block g are there, and can be written. -/
def Free (w : World) (g n : Nat) : Prop := ∀ j, j < n → (∃ v, w.cell? ⟨g, j, none⟩ = some v) ∧ w.frozen? ⟨g, j, none⟩ = false
theorem Free.set {w : World} {g n : Nat} (h : Free w g n) (m : Nat) (u : Value) : Free (w.setCell ⟨g, m, none⟩ u) g n := by
  intro j hj
  obtain ⟨⟨v, hv⟩, hf⟩ := h j hj
  refine ⟨?_, by rw [World.frozen?_setCell]; exact hf⟩
  by_cases e : j = m
  · subst e; exact ⟨_, World.cell?_setCell_same _ _ _ hv⟩
  · exact ⟨v, by rw [World.cell?_setCell_other _ _ _ _ (offNe (by omega))]; exact hv⟩
theorem Free.below {w w' : World} {g n : Nat} (h : Free w g n) (hb : Below w.heap.size w w') : Free w' g n := by
  intro j hj
  obtain ⟨⟨v, hv⟩, hf⟩ := h j hj
  have hg := World.block_lt_of_cell? w _ hv
  exact ⟨⟨v, (hb.cell (p := ⟨g, j, none⟩) hg).trans hv⟩, (hb.frozen (p := ⟨g, j, none⟩) hg).trans hf⟩
theorem only_of_below {g : Nat} {w w' : World} (hb : Below w.heap.size w w') : Only g w w' := ⟨hb.os, hb.tape, hb.output, hb.size, fun k hk _ => hb.block k hk⟩
theorem markValueS (g cap n : Nat) (w : World) (hl : n ≤ 1048576) (hA : Free w g (n * 3)) : Calls Try.prog 41 #[.slice (some ⟨g, 0, none⟩) n cap, .int .i64 1] w fun e w' => ∃ r : Int, (e = .returned (.int .i64 r) ∧ 0 ≤ r) ∧ (n = 0 → w' = w) ∧ Only g w w' := by
  have HA := Lib.hid hA
  clear hA
  go_enter Try.func41, Try.ntmps41
  go_wp2
  go_loopw [1, 5] (fun kx ix wr => ∃ (k : Nat) (Z : Int), k ≤ n ∧ ix = .int .i64 k ∧ kx = .int .i64 Z ∧ 0 ≤ Z ∧ Z ≤ 1 + 3 * k ∧ Hid (Free wr g (n * 3)) ∧ Hid (k = 0 → wr = w) ∧ Hid (Only g w wr)) (fun _ ix _ => n - (intOf ix).toNat)
  case atStart => exact ⟨0, 1, Nat.zero_le _, rfl, rfl, by omega, by omega, HA, fun _ => rfl, Only.refl _ _⟩
  case round =>
    obtain ⟨k, Z, hk, rfl, rfl, hZ0, hZ1, HF, HZ, HO⟩ := hrel
    by_cases hlt : k < n
    · have F1 := Lib.hid (HF.out.set (k * 3) (.int .i64 Z))
      have F2 := Lib.hid (F1.out.set (k * 3 + 1) (.int .i64 (Z + 1)))
      have O1 := Lib.hid (HO.out.trans (Only.set wr (k * 3) (.int .i64 Z)))
      have O2 := Lib.hid (O1.out.trans (Only.set _ (k * 3 + 1) (.int .i64 (Z + 1))))
      obtain ⟨⟨v0, hv0⟩, f0⟩ := HF.out (k * 3) (by omega)
      obtain ⟨⟨v1, hv1⟩, f1⟩ := F1.out (k * 3 + 1) (by omega)
      have i0' : (0 : Int) ≤ (k : Int) := by omega
      have i1' : (k : Int) < (n : Int) := by omega
      go_wp2_with (go_at_call 87; (with_reducible refine (markTextZ _ _ (by omega) (by omega)).mono ?_); rintro e w3 ⟨s, rfl, hb3⟩; have F3 := Lib.hid (F2.out.below hb3); have O3 := Lib.hid (O2.out.trans (only_of_below hb3)); obtain ⟨⟨v2, hv2⟩, f2⟩ := F3.out (k * 3 + 2) (by omega); clear hb3)
      exact ⟨⟨k + 1, Z + 1 + 1 + 1, by omega, by go_num, by go_num, by omega, by omega, F3.out.set _ _, fun h => absurd h (by omega), O3.out.trans (Only.set _ _ _)⟩, by simp [intOf]; omega⟩
    · obtain rfl : k = n := by omega
      go_wp2
      go_ret
      exact ⟨_, ⟨rfl, by omega⟩, HZ.out, HO.out⟩
end Go.Proofs.Ytjidkjnlnenmbaa.Val
namespace Go.Proofs.Ytjidkjnlnenmbaa.Val
open Go.RowKit
set_option linter.unusedVariables false
def mGo : Nat → Nat → ByteArray → ByteArray
  | 0, _, s => s
  | f + 1, m, s => if m = 0 then s else mGo f (m / 10) (⟨#[(48 : UInt8) + UInt8.ofNat (m % 10)]⟩ ++ s)
theorem mGo_zero (f : Nat) (s : ByteArray) : mGo f 0 s = s := by cases f <;> simp [mGo]
def mT (k : Nat) : ByteArray := ⟨#[109]⟩ ++ mGo k k ⟨#[]⟩
theorem markTextP (k : Nat) (w : World) (h0 : 0 < k) (hk : k ≤ 8000000) : Calls Try.prog 87 #[.int .i64 k] w fun e w' => e = .returned (.string (mT k)) ∧ Below w.heap.size w w' := by
  have d0 : ¬ ((k : Int) ≤ 0) := by omega
  go_enter Try.func87, Try.ntmps87
  go_wp2
  go_loopw [0, 3] (fun kx sx wr => ∃ (m f : Nat) (s : ByteArray), kx = .int .i64 m ∧ sx = .string s ∧ s.size + m ≤ k ∧ m ≤ f ∧ mGo f m s = mGo k k ⟨#[]⟩ ∧ Hid (Below w.heap.size w wr)) (fun kx _ _ => (intOf kx).toNat)
  case atStart => exact ⟨k, k, ⟨#[]⟩, rfl, rfl, by show 0 + k ≤ k; omega, Nat.le_refl _, rfl, Below.refl _ _⟩
  case round =>
    obtain ⟨m, f, s, rfl, rfl, hs, hmf, hg, HB⟩ := hrel
    have hB := HB.out.size
    by_cases hm : m = 0
    · subst hm
      rw [mGo_zero] at hg
      subst hg
      go_wp2
      go_ret
      exact ⟨rfl, HB.out⟩
    · obtain ⟨f, rfl⟩ : ∃ f', f = f' + 1 := ⟨f - 1, by omega⟩
      rw [mGo, if_neg hm] at hg
      have HG := Lib.hid hg
      clear hg
      have kc := convAt (48 + (m : Int) % 10)
      have b1 : (m : Int) % 10 < 10 := by omega
      have b2 : 0 ≤ (m : Int) % 10 := by omega
      have e1 : Int.tmod (m : Int) 10 = (m : Int) % 10 := Int.tmod_eq_emod_of_nonneg (by omega)
      have e2 : Int.tdiv (m : Int) 10 = ((m / 10 : Nat) : Int) := by rw [Int.tdiv_eq_ediv_of_nonneg (by omega)]; rfl
      have hm0 : (0 : Int) < (m : Int) := by omega
      go_wp2
      refine ⟨⟨m / 10, f, _, rfl, rfl, ?_, by omega, HG.out, HB.out.alloc hB _⟩, by simp [intOf]; omega⟩
      rw [ByteArray.size_append]
      show 1 + s.size + m / 10 ≤ k
      omega
theorem markTextPZ (z : Int) (k : Nat) (w : World) (hz : z = k) (h0 : 0 < k) (hk : k ≤ 8000000) : Calls Try.prog 87 #[.int .i64 z] w fun e w' => e = .returned (.string (mT k)) ∧ Below w.heap.size w w' := by
  subst hz
  exact markTextP k w h0 hk
/-- The marks of n values. -/
def marksV (n : Nat) : List VT := (List.range n).map fun (i : Nat) => ((1 : Int) + 3 * (i : Int), (2 : Int) + 3 * (i : Int), mT (3 + 3 * i))
theorem marksV_len (n : Nat) : (marksV n).length = n := by simp [marksV]
theorem marksV_get (n i : Nat) (h : i < n) : (flatV (marksV n))[i * 3]? = some (.int .i64 ((1 : Int) + 3 * i)) ∧ (flatV (marksV n))[i * 3 + 1]? = some (.int .i64 ((2 : Int) + 3 * i)) ∧ (flatV (marksV n))[i * 3 + 2]? = some (.string (mT (3 + 3 * i))) := by
  have hg := flatV_get (marksV n) i (by rw [marksV_len]; exact h)
  have e : (marksV n)[i]'(by rw [marksV_len]; exact h) = ((1 : Int) + 3 * i, (2 : Int) + 3 * i, mT (3 + 3 * i)) := by simp [marksV]
  rw [e] at hg
  exact hg
set_option maxHeartbeats 1000000 in
theorem markValueSP (A : Option Addr) (g cap n : Nat) (w : World) (hl : n ≤ 1048576) (hA : 0 < n → A = some ⟨g, 0, none⟩) (hF : Fill w g (flatV (marksV n)) 0) : Calls Try.prog 41 #[.slice A n cap, .int .i64 1] w fun e w' => e = .returned (.int .i64 ((1 : Int) + 3 * n)) ∧ (n = 0 → w' = w) ∧ Only g w w' ∧ Fill w' g (flatV (marksV n)) (n * 3) := by
  have HA := Lib.hid hF
  have HAD := Lib.hid hA
  clear hF hA
  go_enter Try.func41, Try.ntmps41
  go_wp2
  go_loopw [1, 5] (fun kx ix wr => ∃ (k : Nat), k ≤ n ∧ ix = .int .i64 k ∧ kx = .int .i64 ((1 : Int) + 3 * k) ∧ Hid (Fill wr g (flatV (marksV n)) (k * 3)) ∧ Hid (k = 0 → wr = w) ∧ Hid (Only g w wr)) (fun _ ix _ => n - (intOf ix).toNat)
  case atStart => exact ⟨0, Nat.zero_le _, rfl, rfl, HA, fun _ => rfl, Only.refl _ _⟩
  case round =>
    obtain ⟨k, hk, rfl, rfl, HF, HZ, HO⟩ := hrel
    by_cases hlt : k < n
    · obtain rfl := HAD.out (by omega)
      obtain ⟨u0, u1, u2⟩ := marksV_get n k hlt
      have hlen : (flatV (marksV n)).length = n * 3 := by rw [flatV_len, marksV_len]
      have F1 := Lib.hid (HF.out.set u0)
      have F2 := Lib.hid (F1.out.set u1)
      have U2 := Lib.hid u2
      have O1 := Lib.hid (HO.out.trans (Only.set wr (k * 3) (.int .i64 ((1 : Int) + 3 * k))))
      have O2 := Lib.hid (O1.out.trans (Only.set _ (k * 3 + 1) (.int .i64 ((2 : Int) + 3 * k))))
      obtain ⟨⟨v0, hv0⟩, f0, -⟩ := HF.out (k * 3) (by omega)
      obtain ⟨⟨v1, hv1⟩, f1, -⟩ := F1.out (k * 3 + 1) (by omega)
      have HL := Lib.hid hlen
      have i0' : (0 : Int) ≤ (k : Int) := by omega
      have i1' : (k : Int) < (n : Int) := by omega
      have j0' : (1 : Int) + 3 * k + 1 = 2 + 3 * k := by omega
      clear u0 u1 u2 hlen
      go_wp2_with (go_at_call 87; (with_reducible refine (markTextPZ _ (3 + 3 * k) _ (by omega) (by omega) (by omega)).mono ?_); rintro e w3 ⟨rfl, hb3⟩; have F3 := Lib.hid (F2.out.below hb3); have O3 := Lib.hid (O2.out.trans (only_of_below hb3)); obtain ⟨⟨v2, hv2⟩, f2, -⟩ := F3.out (k * 3 + 2) (by have := HL.out; omega); clear hb3)
      exact ⟨⟨k + 1, by omega, by go_num, by go_num, by rw [show (k + 1) * 3 = k * 3 + 1 + 1 + 1 by omega]; exact F3.out.set U2.out, fun h => absurd h (by omega), O3.out.trans (Only.set _ _ _)⟩, by simp [intOf]; omega⟩
    · obtain rfl : k = n := by omega
      go_wp2
      go_ret
      exact ⟨rfl, HZ.out, HO.out, HF.out⟩
end Go.Proofs.Ytjidkjnlnenmbaa.Val
namespace Go.Proofs.Ytjidkjnlnenmbaa.Val
open Go.RowKit
set_option linter.unusedVariables false
theorem keepM {w W w1 : World} {g o : Nat} {x : Value} (h : W.cell? ⟨g, o, none⟩ = some x ∧ g < W.heap.size ∧ Below w.heap.size w W ∧ w.heap.size ≤ W.heap.size) (hb : Below W.heap.size W w1) : w1.cell? ⟨g, o, none⟩ = some x ∧ g < w1.heap.size ∧ Below w.heap.size w w1 ∧ w.heap.size ≤ w1.heap.size :=
  ⟨(hb.cell (p := ⟨g, o, none⟩) h.2.1).trans h.1, by have := hb.size; omega, h.2.2.1.trans (hb.mono h.2.2.2), Nat.le_trans h.2.2.2 hb.size⟩
theorem keepMD {w W : World} {g o : Nat} {x : Value} (h : W.cell? ⟨g, o, none⟩ = some x ∧ g < W.heap.size ∧ Below w.heap.size w W ∧ w.heap.size ≤ W.heap.size) : W.drew.cell? ⟨g, o, none⟩ = some x ∧ g < W.drew.heap.size ∧ Below w.heap.size w W.drew ∧ w.heap.size ≤ W.drew.heap.size :=
  ⟨h.1, h.2.1, h.2.2.1.drew, h.2.2.2⟩
set_option maxHeartbeats 1000000 in
theorem heldValueS (A : Option Addr) (g cap n : Nat) (w : World) (hl : n ≤ 1048576) (hF : Fl w g 0 A (flatV (marksV n))) : Calls Try.prog 42 #[.slice A n cap, .int .i64 1] w fun e w' => e = .returned (.int .i64 ((1 : Int) + 3 * n)) ∧ Below w.heap.size w w' := by
  have HF := Lib.hid hF
  clear hF
  go_enter Try.func42, Try.ntmps42
  go_wp2
  go_loopw [1, 5] (fun kx ix wr => ∃ (k : Nat), k ≤ n ∧ ix = .int .i64 k ∧ kx = .int .i64 ((1 : Int) + 3 * k) ∧ Hid (Below w.heap.size w wr)) (fun _ ix _ => n - (intOf ix).toNat)
  case atStart => exact ⟨0, Nat.zero_le _, rfl, rfl, Below.refl _ _⟩
  case round =>
    obtain ⟨k, hk, rfl, rfl, HB⟩ := hrel
    by_cases hlt : k < n
    · have hB := HB.out.size
      have hv := (HF.out.below HB.out).v k (by rw [marksV_len]; exact hlt)
      have e : (marksV n)[k]'(by rw [marksV_len]; exact hlt) = ((1 : Int) + 3 * k, (2 : Int) + 3 * k, mT (3 + 3 * k)) := by simp [marksV]
      rw [e] at hv
      obtain ⟨rfl, hg, c0, c1, c2⟩ := hv
      simp only [Nat.zero_add] at c0 c1 c2
      clear e
      obtain ⟨T, hT⟩ : ∃ T, mT (3 + 3 * k) = T := ⟨_, rfl⟩
      have CM := Lib.hid (fun z W hz => markTextPZ z (3 + 3 * k) W hz (by omega) (by omega))
      rw [hT] at CM c2
      clear hT
      have i0' : (0 : Int) ≤ (k : Int) := by omega
      have i1' : (k : Int) < (n : Int) := by omega
      have j0' : (1 : Int) + 3 * k + 1 = 2 + 3 * k := by omega
      have HS0 : wr.cell? ⟨g, k * 3 + 2, none⟩ = some (.string T) ∧ g < wr.heap.size ∧ Below w.heap.size w wr ∧ w.heap.size ≤ wr.heap.size := ⟨c2, hg, HB.out, hB⟩
      clear c2
      go_wp2_with (fail)
      go_region_held_law (fun w' => w'.cell? ⟨g, k * 3 + 2, none⟩ = some (.string T) ∧ g < w'.heap.size ∧ Below w.heap.size w w' ∧ w.heap.size ≤ w'.heap.size) (first | exact keepM (by assumption) hbq | exact keepMD (by assumption) | assumption) (first | (go_at_call 87; (with_reducible refine (CM.out _ _ (by omega)).mono ?_); rintro e w1 ⟨rfl, hbq⟩))
      have HW : w1.cell? ⟨g, k * 3 + 2, none⟩ = some (.string T) ∧ g < w1.heap.size ∧ Below w.heap.size w w1 ∧ w.heap.size ≤ w1.heap.size := by assumption
      go_wp2
      exact ⟨⟨k + 1, by omega, by go_num, by go_num, HW.2.2.1⟩, by simp [intOf]; omega⟩
    · obtain rfl : k = n := by omega
      go_wp2
      go_ret
      exact ⟨rfl, HB.out⟩
end Go.Proofs.Ytjidkjnlnenmbaa.Val
