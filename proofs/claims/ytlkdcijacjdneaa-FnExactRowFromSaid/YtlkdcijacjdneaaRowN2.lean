/- Marks told: heldValueS. -/
import Derived.Test.YtlkdcijacjdneaaRowN
import Derived.Test.YtlkdcijacjdneaaRow
namespace Go.Proofs.Ytlkdcijacjdneaa.Val
open Go.RowKit
set_option linter.unusedVariables false
theorem keepM {w W w1 : World} {g o : Nat} {x : Value} (h : W.cell? ⟨g, o, none⟩ = some x ∧ g < W.heap.size ∧ Below w.heap.size w W ∧ w.heap.size ≤ W.heap.size) (hb : Below W.heap.size W w1) : w1.cell? ⟨g, o, none⟩ = some x ∧ g < w1.heap.size ∧ Below w.heap.size w w1 ∧ w.heap.size ≤ w1.heap.size :=
  ⟨(hb.cell (p := ⟨g, o, none⟩) h.2.1).trans h.1, by have := hb.size; omega, h.2.2.1.trans (hb.mono h.2.2.2), Nat.le_trans h.2.2.2 hb.size⟩
theorem keepMD {w W : World} {g o : Nat} {x : Value} (h : W.cell? ⟨g, o, none⟩ = some x ∧ g < W.heap.size ∧ Below w.heap.size w W ∧ w.heap.size ≤ W.heap.size) : W.drew.cell? ⟨g, o, none⟩ = some x ∧ g < W.drew.heap.size ∧ Below w.heap.size w W.drew ∧ w.heap.size ≤ W.drew.heap.size :=
  ⟨h.1, h.2.1, h.2.2.1.drew, h.2.2.2⟩
set_option maxHeartbeats 1000000 in
theorem heldValueS (A : Option Addr) (g cap n : Nat) (w : World) (hl : n ≤ 1048576) (hF : Fl w g 0 A (flatV (marksV n))) : Calls Try.prog 47 #[.slice A n cap, .int .i64 1] w fun e w' => e = .returned (.int .i64 ((1 : Int) + 3 * n)) ∧ Below w.heap.size w w' := by
  have HF := Lib.hid hF
  clear hF
  go_enter Try.func47, Try.ntmps47
  go_wp2
  go_loopw [1, 5] (fun kx ix wr => ∃ (k : Nat), k ≤ n ∧ ix = .int .i64 k ∧ kx = .int .i64 ((1 : Int) + 3 * k) ∧ Hid (Below w.heap.size w wr)) (fun _ ix _ => n - (intOf ix).toNat)
  case atStart => exact ⟨0, Nat.zero_le _, rfl, rfl, Below.refl _ _⟩
  case round =>
    obtain ⟨k, hk, rfl, rfl, HB⟩ := hrel
    by_cases hlt : k < n
    · have hB := HB.out.size
      have hv := (HF.out.below HB.out).v k (by rw [marksV_len]; exact hlt)
      have e : (marksV n)[k]'(by rw [marksV_len]; exact hlt) = ((1 : Int) + 3 * k, (2 : Int) + 3 * k, mT (3 + 3 * k)) := by simp [marksV]
      rw [e] at hv
      obtain ⟨rfl, hg, c0, c1, c2⟩ := hv
      simp only [Nat.zero_add] at c0 c1 c2
      clear e
      obtain ⟨T, hT⟩ : ∃ T, mT (3 + 3 * k) = T := ⟨_, rfl⟩
      have CM := Lib.hid (fun z W hz => markTextPZ z (3 + 3 * k) W hz (by omega) (by omega))
      rw [hT] at CM c2
      clear hT
      have i0' : (0 : Int) ≤ (k : Int) := by omega
      have i1' : (k : Int) < (n : Int) := by omega
      have j0' : (1 : Int) + 3 * k + 1 = 2 + 3 * k := by omega
      have HS0 : wr.cell? ⟨g, k * 3 + 2, none⟩ = some (.string T) ∧ g < wr.heap.size ∧ Below w.heap.size w wr ∧ w.heap.size ≤ wr.heap.size := ⟨c2, hg, HB.out, hB⟩
      clear c2
      go_wp2_with (fail)
      go_region_held_law (fun w' => w'.cell? ⟨g, k * 3 + 2, none⟩ = some (.string T) ∧ g < w'.heap.size ∧ Below w.heap.size w w' ∧ w.heap.size ≤ w'.heap.size) (first | exact keepM (by assumption) hbq | exact keepMD (by assumption) | assumption) (first | (go_at_call 72; (with_reducible refine (CM.out _ _ (by omega)).mono ?_); rintro e w1 ⟨rfl, hbq⟩))
      have HW : w1.cell? ⟨g, k * 3 + 2, none⟩ = some (.string T) ∧ g < w1.heap.size ∧ Below w.heap.size w w1 ∧ w.heap.size ≤ w1.heap.size := by assumption
      go_wp2
      exact ⟨⟨k + 1, by omega, by go_num, by go_num, HW.2.2.1⟩, by simp [intOf]; omega⟩
    · obtain rfl : k = n := by omega
      go_wp2
      go_ret
      exact ⟨rfl, HB.out⟩
theorem markBytesL (A : Option Addr) (g cA : Nat) (L : List UInt8) (w : World) (hA : RowAt w g A L) (hl : L.length ≤ 1048576) :
    Calls Try.prog 44 #[.slice A L.length cA, .int .i64 1] w fun e w' => e = .returned (.int .i64 ((1 : Int) + L.length)) ∧ Only g w w' := by
  have HA := Lib.hid hA
  have HF0 : Hid (Free w g L.length) := fun j hj => ⟨⟨_, hA.c j hj⟩, hA.f j hj⟩
  clear hA
  go_enter Try.func44, Try.ntmps44
  go_wp2
  go_loopw [1, 5] (fun kx ix wr => ∃ (k : Nat), k ≤ L.length ∧ ix = .int .i64 k ∧ kx = .int .i64 ((1 : Int) + k) ∧ Hid (Free wr g L.length) ∧ Hid (Only g w wr)) (fun _ ix _ => L.length - (intOf ix).toNat)
  case atStart => exact ⟨0, by omega, rfl, rfl, HF0, Only.refl _ _⟩
  case round =>
    obtain ⟨k, hk, rfl, rfl, HF, HO⟩ := hrel
    by_cases hlt : k < L.length
    · obtain rfl := HA.out.ad (by omega)
      obtain ⟨⟨v, hv⟩, hf⟩ := HF.out k hlt
      have HFn := Lib.hid (fun u => HF.out.set k u)
      have HOn := Lib.hid (fun u => HO.out.trans (Only.set wr k u))
      have i0' : (0 : Int) ≤ (k : Int) := by omega
      have i1' : (k : Int) < (L.length : Int) := by omega
      go_wp2
      exact ⟨⟨k + 1, by omega, by go_num, by go_num, HFn.out _, HOn.out _⟩, by simp [intOf]; omega⟩
    · obtain rfl : k = L.length := by omega
      go_wp2
      go_ret
      exact ⟨rfl, HO.out⟩
end Go.Proofs.Ytlkdcijacjdneaa.Val
