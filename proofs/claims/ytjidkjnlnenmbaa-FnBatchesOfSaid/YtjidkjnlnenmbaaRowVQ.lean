/- Contracts of the functions on rows of values: RowOk, and the exact law's helpers. -/
import Derived.Test.YtjidkjnlnenmbaaColQ
namespace Go.Proofs.Ytjidkjnlnenmbaa.Val
open Go.RowKit
set_option linter.unusedVariables false
def okV (v : VT) : Bool := okB v.1 v.2.1 v.2.2
def rowB (vs : List VT) : Bool := decide (vs.length ≤ 4) && vs.all okV
/-- Texts that a machine can hold. -/
def Short (vs : List VT) : Prop := ∀ i (h : i < vs.length), vs[i].2.2.size ≤ maxLen
theorem valuesOkI (A : Option Addr) (g o cap : Nat) (vs : List VT) (w : World) (h : Fl w g o A (flatV vs)) (hl : vs.length ≤ 2000000) (hs : Short vs) : Calls Try.prog 61 #[.slice A vs.length cap] w fun e w' => e = .returned (.bool (vs.all okV)) ∧ Below w.heap.size w w' := by
  have H := Lib.hid h
  have HSH := Lib.hid hs
  clear h hs
  go_enter Try.func61, Try.ntmps61
  go_wp2
  go_loopw [3] (fun ix wr => ∃ k : Nat, k ≤ vs.length ∧ ix = .int .i64 k ∧ Hid (Below w.heap.size w wr) ∧ Hid ((vs.take k).all okV = true)) (fun ix _ => vs.length - (intOf ix).toNat)
  case atStart => exact ⟨0, Nat.zero_le _, rfl, Below.refl _ _, rfl⟩
  case round =>
    obtain ⟨k, hk, rfl, HW, HL⟩ := hrel
    by_cases hlt : k < vs.length
    · obtain ⟨rfl, -, -, -, -⟩ := H.out.v k hlt
      obtain ⟨-, hg, c0, c1, c2⟩ := (H.out.below HW.out).v k hlt
      have HS := Lib.hid (all_snoc okV vs k hlt)
      have HN := Lib.hid (fun hp => all_no (p := okV) k hlt hp)
      have hsz := HSH.out k hlt
      obtain ⟨K, hK⟩ : ∃ K, vs[k] = K := ⟨_, rfl⟩
      rw [hK] at c0 c1 c2 HS HN hsz
      obtain ⟨x, n, s⟩ := K
      simp only at c0 c1 c2 hsz
      have C := Lib.hid (fun w => valueOk x n s w hsz)
      obtain ⟨E, hE⟩ : ∃ E, okB x n s = E := ⟨_, rfl⟩
      have hE2 : okV (x, n, s) = E := hE
      rw [hE] at C
      rw [hE2] at HS HN
      clear hE hE2 hK
      have i0' : (0 : Int) ≤ (k : Int) := by omega
      have i1' : (k : Int) < (vs.length : Int) := by omega
      go_wp2_with (go_at_call 90; (with_reducible refine (C.out _).mono ?_); rintro e w1 ⟨rfl, hb1⟩; have HW1 := Lib.hid (HW.out.trans (hb1.mono HW.out.size)); clear hb1 HW)
      · go_ret
        refine ⟨retB ?_, HW1.out⟩
        have := HN.out (not_of (by assumption))
        rw [this]
      · go_round
        case rel => exact ⟨k + 1, by omega, by go_num, HW1, hid_all HS HL (by assumption)⟩
        case measure => simp [intOf]; omega
    · obtain rfl : k = vs.length := by omega
      go_wp2
      go_ret
      refine ⟨retB ?_, HW.out⟩
      rw [all_end HL]
theorem rowOkI (A : Option Addr) (g o cap : Nat) (vs : List VT) (w : World) (h : Fl w g o A (flatV vs)) (hl : vs.length ≤ 2000000) (hs : Short vs) : Calls Try.prog 122 #[.slice A vs.length cap] w fun e w' => e = .returned (.bool (rowB vs)) ∧ Below w.heap.size w w' := by
  have H := Lib.hid h
  have CV := Lib.hid (fun W hW => valuesOkI A g o cap vs W hW hl hs)
  have hrb : rowB vs = (decide (vs.length ≤ 4) && vs.all okV) := rfl
  obtain ⟨E, hE⟩ : ∃ E, vs.all okV = E := ⟨_, rfl⟩
  rw [hE] at CV hrb
  clear h hs hE
  rw [hrb]
  go_enter Try.func122, Try.ntmps122
  by_cases h4 : vs.length ≤ 4
  · rw [decide_eq_true h4, Bool.true_and]
    go_wp2_with (go_at_call 61; (with_reducible refine (CV.out _ H.out).mono ?_); rintro e w1 ⟨rfl, hb1⟩; have HW1 := Lib.hid hb1; clear hb1)
    all_goals (go_ret; exact ⟨retB (by first | rfl | simp), HW1.out⟩)
  · rw [decide_eq_false h4, Bool.false_and]
    go_wp2
    all_goals (go_ret; exact ⟨retB (by first | rfl | simp), Below.refl _ _⟩)
theorem rowOkS (A : Option Addr) (g o cap : Nat) (vs : List VT) (w : World) (h : Fl w g o A (flatV vs)) (hl : vs.length ≤ 2000000) (hs : Short vs) : Calls Try.prog 133 #[.slice A vs.length cap] w fun e w' => e = .returned (.bool (rowB vs)) ∧ Below w.heap.size w w' := by
  have H := Lib.hid h
  have HSH := Lib.hid hs
  clear h hs
  go_enter Try.func133, Try.ntmps133
  go_wp2
  go_loopw [3] (fun ix wr => ∃ k : Nat, k ≤ vs.length ∧ ix = .int .i64 k ∧ Hid (Below w.heap.size w wr) ∧ Hid ((vs.take k).all okV = true)) (fun ix _ => vs.length - (intOf ix).toNat)
  case atStart => exact ⟨0, Nat.zero_le _, rfl, Below.refl _ _, rfl⟩
  case round =>
    obtain ⟨k, hk, rfl, HW, HL⟩ := hrel
    by_cases hlt : k < vs.length
    · obtain ⟨rfl, -, -, -, -⟩ := H.out.v k hlt
      obtain ⟨-, hg, c0, c1, c2⟩ := (H.out.below HW.out).v k hlt
      have HS := Lib.hid (all_snoc okV vs k hlt)
      have HN := Lib.hid (fun hp => all_no (p := okV) k hlt hp)
      have hsz := HSH.out k hlt
      obtain ⟨K, hK⟩ : ∃ K, vs[k] = K := ⟨_, rfl⟩
      rw [hK] at c0 c1 c2 HS HN hsz
      obtain ⟨x, n, s⟩ := K
      simp only at c0 c1 c2 hsz
      have C := Lib.hid (fun w => valueOkS x n s w hsz)
      obtain ⟨E, hE⟩ : ∃ E, okB x n s = E := ⟨_, rfl⟩
      have hE2 : okV (x, n, s) = E := hE
      rw [hE] at C
      rw [hE2] at HS HN
      clear hE hE2 hK
      have i0' : (0 : Int) ≤ (k : Int) := by omega
      have i1' : (k : Int) < (vs.length : Int) := by omega
      go_wp2_with (go_at_call 59; (with_reducible refine (C.out _).mono ?_); rintro e w1 ⟨rfl, hb1⟩; have HW1 := Lib.hid (HW.out.trans (hb1.mono HW.out.size)); clear hb1 HW)
      · go_ret
        refine ⟨retB ?_, HW1.out⟩
        have := HN.out (not_of (by assumption))
        simp [rowB, this]
      · go_round
        case rel => exact ⟨k + 1, by omega, by go_num, HW1, hid_all HS HL (by assumption)⟩
        case measure => simp [intOf]; omega
    · obtain rfl : k = vs.length := by omega
      go_wp2
      go_ret
      refine ⟨retB ?_, HW.out⟩
      rw [rowB, all_end HL]; simp; try omega
theorem infoV : (Try.prog.info? 73).map (fun i => (i.zero, i.size, i.bytes)) = some (some (.agg #[.int .i64 0, .int .i64 0, .string ⟨#[]⟩]), 3, 32) := by kernel_rfl
end Go.Proofs.Ytjidkjnlnenmbaa.Val
