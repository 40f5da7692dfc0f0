/- Contracts of the functions on rows of values: RowOk, and the exact law's helpers. -/
import Derived.Test.YtjidkjnlnenmbaaCol
namespace Go.Proofs.Ytjidkjnlnenmbaa.Val
open Go.RowKit
set_option linter.unusedVariables false
def okV (v : VT) : Bool := okB v.1 v.2.1 v.2.2
def rowB (vs : List VT) : Bool := decide (vs.length ≤ 4) && vs.all okV
/-- Texts that a machine can hold. -/
def Short (vs : List VT) : Prop := ∀ i (h : i < vs.length), vs[i].2.2.size ≤ maxLen
theorem valuesOkI (A : Option Addr) (g o cap : Nat) (vs : List VT) (w : World) (h : Fl w g o A (flatV vs)) (hl : vs.length ≤ 2000000) (hs : Short vs) : Calls Try.prog 61 #[.slice A vs.length cap] w fun e w' => e = .returned (.bool (vs.all okV)) ∧ Below w.heap.size w w' := by
  have H := Lib.hid h
  have HSH := Lib.hid hs
  clear h hs
  go_enter Try.func61, Try.ntmps61
  go_wp2
  go_loopw [3] (fun ix wr => ∃ k : Nat, k ≤ vs.length ∧ ix = .int .i64 k ∧ Hid (Below w.heap.size w wr) ∧ Hid ((vs.take k).all okV = true)) (fun ix _ => vs.length - (intOf ix).toNat)
  case atStart => exact ⟨0, Nat.zero_le _, rfl, Below.refl _ _, rfl⟩
  case round =>
    obtain ⟨k, hk, rfl, HW, HL⟩ := hrel
    by_cases hlt : k < vs.length
    · obtain ⟨rfl, -, -, -, -⟩ := H.out.v k hlt
      obtain ⟨-, hg, c0, c1, c2⟩ := (H.out.below HW.out).v k hlt
      have HS := Lib.hid (all_snoc okV vs k hlt)
      have HN := Lib.hid (fun hp => all_no (p := okV) k hlt hp)
      have hsz := HSH.out k hlt
      obtain ⟨K, hK⟩ : ∃ K, vs[k] = K := ⟨_, rfl⟩
      rw [hK] at c0 c1 c2 HS HN hsz
      obtain ⟨x, n, s⟩ := K
      simp only at c0 c1 c2 hsz
      have C := Lib.hid (fun w => valueOk x n s w hsz)
      obtain ⟨E, hE⟩ : ∃ E, okB x n s = E := ⟨_, rfl⟩
      have hE2 : okV (x, n, s) = E := hE
      rw [hE] at C
      rw [hE2] at HS HN
      clear hE hE2 hK
      have i0' : (0 : Int) ≤ (k : Int) := by omega
      have i1' : (k : Int) < (vs.length : Int) := by omega
      go_wp2_with (go_at_call 90; (with_reducible refine (C.out _).mono ?_); rintro e w1 ⟨rfl, hb1⟩; have HW1 := Lib.hid (HW.out.trans (hb1.mono HW.out.size)); clear hb1 HW)
      · go_ret
        refine ⟨retB ?_, HW1.out⟩
        have := HN.out (not_of (by assumption))
        rw [this]
      · go_round
        case rel => exact ⟨k + 1, by omega, by go_num, HW1, hid_all HS HL (by assumption)⟩
        case measure => simp [intOf]; omega
    · obtain rfl : k = vs.length := by omega
      go_wp2
      go_ret
      refine ⟨retB ?_, HW.out⟩
      rw [all_end HL]
theorem rowOkI (A : Option Addr) (g o cap : Nat) (vs : List VT) (w : World) (h : Fl w g o A (flatV vs)) (hl : vs.length ≤ 2000000) (hs : Short vs) : Calls Try.prog 122 #[.slice A vs.length cap] w fun e w' => e = .returned (.bool (rowB vs)) ∧ Below w.heap.size w w' := by
  have H := Lib.hid h
  have CV := Lib.hid (fun W hW => valuesOkI A g o cap vs W hW hl hs)
  have hrb : rowB vs = (decide (vs.length ≤ 4) && vs.all okV) := rfl
  obtain ⟨E, hE⟩ : ∃ E, vs.all okV = E := ⟨_, rfl⟩
  rw [hE] at CV hrb
  clear h hs hE
  rw [hrb]
  go_enter Try.func122, Try.ntmps122
  by_cases h4 : vs.length ≤ 4
  · rw [decide_eq_true h4, Bool.true_and]
    go_wp2_with (go_at_call 61; (with_reducible refine (CV.out _ H.out).mono ?_); rintro e w1 ⟨rfl, hb1⟩; have HW1 := Lib.hid hb1; clear hb1)
    all_goals (go_ret; exact ⟨retB (by first | rfl | simp), HW1.out⟩)
  · rw [decide_eq_false h4, Bool.false_and]
    go_wp2
    all_goals (go_ret; exact ⟨retB (by first | rfl | simp), Below.refl _ _⟩)
theorem rowOkS (A : Option Addr) (g o cap : Nat) (vs : List VT) (w : World) (h : Fl w g o A (flatV vs)) (hl : vs.length ≤ 2000000) (hs : Short vs) : Calls Try.prog 133 #[.slice A vs.length cap] w fun e w' => e = .returned (.bool (rowB vs)) ∧ Below w.heap.size w w' := by
  have H := Lib.hid h
  have HSH := Lib.hid hs
  clear h hs
  go_enter Try.func133, Try.ntmps133
  go_wp2
  go_loopw [3] (fun ix wr => ∃ k : Nat, k ≤ vs.length ∧ ix = .int .i64 k ∧ Hid (Below w.heap.size w wr) ∧ Hid ((vs.take k).all okV = true)) (fun ix _ => vs.length - (intOf ix).toNat)
  case atStart => exact ⟨0, Nat.zero_le _, rfl, Below.refl _ _, rfl⟩
  case round =>
    obtain ⟨k, hk, rfl, HW, HL⟩ := hrel
    by_cases hlt : k < vs.length
    · obtain ⟨rfl, -, -, -, -⟩ := H.out.v k hlt
      obtain ⟨-, hg, c0, c1, c2⟩ := (H.out.below HW.out).v k hlt
      have HS := Lib.hid (all_snoc okV vs k hlt)
      have HN := Lib.hid (fun hp => all_no (p := okV) k hlt hp)
      have hsz := HSH.out k hlt
      obtain ⟨K, hK⟩ : ∃ K, vs[k] = K := ⟨_, rfl⟩
      rw [hK] at c0 c1 c2 HS HN hsz
      obtain ⟨x, n, s⟩ := K
      simp only at c0 c1 c2 hsz
      have C := Lib.hid (fun w => valueOkS x n s w hsz)
      obtain ⟨E, hE⟩ : ∃ E, okB x n s = E := ⟨_, rfl⟩
      have hE2 : okV (x, n, s) = E := hE
      rw [hE] at C
      rw [hE2] at HS HN
      clear hE hE2 hK
      have i0' : (0 : Int) ≤ (k : Int) := by omega
      have i1' : (k : Int) < (vs.length : Int) := by omega
      go_wp2_with (go_at_call 59; (with_reducible refine (C.out _).mono ?_); rintro e w1 ⟨rfl, hb1⟩; have HW1 := Lib.hid (HW.out.trans (hb1.mono HW.out.size)); clear hb1 HW)
      · go_ret
        refine ⟨retB ?_, HW1.out⟩
        have := HN.out (not_of (by assumption))
        simp [rowB, this]
      · go_round
        case rel => exact ⟨k + 1, by omega, by go_num, HW1, hid_all HS HL (by assumption)⟩
        case measure => simp [intOf]; omega
    · obtain rfl : k = vs.length := by omega
      go_wp2
      go_ret
      refine ⟨retB ?_, HW.out⟩
      rw [rowB, all_end HL]; simp; try omega
theorem szAny (k n left : Int) (s : ByteArray) (w : World) (h0 : 0 ≤ left) (h1 : left ≤ 1048576) (hs : s.size ≤ maxLen) : Calls Try.prog 105 #[.agg #[.int .i64 k, .int .i64 n, .string s], .int .i64 left] w fun e w' => ∃ r : Int, e = .returned (.int .i64 r) ∧ r ≤ left ∧ Below w.heap.size w w' := by
  refine (szValue k n left s w h0 h1 hs).mono ?_
  rintro e w' ⟨rfl, hb⟩
  refine ⟨_, rfl, ?_, hb⟩
  split <;> omega
theorem szValueS (A : Option Addr) (g o cap : Nat) (vs : List VT) (left : Int) (w : World) (h : Fl w g o A (flatV vs)) (h0 : 0 ≤ left) (h1 : left ≤ 1048576) (hn : vs.length ≤ maxLen) (hs : Short vs) : Calls Try.prog 66 #[.slice A vs.length cap, .int .i64 left] w fun e w' => ∃ r : Int, e = .returned (.int .i64 r) ∧ r ≤ left ∧ (0 ≤ r → (vs.length : Int) ≤ left) ∧ Below w.heap.size w w' := by
  have H := Lib.hid h
  have HSH := Lib.hid hs
  clear h hs
  unfold maxLen at hn
  go_enter Try.func66, Try.ntmps66
  go_wp2
  · go_ret
    exact ⟨-1, rfl, by omega, fun h => absurd h (by omega), Below.refl _ _⟩
  · go_loopw [1, 5] (fun lx ix wr => ∃ (k : Nat) (r : Int), k ≤ vs.length ∧ ix = .int .i64 k ∧ lx = .int .i64 r ∧ 0 ≤ r ∧ r ≤ left ∧ Hid (Below w.heap.size w wr)) (fun _ ix _ => vs.length - (intOf ix).toNat)
    case atStart => exact ⟨0, _, Nat.zero_le _, rfl, rfl, by omega, by omega, Below.refl _ _⟩
    case round =>
      obtain ⟨k, r, hk, rfl, rfl, hr0, hr1, HW⟩ := hrel
      by_cases hlt : k < vs.length
      · obtain ⟨rfl, -, -, -, -⟩ := H.out.v k hlt
        obtain ⟨-, hg, c0, c1, c2⟩ := (H.out.below HW.out).v k hlt
        have hsz := HSH.out k hlt
        obtain ⟨K, hK⟩ : ∃ K, vs[k] = K := ⟨_, rfl⟩
        rw [hK] at c0 c1 c2 hsz
        obtain ⟨x, n, s⟩ := K
        simp only at c0 c1 c2 hsz
        clear hK
        have C := Lib.hid (fun w => szAny x n r s w hr0 (by omega) hsz)
        have i0' : (0 : Int) ≤ (k : Int) := by omega
        have i1' : (k : Int) < (vs.length : Int) := by omega
        go_wp2_with (go_at_call 105; (with_reducible refine (C.out _).mono ?_); rintro e w1 ⟨r2, rfl, hr2, hb1⟩; have HW1 := Lib.hid (HW.out.trans (hb1.mono HW.out.size)); clear hb1 HW)
        · go_ret
          exact ⟨-1, rfl, by omega, fun h => absurd h (by omega), HW1.out⟩
        · go_round
          case rel => exact ⟨k + 1, r2, by omega, by go_num, rfl, by omega, by omega, HW1⟩
          case measure => simp [intOf]; omega
      · obtain rfl : k = vs.length := by omega
        go_wp2
        go_ret
        exact ⟨r, rfl, by omega, fun _ => by omega, HW.out⟩
theorem infoV : (Try.prog.info? 73).map (fun i => (i.zero, i.size, i.bytes)) = some (some (.agg #[.int .i64 0, .int .i64 0, .string ⟨#[]⟩]), 3, 32) := by kernel_rfl
theorem toValueS (A : Option Addr) (g0 o cap : Nat) (vs : List VT) (w : World) (h : Fl w g0 o A (flatV vs)) (hl : vs.length ≤ 1048576) : Calls Try.prog 71 #[.slice A vs.length cap] w (CopiedF vs.length (flatV vs) w) := by
  obtain ⟨i0, hi, hz0, hz1', hz2⟩ := info_parts infoV
  have HA := Lib.hid h
  clear h
  have hfl := flatV_len vs
  go_enter Try.func71, Try.ntmps71
  go_wp2_with (at_make; refine wpList_make_full w rfl _ _ 53 rfl w.heap.size 73 i0 (.agg #[.int .i64 0, .int .i64 0, .string ⟨#[]⟩]) 3 Try.underlying53 hi hz0 hz1' .i64 .i64 vs.length vs.length vs.length rfl rfl rfl rfl (by rw [hz2]; omega) (by unfold maxLen; omega) (Nat.le_refl _) ?_; intro w0 hown hgr)
  have HB0 : Hid (Below w.heap.size w w0) := Below.grown (Below.refl _ _) hgr (Nat.le_refl _) (by intro k hk; cases hk)
  have HC0 : Hid (Fill w0 w.heap.size (flatV vs) 0) := Fill.made hown hfl
  clear hown hgr
  go_wp2
  go_loopw [4] (fun ix wr => ∃ k : Nat, k ≤ vs.length ∧ ix = .int .i64 k ∧ Hid (Below w.heap.size w wr) ∧ Hid (Fill wr w.heap.size (flatV vs) (k * 3))) (fun ix _ => vs.length - (intOf ix).toNat)
  case atStart => exact ⟨0, by omega, rfl, HB0, HC0⟩
  case round =>
    obtain ⟨k, hk, rfl, HB, HF⟩ := hrel
    clear HB0 HC0
    by_cases hlt : k < vs.length
    · obtain ⟨rfl, hg, -, -, -⟩ := HA.out.v k hlt
      obtain ⟨-, hg2, c0, c1, c2⟩ := (HA.out.below HB.out).v k hlt
      obtain ⟨u0, u1, u2⟩ := flatV_get vs k hlt
      obtain ⟨K, hK⟩ : ∃ K, vs[k] = K := ⟨_, rfl⟩
      rw [hK] at c0 c1 c2 u0 u1 u2
      obtain ⟨x, n, s⟩ := K
      simp only at c0 c1 c2 u0 u1 u2
      have U0 := Lib.hid u0
      have U1 := Lib.hid u1
      have U2 := Lib.hid u2
      clear hK u0 u1 u2
      have i0' : (0 : Int) ≤ (k : Int) := by omega
      have i1' : (k : Int) < (vs.length : Int) := by omega
      go_wp2_with (go_at_call 110; (with_reducible refine (toValue _ _ _ _).mono ?_); rintro e w1 ⟨rfl, hb1⟩; have HF1 := Lib.hid (Fill.below HF.out hb1); obtain ⟨⟨v0, hv0⟩, hf0, -⟩ := HF1.out (k * 3) (by omega); obtain ⟨⟨v1, hv1⟩, hf1, -⟩ := HF1.out (k * 3 + 1) (by omega); obtain ⟨⟨v2, hv2⟩, hf2, -⟩ := HF1.out (k * 3 + 2) (by omega); have HB1 := Lib.hid (HB.out.trans (hb1.mono HB.out.size)); clear hb1 HF HB)
      exact ⟨⟨k + 1, by omega, by go_num, ((HB1.out.setCell (Nat.le_refl _) _).setCell (Nat.le_refl _) _).setCell (Nat.le_refl _) _, by have := ((HF1.out.set U0.out).set U1.out).set U2.out; rwa [show (k + 1) * 3 = k * 3 + 1 + 1 + 1 by omega]⟩, by simp [intOf]; omega⟩
    · obtain rfl : k = vs.length := by omega
      go_wp2
      go_ret
      rw [← hfl] at HF
      exact ⟨w.heap.size, vs.length, rfl, HF.out.fl, HF.out.fz, Nat.le_refl _, by unfold maxLen; omega, Nat.le_refl _, HB.out⟩
/-- Two rows of the same values. -/
theorem eqValueS (A B : Option Addr) (g g' o o' cA cB : Nat) (l : List VT) (w : World) (hA : Fl w g o A (flatV l)) (hB : Fl w g' o' B (flatV l)) (hl : l.length ≤ 2000000) :
    Calls Try.prog 38 #[.slice A l.length cA, .slice B l.length cB] w fun e w' => e = .returned (.bool true) ∧ Below w.heap.size w w' := by
  have HA := Lib.hid hA
  have HB := Lib.hid hB
  clear hA hB
  have e0 : ((l.length : Int) != l.length) = false := by simp
  go_enter Try.func38, Try.ntmps38
  go_wp2
  go_loopw [5] (fun ix wr => ∃ (k : Nat), k ≤ l.length ∧ ix = .int .i64 k ∧ Hid (Below w.heap.size w wr)) (fun ix _ => l.length - (intOf ix).toNat)
  case atStart => exact ⟨0, by omega, rfl, Below.refl _ _⟩
  case round =>
    obtain ⟨k, hk, rfl, HW⟩ := hrel
    by_cases hlt : k < l.length
    · obtain ⟨rfl, -, -, -, -⟩ := HA.out.v k hlt
      obtain ⟨rfl, -, -, -, -⟩ := HB.out.v k hlt
      obtain ⟨-, hg2, c0, c1, c2⟩ := (HA.out.below HW.out).v k hlt
      obtain ⟨-, hg2', d0, d1, d2⟩ := (HB.out.below HW.out).v k hlt
      obtain ⟨K, hK⟩ : ∃ K, l[k] = K := ⟨_, rfl⟩
      rw [hK] at c0 c1 c2 d0 d1 d2
      obtain ⟨x, n, s⟩ := K
      simp only at c0 c1 c2 d0 d1 d2
      clear hK
      have CE := Lib.hid (fun w => eqValue x n x n s s w)
      simp only [decide_true, Bool.true_and, beq_self_eq_true] at CE
      have i0' : (0 : Int) ≤ (k : Int) := by omega
      have i1' : (k : Int) < (l.length : Int) := by omega
      go_wp2
      go_region_with (go_at_call 85; (with_reducible refine (CE.out _).mono ?_); rintro e w1 ⟨rfl, hb1⟩; have HW1 := Lib.hid (HW.out.drew.trans (hb1.mono HW.out.size)); clear hb1 HW)
      all_goals go_wp2
      all_goals exact ⟨⟨k + 1, by omega, by go_num, HW1⟩, by simp [intOf]; omega⟩
    · obtain rfl : k = l.length := by omega
      go_wp2
      go_ret
      exact ⟨rfl, HW.out⟩
end Go.Proofs.Ytjidkjnlnenmbaa.Val
