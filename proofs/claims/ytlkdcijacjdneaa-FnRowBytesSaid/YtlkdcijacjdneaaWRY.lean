/- The walk of the law FnRowBytes. -/
import Derived.Test.YtlkdcijacjdneaaRowR
import Derived.Test.YtlkdcijacjdneaaRowX
import Derived.Test.YtlkdcijacjdneaaDrawR3
import Derived.Test.YtlkdcijacjdneaaAlive
import Derived.Deep.RegionHeldLaw
namespace Go.Proofs.Ytlkdcijacjdneaa.Val
open Go.RowKit
set_option linter.unusedVariables false
theorem goV_bytes (vs : List VT) (h : vs.all okV = true) (x : List UInt8) : goV vs.length (vs.flatMap bytesV ++ x) = some (vs, (vs.flatMap bytesV).length) := by
  induction vs with
  | nil => simp [goV]
  | cons v vs ih =>
    simp only [List.all_cons, Bool.and_eq_true] at h
    obtain ⟨k, n, s⟩ := v
    have hf := from_bytes k n s h.1 (vs.flatMap bytesV ++ x)
    have hb : bytesV (k, n, s) = bytesL k n s := rfl
    rw [List.length_cons, goV, List.flatMap_cons, List.append_assoc, hb, hf]
    simp only [List.drop_left, ih h.2, List.length_append]
theorem rfO_bytes (vs : List VT) (h : rowB vs = true) (x : List UInt8) : rfO (rbL vs ++ x) = some (vs, (rbL vs).length) := by
  have h4 : vs.length ≤ 4 := by simp only [rowB, Bool.and_eq_true, decide_eq_true_eq] at h; exact h.1
  have hL : rbL vs = UInt8.ofNat vs.length :: vs.flatMap bytesV := by rw [rbL, if_pos h]
  rw [hL]
  have hb : bAt (UInt8.ofNat vs.length :: vs.flatMap bytesV ++ x) 0 = (vs.length : Int) := by
    show ((UInt8.ofNat vs.length).toNat : Int) = _
    rw [UInt8.toNat_ofNat']; omega
  unfold rfO
  rw [hb, if_neg (by simp; omega), Int.toNat_natCast]
  show (goV vs.length (vs.flatMap bytesV ++ x)).map _ = _
  rw [goV_bytes vs (by simp only [rowB, Bool.and_eq_true] at h; exact h.2) x]
  simp; omega
theorem keepF (w : World) (gg : Nat) (L : List UInt8) {W : World} {g o : Nat} {A B : Option Addr} {xs : List Value} (h : RowAt W gg A L ∧ Fl W g o B xs ∧ Below w.heap.size w W ∧ w.heap.size ≤ W.heap.size) : Fl W g o B xs := h.2.1
theorem keepY {w W w1 : World} {gg g o : Nat} {A B : Option Addr} {L : List UInt8} {xs : List Value} (h : RowAt W gg A L ∧ Fl W g o B xs ∧ Below w.heap.size w W ∧ w.heap.size ≤ W.heap.size) (hb : Below W.heap.size W w1) : RowAt w1 gg A L ∧ Fl w1 g o B xs ∧ Below w.heap.size w w1 ∧ w.heap.size ≤ w1.heap.size :=
  ⟨h.1.below hb, h.2.1.below hb, h.2.2.1.trans (hb.mono h.2.2.2), Nat.le_trans h.2.2.2 hb.size⟩
theorem keepYD {w W : World} {gg g o : Nat} {A B : Option Addr} {L : List UInt8} {xs : List Value} (h : RowAt W gg A L ∧ Fl W g o B xs ∧ Below w.heap.size w W ∧ w.heap.size ≤ W.heap.size) : RowAt W.drew gg A L ∧ Fl W.drew g o B xs ∧ Below w.heap.size w W.drew ∧ w.heap.size ≤ W.drew.heap.size :=
  ⟨h.1.drew, h.2.1.drew, h.2.2.1.drew, h.2.2.2⟩
theorem keepYG {w W w1 : World} {gg g o N : Nat} {A B : Option Addr} {L : List UInt8} {xs : List Value} {row : Option Nat} (h : RowAt W gg A L ∧ Fl W g o B xs ∧ Below w.heap.size w W ∧ w.heap.size ≤ W.heap.size) (hg : W.grownBy w1 row) (h1 : gg < N) (h2 : 0 < xs.length → g < N) (h3 : w.heap.size ≤ N) (hrow : ∀ b, row = some b → N ≤ b) : RowAt w1 gg A L ∧ Fl w1 g o B xs ∧ Below w.heap.size w w1 ∧ w.heap.size ≤ w1.heap.size := by
  have ne : ∀ b, b < N → some b ≠ row := fun b hb e => by have := hrow b e.symm; omega
  refine ⟨h.1.keep fun hgg o => ⟨World.cell?_of_block (hg.block gg hgg (ne _ h1)), World.frozen?_of_block (hg.block gg hgg (ne _ h1))⟩, ⟨h.2.1.ad, fun j hj => ?_⟩, h.2.2.1.grown hg h.2.2.2 (fun b hb => by have := hrow b hb; omega), Nat.le_trans h.2.2.2 hg.size⟩
  exact (World.cell?_of_block (w := W) (hg.block g (h.2.1.lt (by omega)) (ne _ (h2 (by omega))))).trans (h.2.1.c j hj)
set_option maxHeartbeats 4000000 in
theorem walk_FnRowBytes (a : Option Addr) (len cap : Nat) (zs : List Int) (w : World) (h : IsRow .u8 w a len cap zs) :
    Calls Try.prog 7 #[.slice a len cap] w fun e w' => e = .returned (.bool true) ∧ Below w.heap.size w w' := by
  by_cases hl : 1048576 < len
  · clear h
    go_enter Try.func7, Try.ntmps7
    go_wp2
    go_ret
    exact ⟨rfl, Below.refl _ _⟩
  · have HI := Lib.hid h
    clear h
    obtain ⟨i0, hi, iz0, iz1, iz2⟩ := info_parts info5
    go_enter Try.func7, Try.ntmps7
    go_wp2_with (go_at_call 31; refine (drawRowBytes _ _ _ zs _ HI.out).mono ?_; rintro e wd ⟨vs, g, c, rfl, hvs, hbd⟩; have HB := Lib.hid hbd; have HV := Lib.hid hvs; clear hbd hvs)
    have hv9 := HV.out.1
    have HS := Lib.hid HV.out.2.1.short
    have FV := Lib.hid HV.out.2.2.2.2
    have R1 := Lib.hid (fun W hA => rowOkI (some ⟨g, 0, none⟩) g 0 c vs W hA (by omega) HS.out)
    have hL33 := rbL_short vs
    have SR := Lib.hid (fun W A B g' c' hA hB => sameRow A B g' g 0 0 c' c vs vs W hA hB (by omega) (by omega))
    cases hB : rowB vs
    · have hL : rbL vs = [] := by rw [rbL, if_neg (by rw [hB]; simp)]
      have C1 := Lib.hid (fun W hA => bytes_of_post (rowBytesI (some ⟨g, 0, none⟩) g 0 c vs W hA (by omega) HS.out))
      have C2 := Lib.hid (fun W hA => bytes_of_post (rowBytesS (some ⟨g, 0, none⟩) g 0 c vs W hA (by omega) HS.out))
      rw [hL] at C1 C2
      rw [hB] at R1
      clear SR hL hB hL33
      go_wp2_with (go_at_call 23; (with_reducible refine (C1.out _ FV.out).mono ?_); rintro e wb ⟨gg, Ag, cg, rfl, hrg, hgg, hb1⟩; have HS0 := keepY (w := w) ⟨row_none wd gg Ag, FV.out, HB.out, HB.out.size⟩ hb1; clear hrg hgg hb1)
      have kc := fun W => conv_zero W Ag cg
      go_region_held_law (fun w' => RowAt w' gg Ag [] ∧ Fl w' g 0 (some ⟨g, 0, none⟩) (flatV vs) ∧ Below w.heap.size w w' ∧ w.heap.size ≤ w'.heap.size) (first | exact keepY (by assumption) hbq | exact keepYD (by assumption) | assumption) (first | (go_at_call 32; (with_reducible refine (C2.out _ (keepF w gg [] (by assumption))).mono ?_); rintro e w1 ⟨gw, Aw, cw, rfl, hrw, hgw, hbq⟩; have kw := fun W => conv_zero W Aw cw; clear hrw hgw))
      have HW1 : RowAt w1 gg Ag [] ∧ Fl w1 g 0 (some ⟨g, 0, none⟩) (flatV vs) ∧ Below w.heap.size w w1 ∧ w.heap.size ≤ w1.heap.size := by assumption
      have FV2 := Lib.hid HW1.2.1
      have HB2 := Lib.hid HW1.2.2.1
      go_wp2_with (first
        | (go_at_call 21; (with_reducible refine (R1.out _ FV2.out).mono ?_); rintro e w2 ⟨rfl, hb1⟩; have HB3 := Lib.hid (HB2.out.trans (hb1.mono HB2.out.size)); clear hb1)
        | (go_at_call 19; (with_reducible refine (alive _).mono ?_); rintro e w3 ⟨rfl, hb1⟩; have HB4 := Lib.hid (HB3.out.trans (hb1.mono HB3.out.size)); clear hb1))
      all_goals (go_ret; exact ⟨retB (by first | rfl | simp), HB4.out⟩)
    · have h0 : 0 < (rbL vs).length := (rb_pos vs).2 hB
      have C1 := Lib.hid (fun W hA => bytesP_of (rowBytesI (some ⟨g, 0, none⟩) g 0 c vs W hA (by omega) HS.out) h0)
      have C2 := Lib.hid (fun W hA => bytesP_of (rowBytesS (some ⟨g, 0, none⟩) g 0 c vs W hA (by omega) HS.out) h0)
      have hrf := rfO_bytes vs hB [1, 1, 9]
      obtain ⟨L, hL⟩ : ∃ L, rbL vs = L := ⟨_, rfl⟩
      rw [hL] at C1 C2 h0 hrf hL33
      have RF := Lib.hid (fun W A g c h h1 h2 => rowFromI A g c (L ++ [1, 1, 9]) W h (by simp; omega) h1 h2)
      have hll : (L ++ [1, 1, 9]).length = L.length + 3 := by simp
      rw [hrf, hll] at RF
      obtain ⟨T, hT⟩ : ∃ T : ByteArray, ⟨L.toArray⟩ = T := ⟨_, rfl⟩
      have e0 : ((L.length : Int) == 0) = false := by rw [beq_eq_false_iff_ne]; omega
      have hfl := flatV_len vs
      clear hB hL hrf hll
      go_wp2_with (go_at_call 23; (with_reducible refine (C1.out _ FV.out).mono ?_); rintro e wb ⟨gg, cg, rfl, hrg, hcg, hcg2, hb1⟩; have HS0 : RowAt wb gg (some ⟨gg, 0, none⟩) L ∧ Fl wb g 0 (some ⟨g, 0, none⟩) (flatV vs) ∧ Below w.heap.size w wb ∧ w.heap.size ≤ wb.heap.size := ⟨hrg, FV.out.below hb1, HB.out.trans (hb1.mono HB.out.size), by have := HB.out.size; have := hb1.size; omega⟩; clear hrg hb1)
      have kc := fun W (hW : RowAt W gg (some ⟨gg, 0, none⟩) L) => conv_row (cap := cg) hW
      rw [hT] at kc
      go_region_held_law (fun w' => RowAt w' gg (some ⟨gg, 0, none⟩) L ∧ Fl w' g 0 (some ⟨g, 0, none⟩) (flatV vs) ∧ Below w.heap.size w w' ∧ w.heap.size ≤ w'.heap.size) (first | exact keepY (by assumption) hbq | exact keepYD (by assumption) | assumption) (first | (go_at_call 32; (with_reducible refine (C2.out _ (keepF w gg L (by assumption))).mono ?_); rintro e w1 ⟨gw, cw, rfl, hrw, -, -, hbq⟩; have kw := conv_row (cap := cw) hrw; rw [hT] at kw; clear hrw))
      have HW1 : RowAt w1 gg (some ⟨gg, 0, none⟩) L ∧ Fl w1 g 0 (some ⟨g, 0, none⟩) (flatV vs) ∧ Below w.heap.size w w1 ∧ w.heap.size ≤ w1.heap.size := by assumption
      have HL1 := Lib.hid HW1
      have hgg : gg < w1.heap.size := HW1.1.lt h0
      have hgv : 0 < (flatV vs).length → g < w1.heap.size := fun h => HW1.2.1.lt h
      have HGV := Lib.hid hgv
      have hww : w.heap.size ≤ w1.heap.size := HW1.2.2.2
      clear HW1 hgv
      have RF2 : Hid (∀ (W : World) (A : Option Addr) (g c : Nat) (h : RowO W g 0 A (L ++ [1, 1, 9])) (h1 : L.length + 3 ≤ c) (h2 : c ≤ maxLen), Calls Try.prog 33 #[.slice A (L.length + 3) c] W fun e w' => ∃ v, e = .returned (.tuple #[v, .int .i64 L.length]) ∧ w'.ownsRow W.heap.size 59 3 v vs.length (flatV vs) ∧ Below W.heap.size W w') := fun W A g c h h1 h2 => RF.out W A g c h h1 h2
      clear RF
      go_wp2_with (first
        | ((fail_if_success (have _ := HL2)); at_builtin; refine wpList_append_own _ rfl (.tmp 30) (.tmp 31) 22 rfl w1.heap.size 5 i0 (.int .u8 0) 1 1 Try.underlying22 hi iz0 iz1 iz2 rfl (by decide) (.slice (some ⟨w1.heap.size, 0, none⟩) 0 0) 0 [] rfl (own_empty 5 (Nat.le_refl _)) ⟨gg, 0, none⟩ L.length cg (L.map bv) rfl (by simp) (news_row (HL1.out.1.alloc _)) (ones_bv _) (by unfold maxLen; omega) (by omega) (by simp) ?_; intro v2 w2 hown2 hgr2 _; rw [Nat.zero_add, List.nil_append] at hown2; have HL2 := Lib.hid (keepYG (keepY HL1.out ((Below.refl _ _).alloc (Nat.le_refl _) (.cells #[] 5))) hgr2 hgg HGV.out hww (by intro b hb; simp [Value.ownBlock] at hb; omega)); have OWN2 := Lib.hid hown2; have hz2w := hgr2.size; (try simp at hz2w); clear hown2 hgr2)
        | (have _ := HL2; at_builtin; refine wpList_append_own _ rfl (.tmp 32) (.tmp 33) 22 rfl w1.heap.size 5 i0 (.int .u8 0) 1 1 Try.underlying22 hi iz0 iz1 iz2 rfl (by decide) v2 L.length (L.map bv) rfl (OWN2.out.alloc _) ⟨w2.heap.size, 0, none⟩ 3 3 [.int .u8 1, .int .u8 1, .int .u8 9] rfl rfl (news3 (by simp [go_sem]) (by simp [go_sem]) (by simp [go_sem])) (by simp [Value.oneCell']) (by unfold maxLen; omega) (by omega) (by simp; omega) ?_; intro v3 w3 hown3 hgr3 _; have HL3 := Lib.hid (keepYG (keepY HL2.out ((Below.refl _ _).alloc (Nat.le_refl _) (.cells #[.int .u8 1, .int .u8 1, .int .u8 9] 5))) hgr3 hgg HGV.out hww (fun b hb => (OWN2.out.lt b hb).1)); obtain ⟨g3, c3, rfl, hr3, hg3, hl3, hc3⟩ := row_of_own2 (L := L ++ [1, 1, 9]) (by rw [List.length_append, List.map_append]; exact hown3) (by simp); have HR3 := Lib.hid hr3.toO; have hl4 : L.length + 3 ≤ c3 := (by simp at hl3; omega); clear hown3 hgr3 hr3 hl3)
        | (go_at_call 33; (with_reducible refine (RF2.out _ _ _ _ HR3.out hl4 hc3).mono ?_); rintro e w4 ⟨v4, rfl, hown4, hb4⟩; obtain ⟨g4, A4, c4, rfl, hf4, -, -, -, -⟩ := fl_of_own hown4; have HF4 := Lib.hid hf4; have HL4 := Lib.hid (keepY HL3.out hb4); clear hf4 hown4 hb4)
        | (go_at_call 30; (with_reducible refine (SR.out _ _ _ _ _ HF4.out (keepF w gg L HL4.out)).mono ?_); rintro e w5 ⟨E, ⟨rfl, hE⟩, hb5⟩; obtain rfl : E = true := hE.2 (by first | trivial | rfl); have HL5 := Lib.hid (keepY HL4.out hb5); clear hb5 hE))
      all_goals (go_ret; exact ⟨retB (by first | rfl | simp), HL5.out.2.2.1⟩)
end Go.Proofs.Ytlkdcijacjdneaa.Val
