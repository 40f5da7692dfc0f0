/- The walk of the law FnRowFrom. -/
import Derived.Test.YtlkdcijacjdneaaRowRS
import Derived.Test.YtlkdcijacjdneaaRowY
import Derived.Test.YtlkdcijacjdneaaRowX
import Derived.Test.YtlkdcijacjdneaaDrawRF
import Derived.Test.YtlkdcijacjdneaaAlive
import Derived.Deep.RegionHeldLaw
namespace Go.Proofs.Ytlkdcijacjdneaa.Val
open Go.RowKit
set_option linter.unusedVariables false
set_option maxHeartbeats 4000000 in
theorem walk_FnRowFrom (a : Option Addr) (len cap : Nat) (zs : List Int) (w : World) (h : IsRow .u8 w a len cap zs) :
    Calls Try.prog 8 #[.slice a len cap] w fun e w' => e = .returned (.bool true) ∧ Below w.heap.size w w' := by
  by_cases hl : 1048576 < len
  · clear h
    go_enter Try.func8, Try.ntmps8
    go_wp2
    go_ret
    exact ⟨rfl, Below.refl _ _⟩
  · have HI := Lib.hid h
    clear h
    obtain ⟨i0, hi, iz0, iz1, iz2⟩ := info_parts info5
    go_enter Try.func8, Try.ntmps8
    go_wp2_with (go_at_call 34; refine (drawRowFrom _ _ _ zs _ HI.out).mono ?_; rintro e wd ⟨gg, A, c, l, rfl, hr, hlc, hcm, hl60, hbd⟩; have HBD := Lib.hid hbd; have HR := Lib.hid hr; clear hbd hr)
    have CI := Lib.hid (fun W hW => rowFromI A gg c l W hW (by omega) hlc hcm)
    have CS := Lib.hid (fun W hW => rowFromS A gg c l W hW (by omega) hlc hcm)
    rcases hf : rfO l with _ | ⟨vs, m⟩
    · rw [hf] at CI CS
      have CI2 : Hid (∀ W, RowO W gg 0 A l → Calls Try.prog 33 #[.slice A l.length c] W fun e w' => ∃ v, e = .returned (.tuple #[v, .int .i64 0]) ∧ w'.ownsRow W.heap.size 59 3 v 0 (flatV []) ∧ Below W.heap.size W w') := fun W h => CI.out W h
      have CS2 : Hid (∀ W, RowO W gg 0 A l → Calls Try.prog 35 #[.slice A l.length c] W fun e w' => ∃ v, e = .returned (.tuple #[v, .int .i64 0]) ∧ w'.ownsRow W.heap.size 59 3 v 0 (flatV []) ∧ Below W.heap.size W w') := fun W h => CS.out W h
      have SR : Hid (∀ W A B g g' c c', Fl W g 0 A (flatV []) → Fl W g' 0 B (flatV []) → Calls Try.prog 30 #[.slice A 0 c, .slice B 0 c'] W fun e w' => ∃ E : Bool, (e = .returned (.bool E) ∧ (E = true ↔ ([] : List VT) = [])) ∧ Below W.heap.size W w') := fun W A B g g' c c' hA hB => sameRow A B g g' 0 0 c c' [] [] W hA hB (by simp) (by simp)
      clear CI CS hf
      go_wp2_with (first
        | (go_at_call 33; (with_reducible refine (CI2.out _ HR.out.toO).mono ?_); rintro e w1 ⟨v1, rfl, hown1, hb1⟩; obtain ⟨g1, A1, c1, rfl, hf1, -, -, -, -⟩ := fl_of_own hown1; have F1 := Lib.hid hf1; have HR1 := Lib.hid (HR.out.below hb1); have HB1 := Lib.hid (HBD.out.trans (hb1.mono HBD.out.size)); clear hown1 hf1 hb1)
        | (go_at_call 35; (with_reducible refine (CS2.out _ HR1.out.toO).mono ?_); rintro e w2 ⟨v2, rfl, hown2, hb2⟩; obtain ⟨g2, A2, c2, rfl, hf2, -, -, -, -⟩ := fl_of_own hown2; have F2 := Lib.hid hf2; have F1b := Lib.hid (F1.out.below hb2); have HB2 := Lib.hid (HB1.out.trans (hb2.mono HB1.out.size)); clear hown2 hf2 hb2)
        | (go_at_call 30; (with_reducible refine (SR.out _ _ _ _ _ _ _ F1b.out F2.out).mono ?_); rintro e w3 ⟨E, ⟨rfl, hE⟩, hb3⟩; obtain rfl : E = true := hE.2 (by first | trivial | rfl); have HB3 := Lib.hid (HB2.out.trans (hb3.mono HB2.out.size)); clear hb3 hE)
        | (go_at_call 19; (with_reducible refine (alive _).mono ?_); rintro e w4 ⟨rfl, hb4⟩; have HB4 := Lib.hid (HB3.out.trans (hb4.mono HB3.out.size)); clear hb4))
      all_goals (go_ret; exact ⟨retB (by first | rfl | simp), HB4.out⟩)
    · obtain ⟨hB, hbl, hm0, hml⟩ := rfO_some hf
      have hls := rfO_less hf
      have hv4 : vs.length ≤ 4 := by simp only [rowB, Bool.and_eq_true, decide_eq_true_eq] at hB; exact hB.1
      have hSH := short_row hB
      have hL0 := (rb_pos vs).2 hB
      rw [hf] at CI CS
      obtain rfl := HR.out.ad (by omega)
      obtain ⟨M, rfl⟩ : ∃ M, m = M + 1 := ⟨m - 1, by omega⟩
      rw [Nat.add_sub_cancel] at hls
      have CL := Lib.hid (fun W g A c (hW : RowO W g 0 A (l.take M)) h1 h2 => rowFromI A g c (l.take M) W hW (by simp; omega) h1 h2)
      have hlt : (l.take M).length = M := by simp; omega
      rw [hls, hlt] at CL
      have CI2 : Hid (∀ W, RowO W gg 0 (some ⟨gg, 0, none⟩) l → Calls Try.prog 33 #[.slice (some ⟨gg, 0, none⟩) l.length c] W fun e w' => ∃ v, e = .returned (.tuple #[v, .int .i64 (M + 1 : Nat)]) ∧ w'.ownsRow W.heap.size 59 3 v vs.length (flatV vs) ∧ Below W.heap.size W w') := fun W h => CI.out W h
      have CS2 : Hid (∀ W, RowO W gg 0 (some ⟨gg, 0, none⟩) l → Calls Try.prog 35 #[.slice (some ⟨gg, 0, none⟩) l.length c] W fun e w' => ∃ v, e = .returned (.tuple #[v, .int .i64 (M + 1 : Nat)]) ∧ w'.ownsRow W.heap.size 59 3 v vs.length (flatV vs) ∧ Below W.heap.size W w') := fun W h => CS.out W h
      have CL2 : Hid (∀ W g A c, RowO W g 0 A (l.take M) → M ≤ c → c ≤ maxLen → Calls Try.prog 33 #[.slice A M c] W fun e w' => ∃ v, e = .returned (.tuple #[v, .int .i64 0]) ∧ w'.ownsRow W.heap.size 59 3 v 0 (flatV []) ∧ Below W.heap.size W w') := fun W g A c h1 h2 h3 => CL.out W g A c h1 h2 h3
      have SR := Lib.hid (fun W A B g g' c c' hA hB => sameRow A B g g' 0 0 c c' vs vs W hA hB (by omega) (by omega))
      have C1 := Lib.hid (fun W A g c hA => bytesP_of (rowBytesI A g 0 c vs W hA (by omega) hSH) hL0)
      rw [hbl] at C1
      have hlm : (l.take (M + 1)).length = M + 1 := by simp; omega
      obtain ⟨T, hT⟩ : ∃ T : ByteArray, ⟨(l.take (M + 1)).toArray⟩ = T := ⟨_, rfl⟩
      have kc := fun W (hW : RowAt W gg (some ⟨gg, 0, none⟩) l) => conv_row (cap := c) (hW.take (M + 1))
      rw [hT, hlm] at kc
      obtain ⟨L1, hL1⟩ : ∃ L1, l.take (M + 1) = L1 := ⟨_, rfl⟩
      rw [hL1] at C1 hT
      clear hf hls hlm CI CS CL hB hSH hL0 hbl
      have e0 : (((M + 1 : Nat) : Int) == 0) = false := by rw [beq_eq_false_iff_ne]; omega
      have em : ((M + 1 : Nat) : Int) - 1 = (M : Int) := by omega
      go_wp2_with (first
        | ((fail_if_success (have _ := F1)); go_at_call 33; (with_reducible refine (CI2.out _ HR.out.toO).mono ?_); rintro e w1 ⟨v1, rfl, hown1, hb1⟩; obtain ⟨g1, A1, c1, rfl, hf1, -, -, -, -⟩ := fl_of_own hown1; have F1 := Lib.hid hf1; have HR1 := Lib.hid (HR.out.below hb1); have HB1 := Lib.hid (HBD.out.trans (hb1.mono HBD.out.size)); clear hown1 hf1 hb1)
        | (go_at_call 35; (with_reducible refine (CS2.out _ HR1.out.toO).mono ?_); rintro e w2 ⟨v2, rfl, hown2, hb2⟩; obtain ⟨g2, A2, c2, rfl, hf2, -, -, -, -⟩ := fl_of_own hown2; have F2 := Lib.hid hf2; have HL2 := Lib.hid (keepY (w := w) ⟨HR1.out, F1.out, HB1.out, HB1.out.size⟩ hb2); clear hown2 hf2 hb2)
        | (go_at_call 30; (with_reducible refine (SR.out _ _ _ _ _ _ _ HL2.out.2.1 F2.out).mono ?_); rintro e w3 ⟨E, ⟨rfl, hE⟩, hb3⟩; obtain rfl : E = true := hE.2 (by first | trivial | rfl); have HL3 := Lib.hid (keepY HL2.out hb3); have hgg3 : gg < w3.heap.size := HL3.out.1.lt (by omega); have HGV := Lib.hid (fun h => HL3.out.2.1.lt h); have hww : w.heap.size ≤ w3.heap.size := HL3.out.2.2.2; clear hb3 hE)
        | (have _ := HL3; (fail_if_success (have _ := HL4)); at_builtin; refine wpList_append_own _ rfl (.tmp 38) (.tmp 42) 22 rfl w3.heap.size 5 i0 (.int .u8 0) 1 1 Try.underlying22 hi iz0 iz1 iz2 rfl (by decide) (.slice (some ⟨w3.heap.size, 0, none⟩) 0 0) 0 [] rfl (own_empty 5 (Nat.le_refl _)) ⟨gg, 0, none⟩ M c ((l.take M).map bv) rfl (by simp; omega) (news_row ((HL3.out.1.alloc _).take M)) (ones_bv _) (by unfold maxLen; omega) (by omega) (by simp) ?_; intro v4 w4 hown4 hgr4 _; rw [Nat.zero_add, List.nil_append] at hown4; have HL4 := Lib.hid (keepYG (keepY HL3.out ((Below.refl _ _).alloc (Nat.le_refl _) (.cells #[] 5))) hgr4 hgg3 HGV.out hww (by intro b hb; simp [Value.ownBlock] at hb; omega)); obtain ⟨g4, A4, c4, rfl, hr4, hn4, hc4⟩ := row_of_own3 hown4 (by simp; omega); have HR4 := Lib.hid hr4; clear hown4 hgr4 hr4)
        | (have _ := HR4; go_at_call 33; (with_reducible refine (CL2.out _ _ _ _ HR4.out.toO hn4 hc4).mono ?_); rintro e w5 ⟨v5, rfl, -, hb5⟩; have HL5 := Lib.hid (keepY HL4.out hb5); clear hb5))
      have HS0 := HL5.out
      have hs0 : (0 : Int) ≤ (M : Int) + 1 := by omega
      have hs1 : (M : Int) + 1 ≤ (c : Int) := by omega
      go_region_held_law (fun w' => RowAt w' gg (some ⟨gg, 0, none⟩) l ∧ Fl w' g1 0 A1 (flatV vs) ∧ Below w.heap.size w w' ∧ w.heap.size ≤ w'.heap.size) (first | exact keepY (by assumption) hbq | exact keepYD (by assumption) | assumption) (first | (go_at_call 23; (with_reducible refine (C1.out _ _ _ _ (keepF w gg l (by assumption))).mono ?_); rintro e w6 ⟨gw, cw, rfl, hrw, -, -, hbq⟩; have kw := conv_row (cap := cw) hrw; rw [hT] at kw; clear hrw))
      all_goals (go_wp2; go_ret; have HW1 : RowAt w6 gg (some ⟨gg, 0, none⟩) l ∧ Fl w6 g1 0 A1 (flatV vs) ∧ Below w.heap.size w w6 ∧ w.heap.size ≤ w6.heap.size := by assumption
                 exact ⟨retB (by first | rfl | simp), HW1.2.2.1⟩)
end Go.Proofs.Ytlkdcijacjdneaa.Val
