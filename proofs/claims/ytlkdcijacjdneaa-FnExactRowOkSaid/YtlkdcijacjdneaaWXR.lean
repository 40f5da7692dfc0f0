/- The walk of the law FnExactRowOk. -/
import Derived.Test.YtlkdcijacjdneaaRowV
import Derived.Test.YtlkdcijacjdneaaOpenS
namespace Go.Proofs.Ytlkdcijacjdneaa.Val
open Go.RowKit
set_option linter.unusedVariables false
theorem walk_FnExactRowOk (A : Option Addr) (cap g o : Nat) (vs : List VT) (w : World) (hm : vs.length ≤ maxLen) (hs : Short vs) (h : Fl w g o A (flatV vs)) :
    Calls Try.prog 10 #[.slice A vs.length cap] w fun e w' => e = .returned (.bool true) ∧ Below w.heap.size w w' := by
  have H := Lib.hid h
  have HSH := Lib.hid hs
  have SZ := Lib.hid (fun W hW => szValueS A g o cap vs 1048576 W hW (by omega) (by omega) hm hs)
  clear h hs
  unfold maxLen at hm
  by_cases hl : vs.length ≤ 1048576
  · have CT1 := Lib.hid (fun W hW => toValueS A g o cap vs W hW hl)
    have CI := Lib.hid (fun W g A c hW => rowOkI A g 0 c vs W hW (by omega) HSH.out)
    have CS := Lib.hid (fun W g A c hW => rowOkS A g 0 c vs W hW (by omega) HSH.out)
    have CE := Lib.hid (fun W g g' A B c c' hA hB => eqValueS A B g g' 0 0 c c' vs W hA hB (by omega))
    go_enter Try.func10, Try.ntmps10
    go_wp2_with (first
      | (go_at_call 39; (with_reducible refine (SZ.out _ H.out).mono ?_); rintro e w0 ⟨r, rfl, hr, hr2, hb1⟩; have HB := Lib.hid hb1; clear hb1)
      | ((fail_if_success (have _ := H1)); go_at_call 40; (with_reducible refine (CT1.out _ (H.out.below HB.out)).mono ?_); rintro e wa ⟨ga, ca, rfl, ha, -, -, -, -, hb1⟩; have H1 := Lib.hid ha; have HB1 := Lib.hid (HB.out.trans (hb1.mono HB.out.size)); clear ha hb1)
      | (go_at_call 22; (with_reducible refine (CS.out _ _ _ _ H1.out).mono ?_); rintro e wb ⟨rfl, hb1⟩; have HB2 := Lib.hid (HB1.out.trans (hb1.mono HB1.out.size)); clear hb1)
      | ((fail_if_success (have _ := HX)); have _ := H1; go_at_call 40; (with_reducible refine (CT1.out _ (H.out.below HB2.out)).mono ?_); rintro e wx ⟨gx, cx, rfl, hx, -, -, -, -, hb1⟩; have HX := Lib.hid hx; have HB3 := Lib.hid (HB2.out.trans (hb1.mono HB2.out.size)); clear hx hb1)
      | (go_at_call 21; (with_reducible refine (CI.out _ _ _ _ HX.out).mono ?_); rintro e wc ⟨rfl, hb1⟩; have HX2 := Lib.hid (HX.out.below hb1); have HB4 := Lib.hid (HB3.out.trans (hb1.mono HB3.out.size)); clear hb1)
      | (have _ := HX2; go_at_call 40; (with_reducible refine (CT1.out _ (H.out.below HB4.out)).mono ?_); rintro e wy ⟨gy, cy, rfl, hy, -, -, -, -, hb1⟩; have HY := Lib.hid hy; have HB5 := Lib.hid (HB4.out.trans (hb1.mono HB4.out.size)); have HX3 := Lib.hid (HX2.out.below hb1); clear hy hb1)
      | (go_at_call 41; (with_reducible refine (CE.out _ _ _ _ _ _ _ HX3.out HY.out).mono ?_); rintro e wz ⟨rfl, hb1⟩; have HB6 := Lib.hid (HB5.out.trans (hb1.mono HB5.out.size)); clear hb1))
    all_goals (go_ret; exact ⟨retB (by first | rfl | simp), by first | exact HB6.out | exact HB.out⟩)
  · go_enter Try.func10, Try.ntmps10
    go_wp2_with (go_at_call 39; (with_reducible refine (SZ.out _ H.out).mono ?_); rintro e w0 ⟨r, rfl, hr, hr2, hb1⟩; have HB := Lib.hid hb1; have hr3 : r < 0 := (by omega); clear hb1 hr2)
    all_goals (go_ret; exact ⟨rfl, HB.out⟩)
end Go.Proofs.Ytlkdcijacjdneaa.Val
