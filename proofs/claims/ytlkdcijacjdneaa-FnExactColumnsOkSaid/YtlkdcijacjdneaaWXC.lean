/- The walk of the law FnExactColumnsOk. -/
import Derived.Test.YtlkdcijacjdneaaCol
import Derived.Test.YtlkdcijacjdneaaOpenS
namespace Go.Proofs.Ytlkdcijacjdneaa.Val
open Go.RowKit
set_option linter.unusedVariables false
theorem walk_FnExactColumnsOk (A : Option Addr) (cap g o : Nat) (cs : List CT) (w : World) (hm : cs.length ≤ maxLen) (h : Fl w g o A (flatC cs)) :
    Calls Try.prog 9 #[.slice A cs.length cap] w fun e w' => e = .returned (.bool true) ∧ Below w.heap.size w w' := by
  have H := Lib.hid h
  have SZ := Lib.hid (fun W => szColumnS A cs.length cap 1048576 W (by omega) (by omega) hm)
  clear h
  unfold maxLen at hm
  by_cases hl : 1048576 < cs.length
  · have e1 : (if (1048576 : Int) - cs.length < 0 then (-1 : Int) else 1048576 - cs.length) = -1 := if_pos (by omega)
    rw [e1] at SZ
    clear e1
    go_enter Try.func9, Try.ntmps9
    go_wp2_with (go_at_call 36; (with_reducible refine (SZ.out _).mono ?_); rintro e w1 ⟨rfl, rfl⟩)
    go_ret
    exact ⟨rfl, Below.refl _ _⟩
  · obtain ⟨R, hR⟩ : ∃ R : Int, 1048576 - (cs.length : Int) = R := ⟨_, rfl⟩
    have hR0 : 0 ≤ R := by omega
    have e1 : (if (1048576 : Int) - cs.length < 0 then (-1 : Int) else 1048576 - cs.length) = R := by rw [if_neg (by omega), hR]
    rw [e1] at SZ
    clear e1 hR
    have eqq : (cs == cs) = true := by simp
    have CT1 := Lib.hid (fun W hW => toColumnS A g o cap cs W hW (by omega))
    have CI := Lib.hid (fun W g A c hW => columnsOkI A g 0 c cs W hW (by omega))
    have CS := Lib.hid (fun W g A c hW => columnsOkS A g 0 c cs W hW (by omega))
    have CE := Lib.hid (fun W g g' A B c c' hA hB => eqColumnS A B g g' 0 0 c c' cs cs W hA hB (by omega) (by omega))
    rw [eqq] at CE
    clear eqq
    go_enter Try.func9, Try.ntmps9
    go_wp2_with (first
      | (go_at_call 36; (with_reducible refine (SZ.out _).mono ?_); rintro e w1 ⟨rfl, rfl⟩)
      | ((fail_if_success (have _ := HX)); (fail_if_success (have _ := H1)); go_at_call 37; (with_reducible refine (CT1.out _ H.out).mono ?_); rintro e wa ⟨ga, ca, rfl, ha, -, -, -, -, hb1⟩; have H1 := Lib.hid ha; have HB := Lib.hid hb1; clear ha hb1)
      | (go_at_call 18; (with_reducible refine (CS.out _ _ _ _ H1.out).mono ?_); rintro e w1 ⟨rfl, rfl⟩)
      | ((fail_if_success (have _ := HX)); have _ := H1; go_at_call 37; (with_reducible refine (CT1.out _ (H.out.below HB.out)).mono ?_); rintro e wx ⟨gx, cx, rfl, hx, -, -, -, -, hb1⟩; have HX := Lib.hid hx; have HB2 := Lib.hid (HB.out.trans (hb1.mono HB.out.size)); clear hx hb1)
      | (go_at_call 17; (with_reducible refine (CI.out _ _ _ _ HX.out).mono ?_); rintro e w1 ⟨rfl, rfl⟩)
      | (have _ := HX; go_at_call 37; (with_reducible refine (CT1.out _ (H.out.below HB2.out)).mono ?_); rintro e wy ⟨gy, cy, rfl, hy, -, -, -, -, hb1⟩; have HY := Lib.hid hy; have HB3 := Lib.hid (HB2.out.trans (hb1.mono HB2.out.size)); have HX2 := Lib.hid (HX.out.below hb1); clear hy hb1)
      | (go_at_call 38; (with_reducible refine (CE.out _ _ _ _ _ _ _ HX2.out HY.out).mono ?_); rintro e wz ⟨rfl, hb1⟩; have HB4 := Lib.hid (HB3.out.trans (hb1.mono HB3.out.size)); clear hb1))
    all_goals (go_ret; exact ⟨retB (by first | rfl | simp), HB4.out⟩)
end Go.Proofs.Ytlkdcijacjdneaa.Val
