/- The walk of the law FnWholeBothTurned. -/
import Derived.Test.YtcgjnilkbdamjabStpN
import Derived.Test.YtcgjnilkbdamjabBag
import Derived.Test.YtcgjnilkbdamjabAlive
namespace Go.Proofs.Ytcgjnilkbdamjab.Val
open Go.RowKit
set_option linter.unusedSimpArgs false
set_option linter.unusedVariables false
set_option maxRecDepth 20000
set_option maxHeartbeats 8000000 in
theorem walk_FnWholeBothTurned (a : Option Addr) (len cap : Nat) (zs : List Int) (w : World) (h : IsRow .u8 w a len cap zs) :
    Calls Try.prog 7 #[.slice a len cap] w fun e w' => e = .returned (.bool true) ∧ Below w.heap.size w w' := by
  by_cases hl : 1048576 < len
  · clear h
    go_enter Try.func7, Try.ntmps7
    go_wp2
    go_ret
    exact ⟨rfl, Below.refl _ _⟩
  · have HI := Lib.hid h
    clear h
    go_enter Try.func7, Try.ntmps7
    go_wp2_with (go_at_call 18; (with_reducible refine (drawBeginnings _ _ _ zs _ HI.out).mono ?_); rintro e wd ⟨ts, x, y, ps, g, c, g3, c3, rfl, hn, hxy, hps, hone, hrun, htp, htb, hcap, hfp, hcp, hbd⟩; have TB := Lib.hid htb; have HB := Lib.hid hbd; have ONE := Lib.hid hone; have hp0 : (0 : Int) < (ps.length : Int) := (by omega); clear hbd htb hone hrun htp hfp)
    have S0 := True.intro
    have OKT := Lib.hid (ones_ok ONE.out hn.2)
    have hix : inB (x : Int) ts.length = true := by simp [inB]; omega
    have hiy : inB (y : Int) ts.length = true := by simp [inB]; omega
    obtain ⟨hpl, hbg⟩ := whole_turned (ones_tables ONE.out hn.2) hix hiy
    have SX : Hid (Sps (wd.alloc (.cells #[.int .i64 1, .int .i64 0, .int .i64 0, .int .i64 (x : Int), .slice none 0 0, .slice none 0 0, .int .i64 1, .int .i64 0, .int .i64 0, .int .i64 (y : Int), .slice none 0 0, .slice none 0 0, .int .i64 5, .int .i64 0, .int .i64 1, .int .i64 0, .slice none 0 0, .slice none 0 0] 31)) wd.heap.size 0 (some ⟨wd.heap.size, 0, none⟩) [tabS x, tabS y, bothN 0 1]) := sps3 ⟨rfl, rfl⟩ ⟨rfl, rfl⟩ ⟨rfl, rfl⟩ (news_new rfl)
    have SY : ∀ W : World, W.heap.size = wd.heap.size + 1 → Sps (W.alloc (.cells #[.int .i64 1, .int .i64 0, .int .i64 0, .int .i64 (x : Int), .slice none 0 0, .slice none 0 0, .int .i64 1, .int .i64 0, .int .i64 0, .int .i64 (y : Int), .slice none 0 0, .slice none 0 0, .int .i64 5, .int .i64 1, .int .i64 0, .int .i64 0, .slice none 0 0, .slice none 0 0] 31)) (wd.heap.size + 1) 0 (some ⟨wd.heap.size + 1, 0, none⟩) [tabS x, tabS y, bothN 1 0] := fun W hW => sps3 ⟨rfl, rfl⟩ ⟨rfl, rfl⟩ ⟨rfl, rfl⟩ (news_new hW)
    have SY := Lib.hid (SY (wd.alloc (.cells #[.int .i64 1, .int .i64 0, .int .i64 0, .int .i64 (x : Int), .slice none 0 0, .slice none 0 0, .int .i64 1, .int .i64 0, .int .i64 0, .int .i64 (y : Int), .slice none 0 0, .slice none 0 0, .int .i64 5, .int .i64 0, .int .i64 1, .int .i64 0, .slice none 0 0, .slice none 0 0] 31)) (by simp))
    have okx : OkS [tabS x, tabS y, bothN 0 1] := okS_bare (by intro s hs; simp at hs; rcases hs with rfl | rfl | rfl <;> exact ⟨rfl, rfl⟩) (by simp)
    have oky : OkS [tabS x, tabS y, bothN 1 0] := okS_bare (by intro s hs; simp at hs; rcases hs with rfl | rfl | rfl <;> exact ⟨rfl, rfl⟩) (by simp)
    have PX := Lib.hid (fun W hT hP => planOkI (some ⟨g, 0, none⟩) (some ⟨wd.heap.size, 0, none⟩) g 0 c wd.heap.size 0 3 ts [tabS x, tabS y, bothN 0 1] W hT OKT.out hP okx)
    have PY := Lib.hid (fun W hT hP => planOkI (some ⟨g, 0, none⟩) (some ⟨wd.heap.size + 1, 0, none⟩) g 0 c (wd.heap.size + 1) 0 3 ts [tabS x, tabS y, bothN 1 0] W hT OKT.out hP oky)
    have RX := Lib.hid (fun W hT hP => (planRowsI (some ⟨g, 0, none⟩) (some ⟨wd.heap.size, 0, none⟩) g 0 c wd.heap.size 0 3 ts [tabS x, tabS y, bothN 0 1] W hT OKT.out hP okx).mono fun e w' h => retBagN h)
    have RY := Lib.hid (fun W hT hP => (planRowsI (some ⟨g, 0, none⟩) (some ⟨wd.heap.size + 1, 0, none⟩) g 0 c (wd.heap.size + 1) 0 3 ts [tabS x, tabS y, bothN 1 0] W hT OKT.out hP oky).mono fun e w' h => retBagN h)
    obtain ⟨-, -, OX⟩ := prows_small ts [tabS x, tabS y, bothN 0 1]
    obtain ⟨-, -, OY⟩ := prows_small ts [tabS x, tabS y, bothN 1 0]
    have BB := Lib.hid (fun W g g' A B c c' hA hB => sameBagI A B g 0 g' 0 c c' (prowsI ts [tabS x, tabS y, bothN 0 1]) (prowsI ts [tabS x, tabS y, bothN 1 0]) W hA hB OX OY)
    rw [hbg] at BB
    rw [hpl] at PX
    obtain ⟨p, hp⟩ : ∃ p, planB ts [tabS x, tabS y, bothN 1 0] = p := ⟨_, rfl⟩
    rw [hp] at PX PY
    clear hpl hbg hp OX OY
    obtain ⟨zx, hzx⟩ : ∃ z, prowsI ts [tabS x, tabS y, bothN 0 1] = z := ⟨_, rfl⟩
    obtain ⟨zy, hzy⟩ : ∃ z, prowsI ts [tabS x, tabS y, bothN 1 0] = z := ⟨_, rfl⟩
    rw [hzx] at RX BB
    rw [hzy] at RY BB
    clear hzx hzy okx oky
    obtain ⟨X, hX⟩ : ∃ X, [tabS x, tabS y, bothN 0 1] = X := ⟨_, rfl⟩
    obtain ⟨Y, hY⟩ : ∃ Y, [tabS x, tabS y, bothN 1 0] = Y := ⟨_, rfl⟩
    have hX3 : X.length = 3 := by rw [← hX]; rfl
    have hY3 : Y.length = 3 := by rw [← hY]; rfl
    rw [hX] at PX RX SX
    rw [hY] at PY RY SY
    rw [hX3] at PX RX
    rw [hY3] at PY RY
    clear hX hY hX3 hY3
    have hpp : (p == p) = true := by simp
    go_wp2_with (first
      | ((have _ := S0); (fail_if_success (have _ := S1)); go_at_call 10; (with_reducible refine (PX.out _ (by repeat (with_reducible first | exact TB.out | apply Tbs.alloc)) (by repeat (with_reducible first | exact SX.out | apply Sps.alloc))).mono ?_); rintro e wn0 ⟨rfl, hb1⟩; have HBn : Hid (Below w.heap.size w wn0) := Below.trans (by repeat (with_reducible first | exact HB.out | refine Below.alloc ?_ (by first | omega | (have := HB.out.size; omega) | (simp; done) | (have := HB.out.size; simp; omega)) _ | apply Below.drew)) (Below.mono hb1 (by have := HB.out.size; first | omega | (simp; omega))); have K0 := Lib.hid (by first | exact TB.out.below hb1 | exact (TB.out.alloc _).below hb1 | exact ((TB.out.alloc _).alloc _).below hb1 | exact (TB.out.drew).below hb1); clear TB; have TB := K0; clear K0; have K0 := Lib.hid (by first | exact SX.out.below hb1 | exact (SX.out.alloc _).below hb1 | exact ((SX.out.alloc _).alloc _).below hb1 | exact (SX.out.drew).below hb1); clear SX; have SX := K0; clear K0; have K0 := Lib.hid (by first | exact SY.out.below hb1 | exact (SY.out.alloc _).below hb1 | exact ((SY.out.alloc _).alloc _).below hb1 | exact (SY.out.drew).below hb1); clear SY; have SY := K0; clear K0; clear HB; have HB := HBn; clear HBn; clear hb1; have S1 := True.intro)
      | ((have _ := S1); (fail_if_success (have _ := S2)); go_at_call 10; (with_reducible refine (PY.out _ TB.out SY.out).mono ?_); rintro e wn1 ⟨rfl, hb1⟩; have HBn : Hid (Below w.heap.size w wn1) := Below.trans (by repeat (with_reducible first | exact HB.out | refine Below.alloc ?_ (by first | omega | (have := HB.out.size; omega) | (simp; done) | (have := HB.out.size; simp; omega)) _ | apply Below.drew)) (Below.mono hb1 (by have := HB.out.size; first | omega | (simp; omega))); have K0 := Lib.hid (by first | exact TB.out.below hb1 | exact (TB.out.alloc _).below hb1 | exact ((TB.out.alloc _).alloc _).below hb1 | exact (TB.out.drew).below hb1); clear TB; have TB := K0; clear K0; have K0 := Lib.hid (by first | exact SX.out.below hb1 | exact (SX.out.alloc _).below hb1 | exact ((SX.out.alloc _).alloc _).below hb1 | exact (SX.out.drew).below hb1); clear SX; have SX := K0; clear K0; have K0 := Lib.hid (by first | exact SY.out.below hb1 | exact (SY.out.alloc _).below hb1 | exact ((SY.out.alloc _).alloc _).below hb1 | exact (SY.out.drew).below hb1); clear SY; have SY := K0; clear K0; clear HB; have HB := HBn; clear HBn; clear hb1; have S2 := True.intro)
      | ((have _ := S2); (fail_if_success (have _ := S3)); go_at_call 14; (with_reducible refine (RX.out _ TB.out SX.out).mono ?_); rintro e wn2 ⟨Ax, gx, cx, Tx, rfl, hc, hb1⟩; have HBn : Hid (Below w.heap.size w wn2) := Below.trans (by repeat (with_reducible first | exact HB.out | refine Below.alloc ?_ (by first | omega | (have := HB.out.size; omega) | (simp; done) | (have := HB.out.size; simp; omega)) _ | apply Below.drew)) (Below.mono hb1 (by have := HB.out.size; first | omega | (simp; omega))); have K0 := Lib.hid (by first | exact TB.out.below hb1 | exact (TB.out.alloc _).below hb1 | exact ((TB.out.alloc _).alloc _).below hb1 | exact (TB.out.drew).below hb1); clear TB; have TB := K0; clear K0; have K0 := Lib.hid (by first | exact SY.out.below hb1 | exact (SY.out.alloc _).below hb1 | exact ((SY.out.alloc _).alloc _).below hb1 | exact (SY.out.drew).below hb1); clear SY; have SY := K0; clear K0; clear HB; have HB := HBn; clear HBn; have VX := Lib.hid hc.rws; clear hc; clear hb1; have S3 := True.intro)
      | ((have _ := S3); (fail_if_success (have _ := S4)); go_at_call 14; (with_reducible refine (RY.out _ TB.out SY.out).mono ?_); rintro e wn3 ⟨Ay, gy, cy, Ty, rfl, hc, hb1⟩; have HBn : Hid (Below w.heap.size w wn3) := Below.trans (by repeat (with_reducible first | exact HB.out | refine Below.alloc ?_ (by first | omega | (have := HB.out.size; omega) | (simp; done) | (have := HB.out.size; simp; omega)) _ | apply Below.drew)) (Below.mono hb1 (by have := HB.out.size; first | omega | (simp; omega))); have K0 := Lib.hid (by first | exact VX.out.below hb1 | exact (VX.out.alloc _).below hb1 | exact ((VX.out.alloc _).alloc _).below hb1 | exact (VX.out.drew).below hb1); clear VX; have VX := K0; clear K0; clear HB; have HB := HBn; clear HBn; have VY := Lib.hid hc.rws; clear hc; clear hb1; have S4 := True.intro)
      | ((have _ := S4); (fail_if_success (have _ := S5)); go_at_call 17; (with_reducible refine (BB.out _ _ _ _ _ _ _ VX.out VY.out).mono ?_); rintro e wn4 ⟨rfl, hb1⟩; have HBn : Hid (Below w.heap.size w wn4) := Below.trans (by repeat (with_reducible first | exact HB.out | refine Below.alloc ?_ (by first | omega | (have := HB.out.size; omega) | (simp; done) | (have := HB.out.size; simp; omega)) _ | apply Below.drew)) (Below.mono hb1 (by have := HB.out.size; first | omega | (simp; omega))); clear HB; have HB := HBn; clear HBn; clear hb1; have S5 := True.intro)
      | ((have _ := S5); (fail_if_success (have _ := S6)); go_at_call 12; (with_reducible refine (alive _).mono ?_); rintro e wn5 ⟨rfl, hb1⟩; have HBn : Hid (Below w.heap.size w wn5) := Below.trans (by repeat (with_reducible first | exact HB.out | refine Below.alloc ?_ (by first | omega | (have := HB.out.size; omega) | (simp; done) | (have := HB.out.size; simp; omega)) _ | apply Below.drew)) (Below.mono hb1 (by have := HB.out.size; first | omega | (simp; omega))); clear HB; have HB := HBn; clear HBn; clear hb1; have S6 := True.intro))
    all_goals (go_ret; exact ⟨rfl, HB.out⟩)
end Go.Proofs.Ytcgjnilkbdamjab.Val
