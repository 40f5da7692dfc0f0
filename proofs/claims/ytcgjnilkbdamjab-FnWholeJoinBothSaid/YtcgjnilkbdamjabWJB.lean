/- The walk of the law FnWholeJoinBoth. -/
import Derived.Test.YtcgjnilkbdamjabStpN
import Derived.Test.YtcgjnilkbdamjabBag
import Derived.Test.YtcgjnilkbdamjabAlive
namespace Go.Proofs.Ytcgjnilkbdamjab.Val
open Go.RowKit
set_option linter.unusedSimpArgs false
set_option linter.unusedVariables false
set_option maxRecDepth 20000
set_option maxHeartbeats 8000000 in
theorem walk_FnWholeJoinBoth (a : Option Addr) (len cap : Nat) (zs : List Int) (w : World) (h : IsRow .u8 w a len cap zs) :
    Calls Try.prog 6 #[.slice a len cap] w fun e w' => e = .returned (.bool true) ∧ Below w.heap.size w w' := by
  by_cases hl : 1048576 < len
  · clear h
    go_enter Try.func6, Try.ntmps6
    go_wp2
    go_ret
    exact ⟨rfl, Below.refl _ _⟩
  · have HI := Lib.hid h
    clear h
    go_enter Try.func6, Try.ntmps6
    go_wp2_with (go_at_call 18; (with_reducible refine (drawBeginnings _ _ _ zs _ HI.out).mono ?_); rintro e wd ⟨ts, x, y, ps, g, c, g3, c3, rfl, hn, hxy, hps, hone, hrun, htp, htb, hcap, hfp, hcp, hbd⟩; have TB := Lib.hid htb; have HB := Lib.hid hbd; have ONE := Lib.hid hone; have HRUN := Lib.hid hrun; have HTP := Lib.hid htp; have FE := Lib.hid hfp; clear hbd htb hone hrun htp hfp)
    have S0 := True.intro
    have OKT := Lib.hid (ones_ok ONE.out hn.2)
    have hix : inB (x : Int) ts.length = true := by simp [inB]; omega
    have hiy : inB (y : Int) ts.length = true := by simp [inB]; omega
    have hkk : kindI (tcol ts (x : Int) ++ tcol ts (y : Int)) ps = 3 := ones_kind ONE.out hxy.1 hxy.2 (by omega) (HRUN.out hxy.1 hxy.2 [])
    obtain ⟨hpx, hpy, hbg⟩ := whole_lists (ones_tables ONE.out hn.2) hix hiy (ones_len ONE.out hxy.1 hxy.2) hkk
    have SX : Hid (Sps (wd.alloc (.cells #[.int .i64 1, .int .i64 0, .int .i64 0, .int .i64 (x : Int), .slice none 0 0, .slice none 0 0, .int .i64 1, .int .i64 0, .int .i64 0, .int .i64 (y : Int), .slice none 0 0, .slice none 0 0, .int .i64 5, .int .i64 0, .int .i64 0, .int .i64 0, .slice none 0 0, .slice none 0 0, .int .i64 4, .int .i64 2, .int .i64 1, .int .i64 0, .slice (some ⟨g3, 0, none⟩) ps.length c3, .slice none 0 0] 31)) wd.heap.size 0 (some ⟨wd.heap.size, 0, none⟩) [tabS x, tabS y, bothN 0 0, joinS 2 1 ps]) := sps_gen [(tabS x, cellsS (tabS x)), (tabS y, cellsS (tabS y)), (bothN 0 0, cellsS (bothN 0 0)), (joinS 2 1 ps, [.int .i64 4, .int .i64 2, .int .i64 1, .int .i64 0, .slice (some ⟨g3, 0, none⟩) ps.length c3, .slice none 0 0])] (by intro p hp; simp only [List.mem_cons, List.not_mem_nil, or_false] at hp; rcases hp with rfl | rfl | rfl | rfl <;> first | exact cells_bare ⟨rfl, rfl⟩ | exact cells_expr rfl (FE.out.alloc _) rfl hcp.1) (news_new rfl)
    have SY : ∀ W : World, W.heap.size = wd.heap.size + 1 → Fl W g3 0 (some ⟨g3, 0, none⟩) (flatP ps) → Sps (W.alloc (.cells #[.int .i64 1, .int .i64 0, .int .i64 0, .int .i64 (x : Int), .slice none 0 0, .slice none 0 0, .int .i64 1, .int .i64 0, .int .i64 0, .int .i64 (y : Int), .slice none 0 0, .slice none 0 0, .int .i64 4, .int .i64 0, .int .i64 1, .int .i64 0, .slice (some ⟨g3, 0, none⟩) ps.length c3, .slice none 0 0, .int .i64 5, .int .i64 2, .int .i64 2, .int .i64 0, .slice none 0 0, .slice none 0 0] 31)) (wd.heap.size + 1) 0 (some ⟨wd.heap.size + 1, 0, none⟩) [tabS x, tabS y, joinS 0 1 ps, bothN 2 2] := fun W hW hF => sps_gen [(tabS x, cellsS (tabS x)), (tabS y, cellsS (tabS y)), (joinS 0 1 ps, [.int .i64 4, .int .i64 0, .int .i64 1, .int .i64 0, .slice (some ⟨g3, 0, none⟩) ps.length c3, .slice none 0 0]), (bothN 2 2, cellsS (bothN 2 2))] (by intro p hp; simp only [List.mem_cons, List.not_mem_nil, or_false] at hp; rcases hp with rfl | rfl | rfl | rfl <;> first | exact cells_bare ⟨rfl, rfl⟩ | exact cells_expr rfl (hF.alloc _) rfl hcp.1) (news_new hW)
    have SY := Lib.hid (SY (wd.alloc (.cells #[.int .i64 1, .int .i64 0, .int .i64 0, .int .i64 (x : Int), .slice none 0 0, .slice none 0 0, .int .i64 1, .int .i64 0, .int .i64 0, .int .i64 (y : Int), .slice none 0 0, .slice none 0 0, .int .i64 5, .int .i64 0, .int .i64 0, .int .i64 0, .slice none 0 0, .slice none 0 0, .int .i64 4, .int .i64 2, .int .i64 1, .int .i64 0, .slice (some ⟨g3, 0, none⟩) ps.length c3, .slice none 0 0] 31)) (by simp) (FE.out.alloc _))
    have okx : OkS [tabS x, tabS y, bothN 0 0, joinS 2 1 ps] := okS_expr HTP.out (by omega) (by intro s hs; simp at hs; rcases hs with rfl | rfl | rfl | rfl <;> simp [tabS, bothN, joinS]) (by simp)
    have oky : OkS [tabS x, tabS y, joinS 0 1 ps, bothN 2 2] := okS_expr HTP.out (by omega) (by intro s hs; simp at hs; rcases hs with rfl | rfl | rfl | rfl <;> simp [tabS, bothN, joinS]) (by simp)
    have PX := Lib.hid (fun W hT hP => planOkI (some ⟨g, 0, none⟩) (some ⟨wd.heap.size, 0, none⟩) g 0 c wd.heap.size 0 4 ts [tabS x, tabS y, bothN 0 0, joinS 2 1 ps] W hT OKT.out hP okx)
    have PY := Lib.hid (fun W hT hP => planOkI (some ⟨g, 0, none⟩) (some ⟨wd.heap.size + 1, 0, none⟩) g 0 c (wd.heap.size + 1) 0 4 ts [tabS x, tabS y, joinS 0 1 ps, bothN 2 2] W hT OKT.out hP oky)
    have RX := Lib.hid (fun W hT hP => (planRowsI (some ⟨g, 0, none⟩) (some ⟨wd.heap.size, 0, none⟩) g 0 c wd.heap.size 0 4 ts [tabS x, tabS y, bothN 0 0, joinS 2 1 ps] W hT OKT.out hP okx).mono fun e w' h => retBagN h)
    have RY := Lib.hid (fun W hT hP => (planRowsI (some ⟨g, 0, none⟩) (some ⟨wd.heap.size + 1, 0, none⟩) g 0 c (wd.heap.size + 1) 0 4 ts [tabS x, tabS y, joinS 0 1 ps, bothN 2 2] W hT OKT.out hP oky).mono fun e w' h => retBagN h)
    obtain ⟨-, -, OX⟩ := prows_small ts [tabS x, tabS y, bothN 0 0, joinS 2 1 ps]
    obtain ⟨-, -, OY⟩ := prows_small ts [tabS x, tabS y, joinS 0 1 ps, bothN 2 2]
    have BB := Lib.hid (fun W g g' A B c c' hA hB => sameBagI A B g 0 g' 0 c c' (prowsI ts [tabS x, tabS y, bothN 0 0, joinS 2 1 ps]) (prowsI ts [tabS x, tabS y, joinS 0 1 ps, bothN 2 2]) W hA hB OX OY)
    rw [hbg] at BB
    rw [hpx] at PX
    rw [hpy] at PY
    clear hpx hpy hbg OX OY
    obtain ⟨zx, hzx⟩ : ∃ z, prowsI ts [tabS x, tabS y, bothN 0 0, joinS 2 1 ps] = z := ⟨_, rfl⟩
    obtain ⟨zy, hzy⟩ : ∃ z, prowsI ts [tabS x, tabS y, joinS 0 1 ps, bothN 2 2] = z := ⟨_, rfl⟩
    rw [hzx] at RX BB
    rw [hzy] at RY BB
    clear hzx hzy okx oky
    obtain ⟨X, hX⟩ : ∃ X, [tabS x, tabS y, bothN 0 0, joinS 2 1 ps] = X := ⟨_, rfl⟩
    obtain ⟨Y, hY⟩ : ∃ Y, [tabS x, tabS y, joinS 0 1 ps, bothN 2 2] = Y := ⟨_, rfl⟩
    have hX4 : X.length = 4 := by rw [← hX]; rfl
    have hY4 : Y.length = 4 := by rw [← hY]; rfl
    rw [hX] at PX RX SX
    rw [hY] at PY RY SY
    rw [hX4] at PX RX
    rw [hY4] at PY RY
    clear hX hY hX4 hY4
    go_wp2_with (first
      | ((have _ := S0); (fail_if_success (have _ := S1)); go_at_call 10; (with_reducible refine (PX.out _ (by repeat (with_reducible first | exact TB.out | apply Tbs.alloc)) (by repeat (with_reducible first | exact SX.out | apply Sps.alloc))).mono ?_); rintro e wn0 ⟨rfl, hb1⟩; have HBn : Hid (Below w.heap.size w wn0) := Below.trans (by repeat (with_reducible first | exact HB.out | refine Below.alloc ?_ (by first | omega | (have := HB.out.size; omega) | (simp; done) | (have := HB.out.size; simp; omega)) _ | apply Below.drew)) (Below.mono hb1 (by have := HB.out.size; first | omega | (simp; omega))); have K0 := Lib.hid (by first | exact TB.out.below hb1 | exact (TB.out.alloc _).below hb1 | exact ((TB.out.alloc _).alloc _).below hb1 | exact (TB.out.drew).below hb1); clear TB; have TB := K0; clear K0; have K0 := Lib.hid (by first | exact SX.out.below hb1 | exact (SX.out.alloc _).below hb1 | exact ((SX.out.alloc _).alloc _).below hb1 | exact (SX.out.drew).below hb1); clear SX; have SX := K0; clear K0; have K0 := Lib.hid (by first | exact SY.out.below hb1 | exact (SY.out.alloc _).below hb1 | exact ((SY.out.alloc _).alloc _).below hb1 | exact (SY.out.drew).below hb1); clear SY; have SY := K0; clear K0; clear HB; have HB := HBn; clear HBn; clear hb1; have S1 := True.intro)
      | ((have _ := S1); (fail_if_success (have _ := S2)); go_at_call 10; (with_reducible refine (PY.out _ TB.out SY.out).mono ?_); rintro e wn1 ⟨rfl, hb1⟩; have HBn : Hid (Below w.heap.size w wn1) := Below.trans (by repeat (with_reducible first | exact HB.out | refine Below.alloc ?_ (by first | omega | (have := HB.out.size; omega) | (simp; done) | (have := HB.out.size; simp; omega)) _ | apply Below.drew)) (Below.mono hb1 (by have := HB.out.size; first | omega | (simp; omega))); have K0 := Lib.hid (by first | exact TB.out.below hb1 | exact (TB.out.alloc _).below hb1 | exact ((TB.out.alloc _).alloc _).below hb1 | exact (TB.out.drew).below hb1); clear TB; have TB := K0; clear K0; have K0 := Lib.hid (by first | exact SX.out.below hb1 | exact (SX.out.alloc _).below hb1 | exact ((SX.out.alloc _).alloc _).below hb1 | exact (SX.out.drew).below hb1); clear SX; have SX := K0; clear K0; have K0 := Lib.hid (by first | exact SY.out.below hb1 | exact (SY.out.alloc _).below hb1 | exact ((SY.out.alloc _).alloc _).below hb1 | exact (SY.out.drew).below hb1); clear SY; have SY := K0; clear K0; clear HB; have HB := HBn; clear HBn; clear hb1; have S2 := True.intro)
      | ((have _ := S2); (fail_if_success (have _ := S3)); go_at_call 14; (with_reducible refine (RX.out _ TB.out SX.out).mono ?_); rintro e wn2 ⟨Ax, gx, cx, Tx, rfl, hc, hb1⟩; have HBn : Hid (Below w.heap.size w wn2) := Below.trans (by repeat (with_reducible first | exact HB.out | refine Below.alloc ?_ (by first | omega | (have := HB.out.size; omega) | (simp; done) | (have := HB.out.size; simp; omega)) _ | apply Below.drew)) (Below.mono hb1 (by have := HB.out.size; first | omega | (simp; omega))); have K0 := Lib.hid (by first | exact TB.out.below hb1 | exact (TB.out.alloc _).below hb1 | exact ((TB.out.alloc _).alloc _).below hb1 | exact (TB.out.drew).below hb1); clear TB; have TB := K0; clear K0; have K0 := Lib.hid (by first | exact SY.out.below hb1 | exact (SY.out.alloc _).below hb1 | exact ((SY.out.alloc _).alloc _).below hb1 | exact (SY.out.drew).below hb1); clear SY; have SY := K0; clear K0; clear HB; have HB := HBn; clear HBn; have VX := Lib.hid hc.rws; clear hc; clear hb1; have S3 := True.intro)
      | ((have _ := S3); (fail_if_success (have _ := S4)); go_at_call 14; (with_reducible refine (RY.out _ TB.out SY.out).mono ?_); rintro e wn3 ⟨Ay, gy, cy, Ty, rfl, hc, hb1⟩; have HBn : Hid (Below w.heap.size w wn3) := Below.trans (by repeat (with_reducible first | exact HB.out | refine Below.alloc ?_ (by first | omega | (have := HB.out.size; omega) | (simp; done) | (have := HB.out.size; simp; omega)) _ | apply Below.drew)) (Below.mono hb1 (by have := HB.out.size; first | omega | (simp; omega))); have K0 := Lib.hid (by first | exact VX.out.below hb1 | exact (VX.out.alloc _).below hb1 | exact ((VX.out.alloc _).alloc _).below hb1 | exact (VX.out.drew).below hb1); clear VX; have VX := K0; clear K0; clear HB; have HB := HBn; clear HBn; have VY := Lib.hid hc.rws; clear hc; clear hb1; have S4 := True.intro)
      | ((have _ := S4); (fail_if_success (have _ := S5)); go_at_call 17; (with_reducible refine (BB.out _ _ _ _ _ _ _ VX.out VY.out).mono ?_); rintro e wn4 ⟨rfl, hb1⟩; have HBn : Hid (Below w.heap.size w wn4) := Below.trans (by repeat (with_reducible first | exact HB.out | refine Below.alloc ?_ (by first | omega | (have := HB.out.size; omega) | (simp; done) | (have := HB.out.size; simp; omega)) _ | apply Below.drew)) (Below.mono hb1 (by have := HB.out.size; first | omega | (simp; omega))); clear HB; have HB := HBn; clear HBn; clear hb1; have S5 := True.intro)
      | ((have _ := S5); (fail_if_success (have _ := S6)); go_at_call 12; (with_reducible refine (alive _).mono ?_); rintro e wn5 ⟨rfl, hb1⟩; have HBn : Hid (Below w.heap.size w wn5) := Below.trans (by repeat (with_reducible first | exact HB.out | refine Below.alloc ?_ (by first | omega | (have := HB.out.size; omega) | (simp; done) | (have := HB.out.size; simp; omega)) _ | apply Below.drew)) (Below.mono hb1 (by have := HB.out.size; first | omega | (simp; omega))); clear HB; have HB := HBn; clear HBn; clear hb1; have S6 := True.intro))
    all_goals (go_ret; exact ⟨rfl, HB.out⟩)
end Go.Proofs.Ytcgjnilkbdamjab.Val
