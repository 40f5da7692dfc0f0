/- The walk of the law FnWholeJoinTurned. -/
import Derived.Test.YtmkpnkpjillljaaStpN
import Derived.Test.YtmkpnkpjillljaaBag
import Derived.Test.YtmkpnkpjillljaaEXM
import Derived.Test.YtmkpnkpjillljaaAlive
namespace Go.Proofs.Ytmkpnkpjillljaa.Val
open Go.RowKit
set_option linter.unusedSimpArgs false
set_option linter.unusedVariables false
set_option maxRecDepth 20000
set_option maxHeartbeats 8000000 in
theorem walk_FnWholeJoinTurned (a : Option Addr) (len cap : Nat) (zs : List Int) (w : World) (h : IsRow .u8 w a len cap zs) :
    Calls Try.prog 3 #[.slice a len cap] w fun e w' => e = .returned (.bool true) ∧ Below w.heap.size w w' := by
  by_cases hl : 1048576 < len
  · clear h
    go_enter Try.func3, Try.ntmps3
    go_wp2
    go_ret
    exact ⟨rfl, Below.refl _ _⟩
  · have HI := Lib.hid h
    clear h
    obtain ⟨i0, hi, iz0, iz1, iz2⟩ := info_parts infoC
    go_enter Try.func3, Try.ntmps3
    go_wp2_with (go_at_call 10; (with_reducible refine (drawBeginnings _ _ _ zs _ HI.out).mono ?_); rintro e wd ⟨ts, x, y, ps, g, c, g3, c3, rfl, hn, hxy, hps, hone, hrun, htp, htb, hcap, hfp, hcp, hbd⟩; have TB := Lib.hid htb; have HB := Lib.hid hbd; have ONE := Lib.hid hone; have HRUN := Lib.hid hrun; have HTP := Lib.hid htp; have FE := Lib.hid hfp; clear hbd htb hone hrun htp hfp)
    have S0 := True.intro
    have OKT := Lib.hid (ones_ok ONE.out hn.2)
    have hix : inB (x : Int) ts.length = true := by simp [inB]; omega
    have hiy : inB (y : Int) ts.length = true := by simp [inB]; omega
    have hkk : kindI (tcol ts (x : Int) ++ tcol ts (y : Int)) ps = 3 := ones_kind ONE.out hxy.1 hxy.2 (by omega) (HRUN.out hxy.1 hxy.2 [])
    obtain ⟨ex, ex1⟩ := ones_col ONE.out hxy.1
    obtain ⟨ey, ey1⟩ := ones_col ONE.out hxy.2
    obtain ⟨hpx, hpy, hbg⟩ := whole_joined (ones_tables ONE.out hn.2) hix hiy ex1 ey1 hkk
    have hmv := mov_two (x := tcol ts (x : Int)) (y := tcol ts (y : Int)) ex1 ey1 hkk
    rw [hmv] at hpy hbg
    obtain ⟨cx, hcx⟩ := List.length_eq_one_iff.1 ex1
    obtain ⟨cy, hcy⟩ := List.length_eq_one_iff.1 ey1
    rw [hcx, hcy] at hmv
    simp only [List.cons_append, List.nil_append] at hmv
    have HMV := Lib.hid hmv
    obtain ⟨-, hgw, A1, c1, g1, o1, -, -, -, -, tx0, -, tx1, -, -, -, hni1, -⟩ := TB.out.at x hxy.1
    obtain ⟨-, -, A2, c2, g2, o2, -, -, -, -, ty0, -, ty1, -, -, -, hni2, -⟩ := TB.out.at y hxy.2
    rw [← ex, hcx] at tx0 tx1
    rw [← ey, hcy] at ty0 ty1
    obtain rfl := tx1.ad (by simp [flatC])
    obtain rfl := ty1.ad (by simp [flatC])
    have FX := Lib.hid tx1
    have FY := Lib.hid ty1
    simp only [Nat.zero_add, List.length_singleton] at tx0 ty0
    clear tx1 ty1 hmv hix hiy hkk ex ey hcx hcy hni1 hni2
    have x0' : (0 : Int) ≤ (x : Int) := by omega
    have y0' : (0 : Int) ≤ (y : Int) := by omega
    have x1' : (x : Int) < (ts.length : Int) := by omega
    have y1' : (y : Int) < (ts.length : Int) := by omega
    go_upto_region 5 with fail
    have SX : Hid (Sps (wd.alloc (.cells #[.int .i64 1, .int .i64 0, .int .i64 0, .int .i64 (x : Int), .slice none 0 0, .slice none 0 0, .int .i64 1, .int .i64 0, .int .i64 0, .int .i64 (y : Int), .slice none 0 0, .slice none 0 0, .int .i64 4, .int .i64 0, .int .i64 1, .int .i64 0, .slice (some ⟨g3, 0, none⟩) ps.length c3, .slice none 0 0] 29)) wd.heap.size 0 (some ⟨wd.heap.size, 0, none⟩) [tabS (x : Int), tabS (y : Int), joinS 0 1 ps]) := sps_gen [(tabS x, cellsS (tabS x)), (tabS y, cellsS (tabS y)), (joinS 0 1 ps, [.int .i64 4, .int .i64 0, .int .i64 1, .int .i64 0, .slice (some ⟨g3, 0, none⟩) ps.length c3, .slice none 0 0])] (by intro p hp; simp only [List.mem_cons, List.not_mem_nil, or_false] at hp; rcases hp with rfl | rfl | rfl <;> first | exact cells_bare ⟨rfl, rfl⟩ | exact cells_expr rfl (FE.out.alloc _) rfl hcp.1) (news_new rfl)
    have hba : Below wd.heap.size wd (wd.alloc (.cells #[.int .i64 1, .int .i64 0, .int .i64 0, .int .i64 (x : Int), .slice none 0 0, .slice none 0 0, .int .i64 1, .int .i64 0, .int .i64 0, .int .i64 (y : Int), .slice none 0 0, .slice none 0 0, .int .i64 4, .int .i64 0, .int .i64 1, .int .i64 0, .slice (some ⟨g3, 0, none⟩) ps.length c3, .slice none 0 0] 29)) := (Below.refl _ _).alloc (Nat.le_refl _) _
    have hz0 : (wd.alloc (.cells #[.int .i64 1, .int .i64 0, .int .i64 0, .int .i64 (x : Int), .slice none 0 0, .slice none 0 0, .int .i64 1, .int .i64 0, .int .i64 0, .int .i64 (y : Int), .slice none 0 0, .slice none 0 0, .int .i64 4, .int .i64 0, .int .i64 1, .int .i64 0, .slice (some ⟨g3, 0, none⟩) ps.length c3, .slice none 0 0] 29)).heap.size = wd.heap.size + 1 := by simp
    obtain ⟨wa, hwa⟩ : ∃ W, wd.alloc (.cells #[.int .i64 1, .int .i64 0, .int .i64 0, .int .i64 (x : Int), .slice none 0 0, .slice none 0 0, .int .i64 1, .int .i64 0, .int .i64 0, .int .i64 (y : Int), .slice none 0 0, .slice none 0 0, .int .i64 4, .int .i64 0, .int .i64 1, .int .i64 0, .slice (some ⟨g3, 0, none⟩) ps.length c3, .slice none 0 0] 29) = W := ⟨_, rfl⟩
    rw [hwa] at SX hba hz0 ⊢
    have HZ0 := Lib.hid hz0
    clear hwa hz0
    have HBA0 := Lib.hid hba
    have eb0 := (hba.cell (p := ⟨g, x * 2, none⟩) hgw).trans tx0
    have eb := (hba.cell (p := ⟨g, y * 2, none⟩) hgw).trans ty0
    have FXA := Lib.hid (FX.out.below hba)
    have FYA := Lib.hid (FY.out.below hba)
    have hgl : g < wa.heap.size := by have := HZ0.out; omega
    clear hba tx0 ty0 FX FY
    go_cut [8] from 28 to 72 (fun vx wx => ∃ gB cB : Nat, vx = .slice (some ⟨gB, 0, none⟩) 2 cB ∧ Fl wx gB 0 (some ⟨gB, 0, none⟩) (flatC [cx, cy]) ∧ (2 ≤ cB ∧ cB ≤ maxLen) ∧ Below wa.heap.size wa wx)
    case first =>
      go_region_law (first
        | ((fail_if_success (have _ := OA)); (refine step_block rfl (.tmp 28) (.tmp 33) 31 rfl wa.heap.size 47 i0 (.agg #[.int .i64 0, .bool false]) 2 16 Try.underlying31 hi iz0 iz1 iz2 rfl (by decide) wa.heap.size 0 0 [] rfl (by repeat (with_reducible first | exact own_empty3 47 2 (by first | rfl | simp) (by first | omega | (simp; done) | (simp; omega)) | apply World.ownsRow.alloc | apply own_drew)) _ _ _ (flatC [cx]) rfl rfl (news_flo (by repeat (with_reducible first | exact FXA.out | apply Fl.alloc | apply Fl.drew))) (one_flatC _) (by unfold maxLen; omega) (by omega) (by first | omega | (simp; done) | (simp; omega)) ?_); intro gA cA wA hown hgr hgg; (try simp only [Nat.zero_add, List.nil_append] at hown ⊢); have HBA := Lib.hid (Below.grown (show Below wa.heap.size wa _ from by repeat (with_reducible first | exact Below.refl _ _ | apply Below.drew | refine Below.alloc ?_ (by first | omega | (simp; done) | (simp; omega)) _)) hgr (by first | omega | (simp; done) | (simp; omega)) (fun k hk => by obtain rfl := Option.some.inj hk; omega)); have ebA := (HBA.out.cell (p := ⟨g, y * 2, none⟩) hgl).trans eb; have hcA := own_caps hown; have hlA := hown.lt gA rfl; have OA := Lib.hid hown; clear hown hgr hgg)
        | ((have _ := OA); (refine step_block rfl (.tmp 34) (.tmp 39) 31 rfl wa.heap.size 47 i0 (.agg #[.int .i64 0, .bool false]) 2 16 Try.underlying31 hi iz0 iz1 iz2 rfl (by decide) gA 1 cA (flatC [cx]) rfl (by repeat (with_reducible first | exact OA.out | apply World.ownsRow.alloc | apply own_drew)) _ _ _ (flatC [cy]) rfl rfl (news_flo (by repeat (with_reducible first | exact FYA.out.below HBA.out | apply Fl.alloc | apply Fl.drew))) (one_flatC _) (by unfold maxLen; omega) (by omega) (by first | omega | (simp; done) | (simp; omega)) ?_); intro gB cB wB hown hgr hgg; have HBC := Lib.hid (Below.grown (show Below wa.heap.size wa _ from by repeat (with_reducible first | exact HBA.out | apply Below.drew | refine Below.alloc ?_ (by first | omega | (simp; done) | (simp; omega)) _)) hgr (by first | omega | (simp; done) | (simp; omega)) (fun k hk => by obtain rfl := Option.some.inj hk; omega)); have hcB := own_caps hown; have OB := Lib.hid hown; clear hown hgr hgg))
      all_goals go_wp2
      all_goals go_meet
      all_goals exact ⟨gB, cB, rfl, fl_sliceB OB.out, hcB, HBC.out⟩
    case rest =>
      obtain ⟨gB, cB, rfl, flB, hcB, hbB⟩ := hcut
      have FLB := Lib.hid flB
      have HBD := Lib.hid (HBA0.out.trans (hbB.mono HBA0.out.size))
      have SXc := Lib.hid (SX.out.below hbB)
      have hzB := HBD.out.size
      clear flB hbB SX HBA0 eb eb0 FXA FYA
      have CM := Lib.hid (fun W h1 h2 h3 => exprMovedI (some ⟨gB, 0, none⟩) (some ⟨g3, 0, none⟩) (some ⟨wc.heap.size, 0, none⟩) gB 0 cB g3 0 c3 wc.heap.size 0 2 [cx, cy] ps [1, 0] W h1 h2 h3 (by simp) (by omega) (by simp) HTP.out.short)
      rw [HMV.out, show [cx, cy].length = 2 from rfl, show ([1, 0] : List Int).length = 2 from rfl] at CM
      go_upto_region 7 with (go_at_call 11; (with_reducible refine (CM.out _ (FLB.out.alloc _) ((FE.out.below HBD.out).alloc _) (fl_lit (C := #[.int .i64 1, .int .i64 0]) (e := 3) rfl)).mono ?_); rintro e w6 ⟨v6, rfl, own6, hb6⟩; obtain ⟨gi, ci, rfl⟩ := own_sliceX own6 (by rw [List.length_map]; omega); have hci := own_caps own6; have FI := Lib.hid (fl_sliceB own6); have HB6 := Lib.hid (Below.trans (show Below wd.heap.size wd _ from HBD.out.alloc hzB _) (hb6.mono (by simp; omega))); have SX6 := Lib.hid ((SXc.out.alloc _).below hb6); clear own6 hb6)
      rw [List.length_map] at hci
      have hz6 := HB6.out.size
      have SY : Hid (Sps ((w6.alloc (.cells #[.int .i64 1, .int .i64 0] 3)).alloc (.cells #[.int .i64 1, .int .i64 0, .int .i64 0, .int .i64 (y : Int), .slice none 0 0, .slice none 0 0, .int .i64 1, .int .i64 0, .int .i64 0, .int .i64 (x : Int), .slice none 0 0, .slice none 0 0, .int .i64 4, .int .i64 0, .int .i64 1, .int .i64 0, .slice (some ⟨gi, 0, none⟩) ps.length ci, .slice none 0 0, .int .i64 3, .int .i64 2, .int .i64 0, .int .i64 0, .slice none 0 0, .slice (some ⟨w6.heap.size, 0, none⟩) 2 2] 29)) (w6.heap.size + 1) 0 (some ⟨w6.heap.size + 1, 0, none⟩) [tabS (y : Int), tabS (x : Int), joinS 0 1 (ps.map (mvP [1, 0])), takeS 2 [1, 0]]) := sps_gen [(tabS y, cellsS (tabS y)), (tabS x, cellsS (tabS x)), (joinS 0 1 (ps.map (mvP [1, 0])), [.int .i64 4, .int .i64 0, .int .i64 1, .int .i64 0, .slice (some ⟨gi, 0, none⟩) ps.length ci, .slice none 0 0]), (takeS 2 [1, 0], [.int .i64 3, .int .i64 2, .int .i64 0, .int .i64 0, .slice none 0 0, .slice (some ⟨w6.heap.size, 0, none⟩) 2 2])] (by intro p hp; simp only [List.mem_cons, List.not_mem_nil, or_false] at hp; rcases hp with rfl | rfl | rfl | rfl <;> first | exact cells_bare ⟨rfl, rfl⟩ | exact cells_expr rfl ((FI.out.alloc _).alloc _) (by simp [joinS]) hci.1 | exact cells_list rfl ((fl_lit (C := #[.int .i64 1, .int .i64 0]) (e := 3) rfl).alloc _) rfl (Nat.le_refl _)) (news_new (by simp))
      have SXe := Lib.hid ((SX6.out.alloc (.cells #[.int .i64 1, .int .i64 0] 3)).alloc (.cells #[.int .i64 1, .int .i64 0, .int .i64 0, .int .i64 (y : Int), .slice none 0 0, .slice none 0 0, .int .i64 1, .int .i64 0, .int .i64 0, .int .i64 (x : Int), .slice none 0 0, .slice none 0 0, .int .i64 4, .int .i64 0, .int .i64 1, .int .i64 0, .slice (some ⟨gi, 0, none⟩) ps.length ci, .slice none 0 0, .int .i64 3, .int .i64 2, .int .i64 0, .int .i64 0, .slice none 0 0, .slice (some ⟨w6.heap.size, 0, none⟩) 2 2] 29))
      have TBe := Lib.hid (((TB.out.below HB6.out).alloc (.cells #[.int .i64 1, .int .i64 0] 3)).alloc (.cells #[.int .i64 1, .int .i64 0, .int .i64 0, .int .i64 (y : Int), .slice none 0 0, .slice none 0 0, .int .i64 1, .int .i64 0, .int .i64 0, .int .i64 (x : Int), .slice none 0 0, .slice none 0 0, .int .i64 4, .int .i64 0, .int .i64 1, .int .i64 0, .slice (some ⟨gi, 0, none⟩) ps.length ci, .slice none 0 0, .int .i64 3, .int .i64 2, .int .i64 0, .int .i64 0, .slice none 0 0, .slice (some ⟨w6.heap.size, 0, none⟩) 2 2] 29))
      have HBe : Hid (Below w.heap.size w ((w6.alloc (.cells #[.int .i64 1, .int .i64 0] 3)).alloc (.cells #[.int .i64 1, .int .i64 0, .int .i64 0, .int .i64 (y : Int), .slice none 0 0, .slice none 0 0, .int .i64 1, .int .i64 0, .int .i64 0, .int .i64 (x : Int), .slice none 0 0, .slice none 0 0, .int .i64 4, .int .i64 0, .int .i64 1, .int .i64 0, .slice (some ⟨gi, 0, none⟩) ps.length ci, .slice none 0 0, .int .i64 3, .int .i64 2, .int .i64 0, .int .i64 0, .slice none 0 0, .slice (some ⟨w6.heap.size, 0, none⟩) 2 2] 29))) := ((HB.out.trans (HB6.out.mono HB.out.size)).alloc (by have := HB.out.size; omega) _).alloc (by have := HB.out.size; simp; omega) _
      go_upto_region 8 with fail
      obtain ⟨we, hwe⟩ : ∃ W, ((w6.alloc (.cells #[.int .i64 1, .int .i64 0] 3)).alloc (.cells #[.int .i64 1, .int .i64 0, .int .i64 0, .int .i64 (y : Int), .slice none 0 0, .slice none 0 0, .int .i64 1, .int .i64 0, .int .i64 0, .int .i64 (x : Int), .slice none 0 0, .slice none 0 0, .int .i64 4, .int .i64 0, .int .i64 1, .int .i64 0, .slice (some ⟨gi, 0, none⟩) ps.length ci, .slice none 0 0, .int .i64 3, .int .i64 2, .int .i64 0, .int .i64 0, .slice none 0 0, .slice (some ⟨w6.heap.size, 0, none⟩) 2 2] 29)) = W := ⟨_, rfl⟩
      rw [hwe] at SY SXe TBe HBe ⊢
      clear hwe SX6 SXc TB HB HB6 HBD FI FE FLB CM
      have TB := TBe
      have HB := HBe
      have SX := SXe
      clear TBe HBe SXe
      have okx : OkS [tabS (x : Int), tabS (y : Int), joinS 0 1 ps] := okS_expr HTP.out (by omega) (by intro s hs; simp at hs; rcases hs with rfl | rfl | rfl <;> simp [tabS, bothN, joinS]) (by simp)
      have oky : OkS [tabS (y : Int), tabS (x : Int), joinS 0 1 (ps.map (mvP [1, 0])), takeS 2 [1, 0]] := okS_expr (mv_texts HTP.out) (by rw [List.length_map]; omega) (by intro s hs; simp at hs; rcases hs with rfl | rfl | rfl | rfl <;> first | exact ⟨.inr rfl, Nat.zero_le _⟩ | (simp [tabS, bothN, joinS, takeS]; done)) (by simp)
      have PX := Lib.hid (fun W hT hP => planOkI (some ⟨g, 0, none⟩) (some ⟨wd.heap.size, 0, none⟩) g 0 c wd.heap.size 0 3 ts [tabS (x : Int), tabS (y : Int), joinS 0 1 ps] W hT OKT.out hP okx)
      have PY := Lib.hid (fun W hT hP => planOkI (some ⟨g, 0, none⟩) (some ⟨w6.heap.size + 1, 0, none⟩) g 0 c (w6.heap.size + 1) 0 4 ts [tabS (y : Int), tabS (x : Int), joinS 0 1 (ps.map (mvP [1, 0])), takeS 2 [1, 0]] W hT OKT.out hP oky)
      have RX := Lib.hid (fun W hT hP => (planRowsI (some ⟨g, 0, none⟩) (some ⟨wd.heap.size, 0, none⟩) g 0 c wd.heap.size 0 3 ts [tabS (x : Int), tabS (y : Int), joinS 0 1 ps] W hT OKT.out hP okx).mono fun e w' h => retBagN h)
      have RY := Lib.hid (fun W hT hP => (planRowsI (some ⟨g, 0, none⟩) (some ⟨w6.heap.size + 1, 0, none⟩) g 0 c (w6.heap.size + 1) 0 4 ts [tabS (y : Int), tabS (x : Int), joinS 0 1 (ps.map (mvP [1, 0])), takeS 2 [1, 0]] W hT OKT.out hP oky).mono fun e w' h => retBagN h)
      obtain ⟨-, -, OX⟩ := prows_small ts [tabS (x : Int), tabS (y : Int), joinS 0 1 ps]
      obtain ⟨-, -, OY⟩ := prows_small ts [tabS (y : Int), tabS (x : Int), joinS 0 1 (ps.map (mvP [1, 0])), takeS 2 [1, 0]]
      have BB := Lib.hid (fun W g g' A B c c' hA hB => sameBagI A B g 0 g' 0 c c' (prowsI ts [tabS (x : Int), tabS (y : Int), joinS 0 1 ps]) (prowsI ts [tabS (y : Int), tabS (x : Int), joinS 0 1 (ps.map (mvP [1, 0])), takeS 2 [1, 0]]) W hA hB OX OY)
      rw [hbg] at BB
      rw [hpx] at PX
      rw [hpy] at PY
      clear hpx hpy hbg OX OY
      obtain ⟨zx, hzx⟩ : ∃ z, prowsI ts [tabS (x : Int), tabS (y : Int), joinS 0 1 ps] = z := ⟨_, rfl⟩
      obtain ⟨zy, hzy⟩ : ∃ z, prowsI ts [tabS (y : Int), tabS (x : Int), joinS 0 1 (ps.map (mvP [1, 0])), takeS 2 [1, 0]] = z := ⟨_, rfl⟩
      rw [hzx] at RX BB
      rw [hzy] at RY BB
      clear hzx hzy okx oky
      obtain ⟨X, hX⟩ : ∃ X, [tabS (x : Int), tabS (y : Int), joinS 0 1 ps] = X := ⟨_, rfl⟩
      obtain ⟨Y, hY⟩ : ∃ Y, [tabS (y : Int), tabS (x : Int), joinS 0 1 (ps.map (mvP [1, 0])), takeS 2 [1, 0]] = Y := ⟨_, rfl⟩
      have hX4 : X.length = 3 := by rw [← hX]; rfl
      have hY4 : Y.length = 4 := by rw [← hY]; rfl
      rw [hX] at PX RX SX
      rw [hY] at PY RY SY
      rw [hX4] at PX RX
      rw [hY4] at PY RY
      clear hX hY hX4 hY4
      go_wp2_with (first
        | ((have _ := S0); (fail_if_success (have _ := S1)); go_at_call 12; (with_reducible refine (PX.out _ TB.out SX.out).mono ?_); rintro e wn0 ⟨rfl, hb1⟩; have HBn : Hid (Below w.heap.size w wn0) := Below.trans (by repeat (with_reducible first | exact HB.out | refine Below.alloc ?_ (by first | omega | (have := HB.out.size; omega) | (simp; done) | (have := HB.out.size; simp; omega)) _ | apply Below.drew)) (Below.mono hb1 (by have := HB.out.size; first | omega | (simp; omega))); have K0 := Lib.hid (by first | exact TB.out.below hb1 | exact (TB.out.alloc _).below hb1 | exact ((TB.out.alloc _).alloc _).below hb1 | exact (TB.out.drew).below hb1); clear TB; have TB := K0; clear K0; have K0 := Lib.hid (by first | exact SX.out.below hb1 | exact (SX.out.alloc _).below hb1 | exact ((SX.out.alloc _).alloc _).below hb1 | exact (SX.out.drew).below hb1); clear SX; have SX := K0; clear K0; have K0 := Lib.hid (by first | exact SY.out.below hb1 | exact (SY.out.alloc _).below hb1 | exact ((SY.out.alloc _).alloc _).below hb1 | exact (SY.out.drew).below hb1); clear SY; have SY := K0; clear K0; clear HB; have HB := HBn; clear HBn; clear hb1; have S1 := True.intro)
        | ((have _ := S1); (fail_if_success (have _ := S2)); go_at_call 12; (with_reducible refine (PY.out _ TB.out SY.out).mono ?_); rintro e wn1 ⟨rfl, hb1⟩; have HBn : Hid (Below w.heap.size w wn1) := Below.trans (by repeat (with_reducible first | exact HB.out | refine Below.alloc ?_ (by first | omega | (have := HB.out.size; omega) | (simp; done) | (have := HB.out.size; simp; omega)) _ | apply Below.drew)) (Below.mono hb1 (by have := HB.out.size; first | omega | (simp; omega))); have K0 := Lib.hid (by first | exact TB.out.below hb1 | exact (TB.out.alloc _).below hb1 | exact ((TB.out.alloc _).alloc _).below hb1 | exact (TB.out.drew).below hb1); clear TB; have TB := K0; clear K0; have K0 := Lib.hid (by first | exact SX.out.below hb1 | exact (SX.out.alloc _).below hb1 | exact ((SX.out.alloc _).alloc _).below hb1 | exact (SX.out.drew).below hb1); clear SX; have SX := K0; clear K0; have K0 := Lib.hid (by first | exact SY.out.below hb1 | exact (SY.out.alloc _).below hb1 | exact ((SY.out.alloc _).alloc _).below hb1 | exact (SY.out.drew).below hb1); clear SY; have SY := K0; clear K0; clear HB; have HB := HBn; clear HBn; clear hb1; have S2 := True.intro)
        | ((have _ := S2); (fail_if_success (have _ := S3)); go_at_call 14; (with_reducible refine (RX.out _ TB.out SX.out).mono ?_); rintro e wn2 ⟨Ax, gx, kx, Tx, rfl, hc, hb1⟩; have HBn : Hid (Below w.heap.size w wn2) := Below.trans (by repeat (with_reducible first | exact HB.out | refine Below.alloc ?_ (by first | omega | (have := HB.out.size; omega) | (simp; done) | (have := HB.out.size; simp; omega)) _ | apply Below.drew)) (Below.mono hb1 (by have := HB.out.size; first | omega | (simp; omega))); have K0 := Lib.hid (by first | exact TB.out.below hb1 | exact (TB.out.alloc _).below hb1 | exact ((TB.out.alloc _).alloc _).below hb1 | exact (TB.out.drew).below hb1); clear TB; have TB := K0; clear K0; have K0 := Lib.hid (by first | exact SY.out.below hb1 | exact (SY.out.alloc _).below hb1 | exact ((SY.out.alloc _).alloc _).below hb1 | exact (SY.out.drew).below hb1); clear SY; have SY := K0; clear K0; clear HB; have HB := HBn; clear HBn; have VX := Lib.hid hc.rws; clear hc; clear hb1; have S3 := True.intro)
        | ((have _ := S3); (fail_if_success (have _ := S4)); go_at_call 14; (with_reducible refine (RY.out _ TB.out SY.out).mono ?_); rintro e wn3 ⟨Ay, gy, ky, Ty, rfl, hc, hb1⟩; have HBn : Hid (Below w.heap.size w wn3) := Below.trans (by repeat (with_reducible first | exact HB.out | refine Below.alloc ?_ (by first | omega | (have := HB.out.size; omega) | (simp; done) | (have := HB.out.size; simp; omega)) _ | apply Below.drew)) (Below.mono hb1 (by have := HB.out.size; first | omega | (simp; omega))); have K0 := Lib.hid (by first | exact VX.out.below hb1 | exact (VX.out.alloc _).below hb1 | exact ((VX.out.alloc _).alloc _).below hb1 | exact (VX.out.drew).below hb1); clear VX; have VX := K0; clear K0; clear HB; have HB := HBn; clear HBn; have VY := Lib.hid hc.rws; clear hc; clear hb1; have S4 := True.intro)
        | ((have _ := S4); (fail_if_success (have _ := S5)); go_at_call 13; (with_reducible refine (BB.out _ _ _ _ _ _ _ VX.out VY.out).mono ?_); rintro e wn4 ⟨rfl, hb1⟩; have HBn : Hid (Below w.heap.size w wn4) := Below.trans (by repeat (with_reducible first | exact HB.out | refine Below.alloc ?_ (by first | omega | (have := HB.out.size; omega) | (simp; done) | (have := HB.out.size; simp; omega)) _ | apply Below.drew)) (Below.mono hb1 (by have := HB.out.size; first | omega | (simp; omega))); clear HB; have HB := HBn; clear HBn; clear hb1; have S5 := True.intro)
        | ((have _ := S5); (fail_if_success (have _ := S6)); go_at_call 15; (with_reducible refine (alive _).mono ?_); rintro e wn5 ⟨rfl, hb1⟩; have HBn : Hid (Below w.heap.size w wn5) := Below.trans (by repeat (with_reducible first | exact HB.out | refine Below.alloc ?_ (by first | omega | (have := HB.out.size; omega) | (simp; done) | (have := HB.out.size; simp; omega)) _ | apply Below.drew)) (Below.mono hb1 (by have := HB.out.size; first | omega | (simp; omega))); clear HB; have HB := HBn; clear HBn; clear hb1; have S6 := True.intro))
      all_goals (go_ret; exact ⟨rfl, HB.out⟩)
end Go.Proofs.Ytmkpnkpjillljaa.Val
