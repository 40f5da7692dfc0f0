/- The walk of the law FnPlanColumns. -/
import Derived.Test.YtacinjbaebimhaaStpNQ
import Derived.Test.YtacinjbaebimhaaDrawAsQ
import Derived.Test.YtacinjbaebimhaaAliveQ
import Derived.BigQuiet
namespace Go.Proofs.Ytacinjbaebimhaa.Val
open Go.RowKit
set_option linter.unusedSimpArgs false
set_option linter.unusedVariables false
set_option maxRecDepth 20000
theorem plan_rowsB (tb : List TB) (p : List SP) : rowsB (pcolsI tb p) (prowsI tb p) = true := by
  cases h : planB tb p with
  | true => exact (plan_fits h).1
  | false => rw [(plan_none h).1, (plan_none h).2]; rfl
theorem plan_cols4 (tb : List TB) (p : List SP) : (pcolsI tb p).length ≤ 4 := (colB_iff.1 (rowsB_iff.1 (plan_rowsB tb p)).1).1
set_option maxHeartbeats 8000000 in
theorem walk_FnPlanColumns (a : Option Addr) (len cap : Nat) (zs : List Int) (w : World) (h : IsRow .u8 w a len cap zs) :
    Calls Try.prog 4 #[.slice a len cap] w fun e w' => e = .returned (.bool true) ∧ Below w.heap.size w w' := by
  by_cases hl : 1048576 < len
  · clear h
    go_enter Try.func4, Try.ntmps4
    go_wp2
    go_ret
    exact ⟨rfl, Below.refl _ _⟩
  · have HI := Lib.hid h
    clear h
    go_enter Try.func4, Try.ntmps4
    go_wp2_with (go_at_call 15; (with_reducible refine (drawPlanColumns _ _ _ zs _ HI.out).mono ?_); rintro e wd ⟨gt, ct, gp, cp, ts, ps, rfl, htb, hok, hts, hct, hsp, hsf, hpl, hcp, hbd⟩; have TBW := Lib.hid htb; have OKT := Lib.hid hok; have SPW := Lib.hid hsp; have SF := Lib.hid hsf; have HB := Lib.hid hbd; clear htb hok hsp hsf hbd)
    have OKS := Lib.hid (okS_fit (by omega) SF.out)
    have CI := Lib.hid (fun W h1 h2 => planColumnsI (some ⟨gt, 0, none⟩) (some ⟨gp, 0, none⟩) gt 0 ct gp 0 cp ts ps W h1 OKT.out h2 OKS.out)
    have CS := Lib.hid (fun W h1 h2 => planColumnsS (some ⟨gt, 0, none⟩) (some ⟨gp, 0, none⟩) gt 0 ct gp 0 cp ts ps W h1 OKT.out h2 OKS.out)
    have RI := Lib.hid (fun W h1 h2 => (planRowsI (some ⟨gt, 0, none⟩) (some ⟨gp, 0, none⟩) gt 0 ct gp 0 cp ts ps W h1 OKT.out h2 OKS.out).mono fun e w' h => retBagN h)
    have hrb := plan_rowsB ts ps
    have hcb := (rowsB_iff.1 hrb).1
    have h4 := plan_cols4 ts ps
    obtain ⟨-, -, OX⟩ := prows_small ts ps
    obtain ⟨cs, hcs⟩ : ∃ c, pcolsI ts ps = c := ⟨_, rfl⟩
    obtain ⟨rs, hrs⟩ : ∃ c, prowsI ts ps = c := ⟨_, rfl⟩
    rw [hcs] at CI CS hrb hcb h4
    rw [hrs] at RI hrb OX
    clear hcs hrs
    have KC := Lib.hid (fun W g A c (h : Fl W g 0 A (flatC cs)) => columnsOkI A g 0 c cs W h (by omega))
    have KR := Lib.hid (fun W g A c gB B cB h1 h2 => rowsOkI A B g 0 gB 0 c cB cs rs W h1 h2 (by omega) OX)
    rw [hcb] at KC
    rw [hrb] at KR
    clear hcb hrb OX
    have HBD := Lib.hid (Below.refl wd.heap.size wd)
    go_wp2_with (first
      | (go_at_call 16; (with_reducible refine (CI.out _ (TBW.out.below HBD.out) (SPW.out.below HBD.out)).mono ?_); rintro e w1 ⟨A1, g1, c1, rfl, hf1, hb⟩; have F1 := Lib.hid hf1.fl; have HBn := Lib.hid (Below.trans (show Below wd.heap.size wd _ from (by repeat (with_reducible first | exact HBD.out | apply Below.drew | refine Below.alloc ?_ (by have := HBD.out.size; first | omega | (simp; done) | (simp; omega)) _))) (hb.mono (by have := HBD.out.size; first | omega | (simp; done) | (simp; omega)))); clear hf1; clear HBD hb; have HBD := HBn; clear HBn)
      | (go_at_call 17; (with_reducible refine (CS.out _ (TBW.out.below HBD.out) (SPW.out.below HBD.out)).mono ?_); rintro e w2 ⟨g2, c2, rfl, hf2, hb⟩; have F1n := Lib.hid (F1.out.below hb); clear F1; have F1 := F1n; clear F1n; have F2 := Lib.hid hf2.fl; have HBn := Lib.hid (Below.trans (show Below wd.heap.size wd _ from (by repeat (with_reducible first | exact HBD.out | apply Below.drew | refine Below.alloc ?_ (by have := HBD.out.size; first | omega | (simp; done) | (simp; omega)) _))) (hb.mono (by have := HBD.out.size; first | omega | (simp; done) | (simp; omega)))); clear hf2; clear HBD hb; have HBD := HBn; clear HBn))
    go_loopw [7] (fun kx wr => ∃ (k : Nat), k ≤ cs.length ∧ kx = .int .i64 (k : Int) ∧ Hid (Below wd.heap.size wd wr) ∧ Hid (Fl wr g1 0 A1 (flatC cs)) ∧ Hid (Fl wr g2 0 (some ⟨g2, 0, none⟩) (flatC cs))) (fun kx _ => cs.length - (intOf kx).toNat)
    case atStart => exact ⟨0, by omega, rfl, HBD, F1, F2⟩
    case round =>
      clear HBD F1 F2 CI CS
      obtain ⟨k, hkn, rfl, HBD, F1, F2⟩ := hrel
      by_cases hk : k < cs.length
      · obtain ⟨rfl, hg1, a0, a1⟩ := F1.out.cl k hk
        obtain ⟨-, hg2, b0, b1⟩ := F2.out.cl k hk
        have i0' : (0 : Int) ≤ (k : Int) := by omega
        have i1' : (k : Int) < (cs.length : Int) := by omega
        simp only [Nat.zero_add] at a0 a1 b0 b1
        go_wp2
        go_quiet (fail)
        go_wp2
        exact ⟨⟨k + 1, by omega, by go_num, below_drewN HBD.out _, F1.out.below (below_drewN (Below.refl _ _) _), F2.out.below (below_drewN (Below.refl _ _) _)⟩, by simp [intOf]; omega⟩
      · go_wp2_with (first
          | (go_at_call 18; (with_reducible refine (KC.out _ g1 A1 c1 F1.out).mono ?_); rintro e w3 ⟨rfl, rfl⟩)
          | (go_at_call 20; (with_reducible refine (RI.out _ (TBW.out.below HBD.out) (SPW.out.below HBD.out)).mono ?_); rintro e w4 ⟨Ax, gx, cx, Tx, rfl, hc, hb⟩; have F1n := Lib.hid (F1.out.below hb); clear F1; have F1 := F1n; clear F1n; have VX := Lib.hid hc.rws; have HBn := Lib.hid (Below.trans (show Below wd.heap.size wd _ from (by repeat (with_reducible first | exact HBD.out | apply Below.drew | refine Below.alloc ?_ (by have := HBD.out.size; first | omega | (simp; done) | (simp; omega)) _))) (hb.mono (by have := HBD.out.size; first | omega | (simp; done) | (simp; omega)))); clear hc; clear HBD hb; have HBD := HBn; clear HBn)
          | (go_at_call 19; (with_reducible refine (KR.out _ g1 A1 c1 gx Ax cx F1.out VX.out).mono ?_); rintro e w5 ⟨rfl, hb⟩; have HBn := Lib.hid (Below.trans (show Below wd.heap.size wd _ from (by repeat (with_reducible first | exact HBD.out | apply Below.drew | refine Below.alloc ?_ (by have := HBD.out.size; first | omega | (simp; done) | (simp; omega)) _))) (hb.mono (by have := HBD.out.size; first | omega | (simp; done) | (simp; omega)))); clear HBD hb; have HBD := HBn; clear HBn)
          | (go_at_call 14; (with_reducible refine (alive _).mono ?_); rintro e w6 ⟨rfl, hb⟩; have HBn := Lib.hid (Below.trans (show Below wd.heap.size wd _ from (by repeat (with_reducible first | exact HBD.out | apply Below.drew | refine Below.alloc ?_ (by have := HBD.out.size; first | omega | (simp; done) | (simp; omega)) _))) (hb.mono (by have := HBD.out.size; first | omega | (simp; done) | (simp; omega)))); clear HBD hb; have HBD := HBn; clear HBn))
        go_ret
        exact ⟨rfl, HB.out.trans (HBD.out.mono HB.out.size)⟩
end Go.Proofs.Ytacinjbaebimhaa.Val
