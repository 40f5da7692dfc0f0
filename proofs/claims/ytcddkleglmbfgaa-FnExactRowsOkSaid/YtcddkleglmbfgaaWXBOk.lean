/- The walk of the law FnExactRowsOk. -/
import Derived.Test.YtcddkleglmbfgaaLSS
import Derived.Test.YtcddkleglmbfgaaRSame
import Derived.Test.YtcddkleglmbfgaaWXF
namespace Go.Proofs.Ytcddkleglmbfgaa.Val
open Go.RowKit
set_option linter.unusedVariables false
set_option maxHeartbeats 4000000 in
theorem walk_FnExactRowsOk (A0 : Option Addr) (cap0 g0 o0 : Nat) (z0 : List CT) (A1 : Option Addr) (cap1 g1 o1 : Nat) (z1 : List RT) (w : World) (hm0 : z0.length ≤ maxLen) (h0 : Fl w g0 o0 A0 (flatC z0)) (hm1 : z1.length ≤ maxLen) (hs1 : Fit2 z1) (h1 : RwsA w g1 o1 A1 z1) :
    Calls Try.prog 10 #[.slice A0 z0.length cap0, .slice A1 z1.length cap1] w fun e w' => e = .returned (.bool true) ∧ Below w.heap.size w w' := by
  have H0 := Lib.hid h0
  have H1 := Lib.hid h1
  have SZ0 := Lib.hid (fun W left h0 h1 => szColAny A0 z0.length cap0 left W h0 h1 hm0)
  have SZ1 := Lib.hid (fun W left hW h0 h1 => szValueSS A1 g1 o1 cap1 z1 left W hW h0 h1 hm1 hs1)
  clear h0 h1
  unfold maxLen at hm0 hm1
  have HB := Lib.hid (Below.refl w.heap.size w)
  have S0 := True.intro
  by_cases hl0 : z0.length ≤ 1048576
  rotate_left
  · go_enter Try.func10, Try.ntmps10
    go_wp2_with (first
      | ((have _ := S0); (fail_if_success (have _ := S1)); go_at_call 46; (with_reducible refine (SZ0.out _ _ (by omega) (by omega)).mono ?_); rintro e w1 ⟨r0, ⟨rfl, hr0, hq0⟩, rfl⟩; have hneg : r0 < 0 := (by omega); have S1 := True.intro))
    all_goals (go_ret; exact ⟨rfl, HB.out⟩)
  by_cases hl1 : z1.length ≤ 1048576 ∧ total z1 ≤ 1048576
  rotate_left
  · go_enter Try.func10, Try.ntmps10
    go_wp2_with (first
      | ((have _ := S0); (fail_if_success (have _ := S1)); go_at_call 46; (with_reducible refine (SZ0.out _ _ (by omega) (by omega)).mono ?_); rintro e w1 ⟨r0, ⟨rfl, hr0, hq0⟩, rfl⟩; have S1 := True.intro)
      | ((have _ := S1); (fail_if_success (have _ := S2)); go_at_call 47; (with_reducible refine (SZ1.out _ _ (H1.out.below HB.out) (by omega) (by omega)).mono ?_); rintro e wn1 ⟨r1, rfl, hr1, hq1, hb1⟩; have HBn : Hid (Below w.heap.size w wn1) := Below.trans (by repeat (with_reducible first | exact HB.out | refine Below.alloc ?_ (by first | omega | (have := HB.out.size; omega) | (have := HB.out.size; simp; omega)) _ | apply Below.drew)) (Below.mono hb1 (by have := HB.out.size; first | omega | (simp; omega))); clear HB; have HB := HBn; clear HBn; have hneg : r1 < 0 := (by omega); clear hb1; have S2 := True.intro))
    all_goals (go_ret; exact ⟨rfl, HB.out⟩)
  · have T0 := Lib.hid (fun W hW => toColumnS A0 g0 o0 cap0 z0 W hW hl0)
    have T1 := Lib.hid (fun W hW => toValueSS A1 g1 o1 cap1 z1 W hW hl1.1 hl1.2)
    have OK1 := Lib.hid (Fit2.ok hs1 hl1.1 hl1.2)
    unfold RetBag at T1
    have eqq : (z0 == z0) = true := by simp
    have E0 := Lib.hid (fun W g g' A B c c' hA hB => eqColumnS A B g g' 0 0 c c' z0 z0 W hA hB (by omega) (by omega))
    rw [eqq] at E0
    clear eqq
    have E1 := Lib.hid (fun W g g' A B c c' hA hB => eqValueSS A B g g' 0 0 c c' z1 W hA hB OK1.out)
    have CI := Lib.hid (fun W g0 c0 A0 g1 c1 A1 hv0 hv1 => rowsOkI A0 A1 g0 0 g1 0 c0 c1 z0 z1 W hv0 hv1 (by omega) OK1.out)
    have CS := Lib.hid (fun W g0 c0 A0 g1 c1 A1 hv0 hv1 => rowsOkS A0 A1 g0 0 g1 0 c0 c1 z0 z1 W hv0 hv1 (by omega) OK1.out)
    go_enter Try.func10, Try.ntmps10
    go_wp2_with (first
      | ((have _ := S0); (fail_if_success (have _ := S1)); go_at_call 46; (with_reducible refine (SZ0.out _ _ (by omega) (by omega)).mono ?_); rintro e w1 ⟨r0, ⟨rfl, hr0, hq0⟩, rfl⟩; have S1 := True.intro)
      | ((have _ := S1); (fail_if_success (have _ := S2)); go_at_call 47; (with_reducible refine (SZ1.out _ _ (H1.out.below HB.out) (by omega) (by omega)).mono ?_); rintro e wn1 ⟨r1, rfl, hr1, hq1, hb1⟩; have HBn : Hid (Below w.heap.size w wn1) := Below.trans (by repeat (with_reducible first | exact HB.out | refine Below.alloc ?_ (by first | omega | (have := HB.out.size; omega) | (have := HB.out.size; simp; omega)) _ | apply Below.drew)) (Below.mono hb1 (by have := HB.out.size; first | omega | (simp; omega))); clear HB; have HB := HBn; clear HBn; clear hb1; have S2 := True.intro)
      | ((have _ := S2); (fail_if_success (have _ := S3)); go_at_call 48; (with_reducible refine (T0.out _ (H0.out.below HB.out)).mono ?_); rintro e wn2 ⟨ga0, ca0, rfl, hc, -, -, -, -, hb1⟩; have HBn : Hid (Below w.heap.size w wn2) := Below.trans (by repeat (with_reducible first | exact HB.out | refine Below.alloc ?_ (by first | omega | (have := HB.out.size; omega) | (have := HB.out.size; simp; omega)) _ | apply Below.drew)) (Below.mono hb1 (by have := HB.out.size; first | omega | (simp; omega))); clear HB; have HB := HBn; clear HBn; have Va0 := Lib.hid hc; clear hc; clear hb1; have S3 := True.intro)
      | ((have _ := S3); (fail_if_success (have _ := S4)); go_at_call 49; (with_reducible refine (T1.out _ (H1.out.below HB.out)).mono ?_); rintro e wn3 ⟨ga1, ca1, Ta1, rfl, hc, hb1⟩; have HBn : Hid (Below w.heap.size w wn3) := Below.trans (by repeat (with_reducible first | exact HB.out | refine Below.alloc ?_ (by first | omega | (have := HB.out.size; omega) | (have := HB.out.size; simp; omega)) _ | apply Below.drew)) (Below.mono hb1 (by have := HB.out.size; first | omega | (simp; omega))); have K0 := Lib.hid (Fl.below (by (repeat (with_reducible first | exact Va0.out | apply Fl.alloc | apply Fl.drew))) hb1); clear Va0; have Va0 := K0; clear K0; clear HB; have HB := HBn; clear HBn; have Va1 := Lib.hid hc.rws; clear hc; clear hb1; have S4 := True.intro)
      | ((have _ := S4); (fail_if_success (have _ := S5)); go_at_call 24; (with_reducible refine (CS.out _ _ _ _ _ _ _ Va0.out Va1.out).mono ?_); rintro e wn4 ⟨rfl, hb1⟩; have HBn : Hid (Below w.heap.size w wn4) := Below.trans (by repeat (with_reducible first | exact HB.out | refine Below.alloc ?_ (by first | omega | (have := HB.out.size; omega) | (have := HB.out.size; simp; omega)) _ | apply Below.drew)) (Below.mono hb1 (by have := HB.out.size; first | omega | (simp; omega))); clear HB; have HB := HBn; clear HBn; clear hb1; have S5 := True.intro)
      | ((have _ := S5); (fail_if_success (have _ := S6)); go_at_call 48; (with_reducible refine (T0.out _ (H0.out.below HB.out)).mono ?_); rintro e wn5 ⟨gx0, cx0, rfl, hc, -, -, -, -, hb1⟩; have HBn : Hid (Below w.heap.size w wn5) := Below.trans (by repeat (with_reducible first | exact HB.out | refine Below.alloc ?_ (by first | omega | (have := HB.out.size; omega) | (have := HB.out.size; simp; omega)) _ | apply Below.drew)) (Below.mono hb1 (by have := HB.out.size; first | omega | (simp; omega))); clear HB; have HB := HBn; clear HBn; have Vx0 := Lib.hid hc; clear hc; clear hb1; have S6 := True.intro)
      | ((have _ := S6); (fail_if_success (have _ := S7)); go_at_call 49; (with_reducible refine (T1.out _ (H1.out.below HB.out)).mono ?_); rintro e wn6 ⟨gx1, cx1, Tx1, rfl, hc, hb1⟩; have HBn : Hid (Below w.heap.size w wn6) := Below.trans (by repeat (with_reducible first | exact HB.out | refine Below.alloc ?_ (by first | omega | (have := HB.out.size; omega) | (have := HB.out.size; simp; omega)) _ | apply Below.drew)) (Below.mono hb1 (by have := HB.out.size; first | omega | (simp; omega))); have K0 := Lib.hid (Fl.below (by (repeat (with_reducible first | exact Vx0.out | apply Fl.alloc | apply Fl.drew))) hb1); clear Vx0; have Vx0 := K0; clear K0; clear HB; have HB := HBn; clear HBn; have Vx1 := Lib.hid hc.rws; clear hc; clear hb1; have S7 := True.intro)
      | ((have _ := S7); (fail_if_success (have _ := S8)); go_at_call 23; (with_reducible refine (CI.out _ _ _ _ _ _ _ Vx0.out Vx1.out).mono ?_); rintro e wn7 ⟨rfl, hb1⟩; have HBn : Hid (Below w.heap.size w wn7) := Below.trans (by repeat (with_reducible first | exact HB.out | refine Below.alloc ?_ (by first | omega | (have := HB.out.size; omega) | (have := HB.out.size; simp; omega)) _ | apply Below.drew)) (Below.mono hb1 (by have := HB.out.size; first | omega | (simp; omega))); have K0 := Lib.hid (Fl.below (by (repeat (with_reducible first | exact Vx0.out | apply Fl.alloc | apply Fl.drew))) hb1); clear Vx0; have Vx0 := K0; clear K0; have K0 := Lib.hid (by first | exact Vx1.out.below hb1 | exact (Vx1.out.alloc _).below hb1 | exact ((Vx1.out.alloc _).alloc _).below hb1 | exact (Vx1.out.drew).below hb1); clear Vx1; have Vx1 := K0; clear K0; clear HB; have HB := HBn; clear HBn; clear hb1; have S8 := True.intro)
      | ((have _ := S8); (fail_if_success (have _ := S9)); go_at_call 48; (with_reducible refine (T0.out _ (H0.out.below HB.out)).mono ?_); rintro e wn8 ⟨gz0, cz0, rfl, hc, -, -, -, -, hb1⟩; have HBn : Hid (Below w.heap.size w wn8) := Below.trans (by repeat (with_reducible first | exact HB.out | refine Below.alloc ?_ (by first | omega | (have := HB.out.size; omega) | (have := HB.out.size; simp; omega)) _ | apply Below.drew)) (Below.mono hb1 (by have := HB.out.size; first | omega | (simp; omega))); have K0 := Lib.hid (Fl.below (by (repeat (with_reducible first | exact Vx0.out | apply Fl.alloc | apply Fl.drew))) hb1); clear Vx0; have Vx0 := K0; clear K0; have K0 := Lib.hid (by first | exact Vx1.out.below hb1 | exact (Vx1.out.alloc _).below hb1 | exact ((Vx1.out.alloc _).alloc _).below hb1 | exact (Vx1.out.drew).below hb1); clear Vx1; have Vx1 := K0; clear K0; clear HB; have HB := HBn; clear HBn; have Vz0 := Lib.hid hc; clear hc; clear hb1; have S9 := True.intro)
      | ((have _ := S9); (fail_if_success (have _ := S10)); go_at_call 50; (with_reducible refine (E0.out _ _ _ _ _ _ _ Vx0.out Vz0.out).mono ?_); rintro e wn9 ⟨rfl, hb1⟩; have HBn : Hid (Below w.heap.size w wn9) := Below.trans (by repeat (with_reducible first | exact HB.out | refine Below.alloc ?_ (by first | omega | (have := HB.out.size; omega) | (have := HB.out.size; simp; omega)) _ | apply Below.drew)) (Below.mono hb1 (by have := HB.out.size; first | omega | (simp; omega))); have K0 := Lib.hid (by first | exact Vx1.out.below hb1 | exact (Vx1.out.alloc _).below hb1 | exact ((Vx1.out.alloc _).alloc _).below hb1 | exact (Vx1.out.drew).below hb1); clear Vx1; have Vx1 := K0; clear K0; clear HB; have HB := HBn; clear HBn; clear hb1; have S10 := True.intro)
      | ((have _ := S10); (fail_if_success (have _ := S11)); go_at_call 49; (with_reducible refine (T1.out _ (H1.out.below HB.out)).mono ?_); rintro e wn10 ⟨gz1, cz1, Tz1, rfl, hc, hb1⟩; have HBn : Hid (Below w.heap.size w wn10) := Below.trans (by repeat (with_reducible first | exact HB.out | refine Below.alloc ?_ (by first | omega | (have := HB.out.size; omega) | (have := HB.out.size; simp; omega)) _ | apply Below.drew)) (Below.mono hb1 (by have := HB.out.size; first | omega | (simp; omega))); have K0 := Lib.hid (by first | exact Vx1.out.below hb1 | exact (Vx1.out.alloc _).below hb1 | exact ((Vx1.out.alloc _).alloc _).below hb1 | exact (Vx1.out.drew).below hb1); clear Vx1; have Vx1 := K0; clear K0; clear HB; have HB := HBn; clear HBn; have Vz1 := Lib.hid hc.rws; clear hc; clear hb1; have S11 := True.intro)
      | ((have _ := S11); (fail_if_success (have _ := S12)); go_at_call 51; (with_reducible refine (E1.out _ _ _ _ _ _ _ Vx1.out Vz1.out).mono ?_); rintro e wn11 ⟨rfl, hb1⟩; have HBn : Hid (Below w.heap.size w wn11) := Below.trans (by repeat (with_reducible first | exact HB.out | refine Below.alloc ?_ (by first | omega | (have := HB.out.size; omega) | (have := HB.out.size; simp; omega)) _ | apply Below.drew)) (Below.mono hb1 (by have := HB.out.size; first | omega | (simp; omega))); clear HB; have HB := HBn; clear HBn; clear hb1; have S12 := True.intro))
    all_goals (go_ret; exact ⟨retB (by first | rfl | simp), HB.out⟩)
end Go.Proofs.Ytcddkleglmbfgaa.Val
