/- The walk of the law FnExactTablesOk. -/
import Derived.Test.YtcgjnilkbdamjaaPImp
import Derived.Test.YtcgjnilkbdamjaaPSpec
import Derived.Test.YtcgjnilkbdamjaaTabA
namespace Go.Proofs.Ytcgjnilkbdamjaa.Val
open Go.RowKit
set_option linter.unusedVariables false
set_option maxHeartbeats 4000000 in
theorem walk_FnExactTablesOk (A0 : Option Addr) (cap0 g0 o0 : Nat) (z0 : List TB) (w : World) (hm0 : z0.length ≤ maxLen) (hs0 : FitT z0) (h0 : TbsA w g0 o0 A0 z0) :
    Calls Try.prog 3 #[.slice A0 z0.length cap0] w fun e w' => e = .returned (.bool true) ∧ Below w.heap.size w w' := by
  have H0 := Lib.hid h0
  have SZ0 := Lib.hid (fun W left hW h0 h1 => szTableS A0 g0 o0 cap0 z0 left W hW h0 h1 hm0 hs0)
  clear h0
  unfold maxLen at hm0
  have HB := Lib.hid (Below.refl w.heap.size w)
  have S0 := True.intro
  by_cases hl0 : z0.length + cntT z0 ≤ 1048576
  rotate_left
  · go_enter Try.func3, Try.ntmps3
    go_wp2_with (first
      | ((have _ := S0); (fail_if_success (have _ := S1)); go_at_call 13; (with_reducible refine (SZ0.out _ _ (H0.out.below HB.out) (by omega) (by omega)).mono ?_); rintro e wn0 ⟨r0, rfl, hr0, hq0, hb1⟩; have HBn : Hid (Below w.heap.size w wn0) := Below.trans (by repeat (with_reducible first | exact HB.out | refine Below.alloc ?_ (by first | omega | (have := HB.out.size; omega) | (simp; done) | (have := HB.out.size; simp; omega)) _ | apply Below.drew)) (Below.mono hb1 (by have := HB.out.size; first | omega | (simp; omega))); clear HB; have HB := HBn; clear HBn; have hneg : r0 < 0 := (by omega); clear hb1; have S1 := True.intro))
    all_goals (go_ret; exact ⟨rfl, HB.out⟩)
  · have T0 := Lib.hid (fun W hW => toTableS A0 g0 o0 cap0 z0 W hW (by omega) (FitT.ok hs0 (by omega)).2)
    have OK0 := Lib.hid (FitT.ok hs0 (by omega)).1
    unfold RetTab at T0
    have E0 := Lib.hid (fun W g g' A B c c' hA hB => eqTableS A B g g' 0 0 c c' z0 W hA hB OK0.out)
    have CI := Lib.hid (fun W g0 c0 A0 hv0 => tablesOkI A0 g0 0 c0 z0 W hv0 OK0.out)
    have CS := Lib.hid (fun W g0 c0 A0 hv0 => tablesOkS A0 g0 0 c0 z0 W hv0 OK0.out)
    go_enter Try.func3, Try.ntmps3
    go_wp2_with (first
      | ((have _ := S0); (fail_if_success (have _ := S1)); go_at_call 13; (with_reducible refine (SZ0.out _ _ (H0.out.below HB.out) (by omega) (by omega)).mono ?_); rintro e wn0 ⟨r0, rfl, hr0, hq0, hb1⟩; have HBn : Hid (Below w.heap.size w wn0) := Below.trans (by repeat (with_reducible first | exact HB.out | refine Below.alloc ?_ (by first | omega | (have := HB.out.size; omega) | (simp; done) | (have := HB.out.size; simp; omega)) _ | apply Below.drew)) (Below.mono hb1 (by have := HB.out.size; first | omega | (simp; omega))); clear HB; have HB := HBn; clear HBn; clear hb1; have S1 := True.intro)
      | ((have _ := S1); (fail_if_success (have _ := S2)); go_at_call 15; (with_reducible refine (T0.out _ (H0.out.below HB.out)).mono ?_); rintro e wn1 ⟨ga0, ca0, Ta0, rfl, hc, hb1⟩; have HBn : Hid (Below w.heap.size w wn1) := Below.trans (by repeat (with_reducible first | exact HB.out | refine Below.alloc ?_ (by first | omega | (have := HB.out.size; omega) | (simp; done) | (have := HB.out.size; simp; omega)) _ | apply Below.drew)) (Below.mono hb1 (by have := HB.out.size; first | omega | (simp; omega))); clear HB; have HB := HBn; clear HBn; have Va0 := Lib.hid hc.tbs; clear hc; clear hb1; have S2 := True.intro)
      | ((have _ := S2); (fail_if_success (have _ := S3)); go_at_call 14; (with_reducible refine (CS.out _ _ _ _ Va0.out).mono ?_); rintro e wn2 ⟨rfl, hb1⟩; have HBn : Hid (Below w.heap.size w wn2) := Below.trans (by repeat (with_reducible first | exact HB.out | refine Below.alloc ?_ (by first | omega | (have := HB.out.size; omega) | (simp; done) | (have := HB.out.size; simp; omega)) _ | apply Below.drew)) (Below.mono hb1 (by have := HB.out.size; first | omega | (simp; omega))); clear HB; have HB := HBn; clear HBn; clear hb1; have S3 := True.intro)
      | ((have _ := S3); (fail_if_success (have _ := S4)); go_at_call 15; (with_reducible refine (T0.out _ (H0.out.below HB.out)).mono ?_); rintro e wn3 ⟨gx0, cx0, Tx0, rfl, hc, hb1⟩; have HBn : Hid (Below w.heap.size w wn3) := Below.trans (by repeat (with_reducible first | exact HB.out | refine Below.alloc ?_ (by first | omega | (have := HB.out.size; omega) | (simp; done) | (have := HB.out.size; simp; omega)) _ | apply Below.drew)) (Below.mono hb1 (by have := HB.out.size; first | omega | (simp; omega))); clear HB; have HB := HBn; clear HBn; have Vx0 := Lib.hid hc.tbs; clear hc; clear hb1; have S4 := True.intro)
      | ((have _ := S4); (fail_if_success (have _ := S5)); go_at_call 16; (with_reducible refine (CI.out _ _ _ _ Vx0.out).mono ?_); rintro e wn4 ⟨rfl, hb1⟩; have HBn : Hid (Below w.heap.size w wn4) := Below.trans (by repeat (with_reducible first | exact HB.out | refine Below.alloc ?_ (by first | omega | (have := HB.out.size; omega) | (simp; done) | (have := HB.out.size; simp; omega)) _ | apply Below.drew)) (Below.mono hb1 (by have := HB.out.size; first | omega | (simp; omega))); have K0 := Lib.hid (by first | exact Vx0.out.below hb1 | exact (Vx0.out.alloc _).below hb1 | exact ((Vx0.out.alloc _).alloc _).below hb1 | exact (Vx0.out.drew).below hb1); clear Vx0; have Vx0 := K0; clear K0; clear HB; have HB := HBn; clear HBn; clear hb1; have S5 := True.intro)
      | ((have _ := S5); (fail_if_success (have _ := S6)); go_at_call 15; (with_reducible refine (T0.out _ (H0.out.below HB.out)).mono ?_); rintro e wn5 ⟨gz0, cz0, Tz0, rfl, hc, hb1⟩; have HBn : Hid (Below w.heap.size w wn5) := Below.trans (by repeat (with_reducible first | exact HB.out | refine Below.alloc ?_ (by first | omega | (have := HB.out.size; omega) | (simp; done) | (have := HB.out.size; simp; omega)) _ | apply Below.drew)) (Below.mono hb1 (by have := HB.out.size; first | omega | (simp; omega))); have K0 := Lib.hid (by first | exact Vx0.out.below hb1 | exact (Vx0.out.alloc _).below hb1 | exact ((Vx0.out.alloc _).alloc _).below hb1 | exact (Vx0.out.drew).below hb1); clear Vx0; have Vx0 := K0; clear K0; clear HB; have HB := HBn; clear HBn; have Vz0 := Lib.hid hc.tbs; clear hc; clear hb1; have S6 := True.intro)
      | ((have _ := S6); (fail_if_success (have _ := S7)); go_at_call 17; (with_reducible refine (E0.out _ _ _ _ _ _ _ Vx0.out Vz0.out).mono ?_); rintro e wn6 ⟨rfl, hb1⟩; have HBn : Hid (Below w.heap.size w wn6) := Below.trans (by repeat (with_reducible first | exact HB.out | refine Below.alloc ?_ (by first | omega | (have := HB.out.size; omega) | (simp; done) | (have := HB.out.size; simp; omega)) _ | apply Below.drew)) (Below.mono hb1 (by have := HB.out.size; first | omega | (simp; omega))); clear HB; have HB := HBn; clear HBn; clear hb1; have S7 := True.intro))
    all_goals (go_ret; exact ⟨retB (by first | rfl | simp), HB.out⟩)
end Go.Proofs.Ytcgjnilkbdamjaa.Val
