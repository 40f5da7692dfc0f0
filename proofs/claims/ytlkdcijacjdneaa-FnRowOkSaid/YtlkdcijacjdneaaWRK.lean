/- The walk of the law FnRowOk. -/
import Derived.Test.YtlkdcijacjdneaaRowB
import Derived.Test.YtlkdcijacjdneaaDrawR3
import Derived.Test.YtlkdcijacjdneaaAlive
namespace Go.Proofs.Ytlkdcijacjdneaa.Val
open Go.RowKit
set_option linter.unusedVariables false
set_option maxHeartbeats 2000000 in
theorem walk_FnRowOk (a : Option Addr) (len cap : Nat) (zs : List Int) (w : World) (h : IsRow .u8 w a len cap zs) :
    Calls Try.prog 4 #[.slice a len cap] w fun e w' => e = .returned (.bool true) ∧ Below w.heap.size w w' := by
  by_cases hl : 1048576 < len
  · clear h
    go_enter Try.func4, Try.ntmps4
    go_wp2
    go_ret
    exact ⟨rfl, Below.refl _ _⟩
  · have HI := Lib.hid h
    clear h
    go_enter Try.func4, Try.ntmps4
    go_wp2_with (go_at_call 20; refine (drawRowOk _ _ _ zs _ HI.out).mono ?_; rintro e wd ⟨vs, g, c, rfl, hvs, hbd⟩; have HB := Lib.hid hbd; have HV := Lib.hid hvs; clear hbd hvs)
    have hv9 := HV.out.1
    have HS := Lib.hid HV.out.2.1.short
    have FV := Lib.hid HV.out.2.2.2.2
    have C1 := Lib.hid (fun W hA => rowOkI (some ⟨g, 0, none⟩) g 0 c vs W hA (by omega) HS.out)
    have C1s := Lib.hid (fun W hA => rowOkS (some ⟨g, 0, none⟩) g 0 c vs W hA (by omega) HS.out)
    have C2 := Lib.hid (fun W hA => bytes_of_post (rowBytesI (some ⟨g, 0, none⟩) g 0 c vs W hA (by omega) HS.out))
    have hp := rb_pos vs
    obtain ⟨L, hL⟩ : ∃ L, rbL vs = L := ⟨_, rfl⟩
    rw [hL] at C2 hp
    clear hL
    have S0 := True.intro
    cases hB : rowB vs
    · have h0 : L.length = 0 := by rw [hB] at hp; simp at hp; simp [hp]
      rw [hB] at C1 C1s
      rw [List.length_eq_zero_iff] at h0
      subst h0
      clear hp hB
      go_wp2_with (first
        | ((have _ := S0); (fail_if_success (have _ := S1)); go_at_call 21; (with_reducible refine (C1.out _ FV.out).mono ?_); rintro e wn0 ⟨rfl, hb1⟩; have HBn : Hid (Below w.heap.size w wn0) := Below.trans (by repeat (with_reducible first | exact HB.out | refine Below.alloc ?_ (by first | omega | (have := HB.out.size; omega) | (have := HB.out.size; simp; omega)) _ | apply Below.drew)) (Below.mono hb1 (by have := HB.out.size; first | omega | (simp; omega))); have K0 := Lib.hid (Fl.below (by (repeat (with_reducible first | exact FV.out | apply Fl.alloc | apply Fl.drew))) hb1); clear FV; have FV := K0; clear K0; clear HB; have HB := HBn; clear HBn; clear hb1; have S1 := True.intro)
        | ((have _ := S1); (fail_if_success (have _ := S2)); go_at_call 22; (with_reducible refine (C1s.out _ FV.out).mono ?_); rintro e wn1 ⟨rfl, hb1⟩; have HBn : Hid (Below w.heap.size w wn1) := Below.trans (by repeat (with_reducible first | exact HB.out | refine Below.alloc ?_ (by first | omega | (have := HB.out.size; omega) | (have := HB.out.size; simp; omega)) _ | apply Below.drew)) (Below.mono hb1 (by have := HB.out.size; first | omega | (simp; omega))); have K0 := Lib.hid (Fl.below (by (repeat (with_reducible first | exact FV.out | apply Fl.alloc | apply Fl.drew))) hb1); clear FV; have FV := K0; clear K0; clear HB; have HB := HBn; clear HBn; clear hb1; have S2 := True.intro)
        | ((have _ := S2); (fail_if_success (have _ := S3)); go_at_call 23; (with_reducible refine (C2.out _ FV.out).mono ?_); rintro e wn2 ⟨gb, Ab, cb, rfl, -, -, hb1⟩; have HBn : Hid (Below w.heap.size w wn2) := Below.trans (by repeat (with_reducible first | exact HB.out | refine Below.alloc ?_ (by first | omega | (have := HB.out.size; omega) | (have := HB.out.size; simp; omega)) _ | apply Below.drew)) (Below.mono hb1 (by have := HB.out.size; first | omega | (simp; omega))); clear HB; have HB := HBn; clear HBn; clear hb1; have S3 := True.intro)
        | ((have _ := S3); (fail_if_success (have _ := S4)); go_at_call 19; (with_reducible refine (alive _).mono ?_); rintro e wn3 ⟨rfl, hb1⟩; have HBn : Hid (Below w.heap.size w wn3) := Below.trans (by repeat (with_reducible first | exact HB.out | refine Below.alloc ?_ (by first | omega | (have := HB.out.size; omega) | (have := HB.out.size; simp; omega)) _ | apply Below.drew)) (Below.mono hb1 (by have := HB.out.size; first | omega | (simp; omega))); clear HB; have HB := HBn; clear HBn; clear hb1; have S4 := True.intro))
      all_goals (go_ret; exact ⟨retB (by first | rfl | simp), HB.out⟩)
    · have h0 : 0 < L.length := hp.2 hB
      rw [hB] at C1 C1s
      have h1 : (0 : Int) < (L.length : Int) := by omega
      clear hp hB
      go_wp2_with (first
        | ((have _ := S0); (fail_if_success (have _ := S1)); go_at_call 21; (with_reducible refine (C1.out _ FV.out).mono ?_); rintro e wn0 ⟨rfl, hb1⟩; have HBn : Hid (Below w.heap.size w wn0) := Below.trans (by repeat (with_reducible first | exact HB.out | refine Below.alloc ?_ (by first | omega | (have := HB.out.size; omega) | (have := HB.out.size; simp; omega)) _ | apply Below.drew)) (Below.mono hb1 (by have := HB.out.size; first | omega | (simp; omega))); have K0 := Lib.hid (Fl.below (by (repeat (with_reducible first | exact FV.out | apply Fl.alloc | apply Fl.drew))) hb1); clear FV; have FV := K0; clear K0; clear HB; have HB := HBn; clear HBn; clear hb1; have S1 := True.intro)
        | ((have _ := S1); (fail_if_success (have _ := S2)); go_at_call 22; (with_reducible refine (C1s.out _ FV.out).mono ?_); rintro e wn1 ⟨rfl, hb1⟩; have HBn : Hid (Below w.heap.size w wn1) := Below.trans (by repeat (with_reducible first | exact HB.out | refine Below.alloc ?_ (by first | omega | (have := HB.out.size; omega) | (have := HB.out.size; simp; omega)) _ | apply Below.drew)) (Below.mono hb1 (by have := HB.out.size; first | omega | (simp; omega))); have K0 := Lib.hid (Fl.below (by (repeat (with_reducible first | exact FV.out | apply Fl.alloc | apply Fl.drew))) hb1); clear FV; have FV := K0; clear K0; clear HB; have HB := HBn; clear HBn; clear hb1; have S2 := True.intro)
        | ((have _ := S2); (fail_if_success (have _ := S3)); go_at_call 23; (with_reducible refine (C2.out _ FV.out).mono ?_); rintro e wn2 ⟨gb, Ab, cb, rfl, -, -, hb1⟩; have HBn : Hid (Below w.heap.size w wn2) := Below.trans (by repeat (with_reducible first | exact HB.out | refine Below.alloc ?_ (by first | omega | (have := HB.out.size; omega) | (have := HB.out.size; simp; omega)) _ | apply Below.drew)) (Below.mono hb1 (by have := HB.out.size; first | omega | (simp; omega))); clear HB; have HB := HBn; clear HBn; clear hb1; have S3 := True.intro)
        | ((have _ := S3); (fail_if_success (have _ := S4)); go_at_call 19; (with_reducible refine (alive _).mono ?_); rintro e wn3 ⟨rfl, hb1⟩; have HBn : Hid (Below w.heap.size w wn3) := Below.trans (by repeat (with_reducible first | exact HB.out | refine Below.alloc ?_ (by first | omega | (have := HB.out.size; omega) | (have := HB.out.size; simp; omega)) _ | apply Below.drew)) (Below.mono hb1 (by have := HB.out.size; first | omega | (simp; omega))); clear HB; have HB := HBn; clear HBn; clear hb1; have S4 := True.intro))
      all_goals (go_ret; exact ⟨retB (by first | rfl | simp), HB.out⟩)
end Go.Proofs.Ytlkdcijacjdneaa.Val
