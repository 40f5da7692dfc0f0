/- The walk of the law FnRowsOnce. -/
import Derived.Test.YtcddkleglmbfgaaLSame
import Derived.Test.YtcddkleglmbfgaaDrawBg
import Derived.Test.YtcddkleglmbfgaaRSame
import Derived.Test.YtcddkleglmbfgaaAlive
namespace Go.Proofs.Ytcddkleglmbfgaa.Val
open Go.RowKit
set_option linter.unusedVariables false
set_option maxRecDepth 8000
set_option maxHeartbeats 4000000 in
theorem walk_FnRowsOnce (a : Option Addr) (len cap : Nat) (zs : List Int) (w : World) (h : IsRow .u8 w a len cap zs) :
    Calls Try.prog 8 #[.slice a len cap] w fun e w' => e = .returned (.bool true) ∧ Below w.heap.size w w' := by
  by_cases hl : 1048576 < len
  · clear h
    go_enter Try.func8, Try.ntmps8
    go_wp2
    go_ret
    exact ⟨rfl, Below.refl _ _⟩
  · have HI := Lib.hid h
    clear h
    go_enter Try.func8, Try.ntmps8
    go_wp2_with (go_at_call 40; (with_reducible refine (drawRowsOnce _ _ _ zs _ HI.out).mono ?_); rintro e wd ⟨g, c, ls, rfl, hv, hbd⟩; have VR := Lib.hid hv.1; have SM := Lib.hid hv.2.1; have HB := Lib.hid hbd; clear hv hbd)
    have S0 := True.intro
    have OKL := Lib.hid SM.out.ok
    have hl6 := SM.out.1
    have hzl := once_len ls
    have OKZ : Hid (Ok2 (onceI ls)) := OKL.out.sub (by omega) (fun r hr => (once_mem ls r).1 hr)
    have hzs := once_once ls
    have HC1 := Lib.hid (fun r (hr : r ∈ ls) => nodup_count (once_nodup ls) ((once_mem ls r).2 hr))
    have HC2 := Lib.hid (fun r (hr : r ∈ onceI ls) => List.count_pos_iff.2 ((once_mem ls r).1 hr))
    have CI := Lib.hid (fun W g c A hv => rowsOnceI A g 0 c ls W hv OKL.out)
    have CS := Lib.hid (fun W g c A hv => rowsOnceS A g 0 c ls W hv OKL.out)
    have CJ := Lib.hid (fun W g c A hv => rowsOnceI A g 0 c (onceI ls) W hv OKZ.out)
    rw [hzs] at CJ
    have ES := Lib.hid (fun W g g' A B c c' hA hB => sameRowsL A B g g' 0 0 c c' (onceI ls) (onceI ls) W hA hB OKZ.out OKZ.out)
    rw [decide_eq_true (rfl : onceI ls = onceI ls)] at ES
    obtain ⟨Z, hZ⟩ : ∃ Z, onceI ls = Z := ⟨_, rfl⟩
    rw [hZ] at CI CS CJ ES OKZ HC1 HC2 hzl
    unfold RetBag at CI CS CJ
    clear hZ hzs
    go_wp2_with (first
      | ((have _ := S0); (fail_if_success (have _ := S1)); go_at_call 30; (with_reducible refine (CI.out _ _ _ _ VR.out).mono ?_); rintro e wn0 ⟨gg, cg, Tg, rfl, hc, hb1⟩; have HBn : Hid (Below w.heap.size w wn0) := Below.trans (by repeat (with_reducible first | exact HB.out | refine Below.alloc ?_ (by first | omega | (have := HB.out.size; omega) | (have := HB.out.size; simp; omega)) _ | apply Below.drew)) (Below.mono hb1 (by have := HB.out.size; first | omega | (simp; omega))); have K0 := Lib.hid (by first | exact VR.out.below hb1 | exact (VR.out.alloc _).below hb1 | exact ((VR.out.alloc _).alloc _).below hb1 | exact (VR.out.drew).below hb1); clear VR; have VR := K0; clear K0; clear HB; have HB := HBn; clear HBn; have VG := Lib.hid hc.rws; clear hc; clear hb1; have S1 := True.intro)
      | ((have _ := S1); (fail_if_success (have _ := S2)); go_at_call 41; (with_reducible refine (CS.out _ _ _ _ VR.out).mono ?_); rintro e wn1 ⟨gs, cs, Ts, rfl, hc, hb1⟩; have HBn : Hid (Below w.heap.size w wn1) := Below.trans (by repeat (with_reducible first | exact HB.out | refine Below.alloc ?_ (by first | omega | (have := HB.out.size; omega) | (have := HB.out.size; simp; omega)) _ | apply Below.drew)) (Below.mono hb1 (by have := HB.out.size; first | omega | (simp; omega))); have K0 := Lib.hid (by first | exact VR.out.below hb1 | exact (VR.out.alloc _).below hb1 | exact ((VR.out.alloc _).alloc _).below hb1 | exact (VR.out.drew).below hb1); clear VR; have VR := K0; clear K0; have K0 := Lib.hid (by first | exact VG.out.below hb1 | exact (VG.out.alloc _).below hb1 | exact ((VG.out.alloc _).alloc _).below hb1 | exact (VG.out.drew).below hb1); clear VG; have VG := K0; clear K0; clear HB; have HB := HBn; clear HBn; have VS := Lib.hid hc.rws; clear hc; clear hb1; have S2 := True.intro)
      | ((have _ := S2); (fail_if_success (have _ := S3)); go_at_call 33; (with_reducible refine (ES.out _ _ _ _ _ _ _ VG.out VS.out).mono ?_); rintro e wn2 ⟨rfl, hb1⟩; have HBn : Hid (Below w.heap.size w wn2) := Below.trans (by repeat (with_reducible first | exact HB.out | refine Below.alloc ?_ (by first | omega | (have := HB.out.size; omega) | (have := HB.out.size; simp; omega)) _ | apply Below.drew)) (Below.mono hb1 (by have := HB.out.size; first | omega | (simp; omega))); have K0 := Lib.hid (by first | exact VR.out.below hb1 | exact (VR.out.alloc _).below hb1 | exact ((VR.out.alloc _).alloc _).below hb1 | exact (VR.out.drew).below hb1); clear VR; have VR := K0; clear K0; have K0 := Lib.hid (by first | exact VG.out.below hb1 | exact (VG.out.alloc _).below hb1 | exact ((VG.out.alloc _).alloc _).below hb1 | exact (VG.out.drew).below hb1); clear VG; have VG := K0; clear K0; clear HB; have HB := HBn; clear HBn; clear hb1; have S3 := True.intro))
    obtain ⟨wL, hwL⟩ : ∃ x, x = wn2 := ⟨_, rfl⟩
    rw [← hwL] at VR VG HB ⊢
    clear hwL VS
    go_loopw [5] (fun kx wr => ∃ (k : Nat), kx = .int .i64 k ∧ k ≤ ls.length ∧ Hid (Below wL.heap.size wL wr)) (fun kx _ => ls.length - (intOf kx).toNat)
    case atStart => exact ⟨0, rfl, Nat.zero_le _, Below.refl _ _⟩
    case round =>
      obtain ⟨k, rfl, hk, HL⟩ := hrel
      have hzL := HL.out.size
      by_cases hlt : k < ls.length
      · obtain ⟨-, hg1, c1, g1, o1, hc1, hf1⟩ := (VR.out.below HL.out).at k hlt
        have HF1 := Lib.hid hf1
        have hl1 := (OKL.out.at k hlt).1
        have hcn := HC1.out _ (List.getElem_mem hlt)
        obtain ⟨K, hK⟩ : ∃ K, ls[k] = K := ⟨_, rfl⟩
        rw [hK] at hc1 HF1 hl1 hcn
        have CM := Lib.hid (fun W hW hW2 => rowManyI (some ⟨gg, 0, none⟩) (some ⟨g1, o1, none⟩) gg 0 g1 o1 cg c1 Z K W hW hW2 OKZ.out hl1)
        rw [hcn, show (((1 : Nat) : Int)) = 1 from rfl] at CM
        obtain ⟨kl, hkl⟩ : ∃ n, K.length = n := ⟨_, rfl⟩
        rw [hkl] at hc1 CM
        simp only [Nat.zero_add] at hc1
        clear hK hf1 hcn hkl
        have i0' : (0 : Int) ≤ (k : Int) := by omega
        have i1' : (k : Int) < (ls.length : Int) := by omega
        go_wp2_with (go_at_call 28; (with_reducible refine (CM.out _ (VG.out.below HL.out) HF1.out).mono ?_); rintro e w1 ⟨rfl, hb1⟩; have HL1 := Lib.hid (HL.out.trans (hb1.mono hzL)); clear hb1 HL)
        exact ⟨⟨k + 1, by go_num, by omega, HL1⟩, by simp [intOf]; omega⟩
      · obtain rfl : k = ls.length := by omega
        have VG1 := Lib.hid (VG.out.below HL.out)
        have VR1 := Lib.hid (VR.out.below HL.out)
        have HB1 := Lib.hid (HB.out.trans (HL.out.mono HB.out.size))
        clear VG VR HB
        obtain ⟨wM, hwM⟩ : ∃ x, x = wr := ⟨_, rfl⟩
        rw [← hwM] at VR1 VG1 HB1 ⊢
        clear hwM HL
        go_wp2
        go_loopw [6] (fun kx wr => ∃ (k : Nat), kx = .int .i64 k ∧ k ≤ Z.length ∧ Hid (Below wM.heap.size wM wr)) (fun kx _ => Z.length - (intOf kx).toNat)
        case atStart => exact ⟨0, rfl, Nat.zero_le _, Below.refl _ _⟩
        case round =>
          obtain ⟨k, rfl, hk, HL⟩ := hrel
          have hzM := HL.out.size
          by_cases hlt : k < Z.length
          · obtain ⟨-, hg1, c1, g1, o1, hc1, hf1⟩ := (VG1.out.below HL.out).at k hlt
            have HF1 := Lib.hid hf1
            have hl1 := (OKZ.out.at k hlt).1
            have hcn := HC2.out _ (List.getElem_mem hlt)
            obtain ⟨K, hK⟩ : ∃ K, Z[k] = K := ⟨_, rfl⟩
            rw [hK] at hc1 HF1 hl1 hcn
            have CM := Lib.hid (fun W hW hW2 => rowManyI (some ⟨g, 0, none⟩) (some ⟨g1, o1, none⟩) g 0 g1 o1 c c1 ls K W hW hW2 OKL.out hl1)
            obtain ⟨m, hm⟩ : ∃ m, ls.count K = m := ⟨_, rfl⟩
            rw [hm] at CM hcn
            obtain ⟨kl, hkl⟩ : ∃ n, K.length = n := ⟨_, rfl⟩
            rw [hkl] at hc1 CM
            simp only [Nat.zero_add] at hc1
            clear hK hf1 hkl hm
            have hm0 : ¬ ((m : Int) = 0) := by omega
            have i0' : (0 : Int) ≤ (k : Int) := by omega
            have i1' : (k : Int) < (Z.length : Int) := by omega
            clear hcn
            go_wp2_with (go_at_call 28; (with_reducible refine (CM.out _ (VR1.out.below HL.out) HF1.out).mono ?_); rintro e w1 ⟨rfl, hb1⟩; have HL1 := Lib.hid (HL.out.trans (hb1.mono hzM)); clear hb1 HL)
            exact ⟨⟨k + 1, by go_num, by omega, HL1⟩, by simp [intOf]; omega⟩
          · obtain rfl : k = Z.length := by omega
            have VG := Lib.hid (VG1.out.below HL.out)
            have HB := Lib.hid (HB1.out.trans (HL.out.mono HB1.out.size))
            clear VG1 VR1 HB1 HL
            go_wp2_with (first
              | ((have _ := S3); (fail_if_success (have _ := S4)); go_at_call 30; (with_reducible refine (CJ.out _ _ _ _ VG.out).mono ?_); rintro e wn3 ⟨gh, ch, Th, rfl, hc, hb1⟩; have HBn : Hid (Below w.heap.size w wn3) := Below.trans (by repeat (with_reducible first | exact HB.out | refine Below.alloc ?_ (by first | omega | (have := HB.out.size; omega) | (have := HB.out.size; simp; omega)) _ | apply Below.drew)) (Below.mono hb1 (by have := HB.out.size; first | omega | (simp; omega))); have K0 := Lib.hid (by first | exact VG.out.below hb1 | exact (VG.out.alloc _).below hb1 | exact ((VG.out.alloc _).alloc _).below hb1 | exact (VG.out.drew).below hb1); clear VG; have VG := K0; clear K0; clear HB; have HB := HBn; clear HBn; have VH := Lib.hid hc.rws; clear hc; clear hb1; have S4 := True.intro)
              | ((have _ := S4); (fail_if_success (have _ := S5)); go_at_call 33; (with_reducible refine (ES.out _ _ _ _ _ _ _ VH.out VG.out).mono ?_); rintro e wn4 ⟨rfl, hb1⟩; have HBn : Hid (Below w.heap.size w wn4) := Below.trans (by repeat (with_reducible first | exact HB.out | refine Below.alloc ?_ (by first | omega | (have := HB.out.size; omega) | (have := HB.out.size; simp; omega)) _ | apply Below.drew)) (Below.mono hb1 (by have := HB.out.size; first | omega | (simp; omega))); clear HB; have HB := HBn; clear HBn; clear hb1; have S5 := True.intro)
              | ((have _ := S5); (fail_if_success (have _ := S6)); go_at_call 21; (with_reducible refine (alive _).mono ?_); rintro e wn5 ⟨rfl, hb1⟩; have HBn : Hid (Below w.heap.size w wn5) := Below.trans (by repeat (with_reducible first | exact HB.out | refine Below.alloc ?_ (by first | omega | (have := HB.out.size; omega) | (have := HB.out.size; simp; omega)) _ | apply Below.drew)) (Below.mono hb1 (by have := HB.out.size; first | omega | (simp; omega))); clear HB; have HB := HBn; clear HBn; clear hb1; have S6 := True.intro))
            all_goals (go_ret; exact ⟨retB (by first | rfl | simp), HB.out⟩)
end Go.Proofs.Ytcddkleglmbfgaa.Val
