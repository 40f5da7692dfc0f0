/- The walk of the law FnRowsSorted. -/
import Derived.Test.YtcddkleglmbfgaaLSame
import Derived.Test.YtcddkleglmbfgaaDrawBg
import Derived.Test.YtcddkleglmbfgaaRSame
import Derived.Test.YtcddkleglmbfgaaAlive
namespace Go.Proofs.Ytcddkleglmbfgaa.Val
open Go.RowKit
set_option linter.unusedVariables false
set_option maxRecDepth 8000
set_option maxHeartbeats 4000000 in
theorem walk_FnRowsSorted (a : Option Addr) (len cap : Nat) (zs : List Int) (w : World) (h : IsRow .u8 w a len cap zs) :
    Calls Try.prog 6 #[.slice a len cap] w fun e w' => e = .returned (.bool true) ∧ Below w.heap.size w w' := by
  by_cases hl : 1048576 < len
  · clear h
    go_enter Try.func6, Try.ntmps6
    go_wp2
    go_ret
    exact ⟨rfl, Below.refl _ _⟩
  · have HI := Lib.hid h
    clear h
    go_enter Try.func6, Try.ntmps6
    go_wp2_with (go_at_call 31; (with_reducible refine (drawRowsSorted _ _ _ zs _ HI.out).mono ?_); rintro e wd ⟨g, c, ls, rfl, hv, hbd⟩; have VR := Lib.hid hv.1; have SM := Lib.hid hv.2.1; have HB := Lib.hid hbd; clear hv hbd)
    have S0 := True.intro
    have OKL := Lib.hid SM.out.ok
    have OKZ := Lib.hid SM.out.sort.ok
    have hz6 := SM.out.sort.1
    have hzs := sort_sort ls
    have hzb := bagB_sort ls
    have hadj := adj_sort ls
    have CI := Lib.hid (fun W g c A hv => rowsSortedI A g 0 c ls W hv OKL.out)
    have CS := Lib.hid (fun W g c A hv => rowsSortedS A g 0 c ls W hv OKL.out)
    have CJ := Lib.hid (fun W g c A hv => rowsSortedI A g 0 c (sortI ls) W hv OKZ.out)
    rw [hzs] at CJ
    have ES := Lib.hid (fun W g g' A B c c' hA hB => sameRowsL A B g g' 0 0 c c' (sortI ls) (sortI ls) W hA hB OKZ.out OKZ.out)
    rw [decide_eq_true (rfl : sortI ls = sortI ls)] at ES
    have CB := Lib.hid (fun W g g' A B c c' hA hB => sameBagI A B g 0 g' 0 c c' (sortI ls) ls W hA hB OKZ.out OKL.out)
    rw [hzb] at CB
    obtain ⟨Z, hZ⟩ : ∃ Z, sortI ls = Z := ⟨_, rfl⟩
    rw [hZ] at CI CS CJ ES CB OKZ hz6 hadj
    have ADJ := Lib.hid hadj
    unfold RetBag at CI CS CJ
    clear hZ hzs hzb hadj
    go_wp2_with (first
      | ((have _ := S0); (fail_if_success (have _ := S1)); go_at_call 32; (with_reducible refine (CI.out _ _ _ _ VR.out).mono ?_); rintro e wn0 ⟨gg, cg, Tg, rfl, hc, hb1⟩; have HBn : Hid (Below w.heap.size w wn0) := Below.trans (by repeat (with_reducible first | exact HB.out | refine Below.alloc ?_ (by first | omega | (have := HB.out.size; omega) | (have := HB.out.size; simp; omega)) _ | apply Below.drew)) (Below.mono hb1 (by have := HB.out.size; first | omega | (simp; omega))); have K0 := Lib.hid (by first | exact VR.out.below hb1 | exact (VR.out.alloc _).below hb1 | exact ((VR.out.alloc _).alloc _).below hb1 | exact (VR.out.drew).below hb1); clear VR; have VR := K0; clear K0; clear HB; have HB := HBn; clear HBn; have VG := Lib.hid hc.rws; clear hc; clear hb1; have S1 := True.intro)
      | ((have _ := S1); (fail_if_success (have _ := S2)); go_at_call 34; (with_reducible refine (CS.out _ _ _ _ VR.out).mono ?_); rintro e wn1 ⟨gs, cs, Ts, rfl, hc, hb1⟩; have HBn : Hid (Below w.heap.size w wn1) := Below.trans (by repeat (with_reducible first | exact HB.out | refine Below.alloc ?_ (by first | omega | (have := HB.out.size; omega) | (have := HB.out.size; simp; omega)) _ | apply Below.drew)) (Below.mono hb1 (by have := HB.out.size; first | omega | (simp; omega))); have K0 := Lib.hid (by first | exact VR.out.below hb1 | exact (VR.out.alloc _).below hb1 | exact ((VR.out.alloc _).alloc _).below hb1 | exact (VR.out.drew).below hb1); clear VR; have VR := K0; clear K0; have K0 := Lib.hid (by first | exact VG.out.below hb1 | exact (VG.out.alloc _).below hb1 | exact ((VG.out.alloc _).alloc _).below hb1 | exact (VG.out.drew).below hb1); clear VG; have VG := K0; clear K0; clear HB; have HB := HBn; clear HBn; have VS := Lib.hid hc.rws; clear hc; clear hb1; have S2 := True.intro)
      | ((have _ := S2); (fail_if_success (have _ := S3)); go_at_call 33; (with_reducible refine (ES.out _ _ _ _ _ _ _ VG.out VS.out).mono ?_); rintro e wn2 ⟨rfl, hb1⟩; have HBn : Hid (Below w.heap.size w wn2) := Below.trans (by repeat (with_reducible first | exact HB.out | refine Below.alloc ?_ (by first | omega | (have := HB.out.size; omega) | (have := HB.out.size; simp; omega)) _ | apply Below.drew)) (Below.mono hb1 (by have := HB.out.size; first | omega | (simp; omega))); have K0 := Lib.hid (by first | exact VR.out.below hb1 | exact (VR.out.alloc _).below hb1 | exact ((VR.out.alloc _).alloc _).below hb1 | exact (VR.out.drew).below hb1); clear VR; have VR := K0; clear K0; have K0 := Lib.hid (by first | exact VG.out.below hb1 | exact (VG.out.alloc _).below hb1 | exact ((VG.out.alloc _).alloc _).below hb1 | exact (VG.out.drew).below hb1); clear VG; have VG := K0; clear K0; clear HB; have HB := HBn; clear HBn; clear hb1; have S3 := True.intro))
    obtain ⟨wL, hwL⟩ : ∃ x, x = wn2 := ⟨_, rfl⟩
    rw [← hwL] at VR VG HB ⊢
    clear hwL VS
    go_loopw [5] (fun kx wr => ∃ (j : Nat), kx = .int .i64 ((j : Int) + 1) ∧ j ≤ 7 ∧ Hid (Below wL.heap.size wL wr)) (fun kx _ => 10 - (intOf kx).toNat)
    case atStart => exact ⟨0, rfl, by omega, Below.refl _ _⟩
    case round =>
      obtain ⟨j, rfl, hj7, HL⟩ := hrel
      have hzL := HL.out.size
      by_cases hlt : j + 1 < Z.length
      · obtain ⟨-, hg1, c1, g1, o1, hc1, hf1⟩ := (VG.out.below HL.out).at j (by omega)
        obtain ⟨-, hg2, c2, g2, o2, hc2, hf2⟩ := (VG.out.below HL.out).at (j + 1) hlt
        have HF1 := Lib.hid hf1
        have HF2 := Lib.hid hf2
        obtain ⟨hl1, hs1⟩ := OKZ.out.at j (by omega)
        obtain ⟨hl2, hs2⟩ := OKZ.out.at (j + 1) hlt
        have hle := ADJ.out j _ _ (List.getElem?_eq_getElem (by omega)) (List.getElem?_eq_getElem hlt)
        obtain ⟨K, hK⟩ : ∃ K, Z[j]'(by omega) = K := ⟨_, rfl⟩
        obtain ⟨M, hM⟩ : ∃ K, Z[j + 1] = K := ⟨_, rfl⟩
        rw [hK] at hc1 HF1 hl1 hs1 hle
        rw [hM] at hc2 HF2 hl2 hs2 hle
        clear hK hM hf1 hf2
        have CE := Lib.hid (fun W hA hB => rowOrderI (some ⟨g1, o1, none⟩) (some ⟨g2, o2, none⟩) g1 o1 g2 o2 c1 c2 K M W hA hB hl1 hl2 hs1 hs2)
        obtain ⟨kl, hkl⟩ : ∃ n, K.length = n := ⟨_, rfl⟩
        obtain ⟨ml, hml⟩ : ∃ n, M.length = n := ⟨_, rfl⟩
        rw [hkl] at hc1 CE
        rw [hml] at hc2 CE
        obtain ⟨E, hE⟩ : ∃ E, rowI K M = E := ⟨_, rfl⟩
        rw [hE] at CE hle
        clear hkl hml hE hs1 hs2
        simp only [Nat.zero_add] at hc1 hc2
        have hE0 : ¬ (0 < E) := by omega
        have i0' : (0 : Int) ≤ (j : Int) := by omega
        have i1' : (j : Int) < (Z.length : Int) := by omega
        have i2' : (j : Int) + 1 < (Z.length : Int) := by omega
        have i3' : (j : Int) + 1 - 1 = (j : Int) := by omega
        have i4' : IntKind.i64.wrap (j : Int) = (j : Int) := IntWalk.i64_in _ (by omega)
        clear hle
        go_wp2
        go_region_with (go_at_call 35; (with_reducible refine (CE.out _ (by repeat (with_reducible first | exact HF1.out | apply Fl.drew)) (by repeat (with_reducible first | exact HF2.out | apply Fl.drew))).mono ?_); rintro e w1 ⟨rfl, hb1⟩; have HL1 := Lib.hid (HL.out.drew.trans (hb1.mono hzL)); clear hb1 HL)
        all_goals go_wp2
        all_goals exact ⟨⟨j + 1, by go_num, by omega, HL1⟩, by simp [intOf]; omega⟩
      · have i2' : ¬ ((j : Int) + 1 < (Z.length : Int)) := by omega
        have VG1 := Lib.hid (VG.out.below HL.out)
        have VR1 := Lib.hid (VR.out.below HL.out)
        have HB1 := Lib.hid (HB.out.trans (HL.out.mono HB.out.size))
        clear VG VR HB HL
        have VG := VG1
        have VR := VR1
        have HB := HB1
        clear VG1 VR1 HB1
        go_wp2_with (first
          | ((have _ := S3); (fail_if_success (have _ := S4)); go_at_call 36; (with_reducible refine (CB.out _ _ _ _ _ _ _ VG.out VR.out).mono ?_); rintro e wn3 ⟨rfl, hb1⟩; have HBn : Hid (Below w.heap.size w wn3) := Below.trans (by repeat (with_reducible first | exact HB.out | refine Below.alloc ?_ (by first | omega | (have := HB.out.size; omega) | (have := HB.out.size; simp; omega)) _ | apply Below.drew)) (Below.mono hb1 (by have := HB.out.size; first | omega | (simp; omega))); have K0 := Lib.hid (by first | exact VG.out.below hb1 | exact (VG.out.alloc _).below hb1 | exact ((VG.out.alloc _).alloc _).below hb1 | exact (VG.out.drew).below hb1); clear VG; have VG := K0; clear K0; clear HB; have HB := HBn; clear HBn; clear hb1; have S4 := True.intro)
          | ((have _ := S4); (fail_if_success (have _ := S5)); go_at_call 32; (with_reducible refine (CJ.out _ _ _ _ VG.out).mono ?_); rintro e wn4 ⟨gh, ch, Th, rfl, hc, hb1⟩; have HBn : Hid (Below w.heap.size w wn4) := Below.trans (by repeat (with_reducible first | exact HB.out | refine Below.alloc ?_ (by first | omega | (have := HB.out.size; omega) | (have := HB.out.size; simp; omega)) _ | apply Below.drew)) (Below.mono hb1 (by have := HB.out.size; first | omega | (simp; omega))); have K0 := Lib.hid (by first | exact VG.out.below hb1 | exact (VG.out.alloc _).below hb1 | exact ((VG.out.alloc _).alloc _).below hb1 | exact (VG.out.drew).below hb1); clear VG; have VG := K0; clear K0; clear HB; have HB := HBn; clear HBn; have VH := Lib.hid hc.rws; clear hc; clear hb1; have S5 := True.intro)
          | ((have _ := S5); (fail_if_success (have _ := S6)); go_at_call 33; (with_reducible refine (ES.out _ _ _ _ _ _ _ VH.out VG.out).mono ?_); rintro e wn5 ⟨rfl, hb1⟩; have HBn : Hid (Below w.heap.size w wn5) := Below.trans (by repeat (with_reducible first | exact HB.out | refine Below.alloc ?_ (by first | omega | (have := HB.out.size; omega) | (have := HB.out.size; simp; omega)) _ | apply Below.drew)) (Below.mono hb1 (by have := HB.out.size; first | omega | (simp; omega))); clear HB; have HB := HBn; clear HBn; clear hb1; have S6 := True.intro)
          | ((have _ := S6); (fail_if_success (have _ := S7)); go_at_call 21; (with_reducible refine (alive _).mono ?_); rintro e wn6 ⟨rfl, hb1⟩; have HBn : Hid (Below w.heap.size w wn6) := Below.trans (by repeat (with_reducible first | exact HB.out | refine Below.alloc ?_ (by first | omega | (have := HB.out.size; omega) | (have := HB.out.size; simp; omega)) _ | apply Below.drew)) (Below.mono hb1 (by have := HB.out.size; first | omega | (simp; omega))); clear HB; have HB := HBn; clear HBn; clear hb1; have S7 := True.intro))
        all_goals (go_ret; exact ⟨retB (by first | rfl | simp), HB.out⟩)
end Go.Proofs.Ytcddkleglmbfgaa.Val
