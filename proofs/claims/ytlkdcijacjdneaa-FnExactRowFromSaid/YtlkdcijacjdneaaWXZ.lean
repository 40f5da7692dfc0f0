/- The walk of the law FnExactRowFrom. -/
import Derived.Test.YtlkdcijacjdneaaRowRS
import Derived.Test.YtlkdcijacjdneaaRowY
import Derived.Test.YtlkdcijacjdneaaRowN2
import Derived.Test.YtlkdcijacjdneaaToB
namespace Go.Proofs.Ytlkdcijacjdneaa.Val
open Go.RowKit
set_option linter.unusedVariables false
theorem own_vals {w : World} {B n : Nat} {e : TypeId} {v : Value} {vs : List VT} (h : w.ownsRow B e 3 v n (flatV vs)) (hn : n = vs.length) : ∃ (g : Nat) (A : Option Addr) (cap : Nat), v = .slice A n cap ∧ Fl w g 0 A (flatV vs) ∧ (0 < n → B ≤ g) ∧ (0 < n → A = some ⟨g, 0, none⟩) ∧ Fill w g (flatV (marksV n)) 0 := by
  have hlen : (flatV (marksV n)).length = n * 3 := by rw [flatV_len, marksV_len]
  have hl2 : (flatV vs).length = n * 3 := by rw [flatV_len, hn]
  have hh := h
  obtain ⟨g, A, cap, rfl, hf, hB, -, -, -⟩ := fl_of_own h
  refine ⟨g, A, cap, rfl, hf, fun h0 => hB (by omega), fun h0 => hf.ad (by omega), ?_⟩
  by_cases h0 : 0 < n
  · obtain rfl := hf.ad (by omega)
    exact Fill.made hh hlen
  · intro j hj
    omega
theorem bat_keep {w W : World} {A : Option Addr} {l : List UInt8} (h : BAt w A l) (hb : Below w.heap.size w W) : BAt W A l := by
  intro h0
  obtain ⟨g, off, e, hc⟩ := h h0
  refine ⟨g, off, e, fun i hi => ?_⟩
  rw [hb.cell (p := ⟨g, off + i, none⟩) (World.block_lt_of_cell? w ⟨g, off + i, none⟩ (hc i hi))]
  exact hc i hi
theorem Fill.only {w w' : World} {H m r : Nat} {xs : List Value} (h : Fill w H xs m) (ho : Only r w w') (hr : 0 < xs.length → H ≠ r) : Fill w' H xs m := by
  intro j hj
  obtain ⟨⟨v, hv⟩, hf, hc⟩ := h j hj
  have hg := World.block_lt_of_cell? w _ hv
  have hne := hr (by omega)
  exact ⟨⟨v, (ho.cell _ _ hg hne).trans hv⟩, (ho.frozen _ _ hg hne).trans hf, fun hjm => (ho.cell _ _ hg hne).trans (hc hjm)⟩
theorem mark_below {w W w' : World} {g n : Nat} (hB : Below w.heap.size w W) (ho : Only g W w') (hz : n = 0 → w' = W) (hg : 0 < n → w.heap.size ≤ g) : Below w.heap.size w w' := by
  by_cases hn : n = 0
  · rw [hz hn]; exact hB
  · exact hB.trans (ho.below (hg (by omega)) hB.size)
theorem fl_mark {W w' : World} {g o gx n : Nat} {A : Option Addr} {xs : List Value} (h : Fl W g o A xs) (ho : Only gx W w') (hz : n = 0 → w' = W) (hne : 0 < n → 0 < xs.length → g ≠ gx) : Fl w' g o A xs := by
  by_cases hn : n = 0
  · rw [hz hn]; exact h
  · exact h.only ho (hne (by omega))
theorem rpost_is (l : List UInt8) : ∃ (vs : List VT) (m : Nat), vs.length ≤ 4 ∧ (0 < vs.length → 0 < l.length) ∧ ∀ w e w', RPost (rfO l) w e w' → ∃ v, e = .returned (.tuple #[v, .int .i64 m]) ∧ w'.ownsRow w.heap.size 59 3 v vs.length (flatV vs) ∧ Below w.heap.size w w' := by
  rcases hf : rfO l with _ | ⟨vs, m⟩
  · exact ⟨[], 0, by simp, fun h => absurd h (by simp), fun w e w' h => h⟩
  · obtain ⟨hB, -, hm0, hml⟩ := rfO_some hf
    have hv4 : vs.length ≤ 4 := by simp only [rowB, Bool.and_eq_true, decide_eq_true_eq] at hB; exact hB.1
    exact ⟨vs, m, hv4, fun _ => by omega, fun w e w' h => h⟩
set_option maxHeartbeats 4000000 in
theorem walk_FnExactRowFrom (a : Option Addr) (len cap : Nat) (zs : List Int) (w : World) (h : IsRow .u8 w a len cap zs) :
    Calls Try.prog 14 #[.slice a len cap] w fun e w' => e = .returned (.bool true) ∧ Below w.heap.size w w' := by
  by_cases hl : 1048576 < len
  · clear h
    go_enter Try.func14, Try.ntmps14
    go_wp2
    go_ret
    exact ⟨rfl, Below.refl _ _⟩
  · obtain ⟨l, rfl, hbat⟩ := bat_of_row h
    have HA := Lib.hid hbat
    clear h hbat
    have HB := Lib.hid (Below.refl w.heap.size w)
    have S0 := True.intro
    obtain ⟨vs, m, hv4, hvl, hpost⟩ := rpost_is l
    have HVL := Lib.hid hvl
    clear hvl
    have T1 := Lib.hid (fun W hW => toByteS a cap l W hW (by omega))
    have CS := Lib.hid (fun W g A c hW h1 h2 => (rowFromS A g c l W hW (by omega) h1 h2).mono (hpost W))
    have CI := Lib.hid (fun W g A c hW h1 h2 => (rowFromI A g c l W hW (by omega) h1 h2).mono (hpost W))
    have EV := Lib.hid (fun W g g' A B c c' hA hB => eqValueS A B g g' 0 0 c c' vs W hA hB (by omega))
    have EB := Lib.hid (fun W A B g g' c c' hA hB => eqBytes A B g g' c c' l l W hA hB (by omega) (by omega))
    have eqq : (l == l) = true := by simp
    rw [eqq] at EB
    have MB := Lib.hid (fun W A g c hA => markBytesL A g c l W hA (by omega))
    have MV := Lib.hid (fun W A g c hA hF => markValueSP A g c vs.length W (by omega) hA hF)
    have QV := Lib.hid (fun W A g c hF => heldValueS A g c vs.length W (by omega) hF)
    have hfl := flatV_len vs
    have hml : (flatV (marksV vs.length)).length = vs.length * 3 := by rw [flatV_len, marksV_len]
    have hk0 : ¬ ((1 : Int) + (l.length : Int) < 0) := by omega
    have hk1 : ¬ ((1 : Int) + 3 * (vs.length : Int) < 0) := by omega
    have em : ((m : Int) != (m : Int)) = false := by simp
    clear eqq hpost
    go_enter Try.func14, Try.ntmps14
    go_wp2_with (first
      | ((have _ := S0); (fail_if_success (have _ := S1)); go_at_call 46; (with_reducible refine (T1.out _ (bat_keep HA.out HB.out)).mono ?_); rintro e wn0 ⟨ga, ca, rfl, hra, hca, hca2, hga, hb1⟩; have HBn : Hid (Below w.heap.size w wn0) := Below.trans (by repeat (with_reducible first | exact HB.out | refine Below.alloc ?_ (by first | omega | (have := HB.out.size; omega) | (have := HB.out.size; simp; omega)) _ | apply Below.drew)) (Below.mono hb1 (by have := HB.out.size; first | omega | (simp; omega))); clear HB; have HB := HBn; clear HBn; have HRA := Lib.hid hra; clear hra hga; clear hb1; have S1 := True.intro)
      | ((have _ := S1); (fail_if_success (have _ := S2)); go_at_call 35; (with_reducible refine (CS.out _ _ _ _ HRA.out.toO hca hca2).mono ?_); rintro e wn1 ⟨v1, rfl, hown1, hb1⟩; have HBn : Hid (Below w.heap.size w wn1) := Below.trans (by repeat (with_reducible first | exact HB.out | refine Below.alloc ?_ (by first | omega | (have := HB.out.size; omega) | (have := HB.out.size; simp; omega)) _ | apply Below.drew)) (Below.mono hb1 (by have := HB.out.size; first | omega | (simp; omega))); clear HB; have HB := HBn; clear HBn; obtain ⟨gw, Aw, cw, rfl, hw, -, -, -⟩ := own_vals hown1 rfl; have HW := Lib.hid hw; have hw1 := Lib.hid (fun (h0 : 0 < (flatV vs).length) => hw.lt h0); have hzw1 := HB.out.size; clear hown1 hw; clear hb1; have S2 := True.intro)
      | ((have _ := S2); (fail_if_success (have _ := S3)); go_at_call 46; (with_reducible refine (T1.out _ (bat_keep HA.out HB.out)).mono ?_); rintro e wn2 ⟨gx, cx, rfl, hrx, hcx, hcx2, hgx, hb1⟩; have HBn : Hid (Below w.heap.size w wn2) := Below.trans (by repeat (with_reducible first | exact HB.out | refine Below.alloc ?_ (by first | omega | (have := HB.out.size; omega) | (have := HB.out.size; simp; omega)) _ | apply Below.drew)) (Below.mono hb1 (by have := HB.out.size; first | omega | (simp; omega))); have K0 := Lib.hid (Fl.below (by (repeat (with_reducible first | exact HW.out | apply Fl.alloc | apply Fl.drew))) hb1); clear HW; have HW := K0; clear K0; clear HB; have HB := HBn; clear HBn; have HX := Lib.hid hrx; have HNX := Lib.hid hgx; have HLX := Lib.hid (fun (h0 : 0 < l.length) => hrx.lt h0); have hz12 := hb1.size; clear hrx hgx; clear hb1; have S3 := True.intro)
      | ((have _ := S3); (fail_if_success (have _ := S4)); go_at_call 33; (with_reducible refine (CI.out _ _ _ _ HX.out.toO hcx hcx2).mono ?_); rintro e wn3 ⟨v3, rfl, hown3, hb1⟩; have HBn : Hid (Below w.heap.size w wn3) := Below.trans (by repeat (with_reducible first | exact HB.out | refine Below.alloc ?_ (by first | omega | (have := HB.out.size; omega) | (have := HB.out.size; simp; omega)) _ | apply Below.drew)) (Below.mono hb1 (by have := HB.out.size; first | omega | (simp; omega))); have K0 := Lib.hid (Fl.below (by (repeat (with_reducible first | exact HW.out | apply Fl.alloc | apply Fl.drew))) hb1); clear HW; have HW := K0; clear K0; have K0 := Lib.hid (RowAt.below (by (repeat (with_reducible first | exact HX.out | apply RowAt.alloc | apply RowAt.drew))) hb1); clear HX; have HX := K0; clear K0; clear HB; have HB := HBn; clear HBn; obtain ⟨gg, Ag, cg, rfl, hg, hgg, hgA, hgF⟩ := own_vals hown3 rfl; have HG := Lib.hid hg; have FR := Lib.hid hgF; have HNG := Lib.hid hgg; have HGA := Lib.hid hgA; clear hown3 hg hgg hgF hgA; clear hb1; have S4 := True.intro)
      | ((have _ := S4); (fail_if_success (have _ := S5)); go_at_call 41; (with_reducible refine (EV.out _ _ _ _ _ _ _ HG.out HW.out).mono ?_); rintro e wn4 ⟨rfl, hb1⟩; have HBn : Hid (Below w.heap.size w wn4) := Below.trans (by repeat (with_reducible first | exact HB.out | refine Below.alloc ?_ (by first | omega | (have := HB.out.size; omega) | (have := HB.out.size; simp; omega)) _ | apply Below.drew)) (Below.mono hb1 (by have := HB.out.size; first | omega | (simp; omega))); have K0 := Lib.hid (Fl.below (by (repeat (with_reducible first | exact HG.out | apply Fl.alloc | apply Fl.drew))) hb1); clear HG; have HG := K0; clear K0; have K0 := Lib.hid (Fl.below (by (repeat (with_reducible first | exact HW.out | apply Fl.alloc | apply Fl.drew))) hb1); clear HW; have HW := K0; clear K0; have K0 := Lib.hid (RowAt.below (by (repeat (with_reducible first | exact HX.out | apply RowAt.alloc | apply RowAt.drew))) hb1); clear HX; have HX := K0; clear K0; clear HB; have HB := HBn; clear HBn; have FRn := Lib.hid (FR.out.below hb1); clear FR; have FR := FRn; clear FRn; clear hb1; have S5 := True.intro)
      | ((have _ := S5); (fail_if_success (have _ := S6)); go_at_call 46; (with_reducible refine (T1.out _ (bat_keep HA.out HB.out)).mono ?_); rintro e wn5 ⟨gz, cz, rfl, hz, -, -, -, hb1⟩; have HBn : Hid (Below w.heap.size w wn5) := Below.trans (by repeat (with_reducible first | exact HB.out | refine Below.alloc ?_ (by first | omega | (have := HB.out.size; omega) | (have := HB.out.size; simp; omega)) _ | apply Below.drew)) (Below.mono hb1 (by have := HB.out.size; first | omega | (simp; omega))); have K0 := Lib.hid (Fl.below (by (repeat (with_reducible first | exact HG.out | apply Fl.alloc | apply Fl.drew))) hb1); clear HG; have HG := K0; clear K0; have K0 := Lib.hid (Fl.below (by (repeat (with_reducible first | exact HW.out | apply Fl.alloc | apply Fl.drew))) hb1); clear HW; have HW := K0; clear K0; have K0 := Lib.hid (RowAt.below (by (repeat (with_reducible first | exact HX.out | apply RowAt.alloc | apply RowAt.drew))) hb1); clear HX; have HX := K0; clear K0; clear HB; have HB := HBn; clear HBn; have HZ := Lib.hid hz; have FRn := Lib.hid (FR.out.below hb1); clear FR hz; have FR := FRn; clear FRn; clear hb1; have S6 := True.intro)
      | ((have _ := S6); (fail_if_success (have _ := S7)); go_at_call 42; (with_reducible refine (EB.out _ _ _ _ _ _ _ HX.out HZ.out).mono ?_); rintro e wn6 ⟨rfl, hb1⟩; have HBn : Hid (Below w.heap.size w wn6) := Below.trans (by repeat (with_reducible first | exact HB.out | refine Below.alloc ?_ (by first | omega | (have := HB.out.size; omega) | (have := HB.out.size; simp; omega)) _ | apply Below.drew)) (Below.mono hb1 (by have := HB.out.size; first | omega | (simp; omega))); have K0 := Lib.hid (Fl.below (by (repeat (with_reducible first | exact HG.out | apply Fl.alloc | apply Fl.drew))) hb1); clear HG; have HG := K0; clear K0; have K0 := Lib.hid (Fl.below (by (repeat (with_reducible first | exact HW.out | apply Fl.alloc | apply Fl.drew))) hb1); clear HW; have HW := K0; clear K0; have K0 := Lib.hid (RowAt.below (by (repeat (with_reducible first | exact HX.out | apply RowAt.alloc | apply RowAt.drew))) hb1); clear HX; have HX := K0; clear K0; clear HB; have HB := HBn; clear HBn; have FRn := Lib.hid (FR.out.below hb1); clear FR; have FR := FRn; clear FRn; clear hb1; have S7 := True.intro)
      | ((have _ := S7); (fail_if_success (have _ := S8)); go_at_call 44; (with_reducible refine (MB.out _ _ _ _ HX.out).mono ?_); rintro e wn7 ⟨rfl, ho⟩; have HGn := Lib.hid (HG.out.only ho (fun h1 => by have := HNG.out (by omega); have := HLX.out (HVL.out (by omega)); omega)); have HWn := Lib.hid (HW.out.only ho (fun h1 => by have := hw1.out h1; have := HNX.out; omega)); have FRn := Lib.hid (FR.out.only ho (fun h1 => by have := HNG.out (by omega); have := HLX.out (HVL.out (by omega)); omega)); have HBn := Lib.hid (HB.out.trans (ho.below (by have := HNX.out; omega) HB.out.size)); clear HG HW FR HB HX ho; have HG := HGn; have HW := HWn; have FR := FRn; have HB := HBn; clear HGn HWn FRn HBn; have S8 := True.intro)
      | ((have _ := S8); (fail_if_success (have _ := S9)); go_at_call 41; (with_reducible refine (EV.out _ _ _ _ _ _ _ HG.out HW.out).mono ?_); rintro e wn8 ⟨rfl, hb1⟩; have HBn : Hid (Below w.heap.size w wn8) := Below.trans (by repeat (with_reducible first | exact HB.out | refine Below.alloc ?_ (by first | omega | (have := HB.out.size; omega) | (have := HB.out.size; simp; omega)) _ | apply Below.drew)) (Below.mono hb1 (by have := HB.out.size; first | omega | (simp; omega))); have K0 := Lib.hid (Fl.below (by (repeat (with_reducible first | exact HG.out | apply Fl.alloc | apply Fl.drew))) hb1); clear HG; have HG := K0; clear K0; have K0 := Lib.hid (Fl.below (by (repeat (with_reducible first | exact HW.out | apply Fl.alloc | apply Fl.drew))) hb1); clear HW; have HW := K0; clear K0; clear HB; have HB := HBn; clear HBn; have FRn := Lib.hid (FR.out.below hb1); clear FR; have FR := FRn; clear FRn; clear hb1; have S9 := True.intro)
      | ((have _ := S9); (fail_if_success (have _ := S10)); go_at_call 43; (with_reducible refine (MV.out _ _ _ _ HGA.out FR.out).mono ?_); rintro e wn9 ⟨rfl, hz, ho, hm⟩; have HM := Lib.hid (show Fl wn9 gg 0 Ag (flatV (marksV vs.length)) from ⟨fun h1 => HGA.out (by omega), fun j hj => by rw [Nat.zero_add]; exact (hm j hj).2.2 (by omega)⟩); have HWn := Lib.hid (fl_mark HW.out ho hz (fun h1 h2 => by have := hw1.out h2; have := HNG.out h1; omega)); have HBn := Lib.hid (mark_below HB.out ho hz (fun h1 => by have := HNG.out h1; omega)); clear HW HG FR HB ho hz hm; have HW := HWn; have HB := HBn; clear HWn HBn; have S10 := True.intro)
      | ((have _ := S10); (fail_if_success (have _ := S11)); go_at_call 47; (with_reducible refine (QV.out _ _ _ _ HM.out).mono ?_); rintro e wn10 ⟨rfl, hb1⟩; have HBn : Hid (Below w.heap.size w wn10) := Below.trans (by repeat (with_reducible first | exact HB.out | refine Below.alloc ?_ (by first | omega | (have := HB.out.size; omega) | (have := HB.out.size; simp; omega)) _ | apply Below.drew)) (Below.mono hb1 (by have := HB.out.size; first | omega | (simp; omega))); have K0 := Lib.hid (Fl.below (by (repeat (with_reducible first | exact HM.out | apply Fl.alloc | apply Fl.drew))) hb1); clear HM; have HM := K0; clear K0; have K0 := Lib.hid (Fl.below (by (repeat (with_reducible first | exact HW.out | apply Fl.alloc | apply Fl.drew))) hb1); clear HW; have HW := K0; clear K0; clear HB; have HB := HBn; clear HBn; clear hb1; have S11 := True.intro)
      | ((have _ := S11); (fail_if_success (have _ := S12)); go_at_call 46; (with_reducible refine (T1.out _ (bat_keep HA.out HB.out)).mono ?_); rintro e wn11 ⟨gt, ct, rfl, hrt, hct, hct2, -, hb1⟩; have HBn : Hid (Below w.heap.size w wn11) := Below.trans (by repeat (with_reducible first | exact HB.out | refine Below.alloc ?_ (by first | omega | (have := HB.out.size; omega) | (have := HB.out.size; simp; omega)) _ | apply Below.drew)) (Below.mono hb1 (by have := HB.out.size; first | omega | (simp; omega))); have K0 := Lib.hid (Fl.below (by (repeat (with_reducible first | exact HM.out | apply Fl.alloc | apply Fl.drew))) hb1); clear HM; have HM := K0; clear K0; have K0 := Lib.hid (Fl.below (by (repeat (with_reducible first | exact HW.out | apply Fl.alloc | apply Fl.drew))) hb1); clear HW; have HW := K0; clear K0; clear HB; have HB := HBn; clear HBn; have HT := Lib.hid hrt; clear hrt; clear hb1; have S12 := True.intro)
      | ((have _ := S12); (fail_if_success (have _ := S13)); go_at_call 33; (with_reducible refine (CI.out _ _ _ _ HT.out.toO hct hct2).mono ?_); rintro e wn12 ⟨v12, rfl, hown12, hb1⟩; have HBn : Hid (Below w.heap.size w wn12) := Below.trans (by repeat (with_reducible first | exact HB.out | refine Below.alloc ?_ (by first | omega | (have := HB.out.size; omega) | (have := HB.out.size; simp; omega)) _ | apply Below.drew)) (Below.mono hb1 (by have := HB.out.size; first | omega | (simp; omega))); have K0 := Lib.hid (Fl.below (by (repeat (with_reducible first | exact HM.out | apply Fl.alloc | apply Fl.drew))) hb1); clear HM; have HM := K0; clear K0; have K0 := Lib.hid (Fl.below (by (repeat (with_reducible first | exact HW.out | apply Fl.alloc | apply Fl.drew))) hb1); clear HW; have HW := K0; clear K0; clear HB; have HB := HBn; clear HBn; obtain ⟨gh, Ah, ch, rfl, hh, -, -, -⟩ := own_vals hown12 rfl; have HH := Lib.hid hh; clear hown12 hh; clear hb1; have S13 := True.intro)
      | ((have _ := S13); (fail_if_success (have _ := S14)); go_at_call 41; (with_reducible refine (EV.out _ _ _ _ _ _ _ HH.out HW.out).mono ?_); rintro e wn13 ⟨rfl, hb1⟩; have HBn : Hid (Below w.heap.size w wn13) := Below.trans (by repeat (with_reducible first | exact HB.out | refine Below.alloc ?_ (by first | omega | (have := HB.out.size; omega) | (have := HB.out.size; simp; omega)) _ | apply Below.drew)) (Below.mono hb1 (by have := HB.out.size; first | omega | (simp; omega))); have K0 := Lib.hid (Fl.below (by (repeat (with_reducible first | exact HM.out | apply Fl.alloc | apply Fl.drew))) hb1); clear HM; have HM := K0; clear K0; clear HB; have HB := HBn; clear HBn; clear hb1; have S14 := True.intro)
      | ((have _ := S14); (fail_if_success (have _ := S15)); go_at_call 47; (with_reducible refine (QV.out _ _ _ _ HM.out).mono ?_); rintro e wn14 ⟨rfl, hb1⟩; have HBn : Hid (Below w.heap.size w wn14) := Below.trans (by repeat (with_reducible first | exact HB.out | refine Below.alloc ?_ (by first | omega | (have := HB.out.size; omega) | (have := HB.out.size; simp; omega)) _ | apply Below.drew)) (Below.mono hb1 (by have := HB.out.size; first | omega | (simp; omega))); clear HB; have HB := HBn; clear HBn; clear hb1; have S15 := True.intro))
    all_goals (go_ret; exact ⟨retB (by first | rfl | simp), HB.out⟩)
end Go.Proofs.Ytlkdcijacjdneaa.Val
