/- The walk of the law FnBatchesOf. -/
import Derived.Test.YtjidkjnlnenmbaaBatNQ
import Derived.Test.YtjidkjnlnenmbaaAliveQ
import Derived.Deep.RegionHeldLaw
import Derived.IntWalk
namespace Go.Proofs.Ytjidkjnlnenmbaa.Val
open Go.RowKit
set_option linter.unusedVariables false
set_option linter.unusedSimpArgs false
set_option maxRecDepth 8000
/-- What lies while two batches of two lists are compared: their headers. -/
theorem keep5 {w W W1 : World} {a b p q : Nat} {x y z u : Value} (h : W.cell? ⟨a, p, none⟩ = some x ∧ W.cell? ⟨a, p + 1, none⟩ = some y ∧ W.cell? ⟨b, q, none⟩ = some z ∧ W.cell? ⟨b, q + 1, none⟩ = some u ∧ Below w.heap.size w W ∧ w.heap.size ≤ W.heap.size) (hb : Below W.heap.size W W1) :
    W1.cell? ⟨a, p, none⟩ = some x ∧ W1.cell? ⟨a, p + 1, none⟩ = some y ∧ W1.cell? ⟨b, q, none⟩ = some z ∧ W1.cell? ⟨b, q + 1, none⟩ = some u ∧ Below w.heap.size w W1 ∧ w.heap.size ≤ W1.heap.size := by
  obtain ⟨h1, h2, h3, h4, h5, h6⟩ := h
  have hc := fun b q x (h : W.cell? ⟨b, q, none⟩ = some x) => (hb.cell (p := ⟨b, q, none⟩) (World.block_lt_of_cell? W ⟨b, q, none⟩ h)).trans h
  exact ⟨hc _ _ _ h1, hc _ _ _ h2, hc _ _ _ h3, hc _ _ _ h4, h5.trans (hb.mono h6), Nat.le_trans h6 hb.size⟩
theorem keep5D {w W : World} {a b p q : Nat} {x y z u : Value} (h : W.cell? ⟨a, p, none⟩ = some x ∧ W.cell? ⟨a, p + 1, none⟩ = some y ∧ W.cell? ⟨b, q, none⟩ = some z ∧ W.cell? ⟨b, q + 1, none⟩ = some u ∧ Below w.heap.size w W ∧ w.heap.size ≤ W.heap.size) :
    W.drew.cell? ⟨a, p, none⟩ = some x ∧ W.drew.cell? ⟨a, p + 1, none⟩ = some y ∧ W.drew.cell? ⟨b, q, none⟩ = some z ∧ W.drew.cell? ⟨b, q + 1, none⟩ = some u ∧ Below w.heap.size w W.drew ∧ w.heap.size ≤ W.drew.heap.size := keep5 h ((Below.refl _ _).drew)
theorem keep5B {w W : World} {a b p q : Nat} {x y z u : Value} (h : W.cell? ⟨a, p, none⟩ = some x ∧ W.cell? ⟨a, p + 1, none⟩ = some y ∧ W.cell? ⟨b, q, none⟩ = some z ∧ W.cell? ⟨b, q + 1, none⟩ = some u ∧ Below w.heap.size w W ∧ w.heap.size ≤ W.heap.size) : Below w.heap.size w W := h.2.2.2.2.1
theorem keep5W {w W : World} {a b p q : Nat} {x y z u : Value} (h : W.cell? ⟨a, p, none⟩ = some x ∧ W.cell? ⟨a, p + 1, none⟩ = some y ∧ W.cell? ⟨b, q, none⟩ = some z ∧ W.cell? ⟨b, q + 1, none⟩ = some u ∧ Below w.heap.size w W ∧ w.heap.size ≤ W.heap.size) : W.cell? ⟨a, p, none⟩ = some x ∧ W.cell? ⟨a, p + 1, none⟩ = some y := ⟨h.1, h.2.1⟩
theorem sameBatchEnters (vs : Array Value) (w : World) : (callFunc 48 vs).run Try.prog w = .ok (.enter 48 vs) w := by
  go_simp
theorem cut_last {n s k : Nat} (h1 : 1 ≤ s) (h4 : s ≤ 4) (hk : k + 1 < (n + s - 1) / s) : k * s + s ≤ n := by
  rcases (by omega : s = 1 ∨ s = 2 ∨ s = 3 ∨ s = 4) with rfl | rfl | rfl | rfl <;> omega
theorem cut_all {n s : Nat} (h1 : 1 ≤ s) (h4 : s ≤ 4) : n ≤ (n + s - 1) / s * s := by
  rcases (by omega : s = 1 ∨ s = 2 ∨ s = 3 ∨ s = 4) with rfl | rfl | rfl | rfl <;> omega
set_option maxHeartbeats 8000000 in
theorem walk_FnBatchesOf (a : Option Addr) (len cap : Nat) (zs : List Int) (w : World) (h : IsRow .u8 w a len cap zs) :
    Calls Try.prog 9 #[.slice a len cap] w fun e w' => e = .returned (.bool true) ∧ Below w.heap.size w w' := by
  by_cases hl : 1048576 < len
  · clear h
    go_enter Try.func9, Try.ntmps9
    go_wp2
    go_ret
    exact ⟨rfl, Below.refl _ _⟩
  · have HI := Lib.hid h
    clear h
    go_enter Try.func9, Try.ntmps9
    go_wp2_with (go_at_call 47; (with_reducible refine (drawBatchesOf _ _ _ zs _ HI.out).mono ?_); rintro e wd ⟨g, c, g2, c2, cs, ls, s, rfl, ⟨hs0, hs5⟩, hc6, hfc, hv, hbd⟩; have HC := Lib.hid hfc; have VR := Lib.hid hv.1; have SM := Lib.hid hv.2.1; have hcap := hv.2.2; have HB := Lib.hid hbd; clear hv hbd hfc)
    have S0 := True.intro
    obtain ⟨hcap1, hcap2⟩ := hcap
    have OKL := Lib.hid SM.out.ok
    have hl6 := SM.out.1
    have htot : total ls ≤ 660 := by
      have : ∀ (l : List RT), (∀ r ∈ l, r.length ≤ 110) → total l ≤ 110 * l.length := by
        intro l
        induction l with
        | nil => intro _; simp [total]
        | cons x l ih =>
          intro hx
          have h1 := hx x (by simp)
          have h2 := ih (fun r hr => hx r (by simp [hr]))
          simp only [total, List.map_cons, List.sum_cons, List.length_cons] at h2 ⊢
          omega
      have := this ls (fun r hr => (SM.out.2 r hr).1)
      omega
    obtain ⟨OKZ, -, hzl⟩ := bats_small cs ls s OKL.out (by omega) (by omega)
    have CI := Lib.hid (fun W hA hB => batchesOfI (some ⟨g, 0, none⟩) (some ⟨g2, 0, none⟩) g 0 g2 0 c c2 cs ls s W hA hB (by omega) OKL.out hcap1 hcap2)
    have CS := Lib.hid (fun W hA hB => batchesOfS (some ⟨g, 0, none⟩) (some ⟨g2, 0, none⟩) g 0 g2 0 c c2 cs ls s W hA hB (by omega) OKL.out hcap1 hcap2)
    have CR := Lib.hid (fun W hA hB => rowsOkI (some ⟨g, 0, none⟩) (some ⟨g2, 0, none⟩) g 0 g2 0 c c2 cs ls W hA hB (by omega) OKL.out)
    unfold RetBLN at CI
    unfold RetBLs at CS
    have OKZ' := Lib.hid OKZ
    clear OKZ
    by_cases hE : rowsB cs ls = true ∧ 1 ≤ s ∧ s ≤ 4
    rotate_left
    · have hz : batsI cs ls s = [] := by unfold batsI; rw [if_neg hE]
      rw [hz] at CI CS
      have e0 : ((0 : Int) != 0) = false := by simp
      go_wp2_with (first
        | ((have _ := S0); (fail_if_success (have _ := S1)); go_at_call 28; (with_reducible refine (CI.out _ HC.out VR.out).mono ?_); rintro e wn0 ⟨Ag, gg, cg, Ug, ⟨rfl, hc⟩, hb1⟩; have HBn : Hid (Below w.heap.size w wn0) := Below.trans (by repeat (with_reducible first | exact HB.out | refine Below.alloc ?_ (by first | omega | (have := HB.out.size; omega) | (simp; done) | (have := HB.out.size; simp; omega)) _ | apply Below.drew)) (Below.mono hb1 (by have := HB.out.size; first | omega | (simp; omega))); have K0 := Lib.hid (Fl.below (by (repeat (with_reducible first | exact HC.out | apply Fl.alloc | apply Fl.drew))) hb1); clear HC; have HC := K0; clear K0; have K0 := Lib.hid (by first | exact VR.out.below hb1 | exact (VR.out.alloc _).below hb1 | exact ((VR.out.alloc _).alloc _).below hb1 | exact (VR.out.drew).below hb1); clear VR; have VR := K0; clear K0; clear HB; have HB := HBn; clear HBn; clear hc; clear hb1; have S1 := True.intro)
        | ((have _ := S1); (fail_if_success (have _ := S2)); go_at_call 25; (with_reducible refine (CS.out _ HC.out VR.out).mono ?_); rintro e wn1 ⟨gs, cs9, Us, ⟨rfl, hc⟩, hb1⟩; have HBn : Hid (Below w.heap.size w wn1) := Below.trans (by repeat (with_reducible first | exact HB.out | refine Below.alloc ?_ (by first | omega | (have := HB.out.size; omega) | (simp; done) | (have := HB.out.size; simp; omega)) _ | apply Below.drew)) (Below.mono hb1 (by have := HB.out.size; first | omega | (simp; omega))); have K0 := Lib.hid (Fl.below (by (repeat (with_reducible first | exact HC.out | apply Fl.alloc | apply Fl.drew))) hb1); clear HC; have HC := K0; clear K0; have K0 := Lib.hid (by first | exact VR.out.below hb1 | exact (VR.out.alloc _).below hb1 | exact ((VR.out.alloc _).alloc _).below hb1 | exact (VR.out.drew).below hb1); clear VR; have VR := K0; clear K0; clear HB; have HB := HBn; clear HBn; clear hc; clear hb1; have S2 := True.intro))
      obtain ⟨wL, hwL⟩ : ∃ x, x = wn1 := ⟨_, rfl⟩
      rw [← hwL] at VR HC HB ⊢
      clear hwL
      go_loopw [8, 9] (fun ox kx wr => kx = .int .i64 0 ∧ ox = .slice (some ⟨wL.heap.size, 0, none⟩) 0 0 ∧ Hid (Rws wr wL.heap.size 0 (some ⟨wL.heap.size, 0, none⟩) []) ∧ Hid (Below wL.heap.size wL wr)) (fun _ _ _ => 0)
      case atStart => exact ⟨rfl, rfl, ⟨fun _ => rfl, fun j hj => absurd hj (by simp)⟩, (Below.refl _ _).alloc (Nat.le_refl _) _⟩
      case round =>
        obtain ⟨rfl, rfl, HR, HL⟩ := hrel
        have VR1 := Lib.hid (VR.out.below HL.out)
        have HC1 := Lib.hid (HC.out.below HL.out)
        have HB1 := Lib.hid (HB.out.trans (HL.out.mono HB.out.size))
        clear VR HC HB HL
        have VR := VR1
        have HC := HC1
        have HB := HB1
        clear VR1 HC1 HB1
        have S2 := True.intro
        obtain ⟨E, hEE⟩ : ∃ E, rowsB cs ls = E := ⟨_, rfl⟩
        rw [hEE] at CR hE
        clear hEE
        cases E with
        | false =>
          go_wp2_with (first
            | ((have _ := S2); (fail_if_success (have _ := S3)); go_at_call 50; (with_reducible refine (CR.out _ HC.out VR.out).mono ?_); rintro e wn2 ⟨rfl, hb1⟩; have HBn : Hid (Below w.heap.size w wn2) := Below.trans (by repeat (with_reducible first | exact HB.out | refine Below.alloc ?_ (by first | omega | (have := HB.out.size; omega) | (simp; done) | (have := HB.out.size; simp; omega)) _ | apply Below.drew)) (Below.mono hb1 (by have := HB.out.size; first | omega | (simp; omega))); clear HB; have HB := HBn; clear HBn; clear hb1; have S3 := True.intro)
            | ((have _ := S3); (fail_if_success (have _ := S4)); go_at_call 44; (with_reducible refine (alive _).mono ?_); rintro e wn3 ⟨rfl, hb1⟩; have HBn : Hid (Below w.heap.size w wn3) := Below.trans (by repeat (with_reducible first | exact HB.out | refine Below.alloc ?_ (by first | omega | (have := HB.out.size; omega) | (simp; done) | (have := HB.out.size; simp; omega)) _ | apply Below.drew)) (Below.mono hb1 (by have := HB.out.size; first | omega | (simp; omega))); clear HB; have HB := HBn; clear HBn; clear hb1; have S4 := True.intro))
          all_goals (go_ret; exact ⟨retB (by first | rfl | simp), HB.out⟩)
        | true =>
          by_cases h1 : s < 1
          · go_wp2_with (first
              | ((have _ := S2); (fail_if_success (have _ := S3)); go_at_call 50; (with_reducible refine (CR.out _ HC.out VR.out).mono ?_); rintro e wn2 ⟨rfl, hb1⟩; have HBn : Hid (Below w.heap.size w wn2) := Below.trans (by repeat (with_reducible first | exact HB.out | refine Below.alloc ?_ (by first | omega | (have := HB.out.size; omega) | (simp; done) | (have := HB.out.size; simp; omega)) _ | apply Below.drew)) (Below.mono hb1 (by have := HB.out.size; first | omega | (simp; omega))); clear HB; have HB := HBn; clear HBn; clear hb1; have S3 := True.intro)
              | ((have _ := S3); (fail_if_success (have _ := S4)); go_at_call 44; (with_reducible refine (alive _).mono ?_); rintro e wn3 ⟨rfl, hb1⟩; have HBn : Hid (Below w.heap.size w wn3) := Below.trans (by repeat (with_reducible first | exact HB.out | refine Below.alloc ?_ (by first | omega | (have := HB.out.size; omega) | (simp; done) | (have := HB.out.size; simp; omega)) _ | apply Below.drew)) (Below.mono hb1 (by have := HB.out.size; first | omega | (simp; omega))); clear HB; have HB := HBn; clear HBn; clear hb1; have S4 := True.intro))
            all_goals (go_ret; exact ⟨retB (by first | rfl | simp), HB.out⟩)
          · have h4 : 4 < s := by simp only [true_and] at hE; omega
            go_wp2_with (first
              | ((have _ := S2); (fail_if_success (have _ := S3)); go_at_call 50; (with_reducible refine (CR.out _ HC.out VR.out).mono ?_); rintro e wn2 ⟨rfl, hb1⟩; have HBn : Hid (Below w.heap.size w wn2) := Below.trans (by repeat (with_reducible first | exact HB.out | refine Below.alloc ?_ (by first | omega | (have := HB.out.size; omega) | (simp; done) | (have := HB.out.size; simp; omega)) _ | apply Below.drew)) (Below.mono hb1 (by have := HB.out.size; first | omega | (simp; omega))); clear HB; have HB := HBn; clear HBn; clear hb1; have S3 := True.intro)
              | ((have _ := S3); (fail_if_success (have _ := S4)); go_at_call 44; (with_reducible refine (alive _).mono ?_); rintro e wn3 ⟨rfl, hb1⟩; have HBn : Hid (Below w.heap.size w wn3) := Below.trans (by repeat (with_reducible first | exact HB.out | refine Below.alloc ?_ (by first | omega | (have := HB.out.size; omega) | (simp; done) | (have := HB.out.size; simp; omega)) _ | apply Below.drew)) (Below.mono hb1 (by have := HB.out.size; first | omega | (simp; omega))); clear HB; have HB := HBn; clear HBn; clear hb1; have S4 := True.intro))
            all_goals (go_ret; exact ⟨retB (by first | rfl | simp), HB.out⟩)
    · obtain ⟨hr, hs1, hs4⟩ := hE
      obtain ⟨S, rfl⟩ : ∃ S : Nat, s = (S : Int) := ⟨s.toNat, by omega⟩
      have h1 : 1 ≤ S := by omega
      have h4 : S ≤ 4 := by omega
      have hm4 := rowsB_col hr
      have HRL := Lib.hid (rowsB_len hr)
      have HRO := Lib.hid (rowsB_ok hr)
      have HZ := Lib.hid (bats_ok hr h1 h4)
      have ES := Lib.hid (fun W g g' A B c c' hA hB => sameRowsL A B g g' 0 0 c c' ls ls W hA hB OKL.out OKL.out)
      rw [decide_eq_true (rfl : ls = ls)] at ES
      rw [hr] at CR
      rw [HZ.out] at CI CS
      have OKZ := Lib.hid (show OkB (cutB cs.length S ls) by rw [← HZ.out]; exact OKZ'.out)
      rw [HZ.out] at hzl
      have HAT := Lib.hid (fun k (hk : k < (cutB cs.length S ls).length) => (show (cutB cs.length S ls)[k] = batK cs.length S ls k by simp [cutB]))
      have HCA := Lib.hid (cut_all (n := ls.length) h1 h4)
      have HCT := Lib.hid (fun k => cut_last (n := ls.length) (s := S) (k := k) h1 h4)
      have HKL := Lib.hid (show (cutB cs.length S ls).length = (ls.length + S - 1) / S by simp [cutB])
      obtain ⟨K9, hK9⟩ : ∃ n, (cutB cs.length S ls).length = n := ⟨_, rfl⟩
      obtain ⟨Z, hZ⟩ : ∃ Z, cutB cs.length S ls = Z := ⟨_, rfl⟩
      have HKZ : Hid (Z.length = K9) := by show _ = _; rw [← hZ, hK9]
      rw [hZ] at CI CS OKZ
      rw [hK9] at HKL hzl
      have HAT2 := Lib.hid (show ∀ k (hk : k < Z.length), Z[k] = batK cs.length S ls k from by rw [← hZ]; exact HAT.out)
      rw [HKZ.out] at CI CS
      clear HAT hZ hK9 OKZ' HZ hs0 hs5 hs1 hs4 hr
      have e0 : ((K9 : Int) != (K9 : Int)) = false := by simp
      go_wp2_with (first
        | ((have _ := S0); (fail_if_success (have _ := S1)); go_at_call 28; (with_reducible refine (CI.out _ HC.out VR.out).mono ?_); rintro e wn0 ⟨Ag, gg, cg, Ug, ⟨rfl, hc⟩, hb1⟩; have HBn : Hid (Below w.heap.size w wn0) := Below.trans (by repeat (with_reducible first | exact HB.out | refine Below.alloc ?_ (by first | omega | (have := HB.out.size; omega) | (simp; done) | (have := HB.out.size; simp; omega)) _ | apply Below.drew)) (Below.mono hb1 (by have := HB.out.size; first | omega | (simp; omega))); have K0 := Lib.hid (Fl.below (by (repeat (with_reducible first | exact HC.out | apply Fl.alloc | apply Fl.drew))) hb1); clear HC; have HC := K0; clear K0; have K0 := Lib.hid (by first | exact VR.out.below hb1 | exact (VR.out.alloc _).below hb1 | exact ((VR.out.alloc _).alloc _).below hb1 | exact (VR.out.drew).below hb1); clear VR; have VR := K0; clear K0; clear HB; have HB := HBn; clear HBn; have VG := Lib.hid hc; clear hc; clear hb1; have S1 := True.intro)
        | ((have _ := S1); (fail_if_success (have _ := S2)); go_at_call 25; (with_reducible refine (CS.out _ HC.out VR.out).mono ?_); rintro e wn1 ⟨gs, cs9, Us, ⟨rfl, hc⟩, hb1⟩; have HBn : Hid (Below w.heap.size w wn1) := Below.trans (by repeat (with_reducible first | exact HB.out | refine Below.alloc ?_ (by first | omega | (have := HB.out.size; omega) | (simp; done) | (have := HB.out.size; simp; omega)) _ | apply Below.drew)) (Below.mono hb1 (by have := HB.out.size; first | omega | (simp; omega))); have K0 := Lib.hid (Fl.below (by (repeat (with_reducible first | exact HC.out | apply Fl.alloc | apply Fl.drew))) hb1); clear HC; have HC := K0; clear K0; have K0 := Lib.hid (by first | exact VR.out.below hb1 | exact (VR.out.alloc _).below hb1 | exact ((VR.out.alloc _).alloc _).below hb1 | exact (VR.out.drew).below hb1); clear VR; have VR := K0; clear K0; have K0 := Lib.hid (by first | exact VG.out.below hb1 | exact (VG.out.alloc _).below hb1 | exact ((VG.out.alloc _).alloc _).below hb1 | exact (VG.out.drew).below hb1); clear VG; have VG := K0; clear K0; clear HB; have HB := HBn; clear HBn; have VS := Lib.hid hc; clear hc; clear hb1; have S2 := True.intro))
      obtain ⟨wL, hwL⟩ : ∃ x, x = wn1 := ⟨_, rfl⟩
      rw [← hwL] at VR HC HB VG VS ⊢
      clear hwL
      go_loopw [8, 9] (fun ox kx wr => ∃ (k gA cA : Nat) (al : List RT), kx = .int .i64 k ∧ k ≤ K9 ∧ ox = .slice (some ⟨gA, 0, none⟩) al.length cA ∧ Hid (al = ls.take (k * S)) ∧ Hid (Rws wr gA 0 (some ⟨gA, 0, none⟩) al) ∧ Hid (Below wL.heap.size wL wr)) (fun _ kx _ => K9 - (intOf kx).toNat)
      case atStart => exact ⟨0, wL.heap.size, 0, [], rfl, Nat.zero_le _, rfl, (show ([] : List RT) = ls.take (0 * S) by simp), ⟨fun _ => rfl, fun j hj => absurd hj (by simp)⟩, (Below.refl _ _).alloc (Nat.le_refl _) _⟩
      case round =>
        obtain ⟨k, gA, cA, al, rfl, hk, rfl, HAL, HR, HL⟩ := hrel
        have hzL := HL.out.size
        by_cases hlt : k < K9
        · have hkz : k < Z.length := by rw [HKZ.out]; exact hlt
          have hvg : (∃ B9, BLs wL B9 gg cg Ug Z) ∧ Ag = some ⟨gg, 0, none⟩ := by
            rcases VG.out with ⟨ha, hb⟩ | ⟨-, -, hz, -⟩
            · exact ⟨⟨_, hb⟩, ha⟩
            · rw [hz] at hkz; simp at hkz
          obtain ⟨⟨B9, hvg1⟩, rfl⟩ := hvg
          obtain ⟨hgg, A1, c1, g1, A2, c9, p2, hc0, hc1, hr1⟩ := (hvg1.below HL.out).at k hkz
          obtain ⟨hgs, B1, d1, h1', B2, d2, h2', hd0, hd1, hr2⟩ := (VS.out.below HL.out).at k hkz
          have HR1 := Lib.hid hr1
          have HR2 := Lib.hid hr2
          obtain ⟨hok1, hok2⟩ := OKZ.out.2 _ (List.getElem_mem hkz)
          rw [HAT2.out k hkz] at hc0 hc1 hd0 hd1 HR1 HR2 hok1 hok2
          have hcl := chk_len S ls k
          have hch : batB (batK cs.length S ls k).1 (batK cs.length S ls k).2.length = true ∧ batR (batK cs.length S ls k).1 (batK cs.length S ls k).2 = chk S ls k := batR_rows hm4 (fun r hr => HRL.out r (chk_mem hr)) (fun r hr => HRO.out r (chk_mem hr)) (by omega)
          have hpl : (batK cs.length S ls k).2.length = min S (ls.length - k * S) := by simp only [batK, List.length_replicate]; exact hcl
          have HTC := Lib.hid (take_chk S ls k)
          rw [← HAL.out] at HTC
          have hxl : (chk S ls k).length ≤ 2000000 := by omega
          have hal : al.length ≤ 2000000 := by rw [HAL.out, List.length_take]; omega
          obtain ⟨X, hX⟩ : ∃ X, chk S ls k = X := ⟨_, rfl⟩
          rw [hX] at hch HTC hxl
          have hpl2 : k + 1 < K9 → (batK cs.length S ls k).2.length = S := fun h => by have := HCT.out k (by rw [← HKL.out]; exact h); omega
          obtain ⟨bk, hbk⟩ : ∃ b, batK cs.length S ls k = b := ⟨_, rfl⟩
          rw [hbk] at hc0 hc1 hd0 hd1 HR1 HR2 hok1 hok2 hch hpl2
          obtain ⟨cols, bs⟩ := bk
          simp only at hc0 hc1 hd0 hd1 HR1 HR2 hok1 hok2 hch hpl2
          have CE := Lib.hid (fun W hA hB => sameBatchL A1 A2 B1 B2 g1 0 c1 p2 0 c9 h1' 0 d1 h2' 0 d2 cols bs W hA hB hok1 hok2)
          have CB := Lib.hid (fun W hA => batchRowsT A1 A2 g1 0 c1 p2 0 c9 cols bs W hA hok1 hok2 hch.1)
          rw [hch.2] at CB
          unfold RetBag at CB
          have CJ := Lib.hid (fun W gx cy hA hB => joinedL gA gx 0 0 cA cy al X W hA hB hal hxl)
          unfold RetRwsL at CJ
          obtain ⟨nl, hnl⟩ : ∃ n, cols.length = n := ⟨_, rfl⟩
          rw [hnl] at hc0 hd0 CE CB
          obtain ⟨nb, hnb⟩ : ∃ n, bs.length = n := ⟨_, rfl⟩
          rw [hnb] at hc1 hd1 CE CB hpl2
          clear hcl hpl hX hbk hnl hnb hr1 hr2 hvg1 hok1 hok2 hch hxl
          have i0' : (0 : Int) ≤ (k : Int) := by omega
          have i1' : (k : Int) < (K9 : Int) := by omega
          have hS : (fun W : World => W.cell? ⟨gg, k * 2, none⟩ = some (.slice A1 nl c1) ∧ W.cell? ⟨gg, k * 2 + 1, none⟩ = some (.slice A2 nb c9) ∧ W.cell? ⟨gs, k * 2, none⟩ = some (.slice B1 nl d1) ∧ W.cell? ⟨gs, k * 2 + 1, none⟩ = some (.slice B2 nb d2) ∧ Below wr.heap.size wr W ∧ wr.heap.size ≤ W.heap.size) wr := ⟨hc0, hc1, hd0, hd1, Below.refl _ _, Nat.le_refl _⟩
          clear hc0 hc1 hd0 hd1
          have wk2 : IntKind.i64.wrap ((k : Int) + 1) = (k : Int) + 1 := IntWalk.i64_in _ (by omega)
          by_cases hk1 : k + 1 < K9
          · have e1 : ((nb : Int) != (S : Int)) = false := by simp; have := hpl2 hk1; omega
            have d9 : decide ((k : Int) + 1 < (K9 : Int)) = true := decide_eq_true (by omega)
            have i2' : (k : Int) + 1 < (K9 : Int) := by omega
            clear hpl2
            go_wp2_with (fail)
            go_region_held_law (fun W : World => W.cell? ⟨gg, k * 2, none⟩ = some (.slice A1 nl c1) ∧ W.cell? ⟨gg, k * 2 + 1, none⟩ = some (.slice A2 nb c9) ∧ W.cell? ⟨gs, k * 2, none⟩ = some (.slice B1 nl d1) ∧ W.cell? ⟨gs, k * 2 + 1, none⟩ = some (.slice B2 nb d2) ∧ Below wr.heap.size wr W ∧ wr.heap.size ≤ W.heap.size) (first | exact keep5 (by assumption) hbq | exact keep5D (by assumption) | assumption) (first | (go_at_call 48; go_loud (with_reducible refine (CE.out _ (HR1.out.below (keep5B (by assumption))) (HR2.out.below (keep5B (by assumption)))).mono ?_); rintro e w1 ⟨rfl, hbq⟩))
            all_goals (have HBR := Lib.hid (keep5B (by assumption)); obtain ⟨q0, q1⟩ := keep5W (by assumption); have hgg2 := Nat.lt_of_lt_of_le hgg HBR.out.size)
            all_goals go_wp2_with (first
              | (go_at_call 18; go_loud (with_reducible refine (CB.out _ (HR1.out.below HBR.out)).mono ?_); rintro e w2 ⟨g5, c5, T5, rfl, hbg, hb2⟩; go_loud (have HBG := Lib.hid hbg.rws; have HR5 := Lib.hid ((HR.out.below HBR.out).below hb2); have HL5 := Lib.hid (HL.out.trans ((HBR.out.trans (hb2.mono HBR.out.size)).mono hzL)); clear hbg hb2 q0 q1))
              | (go_at_call 49; go_loud (with_reducible refine (CJ.out _ _ _ HR5.out HBG.out).mono ?_); rintro e w3 ⟨g6, c6, rfl, hj, -, -, hb3⟩; go_loud (rw [HTC.out] at hj; have HJ := Lib.hid hj; have HL6 := Lib.hid (HL5.out.trans (hb3.mono HL5.out.size)); have HTL := Lib.hid (congrArg List.length HTC.out); clear hj hb3)))
            all_goals exact ⟨⟨k + 1, g6, c6, _, by go_num, by omega, by have h9 := HTL.out; rw [List.length_append] at h9; rw [h9], rfl, HJ, HL6⟩, by simp [intOf]; omega⟩
          · have d8 : decide ((k : Int) + 1 < (K9 : Int)) = false := decide_eq_false (by omega)
            have d9 : decide (IntKind.i64.wrap ((k : Int) + 1) < (K9 : Int)) = false := by rw [wk2]; exact d8
            clear hpl2
            go_wp2_with (fail)
            refine wp_region_held_drew (S := (fun W : World => W.cell? ⟨gg, k * 2, none⟩ = some (.slice A1 nl c1) ∧ W.cell? ⟨gg, k * 2 + 1, none⟩ = some (.slice A2 nb c9) ∧ W.cell? ⟨gs, k * 2, none⟩ = some (.slice B1 nl d1) ∧ W.cell? ⟨gs, k * 2 + 1, none⟩ = some (.slice B2 nb d2) ∧ Below wr.heap.size wr W ∧ wr.heap.size ≤ W.heap.size)) (by kernel_rfl) (keep5D hS) (fun hS1 => ?_)
            refine wpAnyH_take (i := 0) (v := ?_) rfl (by kernel_rfl) (by kernel_rfl) (by kernel_rfl) (fun _ _ _ h => h) (Or.inl ⟨by rfl, ?_⟩) hS1 ?_
            rotate_left 1
            · (intro w hSw; go_simp)
              all_goals with_reducible rfl
            try go_simp
            refine wpAnyH_take (i := 1) (v := ?_) rfl (by kernel_rfl) (by kernel_rfl) (by kernel_rfl) (fun _ _ _ h => h) (Or.inl ⟨by rfl, ?_⟩) hS1 ?_
            rotate_left 1
            · (intro w hSw; go_simp)
              all_goals with_reducible rfl
            try go_simp
            refine wpAnyH_take (i := 2) (v := ?_) rfl (by kernel_rfl) (by kernel_rfl) (by kernel_rfl) (fun _ _ _ h => h) (Or.inl ⟨by rfl, ?_⟩) hS1 ?_
            rotate_left 1
            · (intro w hSw; go_simp)
              all_goals with_reducible rfl
            try go_simp
            refine wpAnyH_take (i := 3) (v := ?_) rfl (by kernel_rfl) (by kernel_rfl) (by kernel_rfl) (fun _ _ _ h => h) (Or.inl ⟨by rfl, ?_⟩) hS1 ?_
            rotate_left 1
            · (intro w hSw; have hSx : (fun W : World => W.cell? ⟨gg, k * 2, none⟩ = some (.slice A1 nl c1) ∧ W.cell? ⟨gg, k * 2 + 1, none⟩ = some (.slice A2 nb c9) ∧ W.cell? ⟨gs, k * 2, none⟩ = some (.slice B1 nl d1) ∧ W.cell? ⟨gs, k * 2 + 1, none⟩ = some (.slice B2 nb d2) ∧ Below wr.heap.size wr W ∧ wr.heap.size ≤ W.heap.size) w := hSw; obtain ⟨s0, s1, s2, s3, -, -⟩ := hSx; go_simp)
              all_goals with_reducible rfl
            try go_simp
            refine wpAnyH_take (i := 4) (v := ?_) rfl (by kernel_rfl) (by kernel_rfl) (by kernel_rfl) (fun _ _ _ h => h) (Or.inl ⟨by rfl, ?_⟩) hS1 ?_
            rotate_left 1
            · (intro w hSw; go_simp)
              all_goals with_reducible rfl
            try go_simp
            refine wpAnyH_take (i := 5) (v := ?_) rfl (by kernel_rfl) (by kernel_rfl) (by kernel_rfl) (fun _ _ _ h => h) (Or.inl ⟨by rfl, ?_⟩) hS1 ?_
            rotate_left 1
            · (intro w hSw; go_simp)
              all_goals with_reducible rfl
            try go_simp
            refine wpAnyH_take (i := 6) (v := ?_) rfl (by kernel_rfl) (by kernel_rfl) (by kernel_rfl) (fun _ _ _ h => h) (Or.inl ⟨by rfl, ?_⟩) hS1 ?_
            rotate_left 1
            · (intro w hSw; go_simp)
              all_goals with_reducible rfl
            try go_simp
            refine wpAnyH_take (i := 7) (v := ?_) rfl (by kernel_rfl) (by kernel_rfl) (by kernel_rfl) (fun _ _ _ h => h) (Or.inl ⟨by rfl, ?_⟩) hS1 ?_
            rotate_left 1
            · (intro w hSw; have hSx : (fun W : World => W.cell? ⟨gg, k * 2, none⟩ = some (.slice A1 nl c1) ∧ W.cell? ⟨gg, k * 2 + 1, none⟩ = some (.slice A2 nb c9) ∧ W.cell? ⟨gs, k * 2, none⟩ = some (.slice B1 nl d1) ∧ W.cell? ⟨gs, k * 2 + 1, none⟩ = some (.slice B2 nb d2) ∧ Below wr.heap.size wr W ∧ wr.heap.size ≤ W.heap.size) w := hSw; obtain ⟨s0, s1, s2, s3, -, -⟩ := hSx; go_simp)
              all_goals with_reducible rfl
            try go_simp
            refine wpAnyH_ready (rs := [8]) (by kernel_rfl) (by simp) ?_
            refine AllReadyH.cons rfl (fun K0 hK0 => ?_) AllReadyH.nil
            refine step_call rfl 48 _ _ rfl sameBatchEnters #[.agg #[.slice A1 nl c1, .slice A2 nb c9], .agg #[.slice B1 nl d1, .slice B2 nb d2]] rfl (CE.out _ (HR1.out.below (keep5B hS1)) (HR2.out.below (keep5B hS1))) ?_
            rintro e w1 ⟨rfl, hbq⟩
            refine ⟨_, rfl, hK0.out _ _ (keep5 hS1 hbq) (fun hS2 => ?_)⟩
            clear hK0 K0
            try go_simp
            refine wpAnyH_take (i := 9) (v := ?_) rfl (by kernel_rfl) (by kernel_rfl) (by kernel_rfl) (fun _ _ _ h => h) (Or.inl ⟨by rfl, ?_⟩) hS2 ?_
            rotate_left 1
            · (intro w hSw; go_simp)
              all_goals with_reducible rfl
            try go_simp
            refine wpAnyH_take (i := 10) (v := ?_) rfl (by kernel_rfl) (by kernel_rfl) (by kernel_rfl) (fun _ _ _ h => h) (Or.inl ⟨by rfl, ?_⟩) hS2 ?_
            rotate_left 1
            · (intro w hSw; go_simp)
              all_goals with_reducible rfl
            try go_simp
            refine wpAnyH_take (i := 11) (v := ?_) rfl (by kernel_rfl) (by kernel_rfl) (by kernel_rfl) (fun _ _ _ h => h) (Or.inl ⟨by rfl, ?_⟩) hS2 ?_
            rotate_left 1
            · (intro w hSw; go_simp)
              all_goals with_reducible rfl
            try go_simp
            refine wpAnyH_take (i := 12) (v := ?_) rfl (by kernel_rfl) (by kernel_rfl) (by kernel_rfl) (fun _ _ _ h => h) (Or.inl ⟨by rfl, ?_⟩) hS2 ?_
            rotate_left 1
            · (intro w hSw; go_simp)
              all_goals with_reducible rfl
            try go_simp
            refine wpAnyH_take (i := 13) (v := ?_) rfl (by kernel_rfl) (by kernel_rfl) (by kernel_rfl) (fun _ _ _ h => h) (Or.inl ⟨by rfl, ?_⟩) hS2 ?_
            rotate_left 1
            · (intro w hSw; go_simp)
              all_goals with_reducible rfl
            try go_simp
            refine wpAnyH_take (i := 14) (v := ?_) rfl (by kernel_rfl) (by kernel_rfl) (by kernel_rfl) (fun _ _ _ h => h) (Or.inl ⟨by rfl, ?_⟩) hS2 ?_
            rotate_left 1
            · (intro w hSw; go_simp)
              all_goals with_reducible rfl
            try go_simp
            refine wpAnyH_take (i := 15) (v := ?_) rfl (by kernel_rfl) (by kernel_rfl) (by kernel_rfl) (fun _ _ _ h => h) (Or.inl ⟨by rfl, ?_⟩) hS2 ?_
            rotate_left 1
            · (intro w hSw; go_simp)
              all_goals with_reducible rfl
            try go_simp
            refine wpAnyH_take (i := 16) (v := ?_) rfl (by kernel_rfl) (by kernel_rfl) (by kernel_rfl) (fun _ _ _ h => h) (Or.inl ⟨by rfl, ?_⟩) hS2 ?_
            rotate_left 1
            · (intro w hSw; go_simp)
              all_goals with_reducible rfl
            try go_simp
            refine wpAnyH_take (i := 17) (v := undef) rfl (by kernel_rfl) (by kernel_rfl) (by kernel_rfl) (fun _ _ _ h => h) (Or.inr ⟨by rfl, rfl⟩) hS2 ?_
            try go_simp
            refine wpAnyH_take (i := 18) (v := undef) rfl (by kernel_rfl) (by kernel_rfl) (by kernel_rfl) (fun _ _ _ h => h) (Or.inr ⟨by rfl, rfl⟩) hS2 ?_
            try go_simp
            refine wpAnyH_take (i := 19) (v := undef) rfl (by kernel_rfl) (by kernel_rfl) (by kernel_rfl) (fun _ _ _ h => h) (Or.inr ⟨by rfl, rfl⟩) hS2 ?_
            try go_simp
            refine wpAnyH_take (i := 20) (v := undef) rfl (by kernel_rfl) (by kernel_rfl) (by kernel_rfl) (fun _ _ _ h => h) (Or.inr ⟨by rfl, rfl⟩) hS2 ?_
            try go_simp
            refine wpAnyH_take (i := 21) (v := undef) rfl (by kernel_rfl) (by kernel_rfl) (by kernel_rfl) (fun _ _ _ h => h) (Or.inr ⟨by rfl, rfl⟩) hS2 ?_
            try go_simp
            refine wpAnyH_take (i := 22) (v := undef) rfl (by kernel_rfl) (by kernel_rfl) (by kernel_rfl) (fun _ _ _ h => h) (Or.inr ⟨by rfl, rfl⟩) hS2 ?_
            try go_simp
            refine wpAnyH_take (i := 23) (v := undef) rfl (by kernel_rfl) (by kernel_rfl) (by kernel_rfl) (fun _ _ _ h => h) (Or.inr ⟨by rfl, rfl⟩) hS2 ?_
            try go_simp
            refine wpAnyH_take (i := 24) (v := undef) rfl (by kernel_rfl) (by kernel_rfl) (by kernel_rfl) (fun _ _ _ h => h) (Or.inr ⟨by rfl, rfl⟩) hS2 ?_
            try go_simp
            refine wpAnyH_take (i := 25) (v := ?_) rfl (by kernel_rfl) (by kernel_rfl) (by kernel_rfl) (fun _ _ _ h => h) (Or.inl ⟨by rfl, ?_⟩) hS2 ?_
            rotate_left 1
            · (intro w hSw; go_simp)
              all_goals with_reducible rfl
            try go_simp
            refine wpAnyH_take (i := 26) (v := ?_) rfl (by kernel_rfl) (by kernel_rfl) (by kernel_rfl) (fun _ _ _ h => h) (Or.inl ⟨by rfl, ?_⟩) hS2 ?_
            rotate_left 1
            · (intro w hSw; go_simp)
              all_goals with_reducible rfl
            try go_simp
            refine wpAnyH_done (by kernel_rfl) ?_ _
            have HBR := Lib.hid (keep5B hS2)
            obtain ⟨q0, q1⟩ := keep5W hS2
            have hgg2 := Nat.lt_of_lt_of_le hgg HBR.out.size
            all_goals go_wp2_with (first
              | (go_at_call 18; go_loud (with_reducible refine (CB.out _ (HR1.out.below HBR.out)).mono ?_); rintro e w2 ⟨g5, c5, T5, rfl, hbg, hb2⟩; go_loud (have HBG := Lib.hid hbg.rws; have HR5 := Lib.hid ((HR.out.below HBR.out).below hb2); have HL5 := Lib.hid (HL.out.trans ((HBR.out.trans (hb2.mono HBR.out.size)).mono hzL)); clear hbg hb2 q0 q1))
              | (go_at_call 49; go_loud (with_reducible refine (CJ.out _ _ _ HR5.out HBG.out).mono ?_); rintro e w3 ⟨g6, c6, rfl, hj, -, -, hb3⟩; go_loud (rw [HTC.out] at hj; have HJ := Lib.hid hj; have HL6 := Lib.hid (HL5.out.trans (hb3.mono HL5.out.size)); have HTL := Lib.hid (congrArg List.length HTC.out); clear hj hb3)))
            all_goals exact ⟨⟨k + 1, g6, c6, _, by go_num, by omega, by have h9 := HTL.out; rw [List.length_append] at h9; rw [h9], rfl, HJ, HL6⟩, by simp [intOf]; omega⟩
        · obtain rfl : k = K9 := by omega
          have hall : al = ls := by rw [HAL.out]; exact List.take_of_length_le (by rw [HKL.out]; exact HCA.out)
          obtain rfl := hall
          have VR1 := Lib.hid (VR.out.below HL.out)
          have HC1 := Lib.hid (HC.out.below HL.out)
          have HB1 := Lib.hid (HB.out.trans (HL.out.mono HB.out.size))
          clear VR HC HB HL VG VS
          have VR := VR1
          have HC := HC1
          have HB := HB1
          clear VR1 HC1 HB1
          have S2 := True.intro
          have n1 : ¬ ((S : Int) < 1) := by omega
          have n4 : ¬ ((4 : Int) < (S : Int)) := by omega
          go_wp2_with (first
            | ((have _ := S2); (fail_if_success (have _ := S3)); go_at_call 50; (with_reducible refine (CR.out _ HC.out VR.out).mono ?_); rintro e wn2 ⟨rfl, hb1⟩; have HBn : Hid (Below w.heap.size w wn2) := Below.trans (by repeat (with_reducible first | exact HB.out | refine Below.alloc ?_ (by first | omega | (have := HB.out.size; omega) | (simp; done) | (have := HB.out.size; simp; omega)) _ | apply Below.drew)) (Below.mono hb1 (by have := HB.out.size; first | omega | (simp; omega))); have K0 := Lib.hid (by first | exact VR.out.below hb1 | exact (VR.out.alloc _).below hb1 | exact ((VR.out.alloc _).alloc _).below hb1 | exact (VR.out.drew).below hb1); clear VR; have VR := K0; clear K0; have K0 := Lib.hid (by first | exact HR.out.below hb1 | exact (HR.out.alloc _).below hb1 | exact ((HR.out.alloc _).alloc _).below hb1 | exact (HR.out.drew).below hb1); clear HR; have HR := K0; clear K0; clear HB; have HB := HBn; clear HBn; clear hb1; have S3 := True.intro)
            | ((have _ := S3); (fail_if_success (have _ := S4)); go_at_call 46; (with_reducible refine (ES.out _ _ _ _ _ _ _ HR.out VR.out).mono ?_); rintro e wn3 ⟨rfl, hb1⟩; have HBn : Hid (Below w.heap.size w wn3) := Below.trans (by repeat (with_reducible first | exact HB.out | refine Below.alloc ?_ (by first | omega | (have := HB.out.size; omega) | (simp; done) | (have := HB.out.size; simp; omega)) _ | apply Below.drew)) (Below.mono hb1 (by have := HB.out.size; first | omega | (simp; omega))); clear HB; have HB := HBn; clear HBn; clear hb1; have S4 := True.intro)
            | ((have _ := S4); (fail_if_success (have _ := S5)); go_at_call 44; (with_reducible refine (alive _).mono ?_); rintro e wn4 ⟨rfl, hb1⟩; have HBn : Hid (Below w.heap.size w wn4) := Below.trans (by repeat (with_reducible first | exact HB.out | refine Below.alloc ?_ (by first | omega | (have := HB.out.size; omega) | (simp; done) | (have := HB.out.size; simp; omega)) _ | apply Below.drew)) (Below.mono hb1 (by have := HB.out.size; first | omega | (simp; omega))); clear HB; have HB := HBn; clear HBn; clear hb1; have S5 := True.intro))
          all_goals (go_ret; exact ⟨retB (by first | rfl | simp), HB.out⟩)
end Go.Proofs.Ytjidkjnlnenmbaa.Val
