/- The walk of the law FnBatchRows. -/
import Derived.Test.YtjidkjnlnenmbaaBatI
import Derived.Test.YtjidkjnlnenmbaaBatS
import Derived.Test.YtjidkjnlnenmbaaDrawBk
import Derived.Test.YtjidkjnlnenmbaaLSame
import Derived.Test.YtjidkjnlnenmbaaAlive
import Derived.IntWalk
import Derived.Deep.RegionHeldLaw
namespace Go.Proofs.Ytjidkjnlnenmbaa.Val
open Go.RowKit
set_option linter.unusedVariables false
set_option linter.unusedSimpArgs false
set_option maxRecDepth 8000
theorem aliveEnters (vs : Array Value) (w : World) : (callFunc 44 vs).run Try.prog w = .ok (.enter 44 vs) w := by
  go_simp
theorem keep9 {w W W1 : World} {a b p q : Nat} {x y : Value} (h : W.cell? ⟨a, p, none⟩ = some x ∧ W.cell? ⟨b, q, none⟩ = some y ∧ Below w.heap.size w W ∧ w.heap.size ≤ W.heap.size) (hb : Below W.heap.size W W1) :
    W1.cell? ⟨a, p, none⟩ = some x ∧ W1.cell? ⟨b, q, none⟩ = some y ∧ Below w.heap.size w W1 ∧ w.heap.size ≤ W1.heap.size := by
  obtain ⟨h1, h2, h5, h6⟩ := h
  have hc := fun b q x (h : W.cell? ⟨b, q, none⟩ = some x) => (hb.cell (p := ⟨b, q, none⟩) (World.block_lt_of_cell? W ⟨b, q, none⟩ h)).trans h
  exact ⟨hc _ _ _ h1, hc _ _ _ h2, h5.trans (hb.mono h6), Nat.le_trans h6 hb.size⟩
theorem keep9D {w W : World} {a b p q : Nat} {x y : Value} (h : W.cell? ⟨a, p, none⟩ = some x ∧ W.cell? ⟨b, q, none⟩ = some y ∧ Below w.heap.size w W ∧ w.heap.size ≤ W.heap.size) :
    W.drew.cell? ⟨a, p, none⟩ = some x ∧ W.drew.cell? ⟨b, q, none⟩ = some y ∧ Below w.heap.size w W.drew ∧ w.heap.size ≤ W.drew.heap.size := keep9 h ((Below.refl _ _).drew)
theorem bag_head {w : World} {B g c m : Nat} {T : List TT} {ls : List RT} (h : Bag w B g c T ls) (hl : 0 < ls.length) (hm : ∀ r ∈ ls, r.length = m) : ∃ tb tc, w.cell? ⟨g, 0, none⟩ = some (.slice (some ⟨tb, 0, none⟩) m tc) := by
  have he := h.eq
  cases T with
  | nil => subst he; simp at hl
  | cons t T =>
    have h2 := h.own.cellAt 0 (by omega)
    have h3 := hm t.2.2 (by rw [← he]; simp)
    refine ⟨t.1, t.2.1, ?_⟩
    rw [h2, ← h3]
    rfl
theorem pck_len {cols : List RT} {bs : List Bool} {k : Nat} : ∀ r ∈ pckN cols bs k, r.length = cols.length := fun r hr => by
  unfold pckN at hr
  obtain ⟨j, -, rfl⟩ := List.mem_map.1 hr
  exact acr_len _ _
set_option maxHeartbeats 8000000 in
theorem walk_FnBatchRows (a : Option Addr) (len cap : Nat) (zs : List Int) (w : World) (h : IsRow .u8 w a len cap zs) :
    Calls Try.prog 8 #[.slice a len cap] w fun e w' => e = .returned (.bool true) ∧ Below w.heap.size w w' := by
  by_cases hl : 1048576 < len
  · clear h
    go_enter Try.func8, Try.ntmps8
    go_wp2
    go_ret
    exact ⟨rfl, Below.refl _ _⟩
  · have HI := Lib.hid h
    clear h
    go_enter Try.func8, Try.ntmps8
    have HB := Lib.hid (Below.refl w.heap.size w)
    have S0 := True.intro
    go_upto_region 4 with (first
      | ((have _ := S0); (fail_if_success (have _ := S1)); go_at_call 45; (with_reducible refine (drawBatchRows _ _ _ zs _ HI.out).mono ?_); rintro e wn0 ⟨A1, c1, g1, A2, c2, g2, cols, bs, rfl, hbr, hok, h6, h5, hb1⟩; have hbX : Below w.heap.size w wn0 := Below.trans (by repeat (with_reducible first | exact Below.refl _ _ | refine Below.alloc ?_ (by first | omega | (simp; done) | (simp; omega) | (simp [World.setCell]; done) | (simp [World.setCell]; omega)) _ | refine Below.setCell ?_ (by first | omega | (simp; done) | (simp; omega) | (simp [World.setCell]; done) | (simp [World.setCell]; omega)) _ | apply Below.drew)) (Below.mono hb1 (by first | omega | (simp; done) | (simp; omega) | (simp [World.setCell]; done) | (simp [World.setCell]; omega))); have HBn := Lib.hid (HB.out.trans (hbX.mono HB.out.size)); clear HB; have HB := HBn; clear HBn; have VR := Lib.hid hbr; have OKC := Lib.hid hok; clear hbr hok; clear hb1 hbX; have S1 := True.intro))
    have CB := Lib.hid (fun W hW => batchOkI A1 A2 g1 0 c1 g2 0 c2 cols bs W hW OKC.out (by omega))
    have CS := Lib.hid (fun W hW => batchRowsS A1 A2 g1 0 c1 g2 0 c2 cols bs W hW OKC.out (by omega))
    obtain ⟨hsm1, hsm2, hsm3⟩ := batR_small cols bs OKC.out
    have ES := Lib.hid (fun W g g' A B c c' hA hB => sameRowsL A B g g' 0 0 c c' (batR cols bs) (batR cols bs) W hA hB hsm3 hsm3)
    rw [decide_eq_true (rfl : batR cols bs = batR cols bs)] at ES
    cases hE : batB cols bs.length with
    | false =>
      have CI := Lib.hid (fun W hv => (batchRowsI A1 A2 g1 0 c1 g2 0 c2 cols bs W hv OKC.out (by omega)).mono fun e w' h => retBagN h)
      have hz : batR cols bs = [] := by unfold batR; rw [if_neg (by rw [hE]; simp)]
      rw [hz] at CI CS ES
      simp only [List.length_nil] at CI CS ES
      rw [hE] at CB
      go_wp2_with (first
        | ((have _ := S1); (fail_if_success (have _ := S2)); go_at_call 18; (with_reducible refine (CI.out _ (VR.out.below (by repeat (with_reducible first | exact Below.refl _ _ | refine Below.alloc ?_ (by first | omega | (simp; done) | (simp; omega) | (simp [World.setCell]; done) | (simp [World.setCell]; omega)) _ | refine Below.setCell ?_ (by first | omega | (simp; done) | (simp; omega) | (simp [World.setCell]; done) | (simp [World.setCell]; omega)) _ | apply Below.drew)))).mono ?_); rintro e wn1 ⟨Ag, gg, cg, Tg, rfl, hc, hb1⟩; have hbX : Below wn0.heap.size wn0 wn1 := Below.trans (by repeat (with_reducible first | exact Below.refl _ _ | refine Below.alloc ?_ (by first | omega | (simp; done) | (simp; omega) | (simp [World.setCell]; done) | (simp [World.setCell]; omega)) _ | refine Below.setCell ?_ (by first | omega | (simp; done) | (simp; omega) | (simp [World.setCell]; done) | (simp [World.setCell]; omega)) _ | apply Below.drew)) (Below.mono hb1 (by first | omega | (simp; done) | (simp; omega) | (simp [World.setCell]; done) | (simp [World.setCell]; omega))); have HBn := Lib.hid (HB.out.trans (hbX.mono HB.out.size)); clear HB; have HB := HBn; clear HBn; have K0 := Lib.hid (VR.out.below hbX); clear VR; have VR := K0; clear K0; have VG := Lib.hid hc; clear hc; have HX := Lib.hid (Box2.below (x := wn0.heap.size) (u := .slice A1 cols.length c1) (v := .slice A2 bs.length c2) ⟨by simp [go_sem], by simp [go_sem]⟩ hb1); (try clear bx0 bx1 bxl); obtain ⟨bx0, bx1⟩ := HX.out; have bxl := Box2.lt HX.out; clear hb1 hbX; have S2 := True.intro)
        | ((have _ := S2); (fail_if_success (have _ := S3)); go_at_call 17; (with_reducible refine (CS.out _ (VR.out.below (by repeat (with_reducible first | exact Below.refl _ _ | refine Below.alloc ?_ (by first | omega | (simp; done) | (simp; omega) | (simp [World.setCell]; done) | (simp [World.setCell]; omega)) _ | refine Below.setCell ?_ (by first | omega | (simp; done) | (simp; omega) | (simp [World.setCell]; done) | (simp [World.setCell]; omega)) _ | apply Below.drew)))).mono ?_); rintro e wn2 ⟨gs, cs9, Ts, rfl, hc, hb1⟩; have hbX : Below wn1.heap.size wn1 wn2 := Below.trans (by repeat (with_reducible first | exact Below.refl _ _ | refine Below.alloc ?_ (by first | omega | (simp; done) | (simp; omega) | (simp [World.setCell]; done) | (simp [World.setCell]; omega)) _ | refine Below.setCell ?_ (by first | omega | (simp; done) | (simp; omega) | (simp [World.setCell]; done) | (simp [World.setCell]; omega)) _ | apply Below.drew)) (Below.mono hb1 (by first | omega | (simp; done) | (simp; omega) | (simp [World.setCell]; done) | (simp [World.setCell]; omega))); have HBn := Lib.hid (HB.out.trans (hbX.mono HB.out.size)); clear HB; have HB := HBn; clear HBn; have K0 := Lib.hid (VR.out.below hbX); clear VR; have VR := K0; clear K0; have K0 := Lib.hid (HX.out.below hbX); clear HX; have HX := K0; clear K0; have K0 := Lib.hid (VG.out.below hbX); clear VG; have VG := K0; clear K0; have VS := Lib.hid hc; clear hc; (try clear bx0 bx1 bxl); obtain ⟨bx0, bx1⟩ := HX.out; have bxl := Box2.lt HX.out; clear hb1 hbX; have S3 := True.intro)
        | ((have _ := S3); (fail_if_success (have _ := S4)); go_at_call 46; (with_reducible refine (ES.out _ _ _ _ _ _ _ VG.out.rws VS.out.rws).mono ?_); rintro e wn3 ⟨rfl, hb1⟩; have hbX : Below wn2.heap.size wn2 wn3 := Below.trans (by repeat (with_reducible first | exact Below.refl _ _ | refine Below.alloc ?_ (by first | omega | (simp; done) | (simp; omega) | (simp [World.setCell]; done) | (simp [World.setCell]; omega)) _ | refine Below.setCell ?_ (by first | omega | (simp; done) | (simp; omega) | (simp [World.setCell]; done) | (simp [World.setCell]; omega)) _ | apply Below.drew)) (Below.mono hb1 (by first | omega | (simp; done) | (simp; omega) | (simp [World.setCell]; done) | (simp [World.setCell]; omega))); have HBn := Lib.hid (HB.out.trans (hbX.mono HB.out.size)); clear HB; have HB := HBn; clear HBn; have K0 := Lib.hid (VR.out.below hbX); clear VR; have VR := K0; clear K0; have K0 := Lib.hid (HX.out.below hbX); clear HX; have HX := K0; clear K0; (try clear bx0 bx1 bxl); obtain ⟨bx0, bx1⟩ := HX.out; have bxl := Box2.lt HX.out; clear hb1 hbX; have S4 := True.intro)
        | ((have _ := S4); (fail_if_success (have _ := S5)); go_at_call 15; (with_reducible refine (CB.out _ (VR.out.below (by repeat (with_reducible first | exact Below.refl _ _ | refine Below.alloc ?_ (by first | omega | (simp; done) | (simp; omega) | (simp [World.setCell]; done) | (simp [World.setCell]; omega)) _ | refine Below.setCell ?_ (by first | omega | (simp; done) | (simp; omega) | (simp [World.setCell]; done) | (simp [World.setCell]; omega)) _ | apply Below.drew)))).mono ?_); rintro e wn4 ⟨rfl, hb1⟩; have hbX : Below wn3.heap.size wn3 wn4 := Below.trans (by repeat (with_reducible first | exact Below.refl _ _ | refine Below.alloc ?_ (by first | omega | (simp; done) | (simp; omega) | (simp [World.setCell]; done) | (simp [World.setCell]; omega)) _ | refine Below.setCell ?_ (by first | omega | (simp; done) | (simp; omega) | (simp [World.setCell]; done) | (simp [World.setCell]; omega)) _ | apply Below.drew)) (Below.mono hb1 (by first | omega | (simp; done) | (simp; omega) | (simp [World.setCell]; done) | (simp [World.setCell]; omega))); have HBn := Lib.hid (HB.out.trans (hbX.mono HB.out.size)); clear HB; have HB := HBn; clear HBn; have K0 := Lib.hid (VR.out.below hbX); clear VR; have VR := K0; clear K0; have K0 := Lib.hid (HX.out.below hbX); clear HX; have HX := K0; clear K0; (try clear bx0 bx1 bxl); obtain ⟨bx0, bx1⟩ := HX.out; have bxl := Box2.lt HX.out; clear hb1 hbX; have S5 := True.intro)
        | ((have _ := S5); (fail_if_success (have _ := S6)); go_at_call 44; (with_reducible refine (alive _).mono ?_); rintro e wn5 ⟨rfl, hb1⟩; have hbX : Below wn4.heap.size wn4 wn5 := Below.trans (by repeat (with_reducible first | exact Below.refl _ _ | refine Below.alloc ?_ (by first | omega | (simp; done) | (simp; omega) | (simp [World.setCell]; done) | (simp [World.setCell]; omega)) _ | refine Below.setCell ?_ (by first | omega | (simp; done) | (simp; omega) | (simp [World.setCell]; done) | (simp [World.setCell]; omega)) _ | apply Below.drew)) (Below.mono hb1 (by first | omega | (simp; done) | (simp; omega) | (simp [World.setCell]; done) | (simp [World.setCell]; omega))); have HBn := Lib.hid (HB.out.trans (hbX.mono HB.out.size)); clear HB; have HB := HBn; clear HBn; clear hb1 hbX; have S6 := True.intro))
      all_goals (go_ret; exact ⟨retB (by first | rfl | simp), HB.out⟩)
    | true =>
      have CI := Lib.hid (fun W hv => batchRowsT A1 A2 g1 0 c1 g2 0 c2 cols bs W hv OKC.out (by omega) hE)
      have hz : batR cols bs = pckN cols bs bs.length := by unfold batR; rw [if_pos hE]
      have HM := Lib.hid (pck_len (cols := cols) (bs := bs) (k := bs.length))
      have HNP := Lib.hid (fun k (hk : k < bs.length) => pckN_succ cols bs k hk)
      have HKL := Lib.hid (fun k => pckN_len cols bs k)
      rw [hz] at CI CS ES hsm1
      rw [hE] at CB
      unfold RetBag at CI CS
      obtain ⟨Z, hZ⟩ : ∃ Z, pckN cols bs bs.length = Z := ⟨_, rfl⟩
      have HZ := Lib.hid hZ
      rw [hZ] at CI CS ES HM hsm1
      clear hZ hz hsm2 hsm3
      obtain ⟨zl, hzl⟩ : ∃ n, Z.length = n := ⟨_, rfl⟩
      have HZL := Lib.hid hzl
      rw [hzl] at CI CS ES hsm1
      clear hzl
      go_wp2_with (first
        | ((have _ := S1); (fail_if_success (have _ := S2)); go_at_call 18; (with_reducible refine (CI.out _ (VR.out.below (by repeat (with_reducible first | exact Below.refl _ _ | refine Below.alloc ?_ (by first | omega | (simp; done) | (simp; omega) | (simp [World.setCell]; done) | (simp [World.setCell]; omega)) _ | refine Below.setCell ?_ (by first | omega | (simp; done) | (simp; omega) | (simp [World.setCell]; done) | (simp [World.setCell]; omega)) _ | apply Below.drew)))).mono ?_); rintro e wn1 ⟨gg, cg, Tg, rfl, hc, hb1⟩; have hbX : Below wn0.heap.size wn0 wn1 := Below.trans (by repeat (with_reducible first | exact Below.refl _ _ | refine Below.alloc ?_ (by first | omega | (simp; done) | (simp; omega) | (simp [World.setCell]; done) | (simp [World.setCell]; omega)) _ | refine Below.setCell ?_ (by first | omega | (simp; done) | (simp; omega) | (simp [World.setCell]; done) | (simp [World.setCell]; omega)) _ | apply Below.drew)) (Below.mono hb1 (by first | omega | (simp; done) | (simp; omega) | (simp [World.setCell]; done) | (simp [World.setCell]; omega))); have HBn := Lib.hid (HB.out.trans (hbX.mono HB.out.size)); clear HB; have HB := HBn; clear HBn; have K0 := Lib.hid (VR.out.below hbX); clear VR; have VR := K0; clear K0; have VG := Lib.hid hc; clear hc; have HX := Lib.hid (Box2.below (x := wn0.heap.size) (u := .slice A1 cols.length c1) (v := .slice A2 bs.length c2) ⟨by simp [go_sem], by simp [go_sem]⟩ hb1); (try clear bx0 bx1 bxl); obtain ⟨bx0, bx1⟩ := HX.out; have bxl := Box2.lt HX.out; clear hb1 hbX; have S2 := True.intro)
        | ((have _ := S2); (fail_if_success (have _ := S3)); go_at_call 17; (with_reducible refine (CS.out _ (VR.out.below (by repeat (with_reducible first | exact Below.refl _ _ | refine Below.alloc ?_ (by first | omega | (simp; done) | (simp; omega) | (simp [World.setCell]; done) | (simp [World.setCell]; omega)) _ | refine Below.setCell ?_ (by first | omega | (simp; done) | (simp; omega) | (simp [World.setCell]; done) | (simp [World.setCell]; omega)) _ | apply Below.drew)))).mono ?_); rintro e wn2 ⟨gs, cs9, Ts, rfl, hc, hb1⟩; have hbX : Below wn1.heap.size wn1 wn2 := Below.trans (by repeat (with_reducible first | exact Below.refl _ _ | refine Below.alloc ?_ (by first | omega | (simp; done) | (simp; omega) | (simp [World.setCell]; done) | (simp [World.setCell]; omega)) _ | refine Below.setCell ?_ (by first | omega | (simp; done) | (simp; omega) | (simp [World.setCell]; done) | (simp [World.setCell]; omega)) _ | apply Below.drew)) (Below.mono hb1 (by first | omega | (simp; done) | (simp; omega) | (simp [World.setCell]; done) | (simp [World.setCell]; omega))); have HBn := Lib.hid (HB.out.trans (hbX.mono HB.out.size)); clear HB; have HB := HBn; clear HBn; have K0 := Lib.hid (VR.out.below hbX); clear VR; have VR := K0; clear K0; have K0 := Lib.hid (HX.out.below hbX); clear HX; have HX := K0; clear K0; have K0 := Lib.hid (VG.out.below hbX); clear VG; have VG := K0; clear K0; have VS := Lib.hid hc; clear hc; (try clear bx0 bx1 bxl); obtain ⟨bx0, bx1⟩ := HX.out; have bxl := Box2.lt HX.out; clear hb1 hbX; have S3 := True.intro)
        | ((have _ := S3); (fail_if_success (have _ := S4)); go_at_call 46; (with_reducible refine (ES.out _ _ _ _ _ _ _ VG.out.rws VS.out.rws).mono ?_); rintro e wn3 ⟨rfl, hb1⟩; have hbX : Below wn2.heap.size wn2 wn3 := Below.trans (by repeat (with_reducible first | exact Below.refl _ _ | refine Below.alloc ?_ (by first | omega | (simp; done) | (simp; omega) | (simp [World.setCell]; done) | (simp [World.setCell]; omega)) _ | refine Below.setCell ?_ (by first | omega | (simp; done) | (simp; omega) | (simp [World.setCell]; done) | (simp [World.setCell]; omega)) _ | apply Below.drew)) (Below.mono hb1 (by first | omega | (simp; done) | (simp; omega) | (simp [World.setCell]; done) | (simp [World.setCell]; omega))); have HBn := Lib.hid (HB.out.trans (hbX.mono HB.out.size)); clear HB; have HB := HBn; clear HBn; have K0 := Lib.hid (VR.out.below hbX); clear VR; have VR := K0; clear K0; have K0 := Lib.hid (HX.out.below hbX); clear HX; have HX := K0; clear K0; have K0 := Lib.hid (VG.out.below hbX); clear VG; have VG := K0; clear K0; (try clear bx0 bx1 bxl); obtain ⟨bx0, bx1⟩ := HX.out; have bxl := Box2.lt HX.out; clear hb1 hbX; have S4 := True.intro)
        | ((have _ := S4); (fail_if_success (have _ := S5)); go_at_call 15; (with_reducible refine (CB.out _ (VR.out.below (by repeat (with_reducible first | exact Below.refl _ _ | refine Below.alloc ?_ (by first | omega | (simp; done) | (simp; omega) | (simp [World.setCell]; done) | (simp [World.setCell]; omega)) _ | refine Below.setCell ?_ (by first | omega | (simp; done) | (simp; omega) | (simp [World.setCell]; done) | (simp [World.setCell]; omega)) _ | apply Below.drew)))).mono ?_); rintro e wn4 ⟨rfl, hb1⟩; have hbX : Below wn3.heap.size wn3 wn4 := Below.trans (by repeat (with_reducible first | exact Below.refl _ _ | refine Below.alloc ?_ (by first | omega | (simp; done) | (simp; omega) | (simp [World.setCell]; done) | (simp [World.setCell]; omega)) _ | refine Below.setCell ?_ (by first | omega | (simp; done) | (simp; omega) | (simp [World.setCell]; done) | (simp [World.setCell]; omega)) _ | apply Below.drew)) (Below.mono hb1 (by first | omega | (simp; done) | (simp; omega) | (simp [World.setCell]; done) | (simp [World.setCell]; omega))); have HBn := Lib.hid (HB.out.trans (hbX.mono HB.out.size)); clear HB; have HB := HBn; clear HBn; have K0 := Lib.hid (VR.out.below hbX); clear VR; have VR := K0; clear K0; have K0 := Lib.hid (HX.out.below hbX); clear HX; have HX := K0; clear K0; have K0 := Lib.hid (VG.out.below hbX); clear VG; have VG := K0; clear K0; (try clear bx0 bx1 bxl); obtain ⟨bx0, bx1⟩ := HX.out; have bxl := Box2.lt HX.out; clear hb1 hbX; have S5 := True.intro))
      go_loopw [5, 6] (fun nx kx wr => ∃ k m : Nat, kx = .int .i64 k ∧ nx = .int .i64 m ∧ k ≤ bs.length ∧ m ≤ k ∧ Hid (m = (pckN cols bs k).length) ∧ wr = wn4) (fun _ kx _ => bs.length - (intOf kx).toNat)
      case atStart => exact ⟨0, 0, by first | rfl | exact congrArg (Value.int .i64) rfl, by first | rfl | exact congrArg (Value.int .i64) rfl, Nat.zero_le _, Nat.le_refl _, (show (0 : Nat) = _ by simp [pckN]), rfl⟩
      case round =>
        obtain ⟨k, m, rfl, rfl, hk, hm, HC, rfl⟩ := hrel
        by_cases hlt : k < bs.length
        · obtain ⟨rfl, hg2, cb⟩ := VR.out.pk.b k hlt
          have HS := Lib.hid (HNP.out k hlt)
          obtain ⟨y, hy⟩ : ∃ y, bs[k] = y := ⟨_, rfl⟩
          rw [hy] at cb HS
          rw [Nat.zero_add] at cb
          clear hy
          have i0' : (0 : Int) ≤ (k : Int) := by omega
          have i1' : (k : Int) < (bs.length : Int) := by omega
          cases y with
          | false =>
            have HN : Hid (m = (pckN cols bs (k + 1)).length) := by show _ = _; rw [HS.out, HC.out]; simp
            clear HS HC
            go_wp2
            exact ⟨⟨k + 1, m, by go_num, rfl, by omega, by omega, HN, by first | trivial | rfl⟩, by simp [intOf]; omega⟩
          | true =>
            have HN : Hid (m + 1 = (pckN cols bs (k + 1)).length) := by show _ = _; rw [HS.out, HC.out]; simp
            clear HS HC
            go_wp2
            exact ⟨⟨k + 1, m + 1, by go_num, by go_num, by omega, by omega, HN, by first | trivial | rfl⟩, by simp [intOf]; omega⟩
        · obtain rfl : k = bs.length := by omega
          obtain rfl : m = zl := by rw [HC.out, HZ.out, HZL.out]
          have S5 := True.intro
          by_cases h0 : 0 < m
          · obtain ⟨tb, tc, hy⟩ := bag_head VG.out (by rw [HZL.out]; exact h0) HM.out
            have hm0 : ¬ m = 0 := by omega
            have e1 : decide (m = 0) = false := by simp; omega
            have e2 : ((m : Int) == 0) = false := by simp; omega
            go_wp2_with (fail)
            have hS : (fun W : World => W.cell? ⟨gg, 0, none⟩ = some (.slice (some ⟨tb, 0, none⟩) cols.length tc) ∧ W.cell? ⟨wn0.heap.size, 0, none⟩ = some (.slice A1 cols.length c1) ∧ Below wr.heap.size wr W ∧ wr.heap.size ≤ W.heap.size) wr := ⟨hy, bx0, Below.refl _ _, Nat.le_refl _⟩
            refine wp_region_held_drew (S := (fun W : World => W.cell? ⟨gg, 0, none⟩ = some (.slice (some ⟨tb, 0, none⟩) cols.length tc) ∧ W.cell? ⟨wn0.heap.size, 0, none⟩ = some (.slice A1 cols.length c1) ∧ Below wr.heap.size wr W ∧ wr.heap.size ≤ W.heap.size)) (by kernel_rfl) (keep9D hS) (fun hS1 => ?_)
            refine wpAnyH_take (i := 0) (v := ?_) rfl (by kernel_rfl) (by kernel_rfl) (by kernel_rfl) (fun _ _ _ h => h) (Or.inl ⟨by rfl, ?_⟩) hS1 ?_
            rotate_left 1
            · (intro w hSw; go_simp)
              all_goals with_reducible rfl
            try go_simp
            refine wpAnyH_take (i := 1) (v := ?_) rfl (by kernel_rfl) (by kernel_rfl) (by kernel_rfl) (fun _ _ _ h => h) (Or.inl ⟨by rfl, ?_⟩) hS1 ?_
            rotate_left 1
            · (intro w hSw; go_simp)
              all_goals with_reducible rfl
            try go_simp
            refine wpAnyH_take (i := 2) (v := ?_) rfl (by kernel_rfl) (by kernel_rfl) (by kernel_rfl) (fun _ _ _ h => h) (Or.inl ⟨by rfl, ?_⟩) hS1 ?_
            rotate_left 1
            · (intro w hSw; go_simp)
              all_goals with_reducible rfl
            try go_simp
            refine wpAnyH_take (i := 3) (v := ?_) rfl (by kernel_rfl) (by kernel_rfl) (by kernel_rfl) (fun _ _ _ h => h) (Or.inl ⟨by rfl, ?_⟩) hS1 ?_
            rotate_left 1
            · (intro w hSw; go_simp)
              all_goals with_reducible rfl
            try go_simp
            refine wpAnyH_take (i := 4) (v := ?_) rfl (by kernel_rfl) (by kernel_rfl) (by kernel_rfl) (fun _ _ _ h => h) (Or.inl ⟨by rfl, ?_⟩) hS1 ?_
            rotate_left 1
            · (intro w hSw; go_simp)
              all_goals with_reducible rfl
            try go_simp
            refine wpAnyH_take (i := 5) (v := ?_) rfl (by kernel_rfl) (by kernel_rfl) (by kernel_rfl) (fun _ _ _ h => h) (Or.inl ⟨by rfl, ?_⟩) hS1 ?_
            rotate_left 1
            · (intro w hSw; go_simp)
              all_goals with_reducible rfl
            try go_simp
            refine wpAnyH_take (i := 6) (v := ?_) rfl (by kernel_rfl) (by kernel_rfl) (by kernel_rfl) (fun _ _ _ h => h) (Or.inl ⟨by rfl, ?_⟩) hS1 ?_
            rotate_left 1
            · (intro w hSw; go_simp)
              all_goals with_reducible rfl
            try go_simp
            refine wpAnyH_take (i := 7) (v := ?_) rfl (by kernel_rfl) (by kernel_rfl) (by kernel_rfl) (fun _ _ _ h => h) (Or.inl ⟨by rfl, ?_⟩) hS1 ?_
            rotate_left 1
            · (intro w hSw; go_simp)
              all_goals with_reducible rfl
            try go_simp
            refine wpAnyH_take (i := 8) (v := ?_) rfl (by kernel_rfl) (by kernel_rfl) (by kernel_rfl) (fun _ _ _ h => h) (Or.inl ⟨by rfl, ?_⟩) hS1 ?_
            rotate_left 1
            · (intro w hSw; go_simp)
              all_goals with_reducible rfl
            try go_simp
            refine wpAnyH_take (i := 9) (v := ?_) rfl (by kernel_rfl) (by kernel_rfl) (by kernel_rfl) (fun _ _ _ h => h) (Or.inl ⟨by rfl, ?_⟩) hS1 ?_
            rotate_left 1
            · (intro w hSw; go_simp)
              all_goals with_reducible rfl
            try go_simp
            refine wpAnyH_take (i := 10) (v := ?_) rfl (by kernel_rfl) (by kernel_rfl) (by kernel_rfl) (fun _ _ _ h => h) (Or.inl ⟨by rfl, ?_⟩) hS1 ?_
            rotate_left 1
            · (intro w hSw; have hSx : (fun W : World => W.cell? ⟨gg, 0, none⟩ = some (.slice (some ⟨tb, 0, none⟩) cols.length tc) ∧ W.cell? ⟨wn0.heap.size, 0, none⟩ = some (.slice A1 cols.length c1) ∧ Below wr.heap.size wr W ∧ wr.heap.size ≤ W.heap.size) w := hSw; obtain ⟨s0, s1, -, -⟩ := hSx; go_simp)
              all_goals with_reducible rfl
            try go_simp
            refine wpAnyH_take (i := 11) (v := ?_) rfl (by kernel_rfl) (by kernel_rfl) (by kernel_rfl) (fun _ _ _ h => h) (Or.inl ⟨by rfl, ?_⟩) hS1 ?_
            rotate_left 1
            · (intro w hSw; go_simp)
              all_goals with_reducible rfl
            try go_simp
            refine wpAnyH_take (i := 12) (v := ?_) rfl (by kernel_rfl) (by kernel_rfl) (by kernel_rfl) (fun _ _ _ h => h) (Or.inl ⟨by rfl, ?_⟩) hS1 ?_
            rotate_left 1
            · (intro w hSw; go_simp)
              all_goals with_reducible rfl
            try go_simp
            refine wpAnyH_take (i := 13) (v := ?_) rfl (by kernel_rfl) (by kernel_rfl) (by kernel_rfl) (fun _ _ _ h => h) (Or.inl ⟨by rfl, ?_⟩) hS1 ?_
            rotate_left 1
            · (intro w hSw; have hSx : (fun W : World => W.cell? ⟨gg, 0, none⟩ = some (.slice (some ⟨tb, 0, none⟩) cols.length tc) ∧ W.cell? ⟨wn0.heap.size, 0, none⟩ = some (.slice A1 cols.length c1) ∧ Below wr.heap.size wr W ∧ wr.heap.size ≤ W.heap.size) w := hSw; obtain ⟨s0, s1, -, -⟩ := hSx; go_simp)
              all_goals with_reducible rfl
            try go_simp
            refine wpAnyH_take (i := 14) (v := ?_) rfl (by kernel_rfl) (by kernel_rfl) (by kernel_rfl) (fun _ _ _ h => h) (Or.inl ⟨by rfl, ?_⟩) hS1 ?_
            rotate_left 1
            · (intro w hSw; go_simp)
              all_goals with_reducible rfl
            try go_simp
            refine wpAnyH_take (i := 15) (v := ?_) rfl (by kernel_rfl) (by kernel_rfl) (by kernel_rfl) (fun _ _ _ h => h) (Or.inl ⟨by rfl, ?_⟩) hS1 ?_
            rotate_left 1
            · (intro w hSw; go_simp)
              all_goals with_reducible rfl
            try go_simp
            refine wpAnyH_take (i := 16) (v := ?_) rfl (by kernel_rfl) (by kernel_rfl) (by kernel_rfl) (fun _ _ _ h => h) (Or.inl ⟨by rfl, ?_⟩) hS1 ?_
            rotate_left 1
            · (intro w hSw; go_simp)
              all_goals with_reducible rfl
            try go_simp
            refine wpAnyH_take (i := 17) (v := ?_) rfl (by kernel_rfl) (by kernel_rfl) (by kernel_rfl) (fun _ _ _ h => h) (Or.inl ⟨by rfl, ?_⟩) hS1 ?_
            rotate_left 1
            · (intro w hSw; go_simp)
              all_goals with_reducible rfl
            try go_simp
            refine wpAnyH_take (i := 18) (v := ?_) rfl (by kernel_rfl) (by kernel_rfl) (by kernel_rfl) (fun _ _ _ h => h) (Or.inl ⟨by rfl, ?_⟩) hS1 ?_
            rotate_left 1
            · (intro w hSw; go_simp)
              all_goals with_reducible rfl
            try go_simp
            refine wpAnyH_ready (rs := [19]) (by kernel_rfl) (by simp) ?_
            refine AllReadyH.cons rfl (fun K0 hK0 => ?_) AllReadyH.nil
            refine step_callW (by rfl) 44 _ _ rfl aliveEnters #[] rfl (alive _) ?_
            rintro e w1 ⟨rfl, hbq⟩
            refine ⟨_, rfl, hK0.out _ _ (keep9 hS1 hbq) (fun hS2 => ?_)⟩
            clear hK0 K0
            try go_simp
            refine wpAnyH_take (i := 20) (v := ?_) rfl (by kernel_rfl) (by kernel_rfl) (by kernel_rfl) (fun _ _ _ h => h) (Or.inl ⟨by rfl, ?_⟩) hS2 ?_
            rotate_left 1
            · (intro w hSw; go_simp)
              all_goals with_reducible rfl
            try go_simp
            refine wpAnyH_take (i := 21) (v := ?_) rfl (by kernel_rfl) (by kernel_rfl) (by kernel_rfl) (fun _ _ _ h => h) (Or.inl ⟨by rfl, ?_⟩) hS2 ?_
            rotate_left 1
            · (intro w hSw; go_simp)
              all_goals with_reducible rfl
            try go_simp
            refine wpAnyH_done (by kernel_rfl) ?_ _
            have HB9 := Lib.hid (HB.out.trans (hS2.2.2.1.mono HB.out.size))
            go_wp2
            go_ret
            exact ⟨retB (by first | rfl | simp), HB9.out⟩
          · obtain rfl : m = 0 := by omega
            go_wp2_with (fail)
            have hS : (fun W : World => W.cell? ⟨wn0.heap.size, 0, none⟩ = some (.slice A1 cols.length c1) ∧ W.cell? ⟨wn0.heap.size, 1, none⟩ = some (.slice A2 bs.length c2) ∧ Below wr.heap.size wr W ∧ wr.heap.size ≤ W.heap.size) wr := ⟨bx0, bx1, Below.refl _ _, Nat.le_refl _⟩
            refine wp_region_held_drew (S := (fun W : World => W.cell? ⟨wn0.heap.size, 0, none⟩ = some (.slice A1 cols.length c1) ∧ W.cell? ⟨wn0.heap.size, 1, none⟩ = some (.slice A2 bs.length c2) ∧ Below wr.heap.size wr W ∧ wr.heap.size ≤ W.heap.size)) (by kernel_rfl) (keep9D hS) (fun hS1 => ?_)
            refine wpAnyH_take (i := 0) (v := ?_) rfl (by kernel_rfl) (by kernel_rfl) (by kernel_rfl) (fun _ _ _ h => h) (Or.inl ⟨by rfl, ?_⟩) hS1 ?_
            rotate_left 1
            · (intro w hSw; go_simp)
              all_goals with_reducible rfl
            try go_simp
            refine wpAnyH_take (i := 1) (v := ?_) rfl (by kernel_rfl) (by kernel_rfl) (by kernel_rfl) (fun _ _ _ h => h) (Or.inl ⟨by rfl, ?_⟩) hS1 ?_
            rotate_left 1
            · (intro w hSw; go_simp)
              all_goals with_reducible rfl
            try go_simp
            refine wpAnyH_take (i := 2) (v := ?_) rfl (by kernel_rfl) (by kernel_rfl) (by kernel_rfl) (fun _ _ _ h => h) (Or.inl ⟨by rfl, ?_⟩) hS1 ?_
            rotate_left 1
            · (intro w hSw; go_simp)
              all_goals with_reducible rfl
            try go_simp
            refine wpAnyH_take (i := 3) (v := ?_) rfl (by kernel_rfl) (by kernel_rfl) (by kernel_rfl) (fun _ _ _ h => h) (Or.inl ⟨by rfl, ?_⟩) hS1 ?_
            rotate_left 1
            · (intro w hSw; go_simp)
              all_goals with_reducible rfl
            try go_simp
            refine wpAnyH_take (i := 4) (v := ?_) rfl (by kernel_rfl) (by kernel_rfl) (by kernel_rfl) (fun _ _ _ h => h) (Or.inl ⟨by rfl, ?_⟩) hS1 ?_
            rotate_left 1
            · (intro w hSw; go_simp)
              all_goals with_reducible rfl
            try go_simp
            refine wpAnyH_take (i := 5) (v := ?_) rfl (by kernel_rfl) (by kernel_rfl) (by kernel_rfl) (fun _ _ _ h => h) (Or.inl ⟨by rfl, ?_⟩) hS1 ?_
            rotate_left 1
            · (intro w hSw; go_simp)
              all_goals with_reducible rfl
            try go_simp
            refine wpAnyH_take (i := 6) (v := ?_) rfl (by kernel_rfl) (by kernel_rfl) (by kernel_rfl) (fun _ _ _ h => h) (Or.inl ⟨by rfl, ?_⟩) hS1 ?_
            rotate_left 1
            · (intro w hSw; go_simp)
              all_goals with_reducible rfl
            try go_simp
            refine wpAnyH_take (i := 7) (v := ?_) rfl (by kernel_rfl) (by kernel_rfl) (by kernel_rfl) (fun _ _ _ h => h) (Or.inl ⟨by rfl, ?_⟩) hS1 ?_
            rotate_left 1
            · (intro w hSw; go_simp)
              all_goals with_reducible rfl
            try go_simp
            refine wpAnyH_take (i := 8) (v := undef) rfl (by kernel_rfl) (by kernel_rfl) (by kernel_rfl) (fun _ _ _ h => h) (Or.inr ⟨by rfl, rfl⟩) hS1 ?_
            try go_simp
            refine wpAnyH_take (i := 9) (v := undef) rfl (by kernel_rfl) (by kernel_rfl) (by kernel_rfl) (fun _ _ _ h => h) (Or.inr ⟨by rfl, rfl⟩) hS1 ?_
            try go_simp
            refine wpAnyH_take (i := 10) (v := undef) rfl (by kernel_rfl) (by kernel_rfl) (by kernel_rfl) (fun _ _ _ h => h) (Or.inr ⟨by rfl, rfl⟩) hS1 ?_
            try go_simp
            refine wpAnyH_take (i := 11) (v := undef) rfl (by kernel_rfl) (by kernel_rfl) (by kernel_rfl) (fun _ _ _ h => h) (Or.inr ⟨by rfl, rfl⟩) hS1 ?_
            try go_simp
            refine wpAnyH_take (i := 12) (v := undef) rfl (by kernel_rfl) (by kernel_rfl) (by kernel_rfl) (fun _ _ _ h => h) (Or.inr ⟨by rfl, rfl⟩) hS1 ?_
            try go_simp
            refine wpAnyH_take (i := 13) (v := undef) rfl (by kernel_rfl) (by kernel_rfl) (by kernel_rfl) (fun _ _ _ h => h) (Or.inr ⟨by rfl, rfl⟩) hS1 ?_
            try go_simp
            refine wpAnyH_take (i := 14) (v := undef) rfl (by kernel_rfl) (by kernel_rfl) (by kernel_rfl) (fun _ _ _ h => h) (Or.inr ⟨by rfl, rfl⟩) hS1 ?_
            try go_simp
            refine wpAnyH_take (i := 15) (v := undef) rfl (by kernel_rfl) (by kernel_rfl) (by kernel_rfl) (fun _ _ _ h => h) (Or.inr ⟨by rfl, rfl⟩) hS1 ?_
            try go_simp
            refine wpAnyH_take (i := 16) (v := ?_) rfl (by kernel_rfl) (by kernel_rfl) (by kernel_rfl) (fun _ _ _ h => h) (Or.inl ⟨by rfl, ?_⟩) hS1 ?_
            rotate_left 1
            · (intro w hSw; go_simp)
              all_goals with_reducible rfl
            try go_simp
            refine wpAnyH_take (i := 17) (v := ?_) rfl (by kernel_rfl) (by kernel_rfl) (by kernel_rfl) (fun _ _ _ h => h) (Or.inl ⟨by rfl, ?_⟩) hS1 ?_
            rotate_left 1
            · (intro w hSw; go_simp)
              all_goals with_reducible rfl
            try go_simp
            refine wpAnyH_take (i := 18) (v := ?_) rfl (by kernel_rfl) (by kernel_rfl) (by kernel_rfl) (fun _ _ _ h => h) (Or.inl ⟨by rfl, ?_⟩) hS1 ?_
            rotate_left 1
            · (intro w hSw; go_simp)
              all_goals with_reducible rfl
            try go_simp
            refine wpAnyH_ready (rs := [19]) (by kernel_rfl) (by simp) ?_
            refine AllReadyH.cons rfl (fun K0 hK0 => ?_) AllReadyH.nil
            refine step_callW (by rfl) 44 _ _ rfl aliveEnters #[] rfl (alive _) ?_
            rintro e w1 ⟨rfl, hbq⟩
            refine ⟨_, rfl, hK0.out _ _ (keep9 hS1 hbq) (fun hS2 => ?_)⟩
            clear hK0 K0
            try go_simp
            refine wpAnyH_take (i := 20) (v := ?_) rfl (by kernel_rfl) (by kernel_rfl) (by kernel_rfl) (fun _ _ _ h => h) (Or.inl ⟨by rfl, ?_⟩) hS2 ?_
            rotate_left 1
            · (intro w hSw; go_simp)
              all_goals with_reducible rfl
            try go_simp
            refine wpAnyH_take (i := 21) (v := ?_) rfl (by kernel_rfl) (by kernel_rfl) (by kernel_rfl) (fun _ _ _ h => h) (Or.inl ⟨by rfl, ?_⟩) hS2 ?_
            rotate_left 1
            · (intro w hSw; go_simp)
              all_goals with_reducible rfl
            try go_simp
            refine wpAnyH_done (by kernel_rfl) ?_ _
            have HB9 := Lib.hid (HB.out.trans (hS2.2.2.1.mono HB.out.size))
            go_wp2
            go_ret
            exact ⟨retB (by first | rfl | simp), HB9.out⟩
end Go.Proofs.Ytjidkjnlnenmbaa.Val
