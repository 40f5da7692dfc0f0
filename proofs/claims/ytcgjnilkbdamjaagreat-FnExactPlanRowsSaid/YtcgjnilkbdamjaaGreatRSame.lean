/- SameBag, RowsOk, both sides. -/
import Derived.Test.YtcgjnilkbdamjaaGreatRMany
import Derived.Test.YtcgjnilkbdamjaaGreatRowF
import Derived.Deep.RegionHeldLaw
namespace Go.Proofs.YtcgjnilkbdamjaaGreat.Val
open Go.RowKit
set_option linter.unusedVariables false
set_option maxRecDepth 8000
theorem keepR2 {w W W1 : World} {g o gB oB g' o' q : Nat} {A B A' : Option Addr} {al bs : List RT} {K : RT} {x : Value} (h : W.cell? ⟨g, q, none⟩ = some x ∧ Rws W g o A al ∧ Rws W gB oB B bs ∧ Fl W g' o' A' (flatV K) ∧ Below w.heap.size w W ∧ w.heap.size ≤ W.heap.size) (hb : Below W.heap.size W W1) :
    W1.cell? ⟨g, q, none⟩ = some x ∧ Rws W1 g o A al ∧ Rws W1 gB oB B bs ∧ Fl W1 g' o' A' (flatV K) ∧ Below w.heap.size w W1 ∧ w.heap.size ≤ W1.heap.size :=
  ⟨(hb.cell (p := ⟨g, q, none⟩) (World.block_lt_of_cell? W ⟨g, q, none⟩ h.1)).trans h.1, h.2.1.below hb, h.2.2.1.below hb, h.2.2.2.1.below hb, h.2.2.2.2.1.trans (hb.mono h.2.2.2.2.2), Nat.le_trans h.2.2.2.2.2 hb.size⟩
theorem keepR2D {w W : World} {g o gB oB g' o' q : Nat} {A B A' : Option Addr} {al bs : List RT} {K : RT} {x : Value} (h : W.cell? ⟨g, q, none⟩ = some x ∧ Rws W g o A al ∧ Rws W gB oB B bs ∧ Fl W g' o' A' (flatV K) ∧ Below w.heap.size w W ∧ w.heap.size ≤ W.heap.size) :
    W.drew.cell? ⟨g, q, none⟩ = some x ∧ Rws W.drew g o A al ∧ Rws W.drew gB oB B bs ∧ Fl W.drew g' o' A' (flatV K) ∧ Below w.heap.size w W.drew ∧ w.heap.size ≤ W.drew.heap.size := keepR2 h ((Below.refl _ _).drew)
theorem kA {w W : World} {g o gB oB g' o' q : Nat} {A B A' : Option Addr} {al bs : List RT} {K : RT} {x : Value} (h : W.cell? ⟨g, q, none⟩ = some x ∧ Rws W g o A al ∧ Rws W gB oB B bs ∧ Fl W g' o' A' (flatV K) ∧ Below w.heap.size w W ∧ w.heap.size ≤ W.heap.size) : Rws W g o A al := h.2.1
theorem kB {w W : World} {g o gB oB g' o' q : Nat} {A B A' : Option Addr} {al bs : List RT} {K : RT} {x : Value} (h : W.cell? ⟨g, q, none⟩ = some x ∧ Rws W g o A al ∧ Rws W gB oB B bs ∧ Fl W g' o' A' (flatV K) ∧ Below w.heap.size w W ∧ w.heap.size ≤ W.heap.size) : Rws W gB oB B bs := h.2.2.1
theorem kF {w W : World} {g o gB oB g' o' q : Nat} {A B A' : Option Addr} {al bs : List RT} {K : RT} {x : Value} (h : W.cell? ⟨g, q, none⟩ = some x ∧ Rws W g o A al ∧ Rws W gB oB B bs ∧ Fl W g' o' A' (flatV K) ∧ Below w.heap.size w W ∧ w.heap.size ≤ W.heap.size) : Fl W g' o' A' (flatV K) := h.2.2.2.1
theorem kW {w W : World} {g o gB oB g' o' q : Nat} {A B A' : Option Addr} {al bs : List RT} {K : RT} {x : Value} (h : W.cell? ⟨g, q, none⟩ = some x ∧ Rws W g o A al ∧ Rws W gB oB B bs ∧ Fl W g' o' A' (flatV K) ∧ Below w.heap.size w W ∧ w.heap.size ≤ W.heap.size) : Below w.heap.size w W := h.2.2.2.2.1
def rowsB (cs : List CT) (ls : List RT) : Bool := colB cs && ls.all (fitB cs)
theorem rowsOkI (A B : Option Addr) (g o gB oB cap capB : Nat) (cs : List CT) (ls : List RT) (w : World) (hA : Fl w g o A (flatC cs)) (hB : Rws w gB oB B ls) (hl : cs.length ≤ 2000000) (hok : Ok2 ls) :
    Calls Tryz.prog 89 #[.slice A cs.length cap, .slice B ls.length capB] w fun e w' => e = .returned (.bool (rowsB cs ls)) ∧ Below w.heap.size w w' := by
  have HA := Lib.hid hA
  have HB := Lib.hid hB
  have HK := Lib.hid hok
  have hl2 := hok.1
  clear hA hB hok
  have CC := Lib.hid (fun w hw => columnsOkI A g o cap cs w hw hl)
  obtain ⟨B1, hB1⟩ : ∃ b, colB cs = b := ⟨_, rfl⟩
  rw [hB1] at CC
  have F1 := Lib.hid hB1
  clear hB1
  go_enter Tryz.func89, Tryz.ntmps89
  go_wp2_with (go_at_call 111; (with_reducible refine (CC.out _ HA.out).mono ?_); rintro e w1 ⟨rfl, rfl⟩)
  · go_ret
    refine ⟨retB ?_, Below.refl _ _⟩
    have f1 := F1.out
    rw [rowsB, f1]; simp_all
  · obtain rfl : B1 = true := yes_of (by assumption)
    simp only [Bool.not_true]
    go_loopw [5] (fun ix wr => ∃ (k : Nat), k ≤ ls.length ∧ ix = .int .i64 k ∧ Hid ((ls.take k).all (fitB cs) = true) ∧ Hid (Below w.heap.size w wr)) (fun ix _ => ls.length - (intOf ix).toNat)
    case atStart => exact ⟨0, Nat.zero_le _, rfl, rfl, Below.refl _ _⟩
    case round =>
      obtain ⟨k, hk, rfl, HL, HW⟩ := hrel
      by_cases hlt : k < ls.length
      · obtain ⟨rfl, hg, c', g', o', hc, hf⟩ := (HB.out.below HW.out).at k hlt
        have HF := Lib.hid hf
        obtain ⟨hlr, hsr⟩ := HK.out.at k hlt
        have HS := Lib.hid (all_snoc (fitB cs) ls k hlt)
        have HN := Lib.hid (fun hp => all_no (p := fitB cs) k hlt hp)
        obtain ⟨K, hK⟩ : ∃ K, ls[k] = K := ⟨_, rfl⟩
        rw [hK] at hc HF HS HN hlr hsr
        clear hK hf
        have CF := Lib.hid (fun W hW hW2 => rowFitsI A (some ⟨g', o', none⟩) g o g' o' cap c' cs K W hW hW2 hl hlr hsr)
        obtain ⟨kl, hkl⟩ : ∃ n, K.length = n := ⟨_, rfl⟩
        rw [hkl] at hc CF
        clear hkl hsr
        obtain ⟨E, hE⟩ : ∃ E, fitB cs K = E := ⟨_, rfl⟩
        rw [hE] at CF HS HN
        clear hE
        have i0' : (0 : Int) ≤ (k : Int) := by omega
        have i1' : (k : Int) < (ls.length : Int) := by omega
        go_wp2_with (go_at_call 112; (with_reducible refine (CF.out _ (HA.out.below HW.out) HF.out).mono ?_); rintro e w1 ⟨rfl, hb1⟩; have HW1 := Lib.hid (HW.out.trans (hb1.mono HW.out.size)); clear hb1 HW)
        · go_ret
          refine ⟨retB ?_, HW1.out⟩
          rw [rowsB, HN.out (not_of (by assumption))]; simp
        · go_round
          case rel => exact ⟨k + 1, by omega, by go_num, hid_all HS HL (by assumption), HW1⟩
          case measure => simp [intOf]; omega
      · obtain rfl : k = ls.length := by omega
        go_wp2
        go_ret
        refine ⟨retB ?_, HW.out⟩
        have f1 := F1.out
        rw [rowsB, all_end HL, f1]; simp_all
theorem rowsOkS (A B : Option Addr) (g o gB oB cap capB : Nat) (cs : List CT) (ls : List RT) (w : World) (hA : Fl w g o A (flatC cs)) (hB : Rws w gB oB B ls) (hl : cs.length ≤ 2000000) (hok : Ok2 ls) :
    Calls Tryz.prog 80 #[.slice A cs.length cap, .slice B ls.length capB] w fun e w' => e = .returned (.bool (rowsB cs ls)) ∧ Below w.heap.size w w' := by
  have HA := Lib.hid hA
  have HB := Lib.hid hB
  have HK := Lib.hid hok
  have hl2 := hok.1
  clear hA hB hok
  have CC := Lib.hid (fun w hw => columnsOkS A g o cap cs w hw hl)
  go_enter Tryz.func80, Tryz.ntmps80
  go_wp2
  go_loopw [5] (fun ix wr => ∃ (k : Nat), k ≤ ls.length ∧ ix = .int .i64 k ∧ Hid ((ls.take k).all (fitB cs) = true) ∧ Hid (Below w.heap.size w wr)) (fun ix _ => ls.length - (intOf ix).toNat)
  case atStart => exact ⟨0, Nat.zero_le _, rfl, rfl, Below.refl _ _⟩
  case round =>
    obtain ⟨k, hk, rfl, HL, HW⟩ := hrel
    by_cases hlt : k < ls.length
    · obtain ⟨rfl, hg, c', g', o', hc, hf⟩ := (HB.out.below HW.out).at k hlt
      have HF := Lib.hid hf
      obtain ⟨hlr, hsr⟩ := HK.out.at k hlt
      have HS := Lib.hid (all_snoc (fitB cs) ls k hlt)
      have HN := Lib.hid (fun hp => all_no (p := fitB cs) k hlt hp)
      obtain ⟨K, hK⟩ : ∃ K, ls[k] = K := ⟨_, rfl⟩
      rw [hK] at hc HF HS HN hlr hsr
      clear hK hf
      have CF := Lib.hid (fun W hW hW2 => rowFitsS A (some ⟨g', o', none⟩) g o g' o' cap c' cs K W hW hW2 hl hlr hsr)
      obtain ⟨kl, hkl⟩ : ∃ n, K.length = n := ⟨_, rfl⟩
      rw [hkl] at hc CF
      clear hkl hsr
      obtain ⟨E, hE⟩ : ∃ E, fitB cs K = E := ⟨_, rfl⟩
      rw [hE] at CF HS HN
      clear hE
      have i0' : (0 : Int) ≤ (k : Int) := by omega
      have i1' : (k : Int) < (ls.length : Int) := by omega
      go_wp2_with (go_at_call 105; (with_reducible refine (CF.out _ (HA.out.below HW.out) HF.out).mono ?_); rintro e w1 ⟨rfl, hb1⟩; have HW1 := Lib.hid (HW.out.trans (hb1.mono HW.out.size)); clear hb1 HW)
      · go_ret
        refine ⟨retB ?_, HW1.out⟩
        rw [rowsB, HN.out (not_of (by assumption))]; simp
      · go_round
        case rel => exact ⟨k + 1, by omega, by go_num, hid_all HS HL (by assumption), HW1⟩
        case measure => simp [intOf]; omega
    · obtain rfl : k = ls.length := by omega
      go_wp2_with (go_at_call 106; (with_reducible refine (CC.out _ (HA.out.below HW.out)).mono ?_); rintro e w1 ⟨rfl, rfl⟩)
      all_goals (go_ret; refine ⟨retB ?_, HW.out⟩; rw [rowsB, all_end HL]; simp)
end Go.Proofs.YtcgjnilkbdamjaaGreat.Val
