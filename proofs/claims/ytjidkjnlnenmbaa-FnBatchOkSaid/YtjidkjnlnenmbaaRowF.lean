/- RowFits, both sides. -/
import Derived.Test.YtjidkjnlnenmbaaRowV
import Derived.BigQuiet
namespace Go.Proofs.Ytjidkjnlnenmbaa.Val
open Go.RowKit
set_option linter.unusedVariables false
theorem drewNB {B : Nat} {a w : World} (h : Below B a w) (n : Nat) : Below B a (w.drewN n) := ⟨h.os, h.tape, h.output, h.size, h.block⟩
def takeB (c : CT) (v : VT) : Bool := decide (v.1 = c.1) || (c.2 && decide (v.1 = 0))
def fitB (cs : List CT) (vs : List VT) : Bool := colB cs && rowB vs && decide (vs.length = cs.length) && (cs.zip vs).all fun p => takeB p.1 p.2
theorem columnTakes (c : Int) (b : Bool) (x n : Int) (s : ByteArray) (w : World) : Calls Try.prog 123 #[.agg #[.int .i64 c, .bool b], .agg #[.int .i64 x, .int .i64 n, .string s]] w fun e w' => e = .returned (.bool (takeB (c, b) (x, n, s))) ∧ Below w.heap.size w w' := by
  go_enter Try.func123, Try.ntmps123
  go_wp2
  all_goals (go_ret; refine ⟨retB ?_, by (repeat (with_reducible first | exact Below.refl _ _ | exact HBD.out | (refine Below.trans ?_ (Below.mono hb1 (by first | omega | (simp; done) | (simp; omega))); clear hb1) | (refine Below.trans ?_ (Below.mono hb2 (by first | omega | (simp; done) | (simp; omega))); clear hb2) | (refine Below.trans ?_ (Below.mono hb3 (by first | omega | (simp; done) | (simp; omega))); clear hb3) | (refine Below.trans ?_ (Below.mono hb4 (by first | omega | (simp; done) | (simp; omega))); clear hb4) | (refine Below.trans ?_ (Below.mono hb5 (by first | omega | (simp; done) | (simp; omega))); clear hb5) | (refine Below.trans ?_ (Below.mono hb6 (by first | omega | (simp; done) | (simp; omega))); clear hb6) | (refine Below.trans ?_ (Below.mono hb7 (by first | omega | (simp; done) | (simp; omega))); clear hb7) | (refine Below.trans ?_ (Below.mono hb8 (by first | omega | (simp; done) | (simp; omega))); clear hb8) | (refine Below.trans ?_ (Below.mono hb9 (by first | omega | (simp; done) | (simp; omega))); clear hb9) | (refine Below.trans ?_ (Below.mono hb10 (by first | omega | (simp; done) | (simp; omega))); clear hb10) | refine Below.alloc ?_ (by first | omega | (simp; done) | (simp; omega)) _ | refine Below.setCell ?_ (by first | omega | (simp; done) | (simp; omega)) _ | refine Below.drew ?_))⟩)
  all_goals (simp_all [takeB])
  all_goals (rename_i h1 h2; rw [beq_eq_false_iff_ne.2 h1, Bool.false_or]; rfl)
theorem rowFitsI (A B : Option Addr) (g o g2 o2 cap cap2 : Nat) (cs : List CT) (vs : List VT) (w : World) (hA : Fl w g o A (flatC cs)) (hB : Fl w g2 o2 B (flatV vs)) (hl : cs.length ≤ 2000000) (hm : vs.length ≤ 2000000) (hs : Short vs) : Calls Try.prog 95 #[.slice A cs.length cap, .slice B vs.length cap2] w fun e w' => e = .returned (.bool (fitB cs vs)) ∧ Below w.heap.size w w' := by
  have HA := Lib.hid hA
  have HB := Lib.hid hB
  have HSH := Lib.hid hs
  clear hA hB hs
  have CC := Lib.hid (fun w hw => columnsOkI A g o cap cs w hw hl)
  have CR := Lib.hid (fun w hw => rowOkI B g2 o2 cap2 vs w hw hm HSH.out)
  obtain ⟨B1, hB1⟩ : ∃ b, colB cs = b := ⟨_, rfl⟩
  obtain ⟨B2, hB2⟩ : ∃ b, rowB vs = b := ⟨_, rfl⟩
  rw [hB1] at CC
  rw [hB2] at CR
  have F1 := Lib.hid hB1
  have F2 := Lib.hid hB2
  clear hB1 hB2
  by_cases hlen : vs.length = cs.length
  · have e0 : ((vs.length : Int) != cs.length) = false := by simp; omega
    have HLN := Lib.hid hlen
    clear hlen
    go_enter Try.func95, Try.ntmps95
    go_wp2_with (first | (go_at_call 94; (with_reducible refine (CC.out _ HA.out).mono ?_); rintro e w1 ⟨rfl, rfl⟩) | (go_at_call 122; (with_reducible refine (CR.out _ HB.out).mono ?_); rintro e w1 ⟨rfl, hb1⟩; have HB1 := Lib.hid hb1; clear hb1))
    all_goals try (go_ret; refine ⟨retB ?_, by first | exact HB1.out | exact Below.refl _ _⟩; have f1 := F1.out; have f2 := F2.out; simp_all [fitB]; done)
    have HB12 : Hid (B1 = true ∧ B2 = true) := ⟨by assumption, by assumption⟩
    have hzl : (cs.zip vs).length = vs.length := by have := HLN.out; simp; omega
    go_loopw [5] (fun ix wr => ∃ k : Nat, k ≤ vs.length ∧ ix = .int .i64 k ∧ Hid (Below w.heap.size w wr) ∧ Hid (((cs.zip vs).take k).all (fun p => takeB p.1 p.2) = true)) (fun ix _ => vs.length - (intOf ix).toNat)
    case atStart => exact ⟨0, Nat.zero_le _, rfl, HB1, rfl⟩
    case round =>
      obtain ⟨k, hk, rfl, HW, HL⟩ := hrel
      by_cases hlt : k < vs.length
      · have hlc : k < cs.length := by have := HLN.out; omega
        obtain ⟨rfl, -, -, -⟩ := HA.out.cl k hlc
        obtain ⟨rfl, -, -, -, -⟩ := HB.out.v k hlt
        obtain ⟨-, hg, c0, c1⟩ := (HA.out.below HW.out).cl k hlc
        obtain ⟨-, hg', d0, d1, d2⟩ := (HB.out.below HW.out).v k hlt
        have hkz : k < (cs.zip vs).length := by omega
        have HS := Lib.hid (all_snoc (fun p : CT × VT => takeB p.1 p.2) (cs.zip vs) k hkz)
        have HN := Lib.hid (fun hp => all_no (p := fun p : CT × VT => takeB p.1 p.2) (l := cs.zip vs) k hkz hp)
        simp only [List.getElem_zip] at HS HN
        obtain ⟨K, hK⟩ : ∃ K, vs[k] = K := ⟨_, rfl⟩
        obtain ⟨C, hC⟩ : ∃ C, cs[k]'hlc = C := ⟨_, rfl⟩
        rw [hK] at d0 d1 d2
        rw [hC] at c0 c1
        rw [hK, hC] at HS HN
        clear hkz
        obtain ⟨x, n, s⟩ := K
        obtain ⟨c, b⟩ := C
        simp only at c0 c1 d0 d1 d2
        have CT := Lib.hid (fun w => columnTakes c b x n s w)
        obtain ⟨E, hE⟩ : ∃ E, takeB (c, b) (x, n, s) = E := ⟨_, rfl⟩
        rw [hE] at CT HS HN
        clear hE hK hC
        have i0' : (0 : Int) ≤ (k : Int) := by omega
        have i1' : (k : Int) < (vs.length : Int) := by omega
        have i2' : (k : Int) < (cs.length : Int) := by omega
        go_wp2
        go_region_with (go_at_call 123; (with_reducible refine (CT.out _).mono ?_); rintro e w1 ⟨rfl, hb1⟩; have HW1 := Lib.hid (HW.out.drew.trans (hb1.mono HW.out.size)); clear hb1 HW)
        all_goals go_wp2
        all_goals first
          | (go_ret
             refine ⟨retB ?_, HW1.out⟩
             have hf := HN.out (not_of (by assumption))
             rw [fitB, hf]; simp)
          | exact ⟨⟨k + 1, by omega, by go_num, HW1, hid_all HS HL (by assumption)⟩, by simp [intOf]; omega⟩
      · obtain rfl : k = vs.length := by omega
        go_wp2
        go_ret
        refine ⟨retB ?_, HW.out⟩
        rw [← hzl] at HL
        rw [fitB, all_end HL, F1.out, F2.out, HB12.out.1, HB12.out.2, HLN.out]; simp
  · have e0 : ((vs.length : Int) != cs.length) = true := by simp; omega
    have HF : Hid (fitB cs vs = false) := by
      show _ = false
      simp [fitB, hlen]
    clear hlen
    go_enter Try.func95, Try.ntmps95
    go_wp2_with (first | (go_at_call 94; (with_reducible refine (CC.out _ HA.out).mono ?_); rintro e w1 ⟨rfl, rfl⟩) | (go_at_call 122; (with_reducible refine (CR.out _ HB.out).mono ?_); rintro e w1 ⟨rfl, hb1⟩; have HB1 := Lib.hid hb1; clear hb1))
    all_goals (go_ret; exact ⟨retB HF.out.symm, by first | exact HB1.out | exact Below.refl _ _⟩)
theorem rowFitsS (A B : Option Addr) (g o g2 o2 cap cap2 : Nat) (cs : List CT) (vs : List VT) (w : World) (hA : Fl w g o A (flatC cs)) (hB : Fl w g2 o2 B (flatV vs)) (hl : cs.length ≤ 2000000) (hm : vs.length ≤ 2000000) (hs : Short vs) : Calls Try.prog 106 #[.slice A cs.length cap, .slice B vs.length cap2] w fun e w' => e = .returned (.bool (fitB cs vs)) ∧ Below w.heap.size w w' := by
  have HA := Lib.hid hA
  have HB := Lib.hid hB
  have HSH := Lib.hid hs
  clear hA hB hs
  have CC := Lib.hid (fun w hw => columnsOkS A g o cap cs w hw hl)
  have CR := Lib.hid (fun w hw => rowOkS B g2 o2 cap2 vs w hw hm HSH.out)
  obtain ⟨B1, hB1⟩ : ∃ b, colB cs = b := ⟨_, rfl⟩
  obtain ⟨B2, hB2⟩ : ∃ b, rowB vs = b := ⟨_, rfl⟩
  rw [hB1] at CC
  rw [hB2] at CR
  have F1 := Lib.hid hB1
  have F2 := Lib.hid hB2
  clear hB1 hB2
  by_cases hlen : vs.length = cs.length
  · have e0 : ((vs.length : Int) != cs.length) = false := by simp; omega
    have HLN := Lib.hid hlen
    clear hlen
    go_enter Try.func106, Try.ntmps106
    go_wp2_with (first | (go_at_call 107; (with_reducible refine (CC.out _ HA.out).mono ?_); rintro e w1 ⟨rfl, rfl⟩) | (go_at_call 133; (with_reducible refine (CR.out _ HB.out).mono ?_); rintro e w1 ⟨rfl, hb1⟩; have HB1 := Lib.hid hb1; clear hb1))
    all_goals try (go_ret; refine ⟨retB ?_, by first | exact HB1.out | exact Below.refl _ _⟩; have f1 := F1.out; have f2 := F2.out; simp_all [fitB]; done)
    have HB12 : Hid (B1 = true ∧ B2 = true) := ⟨by assumption, by assumption⟩
    have hzl : (cs.zip vs).length = vs.length := by have := HLN.out; simp; omega
    go_loopw [5] (fun ix wr => ∃ k : Nat, k ≤ vs.length ∧ ix = .int .i64 k ∧ Hid (Below w.heap.size w wr) ∧ Hid (((cs.zip vs).take k).all (fun p => takeB p.1 p.2) = true)) (fun ix _ => vs.length - (intOf ix).toNat)
    case atStart => exact ⟨0, Nat.zero_le _, rfl, HB1, rfl⟩
    case round =>
      obtain ⟨k, hk, rfl, HW, HL⟩ := hrel
      by_cases hlt : k < vs.length
      · have hlc : k < cs.length := by have := HLN.out; omega
        obtain ⟨rfl, -, -, -⟩ := HA.out.cl k hlc
        obtain ⟨rfl, -, -, -, -⟩ := HB.out.v k hlt
        obtain ⟨-, hg, c0, c1⟩ := (HA.out.below HW.out).cl k hlc
        obtain ⟨-, hg', d0, d1, d2⟩ := (HB.out.below HW.out).v k hlt
        have hkz : k < (cs.zip vs).length := by omega
        have HS := Lib.hid (all_snoc (fun p : CT × VT => takeB p.1 p.2) (cs.zip vs) k hkz)
        have HN := Lib.hid (fun hp => all_no (p := fun p : CT × VT => takeB p.1 p.2) (l := cs.zip vs) k hkz hp)
        simp only [List.getElem_zip] at HS HN
        obtain ⟨K, hK⟩ : ∃ K, vs[k] = K := ⟨_, rfl⟩
        obtain ⟨C, hC⟩ : ∃ C, cs[k]'hlc = C := ⟨_, rfl⟩
        rw [hK] at d0 d1 d2
        rw [hC] at c0 c1
        rw [hK, hC] at HS HN
        clear hkz
        obtain ⟨x, n, s⟩ := K
        obtain ⟨c, b⟩ := C
        simp only at c0 c1 d0 d1 d2
        have i0' : (0 : Int) ≤ (k : Int) := by omega
        have i1' : (k : Int) < (vs.length : Int) := by omega
        have i2' : (k : Int) < (cs.length : Int) := by omega
        clear hK hC
        have hno : takeB (c, b) (x, n, s) = true → Hid (((cs.zip vs).take (k + 1)).all (fun p => takeB p.1 p.2) = true) := fun h => hid_all HS HL (by rw [h]; rfl)
        have HNO := Lib.hid hno
        have HFA : Hid (takeB (c, b) (x, n, s) = false → false = fitB cs vs) := by
          intro h
          have hf := HN.out h
          rw [fitB, hf]; simp
        clear hno HS HN
        by_cases h1 : x = c
        · have HQ := Lib.hid (HNO.out (by simp [takeB, h1]))
          subst h1
          have t1 : (x != x) = false := by simp
          go_wp2
          go_quiet (fail)
          go_wp2
          exact ⟨⟨k + 1, by omega, by go_num, drewNB HW.out _, HQ⟩, by simp [intOf]; omega⟩
        · have t1 : (x != c) = true := by simpa using h1
          by_cases h2 : x = 0
          · subst h2
            have t2 : ((0 : Int) != 0) = false := by decide
            cases b
            · have HQ := Lib.hid (HFA.out (by simp [takeB]; exact h1))
              clear h1
              go_wp2
              go_quiet (fail)
              go_wp2
              go_ret
              exact ⟨retB HQ.out, drewNB HW.out _⟩
            · have HQ := Lib.hid (HNO.out (by simp [takeB]))
              clear h1
              go_wp2
              go_quiet (fail)
              go_wp2
              exact ⟨⟨k + 1, by omega, by go_num, drewNB HW.out _, HQ⟩, by simp [intOf]; omega⟩
          · have t2 : (x != 0) = true := by simpa using h2
            have HQ := Lib.hid (HFA.out (by simp [takeB, h1, h2]))
            clear h1 h2
            go_wp2
            go_quiet (fail)
            go_wp2
            go_ret
            exact ⟨retB HQ.out, drewNB HW.out _⟩
      · obtain rfl : k = vs.length := by omega
        go_wp2
        go_ret
        refine ⟨retB ?_, HW.out⟩
        rw [← hzl] at HL
        rw [fitB, all_end HL, F1.out, F2.out, HB12.out.1, HB12.out.2, HLN.out]; simp
  · have e0 : ((vs.length : Int) != cs.length) = true := by simp; omega
    have HF : Hid (fitB cs vs = false) := by
      show _ = false
      simp [fitB, hlen]
    clear hlen
    go_enter Try.func106, Try.ntmps106
    go_wp2_with (first | (go_at_call 107; (with_reducible refine (CC.out _ HA.out).mono ?_); rintro e w1 ⟨rfl, rfl⟩) | (go_at_call 133; (with_reducible refine (CR.out _ HB.out).mono ?_); rintro e w1 ⟨rfl, hb1⟩; have HB1 := Lib.hid hb1; clear hb1))
    all_goals (go_ret; exact ⟨retB HF.out.symm, by first | exact HB1.out | exact Below.refl _ _⟩)
end Go.Proofs.Ytjidkjnlnenmbaa.Val
