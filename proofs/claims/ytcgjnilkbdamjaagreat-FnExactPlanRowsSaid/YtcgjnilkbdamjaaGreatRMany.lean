/- How many of rows are a row: rowIs, l3Same, RowMany. -/
import Derived.Test.YtcgjnilkbdamjaaGreatBag
namespace Go.Proofs.YtcgjnilkbdamjaaGreat.Val
open Go.RowKit
set_option linter.unusedVariables false
theorem rowIsE (A B : Option Addr) (g g' o o' cA cB : Nat) (l m : List VT) (w : World) (hA : Fl w g o A (flatV l)) (hB : Fl w g' o' B (flatV m)) (hl : l.length ≤ 2000000) (hm : m.length ≤ 2000000) :
    Calls Tryz.prog 75 #[.slice A l.length cA, .slice B m.length cB] w fun e w' => ∃ E : Bool, (e = .returned (.bool E) ∧ (E = true ↔ l = m)) ∧ Below w.heap.size w w' := by
  have HA := Lib.hid hA
  have HB := Lib.hid hB
  clear hA hB
  go_enter Tryz.func75, Tryz.ntmps75
  by_cases hlen : l.length = m.length
  · have e0 : ((l.length : Int) != m.length) = false := by simp; omega
    have HLN := Lib.hid hlen
    clear hlen
    go_wp2
    go_loopw [5] (fun ix wr => ∃ (k : Nat), k ≤ l.length ∧ ix = .int .i64 k ∧ Hid (Below w.heap.size w wr) ∧ Hid (l.take k = m.take k)) (fun ix _ => l.length - (intOf ix).toNat)
    case atStart => exact ⟨0, by omega, rfl, Below.refl _ _, rfl⟩
    case round =>
      obtain ⟨k, hk, rfl, HW, HL⟩ := hrel
      by_cases hlt : k < l.length
      · have hlm : k < m.length := by have := HLN.out; omega
        obtain ⟨rfl, -, -, -, -⟩ := HA.out.v k hlt
        obtain ⟨rfl, -, -, -, -⟩ := HB.out.v k hlm
        obtain ⟨-, hg2, c0, c1, c2⟩ := (HA.out.below HW.out).v k hlt
        obtain ⟨-, hg2', d0, d1, d2⟩ := (HB.out.below HW.out).v k hlm
        have HS := Lib.hid (take_eq_step l m k hlt hlm HL.out)
        obtain ⟨K, hK⟩ : ∃ K, l[k] = K := ⟨_, rfl⟩
        obtain ⟨K2, hK2⟩ : ∃ K, m[k]'hlm = K := ⟨_, rfl⟩
        rw [hK] at c0 c1 c2
        rw [hK2] at d0 d1 d2
        rw [hK, hK2] at HS
        clear hK hK2
        have i0' : (0 : Int) ≤ (k : Int) := by omega
        have i1' : (k : Int) < (l.length : Int) := by omega
        have i2' : (k : Int) < (m.length : Int) := by omega
        by_cases hq : K = K2
        · have HQ := Lib.hid (HS.out.1 hq)
          subst hq
          obtain ⟨x, n, s⟩ := K
          simp only at c0 c1 c2 d0 d1 d2
          clear HS
          go_wp2
          go_region
          all_goals go_wp2
          all_goals exact ⟨⟨k + 1, by omega, by go_num, HW.out.drew, HQ⟩, by simp [intOf]; omega⟩
        · have HQ := Lib.hid (HS.out.2 hq)
          obtain ⟨x, n, s⟩ := K
          obtain ⟨x2, n2, s2⟩ := K2
          simp only at c0 c1 c2 d0 d1 d2
          have hne : x = x2 → n = n2 → ¬ (s.toList = s2.toList) := fun e1 e2 e3 => hq (by rw [e1, e2, bytes_same e3])
          clear HS hq
          by_cases hx : x = x2
          · subst hx
            by_cases hn : n = n2
            · subst hn
              have hs := hne rfl rfl
              clear hne
              go_wp2
              go_region
              all_goals go_wp2
              all_goals (go_ret; exact ⟨false, ⟨rfl, by simpa using HQ.out⟩, HW.out.drew⟩)
            · clear hne
              go_wp2
              go_region
              all_goals go_wp2
              all_goals (go_ret; exact ⟨false, ⟨rfl, by simpa using HQ.out⟩, HW.out.drew⟩)
          · clear hne
            go_wp2
            go_region
            all_goals go_wp2
            all_goals (go_ret; exact ⟨false, ⟨rfl, by simpa using HQ.out⟩, HW.out.drew⟩)
      · obtain rfl : k = l.length := by omega
        go_wp2
        go_ret
        refine ⟨true, ⟨rfl, ?_⟩, HW.out⟩
        have := HL.out
        rw [List.take_length, HLN.out, List.take_length] at this
        simp [this]
  · go_wp2
    go_ret
    refine ⟨false, ⟨rfl, ?_⟩, Below.refl _ _⟩
    simp
    intro e; exact hlen (by rw [e])
theorem l3SameE (A B : Option Addr) (g g' o o' cA cB : Nat) (l m : List VT) (w : World) (hA : Fl w g o A (flatV l)) (hB : Fl w g' o' B (flatV m)) (hl : l.length ≤ 2000000) (hm : m.length ≤ 2000000) :
    Calls Tryz.prog 123 #[.slice A l.length cA, .slice B m.length cB] w fun e w' => ∃ E : Bool, (e = .returned (.bool E) ∧ (E = true ↔ l = m)) ∧ Below w.heap.size w w' := by
  have HA := Lib.hid hA
  have HB := Lib.hid hB
  clear hA hB
  go_enter Tryz.func123, Tryz.ntmps123
  by_cases hlen : l.length = m.length
  · have e0 : ((l.length : Int) != m.length) = false := by simp; omega
    have HLN := Lib.hid hlen
    clear hlen
    go_wp2
    go_loopw [5] (fun ix wr => ∃ (k : Nat), k ≤ l.length ∧ ix = .int .i64 k ∧ Hid (Below w.heap.size w wr) ∧ Hid (l.take k = m.take k)) (fun ix _ => l.length - (intOf ix).toNat)
    case atStart => exact ⟨0, by omega, rfl, Below.refl _ _, rfl⟩
    case round =>
      obtain ⟨k, hk, rfl, HW, HL⟩ := hrel
      by_cases hlt : k < l.length
      · have hlm : k < m.length := by have := HLN.out; omega
        obtain ⟨rfl, -, -, -, -⟩ := HA.out.v k hlt
        obtain ⟨rfl, -, -, -, -⟩ := HB.out.v k hlm
        obtain ⟨-, hg2, c0, c1, c2⟩ := (HA.out.below HW.out).v k hlt
        obtain ⟨-, hg2', d0, d1, d2⟩ := (HB.out.below HW.out).v k hlm
        have HS := Lib.hid (take_eq_step l m k hlt hlm HL.out)
        obtain ⟨K, hK⟩ : ∃ K, l[k] = K := ⟨_, rfl⟩
        obtain ⟨K2, hK2⟩ : ∃ K, m[k]'hlm = K := ⟨_, rfl⟩
        rw [hK] at c0 c1 c2
        rw [hK2] at d0 d1 d2
        rw [hK, hK2] at HS
        clear hK hK2
        have i0' : (0 : Int) ≤ (k : Int) := by omega
        have i1' : (k : Int) < (l.length : Int) := by omega
        have i2' : (k : Int) < (m.length : Int) := by omega
        by_cases hq : K = K2
        · have HQ := Lib.hid (HS.out.1 hq)
          subst hq
          obtain ⟨x, n, s⟩ := K
          simp only at c0 c1 c2 d0 d1 d2
          clear HS
          go_wp2
          go_region
          all_goals go_wp2
          all_goals exact ⟨⟨k + 1, by omega, by go_num, HW.out.drew, HQ⟩, by simp [intOf]; omega⟩
        · have HQ := Lib.hid (HS.out.2 hq)
          obtain ⟨x, n, s⟩ := K
          obtain ⟨x2, n2, s2⟩ := K2
          simp only at c0 c1 c2 d0 d1 d2
          have hne : x = x2 → n = n2 → ¬ (s.toList = s2.toList) := fun e1 e2 e3 => hq (by rw [e1, e2, bytes_same e3])
          clear HS hq
          by_cases hx : x = x2
          · subst hx
            by_cases hn : n = n2
            · subst hn
              have hs := hne rfl rfl
              clear hne
              go_wp2
              go_region
              all_goals go_wp2
              all_goals (go_ret; exact ⟨false, ⟨rfl, by simpa using HQ.out⟩, HW.out.drew⟩)
            · clear hne
              go_wp2
              go_region
              all_goals go_wp2
              all_goals (go_ret; exact ⟨false, ⟨rfl, by simpa using HQ.out⟩, HW.out.drew⟩)
          · clear hne
            go_wp2
            go_region
            all_goals go_wp2
            all_goals (go_ret; exact ⟨false, ⟨rfl, by simpa using HQ.out⟩, HW.out.drew⟩)
      · obtain rfl : k = l.length := by omega
        go_wp2
        go_ret
        refine ⟨true, ⟨rfl, ?_⟩, HW.out⟩
        have := HL.out
        rw [List.take_length, HLN.out, List.take_length] at this
        simp [this]
  · go_wp2
    go_ret
    refine ⟨false, ⟨rfl, ?_⟩, Below.refl _ _⟩
    simp
    intro e; exact hlen (by rw [e])
theorem rowIs (A B : Option Addr) (g g' o o' cA cB : Nat) (l m : List VT) (w : World) (hA : Fl w g o A (flatV l)) (hB : Fl w g' o' B (flatV m)) (hl : l.length ≤ 2000000) (hm : m.length ≤ 2000000) :
    Calls Tryz.prog 75 #[.slice A l.length cA, .slice B m.length cB] w fun e w' => e = .returned (.bool (decide (l = m))) ∧ Below w.heap.size w w' := by
  refine (rowIsE A B g g' o o' cA cB l m w hA hB hl hm).mono ?_
  rintro e w' ⟨E, ⟨rfl, h⟩, hb⟩
  refine ⟨?_, hb⟩
  have : E = decide (l = m) := by rw [Bool.eq_iff_iff, h, decide_eq_true_iff]
  rw [this]
theorem l3Same (A B : Option Addr) (g g' o o' cA cB : Nat) (l m : List VT) (w : World) (hA : Fl w g o A (flatV l)) (hB : Fl w g' o' B (flatV m)) (hl : l.length ≤ 2000000) (hm : m.length ≤ 2000000) :
    Calls Tryz.prog 123 #[.slice A l.length cA, .slice B m.length cB] w fun e w' => e = .returned (.bool (decide (l = m))) ∧ Below w.heap.size w w' := by
  refine (l3SameE A B g g' o o' cA cB l m w hA hB hl hm).mono ?_
  rintro e w' ⟨E, ⟨rfl, h⟩, hb⟩
  refine ⟨?_, hb⟩
  have : E = decide (l = m) := by rw [Bool.eq_iff_iff, h, decide_eq_true_iff]
  rw [this]
theorem rowManyI (A B : Option Addr) (g o g2 o2 cap cap2 : Nat) (ls : List RT) (r : RT) (w : World) (hA : Rws w g o A ls) (hB : Fl w g2 o2 B (flatV r)) (hok : Ok2 ls) (hr : r.length ≤ 2000000) :
    Calls Tryz.prog 45 #[.slice A ls.length cap, .slice B r.length cap2] w fun e w' => e = .returned (.int .i64 ((ls.count r : Nat) : Int)) ∧ Below w.heap.size w w' := by
  have HA := Lib.hid hA
  have HB := Lib.hid hB
  have HK := Lib.hid hok
  have hl := hok.1
  clear hA hB hok
  go_enter Tryz.func45, Tryz.ntmps45
  go_wp2
  go_loopw [5, 6] (fun mx ix wr => ∃ (k m : Nat), k ≤ ls.length ∧ ix = .int .i64 k ∧ mx = .int .i64 (m : Int) ∧ m ≤ k ∧ Hid (m = (ls.take k).count r) ∧ Hid (Below w.heap.size w wr)) (fun _ ix _ => ls.length - (intOf ix).toNat)
  case atStart => exact ⟨0, 0, Nat.zero_le _, rfl, rfl, Nat.le_refl _, rfl, Below.refl _ _⟩
  case round =>
    obtain ⟨k, m, hk, rfl, rfl, hmk, HM, HW⟩ := hrel
    by_cases hlt : k < ls.length
    · obtain ⟨rfl, hg, c', g', o', hc, hf⟩ := (HA.out.below HW.out).at k hlt
      have HF := Lib.hid hf
      have hlr := (HK.out.at k hlt).1
      have HS := Lib.hid (count_snoc ls k hlt r)
      obtain ⟨K, hK⟩ : ∃ K, ls[k] = K := ⟨_, rfl⟩
      rw [hK] at hc HF HS hlr
      clear hK hf
      have CE := Lib.hid (fun W hW hW2 => rowIs (some ⟨g', o', none⟩) B g' g2 o' o2 c' cap2 K r W hW hW2 hlr hr)
      obtain ⟨kl, hkl⟩ : ∃ n, K.length = n := ⟨_, rfl⟩
      rw [hkl] at hc CE
      have i0' : (0 : Int) ≤ (k : Int) := by omega
      have i1' : (k : Int) < (ls.length : Int) := by omega
      clear hkl
      by_cases hq : K = r
      · have hd : decide (K = r) = true := decide_eq_true hq
        rw [hd] at CE
        have HN : Hid (m + 1 = (ls.take (k + 1)).count r) := by show _ = _; rw [HS.out, if_pos hq, HM.out]
        clear hd hq HS
        go_wp2_with (go_at_call 75; (with_reducible refine (CE.out _ (by first | exact HF.out | exact HF.out.drew) (by first | exact HB.out.below HW.out | exact (HB.out.below HW.out).drew)).mono ?_); rintro e w1 ⟨rfl, hb1⟩; have HW1 := Lib.hid (HW.out.trans (hb1.mono HW.out.size)); clear hb1 HW)
        exact ⟨⟨k + 1, m + 1, by omega, by go_num, by go_num, by omega, HN, HW1⟩, by simp [intOf]; omega⟩
      · have hd : decide (K = r) = false := decide_eq_false hq
        rw [hd] at CE
        have HN : Hid (m = (ls.take (k + 1)).count r) := by show _ = _; rw [HS.out, if_neg hq, HM.out]; rfl
        clear hd hq HS
        go_wp2_with (go_at_call 75; (with_reducible refine (CE.out _ (by first | exact HF.out | exact HF.out.drew) (by first | exact HB.out.below HW.out | exact (HB.out.below HW.out).drew)).mono ?_); rintro e w1 ⟨rfl, hb1⟩; have HW1 := Lib.hid (HW.out.trans (hb1.mono HW.out.size)); clear hb1 HW)
        exact ⟨⟨k + 1, m, by omega, by go_num, rfl, by omega, HN, HW1⟩, by simp [intOf]; omega⟩
    · obtain rfl : k = ls.length := by omega
      go_wp2
      go_ret
      refine ⟨retI ?_, HW.out⟩
      have := HM.out
      rw [List.take_length] at this
      rw [this]
theorem rowManyS (A B : Option Addr) (g o g2 o2 cap cap2 : Nat) (ls : List RT) (r : RT) (w : World) (hA : Rws w g o A ls) (hB : Fl w g2 o2 B (flatV r)) (hok : Ok2 ls) (hr : r.length ≤ 2000000) :
    Calls Tryz.prog 109 #[.slice A ls.length cap, .slice B r.length cap2] w fun e w' => e = .returned (.int .i64 ((ls.count r : Nat) : Int)) ∧ Below w.heap.size w w' := by
  have HA := Lib.hid hA
  have HB := Lib.hid hB
  have HK := Lib.hid hok
  have hl := hok.1
  clear hA hB hok
  go_enter Tryz.func109, Tryz.ntmps109
  go_wp2
  go_loopw [5, 6] (fun mx ix wr => ∃ (k m : Nat), k ≤ ls.length ∧ ix = .int .i64 k ∧ mx = .int .i64 (m : Int) ∧ m ≤ k ∧ Hid (m = (ls.take k).count r) ∧ Hid (Below w.heap.size w wr)) (fun _ ix _ => ls.length - (intOf ix).toNat)
  case atStart => exact ⟨0, 0, Nat.zero_le _, rfl, rfl, Nat.le_refl _, rfl, Below.refl _ _⟩
  case round =>
    obtain ⟨k, m, hk, rfl, rfl, hmk, HM, HW⟩ := hrel
    by_cases hlt : k < ls.length
    · obtain ⟨rfl, hg, c', g', o', hc, hf⟩ := (HA.out.below HW.out).at k hlt
      have HF := Lib.hid hf
      have hlr := (HK.out.at k hlt).1
      have HS := Lib.hid (count_snoc ls k hlt r)
      obtain ⟨K, hK⟩ : ∃ K, ls[k] = K := ⟨_, rfl⟩
      rw [hK] at hc HF HS hlr
      clear hK hf
      have CE := Lib.hid (fun W hW hW2 => l3Same (some ⟨g', o', none⟩) B g' g2 o' o2 c' cap2 K r W hW hW2 hlr hr)
      obtain ⟨kl, hkl⟩ : ∃ n, K.length = n := ⟨_, rfl⟩
      rw [hkl] at hc CE
      have i0' : (0 : Int) ≤ (k : Int) := by omega
      have i1' : (k : Int) < (ls.length : Int) := by omega
      clear hkl
      by_cases hq : K = r
      · have hd : decide (K = r) = true := decide_eq_true hq
        rw [hd] at CE
        have HN : Hid (m + 1 = (ls.take (k + 1)).count r) := by show _ = _; rw [HS.out, if_pos hq, HM.out]
        clear hd hq HS
        go_wp2_with (go_at_call 123; (with_reducible refine (CE.out _ (by first | exact HF.out | exact HF.out.drew) (by first | exact HB.out.below HW.out | exact (HB.out.below HW.out).drew)).mono ?_); rintro e w1 ⟨rfl, hb1⟩; have HW1 := Lib.hid (HW.out.trans (hb1.mono HW.out.size)); clear hb1 HW)
        exact ⟨⟨k + 1, m + 1, by omega, by go_num, by go_num, by omega, HN, HW1⟩, by simp [intOf]; omega⟩
      · have hd : decide (K = r) = false := decide_eq_false hq
        rw [hd] at CE
        have HN : Hid (m = (ls.take (k + 1)).count r) := by show _ = _; rw [HS.out, if_neg hq, HM.out]; rfl
        clear hd hq HS
        go_wp2_with (go_at_call 123; (with_reducible refine (CE.out _ (by first | exact HF.out | exact HF.out.drew) (by first | exact HB.out.below HW.out | exact (HB.out.below HW.out).drew)).mono ?_); rintro e w1 ⟨rfl, hb1⟩; have HW1 := Lib.hid (HW.out.trans (hb1.mono HW.out.size)); clear hb1 HW)
        exact ⟨⟨k + 1, m, by omega, by go_num, rfl, by omega, HN, HW1⟩, by simp [intOf]; omega⟩
    · obtain rfl : k = ls.length := by omega
      go_wp2
      go_ret
      refine ⟨retI ?_, HW.out⟩
      have := HM.out
      rw [List.take_length] at this
      rw [this]
end Go.Proofs.YtcgjnilkbdamjaaGreat.Val
