/- Rows in one order: what the law asks; sameRow. -/
import Derived.Test.YtjidkjnlnenmbaaRowOQ
import Derived.BigQuiet
namespace Go.Proofs.Ytjidkjnlnenmbaa.Val
open Go.RowKit
set_option linter.unusedVariables false
theorem rowB_all {a : List VT} (h : rowB a = true) : a.all okV = true := by
  simp only [rowB, Bool.and_eq_true] at h; exact h.2
theorem bytes_same {s t : ByteArray} (h : s.toList = t.toList) : s = t := by
  rw [ByteArray.toList_eq, ByteArray.toList_eq] at h
  obtain ⟨x⟩ := s
  obtain ⟨y⟩ := t
  have h3 : x = y := Array.toList_inj.1 (by simpa using h)
  rw [h3]
theorem sameRow (A B : Option Addr) (g g' o o' cA cB : Nat) (l m : List VT) (w : World) (hA : Fl w g o A (flatV l)) (hB : Fl w g' o' B (flatV m)) (hl : l.length ≤ 2000000) (hm : m.length ≤ 2000000) :
    Calls Try.prog 52 #[.slice A l.length cA, .slice B m.length cB] w fun e w' => ∃ E : Bool, (e = .returned (.bool E) ∧ (E = true ↔ l = m)) ∧ Below w.heap.size w w' := by
  have HA := Lib.hid hA
  have HB := Lib.hid hB
  clear hA hB
  go_enter Try.func52, Try.ntmps52
  by_cases hlen : l.length = m.length
  · have e0 : ((l.length : Int) != m.length) = false := by simp; omega
    have HLN := Lib.hid hlen
    clear hlen
    go_wp2
    go_loopw [5] (fun ix wr => ∃ (k : Nat), k ≤ l.length ∧ ix = .int .i64 k ∧ Hid (Below w.heap.size w wr) ∧ Hid (l.take k = m.take k)) (fun ix _ => l.length - (intOf ix).toNat)
    case atStart => exact ⟨0, by omega, rfl, Below.refl _ _, rfl⟩
    case round =>
      obtain ⟨k, hk, rfl, HW, HL⟩ := hrel
      by_cases hlt : k < l.length
      · have hlm : k < m.length := by have := HLN.out; omega
        obtain ⟨rfl, -, -, -, -⟩ := HA.out.v k hlt
        obtain ⟨rfl, -, -, -, -⟩ := HB.out.v k hlm
        obtain ⟨-, hg2, c0, c1, c2⟩ := (HA.out.below HW.out).v k hlt
        obtain ⟨-, hg2', d0, d1, d2⟩ := (HB.out.below HW.out).v k hlm
        have HS := Lib.hid (take_eq_step l m k hlt hlm HL.out)
        obtain ⟨K, hK⟩ : ∃ K, l[k] = K := ⟨_, rfl⟩
        obtain ⟨K2, hK2⟩ : ∃ K, m[k]'hlm = K := ⟨_, rfl⟩
        rw [hK] at c0 c1 c2
        rw [hK2] at d0 d1 d2
        rw [hK, hK2] at HS
        clear hK hK2
        have i0' : (0 : Int) ≤ (k : Int) := by omega
        have i1' : (k : Int) < (l.length : Int) := by omega
        have i2' : (k : Int) < (m.length : Int) := by omega
        by_cases hq : K = K2
        · have HQ := Lib.hid (HS.out.1 hq)
          subst hq
          obtain ⟨x, n, s⟩ := K
          simp only at c0 c1 c2 d0 d1 d2
          clear HS
          go_wp2
          go_region
          all_goals go_wp2
          all_goals exact ⟨⟨k + 1, by omega, by go_num, HW.out.drew, HQ⟩, by simp [intOf]; omega⟩
        · have HQ := Lib.hid (HS.out.2 hq)
          obtain ⟨x, n, s⟩ := K
          obtain ⟨x2, n2, s2⟩ := K2
          simp only at c0 c1 c2 d0 d1 d2
          have hne : x = x2 → n = n2 → ¬ (s.toList = s2.toList) := fun e1 e2 e3 => hq (by rw [e1, e2, bytes_same e3])
          clear HS hq
          by_cases hx : x = x2
          · subst hx
            by_cases hn : n = n2
            · subst hn
              have hs := hne rfl rfl
              clear hne
              go_wp2
              go_region
              all_goals go_wp2
              all_goals (go_ret; exact ⟨false, ⟨rfl, by simpa using HQ.out⟩, HW.out.drew⟩)
            · clear hne
              go_wp2
              go_region
              all_goals go_wp2
              all_goals (go_ret; exact ⟨false, ⟨rfl, by simpa using HQ.out⟩, HW.out.drew⟩)
          · clear hne
            go_wp2
            go_region
            all_goals go_wp2
            all_goals (go_ret; exact ⟨false, ⟨rfl, by simpa using HQ.out⟩, HW.out.drew⟩)
      · obtain rfl : k = l.length := by omega
        go_wp2
        go_ret
        refine ⟨true, ⟨rfl, ?_⟩, HW.out⟩
        have := HL.out
        rw [List.take_length, HLN.out, List.take_length] at this
        simp [this]
  · go_wp2
    go_ret
    refine ⟨false, ⟨rfl, ?_⟩, Below.refl _ _⟩
    simp
    intro e; exact hlen (by rw [e])
end Go.Proofs.Ytjidkjnlnenmbaa.Val
