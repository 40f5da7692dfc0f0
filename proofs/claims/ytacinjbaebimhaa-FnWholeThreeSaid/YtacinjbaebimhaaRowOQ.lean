/- RowOrder, both sides. -/
import Derived.Test.YtacinjbaebimhaaRowVQ
namespace Go.Proofs.Ytacinjbaebimhaa.Val
open Go.RowKit
set_option linter.unusedVariables false
theorem yes_of {b : Bool} (h : (!b) = false) : b = true := by simpa using h
def numI (a b : Nat) : Int := if a < b then -1 else if b < a then 1 else 0
def ordV (x y : VT) : Int := ordI x.1 x.2.1 x.2.2 y.1 y.2.1 y.2.2
def lexI : List VT → List VT → Int
  | [], [] => 0
  | [], _ :: _ => -1
  | _ :: _, [] => 1
  | x :: a, y :: b => if ordV x y = 0 then lexI a b else ordV x y
def rowI (a b : List VT) : Int := if rowB a = true ∧ rowB b = true then lexI a b else 0
theorem lex_step (a b : List VT) (k : Nat) (h : k < a.length) (h' : k < b.length) : lexI (a.drop k) (b.drop k) = if ordV a[k] b[k] = 0 then lexI (a.drop (k + 1)) (b.drop (k + 1)) else ordV a[k] b[k] := by
  rw [List.drop_eq_getElem_cons h, List.drop_eq_getElem_cons h']; rfl
theorem lex_end (a b : List VT) (k : Nat) (h : k ≤ a.length) (h' : k ≤ b.length) (hn : ¬ (k < a.length ∧ k < b.length)) : lexI (a.drop k) (b.drop k) = numI a.length b.length := by
  by_cases h1 : k < a.length
  · have : k = b.length := by omega
    rw [List.drop_eq_getElem_cons h1, List.drop_eq_nil_of_le (show b.length ≤ k by omega)]
    show (1 : Int) = _
    rw [numI, if_neg (by omega), if_pos (by omega)]
  · rw [List.drop_eq_nil_of_le (show a.length ≤ k by omega)]
    by_cases h2 : k < b.length
    · rw [List.drop_eq_getElem_cons h2]
      show (-1 : Int) = _
      rw [numI, if_pos (by omega)]
    · rw [List.drop_eq_nil_of_le (show b.length ≤ k by omega)]
      show (0 : Int) = _
      rw [numI, if_neg (by omega), if_neg (by omega)]
theorem numberOrder (a b : Nat) (w : World) : Calls Try.prog 127 #[.int .i64 a, .int .i64 b] w fun e w' => e = .returned (.int .i64 (numI a b)) ∧ w = w' := by
  go_enter Try.func127, Try.ntmps127
  go_wp2
  all_goals (go_ret; refine ⟨retI ?_, rfl⟩)
  · rw [numI, if_pos (by omega)]
  · rw [numI, if_neg (by omega), if_pos (by omega)]
  · rw [numI, if_neg (by omega), if_neg (by omega)]
set_option maxHeartbeats 4000000 in
theorem rowOrderI (A B : Option Addr) (g o g2 o2 cap cap2 : Nat) (l m : List VT) (w : World) (hA : Fl w g o A (flatV l)) (hB : Fl w g2 o2 B (flatV m)) (hl : l.length ≤ 2000000) (hm : m.length ≤ 2000000) (hs : Short l) (hs2 : Short m) : Calls Try.prog 96 #[.slice A l.length cap, .slice B m.length cap2] w fun e w' => e = .returned (.int .i64 (rowI l m)) ∧ Below w.heap.size w w' := by
  have HA := Lib.hid hA
  have HB := Lib.hid hB
  have HSA := Lib.hid hs
  have HSB := Lib.hid hs2
  clear hA hB hs hs2
  have CA := Lib.hid (fun w hw => rowOkI A g o cap l w hw hl HSA.out)
  have CB := Lib.hid (fun w hw => rowOkI B g2 o2 cap2 m w hw hm HSB.out)
  obtain ⟨B1, hB1⟩ : ∃ b, rowB l = b := ⟨_, rfl⟩
  obtain ⟨B2, hB2⟩ : ∃ b, rowB m = b := ⟨_, rfl⟩
  rw [hB1] at CA
  rw [hB2] at CB
  have F1 := Lib.hid hB1
  have F2 := Lib.hid hB2
  clear hB1 hB2
  go_enter Try.func96, Try.ntmps96
  go_wp2_with (first | ((fail_if_success (have _ := HW0)); go_at_call 88; (with_reducible refine (CA.out _ HA.out).mono ?_); rintro e wa ⟨rfl, hb1⟩; have HW0 := Lib.hid hb1; clear hb1) | (have _ := HW0; go_at_call 88; (with_reducible refine (CB.out _ (HB.out.below HW0.out)).mono ?_); rintro e wb ⟨rfl, hb1⟩; have HW1 := Lib.hid (HW0.out.trans (hb1.mono HW0.out.size)); clear hb1))
  all_goals try (go_ret; refine ⟨retI ?_, by first | exact HW1.out | exact HW0.out⟩; have f1 := F1.out; have f2 := F2.out; simp_all [rowI]; done)
  obtain rfl : B1 = true := by assumption
  obtain rfl : B2 = true := yes_of (by assumption)
  simp only [Bool.not_true]
  have HLX : Hid (rowI l m = lexI l m) := by show _ = _; rw [rowI, F1.out, F2.out, if_pos ⟨rfl, rfl⟩]
  go_loopw [5] (fun ix wr => ∃ k : Nat, k ≤ l.length ∧ k ≤ m.length ∧ ix = .int .i64 k ∧ Hid (Below w.heap.size w wr) ∧ Hid (rowI l m = lexI (l.drop k) (m.drop k))) (fun ix _ => l.length - (intOf ix).toNat)
  case atStart => exact ⟨0, Nat.zero_le _, Nat.zero_le _, rfl, HW1, HLX⟩
  case round =>
    obtain ⟨k, hk, hk2, rfl, HW, HL⟩ := hrel
    clear HLX HW1 HW0
    by_cases hlt : k < l.length ∧ k < m.length
    · obtain ⟨h1, h2⟩ := hlt
      obtain ⟨rfl, -, -, -, -⟩ := HA.out.v k h1
      obtain ⟨rfl, -, -, -, -⟩ := HB.out.v k h2
      obtain ⟨-, hg, c0, c1, c2⟩ := (HA.out.below HW.out).v k h1
      obtain ⟨-, hg', d0, d1, d2⟩ := (HB.out.below HW.out).v k h2
      have hsz := HSA.out k h1
      have hsz2 := HSB.out k h2
      have HS := Lib.hid (lex_step l m k h1 h2)
      obtain ⟨K, hK⟩ : ∃ K, l[k]'h1 = K := ⟨_, rfl⟩
      obtain ⟨C, hC⟩ : ∃ C, m[k]'h2 = C := ⟨_, rfl⟩
      rw [hK] at c0 c1 c2 hsz
      rw [hC] at d0 d1 d2 hsz2
      rw [hK, hC] at HS
      obtain ⟨x, n, s⟩ := K
      obtain ⟨x2, n2, s2⟩ := C
      simp only at c0 c1 c2 d0 d1 d2 hsz hsz2
      have CT := Lib.hid (fun w => valueOrderI x n x2 n2 s s2 w hsz hsz2)
      obtain ⟨E, hE⟩ : ∃ E, ordV (x, n, s) (x2, n2, s2) = E := ⟨_, rfl⟩
      have hE2 : ordI x n s x2 n2 s2 = E := hE
      rw [hE2] at CT
      rw [hE] at HS
      clear hE hE2 hK hC
      have i0' : (0 : Int) ≤ (k : Int) := by omega
      have i1' : (k : Int) < (l.length : Int) := by omega
      have i2' : (k : Int) < (m.length : Int) := by omega
      by_cases hn : E = 0
      · subst hn
        have HQ : Hid (rowI l m = lexI (l.drop (k + 1)) (m.drop (k + 1))) := by show _ = _; rw [HL.out, HS.out, if_pos rfl]
        go_wp2
        go_region_with (go_at_call 126; (with_reducible refine (CT.out _).mono ?_); rintro e w1 ⟨rfl, hb1⟩; have HW1 := Lib.hid (HW.out.drew.trans (hb1.mono HW.out.size)); clear hb1 HW)
        all_goals go_wp2
        all_goals exact ⟨⟨k + 1, by omega, by omega, by go_num, HW1, HQ⟩, by simp [intOf]; omega⟩
      · have t1 : (E != 0) = true := by simpa using hn
        have HQ : Hid (rowI l m = E) := by show _ = _; rw [HL.out, HS.out, if_neg hn]
        clear hn
        go_wp2
        go_region_with (go_at_call 126; (with_reducible refine (CT.out _).mono ?_); rintro e w1 ⟨rfl, hb1⟩; have HW1 := Lib.hid (HW.out.drew.trans (hb1.mono HW.out.size)); clear hb1 HW)
        all_goals go_wp2
        all_goals (go_ret; exact ⟨retI HQ.out.symm, HW1.out⟩)
    · have HE := Lib.hid (HL.out.trans (lex_end l m k hk hk2 hlt))
      go_wp2_with ((go_at_call 127; ((with_reducible refine (numberOrder _ _ _).mono ?_); rintro e w1 ⟨rfl, rfl⟩)))
      all_goals (go_ret; exact ⟨retI HE.out.symm, HW.out⟩)
end Go.Proofs.Ytacinjbaebimhaa.Val
