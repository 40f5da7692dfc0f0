/- Rows in one order: what the law asks; sameRow. -/
import Derived.Test.YtjidkjnlnenmbaaRowO
import Derived.BigQuiet
namespace Go.Proofs.Ytjidkjnlnenmbaa.Val
open Go.RowKit
set_option linter.unusedVariables false
theorem ordV_turn (x y : VT) : ordV y x = - ordV x y := ordI_turn _ _ _ _ _ _
theorem lexI_turn (a b : List VT) : lexI b a = - lexI a b := by
  induction a generalizing b with
  | nil => cases b <;> simp [lexI]
  | cons x a ih =>
    cases b with
    | nil => simp [lexI]
    | cons y b =>
      simp only [lexI]
      rw [ordV_turn x y, ih b]
      by_cases h : ordV x y = 0
      · simp [h]
      · rw [if_neg (by omega), if_neg h]
theorem lexI_bd (a b : List VT) : -1 ≤ lexI a b ∧ lexI a b ≤ 1 := by
  induction a generalizing b with
  | nil => cases b <;> simp [lexI]
  | cons x a ih =>
    cases b with
    | nil => simp [lexI]
    | cons y b =>
      simp only [lexI]
      split
      · exact ih b
      · exact ordI_bd _ _ _ _ _ _
theorem rowI_turn (a b : List VT) : rowI b a = - rowI a b := by
  unfold rowI
  by_cases h : rowB a = true ∧ rowB b = true
  · rw [if_pos h, if_pos h.symm, lexI_turn]
  · rw [if_neg h, if_neg (fun e => h e.symm)]; rfl
theorem rowI_bd (a b : List VT) : -1 ≤ rowI a b ∧ rowI a b ≤ 1 := by
  unfold rowI; split
  · exact lexI_bd a b
  · omega
theorem rowB_all {a : List VT} (h : rowB a = true) : a.all okV = true := by
  simp only [rowB, Bool.and_eq_true] at h; exact h.2
theorem bytes_same {s t : ByteArray} (h : s.toList = t.toList) : s = t := by
  rw [ByteArray.toList_eq, ByteArray.toList_eq] at h
  obtain ⟨x⟩ := s
  obtain ⟨y⟩ := t
  have h3 : x = y := Array.toList_inj.1 (by simpa using h)
  rw [h3]
theorem ordV_zero (x y : VT) (h1 : okV x = true) (h2 : okV y = true) : ordV x y = 0 ↔ x = y := by
  refine (ordI_zero _ _ _ _ _ _ h1 h2).trans ⟨fun ⟨e1, e2, e3⟩ => ?_, fun e => by subst e; exact ⟨rfl, rfl, rfl⟩⟩
  obtain ⟨a, b, s⟩ := x
  obtain ⟨c, d, t⟩ := y
  simp only at e1 e2 e3
  rw [e1, e2, bytes_same e3]
theorem lexI_zero (a b : List VT) (h1 : a.all okV = true) (h2 : b.all okV = true) : lexI a b = 0 ↔ a = b := by
  induction a generalizing b with
  | nil => cases b <;> simp [lexI]
  | cons x a ih =>
    cases b with
    | nil => simp [lexI]
    | cons y b =>
      simp only [List.all_cons, Bool.and_eq_true] at h1 h2
      have hz := ordV_zero x y h1.1 h2.1
      simp only [lexI, List.cons.injEq]
      by_cases h : ordV x y = 0
      · rw [if_pos h, ih b h1.2 h2.2]
        exact ⟨fun e => ⟨hz.1 h, e⟩, fun e => e.2⟩
      · rw [if_neg h]
        exact ⟨fun e => absurd e h, fun e => absurd (hz.2 e.1) h⟩
theorem lexI_init (a : List VT) (k : Nat) (hk : k < a.length) (h : a.all okV = true) : lexI (a.take k) a = -1 := by
  induction a generalizing k with
  | nil => simp at hk
  | cons x a ih =>
    simp only [List.all_cons, Bool.and_eq_true] at h
    cases k with
    | zero => rfl
    | succ k =>
      simp only [List.take_succ_cons, lexI]
      rw [if_pos ((ordV_zero x x h.1 h.1).2 rfl), ih k (by simpa using hk) h.2]
theorem rowB_take (a : List VT) (k : Nat) (h : rowB a = true) : rowB (a.take k) = true := by
  simp only [rowB, Bool.and_eq_true, decide_eq_true_eq, List.all_eq_true] at h ⊢
  exact ⟨by simp; omega, fun c hc => h.2 c (List.mem_of_mem_take hc)⟩
theorem rowI_init (a : List VT) (k : Nat) (hk : k < a.length) (h : rowB a = true) : rowI (a.take k) a = -1 := by
  rw [rowI, if_pos ⟨rowB_take a k h, h⟩, lexI_init a k hk (rowB_all h)]
theorem rowI_zero (a b : List VT) (h1 : rowB a = true) (h2 : rowB b = true) : rowI a b = 0 ↔ a = b := by
  rw [rowI, if_pos ⟨h1, h2⟩, lexI_zero a b (rowB_all h1) (rowB_all h2)]
theorem sameRow (A B : Option Addr) (g g' o o' cA cB : Nat) (l m : List VT) (w : World) (hA : Fl w g o A (flatV l)) (hB : Fl w g' o' B (flatV m)) (hl : l.length ≤ 2000000) (hm : m.length ≤ 2000000) :
    Calls Try.prog 52 #[.slice A l.length cA, .slice B m.length cB] w fun e w' => ∃ E : Bool, (e = .returned (.bool E) ∧ (E = true ↔ l = m)) ∧ Below w.heap.size w w' := by
  have HA := Lib.hid hA
  have HB := Lib.hid hB
  clear hA hB
  go_enter Try.func52, Try.ntmps52
  by_cases hlen : l.length = m.length
  · have e0 : ((l.length : Int) != m.length) = false := by simp; omega
    have HLN := Lib.hid hlen
    clear hlen
    go_wp2
    go_loopw [5] (fun ix wr => ∃ (k : Nat), k ≤ l.length ∧ ix = .int .i64 k ∧ Hid (Below w.heap.size w wr) ∧ Hid (l.take k = m.take k)) (fun ix _ => l.length - (intOf ix).toNat)
    case atStart => exact ⟨0, by omega, rfl, Below.refl _ _, rfl⟩
    case round =>
      obtain ⟨k, hk, rfl, HW, HL⟩ := hrel
      by_cases hlt : k < l.length
      · have hlm : k < m.length := by have := HLN.out; omega
        obtain ⟨rfl, -, -, -, -⟩ := HA.out.v k hlt
        obtain ⟨rfl, -, -, -, -⟩ := HB.out.v k hlm
        obtain ⟨-, hg2, c0, c1, c2⟩ := (HA.out.below HW.out).v k hlt
        obtain ⟨-, hg2', d0, d1, d2⟩ := (HB.out.below HW.out).v k hlm
        have HS := Lib.hid (take_eq_step l m k hlt hlm HL.out)
        obtain ⟨K, hK⟩ : ∃ K, l[k] = K := ⟨_, rfl⟩
        obtain ⟨K2, hK2⟩ : ∃ K, m[k]'hlm = K := ⟨_, rfl⟩
        rw [hK] at c0 c1 c2
        rw [hK2] at d0 d1 d2
        rw [hK, hK2] at HS
        clear hK hK2
        have i0' : (0 : Int) ≤ (k : Int) := by omega
        have i1' : (k : Int) < (l.length : Int) := by omega
        have i2' : (k : Int) < (m.length : Int) := by omega
        by_cases hq : K = K2
        · have HQ := Lib.hid (HS.out.1 hq)
          subst hq
          obtain ⟨x, n, s⟩ := K
          simp only at c0 c1 c2 d0 d1 d2
          clear HS
          go_wp2
          go_region
          all_goals go_wp2
          all_goals exact ⟨⟨k + 1, by omega, by go_num, HW.out.drew, HQ⟩, by simp [intOf]; omega⟩
        · have HQ := Lib.hid (HS.out.2 hq)
          obtain ⟨x, n, s⟩ := K
          obtain ⟨x2, n2, s2⟩ := K2
          simp only at c0 c1 c2 d0 d1 d2
          have hne : x = x2 → n = n2 → ¬ (s.toList = s2.toList) := fun e1 e2 e3 => hq (by rw [e1, e2, bytes_same e3])
          clear HS hq
          by_cases hx : x = x2
          · subst hx
            by_cases hn : n = n2
            · subst hn
              have hs := hne rfl rfl
              clear hne
              go_wp2
              go_region
              all_goals go_wp2
              all_goals (go_ret; exact ⟨false, ⟨rfl, by simpa using HQ.out⟩, HW.out.drew⟩)
            · clear hne
              go_wp2
              go_region
              all_goals go_wp2
              all_goals (go_ret; exact ⟨false, ⟨rfl, by simpa using HQ.out⟩, HW.out.drew⟩)
          · clear hne
            go_wp2
            go_region
            all_goals go_wp2
            all_goals (go_ret; exact ⟨false, ⟨rfl, by simpa using HQ.out⟩, HW.out.drew⟩)
      · obtain rfl : k = l.length := by omega
        go_wp2
        go_ret
        refine ⟨true, ⟨rfl, ?_⟩, HW.out⟩
        have := HL.out
        rw [List.take_length, HLN.out, List.take_length] at this
        simp [this]
  · go_wp2
    go_ret
    refine ⟨false, ⟨rfl, ?_⟩, Below.refl _ _⟩
    simp
    intro e; exact hlen (by rw [e])
end Go.Proofs.Ytjidkjnlnenmbaa.Val
