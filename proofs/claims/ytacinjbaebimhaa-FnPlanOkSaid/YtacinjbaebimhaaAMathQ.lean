/- Texts of values: contracts of l1Plain, l1Signed, numberText, truthText, ValueText. -/
import Derived.Test.YtacinjbaebimhaaValQ
import Derived.Laws.IdiomStrings
import Derived.Deep.RegionWith
import Derived.IntWalk
namespace Go.Proofs.Ytacinjbaebimhaa.Val
open Go.RowKit
theorem conv1 (w : World) (x : Int) : (convert 22 9 (.slice (some ⟨w.heap.size, 0, none⟩) 1 1)).run Try.prog (w.alloc (.cells #[.int .u8 x] 5)) = .ok (.string ⟨#[UInt8.ofNat x.toNat]⟩) (w.alloc (.cells #[.int .u8 x] 5)) := by
  rw [run_convert_bytes_string _ _ _ 5 _ _ _ Try.underlying22 Try.underlying5 Try.underlying9]
  have hl := run_loadCells_list (P := Try.prog) (w.alloc (.cells #[.int .u8 x] 5)) ⟨w.heap.size, 0, none⟩ [.int .u8 x] (fun j v hj => by
    match j with
    | 0 => simp at hj; subst hj; simp [Addr.add, World.cell?_alloc_mark]
    | k + 1 => simp at hj)
  rw [run_bytesToString _ _ _ _ [x] (by simpa using hl)]
  rfl
theorem u8_in (x : Int) (h0 : 0 ≤ x) (h1 : x < 256) : IntKind.u8.wrap x = x := by
  rw [IntKind.wrap_u8]; omega
theorem ok_cases (k n : Int) (s : ByteArray) : okB k n s = false ∨ (k = 0 ∧ n = 0 ∧ s.toList = [] ∧ okB 0 0 s = true) ∨ (k = 1 ∧ -9999 ≤ n ∧ n ≤ 9999 ∧ s.toList = [] ∧ okB 1 n s = true) ∨ (k = 2 ∧ n = 0 ∧ s.size ≤ 6 ∧ letB s.data.toList = true ∧ okB 2 0 s = true) ∨ (k = 3 ∧ n = 0 ∧ s.toList = [] ∧ okB 3 0 s = true) ∨ (k = 3 ∧ n = 1 ∧ s.toList = [] ∧ okB 3 1 s = true) := by
  by_cases h : okB k n s = false
  · exact .inl h
  · right
    by_cases h0 : k = 0
    · subst h0; simp_all [okB]
    by_cases h1 : k = 1
    · subst h1; simp_all [okB, numB]
    by_cases h2 : k = 2
    · subst h2; simp_all [okB]
    by_cases h3 : k = 3
    · subst h3; simp_all [okB]
    · simp_all [okB]
end Go.Proofs.Ytacinjbaebimhaa.Val
namespace Go.Proofs.Ytacinjbaebimhaa.Val
open Go.RowKit
theorem bytesLess_tri : ∀ (a b : List UInt8), a ≠ b → Op.bytesLess a b = !Op.bytesLess b a
  | [], [], h => absurd rfl h
  | [], _ :: _, _ => rfl
  | _ :: _, [], _ => rfl
  | x :: a, y :: b, h => by
    simp only [Op.bytesLess]
    by_cases e : x = y
    · subst e
      have := bytesLess_tri a b (by intro e; exact h (by rw [e]))
      simp [this]
    · have b1 : (x == y) = false := by simpa using e
      have b2 : (y == x) = false := by simpa using fun h : y = x => e h.symm
      rcases Nat.lt_or_gt_of_ne (show x.toNat ≠ y.toNat from fun h => e (UInt8.toNat_inj.1 h)) with hl | hl
      · have a1 : decide (x < y) = true := decide_eq_true (UInt8.lt_iff_toNat_lt.2 hl)
        have a2 : decide (y < x) = false := decide_eq_false (fun h => by have := UInt8.lt_iff_toNat_lt.1 h; omega)
        rw [a1, a2, b1, b2]; rfl
      · have a1 : decide (y < x) = true := decide_eq_true (UInt8.lt_iff_toNat_lt.2 hl)
        have a2 : decide (x < y) = false := decide_eq_false (fun h => by have := UInt8.lt_iff_toNat_lt.1 h; omega)
        rw [a1, a2, b1, b2]; rfl
theorem cmpI_turn (a b : ByteArray) : cmpI b a = - cmpI a b := by
  unfold cmpI
  by_cases h : a.toList = b.toList
  · simp [h, bytesLess_self]
  · have := bytesLess_tri _ _ h
    have h' : ¬ b.toList = a.toList := fun e => h e.symm
    cases hb : Op.bytesLess b.toList a.toList <;> simp_all
theorem ordI_turn (k1 n1 k2 n2 : Int) (s1 s2 : ByteArray) : ordI k2 n2 s2 k1 n1 s1 = - ordI k1 n1 s1 k2 n2 s2 := by
  unfold ordI
  by_cases ho : okB k1 n1 s1 = false ∨ okB k2 n2 s2 = false
  · rw [if_pos ho, if_pos (Or.symm ho)]; rfl
  · rw [if_neg ho, if_neg (fun h => ho (Or.symm h)), cmpI_turn]
    by_cases hk : k1 = k2
    · subst hk
      by_cases hn : n1 = n2
      · subst hn; simp
      · have hn' : ¬ n2 = n1 := fun e => hn e.symm
        simp [hn, hn']; split <;> split <;> omega
    · have hk' : ¬ k2 = k1 := fun e => hk e.symm
      simp [hk, hk']; split <;> split <;> omega
theorem cmpI_bd (a b : ByteArray) : -1 ≤ cmpI a b ∧ cmpI a b ≤ 1 := by unfold cmpI; split <;> (try split) <;> omega
theorem ordI_bd (k1 n1 k2 n2 : Int) (s1 s2 : ByteArray) : -1 ≤ ordI k1 n1 s1 k2 n2 s2 ∧ ordI k1 n1 s1 k2 n2 s2 ≤ 1 := by
  have := cmpI_bd s1 s2
  unfold ordI; repeat' split
  all_goals omega
end Go.Proofs.Ytacinjbaebimhaa.Val
