/- Texts of values: contracts of l1Plain, l1Signed, numberText, truthText, ValueText. -/
import Derived.Test.YtjidkjnlnenmbaaVal
import Derived.Laws.IdiomStrings
import Derived.Deep.RegionWith
import Derived.IntWalk
namespace Go.Proofs.Ytjidkjnlnenmbaa.Val
open Go.RowKit
theorem retS {a b : ByteArray} (h : a = b) : Ending.returned (.string a) = Ending.returned (.string b) := by rw [h]
theorem conv1 (w : World) (x : Int) : (convert 62 9 (.slice (some ⟨w.heap.size, 0, none⟩) 1 1)).run Try.prog (w.alloc (.cells #[.int .u8 x] 5)) = .ok (.string ⟨#[UInt8.ofNat x.toNat]⟩) (w.alloc (.cells #[.int .u8 x] 5)) := by
  rw [run_convert_bytes_string _ _ _ 5 _ _ _ Try.underlying62 Try.underlying5 Try.underlying9]
  have hl := run_loadCells_list (P := Try.prog) (w.alloc (.cells #[.int .u8 x] 5)) ⟨w.heap.size, 0, none⟩ [.int .u8 x] (fun j v hj => by
    match j with
    | 0 => simp at hj; subst hj; simp [Addr.add, World.cell?_alloc_mark]
    | k + 1 => simp at hj)
  rw [run_bytesToString _ _ _ _ [x] (by simpa using hl)]
  rfl
theorem convAt (x : Int) (W : World) (b : Nat) (hc : W.cell? ⟨b, 0, none⟩ = some (.int .u8 x)) : (convert 62 9 (.slice (some ⟨b, 0, none⟩) 1 1)).run Try.prog W = .ok (.string ⟨#[UInt8.ofNat x.toNat]⟩) W := by
  rw [run_convert_bytes_string _ _ _ 5 _ _ _ Try.underlying62 Try.underlying5 Try.underlying9]
  have hl := run_loadCells_list (P := Try.prog) W ⟨b, 0, none⟩ [.int .u8 x] (fun j v hj => by
    match j with
    | 0 => simp at hj; subst hj; simpa [Addr.add] using hc
    | k + 1 => simp at hj)
  rw [run_bytesToString _ _ _ _ [x] (by simpa using hl)]
  rfl
theorem u8_in (x : Int) (h0 : 0 ≤ x) (h1 : x < 256) : IntKind.u8.wrap x = x := by
  rw [IntKind.wrap_u8]; omega
theorem decZ_len (n : Nat) : (decZ n).length ≤ n := by
  induction n using Nat.strongRecOn with
  | ind n ih =>
    by_cases h : n = 0
    · subst h; rw [decZ_zero]; simp
    · rw [decZ_pos n (by omega)]
      have := ih (n / 10) (by omega)
      simp; omega
theorem decL_len (n : Nat) : (decL n).length ≤ n + 1 := by
  unfold decL; split
  · simp
  · have := decZ_len n; omega
theorem fin1 (n : Int) (h : 10 ≤ n) : (⟨(decL (n / 10).toNat).toArray⟩ : ByteArray) ++ ⟨#[UInt8.ofNat (48 + n % 10).toNat]⟩ = ⟨(decL n.toNat).toArray⟩ := by
  obtain ⟨m, rfl⟩ := Int.eq_ofNat_of_zero_le (show 0 ≤ n by omega)
  have e : ((m : Int) / 10).toNat = m / 10 := by omega
  have e2 : (48 + (m : Int) % 10).toNat = 48 + m % 10 := by omega
  rw [e, e2, Int.toNat_natCast, decL_high m (by omega)]
  exact ByteArray.mk_append_mk _ _
theorem mkcons (c : UInt8) (l : List UInt8) : (⟨#[c]⟩ : ByteArray) ++ ⟨l.toArray⟩ = ⟨(c :: l).toArray⟩ := ByteArray.mk_append_mk [c] l
theorem measStep (m : Nat) (h : m / 10 < m) : (intOf (.int .i64 (-((m : Int) / 10)))).natAbs < (intOf (.int .i64 (-(m : Int)))).natAbs := by
  show (-((m : Int) / 10)).natAbs < (-(m : Int)).natAbs
  rw [Int.natAbs_neg, Int.natAbs_neg]; omega
theorem decStep (m : Nat) (suf : List UInt8) : Value.string (⟨#[48 + UInt8.ofNat (m % 10)]⟩ ++ ⟨suf.toArray⟩) = Value.string ⟨(decC m :: suf).toArray⟩ := by
  rw [mkcons, show (48 : UInt8) + UInt8.ofNat (m % 10) = decC m from by unfold decC; rw [UInt8.ofNat_add]; rfl]
theorem quoteL (s : ByteArray) : (⟨#[39]⟩ : ByteArray) ++ s ++ ⟨#[39]⟩ = ⟨(39 :: (s.data.toList ++ [39])).toArray⟩ := by
  apply ByteArray.ext; simp [ByteArray.data_append]
def textL (k n : Int) (s : ByteArray) : List UInt8 :=
  if okB k n s = false then [] else if k = 1 then decI n else if k = 2 then 39 :: (s.data.toList ++ [39]) else if k = 3 then (if n = 1 then [116, 114, 117, 101] else [102, 97, 108, 115, 101]) else [110, 111, 110, 101]
theorem ok_cases (k n : Int) (s : ByteArray) : okB k n s = false ∨ (k = 0 ∧ n = 0 ∧ s.toList = [] ∧ okB 0 0 s = true) ∨ (k = 1 ∧ -9999 ≤ n ∧ n ≤ 9999 ∧ s.toList = [] ∧ okB 1 n s = true) ∨ (k = 2 ∧ n = 0 ∧ s.size ≤ 6 ∧ letB s.data.toList = true ∧ okB 2 0 s = true) ∨ (k = 3 ∧ n = 0 ∧ s.toList = [] ∧ okB 3 0 s = true) ∨ (k = 3 ∧ n = 1 ∧ s.toList = [] ∧ okB 3 1 s = true) := by
  by_cases h : okB k n s = false
  · exact .inl h
  · right
    by_cases h0 : k = 0
    · subst h0; simp_all [okB]
    by_cases h1 : k = 1
    · subst h1; simp_all [okB, numB]
    by_cases h2 : k = 2
    · subst h2; simp_all [okB]
    by_cases h3 : k = 3
    · subst h3; simp_all [okB]
    · simp_all [okB]
end Go.Proofs.Ytjidkjnlnenmbaa.Val
