/- Plain facts on numbers, texts and values (no program): whether a value is one, the order of values, decimal texts. -/
import GoSem.Op.String
import Derived.Lib.Hide
namespace Go.Proofs.Ytjidkjnlnenmbaa.Val
theorem bytesLess_self (l : List UInt8) : Op.bytesLess l l = false := by induction l with | nil => rfl | cons a l ih => simp [Op.bytesLess, ih]
def numB (n : Int) : Bool := decide (-9999 ≤ n) && decide (n ≤ 9999)
def letC (c : UInt8) : Bool := decide (97 ≤ c.toNat) && decide (c.toNat ≤ 122)
def letB (l : List UInt8) : Bool := l.all letC
theorem take_snoc (s : ByteArray) (k : Nat) (h : k < s.size) : s.data.toList.take (k + 1) = s.data.toList.take k ++ [s[k]] := by
  rw [List.take_succ_eq_append_getElem (by simpa using h)]; rfl
theorem letB_snoc (s : ByteArray) (k : Nat) (h : k < s.size) : letB (s.data.toList.take (k + 1)) = (letB (s.data.toList.take k) && letC s[k]) := by
  rw [take_snoc s k h]; simp [letB]
theorem letB_no (s : ByteArray) (k : Nat) (h : k < s.size) (hc : letC s[k] = false) : letB s.data.toList = false := by
  have : letB s.data.toList = (letB (s.data.toList.take (k+1)) && letB (s.data.toList.drop (k+1))) := by
    unfold letB; rw [← List.all_append, List.take_append_drop]
  rw [this, letB_snoc s k h, hc]; simp
def okB (k n : Int) (s : ByteArray) : Bool :=
  if k = 0 then decide (n = 0) && s.toList.isEmpty
  else if k = 1 then numB n && s.toList.isEmpty
  else if k = 2 then decide (n = 0) && decide (s.size ≤ 6) && letB s.data.toList
  else if k = 3 then (decide (n = 0) || decide (n = 1)) && s.toList.isEmpty
  else false
def cmpI (a b : ByteArray) : Int := if Op.bytesLess a.toList b.toList = true then -1 else if (a.toList == b.toList) = true then 0 else 1
def ordI (k1 n1 : Int) (s1 : ByteArray) (k2 n2 : Int) (s2 : ByteArray) : Int :=
  if okB k1 n1 s1 = false ∨ okB k2 n2 s2 = false then 0
  else if k1 ≠ k2 then (if k2 < k1 then 1 else -1) else if n1 ≠ n2 then (if n2 < n1 then 1 else -1) else cmpI s1 s2
def aheadB (k1 n1 : Int) (s1 : ByteArray) (k2 n2 : Int) (s2 : ByteArray) : Bool :=
  if k1 ≠ k2 then decide (k1 < k2) else if n1 ≠ n2 then decide (n1 < n2) else Op.bytesLess s1.toList s2.toList
def decC (n : Nat) : UInt8 := UInt8.ofNat (48 + n % 10)
def decZ (n : Nat) : List UInt8 := if n = 0 then [] else decZ (n / 10) ++ [decC n]
termination_by n
decreasing_by omega
theorem decZ_zero : decZ 0 = [] := by rw [decZ]; rfl
theorem decZ_pos (n : Nat) (h : 0 < n) : decZ n = decZ (n / 10) ++ [decC n] := by rw [decZ, if_neg (by omega)]
def decL (n : Nat) : List UInt8 := if n = 0 then [48] else decZ n
theorem decL_low (n : Nat) (h : n < 10) : decL n = [decC n] := by
  unfold decL; split
  · subst n; rfl
  · rw [decZ_pos n (by omega), show n / 10 = 0 by omega, decZ_zero]; rfl
theorem decL_high (n : Nat) (h : 10 ≤ n) : decL n = decL (n / 10) ++ [decC n] := by
  unfold decL; rw [if_neg (by omega), if_neg (by omega), decZ_pos n (by omega)]
def decI (n : Int) : List UInt8 := if n < 0 then 45 :: decL n.natAbs else decL n.natAbs
end Go.Proofs.Ytjidkjnlnenmbaa.Val
