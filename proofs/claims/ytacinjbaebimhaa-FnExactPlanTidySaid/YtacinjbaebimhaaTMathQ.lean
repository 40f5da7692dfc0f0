/- Truths: the plain functions that both sides reckon. -/
import Derived.Test.YtacinjbaebimhaaTxtQ
namespace Go.Proofs.Ytacinjbaebimhaa.Val
open Go.RowKit
def tB (n : Int) : Bool := decide (0 ≤ n) && decide (n ≤ 2)
def pl (n : Int) : Int := if n = 1 then 2 else if n = 2 then 1 else n
def andI (a b : Int) : Int := if (tB a && tB b) = true then (if pl a < pl b then a else b) else -1
def orI (a b : Int) : Int := if (tB a && tB b) = true then (if pl a > pl b then a else b) else -1
def notI (a : Int) : Int := if a = 0 then 1 else if a = 1 then 0 else if a = 2 then 2 else -1
def toI (k n : Int) (s : ByteArray) : Int := if okB k n s = true then (if k = 0 then 2 else if k = 3 then n else -1) else -1
def holdB (kind o : Int) : Bool := if kind = 1 then decide (o = 0) else if kind = 2 then decide (o ≠ 0) else if kind = 3 then decide (o < 0) else decide (o ≤ 0)
def compI (kind k1 n1 : Int) (s1 : ByteArray) (k2 n2 : Int) (s2 : ByteArray) : Int :=
  if kind < 1 ∨ 4 < kind ∨ okB k1 n1 s1 = false ∨ okB k2 n2 s2 = false then -1
  else if k1 = 0 ∨ k2 = 0 then 2
  else if k1 ≠ k2 then -1
  else if holdB kind (ordI k1 n1 s1 k2 n2 s2) = true then 1 else 0
theorem bytes_none {s : ByteArray} (h : s.toList = []) : s = ⟨#[]⟩ := by
  rw [ByteArray.toList_eq] at h
  obtain ⟨d⟩ := s
  have : d = #[] := Array.toList_inj.1 (by simpa using h)
  rw [this]
end Go.Proofs.Ytacinjbaebimhaa.Val
