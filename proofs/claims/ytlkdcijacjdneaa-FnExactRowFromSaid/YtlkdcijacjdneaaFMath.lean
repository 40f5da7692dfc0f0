/- Reading values from bytes: the plain function, and that it undoes bytesL. -/
import Derived.Test.YtlkdcijacjdneaaByteI
import Derived.Test.YtlkdcijacjdneaaTMath
namespace Go.Proofs.Ytlkdcijacjdneaa.Val
open Go.RowKit
set_option linter.unusedVariables false
def bAt (l : List UInt8) (i : Nat) : Int := ((l.getD i 0).toNat : Int)
theorem bAt_bd (l : List UInt8) (i : Nat) : 0 ≤ bAt l i ∧ bAt l i ≤ 255 := by
  unfold bAt; have := (l.getD i 0).toNat_lt; omega
def takO (l : List UInt8) : Option (Int × Int × List UInt8 × Nat) :=
  if l.length = 0 then none
  else if bAt l 0 = 0 then some (0, 0, [], 1)
  else if bAt l 0 = 1 then (if l.length < 3 then none else some (1, bAt l 1 * 256 + bAt l 2 - 10000, [], 3))
  else if bAt l 0 = 2 then (if l.length < 2 then none else if 6 < bAt l 1 ∨ (l.length : Int) < 2 + bAt l 1 then none else some (2, 0, (l.drop 2).take (bAt l 1).toNat, 2 + (bAt l 1).toNat))
  else if bAt l 0 = 3 then (if l.length < 2 then none else some (3, bAt l 1, [], 2))
  else none
def fromO (l : List UInt8) : Option (Int × Int × List UInt8 × Nat) :=
  match takO l with
  | none => none
  | some (k, n, s, m) => if okB k n ⟨s.toArray⟩ = true then some (k, n, s, m) else none
def fV (o : Option (Int × Int × List UInt8 × Nat)) : Value :=
  match o with
  | none => .tuple #[.agg #[.int .i64 0, .int .i64 0, .string ⟨#[]⟩], .int .i64 0]
  | some (k, n, s, m) => .tuple #[.agg #[.int .i64 k, .int .i64 n, .string ⟨s.toArray⟩], .int .i64 m]
theorem bAt_cons0 (x : UInt8) (r : List UInt8) : bAt (x :: r) 0 = x.toNat := rfl
theorem bAt_cons1 (x y : UInt8) (r : List UInt8) : bAt (x :: y :: r) 1 = y.toNat := rfl
theorem bAt_cons2 (x y z : UInt8) (r : List UInt8) : bAt (x :: y :: z :: r) 2 = z.toNat := rfl
theorem ofNat_toNat_lt (n : Nat) (h : n < 256) : (UInt8.ofNat n).toNat = n := by rw [UInt8.toNat_ofNat']; omega
/-- What was written is read, whatever is behind it. -/
theorem from_bytes (k n : Int) (s : ByteArray) (h : okB k n s = true) (x : List UInt8) : fromO (bytesL k n s ++ x) = some (k, n, s.data.toList, (bytesL k n s).length) := by
  rcases ok_cases k n s with ho | ⟨rfl, rfl, he, ho⟩ | ⟨rfl, h1, h2, he, ho⟩ | ⟨rfl, rfl, hz, hl, ho⟩ | ⟨rfl, rfl, he, ho⟩ | ⟨rfl, rfl, he, ho⟩
  · rw [h] at ho; cases ho
  · obtain rfl := bytes_none he
    have hb : bytesL 0 0 ⟨#[]⟩ = [0] := by simp [bytesL, ho]
    have ht : takO ([0] ++ x) = some (0, 0, [], 1) := by simp [takO, bAt]
    rw [hb]; unfold fromO; rw [ht]; simp [ho]
  · obtain rfl := bytes_none he
    have hb : bytesL 1 n ⟨#[]⟩ = [1, UInt8.ofNat ((n + 10000) / 256).toNat, UInt8.ofNat ((n + 10000) % 256).toNat] := by simp [bytesL, ho]
    have e1 := ofNat_toNat_lt ((n + 10000) / 256).toNat (by omega)
    have e2 := ofNat_toNat_lt ((n + 10000) % 256).toNat (by omega)
    have ht : takO ([1, UInt8.ofNat ((n + 10000) / 256).toNat, UInt8.ofNat ((n + 10000) % 256).toNat] ++ x) = some (1, n, [], 3) := by
      have b0 : bAt ([1, UInt8.ofNat ((n + 10000) / 256).toNat, UInt8.ofNat ((n + 10000) % 256).toNat] ++ x) 0 = 1 := rfl
      have b1 : bAt ([1, UInt8.ofNat ((n + 10000) / 256).toNat, UInt8.ofNat ((n + 10000) % 256).toNat] ++ x) 1 = (n + 10000) / 256 := by
        show ((UInt8.ofNat ((n + 10000) / 256).toNat).toNat : Int) = _; rw [e1]; omega
      have b2 : bAt ([1, UInt8.ofNat ((n + 10000) / 256).toNat, UInt8.ofNat ((n + 10000) % 256).toNat] ++ x) 2 = (n + 10000) % 256 := by
        show ((UInt8.ofNat ((n + 10000) % 256).toNat).toNat : Int) = _; rw [e2]; omega
      unfold takO
      rw [b0, b1, b2, if_neg (by simp), if_neg (by decide), if_pos rfl, if_neg (by simp)]
      congr 2; congr 1; omega
    rw [hb]; unfold fromO; rw [ht]; simp [ho]
  · have hb : bytesL 2 0 s = 2 :: UInt8.ofNat s.size :: s.data.toList := by simp [bytesL, ho]
    have e1 := ofNat_toNat_lt s.size (by omega)
    have hsl : s.data.toList.length = s.size := by simp
    have ht : takO ((2 :: UInt8.ofNat s.size :: s.data.toList) ++ x) = some (2, 0, s.data.toList, 2 + s.size) := by
      have b0 : bAt ((2 :: UInt8.ofNat s.size :: s.data.toList) ++ x) 0 = 2 := rfl
      have b1 : bAt ((2 :: UInt8.ofNat s.size :: s.data.toList) ++ x) 1 = s.size := by
        show ((UInt8.ofNat s.size).toNat : Int) = _; rw [e1]
      have hlen : ((2 :: UInt8.ofNat s.size :: s.data.toList) ++ x).length = 2 + s.size + x.length := by simp only [List.length_append, List.length_cons, hsl]; omega
      unfold takO
      rw [b0, b1, hlen, if_neg (by omega), if_neg (by decide), if_neg (by decide), if_pos rfl, if_neg (by omega), if_neg (by omega)]
      have : ((2 :: UInt8.ofNat s.size :: s.data.toList) ++ x).drop 2 = s.data.toList ++ x := rfl
      rw [this, Int.toNat_natCast, List.take_append_of_le_length (by omega), List.take_of_length_le (by omega)]
    have hl2 : (2 :: UInt8.ofNat s.size :: s.data.toList).length = 2 + s.size := by simp only [List.length_cons, hsl]; omega
    rw [hb]; unfold fromO; rw [ht, hl2]; simp [ho]
  · obtain rfl := bytes_none he
    have hb : bytesL 3 0 ⟨#[]⟩ = [3, 0] := by simp [bytesL, ho]
    have ht : takO ([3, 0] ++ x) = some (3, 0, [], 2) := by simp [takO, bAt]
    rw [hb]; unfold fromO; rw [ht]; simp [ho]
  · obtain rfl := bytes_none he
    have hb : bytesL 3 1 ⟨#[]⟩ = [3, 1] := by simp [bytesL, ho]
    have ht : takO ([3, 1] ++ x) = some (3, 1, [], 2) := by simp [takO, bAt]
    rw [hb]; unfold fromO; rw [ht]; simp [ho]
theorem take_one {l : List UInt8} (h : 0 < l.length) : l.take 1 = [l.getD 0 0] := by
  match l, h with
  | x :: r, _ => rfl
theorem take_two {l : List UInt8} (h : 2 ≤ l.length) : l.take 2 = [l.getD 0 0, l.getD 1 0] := by
  match l, h with
  | x :: y :: r, _ => rfl
theorem take_three {l : List UInt8} (h : 3 ≤ l.length) : l.take 3 = [l.getD 0 0, l.getD 1 0, l.getD 2 0] := by
  match l, h with
  | x :: y :: z :: r, _ => rfl
theorem of_bAt {l : List UInt8} {i n : Nat} (h : bAt l i = n) : l.getD i 0 = UInt8.ofNat n := by
  unfold bAt at h
  have : (l.getD i 0).toNat = n := by omega
  rw [← this, UInt8.ofNat_toNat]
/-- What is read was written. -/
theorem from_some {l : List UInt8} {k n : Int} {s : List UInt8} {m : Nat} (h : fromO l = some (k, n, s, m)) : okB k n ⟨s.toArray⟩ = true ∧ bytesL k n ⟨s.toArray⟩ = l.take m ∧ 0 < m ∧ m ≤ l.length := by
  unfold fromO at h
  split at h
  · cases h
  rename_i k' n' s' m' ht
  split at h
  case isFalse => cases h
  rename_i ho
  simp only [Option.some.injEq, Prod.mk.injEq] at h
  obtain ⟨rfl, rfl, rfl, rfl⟩ := h
  refine ⟨ho, ?_⟩
  unfold takO at ht
  by_cases h0 : l.length = 0
  · rw [if_pos h0] at ht; cases ht
  rw [if_neg h0] at ht
  by_cases a0 : bAt l 0 = 0
  · rw [if_pos a0] at ht
    simp only [Option.some.injEq, Prod.mk.injEq] at ht
    obtain ⟨rfl, rfl, rfl, rfl⟩ := ht
    refine ⟨?_, by omega, by omega⟩
    rw [take_one (by omega), of_bAt (n := 0) a0]
    simp [bytesL, ho]
  rw [if_neg a0] at ht
  by_cases a1 : bAt l 0 = 1
  · rw [if_pos a1] at ht
    by_cases hl : l.length < 3
    · rw [if_pos hl] at ht; cases ht
    rw [if_neg hl] at ht
    simp only [Option.some.injEq, Prod.mk.injEq] at ht
    obtain ⟨rfl, rfl, rfl, rfl⟩ := ht
    refine ⟨?_, by omega, by omega⟩
    have b1 := bAt_bd l 1
    have b2 := bAt_bd l 2
    rw [take_three (by omega), of_bAt (n := 1) a1]
    have e1 : (bAt l 1 * 256 + bAt l 2 - 10000 + 10000) / 256 = bAt l 1 := by omega
    have e2 : (bAt l 1 * 256 + bAt l 2 - 10000 + 10000) % 256 = bAt l 2 := by omega
    have u1 : UInt8.ofNat (bAt l 1).toNat = l.getD 1 0 := (of_bAt (by omega)).symm
    have u2 : UInt8.ofNat (bAt l 2).toNat = l.getD 2 0 := (of_bAt (by omega)).symm
    unfold bytesL
    rw [if_neg (by simp [ho]), if_pos rfl, e1, e2, u1, u2]; rfl
  rw [if_neg a1] at ht
  by_cases a2 : bAt l 0 = 2
  · rw [if_pos a2] at ht
    by_cases hl : l.length < 2
    · rw [if_pos hl] at ht; cases ht
    rw [if_neg hl] at ht
    by_cases hc : 6 < bAt l 1 ∨ (l.length : Int) < 2 + bAt l 1
    · rw [if_pos hc] at ht; cases ht
    rw [if_neg hc] at ht
    simp only [Option.some.injEq, Prod.mk.injEq] at ht
    obtain ⟨rfl, rfl, rfl, rfl⟩ := ht
    have b1 := bAt_bd l 1
    refine ⟨?_, by omega, by omega⟩
    match l, hl with
    | x :: y :: r, _ =>
      rw [bAt_cons0] at a2
      rw [bAt_cons1] at hc b1 ⊢
      have hx : x = 2 := UInt8.toNat_inj.1 (by show x.toNat = 2; omega)
      subst hx
      simp only [List.length_cons] at hc
      have hlen : (r.take y.toNat).length = y.toNat := by rw [List.length_take]; omega
      have hsz : (⟨((r.take ((y.toNat : Int)).toNat)).toArray⟩ : ByteArray).size = y.toNat := by
        show (r.take _).toArray.size = _
        rw [List.size_toArray, Int.toNat_natCast, hlen]
      unfold bytesL
      have hd : (2 :: y :: r).drop 2 = r := rfl
      rw [bAt_cons1, hd] at ho
      rw [hd, if_neg (by rw [ho]; decide), if_neg (by decide), if_pos rfl, hsz, UInt8.ofNat_toNat, Int.toNat_natCast, Nat.add_comm 2]
      rfl
    | [_], hl => exact absurd hl (by simp)
    | [], hl => exact absurd hl (by simp)
  rw [if_neg a2] at ht
  by_cases a3 : bAt l 0 = 3
  · rw [if_pos a3] at ht
    by_cases hl : l.length < 2
    · rw [if_pos hl] at ht; cases ht
    rw [if_neg hl] at ht
    simp only [Option.some.injEq, Prod.mk.injEq] at ht
    obtain ⟨rfl, rfl, rfl, rfl⟩ := ht
    refine ⟨?_, by omega, by omega⟩
    have b1 := bAt_bd l 1
    rw [take_two (by omega), of_bAt (n := 3) a3]
    have u1 : UInt8.ofNat (bAt l 1).toNat = l.getD 1 0 := (of_bAt (by omega)).symm
    unfold bytesL
    rw [if_neg (by simp [ho]), if_neg (by decide), if_neg (by decide), if_pos rfl, u1]; rfl
  rw [if_neg a3] at ht
  cases ht
/-- With one byte less nothing is read. -/
theorem from_less {l : List UInt8} {k n : Int} {s : List UInt8} {m : Nat} (h : fromO l = some (k, n, s, m)) : fromO (l.take (m - 1)) = none := by
  obtain ⟨ho, hb, h0, hm⟩ := from_some h
  rcases h2 : fromO (l.take (m - 1)) with _ | ⟨k2, n2, s2, m2⟩
  · rfl
  exfalso
  obtain ⟨ho2, hb2, h02, hm2⟩ := from_some h2
  rw [List.length_take] at hm2
  rw [List.take_take, Nat.min_eq_left (by omega)] at hb2
  have e : l = bytesL k2 n2 ⟨s2.toArray⟩ ++ l.drop m2 := by rw [hb2, List.take_append_drop]
  have h3 := from_bytes k2 n2 ⟨s2.toArray⟩ ho2 (l.drop m2)
  rw [← e, h, hb2, List.length_take] at h3
  simp only [Option.some.injEq, Prod.mk.injEq] at h3
  omega
end Go.Proofs.Ytlkdcijacjdneaa.Val
