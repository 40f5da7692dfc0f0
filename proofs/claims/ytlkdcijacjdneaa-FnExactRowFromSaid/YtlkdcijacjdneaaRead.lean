/- What numberRead, quotedRead, l1Digits and ValueRead (both sides) leave. -/
import Derived.Test.YtlkdcijacjdneaaReadT
import Derived.Deep.RegionWith
import Derived.WalkSpells
namespace Go.Proofs.Ytlkdcijacjdneaa.Val
open Go.RowKit
def NumPost (s : ByteArray) (w : World) (e : Ending) (w' : World) : Prop := ∃ (n : Int) (b : Bool), e = .returned (.tuple #[.int .i64 n, .bool b]) ∧ NumR s.data.toList n b ∧ Below w.heap.size w w'
theorem num_no {s : ByteArray} {w w' : World} (h : ∀ m, -9999 ≤ m → m ≤ 9999 → decI m ≠ s.data.toList) (hb : Below w.heap.size w w') : NumPost s w (.returned (.tuple #[.int .i64 0, .bool false])) w' := ⟨0, false, rfl, .inr ⟨rfl, rfl, h⟩, hb⟩
theorem num_yes {s : ByteArray} {n : Int} {w w' : World} (h1 : numB n = true) (h2 : decI n = s.data.toList) (hb : Below w.heap.size w w') : NumPost s w (.returned (.tuple #[.int .i64 n, .bool true])) w' := ⟨n, true, rfl, .inl ⟨rfl, ((numB_iff n).1 h1).1, ((numB_iff n).1 h1).2, h2⟩, hb⟩
theorem take_drop_snoc (s : ByteArray) (f j : Nat) (h : f + j < s.size) : (s.data.toList.drop f).take (j + 1) = (s.data.toList.drop f).take j ++ [s[f + j]] := by
  rw [List.take_succ_eq_append_getElem (by simp; exact Nat.lt_sub_of_add_lt (by rw [Nat.add_comm]; exact h))]
  simp [List.getElem_drop]; rfl
theorem head_split (s : ByteArray) (h : 0 < s.size) : s.data.toList = s[0] :: s.data.toList.drop 1 := by
  have : s.data.toList ≠ [] := by intro e; have := congrArg List.length e; have h2 : 0 < s.data.size := h; simp at this; simp [this] at h2
  cases hl : s.data.toList with
  | nil => exact absurd hl this
  | cons c t =>
    have hc : s[0] = c := by
      have : s.data.toList[0]'(by simp; exact h) = c := by simp [hl]
      rw [← this]; rfl
    rw [hc]; rfl
theorem ne45 (c : UInt8) (h : ¬ c = 45) : ((c.toNat : Int) == 45) = false := by
  rw [beq_eq_false_iff_ne]; intro e
  exact h (UInt8.toNat_inj.1 (by show c.toNat = 45; omega))
theorem ne39 (c : UInt8) (h : ¬ c = 39) : ((c.toNat : Int) == 39) = false := by
  rw [beq_eq_false_iff_ne]; intro e
  exact h (UInt8.toNat_inj.1 (by show c.toNat = 39; omega))
def ReadPost (s : ByteArray) (w : World) (e : Ending) (w' : World) : Prop := ∃ (k n : Int) (t : ByteArray) (b : Bool), e = .returned (.tuple #[.agg #[.int .i64 k, .int .i64 n, .string t], .bool b]) ∧ ReadsV s.data.toList k n t b ∧ Below w.heap.size w w'
theorem read_no {s : ByteArray} {w w' : World} (h : ∀ k n t, ¬ HasText s.data.toList k n t) (hb : Below w.heap.size w w') : ReadPost s w (.returned (.tuple #[.agg #[.int .i64 0, .int .i64 0, .string ⟨#[]⟩], .bool false])) w' := ⟨0, 0, ⟨#[]⟩, false, rfl, .inr ⟨rfl, rfl, rfl, rfl, h⟩, hb⟩
theorem read_yes {s : ByteArray} {k n : Int} {t : ByteArray} {w w' : World} (h : HasText s.data.toList k n t) (hb : Below w.heap.size w w') : ReadPost s w (.returned (.tuple #[.agg #[.int .i64 k, .int .i64 n, .string t], .bool true])) w' := ⟨k, n, t, true, rfl, .inl ⟨rfl, h⟩, hb⟩
theorem ok2_text (t : ByteArray) (h : okB 2 0 t = true) : textL 2 0 t = 39 :: (t.data.toList ++ [39]) := by simp [textL, h]
theorem has39 {l r : List UInt8} {k n : Int} {t : ByteArray} (h : HasText l k n t) (e : l = 39 :: r) : k = 2 ∧ n = 0 ∧ okB 2 0 t = true ∧ l = 39 :: (t.data.toList ++ [39]) := by
  obtain ⟨ho, hx⟩ := h
  subst e
  rcases ok_text k n t ho with ⟨rfl, rfl, rfl, e⟩ | ⟨rfl, a1, a2, rfl, e⟩ | ⟨rfl, rfl, a1, a2, e⟩ | ⟨rfl, rfl, rfl, e⟩ | ⟨rfl, rfl, rfl, e⟩ <;> rw [e] at hx
  · simp at hx
  · obtain ⟨c, tl, ec, c1, c2, c3, c4⟩ := head_num _ a1 a2
    rw [ec] at hx; injection hx with h1 _; exact absurd h1 c2
  · exact ⟨rfl, rfl, ho, hx.symm⟩
  · simp at hx
  · simp at hx
theorem extract_mid (s : ByteArray) : (s.extract 1 (s.size - 1)).data.toList = (s.data.toList.drop 1).take (s.size - 2) := by
  rw [ByteArray.data_extract]
  simp [Array.toList_extract, List.extract]
  omega
theorem quote_split (s : ByteArray) (h2 : 2 ≤ s.size) (h0 : s[0] = 39) (hl : s[s.size - 1] = 39) : s.data.toList = 39 :: ((s.extract 1 (s.size - 1)).data.toList ++ [39]) := by
  have hn : s.data.toList.length = s.size := by simp
  have e := head_split s (by omega)
  rw [h0] at e
  rw [extract_mid]
  have hd : (s.data.toList.drop 1) = (s.data.toList.drop 1).take (s.size - 2) ++ [39] := by
    have := take_drop_snoc s 1 (s.size - 2) (by omega)
    have hix : s[1 + (s.size - 2)]'(by omega) = s[s.size - 1] := by congr 1; omega
    rw [List.take_of_length_le (by rw [List.length_drop, hn]; omega), hix, hl] at this
    exact this
  rw [← hd]; exact e
theorem quote_back (s t : ByteArray) (e : s.data.toList = 39 :: (t.data.toList ++ [39])) : s.size = t.size + 2 ∧ s.extract 1 (s.size - 1) = t := by
  have hn : s.size = t.size + 2 := by
    have := congrArg List.length e
    simp at this; exact this
  refine ⟨hn, ByteArray.ext (Array.toList_inj.1 ?_)⟩
  rw [extract_mid, e, hn]
  simp
end Go.Proofs.Ytlkdcijacjdneaa.Val
