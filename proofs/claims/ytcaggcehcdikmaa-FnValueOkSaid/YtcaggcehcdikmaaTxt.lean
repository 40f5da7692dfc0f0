/- Texts of values: contracts of l1Plain, l1Signed, numberText, truthText, ValueText. -/
import Derived.Test.YtcaggcehcdikmaaVal
import Derived.Laws.IdiomStrings
import Derived.Deep.RegionWith
import Derived.IntWalk
namespace Go.Proofs.Ytcaggcehcdikmaa.Val
open Go.RowKit
theorem retS {a b : ByteArray} (h : a = b) : Ending.returned (.string a) = Ending.returned (.string b) := by rw [h]
theorem conv1 (w : World) (x : Int) : (convert 22 9 (.slice (some ⟨w.heap.size, 0, none⟩) 1 1)).run Try.prog (w.alloc (.cells #[.int .u8 x] 5)) = .ok (.string ⟨#[UInt8.ofNat x.toNat]⟩) (w.alloc (.cells #[.int .u8 x] 5)) := by
  rw [run_convert_bytes_string _ _ _ 5 _ _ _ Try.underlying22 Try.underlying5 Try.underlying9]
  have hl := run_loadCells_list (P := Try.prog) (w.alloc (.cells #[.int .u8 x] 5)) ⟨w.heap.size, 0, none⟩ [.int .u8 x] (fun j v hj => by
    match j with
    | 0 => simp at hj; subst hj; simp [Addr.add, World.cell?_alloc_mark]
    | k + 1 => simp at hj)
  rw [run_bytesToString _ _ _ _ [x] (by simpa using hl)]
  rfl
theorem convAt (x : Int) (W : World) (b : Nat) (hc : W.cell? ⟨b, 0, none⟩ = some (.int .u8 x)) : (convert 22 9 (.slice (some ⟨b, 0, none⟩) 1 1)).run Try.prog W = .ok (.string ⟨#[UInt8.ofNat x.toNat]⟩) W := by
  rw [run_convert_bytes_string _ _ _ 5 _ _ _ Try.underlying22 Try.underlying5 Try.underlying9]
  have hl := run_loadCells_list (P := Try.prog) W ⟨b, 0, none⟩ [.int .u8 x] (fun j v hj => by
    match j with
    | 0 => simp at hj; subst hj; simpa [Addr.add] using hc
    | k + 1 => simp at hj)
  rw [run_bytesToString _ _ _ _ [x] (by simpa using hl)]
  rfl
theorem l1Plain_low (n : Int) (w : World) (h0 : 0 ≤ n) (h : n < 10) : Calls Try.prog 59 #[.int .i64 n] w fun e w' => e = .returned (.string ⟨(decL n.toNat).toArray⟩) ∧ Below w.heap.size w w' := by
  have kc := conv1
  go_enter Try.func59, Try.ntmps59
  go_wp2_with fail
  go_ret
  refine ⟨retS ?_, ?_⟩
  · rw [decL_low n.toNat (by omega)]; obtain ⟨m, rfl⟩ := Int.eq_ofNat_of_zero_le h0; rw [show ((48 : Int) + ↑m).toNat = 48 + m from by omega]; simp only [Int.toNat_natCast, decC]; rw [Nat.mod_eq_of_lt (by omega)]
  · (repeat (with_reducible first | exact Below.refl _ _ | (refine Below.trans ?_ (Below.mono hb1 (by first | omega | (simp; done) | (simp; omega))); clear hb1) | (refine Below.trans ?_ (Below.mono hb2 (by first | omega | (simp; done) | (simp; omega))); clear hb2) | (refine Below.trans ?_ (Below.mono hb3 (by first | omega | (simp; done) | (simp; omega))); clear hb3) | (refine Below.trans ?_ (Below.mono hb4 (by first | omega | (simp; done) | (simp; omega))); clear hb4) | (refine Below.trans ?_ (Below.mono hb5 (by first | omega | (simp; done) | (simp; omega))); clear hb5) | refine Below.alloc ?_ (by first | omega | (simp; done) | (simp; omega)) _ | refine Below.setCell ?_ (by first | omega | (simp; done) | (simp; omega)) _ | refine Below.drew ?_))
theorem u8_in (x : Int) (h0 : 0 ≤ x) (h1 : x < 256) : IntKind.u8.wrap x = x := by
  rw [IntKind.wrap_u8]; omega
theorem decZ_len (n : Nat) : (decZ n).length ≤ n := by
  induction n using Nat.strongRecOn with
  | ind n ih =>
    by_cases h : n = 0
    · subst h; rw [decZ_zero]; simp
    · rw [decZ_pos n (by omega)]
      have := ih (n / 10) (by omega)
      simp; omega
theorem decL_len (n : Nat) : (decL n).length ≤ n + 1 := by
  unfold decL; split
  · simp
  · have := decZ_len n; omega
theorem fin1 (n : Int) (h : 10 ≤ n) : (⟨(decL (n / 10).toNat).toArray⟩ : ByteArray) ++ ⟨#[UInt8.ofNat (48 + n % 10).toNat]⟩ = ⟨(decL n.toNat).toArray⟩ := by
  obtain ⟨m, rfl⟩ := Int.eq_ofNat_of_zero_le (show 0 ≤ n by omega)
  have e : ((m : Int) / 10).toNat = m / 10 := by omega
  have e2 : (48 + (m : Int) % 10).toNat = 48 + m % 10 := by omega
  rw [e, e2, Int.toNat_natCast, decL_high m (by omega)]
  exact ByteArray.mk_append_mk _ _
theorem l1Plain2 (n : Int) (ih : ∀ (m : Int) (w : World), 0 ≤ m → m < n → Calls Try.prog 59 #[.int .i64 m] w fun e w' => e = .returned (.string ⟨(decL m.toNat).toArray⟩) ∧ Below w.heap.size w w') (w : World) (h : 10 ≤ n) (hb : n ≤ 99999) : Calls Try.prog 59 #[.int .i64 n] w fun e w' => e = .returned (.string ⟨(decL n.toNat).toArray⟩) ∧ Below w.heap.size w w' := by
  have kc := convAt (48 + n % 10)
  have A1 := Lib.hid (show 0 ≤ n / 10 by omega)
  have A2 := Lib.hid (show n / 10 < n by omega)
  have HF := Lib.hid (fin1 n h)
  have e1 : n.tdiv 10 = n / 10 := Int.tdiv_eq_ediv_of_nonneg (by omega)
  have e3 : n.tmod 10 = n % 10 := Int.tmod_eq_emod_of_nonneg (by omega)
  have e2 : IntKind.i64.wrap (n / 10) = n / 10 := IntWalk.i64_in _ (by omega)
  have e4 : IntKind.i64.wrap (48 + n % 10) = 48 + n % 10 := IntWalk.i64_in _ (by omega)
  have e5 : IntKind.u8.wrap (48 + n % 10) = 48 + n % 10 := u8_in _ (by omega) (by omega)
  have hl := decL_len (n / 10).toNat
  have hl2 : (decL (n / 10).toNat).length ≤ 10000 := by omega
  clear hl
  have IH := Lib.hid ih
  clear ih
  go_enter Try.func59, Try.ntmps59
  go_wp2_with fail
  go_region_with (go_at_call 59; ((with_reducible refine (IH.out _ _ A1.out A2.out).mono ?_); (try (have hc5 := hc4; have hf5 := hf4; have hz5 := hz4; have hb5 := hb4; clear hc4 hf4 hz4 hb4)); (try (have hc4 := hc3; have hf4 := hf3; have hz4 := hz3; have hb4 := hb3; clear hc3 hf3 hz3 hb3)); (try (have hc3 := hc2; have hf3 := hf2; have hz3 := hz2; have hb3 := hb2; clear hc2 hf2 hz2 hb2)); (try (have hc2 := hc1; have hf2 := hf1; have hz2 := hz1; have hb2 := hb1; clear hc1 hf1 hz1 hb1)); rintro e w1 ⟨rfl, hb1⟩; obtain ⟨hc1, hf1⟩ := bcell hb1; have hz1 := hb1.size; (try simp at hz1)))
  all_goals clear e1 e2 e3 e4 e5
  all_goals go_wp2
  all_goals go_ret
  all_goals refine ⟨retS HF.out, ?_⟩
  all_goals ((repeat (with_reducible first | exact Below.refl _ _ | (refine Below.trans ?_ (Below.mono hb1 (by first | omega | (simp; done) | (simp; omega))); clear hb1) | (refine Below.trans ?_ (Below.mono hb2 (by first | omega | (simp; done) | (simp; omega))); clear hb2) | (refine Below.trans ?_ (Below.mono hb3 (by first | omega | (simp; done) | (simp; omega))); clear hb3) | (refine Below.trans ?_ (Below.mono hb4 (by first | omega | (simp; done) | (simp; omega))); clear hb4) | (refine Below.trans ?_ (Below.mono hb5 (by first | omega | (simp; done) | (simp; omega))); clear hb5) | refine Below.alloc ?_ (by first | omega | (simp; done) | (simp; omega)) _ | refine Below.setCell ?_ (by first | omega | (simp; done) | (simp; omega)) _ | refine Below.drew ?_)))
theorem l1Plain (N : Nat) : ∀ (n : Int) (w : World), 0 ≤ n → n ≤ 99999 → n.toNat ≤ N → Calls Try.prog 59 #[.int .i64 n] w fun e w' => e = .returned (.string ⟨(decL n.toNat).toArray⟩) ∧ Below w.heap.size w w' := by
  induction N with
  | zero => intro n w h0 h1 h2; exact l1Plain_low n w h0 (by omega)
  | succ N ih =>
    intro n w h0 h1 h2
    by_cases h : n < 10
    · exact l1Plain_low n w h0 h
    · exact l1Plain2 n (fun m w hm hl => ih m w hm (by omega) (by omega)) w (by omega) h1
theorem l1Signed (n : Int) (w : World) (h0 : -99999 ≤ n) (h1 : n ≤ 99999) : Calls Try.prog 53 #[.int .i64 n] w fun e w' => e = .returned (.string ⟨(decI n).toArray⟩) ∧ Below w.heap.size w w' := by
  have hl := decL_len n.natAbs
  by_cases h : n < 0
  · have hl2 : (decL (-n).toNat).length ≤ 100000 := by rw [show (-n).toNat = n.natAbs by omega]; omega
    have HF : Hid ((⟨#[45]⟩ : ByteArray) ++ ⟨(decL (-n).toNat).toArray⟩ = ⟨(decI n).toArray⟩) := by
      rw [show (-n).toNat = n.natAbs by omega]; unfold decI; rw [if_pos h]; exact ByteArray.mk_append_mk [45] _
    clear hl
    go_enter Try.func53, Try.ntmps53
    go_wp2_with ((go_at_call 59; ((with_reducible refine (l1Plain 99999 _ _ (by omega) (by omega) (by omega)).mono ?_); (try (have hc5 := hc4; have hf5 := hf4; have hz5 := hz4; have hb5 := hb4; clear hc4 hf4 hz4 hb4)); (try (have hc4 := hc3; have hf4 := hf3; have hz4 := hz3; have hb4 := hb3; clear hc3 hf3 hz3 hb3)); (try (have hc3 := hc2; have hf3 := hf2; have hz3 := hz2; have hb3 := hb2; clear hc2 hf2 hz2 hb2)); (try (have hc2 := hc1; have hf2 := hf1; have hz2 := hz1; have hb2 := hb1; clear hc1 hf1 hz1 hb1)); rintro e w1 ⟨rfl, hb1⟩; obtain ⟨hc1, hf1⟩ := bcell hb1; have hz1 := hb1.size; (try simp at hz1))))
    go_ret
    exact ⟨retS HF.out, by (repeat (with_reducible first | exact Below.refl _ _ | (refine Below.trans ?_ (Below.mono hb1 (by first | omega | (simp; done) | (simp; omega))); clear hb1) | (refine Below.trans ?_ (Below.mono hb2 (by first | omega | (simp; done) | (simp; omega))); clear hb2) | (refine Below.trans ?_ (Below.mono hb3 (by first | omega | (simp; done) | (simp; omega))); clear hb3) | (refine Below.trans ?_ (Below.mono hb4 (by first | omega | (simp; done) | (simp; omega))); clear hb4) | (refine Below.trans ?_ (Below.mono hb5 (by first | omega | (simp; done) | (simp; omega))); clear hb5) | refine Below.alloc ?_ (by first | omega | (simp; done) | (simp; omega)) _ | refine Below.setCell ?_ (by first | omega | (simp; done) | (simp; omega)) _ | refine Below.drew ?_))⟩
  · have HF : Hid ((⟨(decL n.toNat).toArray⟩ : ByteArray) = ⟨(decI n).toArray⟩) := by
      rw [show n.toNat = n.natAbs by omega]; unfold decI; rw [if_neg h]; exact rfl
    clear hl
    go_enter Try.func53, Try.ntmps53
    go_wp2_with ((go_at_call 59; ((with_reducible refine (l1Plain 99999 _ _ (by omega) (by omega) (by omega)).mono ?_); (try (have hc5 := hc4; have hf5 := hf4; have hz5 := hz4; have hb5 := hb4; clear hc4 hf4 hz4 hb4)); (try (have hc4 := hc3; have hf4 := hf3; have hz4 := hz3; have hb4 := hb3; clear hc3 hf3 hz3 hb3)); (try (have hc3 := hc2; have hf3 := hf2; have hz3 := hz2; have hb3 := hb2; clear hc2 hf2 hz2 hb2)); (try (have hc2 := hc1; have hf2 := hf1; have hz2 := hz1; have hb2 := hb1; clear hc1 hf1 hz1 hb1)); rintro e w1 ⟨rfl, hb1⟩; obtain ⟨hc1, hf1⟩ := bcell hb1; have hz1 := hb1.size; (try simp at hz1))))
    go_ret
    exact ⟨retS HF.out, by (repeat (with_reducible first | exact Below.refl _ _ | (refine Below.trans ?_ (Below.mono hb1 (by first | omega | (simp; done) | (simp; omega))); clear hb1) | (refine Below.trans ?_ (Below.mono hb2 (by first | omega | (simp; done) | (simp; omega))); clear hb2) | (refine Below.trans ?_ (Below.mono hb3 (by first | omega | (simp; done) | (simp; omega))); clear hb3) | (refine Below.trans ?_ (Below.mono hb4 (by first | omega | (simp; done) | (simp; omega))); clear hb4) | (refine Below.trans ?_ (Below.mono hb5 (by first | omega | (simp; done) | (simp; omega))); clear hb5) | refine Below.alloc ?_ (by first | omega | (simp; done) | (simp; omega)) _ | refine Below.setCell ?_ (by first | omega | (simp; done) | (simp; omega)) _ | refine Below.drew ?_))⟩
theorem mkcons (c : UInt8) (l : List UInt8) : (⟨#[c]⟩ : ByteArray) ++ ⟨l.toArray⟩ = ⟨(c :: l).toArray⟩ := ByteArray.mk_append_mk [c] l
theorem measStep (m : Nat) (h : m / 10 < m) : (intOf (.int .i64 (-((m : Int) / 10)))).natAbs < (intOf (.int .i64 (-(m : Int)))).natAbs := by
  show (-((m : Int) / 10)).natAbs < (-(m : Int)).natAbs
  rw [Int.natAbs_neg, Int.natAbs_neg]; omega
theorem decStep (m : Nat) (suf : List UInt8) : Value.string (⟨#[48 + UInt8.ofNat (m % 10)]⟩ ++ ⟨suf.toArray⟩) = Value.string ⟨(decC m :: suf).toArray⟩ := by
  rw [mkcons, show (48 : UInt8) + UInt8.ofNat (m % 10) = decC m from by unfold decC; rw [UInt8.ofNat_add]; rfl]
theorem numberText (n : Int) (w : World) (h0 : -99999 ≤ n) (h1 : n ≤ 99999) : Calls Try.prog 47 #[.int .i64 n] w fun e w' => e = .returned (.string ⟨(decI n).toArray⟩) ∧ Below w.heap.size w w' := by
  by_cases hz : n = 0
  · subst hz
    go_enter Try.func47, Try.ntmps47
    go_wp2
    go_ret
    exact ⟨retS rfl, Below.refl _ _⟩
  · have hz' : (n == 0) = false := by simpa using hz
    obtain ⟨M, hM⟩ : ∃ M : Nat, n = M ∨ n = -(M : Int) := ⟨n.natAbs, by omega⟩
    have hM0 : 0 < M := by omega
    have hML : M ≤ 99999 := by omega
    have hl := decL_len M
    rcases hM with rfl | rfl
    · have HF : Hid (∀ l, decL M = l → (⟨l.toArray⟩ : ByteArray) = ⟨(decI M).toArray⟩) := by
        intro l h; subst h; unfold decI; rw [if_neg (by omega)]; rfl
      clear hz
      go_enter Try.func47, Try.ntmps47
      go_wp2
      go_loopw [3, 4] (fun l sx wr => ∃ (m : Nat) (suf : List UInt8), l = .int .i64 (-(m : Int)) ∧ sx = .string ⟨suf.toArray⟩ ∧ decZ m ++ suf = decL M ∧ m ≤ M ∧ suf.length ≤ M + 1 ∧ Below w.heap.size w wr) (fun l _ _ => (intOf l).natAbs)
      case atStart => exact ⟨M, [], rfl, rfl, by rw [List.append_nil]; unfold decL; rw [if_neg (by omega)], Nat.le_refl _, by simp, Below.refl _ _⟩
      case round =>
        obtain ⟨m, suf, rfl, rfl, hd, hm, hsl, hB⟩ := hrel
        have HB := Lib.hid hB
        have hwz := hB.size
        clear hB
        by_cases hm0 : m = 0
        · subst hm0
          have HD := Lib.hid (HF.out suf (by rw [← hd, decZ_zero]; rfl))
          clear hd
          go_wp2
          go_ret
          exact ⟨retS HD.out, HB.out⟩
        · have HE := Lib.hid (show decZ (m / 10) ++ (decC m :: suf) = decL M by rw [← hd, decZ_pos m (by omega)]; simp)
          have HL := Lib.hid (show suf.length + 1 ≤ M + 1 by have := congrArg List.length hd; rw [decZ_pos m (by omega)] at this; simp at this; omega)
          have HM := Lib.hid (show m / 10 < m by omega)
          clear hd
          have hne : (-(m : Int) != 0) = true := by simp; omega
          have kc := convAt (48 + (m : Int) % 10)
          have b1 : (m : Int) % 10 < 10 := by omega
          have b2 : 0 ≤ (m : Int) % 10 := by omega
          have e1 : Int.tmod (-(m : Int)) 10 = -((m : Int) % 10) := by rw [Int.neg_tmod, Int.tmod_eq_emod_of_nonneg (by omega)]
          have e2 : Int.tdiv (-(m : Int)) 10 = -((m : Int) / 10) := by rw [Int.neg_tdiv, Int.tdiv_eq_ediv_of_nonneg (by omega)]
          clear hm0
          go_wp2
          refine ⟨⟨m / 10, decC m :: suf, by rw [Int.natCast_ediv]; rfl, decStep m suf, HE.out, by have := HM.out; omega, HL.out, HB.out.alloc (by omega) _⟩, measStep m HM.out⟩
    · have HF : Hid (∀ l, decL M = l → ((⟨#[45]⟩ : ByteArray) ++ ⟨l.toArray⟩) = ⟨(decI (-(M : Int))).toArray⟩) := by
        intro l h; subst h; unfold decI; rw [if_pos (by omega), show (-(M : Int)).natAbs = M by omega]; exact ByteArray.mk_append_mk [45] _
      clear hz
      go_enter Try.func47, Try.ntmps47
      go_wp2
      go_loopw [3, 4] (fun l sx wr => ∃ (m : Nat) (suf : List UInt8), l = .int .i64 (-(m : Int)) ∧ sx = .string ⟨suf.toArray⟩ ∧ decZ m ++ suf = decL M ∧ m ≤ M ∧ suf.length ≤ M + 1 ∧ Below w.heap.size w wr) (fun l _ _ => (intOf l).natAbs)
      case atStart => exact ⟨M, [], rfl, rfl, by rw [List.append_nil]; unfold decL; rw [if_neg (by omega)], Nat.le_refl _, by simp, Below.refl _ _⟩
      case round =>
        obtain ⟨m, suf, rfl, rfl, hd, hm, hsl, hB⟩ := hrel
        have HB := Lib.hid hB
        have hwz := hB.size
        clear hB
        by_cases hm0 : m = 0
        · subst hm0
          have HD := Lib.hid (HF.out suf (by rw [← hd, decZ_zero]; rfl))
          clear hd
          go_wp2
          go_ret
          exact ⟨retS HD.out, HB.out⟩
        · have HE := Lib.hid (show decZ (m / 10) ++ (decC m :: suf) = decL M by rw [← hd, decZ_pos m (by omega)]; simp)
          have HL := Lib.hid (show suf.length + 1 ≤ M + 1 by have := congrArg List.length hd; rw [decZ_pos m (by omega)] at this; simp at this; omega)
          have HM := Lib.hid (show m / 10 < m by omega)
          clear hd
          have hne : (-(m : Int) != 0) = true := by simp; omega
          have kc := convAt (48 + (m : Int) % 10)
          have b1 : (m : Int) % 10 < 10 := by omega
          have b2 : 0 ≤ (m : Int) % 10 := by omega
          have e1 : Int.tmod (-(m : Int)) 10 = -((m : Int) % 10) := by rw [Int.neg_tmod, Int.tmod_eq_emod_of_nonneg (by omega)]
          have e2 : Int.tdiv (-(m : Int)) 10 = -((m : Int) / 10) := by rw [Int.neg_tdiv, Int.tdiv_eq_ediv_of_nonneg (by omega)]
          clear hm0
          go_wp2
          refine ⟨⟨m / 10, decC m :: suf, by rw [Int.natCast_ediv]; rfl, decStep m suf, HE.out, by have := HM.out; omega, HL.out, HB.out.alloc (by omega) _⟩, measStep m HM.out⟩
theorem truthText (n : Int) (w : World) : Calls Try.prog 48 #[.int .i64 n] w fun e w' => e = .returned (.string (if n = 1 then ⟨#[116, 114, 117, 101]⟩ else ⟨#[102, 97, 108, 115, 101]⟩)) ∧ w = w' := by
  go_enter Try.func48, Try.ntmps48
  go_wp2
  all_goals (go_ret; refine ⟨retS ?_, rfl⟩; simp_all)
theorem quoteL (s : ByteArray) : (⟨#[39]⟩ : ByteArray) ++ s ++ ⟨#[39]⟩ = ⟨(39 :: (s.data.toList ++ [39])).toArray⟩ := by
  apply ByteArray.ext; simp [ByteArray.data_append]
def textL (k n : Int) (s : ByteArray) : List UInt8 :=
  if okB k n s = false then [] else if k = 1 then decI n else if k = 2 then 39 :: (s.data.toList ++ [39]) else if k = 3 then (if n = 1 then [116, 114, 117, 101] else [102, 97, 108, 115, 101]) else [110, 111, 110, 101]
theorem ok_cases (k n : Int) (s : ByteArray) : okB k n s = false ∨ (k = 0 ∧ n = 0 ∧ s.toList = [] ∧ okB 0 0 s = true) ∨ (k = 1 ∧ -9999 ≤ n ∧ n ≤ 9999 ∧ s.toList = [] ∧ okB 1 n s = true) ∨ (k = 2 ∧ n = 0 ∧ s.size ≤ 6 ∧ letB s.data.toList = true ∧ okB 2 0 s = true) ∨ (k = 3 ∧ n = 0 ∧ s.toList = [] ∧ okB 3 0 s = true) ∨ (k = 3 ∧ n = 1 ∧ s.toList = [] ∧ okB 3 1 s = true) := by
  by_cases h : okB k n s = false
  · exact .inl h
  · right
    by_cases h0 : k = 0
    · subst h0; simp_all [okB]
    by_cases h1 : k = 1
    · subst h1; simp_all [okB, numB]
    by_cases h2 : k = 2
    · subst h2; simp_all [okB]
    by_cases h3 : k = 3
    · subst h3; simp_all [okB]
    · simp_all [okB]
theorem valueTextI (k n : Int) (s : ByteArray) (w : World) (hs : s.size ≤ maxLen) : Calls Try.prog 18 #[.agg #[.int .i64 k, .int .i64 n, .string s]] w fun e w' => e = .returned (.string ⟨(textL k n s).toArray⟩) ∧ Below w.heap.size w w' := by
  rcases ok_cases k n s with h | ⟨rfl, rfl, hl, h⟩ | ⟨rfl, h1, h2, hl, h⟩ | ⟨rfl, rfl, hz, hl, h⟩ | ⟨rfl, rfl, hl, h⟩ | ⟨rfl, rfl, hl, h⟩
  all_goals (try clear hl)
  all_goals
    go_enter Try.func18, Try.ntmps18
    go_wp2_with (first | (go_at_call 16; ((with_reducible refine (valueOk _ _ _ _ (by assumption)).mono ?_); (try (have hc5 := hc4; have hf5 := hf4; have hz5 := hz4; have hb5 := hb4; have hya_5 := hya_4; clear hc4 hf4 hz4 hb4 hya_4)); (try (have hc4 := hc3; have hf4 := hf3; have hz4 := hz3; have hb4 := hb3; have hya_4 := hya_3; clear hc3 hf3 hz3 hb3 hya_3)); (try (have hc3 := hc2; have hf3 := hf2; have hz3 := hz2; have hb3 := hb2; have hya_3 := hya_2; clear hc2 hf2 hz2 hb2 hya_2)); (try (have hc2 := hc1; have hf2 := hf1; have hz2 := hz1; have hb2 := hb1; have hya_2 := hya_1; clear hc1 hf1 hz1 hb1 hya_1)); rintro e w1 ⟨rfl, hb1⟩; obtain ⟨hc1, hf1⟩ := bcell hb1; have hz1 := hb1.size; (try simp at hz1); have hya_1 : w.heap.size < w1.heap.size := (by omega))) | (go_at_call 47; ((with_reducible refine (numberText _ _ (by omega) (by omega)).mono ?_); (try (have hc5 := hc4; have hf5 := hf4; have hz5 := hz4; have hb5 := hb4; have hya_5 := hya_4; clear hc4 hf4 hz4 hb4 hya_4)); (try (have hc4 := hc3; have hf4 := hf3; have hz4 := hz3; have hb4 := hb3; have hya_4 := hya_3; clear hc3 hf3 hz3 hb3 hya_3)); (try (have hc3 := hc2; have hf3 := hf2; have hz3 := hz2; have hb3 := hb2; have hya_3 := hya_2; clear hc2 hf2 hz2 hb2 hya_2)); (try (have hc2 := hc1; have hf2 := hf1; have hz2 := hz1; have hb2 := hb1; have hya_2 := hya_1; clear hc1 hf1 hz1 hb1 hya_1)); rintro e w1 ⟨rfl, hb1⟩; obtain ⟨hc1, hf1⟩ := bcell hb1; have hz1 := hb1.size; (try simp at hz1); have hya_1 : w.heap.size < w1.heap.size := (by omega))) | (go_at_call 48; ((with_reducible refine (truthText _ _).mono ?_); rintro e w1 ⟨rfl, rfl⟩)))
    go_ret
    refine ⟨retS ?_, by (repeat (with_reducible first | exact Below.refl _ _ | (refine Below.trans ?_ (Below.mono hb1 (by first | omega | (simp; done) | (simp; omega))); clear hb1) | (refine Below.trans ?_ (Below.mono hb2 (by first | omega | (simp; done) | (simp; omega))); clear hb2) | (refine Below.trans ?_ (Below.mono hb3 (by first | omega | (simp; done) | (simp; omega))); clear hb3) | (refine Below.trans ?_ (Below.mono hb4 (by first | omega | (simp; done) | (simp; omega))); clear hb4) | (refine Below.trans ?_ (Below.mono hb5 (by first | omega | (simp; done) | (simp; omega))); clear hb5) | refine Below.alloc ?_ (by first | omega | (simp; done) | (simp; omega)) _ | refine Below.setCell ?_ (by first | omega | (simp; done) | (simp; omega)) _ | refine Below.drew ?_))⟩
    simp [textL, h, quoteL]
theorem valueTextS (k n : Int) (s : ByteArray) (w : World) (hs : s.size ≤ maxLen) : Calls Try.prog 25 #[.agg #[.int .i64 k, .int .i64 n, .string s]] w fun e w' => e = .returned (.string ⟨(textL k n s).toArray⟩) ∧ Below w.heap.size w w' := by
  rcases ok_cases k n s with h | ⟨rfl, rfl, hl, h⟩ | ⟨rfl, h1, h2, hl, h⟩ | ⟨rfl, rfl, hz, hl, h⟩ | ⟨rfl, rfl, hl, h⟩ | ⟨rfl, rfl, hl, h⟩
  all_goals (try clear hl)
  all_goals
    go_enter Try.func25, Try.ntmps25
    go_wp2_with (first | (go_at_call 17; ((with_reducible refine (valueOkS _ _ _ _ (by assumption)).mono ?_); (try (have hc5 := hc4; have hf5 := hf4; have hz5 := hz4; have hb5 := hb4; have hya_5 := hya_4; clear hc4 hf4 hz4 hb4 hya_4)); (try (have hc4 := hc3; have hf4 := hf3; have hz4 := hz3; have hb4 := hb3; have hya_4 := hya_3; clear hc3 hf3 hz3 hb3 hya_3)); (try (have hc3 := hc2; have hf3 := hf2; have hz3 := hz2; have hb3 := hb2; have hya_3 := hya_2; clear hc2 hf2 hz2 hb2 hya_2)); (try (have hc2 := hc1; have hf2 := hf1; have hz2 := hz1; have hb2 := hb1; have hya_2 := hya_1; clear hc1 hf1 hz1 hb1 hya_1)); rintro e w1 ⟨rfl, hb1⟩; obtain ⟨hc1, hf1⟩ := bcell hb1; have hz1 := hb1.size; (try simp at hz1); have hya_1 : w.heap.size < w1.heap.size := (by omega))) | (go_at_call 53; ((with_reducible refine (l1Signed _ _ (by omega) (by omega)).mono ?_); (try (have hc5 := hc4; have hf5 := hf4; have hz5 := hz4; have hb5 := hb4; have hya_5 := hya_4; clear hc4 hf4 hz4 hb4 hya_4)); (try (have hc4 := hc3; have hf4 := hf3; have hz4 := hz3; have hb4 := hb3; have hya_4 := hya_3; clear hc3 hf3 hz3 hb3 hya_3)); (try (have hc3 := hc2; have hf3 := hf2; have hz3 := hz2; have hb3 := hb2; have hya_3 := hya_2; clear hc2 hf2 hz2 hb2 hya_2)); (try (have hc2 := hc1; have hf2 := hf1; have hz2 := hz1; have hb2 := hb1; have hya_2 := hya_1; clear hc1 hf1 hz1 hb1 hya_1)); rintro e w1 ⟨rfl, hb1⟩; obtain ⟨hc1, hf1⟩ := bcell hb1; have hz1 := hb1.size; (try simp at hz1); have hya_1 : w.heap.size < w1.heap.size := (by omega))))
    go_ret
    refine ⟨retS ?_, by (repeat (with_reducible first | exact Below.refl _ _ | (refine Below.trans ?_ (Below.mono hb1 (by first | omega | (simp; done) | (simp; omega))); clear hb1) | (refine Below.trans ?_ (Below.mono hb2 (by first | omega | (simp; done) | (simp; omega))); clear hb2) | (refine Below.trans ?_ (Below.mono hb3 (by first | omega | (simp; done) | (simp; omega))); clear hb3) | (refine Below.trans ?_ (Below.mono hb4 (by first | omega | (simp; done) | (simp; omega))); clear hb4) | (refine Below.trans ?_ (Below.mono hb5 (by first | omega | (simp; done) | (simp; omega))); clear hb5) | refine Below.alloc ?_ (by first | omega | (simp; done) | (simp; omega)) _ | refine Below.setCell ?_ (by first | omega | (simp; done) | (simp; omega)) _ | refine Below.drew ?_))⟩
    simp [textL, h, quoteL]
end Go.Proofs.Ytcaggcehcdikmaa.Val
