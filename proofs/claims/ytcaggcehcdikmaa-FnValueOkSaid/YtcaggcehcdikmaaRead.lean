/- What numberRead, quotedRead, l1Digits and ValueRead (both sides) leave. -/
import Derived.Test.YtcaggcehcdikmaaReadT
import Derived.Deep.RegionWith
import Derived.WalkSpells
namespace Go.Proofs.Ytcaggcehcdikmaa.Val
open Go.RowKit
def NumPost (s : ByteArray) (w : World) (e : Ending) (w' : World) : Prop := ∃ (n : Int) (b : Bool), e = .returned (.tuple #[.int .i64 n, .bool b]) ∧ NumR s.data.toList n b ∧ Below w.heap.size w w'
theorem num_no {s : ByteArray} {w w' : World} (h : ∀ m, -9999 ≤ m → m ≤ 9999 → decI m ≠ s.data.toList) (hb : Below w.heap.size w w') : NumPost s w (.returned (.tuple #[.int .i64 0, .bool false])) w' := ⟨0, false, rfl, .inr ⟨rfl, rfl, h⟩, hb⟩
theorem num_yes {s : ByteArray} {n : Int} {w w' : World} (h1 : numB n = true) (h2 : decI n = s.data.toList) (hb : Below w.heap.size w w') : NumPost s w (.returned (.tuple #[.int .i64 n, .bool true])) w' := ⟨n, true, rfl, .inl ⟨rfl, ((numB_iff n).1 h1).1, ((numB_iff n).1 h1).2, h2⟩, hb⟩
theorem take_drop_snoc (s : ByteArray) (f j : Nat) (h : f + j < s.size) : (s.data.toList.drop f).take (j + 1) = (s.data.toList.drop f).take j ++ [s[f + j]] := by
  rw [List.take_succ_eq_append_getElem (by simp; exact Nat.lt_sub_of_add_lt (by rw [Nat.add_comm]; exact h))]
  simp [List.getElem_drop]; rfl
theorem head_split (s : ByteArray) (h : 0 < s.size) : s.data.toList = s[0] :: s.data.toList.drop 1 := by
  have : s.data.toList ≠ [] := by intro e; have := congrArg List.length e; have h2 : 0 < s.data.size := h; simp at this; simp [this] at h2
  cases hl : s.data.toList with
  | nil => exact absurd hl this
  | cons c t =>
    have hc : s[0] = c := by
      have : s.data.toList[0]'(by simp; exact h) = c := by simp [hl]
      rw [← this]; rfl
    rw [hc]; rfl
theorem ne45 (c : UInt8) (h : ¬ c = 45) : ((c.toNat : Int) == 45) = false := by
  rw [beq_eq_false_iff_ne]; intro e
  exact h (UInt8.toNat_inj.1 (by show c.toNat = 45; omega))
theorem ne39 (c : UInt8) (h : ¬ c = 39) : ((c.toNat : Int) == 39) = false := by
  rw [beq_eq_false_iff_ne]; intro e
  exact h (UInt8.toNat_inj.1 (by show c.toNat = 39; omega))
theorem numberRead_mid (f : Nat) (s : ByteArray) (w : World) (hs : s.size ≤ 4 + f) (hf : (f = 1 ∧ ∃ h : 0 < s.size, s[0] = 45) ∨ (f = 0 ∧ ∃ h : 0 < s.size, s[0] ≠ 45)) : Calls Try.prog 55 #[.string s] w (NumPost s w) := by
  have hl : s.data.toList.length = s.size := by simp
  obtain ⟨N, hN⟩ : ∃ N : Int, N = if f = 1 then -valI (s.data.toList.drop f) else valI (s.data.toList.drop f) := ⟨_, rfl⟩
  have hvb := valI_bd (s.data.toList.drop f) (by rw [List.length_drop, hl]; omega)
  have hNo : Hid (¬ (numB N = true ∧ decI N = s.data.toList) → ∀ m, -9999 ≤ m → m ≤ 9999 → decI m ≠ s.data.toList) := by
    intro hne m h0 h1 e
    apply hne
    have hm : N = m := by
      obtain ⟨a, b⟩ := num_find _ m h0 h1 e
      rcases hf with ⟨rfl, h, h45⟩ | ⟨rfl, h, h45⟩
      · have := a (s.data.toList.drop 1) (by rw [← h45]; exact head_split s h)
        rw [hN, if_pos rfl]; exact this.2.2
      · have := b (fun t ht => h45 (by have := head_split s h; rw [ht] at this; injection this with h1 _; exact h1.symm))
        rw [hN, if_neg (by omega)]; simpa using this.2.2.2
    rw [hm]
    exact ⟨(numB_iff m).2 ⟨h0, h1⟩, e⟩
  rcases hf with ⟨rfl, h, h45⟩ | ⟨rfl, h, h45⟩
  · have d0 : ((s[0].toNat : Int) == 45) = true := by rw [h45]; rfl
    clear h45 hl
    have HVB := Lib.hid hvb
    clear hvb
    have HN := Lib.hid hN
    clear hN
    go_enter Try.func55, Try.ntmps55
    go_wp2
    go_loop [5, 6] (fun nx ix => ∃ (j i : Nat) (V : Int), i ≤ s.size ∧ i = 1 + j ∧ ix = .int .i64 i ∧ nx = .int .i64 V ∧ Hid (V = valI ((s.data.toList.drop 1).take j))) (fun _ ix => s.size - (intOf ix).toNat)
    case atStart => exact ⟨0, 1, 0, by omega, rfl, rfl, rfl, rfl⟩
    case round =>
      obtain ⟨j, i, V, hi, hij, rfl, rfl, HV⟩ := hrel
      have hVb := valI_bd ((s.data.toList.drop 1).take j) (by rw [List.length_take]; omega)
      rw [← HV.out] at hVb
      obtain ⟨hV0, hV1⟩ := hVb
      have HIJ := Lib.hid hij
      clear hij
      by_cases hlt : i < s.size
      · have hby := s[i].toNat_lt
        have hby2 : (s[i].toNat : Int) < 256 := by omega
        have HS : Hid (V * 10 + (s[i].toNat : Int) - 48 = valI ((s.data.toList.drop 1).take (j + 1))) := by
          have e := HIJ.out
          subst e
          show _ = _
          rw [take_drop_snoc s 1 j hlt, valI_snoc, ← HV.out]
        go_wp2
        go_round
        case rel => exact ⟨j + 1, i + 1, _, by omega, by have := HIJ.out; omega, by go_num, rfl, HS.out⟩
        case measure => simp [intOf]; omega
      · have HE : Hid (N = -V) := by
          have := HN.out
          have e := HIJ.out
          show N = _
          rw [this, HV.out, List.take_of_length_le (by simp; omega)]; rfl
        go_wp2_with (first | (go_at_call 43; ((with_reducible refine (numberOk _ _).mono ?_); rintro e w1 ⟨rfl, rfl⟩)) | (go_at_call 47; (refine (numberText _ _ ?_ ?_).mono ?_); (have hnb := (numB_iff _).1 (by assumption); omega); (have hnb := (numB_iff _).1 (by assumption); omega); rintro e w1 ⟨rfl, hb1⟩))
        all_goals (have he := HE.out; subst he)
        · go_ret2
          refine num_no (hNo.out (fun hh => ?_)) (by (repeat (with_reducible first | exact Below.refl _ _ | exact HBD.out | (refine Below.trans ?_ (Below.mono hb1 (by first | omega | (simp; done) | (simp; omega))); clear hb1) | (refine Below.trans ?_ (Below.mono hb2 (by first | omega | (simp; done) | (simp; omega))); clear hb2) | (refine Below.trans ?_ (Below.mono hb3 (by first | omega | (simp; done) | (simp; omega))); clear hb3) | (refine Below.trans ?_ (Below.mono hb4 (by first | omega | (simp; done) | (simp; omega))); clear hb4) | (refine Below.trans ?_ (Below.mono hb5 (by first | omega | (simp; done) | (simp; omega))); clear hb5) | (refine Below.trans ?_ (Below.mono hb6 (by first | omega | (simp; done) | (simp; omega))); clear hb6) | (refine Below.trans ?_ (Below.mono hb7 (by first | omega | (simp; done) | (simp; omega))); clear hb7) | (refine Below.trans ?_ (Below.mono hb8 (by first | omega | (simp; done) | (simp; omega))); clear hb8) | (refine Below.trans ?_ (Below.mono hb9 (by first | omega | (simp; done) | (simp; omega))); clear hb9) | (refine Below.trans ?_ (Below.mono hb10 (by first | omega | (simp; done) | (simp; omega))); clear hb10) | refine Below.alloc ?_ (by first | omega | (simp; done) | (simp; omega)) _ | refine Below.setCell ?_ (by first | omega | (simp; done) | (simp; omega)) _ | refine Below.drew ?_)))
          obtain ⟨_, h2⟩ := hh
          simp_all [Lib.toList_data]
        · go_ret2
          refine num_yes (by assumption) ?_ (by (repeat (with_reducible first | exact Below.refl _ _ | exact HBD.out | (refine Below.trans ?_ (Below.mono hb1 (by first | omega | (simp; done) | (simp; omega))); clear hb1) | (refine Below.trans ?_ (Below.mono hb2 (by first | omega | (simp; done) | (simp; omega))); clear hb2) | (refine Below.trans ?_ (Below.mono hb3 (by first | omega | (simp; done) | (simp; omega))); clear hb3) | (refine Below.trans ?_ (Below.mono hb4 (by first | omega | (simp; done) | (simp; omega))); clear hb4) | (refine Below.trans ?_ (Below.mono hb5 (by first | omega | (simp; done) | (simp; omega))); clear hb5) | (refine Below.trans ?_ (Below.mono hb6 (by first | omega | (simp; done) | (simp; omega))); clear hb6) | (refine Below.trans ?_ (Below.mono hb7 (by first | omega | (simp; done) | (simp; omega))); clear hb7) | (refine Below.trans ?_ (Below.mono hb8 (by first | omega | (simp; done) | (simp; omega))); clear hb8) | (refine Below.trans ?_ (Below.mono hb9 (by first | omega | (simp; done) | (simp; omega))); clear hb9) | (refine Below.trans ?_ (Below.mono hb10 (by first | omega | (simp; done) | (simp; omega))); clear hb10) | refine Below.alloc ?_ (by first | omega | (simp; done) | (simp; omega)) _ | refine Below.setCell ?_ (by first | omega | (simp; done) | (simp; omega)) _ | refine Below.drew ?_)))
          simp_all [Lib.toList_data]
        · go_ret2
          refine num_no (hNo.out (fun hh => ?_)) (by (repeat (with_reducible first | exact Below.refl _ _ | exact HBD.out | (refine Below.trans ?_ (Below.mono hb1 (by first | omega | (simp; done) | (simp; omega))); clear hb1) | (refine Below.trans ?_ (Below.mono hb2 (by first | omega | (simp; done) | (simp; omega))); clear hb2) | (refine Below.trans ?_ (Below.mono hb3 (by first | omega | (simp; done) | (simp; omega))); clear hb3) | (refine Below.trans ?_ (Below.mono hb4 (by first | omega | (simp; done) | (simp; omega))); clear hb4) | (refine Below.trans ?_ (Below.mono hb5 (by first | omega | (simp; done) | (simp; omega))); clear hb5) | (refine Below.trans ?_ (Below.mono hb6 (by first | omega | (simp; done) | (simp; omega))); clear hb6) | (refine Below.trans ?_ (Below.mono hb7 (by first | omega | (simp; done) | (simp; omega))); clear hb7) | (refine Below.trans ?_ (Below.mono hb8 (by first | omega | (simp; done) | (simp; omega))); clear hb8) | (refine Below.trans ?_ (Below.mono hb9 (by first | omega | (simp; done) | (simp; omega))); clear hb9) | (refine Below.trans ?_ (Below.mono hb10 (by first | omega | (simp; done) | (simp; omega))); clear hb10) | refine Below.alloc ?_ (by first | omega | (simp; done) | (simp; omega)) _ | refine Below.setCell ?_ (by first | omega | (simp; done) | (simp; omega)) _ | refine Below.drew ?_)))
          obtain ⟨h1, _⟩ := hh
          simp_all
  · have d0 : ((s[0].toNat : Int) == 45) = false := by exact ne45 _ h45
    clear h45 hl
    have HVB := Lib.hid hvb
    clear hvb
    have HN := Lib.hid hN
    clear hN
    go_enter Try.func55, Try.ntmps55
    go_wp2
    go_loop [5, 6] (fun nx ix => ∃ (j i : Nat) (V : Int), i ≤ s.size ∧ i = 0 + j ∧ ix = .int .i64 i ∧ nx = .int .i64 V ∧ Hid (V = valI ((s.data.toList.drop 0).take j))) (fun _ ix => s.size - (intOf ix).toNat)
    case atStart => exact ⟨0, 0, 0, by omega, rfl, rfl, rfl, rfl⟩
    case round =>
      obtain ⟨j, i, V, hi, hij, rfl, rfl, HV⟩ := hrel
      have hVb := valI_bd ((s.data.toList.drop 0).take j) (by rw [List.length_take]; omega)
      rw [← HV.out] at hVb
      obtain ⟨hV0, hV1⟩ := hVb
      have HIJ := Lib.hid hij
      clear hij
      by_cases hlt : i < s.size
      · have hby := s[i].toNat_lt
        have hby2 : (s[i].toNat : Int) < 256 := by omega
        have HS : Hid (V * 10 + (s[i].toNat : Int) - 48 = valI ((s.data.toList.drop 0).take (j + 1))) := by
          have e := HIJ.out
          subst e
          show _ = _
          rw [take_drop_snoc s 0 j hlt, valI_snoc, ← HV.out]
        go_wp2
        go_round
        case rel => exact ⟨j + 1, i + 1, _, by omega, by have := HIJ.out; omega, by go_num, rfl, HS.out⟩
        case measure => simp [intOf]; omega
      · have HE : Hid (N = V) := by
          have := HN.out
          have e := HIJ.out
          show N = _
          rw [this, HV.out, List.take_of_length_le (by simp; omega)]; rfl
        go_wp2_with (first | (go_at_call 43; ((with_reducible refine (numberOk _ _).mono ?_); rintro e w1 ⟨rfl, rfl⟩)) | (go_at_call 47; (refine (numberText _ _ ?_ ?_).mono ?_); (have hnb := (numB_iff _).1 (by assumption); omega); (have hnb := (numB_iff _).1 (by assumption); omega); rintro e w1 ⟨rfl, hb1⟩))
        all_goals (have he := HE.out; subst he)
        · go_ret2
          refine num_no (hNo.out (fun hh => ?_)) (by (repeat (with_reducible first | exact Below.refl _ _ | exact HBD.out | (refine Below.trans ?_ (Below.mono hb1 (by first | omega | (simp; done) | (simp; omega))); clear hb1) | (refine Below.trans ?_ (Below.mono hb2 (by first | omega | (simp; done) | (simp; omega))); clear hb2) | (refine Below.trans ?_ (Below.mono hb3 (by first | omega | (simp; done) | (simp; omega))); clear hb3) | (refine Below.trans ?_ (Below.mono hb4 (by first | omega | (simp; done) | (simp; omega))); clear hb4) | (refine Below.trans ?_ (Below.mono hb5 (by first | omega | (simp; done) | (simp; omega))); clear hb5) | (refine Below.trans ?_ (Below.mono hb6 (by first | omega | (simp; done) | (simp; omega))); clear hb6) | (refine Below.trans ?_ (Below.mono hb7 (by first | omega | (simp; done) | (simp; omega))); clear hb7) | (refine Below.trans ?_ (Below.mono hb8 (by first | omega | (simp; done) | (simp; omega))); clear hb8) | (refine Below.trans ?_ (Below.mono hb9 (by first | omega | (simp; done) | (simp; omega))); clear hb9) | (refine Below.trans ?_ (Below.mono hb10 (by first | omega | (simp; done) | (simp; omega))); clear hb10) | refine Below.alloc ?_ (by first | omega | (simp; done) | (simp; omega)) _ | refine Below.setCell ?_ (by first | omega | (simp; done) | (simp; omega)) _ | refine Below.drew ?_)))
          obtain ⟨_, h2⟩ := hh
          simp_all [Lib.toList_data]
        · go_ret2
          refine num_yes (by assumption) ?_ (by (repeat (with_reducible first | exact Below.refl _ _ | exact HBD.out | (refine Below.trans ?_ (Below.mono hb1 (by first | omega | (simp; done) | (simp; omega))); clear hb1) | (refine Below.trans ?_ (Below.mono hb2 (by first | omega | (simp; done) | (simp; omega))); clear hb2) | (refine Below.trans ?_ (Below.mono hb3 (by first | omega | (simp; done) | (simp; omega))); clear hb3) | (refine Below.trans ?_ (Below.mono hb4 (by first | omega | (simp; done) | (simp; omega))); clear hb4) | (refine Below.trans ?_ (Below.mono hb5 (by first | omega | (simp; done) | (simp; omega))); clear hb5) | (refine Below.trans ?_ (Below.mono hb6 (by first | omega | (simp; done) | (simp; omega))); clear hb6) | (refine Below.trans ?_ (Below.mono hb7 (by first | omega | (simp; done) | (simp; omega))); clear hb7) | (refine Below.trans ?_ (Below.mono hb8 (by first | omega | (simp; done) | (simp; omega))); clear hb8) | (refine Below.trans ?_ (Below.mono hb9 (by first | omega | (simp; done) | (simp; omega))); clear hb9) | (refine Below.trans ?_ (Below.mono hb10 (by first | omega | (simp; done) | (simp; omega))); clear hb10) | refine Below.alloc ?_ (by first | omega | (simp; done) | (simp; omega)) _ | refine Below.setCell ?_ (by first | omega | (simp; done) | (simp; omega)) _ | refine Below.drew ?_)))
          simp_all [Lib.toList_data]
        · go_ret2
          refine num_no (hNo.out (fun hh => ?_)) (by (repeat (with_reducible first | exact Below.refl _ _ | exact HBD.out | (refine Below.trans ?_ (Below.mono hb1 (by first | omega | (simp; done) | (simp; omega))); clear hb1) | (refine Below.trans ?_ (Below.mono hb2 (by first | omega | (simp; done) | (simp; omega))); clear hb2) | (refine Below.trans ?_ (Below.mono hb3 (by first | omega | (simp; done) | (simp; omega))); clear hb3) | (refine Below.trans ?_ (Below.mono hb4 (by first | omega | (simp; done) | (simp; omega))); clear hb4) | (refine Below.trans ?_ (Below.mono hb5 (by first | omega | (simp; done) | (simp; omega))); clear hb5) | (refine Below.trans ?_ (Below.mono hb6 (by first | omega | (simp; done) | (simp; omega))); clear hb6) | (refine Below.trans ?_ (Below.mono hb7 (by first | omega | (simp; done) | (simp; omega))); clear hb7) | (refine Below.trans ?_ (Below.mono hb8 (by first | omega | (simp; done) | (simp; omega))); clear hb8) | (refine Below.trans ?_ (Below.mono hb9 (by first | omega | (simp; done) | (simp; omega))); clear hb9) | (refine Below.trans ?_ (Below.mono hb10 (by first | omega | (simp; done) | (simp; omega))); clear hb10) | refine Below.alloc ?_ (by first | omega | (simp; done) | (simp; omega)) _ | refine Below.setCell ?_ (by first | omega | (simp; done) | (simp; omega)) _ | refine Below.drew ?_)))
          obtain ⟨h1, _⟩ := hh
          simp_all
theorem numberRead_long (s : ByteArray) (w : World) (hs : s.size ≤ maxLen) (h : 4 < s.size) (h5 : s[0] = 45 → 5 < s.size) : Calls Try.prog 55 #[.string s] w (NumPost s w) := by
  have hno : Hid (∀ m, -9999 ≤ m → m ≤ 9999 → decI m ≠ s.data.toList) := by
    intro m h0 h1 e
    have hl : s.data.toList.length = s.size := by simp
    have hd := head_split s (by omega)
    obtain ⟨a, b⟩ := num_find _ m h0 h1 e
    by_cases hx : s[0] = 45
    · have := a (s.data.toList.drop 1) (by rw [← hx]; exact hd)
      have := h5 hx
      rw [List.length_drop, hl] at *; omega
    · have := b (fun t ht => hx (by rw [ht] at hd; injection hd with h1 _; exact h1.symm)); omega
  unfold maxLen at hs
  by_cases h45 : s[0] = 45
  · have d0 : ((s[0].toNat : Int) == 45) = true := by rw [h45]; rfl
    have h5' := h5 h45
    clear h45 h5
    go_enter Try.func55, Try.ntmps55
    go_wp2
    go_ret2
    exact num_no hno.out (Below.refl _ _)
  · have d0 : ((s[0].toNat : Int) == 45) = false := ne45 _ h45
    clear h45 h5
    go_enter Try.func55, Try.ntmps55
    go_wp2
    go_ret2
    exact num_no hno.out (Below.refl _ _)
theorem numberRead_nil (w : World) : Calls Try.prog 55 #[.string ⟨#[]⟩] w (NumPost ⟨#[]⟩ w) := by
  have hno : Hid (∀ m, -9999 ≤ m → m ≤ 9999 → decI m ≠ (⟨#[]⟩ : ByteArray).data.toList) := by
    intro m h0 h1 e
    obtain ⟨c, t, ec, _⟩ := decI_head m h0 h1
    rw [ec] at e; cases e
  have hd : Hid (decI 0 = [48]) := by show decI 0 = [48]; simp [decI, decL]
  go_enter Try.func55, Try.ntmps55
  go_wp2
  go_loop [5, 6] (fun nx ix => ix = .int .i64 0 ∧ nx = .int .i64 0) (fun _ ix => 0)
  case atStart => exact ⟨rfl, rfl⟩
  case round =>
    obtain ⟨rfl, rfl⟩ := hrel
    have hb : numB 0 = true := by decide
    go_wp2_with (first | (go_at_call 43; ((with_reducible refine (numberOk _ _).mono ?_); rintro e w1 ⟨rfl, rfl⟩)) | (go_at_call 47; (refine (numberText _ _ (by omega) (by omega)).mono ?_); rintro e w1 ⟨rfl, hb1⟩))
    all_goals go_ret2
    all_goals exact num_no hno.out (by (repeat (with_reducible first | exact Below.refl _ _ | exact HBD.out | (refine Below.trans ?_ (Below.mono hb1 (by first | omega | (simp; done) | (simp; omega))); clear hb1) | (refine Below.trans ?_ (Below.mono hb2 (by first | omega | (simp; done) | (simp; omega))); clear hb2) | (refine Below.trans ?_ (Below.mono hb3 (by first | omega | (simp; done) | (simp; omega))); clear hb3) | (refine Below.trans ?_ (Below.mono hb4 (by first | omega | (simp; done) | (simp; omega))); clear hb4) | (refine Below.trans ?_ (Below.mono hb5 (by first | omega | (simp; done) | (simp; omega))); clear hb5) | (refine Below.trans ?_ (Below.mono hb6 (by first | omega | (simp; done) | (simp; omega))); clear hb6) | (refine Below.trans ?_ (Below.mono hb7 (by first | omega | (simp; done) | (simp; omega))); clear hb7) | (refine Below.trans ?_ (Below.mono hb8 (by first | omega | (simp; done) | (simp; omega))); clear hb8) | (refine Below.trans ?_ (Below.mono hb9 (by first | omega | (simp; done) | (simp; omega))); clear hb9) | (refine Below.trans ?_ (Below.mono hb10 (by first | omega | (simp; done) | (simp; omega))); clear hb10) | refine Below.alloc ?_ (by first | omega | (simp; done) | (simp; omega)) _ | refine Below.setCell ?_ (by first | omega | (simp; done) | (simp; omega)) _ | refine Below.drew ?_)))
theorem numberRead (s : ByteArray) (w : World) (hs : s.size ≤ maxLen) : Calls Try.prog 55 #[.string s] w (NumPost s w) := by
  by_cases h0 : 0 < s.size
  · by_cases h45 : s[0] = 45
    · by_cases h5 : 5 < s.size
      · exact numberRead_long s w hs (by omega) (fun _ => h5)
      · exact numberRead_mid 1 s w (by omega) (.inl ⟨rfl, h0, h45⟩)
    · by_cases h4 : 4 < s.size
      · exact numberRead_long s w hs h4 (fun e => absurd e h45)
      · exact numberRead_mid 0 s w (by omega) (.inr ⟨rfl, h0, h45⟩)
  · have : s = ⟨#[]⟩ := by
      apply ByteArray.ext
      have h : s.data.size = 0 := by have : s.size = s.data.size := rfl; omega
      exact Array.eq_empty_of_size_eq_zero h
    subst this
    exact numberRead_nil w
def ReadPost (s : ByteArray) (w : World) (e : Ending) (w' : World) : Prop := ∃ (k n : Int) (t : ByteArray) (b : Bool), e = .returned (.tuple #[.agg #[.int .i64 k, .int .i64 n, .string t], .bool b]) ∧ ReadsV s.data.toList k n t b ∧ Below w.heap.size w w'
theorem read_no {s : ByteArray} {w w' : World} (h : ∀ k n t, ¬ HasText s.data.toList k n t) (hb : Below w.heap.size w w') : ReadPost s w (.returned (.tuple #[.agg #[.int .i64 0, .int .i64 0, .string ⟨#[]⟩], .bool false])) w' := ⟨0, 0, ⟨#[]⟩, false, rfl, .inr ⟨rfl, rfl, rfl, rfl, h⟩, hb⟩
theorem read_yes {s : ByteArray} {k n : Int} {t : ByteArray} {w w' : World} (h : HasText s.data.toList k n t) (hb : Below w.heap.size w w') : ReadPost s w (.returned (.tuple #[.agg #[.int .i64 k, .int .i64 n, .string t], .bool true])) w' := ⟨k, n, t, true, rfl, .inl ⟨rfl, h⟩, hb⟩
theorem ok2_text (t : ByteArray) (h : okB 2 0 t = true) : textL 2 0 t = 39 :: (t.data.toList ++ [39]) := by simp [textL, h]
theorem has39 {l r : List UInt8} {k n : Int} {t : ByteArray} (h : HasText l k n t) (e : l = 39 :: r) : k = 2 ∧ n = 0 ∧ okB 2 0 t = true ∧ l = 39 :: (t.data.toList ++ [39]) := by
  obtain ⟨ho, hx⟩ := h
  subst e
  rcases ok_text k n t ho with ⟨rfl, rfl, rfl, e⟩ | ⟨rfl, a1, a2, rfl, e⟩ | ⟨rfl, rfl, a1, a2, e⟩ | ⟨rfl, rfl, rfl, e⟩ | ⟨rfl, rfl, rfl, e⟩ <;> rw [e] at hx
  · simp at hx
  · obtain ⟨c, tl, ec, c1, c2, c3, c4⟩ := head_num _ a1 a2
    rw [ec] at hx; injection hx with h1 _; exact absurd h1 c2
  · exact ⟨rfl, rfl, ho, hx.symm⟩
  · simp at hx
  · simp at hx
theorem extract_mid (s : ByteArray) : (s.extract 1 (s.size - 1)).data.toList = (s.data.toList.drop 1).take (s.size - 2) := by
  rw [ByteArray.data_extract]
  simp [Array.toList_extract, List.extract]
  omega
theorem quote_split (s : ByteArray) (h2 : 2 ≤ s.size) (h0 : s[0] = 39) (hl : s[s.size - 1] = 39) : s.data.toList = 39 :: ((s.extract 1 (s.size - 1)).data.toList ++ [39]) := by
  have hn : s.data.toList.length = s.size := by simp
  have e := head_split s (by omega)
  rw [h0] at e
  rw [extract_mid]
  have hd : (s.data.toList.drop 1) = (s.data.toList.drop 1).take (s.size - 2) ++ [39] := by
    have := take_drop_snoc s 1 (s.size - 2) (by omega)
    have hix : s[1 + (s.size - 2)]'(by omega) = s[s.size - 1] := by congr 1; omega
    rw [List.take_of_length_le (by rw [List.length_drop, hn]; omega), hix, hl] at this
    exact this
  rw [← hd]; exact e
theorem quote_back (s t : ByteArray) (e : s.data.toList = 39 :: (t.data.toList ++ [39])) : s.size = t.size + 2 ∧ s.extract 1 (s.size - 1) = t := by
  have hn : s.size = t.size + 2 := by
    have := congrArg List.length e
    simp at this; exact this
  refine ⟨hn, ByteArray.ext (Array.toList_inj.1 ?_)⟩
  rw [extract_mid, e, hn]
  simp
theorem quotedRead (s : ByteArray) (w : World) (hs : s.size ≤ maxLen) (h : 0 < s.size) (h0 : s[0] = 39) : Calls Try.prog 54 #[.string s] w (ReadPost s w) := by
  have hh := head_split s h
  rw [h0] at hh
  have hno : Hid (¬ (∃ t : ByteArray, s.data.toList = 39 :: (t.data.toList ++ [39]) ∧ okB 2 0 t = true) → ∀ k n t, ¬ HasText s.data.toList k n t) := by
    intro hne k n t hx
    obtain ⟨_, _, ho, e⟩ := has39 hx hh
    exact hne ⟨t, e, ho⟩
  clear hh
  by_cases h2 : 2 ≤ s.size
  · by_cases hl : s[s.size - 1] = 39
    · have hc : ((s[s.size - 1].toNat : Int) != 39) = false := by rw [hl]; rfl
      have HQ := Lib.hid (quote_split s h2 h0 hl)
      obtain ⟨t, ht⟩ : ∃ t, s.extract 1 (s.size - 1) = t := ⟨_, rfl⟩
      have htz : t.size ≤ maxLen := by rw [← ht, ByteArray.size_extract]; unfold maxLen at *; omega
      have HT := Lib.hid (fun t' => quote_back s t')
      rw [ht] at HQ HT
      unfold maxLen at hs
      have hte := ht
      clear h0 hl
      cases hok : okB 2 0 t
      · go_enter Try.func54, Try.ntmps54
        go_wp2_with ((go_at_call 16; ((with_reducible refine (valueOk _ _ _ _ (by assumption)).mono ?_); (try (have hc10 := hc9; have hf10 := hf9; have hz10 := hz9; have hb10 := hb9; have hya_10 := hya_9; have hyb_10 := hyb_9; clear hc9 hf9 hz9 hb9 hya_9 hyb_9)); (try (have hc9 := hc8; have hf9 := hf8; have hz9 := hz8; have hb9 := hb8; have hya_9 := hya_8; have hyb_9 := hyb_8; clear hc8 hf8 hz8 hb8 hya_8 hyb_8)); (try (have hc8 := hc7; have hf8 := hf7; have hz8 := hz7; have hb8 := hb7; have hya_8 := hya_7; have hyb_8 := hyb_7; clear hc7 hf7 hz7 hb7 hya_7 hyb_7)); (try (have hc7 := hc6; have hf7 := hf6; have hz7 := hz6; have hb7 := hb6; have hya_7 := hya_6; have hyb_7 := hyb_6; clear hc6 hf6 hz6 hb6 hya_6 hyb_6)); (try (have hc6 := hc5; have hf6 := hf5; have hz6 := hz5; have hb6 := hb5; have hya_6 := hya_5; have hyb_6 := hyb_5; clear hc5 hf5 hz5 hb5 hya_5 hyb_5)); (try (have hc5 := hc4; have hf5 := hf4; have hz5 := hz4; have hb5 := hb4; have hya_5 := hya_4; have hyb_5 := hyb_4; clear hc4 hf4 hz4 hb4 hya_4 hyb_4)); (try (have hc4 := hc3; have hf4 := hf3; have hz4 := hz3; have hb4 := hb3; have hya_4 := hya_3; have hyb_4 := hyb_3; clear hc3 hf3 hz3 hb3 hya_3 hyb_3)); (try (have hc3 := hc2; have hf3 := hf2; have hz3 := hz2; have hb3 := hb2; have hya_3 := hya_2; have hyb_3 := hyb_2; clear hc2 hf2 hz2 hb2 hya_2 hyb_2)); (try (have hc2 := hc1; have hf2 := hf1; have hz2 := hz1; have hb2 := hb1; have hya_2 := hya_1; have hyb_2 := hyb_1; clear hc1 hf1 hz1 hb1 hya_1 hyb_1)); rintro e w1 ⟨rfl, hb1⟩; obtain ⟨hc1, hf1⟩ := bcell hb1; (try simp only [World.size_drew, World.cell?_drew, World.frozen?_drew] at hc1 hf1); have hz1 := hb1.size; (try simp at hz1); have hya_1 : w.heap.size < w1.heap.size := (by omega); have hyb_1 : w.heap.size + 1 < w1.heap.size := (by omega))))
        have z0 : w1.cell? ⟨w.heap.size, 0, none⟩ = some (.int .i64 0) := (by simp [go_sem, *]); have z1 : w1.cell? ⟨w.heap.size, 1, none⟩ = some (.int .i64 0) := (by simp [go_sem, *]); have z2 : w1.cell? ⟨w.heap.size, 2, none⟩ = some (.string ⟨#[]⟩) := (by simp [go_sem, *])
        refine bodyPost_ret (v := .tuple #[.agg #[.int .i64 0, .int .i64 0, .string ⟨#[]⟩], .bool false]) (by simp [results, Try.results54, go_sem, z0, z1, z2]) rfl (read_no (hno.out ?_) (by (repeat (with_reducible first | exact Below.refl _ _ | exact HBD.out | (refine Below.trans ?_ (Below.mono hb1 (by first | omega | (simp; done) | (simp; omega))); clear hb1) | (refine Below.trans ?_ (Below.mono hb2 (by first | omega | (simp; done) | (simp; omega))); clear hb2) | (refine Below.trans ?_ (Below.mono hb3 (by first | omega | (simp; done) | (simp; omega))); clear hb3) | (refine Below.trans ?_ (Below.mono hb4 (by first | omega | (simp; done) | (simp; omega))); clear hb4) | (refine Below.trans ?_ (Below.mono hb5 (by first | omega | (simp; done) | (simp; omega))); clear hb5) | (refine Below.trans ?_ (Below.mono hb6 (by first | omega | (simp; done) | (simp; omega))); clear hb6) | (refine Below.trans ?_ (Below.mono hb7 (by first | omega | (simp; done) | (simp; omega))); clear hb7) | (refine Below.trans ?_ (Below.mono hb8 (by first | omega | (simp; done) | (simp; omega))); clear hb8) | (refine Below.trans ?_ (Below.mono hb9 (by first | omega | (simp; done) | (simp; omega))); clear hb9) | (refine Below.trans ?_ (Below.mono hb10 (by first | omega | (simp; done) | (simp; omega))); clear hb10) | refine Below.alloc ?_ (by first | omega | (simp; done) | (simp; omega)) _ | refine Below.setCell ?_ (by first | omega | (simp; done) | (simp; omega)) _ | refine Below.drew ?_))))
        rintro ⟨t', e', o'⟩
        have := (HT.out t' e').2
        rw [← this, hok] at o'; cases o'
      · go_enter Try.func54, Try.ntmps54
        go_wp2_with ((go_at_call 16; ((with_reducible refine (valueOk _ _ _ _ (by assumption)).mono ?_); (try (have hc10 := hc9; have hf10 := hf9; have hz10 := hz9; have hb10 := hb9; have hya_10 := hya_9; have hyb_10 := hyb_9; clear hc9 hf9 hz9 hb9 hya_9 hyb_9)); (try (have hc9 := hc8; have hf9 := hf8; have hz9 := hz8; have hb9 := hb8; have hya_9 := hya_8; have hyb_9 := hyb_8; clear hc8 hf8 hz8 hb8 hya_8 hyb_8)); (try (have hc8 := hc7; have hf8 := hf7; have hz8 := hz7; have hb8 := hb7; have hya_8 := hya_7; have hyb_8 := hyb_7; clear hc7 hf7 hz7 hb7 hya_7 hyb_7)); (try (have hc7 := hc6; have hf7 := hf6; have hz7 := hz6; have hb7 := hb6; have hya_7 := hya_6; have hyb_7 := hyb_6; clear hc6 hf6 hz6 hb6 hya_6 hyb_6)); (try (have hc6 := hc5; have hf6 := hf5; have hz6 := hz5; have hb6 := hb5; have hya_6 := hya_5; have hyb_6 := hyb_5; clear hc5 hf5 hz5 hb5 hya_5 hyb_5)); (try (have hc5 := hc4; have hf5 := hf4; have hz5 := hz4; have hb5 := hb4; have hya_5 := hya_4; have hyb_5 := hyb_4; clear hc4 hf4 hz4 hb4 hya_4 hyb_4)); (try (have hc4 := hc3; have hf4 := hf3; have hz4 := hz3; have hb4 := hb3; have hya_4 := hya_3; have hyb_4 := hyb_3; clear hc3 hf3 hz3 hb3 hya_3 hyb_3)); (try (have hc3 := hc2; have hf3 := hf2; have hz3 := hz2; have hb3 := hb2; have hya_3 := hya_2; have hyb_3 := hyb_2; clear hc2 hf2 hz2 hb2 hya_2 hyb_2)); (try (have hc2 := hc1; have hf2 := hf1; have hz2 := hz1; have hb2 := hb1; have hya_2 := hya_1; have hyb_2 := hyb_1; clear hc1 hf1 hz1 hb1 hya_1 hyb_1)); rintro e w1 ⟨rfl, hb1⟩; obtain ⟨hc1, hf1⟩ := bcell hb1; (try simp only [World.size_drew, World.cell?_drew, World.frozen?_drew] at hc1 hf1); have hz1 := hb1.size; (try simp at hz1); have hya_1 : w.heap.size < w1.heap.size := (by omega); have hyb_1 : w.heap.size + 1 < w1.heap.size := (by omega))))
        have z0 : w1.cell? ⟨w.heap.size, 0, none⟩ = some (.int .i64 0) := (by simp [go_sem, *]); have z1 : w1.cell? ⟨w.heap.size, 1, none⟩ = some (.int .i64 0) := (by simp [go_sem, *]); have z2 : w1.cell? ⟨w.heap.size, 2, none⟩ = some (.string ⟨#[]⟩) := (by simp [go_sem, *])
        exact bodyPost_ret (v := .tuple #[.agg #[.int .i64 2, .int .i64 0, .string t], .bool true]) (by simp [results, Try.results54, go_sem, z0, z1, z2]) rfl (read_yes ⟨hok, (ok2_text t hok).trans HQ.out.symm⟩ (by (repeat (with_reducible first | exact Below.refl _ _ | exact HBD.out | (refine Below.trans ?_ (Below.mono hb1 (by first | omega | (simp; done) | (simp; omega))); clear hb1) | (refine Below.trans ?_ (Below.mono hb2 (by first | omega | (simp; done) | (simp; omega))); clear hb2) | (refine Below.trans ?_ (Below.mono hb3 (by first | omega | (simp; done) | (simp; omega))); clear hb3) | (refine Below.trans ?_ (Below.mono hb4 (by first | omega | (simp; done) | (simp; omega))); clear hb4) | (refine Below.trans ?_ (Below.mono hb5 (by first | omega | (simp; done) | (simp; omega))); clear hb5) | (refine Below.trans ?_ (Below.mono hb6 (by first | omega | (simp; done) | (simp; omega))); clear hb6) | (refine Below.trans ?_ (Below.mono hb7 (by first | omega | (simp; done) | (simp; omega))); clear hb7) | (refine Below.trans ?_ (Below.mono hb8 (by first | omega | (simp; done) | (simp; omega))); clear hb8) | (refine Below.trans ?_ (Below.mono hb9 (by first | omega | (simp; done) | (simp; omega))); clear hb9) | (refine Below.trans ?_ (Below.mono hb10 (by first | omega | (simp; done) | (simp; omega))); clear hb10) | refine Below.alloc ?_ (by first | omega | (simp; done) | (simp; omega)) _ | refine Below.setCell ?_ (by first | omega | (simp; done) | (simp; omega)) _ | refine Below.drew ?_))))
    · have hc : ((s[s.size - 1].toNat : Int) != 39) = true := by rw [bne_iff_ne]; intro e; exact hl (UInt8.toNat_inj.1 (by show s[s.size - 1].toNat = 39; omega))
      have hno2 := Lib.hid (hno.out (by
        rintro ⟨t, e, _⟩
        obtain ⟨a, _⟩ := quote_back s t e
        apply hl
        have hn : s.data.toList.length = s.size := by simp
        have : s.data.toList[s.size - 1]'(by rw [hn]; omega) = 39 := by simp [e, a]
        rw [← this]; rfl))
      clear hno h0 hl
      unfold maxLen at hs
      go_enter Try.func54, Try.ntmps54
      go_wp2
      exact bodyPost_ret (v := .tuple #[.agg #[.int .i64 0, .int .i64 0, .string ⟨#[]⟩], .bool false]) (by simp [results, Try.results54, go_sem]) rfl (read_no hno2.out (by (repeat (with_reducible first | exact Below.refl _ _ | exact HBD.out | (refine Below.trans ?_ (Below.mono hb1 (by first | omega | (simp; done) | (simp; omega))); clear hb1) | (refine Below.trans ?_ (Below.mono hb2 (by first | omega | (simp; done) | (simp; omega))); clear hb2) | (refine Below.trans ?_ (Below.mono hb3 (by first | omega | (simp; done) | (simp; omega))); clear hb3) | (refine Below.trans ?_ (Below.mono hb4 (by first | omega | (simp; done) | (simp; omega))); clear hb4) | (refine Below.trans ?_ (Below.mono hb5 (by first | omega | (simp; done) | (simp; omega))); clear hb5) | (refine Below.trans ?_ (Below.mono hb6 (by first | omega | (simp; done) | (simp; omega))); clear hb6) | (refine Below.trans ?_ (Below.mono hb7 (by first | omega | (simp; done) | (simp; omega))); clear hb7) | (refine Below.trans ?_ (Below.mono hb8 (by first | omega | (simp; done) | (simp; omega))); clear hb8) | (refine Below.trans ?_ (Below.mono hb9 (by first | omega | (simp; done) | (simp; omega))); clear hb9) | (refine Below.trans ?_ (Below.mono hb10 (by first | omega | (simp; done) | (simp; omega))); clear hb10) | refine Below.alloc ?_ (by first | omega | (simp; done) | (simp; omega)) _ | refine Below.setCell ?_ (by first | omega | (simp; done) | (simp; omega)) _ | refine Below.drew ?_))))
  · have hno2 := Lib.hid (hno.out (by
      rintro ⟨t, e, _⟩
      obtain ⟨a, _⟩ := quote_back s t e
      omega))
    clear hno h0
    unfold maxLen at hs
    go_enter Try.func54, Try.ntmps54
    go_wp2
    exact bodyPost_ret (v := .tuple #[.agg #[.int .i64 0, .int .i64 0, .string ⟨#[]⟩], .bool false]) (by simp [results, Try.results54, go_sem]) rfl (read_no hno2.out (by (repeat (with_reducible first | exact Below.refl _ _ | exact HBD.out | (refine Below.trans ?_ (Below.mono hb1 (by first | omega | (simp; done) | (simp; omega))); clear hb1) | (refine Below.trans ?_ (Below.mono hb2 (by first | omega | (simp; done) | (simp; omega))); clear hb2) | (refine Below.trans ?_ (Below.mono hb3 (by first | omega | (simp; done) | (simp; omega))); clear hb3) | (refine Below.trans ?_ (Below.mono hb4 (by first | omega | (simp; done) | (simp; omega))); clear hb4) | (refine Below.trans ?_ (Below.mono hb5 (by first | omega | (simp; done) | (simp; omega))); clear hb5) | (refine Below.trans ?_ (Below.mono hb6 (by first | omega | (simp; done) | (simp; omega))); clear hb6) | (refine Below.trans ?_ (Below.mono hb7 (by first | omega | (simp; done) | (simp; omega))); clear hb7) | (refine Below.trans ?_ (Below.mono hb8 (by first | omega | (simp; done) | (simp; omega))); clear hb8) | (refine Below.trans ?_ (Below.mono hb9 (by first | omega | (simp; done) | (simp; omega))); clear hb9) | (refine Below.trans ?_ (Below.mono hb10 (by first | omega | (simp; done) | (simp; omega))); clear hb10) | refine Below.alloc ?_ (by first | omega | (simp; done) | (simp; omega)) _ | refine Below.setCell ?_ (by first | omega | (simp; done) | (simp; omega)) _ | refine Below.drew ?_))))
end Go.Proofs.Ytcaggcehcdikmaa.Val
