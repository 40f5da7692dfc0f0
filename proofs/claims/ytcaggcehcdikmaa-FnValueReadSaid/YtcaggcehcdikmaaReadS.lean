/- What l1Digits and ValueRead (spec) leave. -/
import Derived.Test.YtcaggcehcdikmaaRead2
namespace Go.Proofs.Ytcaggcehcdikmaa.Val
open Go.RowKit
open Classical in
/-- The number of a text of one to four digits without leading zeros; -1 for other texts. -/
noncomputable def digV (l : List UInt8) : Int := if 1 ≤ l.length ∧ l.length ≤ 4 ∧ (∀ c ∈ l, isDig c) ∧ (∀ t, l = 48 :: t → t = []) then valI l else -1
theorem digV_bd (l : List UInt8) : -1 ≤ digV l ∧ digV l ≤ 300000 := by
  unfold digV; split
  · rename_i h
    have := valI_bd l h.2.1
    have hp : ∀ (l : List UInt8) (a : Int), (∀ c ∈ l, isDig c) → 0 ≤ a → 0 ≤ l.foldl (fun n c => n * 10 + (c.toNat : Int) - 48) a := by
      intro l
      induction l with
      | nil => intro a _ h; exact h
      | cons c l ih => intro a h ha; exact ih _ (fun d hd => h d (by simp [hd])) (by have := h c (by simp); unfold isDig at this; show 0 ≤ a * 10 + (c.toNat : Int) - 48; omega)
    have h0 : 0 ≤ valI l := hp l 0 h.2.2.1 (by omega)
    omega
  · omega
theorem digV_dec (m : Nat) (hm : m ≤ 9999) : digV (decL m) = m := by
  obtain ⟨v, hd, l1, l4, c, t, e, hc⟩ := decL_facts m hm
  have h4 : ∀ t', decL m = 48 :: t' → t' = [] := by
    intro t' e'
    rw [e] at e'
    injection e' with h1 h2
    subst h2
    by_cases ht : t = []
    · exact ht
    · exact absurd h1 (hc ht)
  unfold digV
  rw [if_pos ⟨l1, l4, hd, h4⟩, v]
set_option maxRecDepth 100000 in
theorem l1Digits (s : ByteArray) (w : World) (hs : s.size ≤ maxLen) : Calls Try.prog 56 #[.string s] w fun e w' => e = .returned (.int .i64 (digV s.data.toList)) ∧ w = w' := by
  have hl : s.data.toList.length = s.size := by simp
  unfold maxLen at hs
  by_cases hz : 1 ≤ s.size ∧ s.size ≤ 4
  · obtain ⟨hz1, hz4⟩ := hz
    have hp : 0 < s.size := hz1
    by_cases h48 : 1 < s.size ∧ s[0] = 48
    · obtain ⟨hz2, h48⟩ := h48
      have HD : Hid (digV s.data.toList = -1) := by
        show digV _ = -1
        unfold digV; rw [if_neg]
        rintro ⟨_, _, _, h⟩
        have e := head_split s hp
        rw [h48] at e
        have := congrArg List.length (h _ e)
        rw [List.length_drop, hl] at this; simp at this; omega
      have d0 : ((s[0].toNat : Int) == 48) = true := by rw [h48]; rfl
      clear h48 hl
      go_enter Try.func56, Try.ntmps56
      go_wp2_with ((go_at_call 45; ((with_reducible refine (l1In _ _ _ _).mono ?_); rintro e w1 ⟨rfl, rfl⟩)))
      go_ret
      exact ⟨retI HD.out.symm, rfl⟩
    · have hcond : Hid (∀ t, s.data.toList = 48 :: t → t = []) := by
        intro t e
        by_cases h1 : 1 < s.size
        · exfalso; apply h48; refine ⟨h1, ?_⟩
          have := head_split s hp
          rw [e] at this; injection this with a _; exact a.symm
        · have := congrArg List.length e
          rw [hl] at this; simp at this
          exact List.eq_nil_of_length_eq_zero (by omega)
      have HX : Hid ((∀ c ∈ s.data.toList, isDig c) → digV s.data.toList = valI s.data.toList) := fun h => by
        unfold digV; rw [if_pos ⟨by omega, by omega, h, hcond.out⟩]
      have HY : Hid ((∃ c ∈ s.data.toList, ¬ isDig c) → digV s.data.toList = -1) := fun ⟨c, h1, h2⟩ => by
        unfold digV; rw [if_neg]; rintro ⟨_, _, h, _⟩; exact h2 (h c h1)
      have hd0 : 1 < s.size → ((s[0].toNat : Int) == 48) = false := fun h1 => by
        rw [beq_eq_false_iff_ne]; intro e
        exact h48 ⟨h1, UInt8.toNat_inj.1 (by show s[0].toNat = 48; omega)⟩
      have HD0 := Lib.hid hd0
      clear h48 hl hcond hd0
      have hcase : 1 < s.size ∨ s.size = 1 := by omega
      rcases hcase with h1 | h1
      · have d0 := HD0.out h1
        go_enter Try.func56, Try.ntmps56
        go_wp2_with ((go_at_call 45; ((with_reducible refine (l1In _ _ _ _).mono ?_); rintro e w1 ⟨rfl, rfl⟩)))
        go_loop [3, 4] (fun nx ix => ∃ (i : Nat) (V : Int), i ≤ s.size ∧ ix = .int .i64 i ∧ nx = .int .i64 V ∧ Hid (V = valI (s.data.toList.take i)) ∧ Hid (∀ c ∈ s.data.toList.take i, isDig c)) (fun _ ix => s.size - (intOf ix).toNat)
        case atStart => exact ⟨0, 0, by omega, rfl, rfl, rfl, by intro c hc; simp at hc⟩
        case round =>
          obtain ⟨i, V, hi, rfl, rfl, HV, HC⟩ := hrel
          have hVb := valI_bd (s.data.toList.take i) (by rw [List.length_take]; omega)
          rw [← HV.out] at hVb
          obtain ⟨hV0, hV1⟩ := hVb
          by_cases hlt : i < s.size
          · have hby := s[i].toNat_lt
            have hby2 : (s[i].toNat : Int) < 256 := by omega
            have HS : Hid (V * 10 + (s[i].toNat : Int) - 48 = valI (s.data.toList.take (i + 1))) := by
              show _ = _
              rw [take_snoc s i hlt, valI_snoc, ← HV.out]
            have HM : Hid (s[i] ∈ s.data.toList) := by
              show s[i] ∈ s.data.toList
              exact Array.mem_toList_iff.2 (Array.getElem_mem hlt)
            have HN : Hid (isDig s[i] → ∀ c ∈ s.data.toList.take (i + 1), isDig c) := by
              intro hd c hc
              rw [take_snoc s i hlt] at hc
              rcases List.mem_append.1 hc with hc | hc
              · exact HC.out c hc
              · have : c = s[i] := by simpa using hc
                rw [this]; exact hd
            go_wp2
            · go_ret
              exact ⟨retI (HY.out ⟨_, HM.out, by unfold isDig; omega⟩).symm, rfl⟩
            · go_round
              case rel => exact ⟨i + 1, _, by omega, by go_num, rfl, by show _ = _; rw [← HS.out]; omega, HN.out (by unfold isDig; omega)⟩
              case measure => simp [intOf]; omega
            · go_ret
              exact ⟨retI (HY.out ⟨_, HM.out, by unfold isDig; omega⟩).symm, rfl⟩
          · have HE : Hid (V = digV s.data.toList) := by
              show V = _
              have ht : s.data.toList.take i = s.data.toList := List.take_of_length_le (by simp; omega)
              have h1 := HV.out
              have h2 := HC.out
              rw [ht] at h1 h2
              rw [HX.out h2, h1]
            go_wp2
            go_ret
            exact ⟨retI HE.out, rfl⟩
      · have h1' : ¬ (1 : Int) < s.size := by omega
        go_enter Try.func56, Try.ntmps56
        go_wp2_with ((go_at_call 45; ((with_reducible refine (l1In _ _ _ _).mono ?_); rintro e w1 ⟨rfl, rfl⟩)))
        go_loop [3, 4] (fun nx ix => ∃ (i : Nat) (V : Int), i ≤ s.size ∧ ix = .int .i64 i ∧ nx = .int .i64 V ∧ Hid (V = valI (s.data.toList.take i)) ∧ Hid (∀ c ∈ s.data.toList.take i, isDig c)) (fun _ ix => s.size - (intOf ix).toNat)
        case atStart => exact ⟨0, 0, by omega, rfl, rfl, rfl, by intro c hc; simp at hc⟩
        case round =>
          obtain ⟨i, V, hi, rfl, rfl, HV, HC⟩ := hrel
          have hVb := valI_bd (s.data.toList.take i) (by rw [List.length_take]; omega)
          rw [← HV.out] at hVb
          obtain ⟨hV0, hV1⟩ := hVb
          by_cases hlt : i < s.size
          · have hby := s[i].toNat_lt
            have hby2 : (s[i].toNat : Int) < 256 := by omega
            have HS : Hid (V * 10 + (s[i].toNat : Int) - 48 = valI (s.data.toList.take (i + 1))) := by
              show _ = _
              rw [take_snoc s i hlt, valI_snoc, ← HV.out]
            have HM : Hid (s[i] ∈ s.data.toList) := by
              show s[i] ∈ s.data.toList
              exact Array.mem_toList_iff.2 (Array.getElem_mem hlt)
            have HN : Hid (isDig s[i] → ∀ c ∈ s.data.toList.take (i + 1), isDig c) := by
              intro hd c hc
              rw [take_snoc s i hlt] at hc
              rcases List.mem_append.1 hc with hc | hc
              · exact HC.out c hc
              · have : c = s[i] := by simpa using hc
                rw [this]; exact hd
            go_wp2
            · go_ret
              exact ⟨retI (HY.out ⟨_, HM.out, by unfold isDig; omega⟩).symm, rfl⟩
            · go_round
              case rel => exact ⟨i + 1, _, by omega, by go_num, rfl, by show _ = _; rw [← HS.out]; omega, HN.out (by unfold isDig; omega)⟩
              case measure => simp [intOf]; omega
            · go_ret
              exact ⟨retI (HY.out ⟨_, HM.out, by unfold isDig; omega⟩).symm, rfl⟩
          · have HE : Hid (V = digV s.data.toList) := by
              show V = _
              have ht : s.data.toList.take i = s.data.toList := List.take_of_length_le (by simp; omega)
              have h1 := HV.out
              have h2 := HC.out
              rw [ht] at h1 h2
              rw [HX.out h2, h1]
            go_wp2
            go_ret
            exact ⟨retI HE.out, rfl⟩
  · have HD : Hid (digV s.data.toList = -1) := by
      show digV _ = -1
      unfold digV; rw [if_neg]
      rintro ⟨h1, h2, _⟩; rw [hl] at h1 h2; exact hz ⟨h1, h2⟩
    clear hl
    go_enter Try.func56, Try.ntmps56
    go_wp2_with ((go_at_call 45; ((with_reducible refine (l1In _ _ _ _).mono ?_); rintro e w1 ⟨rfl, rfl⟩)))
    go_ret
    exact ⟨retI HD.out.symm, rfl⟩
end Go.Proofs.Ytcaggcehcdikmaa.Val
