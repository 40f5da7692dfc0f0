/- What ValueRead (spec) leaves. -/
import Derived.Test.YtcaggcehcdikmaaReadS
namespace Go.Proofs.Ytcaggcehcdikmaa.Val
open Go.RowKit
theorem s_yes {s TT t : ByteArray} {k n : Int} (hTT : (⟨(textL k n t).toArray⟩ : ByteArray) = TT) (hq : (TT.toList == s.toList) = true) (hne : okB k n t = false → s.data.toList ≠ []) : HasText s.data.toList k n t := by
  have e : textL k n t = s.data.toList := by
    rw [Lib.toList_data, Lib.toList_data, ← hTT] at hq; simpa using hq
  cases hok : okB k n t
  · have : textL k n t = [] := by simp [textL, hok]
    exact absurd (e.symm.trans this) (hne hok)
  · exact ⟨hok, e⟩
theorem s_no {s TT t : ByteArray} {k n : Int} (hTT : (⟨(textL k n t).toArray⟩ : ByteArray) = TT) (hq : (TT.toList == s.toList) = false) (hc : ∀ k' n' t', HasText s.data.toList k' n' t' → k' = k ∧ n' = n ∧ t' = t) : ∀ k n t, ¬ HasText s.data.toList k n t := by
  intro k' n' t' h
  obtain ⟨rfl, rfl, rfl⟩ := hc k' n' t' h
  have e := h.2
  rw [Lib.toList_data, Lib.toList_data, ← hTT] at hq
  simp [e] at hq
theorem has_other {l : List UInt8} {k n : Int} {t : ByteArray} (h : HasText l k n t) (h0 : l ≠ [110, 111, 110, 101]) (h1 : l ≠ [102, 97, 108, 115, 101]) (h2 : l ≠ [116, 114, 117, 101]) (h3 : ∀ r, l = 39 :: r → r = []) : k = 1 ∧ t = ⟨#[]⟩ ∧ -9999 ≤ n ∧ n ≤ 9999 ∧ decI n = l := by
  obtain ⟨ho, hx⟩ := h
  rcases ok_text k n t ho with ⟨rfl, rfl, rfl, e⟩ | ⟨rfl, a1, a2, rfl, e⟩ | ⟨rfl, rfl, a1, a2, e⟩ | ⟨rfl, rfl, rfl, e⟩ | ⟨rfl, rfl, rfl, e⟩ <;> rw [e] at hx
  · exact absurd hx.symm h0
  · exact ⟨rfl, rfl, a1, a2, hx⟩
  · have := h3 _ hx.symm; simp at this
  · exact absurd hx.symm h1
  · exact absurd hx.symm h2
theorem digV_nil : digV [] = -1 := by unfold digV; rw [if_neg]; rintro ⟨h, _⟩; simp at h
theorem extract_tail (s : ByteArray) : (s.extract 1 s.size).data.toList = s.data.toList.drop 1 := by
  rw [ByteArray.data_extract]
  simp [Array.toList_extract, List.extract]
  exact List.take_of_length_le (by simp)
theorem size_nil {s : ByteArray} (h : s.data.toList = []) : s.size = 0 := by
  have := congrArg List.length h
  simpa using this
/-- The default case. -/
theorem readS_num (s : ByteArray) (w : World) (hs : s.size ≤ maxLen) (h0 : s.data.toList ≠ [110, 111, 110, 101]) (h1 : s.data.toList ≠ [102, 97, 108, 115, 101]) (h2 : s.data.toList ≠ [116, 114, 117, 101]) (h3 : s.size ≤ 1 ∨ ∃ h : 0 < s.size, s[0] ≠ 39 ∧ s[0] ≠ 45 ∧ 1 < s.size) : Calls Try.prog 28 #[.string s] w (ReadPost s w) := by
  have e0 := neL s _ h0
  have e1 := neL s _ h1
  have e2 := neL s _ h2
  obtain ⟨D, hD⟩ : ∃ D, digV s.data.toList = D := ⟨_, rfl⟩
  have hb := digV_bd s.data.toList
  have hC := Lib.hid (fun w => l1Digits s w hs)
  rw [hD] at hb hC
  obtain ⟨hD0, hD1⟩ := hb
  have HK : Hid (∀ k n t, HasText s.data.toList k n t → k = 1 ∧ n = D ∧ t = ⟨#[]⟩ ∧ 0 ≤ D) := by
    intro k n t h
    have hlen : s.data.toList.length = s.size := by simp
    obtain ⟨rfl, rfl, a1, a2, e⟩ := has_other h h0 h1 h2 (fun r er => by
      rcases h3 with h3 | ⟨hp, h39, _⟩
      · have := congrArg List.length er; rw [hlen] at this; simp at this; exact List.eq_nil_of_length_eq_zero (by omega)
      · have := head_split s hp; rw [er] at this; injection this with x _; exact absurd x.symm h39)
    have hn : 0 ≤ n := by
      rcases Int.lt_or_le n 0 with hlt | hle
      · exfalso
        rw [decI_neg n hlt] at e
        rcases h3 with h3 | ⟨hp, _, h45, _⟩
        · have := (decL_facts n.natAbs (by omega)).2.2.1
          have h5 := congrArg List.length e
          rw [hlen] at h5; simp at h5; omega
        · have := head_split s hp; rw [← e] at this; injection this with x _; exact h45 x.symm
      · exact hle
    rw [decI_pos n hn] at e
    have : digV s.data.toList = n.natAbs := by rw [← e]; exact digV_dec _ (by omega)
    rw [hD] at this
    exact ⟨rfl, by omega, rfl, by omega⟩
  have HNE : Hid (0 ≤ D → s.data.toList ≠ []) := by
    intro h e; rw [e, digV_nil] at hD; omega
  have ok0 : okB 1 0 ⟨#[]⟩ = true := by decide +kernel
  clear hD h0 h1 h2
  rcases h3 with h3 | ⟨hp, h39, h45, hgt⟩
  · unfold maxLen at hs
    go_enter Try.func28, Try.ntmps28
    go_wp2_with ((go_at_call 56; ((with_reducible refine (hC.out _).mono ?_); rintro e w1 ⟨rfl, rfl⟩)))
    · refine (valueTextS _ _ _ _ (by decide)).mono ?_
      rintro e w1 ⟨rfl, hb1⟩
      obtain ⟨hc1, hf1⟩ := bcell hb1
      have hz1 := hb1.size
      (try simp at hz1)
      have hya_1 : w.heap.size < w1.heap.size := by omega
      have hyb_1 : w.heap.size + 1 < w1.heap.size := by omega
      generalize hTT : (⟨(textL (1) (0) ⟨#[]⟩).toArray⟩ : ByteArray) = TT
      have HTT := Lib.hid hTT
      clear hTT
      cases hq : (TT.toList == s.toList)
      · have HN := Lib.hid (s_no HTT.out hq (fun k n t h => by obtain ⟨_, _, _, hh⟩ := HK.out k n t h; omega))
        go_wp2
        have z0 : w1.cell? ⟨w.heap.size, 0, none⟩ = some (.int .i64 0) := (by simp [go_sem, *]); have z1 : w1.cell? ⟨w.heap.size, 1, none⟩ = some (.int .i64 0) := (by simp [go_sem, *]); have z2 : w1.cell? ⟨w.heap.size, 2, none⟩ = some (.string ⟨#[]⟩) := (by simp [go_sem, *])
        exact bodyPost_ret (v := .tuple #[.agg #[.int .i64 0, .int .i64 0, .string ⟨#[]⟩], .bool false]) (by simp [results, Try.results28, go_sem, z0, z1, z2]) rfl (read_no HN.out (by (repeat (with_reducible first | exact Below.refl _ _ | exact HBD.out | (refine Below.trans ?_ (Below.mono hb1 (by first | omega | (simp; done) | (simp; omega))); clear hb1) | (refine Below.trans ?_ (Below.mono hb2 (by first | omega | (simp; done) | (simp; omega))); clear hb2) | (refine Below.trans ?_ (Below.mono hb3 (by first | omega | (simp; done) | (simp; omega))); clear hb3) | (refine Below.trans ?_ (Below.mono hb4 (by first | omega | (simp; done) | (simp; omega))); clear hb4) | (refine Below.trans ?_ (Below.mono hb5 (by first | omega | (simp; done) | (simp; omega))); clear hb5) | (refine Below.trans ?_ (Below.mono hb6 (by first | omega | (simp; done) | (simp; omega))); clear hb6) | (refine Below.trans ?_ (Below.mono hb7 (by first | omega | (simp; done) | (simp; omega))); clear hb7) | (refine Below.trans ?_ (Below.mono hb8 (by first | omega | (simp; done) | (simp; omega))); clear hb8) | (refine Below.trans ?_ (Below.mono hb9 (by first | omega | (simp; done) | (simp; omega))); clear hb9) | (refine Below.trans ?_ (Below.mono hb10 (by first | omega | (simp; done) | (simp; omega))); clear hb10) | refine Below.alloc ?_ (by first | omega | (simp; done) | (simp; omega)) _ | refine Below.setCell ?_ (by first | omega | (simp; done) | (simp; omega)) _ | refine Below.drew ?_))))
      · have HY := Lib.hid (s_yes HTT.out hq (fun hf => by rw [ok0] at hf; cases hf))
        go_wp2
        have z0 : w1.cell? ⟨w.heap.size, 0, none⟩ = some (.int .i64 0) := (by simp [go_sem, *]); have z1 : w1.cell? ⟨w.heap.size, 1, none⟩ = some (.int .i64 0) := (by simp [go_sem, *]); have z2 : w1.cell? ⟨w.heap.size, 2, none⟩ = some (.string ⟨#[]⟩) := (by simp [go_sem, *])
        exact bodyPost_ret (v := .tuple #[.agg #[.int .i64 (1), .int .i64 (0), .string ⟨#[]⟩], .bool true]) (by simp [results, Try.results28, go_sem, z0, z1, z2]) rfl (read_yes HY.out (by (repeat (with_reducible first | exact Below.refl _ _ | exact HBD.out | (refine Below.trans ?_ (Below.mono hb1 (by first | omega | (simp; done) | (simp; omega))); clear hb1) | (refine Below.trans ?_ (Below.mono hb2 (by first | omega | (simp; done) | (simp; omega))); clear hb2) | (refine Below.trans ?_ (Below.mono hb3 (by first | omega | (simp; done) | (simp; omega))); clear hb3) | (refine Below.trans ?_ (Below.mono hb4 (by first | omega | (simp; done) | (simp; omega))); clear hb4) | (refine Below.trans ?_ (Below.mono hb5 (by first | omega | (simp; done) | (simp; omega))); clear hb5) | (refine Below.trans ?_ (Below.mono hb6 (by first | omega | (simp; done) | (simp; omega))); clear hb6) | (refine Below.trans ?_ (Below.mono hb7 (by first | omega | (simp; done) | (simp; omega))); clear hb7) | (refine Below.trans ?_ (Below.mono hb8 (by first | omega | (simp; done) | (simp; omega))); clear hb8) | (refine Below.trans ?_ (Below.mono hb9 (by first | omega | (simp; done) | (simp; omega))); clear hb9) | (refine Below.trans ?_ (Below.mono hb10 (by first | omega | (simp; done) | (simp; omega))); clear hb10) | refine Below.alloc ?_ (by first | omega | (simp; done) | (simp; omega)) _ | refine Below.setCell ?_ (by first | omega | (simp; done) | (simp; omega)) _ | refine Below.drew ?_))))
    · refine (valueTextS _ _ _ _ (by decide)).mono ?_
      rintro e w1 ⟨rfl, hb1⟩
      obtain ⟨hc1, hf1⟩ := bcell hb1
      have hz1 := hb1.size
      (try simp at hz1)
      have hya_1 : w.heap.size < w1.heap.size := by omega
      have hyb_1 : w.heap.size + 1 < w1.heap.size := by omega
      generalize hTT : (⟨(textL (1) (D) ⟨#[]⟩).toArray⟩ : ByteArray) = TT
      have HTT := Lib.hid hTT
      clear hTT
      cases hq : (TT.toList == s.toList)
      · have HN := Lib.hid (s_no HTT.out hq (fun k n t h => by obtain ⟨a, b, c, _⟩ := HK.out k n t h; exact ⟨a, b, c⟩))
        go_wp2
        have z0 : w1.cell? ⟨w.heap.size, 0, none⟩ = some (.int .i64 0) := (by simp [go_sem, *]); have z1 : w1.cell? ⟨w.heap.size, 1, none⟩ = some (.int .i64 0) := (by simp [go_sem, *]); have z2 : w1.cell? ⟨w.heap.size, 2, none⟩ = some (.string ⟨#[]⟩) := (by simp [go_sem, *])
        exact bodyPost_ret (v := .tuple #[.agg #[.int .i64 0, .int .i64 0, .string ⟨#[]⟩], .bool false]) (by simp [results, Try.results28, go_sem, z0, z1, z2]) rfl (read_no HN.out (by (repeat (with_reducible first | exact Below.refl _ _ | exact HBD.out | (refine Below.trans ?_ (Below.mono hb1 (by first | omega | (simp; done) | (simp; omega))); clear hb1) | (refine Below.trans ?_ (Below.mono hb2 (by first | omega | (simp; done) | (simp; omega))); clear hb2) | (refine Below.trans ?_ (Below.mono hb3 (by first | omega | (simp; done) | (simp; omega))); clear hb3) | (refine Below.trans ?_ (Below.mono hb4 (by first | omega | (simp; done) | (simp; omega))); clear hb4) | (refine Below.trans ?_ (Below.mono hb5 (by first | omega | (simp; done) | (simp; omega))); clear hb5) | (refine Below.trans ?_ (Below.mono hb6 (by first | omega | (simp; done) | (simp; omega))); clear hb6) | (refine Below.trans ?_ (Below.mono hb7 (by first | omega | (simp; done) | (simp; omega))); clear hb7) | (refine Below.trans ?_ (Below.mono hb8 (by first | omega | (simp; done) | (simp; omega))); clear hb8) | (refine Below.trans ?_ (Below.mono hb9 (by first | omega | (simp; done) | (simp; omega))); clear hb9) | (refine Below.trans ?_ (Below.mono hb10 (by first | omega | (simp; done) | (simp; omega))); clear hb10) | refine Below.alloc ?_ (by first | omega | (simp; done) | (simp; omega)) _ | refine Below.setCell ?_ (by first | omega | (simp; done) | (simp; omega)) _ | refine Below.drew ?_))))
      · have HY := Lib.hid (s_yes HTT.out hq (fun _ => HNE.out (by omega)))
        go_wp2
        have z0 : w1.cell? ⟨w.heap.size, 0, none⟩ = some (.int .i64 0) := (by simp [go_sem, *]); have z1 : w1.cell? ⟨w.heap.size, 1, none⟩ = some (.int .i64 0) := (by simp [go_sem, *]); have z2 : w1.cell? ⟨w.heap.size, 2, none⟩ = some (.string ⟨#[]⟩) := (by simp [go_sem, *])
        exact bodyPost_ret (v := .tuple #[.agg #[.int .i64 (1), .int .i64 (D), .string ⟨#[]⟩], .bool true]) (by simp [results, Try.results28, go_sem, z0, z1, z2]) rfl (read_yes HY.out (by (repeat (with_reducible first | exact Below.refl _ _ | exact HBD.out | (refine Below.trans ?_ (Below.mono hb1 (by first | omega | (simp; done) | (simp; omega))); clear hb1) | (refine Below.trans ?_ (Below.mono hb2 (by first | omega | (simp; done) | (simp; omega))); clear hb2) | (refine Below.trans ?_ (Below.mono hb3 (by first | omega | (simp; done) | (simp; omega))); clear hb3) | (refine Below.trans ?_ (Below.mono hb4 (by first | omega | (simp; done) | (simp; omega))); clear hb4) | (refine Below.trans ?_ (Below.mono hb5 (by first | omega | (simp; done) | (simp; omega))); clear hb5) | (refine Below.trans ?_ (Below.mono hb6 (by first | omega | (simp; done) | (simp; omega))); clear hb6) | (refine Below.trans ?_ (Below.mono hb7 (by first | omega | (simp; done) | (simp; omega))); clear hb7) | (refine Below.trans ?_ (Below.mono hb8 (by first | omega | (simp; done) | (simp; omega))); clear hb8) | (refine Below.trans ?_ (Below.mono hb9 (by first | omega | (simp; done) | (simp; omega))); clear hb9) | (refine Below.trans ?_ (Below.mono hb10 (by first | omega | (simp; done) | (simp; omega))); clear hb10) | refine Below.alloc ?_ (by first | omega | (simp; done) | (simp; omega)) _ | refine Below.setCell ?_ (by first | omega | (simp; done) | (simp; omega)) _ | refine Below.drew ?_))))
  · have d1 : ((s[0].toNat : Int) == 39) = false := ne39 _ h39
    have d2 : ((s[0].toNat : Int) == 45) = false := ne45 _ h45
    clear h39 h45
    unfold maxLen at hs
    go_enter Try.func28, Try.ntmps28
    go_wp2_with ((go_at_call 56; ((with_reducible refine (hC.out _).mono ?_); rintro e w1 ⟨rfl, rfl⟩)))
    · refine (valueTextS _ _ _ _ (by decide)).mono ?_
      rintro e w1 ⟨rfl, hb1⟩
      obtain ⟨hc1, hf1⟩ := bcell hb1
      have hz1 := hb1.size
      (try simp at hz1)
      have hya_1 : w.heap.size < w1.heap.size := by omega
      have hyb_1 : w.heap.size + 1 < w1.heap.size := by omega
      generalize hTT : (⟨(textL (1) (0) ⟨#[]⟩).toArray⟩ : ByteArray) = TT
      have HTT := Lib.hid hTT
      clear hTT
      cases hq : (TT.toList == s.toList)
      · have HN := Lib.hid (s_no HTT.out hq (fun k n t h => by obtain ⟨_, _, _, hh⟩ := HK.out k n t h; omega))
        go_wp2
        have z0 : w1.cell? ⟨w.heap.size, 0, none⟩ = some (.int .i64 0) := (by simp [go_sem, *]); have z1 : w1.cell? ⟨w.heap.size, 1, none⟩ = some (.int .i64 0) := (by simp [go_sem, *]); have z2 : w1.cell? ⟨w.heap.size, 2, none⟩ = some (.string ⟨#[]⟩) := (by simp [go_sem, *])
        exact bodyPost_ret (v := .tuple #[.agg #[.int .i64 0, .int .i64 0, .string ⟨#[]⟩], .bool false]) (by simp [results, Try.results28, go_sem, z0, z1, z2]) rfl (read_no HN.out (by (repeat (with_reducible first | exact Below.refl _ _ | exact HBD.out | (refine Below.trans ?_ (Below.mono hb1 (by first | omega | (simp; done) | (simp; omega))); clear hb1) | (refine Below.trans ?_ (Below.mono hb2 (by first | omega | (simp; done) | (simp; omega))); clear hb2) | (refine Below.trans ?_ (Below.mono hb3 (by first | omega | (simp; done) | (simp; omega))); clear hb3) | (refine Below.trans ?_ (Below.mono hb4 (by first | omega | (simp; done) | (simp; omega))); clear hb4) | (refine Below.trans ?_ (Below.mono hb5 (by first | omega | (simp; done) | (simp; omega))); clear hb5) | (refine Below.trans ?_ (Below.mono hb6 (by first | omega | (simp; done) | (simp; omega))); clear hb6) | (refine Below.trans ?_ (Below.mono hb7 (by first | omega | (simp; done) | (simp; omega))); clear hb7) | (refine Below.trans ?_ (Below.mono hb8 (by first | omega | (simp; done) | (simp; omega))); clear hb8) | (refine Below.trans ?_ (Below.mono hb9 (by first | omega | (simp; done) | (simp; omega))); clear hb9) | (refine Below.trans ?_ (Below.mono hb10 (by first | omega | (simp; done) | (simp; omega))); clear hb10) | refine Below.alloc ?_ (by first | omega | (simp; done) | (simp; omega)) _ | refine Below.setCell ?_ (by first | omega | (simp; done) | (simp; omega)) _ | refine Below.drew ?_))))
      · have HY := Lib.hid (s_yes HTT.out hq (fun hf => by rw [ok0] at hf; cases hf))
        go_wp2
        have z0 : w1.cell? ⟨w.heap.size, 0, none⟩ = some (.int .i64 0) := (by simp [go_sem, *]); have z1 : w1.cell? ⟨w.heap.size, 1, none⟩ = some (.int .i64 0) := (by simp [go_sem, *]); have z2 : w1.cell? ⟨w.heap.size, 2, none⟩ = some (.string ⟨#[]⟩) := (by simp [go_sem, *])
        exact bodyPost_ret (v := .tuple #[.agg #[.int .i64 (1), .int .i64 (0), .string ⟨#[]⟩], .bool true]) (by simp [results, Try.results28, go_sem, z0, z1, z2]) rfl (read_yes HY.out (by (repeat (with_reducible first | exact Below.refl _ _ | exact HBD.out | (refine Below.trans ?_ (Below.mono hb1 (by first | omega | (simp; done) | (simp; omega))); clear hb1) | (refine Below.trans ?_ (Below.mono hb2 (by first | omega | (simp; done) | (simp; omega))); clear hb2) | (refine Below.trans ?_ (Below.mono hb3 (by first | omega | (simp; done) | (simp; omega))); clear hb3) | (refine Below.trans ?_ (Below.mono hb4 (by first | omega | (simp; done) | (simp; omega))); clear hb4) | (refine Below.trans ?_ (Below.mono hb5 (by first | omega | (simp; done) | (simp; omega))); clear hb5) | (refine Below.trans ?_ (Below.mono hb6 (by first | omega | (simp; done) | (simp; omega))); clear hb6) | (refine Below.trans ?_ (Below.mono hb7 (by first | omega | (simp; done) | (simp; omega))); clear hb7) | (refine Below.trans ?_ (Below.mono hb8 (by first | omega | (simp; done) | (simp; omega))); clear hb8) | (refine Below.trans ?_ (Below.mono hb9 (by first | omega | (simp; done) | (simp; omega))); clear hb9) | (refine Below.trans ?_ (Below.mono hb10 (by first | omega | (simp; done) | (simp; omega))); clear hb10) | refine Below.alloc ?_ (by first | omega | (simp; done) | (simp; omega)) _ | refine Below.setCell ?_ (by first | omega | (simp; done) | (simp; omega)) _ | refine Below.drew ?_))))
    · refine (valueTextS _ _ _ _ (by decide)).mono ?_
      rintro e w1 ⟨rfl, hb1⟩
      obtain ⟨hc1, hf1⟩ := bcell hb1
      have hz1 := hb1.size
      (try simp at hz1)
      have hya_1 : w.heap.size < w1.heap.size := by omega
      have hyb_1 : w.heap.size + 1 < w1.heap.size := by omega
      generalize hTT : (⟨(textL (1) (D) ⟨#[]⟩).toArray⟩ : ByteArray) = TT
      have HTT := Lib.hid hTT
      clear hTT
      cases hq : (TT.toList == s.toList)
      · have HN := Lib.hid (s_no HTT.out hq (fun k n t h => by obtain ⟨a, b, c, _⟩ := HK.out k n t h; exact ⟨a, b, c⟩))
        go_wp2
        have z0 : w1.cell? ⟨w.heap.size, 0, none⟩ = some (.int .i64 0) := (by simp [go_sem, *]); have z1 : w1.cell? ⟨w.heap.size, 1, none⟩ = some (.int .i64 0) := (by simp [go_sem, *]); have z2 : w1.cell? ⟨w.heap.size, 2, none⟩ = some (.string ⟨#[]⟩) := (by simp [go_sem, *])
        exact bodyPost_ret (v := .tuple #[.agg #[.int .i64 0, .int .i64 0, .string ⟨#[]⟩], .bool false]) (by simp [results, Try.results28, go_sem, z0, z1, z2]) rfl (read_no HN.out (by (repeat (with_reducible first | exact Below.refl _ _ | exact HBD.out | (refine Below.trans ?_ (Below.mono hb1 (by first | omega | (simp; done) | (simp; omega))); clear hb1) | (refine Below.trans ?_ (Below.mono hb2 (by first | omega | (simp; done) | (simp; omega))); clear hb2) | (refine Below.trans ?_ (Below.mono hb3 (by first | omega | (simp; done) | (simp; omega))); clear hb3) | (refine Below.trans ?_ (Below.mono hb4 (by first | omega | (simp; done) | (simp; omega))); clear hb4) | (refine Below.trans ?_ (Below.mono hb5 (by first | omega | (simp; done) | (simp; omega))); clear hb5) | (refine Below.trans ?_ (Below.mono hb6 (by first | omega | (simp; done) | (simp; omega))); clear hb6) | (refine Below.trans ?_ (Below.mono hb7 (by first | omega | (simp; done) | (simp; omega))); clear hb7) | (refine Below.trans ?_ (Below.mono hb8 (by first | omega | (simp; done) | (simp; omega))); clear hb8) | (refine Below.trans ?_ (Below.mono hb9 (by first | omega | (simp; done) | (simp; omega))); clear hb9) | (refine Below.trans ?_ (Below.mono hb10 (by first | omega | (simp; done) | (simp; omega))); clear hb10) | refine Below.alloc ?_ (by first | omega | (simp; done) | (simp; omega)) _ | refine Below.setCell ?_ (by first | omega | (simp; done) | (simp; omega)) _ | refine Below.drew ?_))))
      · have HY := Lib.hid (s_yes HTT.out hq (fun _ => HNE.out (by omega)))
        go_wp2
        have z0 : w1.cell? ⟨w.heap.size, 0, none⟩ = some (.int .i64 0) := (by simp [go_sem, *]); have z1 : w1.cell? ⟨w.heap.size, 1, none⟩ = some (.int .i64 0) := (by simp [go_sem, *]); have z2 : w1.cell? ⟨w.heap.size, 2, none⟩ = some (.string ⟨#[]⟩) := (by simp [go_sem, *])
        exact bodyPost_ret (v := .tuple #[.agg #[.int .i64 (1), .int .i64 (D), .string ⟨#[]⟩], .bool true]) (by simp [results, Try.results28, go_sem, z0, z1, z2]) rfl (read_yes HY.out (by (repeat (with_reducible first | exact Below.refl _ _ | exact HBD.out | (refine Below.trans ?_ (Below.mono hb1 (by first | omega | (simp; done) | (simp; omega))); clear hb1) | (refine Below.trans ?_ (Below.mono hb2 (by first | omega | (simp; done) | (simp; omega))); clear hb2) | (refine Below.trans ?_ (Below.mono hb3 (by first | omega | (simp; done) | (simp; omega))); clear hb3) | (refine Below.trans ?_ (Below.mono hb4 (by first | omega | (simp; done) | (simp; omega))); clear hb4) | (refine Below.trans ?_ (Below.mono hb5 (by first | omega | (simp; done) | (simp; omega))); clear hb5) | (refine Below.trans ?_ (Below.mono hb6 (by first | omega | (simp; done) | (simp; omega))); clear hb6) | (refine Below.trans ?_ (Below.mono hb7 (by first | omega | (simp; done) | (simp; omega))); clear hb7) | (refine Below.trans ?_ (Below.mono hb8 (by first | omega | (simp; done) | (simp; omega))); clear hb8) | (refine Below.trans ?_ (Below.mono hb9 (by first | omega | (simp; done) | (simp; omega))); clear hb9) | (refine Below.trans ?_ (Below.mono hb10 (by first | omega | (simp; done) | (simp; omega))); clear hb10) | refine Below.alloc ?_ (by first | omega | (simp; done) | (simp; omega)) _ | refine Below.setCell ?_ (by first | omega | (simp; done) | (simp; omega)) _ | refine Below.drew ?_))))
/-- A sign ahead. -/
theorem readS_neg (s : ByteArray) (w : World) (hs : s.size ≤ maxLen) (hp : 0 < s.size) (hgt : 1 < s.size) (h45 : s[0] = 45) : Calls Try.prog 28 #[.string s] w (ReadPost s w) := by
  have hh := head_split s hp
  rw [h45] at hh
  have h0 : s.data.toList ≠ [110, 111, 110, 101] := by rw [hh]; simp
  have h1 : s.data.toList ≠ [102, 97, 108, 115, 101] := by rw [hh]; simp
  have h2 : s.data.toList ≠ [116, 114, 117, 101] := by rw [hh]; simp
  have e0 := neL s _ h0
  have e1 := neL s _ h1
  have e2 := neL s _ h2
  obtain ⟨D, hD⟩ : ∃ D, digV (s.extract 1 s.size).data.toList = D := ⟨_, rfl⟩
  have hb := digV_bd (s.extract 1 s.size).data.toList
  have hC := Lib.hid (fun w => l1Digits (s.extract 1 s.size) w (by rw [ByteArray.size_extract]; unfold maxLen at *; omega))
  rw [hD] at hb hC
  obtain ⟨hD0, hD1⟩ := hb
  have HK : Hid (∀ k n t, HasText s.data.toList k n t → k = 1 ∧ n = -D ∧ t = ⟨#[]⟩ ∧ 0 ≤ D) := by
    intro k n t h
    obtain ⟨rfl, rfl, a1, a2, e⟩ := has_other h h0 h1 h2 (fun r er => by rw [hh] at er; simp at er)
    obtain ⟨c, tl, ec, hc⟩ := decI_head n a1 a2
    rw [← e] at hh
    rw [ec] at hh
    injection hh with x y
    rcases hc with ⟨b1, b2, b3⟩ | ⟨b1, b2⟩
    · have : digV (s.extract 1 s.size).data.toList = n.natAbs := by
        rw [extract_tail, ← e, ec, List.drop_one, List.tail_cons, b3]; exact digV_dec _ (by omega)
      rw [hD] at this
      exact ⟨rfl, by omega, rfl, by omega⟩
    · exact absurd b2 (by rw [x]; unfold isDig; decide)
  have HNE : Hid (s.data.toList ≠ []) := by show _ ≠ _; rw [hh]; simp
  have d1 : ((s[0].toNat : Int) == 39) = false := by rw [h45]; rfl
  have d2 : ((s[0].toNat : Int) == 45) = true := by rw [h45]; rfl
  clear hD h0 h1 h2 hh h45
  unfold maxLen at hs
  go_enter Try.func28, Try.ntmps28
  go_wp2_with ((go_at_call 56; ((with_reducible refine (hC.out _).mono ?_); rintro e w1 ⟨rfl, rfl⟩)))
  · refine (valueTextS _ _ _ _ (by decide)).mono ?_
    rintro e w1 ⟨rfl, hb1⟩
    obtain ⟨hc1, hf1⟩ := bcell hb1
    have hz1 := hb1.size
    (try simp at hz1)
    have hya_1 : w.heap.size < w1.heap.size := by omega
    have hyb_1 : w.heap.size + 1 < w1.heap.size := by omega
    generalize hTT : (⟨(textL (1) (0) ⟨#[]⟩).toArray⟩ : ByteArray) = TT
    have HTT := Lib.hid hTT
    clear hTT
    cases hq : (TT.toList == s.toList)
    · have HN := Lib.hid (s_no HTT.out hq (fun k n t h => by obtain ⟨_, _, _, hh⟩ := HK.out k n t h; omega))
      go_wp2
      have z0 : w1.cell? ⟨w.heap.size, 0, none⟩ = some (.int .i64 0) := (by simp [go_sem, *]); have z1 : w1.cell? ⟨w.heap.size, 1, none⟩ = some (.int .i64 0) := (by simp [go_sem, *]); have z2 : w1.cell? ⟨w.heap.size, 2, none⟩ = some (.string ⟨#[]⟩) := (by simp [go_sem, *])
      exact bodyPost_ret (v := .tuple #[.agg #[.int .i64 0, .int .i64 0, .string ⟨#[]⟩], .bool false]) (by simp [results, Try.results28, go_sem, z0, z1, z2]) rfl (read_no HN.out (by (repeat (with_reducible first | exact Below.refl _ _ | exact HBD.out | (refine Below.trans ?_ (Below.mono hb1 (by first | omega | (simp; done) | (simp; omega))); clear hb1) | (refine Below.trans ?_ (Below.mono hb2 (by first | omega | (simp; done) | (simp; omega))); clear hb2) | (refine Below.trans ?_ (Below.mono hb3 (by first | omega | (simp; done) | (simp; omega))); clear hb3) | (refine Below.trans ?_ (Below.mono hb4 (by first | omega | (simp; done) | (simp; omega))); clear hb4) | (refine Below.trans ?_ (Below.mono hb5 (by first | omega | (simp; done) | (simp; omega))); clear hb5) | (refine Below.trans ?_ (Below.mono hb6 (by first | omega | (simp; done) | (simp; omega))); clear hb6) | (refine Below.trans ?_ (Below.mono hb7 (by first | omega | (simp; done) | (simp; omega))); clear hb7) | (refine Below.trans ?_ (Below.mono hb8 (by first | omega | (simp; done) | (simp; omega))); clear hb8) | (refine Below.trans ?_ (Below.mono hb9 (by first | omega | (simp; done) | (simp; omega))); clear hb9) | (refine Below.trans ?_ (Below.mono hb10 (by first | omega | (simp; done) | (simp; omega))); clear hb10) | refine Below.alloc ?_ (by first | omega | (simp; done) | (simp; omega)) _ | refine Below.setCell ?_ (by first | omega | (simp; done) | (simp; omega)) _ | refine Below.drew ?_))))
    · have HY := Lib.hid (s_yes HTT.out hq (fun _ => HNE.out))
      go_wp2
      have z0 : w1.cell? ⟨w.heap.size, 0, none⟩ = some (.int .i64 0) := (by simp [go_sem, *]); have z1 : w1.cell? ⟨w.heap.size, 1, none⟩ = some (.int .i64 0) := (by simp [go_sem, *]); have z2 : w1.cell? ⟨w.heap.size, 2, none⟩ = some (.string ⟨#[]⟩) := (by simp [go_sem, *])
      exact bodyPost_ret (v := .tuple #[.agg #[.int .i64 (1), .int .i64 (0), .string ⟨#[]⟩], .bool true]) (by simp [results, Try.results28, go_sem, z0, z1, z2]) rfl (read_yes HY.out (by (repeat (with_reducible first | exact Below.refl _ _ | exact HBD.out | (refine Below.trans ?_ (Below.mono hb1 (by first | omega | (simp; done) | (simp; omega))); clear hb1) | (refine Below.trans ?_ (Below.mono hb2 (by first | omega | (simp; done) | (simp; omega))); clear hb2) | (refine Below.trans ?_ (Below.mono hb3 (by first | omega | (simp; done) | (simp; omega))); clear hb3) | (refine Below.trans ?_ (Below.mono hb4 (by first | omega | (simp; done) | (simp; omega))); clear hb4) | (refine Below.trans ?_ (Below.mono hb5 (by first | omega | (simp; done) | (simp; omega))); clear hb5) | (refine Below.trans ?_ (Below.mono hb6 (by first | omega | (simp; done) | (simp; omega))); clear hb6) | (refine Below.trans ?_ (Below.mono hb7 (by first | omega | (simp; done) | (simp; omega))); clear hb7) | (refine Below.trans ?_ (Below.mono hb8 (by first | omega | (simp; done) | (simp; omega))); clear hb8) | (refine Below.trans ?_ (Below.mono hb9 (by first | omega | (simp; done) | (simp; omega))); clear hb9) | (refine Below.trans ?_ (Below.mono hb10 (by first | omega | (simp; done) | (simp; omega))); clear hb10) | refine Below.alloc ?_ (by first | omega | (simp; done) | (simp; omega)) _ | refine Below.setCell ?_ (by first | omega | (simp; done) | (simp; omega)) _ | refine Below.drew ?_))))
  · refine (valueTextS _ _ _ _ (by decide)).mono ?_
    rintro e w1 ⟨rfl, hb1⟩
    obtain ⟨hc1, hf1⟩ := bcell hb1
    have hz1 := hb1.size
    (try simp at hz1)
    have hya_1 : w.heap.size < w1.heap.size := by omega
    have hyb_1 : w.heap.size + 1 < w1.heap.size := by omega
    generalize hTT : (⟨(textL (1) (-D) ⟨#[]⟩).toArray⟩ : ByteArray) = TT
    have HTT := Lib.hid hTT
    clear hTT
    cases hq : (TT.toList == s.toList)
    · have HN := Lib.hid (s_no HTT.out hq (fun k n t h => by obtain ⟨a, b, c, _⟩ := HK.out k n t h; exact ⟨a, b, c⟩))
      go_wp2
      have z0 : w1.cell? ⟨w.heap.size, 0, none⟩ = some (.int .i64 0) := (by simp [go_sem, *]); have z1 : w1.cell? ⟨w.heap.size, 1, none⟩ = some (.int .i64 0) := (by simp [go_sem, *]); have z2 : w1.cell? ⟨w.heap.size, 2, none⟩ = some (.string ⟨#[]⟩) := (by simp [go_sem, *])
      exact bodyPost_ret (v := .tuple #[.agg #[.int .i64 0, .int .i64 0, .string ⟨#[]⟩], .bool false]) (by simp [results, Try.results28, go_sem, z0, z1, z2]) rfl (read_no HN.out (by (repeat (with_reducible first | exact Below.refl _ _ | exact HBD.out | (refine Below.trans ?_ (Below.mono hb1 (by first | omega | (simp; done) | (simp; omega))); clear hb1) | (refine Below.trans ?_ (Below.mono hb2 (by first | omega | (simp; done) | (simp; omega))); clear hb2) | (refine Below.trans ?_ (Below.mono hb3 (by first | omega | (simp; done) | (simp; omega))); clear hb3) | (refine Below.trans ?_ (Below.mono hb4 (by first | omega | (simp; done) | (simp; omega))); clear hb4) | (refine Below.trans ?_ (Below.mono hb5 (by first | omega | (simp; done) | (simp; omega))); clear hb5) | (refine Below.trans ?_ (Below.mono hb6 (by first | omega | (simp; done) | (simp; omega))); clear hb6) | (refine Below.trans ?_ (Below.mono hb7 (by first | omega | (simp; done) | (simp; omega))); clear hb7) | (refine Below.trans ?_ (Below.mono hb8 (by first | omega | (simp; done) | (simp; omega))); clear hb8) | (refine Below.trans ?_ (Below.mono hb9 (by first | omega | (simp; done) | (simp; omega))); clear hb9) | (refine Below.trans ?_ (Below.mono hb10 (by first | omega | (simp; done) | (simp; omega))); clear hb10) | refine Below.alloc ?_ (by first | omega | (simp; done) | (simp; omega)) _ | refine Below.setCell ?_ (by first | omega | (simp; done) | (simp; omega)) _ | refine Below.drew ?_))))
    · have HY := Lib.hid (s_yes HTT.out hq (fun _ => HNE.out))
      go_wp2
      have z0 : w1.cell? ⟨w.heap.size, 0, none⟩ = some (.int .i64 0) := (by simp [go_sem, *]); have z1 : w1.cell? ⟨w.heap.size, 1, none⟩ = some (.int .i64 0) := (by simp [go_sem, *]); have z2 : w1.cell? ⟨w.heap.size, 2, none⟩ = some (.string ⟨#[]⟩) := (by simp [go_sem, *])
      exact bodyPost_ret (v := .tuple #[.agg #[.int .i64 (1), .int .i64 (-D), .string ⟨#[]⟩], .bool true]) (by simp [results, Try.results28, go_sem, z0, z1, z2]) rfl (read_yes HY.out (by (repeat (with_reducible first | exact Below.refl _ _ | exact HBD.out | (refine Below.trans ?_ (Below.mono hb1 (by first | omega | (simp; done) | (simp; omega))); clear hb1) | (refine Below.trans ?_ (Below.mono hb2 (by first | omega | (simp; done) | (simp; omega))); clear hb2) | (refine Below.trans ?_ (Below.mono hb3 (by first | omega | (simp; done) | (simp; omega))); clear hb3) | (refine Below.trans ?_ (Below.mono hb4 (by first | omega | (simp; done) | (simp; omega))); clear hb4) | (refine Below.trans ?_ (Below.mono hb5 (by first | omega | (simp; done) | (simp; omega))); clear hb5) | (refine Below.trans ?_ (Below.mono hb6 (by first | omega | (simp; done) | (simp; omega))); clear hb6) | (refine Below.trans ?_ (Below.mono hb7 (by first | omega | (simp; done) | (simp; omega))); clear hb7) | (refine Below.trans ?_ (Below.mono hb8 (by first | omega | (simp; done) | (simp; omega))); clear hb8) | (refine Below.trans ?_ (Below.mono hb9 (by first | omega | (simp; done) | (simp; omega))); clear hb9) | (refine Below.trans ?_ (Below.mono hb10 (by first | omega | (simp; done) | (simp; omega))); clear hb10) | refine Below.alloc ?_ (by first | omega | (simp; done) | (simp; omega)) _ | refine Below.setCell ?_ (by first | omega | (simp; done) | (simp; omega)) _ | refine Below.drew ?_))))
/-- A quote ahead. -/
theorem readS_text (s : ByteArray) (w : World) (hs : s.size ≤ maxLen) (hp : 0 < s.size) (hgt : 1 < s.size) (h39 : s[0] = 39) : Calls Try.prog 28 #[.string s] w (ReadPost s w) := by
  have hh := head_split s hp
  rw [h39] at hh
  have h0 : s.data.toList ≠ [110, 111, 110, 101] := by rw [hh]; simp
  have h1 : s.data.toList ≠ [102, 97, 108, 115, 101] := by rw [hh]; simp
  have h2 : s.data.toList ≠ [116, 114, 117, 101] := by rw [hh]; simp
  have e0 := neL s _ h0
  have e1 := neL s _ h1
  have e2 := neL s _ h2
  obtain ⟨t, ht⟩ : ∃ t, s.extract 1 (s.size - 1) = t := ⟨_, rfl⟩
  have htz : t.size ≤ maxLen := by rw [← ht, ByteArray.size_extract]; unfold maxLen at *; omega
  have HK : Hid (∀ k n t', HasText s.data.toList k n t' → k = 2 ∧ n = 0 ∧ t' = t) := by
    intro k n t' h
    obtain ⟨rfl, rfl, _, e⟩ := has39 h hh
    exact ⟨rfl, rfl, ((quote_back s t' e).2.symm.trans ht)⟩
  have HNE : Hid (s.data.toList ≠ []) := by show _ ≠ _; rw [hh]; simp
  have d1 : ((s[0].toNat : Int) == 39) = true := by rw [h39]; rfl
  clear h0 h1 h2 hh h39
  unfold maxLen at hs
  go_enter Try.func28, Try.ntmps28
  go_wp2_with fail
  refine (valueTextS _ _ _ _ htz).mono ?_
  rintro e w1 ⟨rfl, hb1⟩
  obtain ⟨hc1, hf1⟩ := bcell hb1
  have hz1 := hb1.size
  (try simp at hz1)
  have hya_1 : w.heap.size < w1.heap.size := by omega
  have hyb_1 : w.heap.size + 1 < w1.heap.size := by omega
  generalize hTT : (⟨(textL (2) (0) t).toArray⟩ : ByteArray) = TT
  have HTT := Lib.hid hTT
  clear hTT
  cases hq : (TT.toList == s.toList)
  · have HN := Lib.hid (s_no HTT.out hq (fun k n t h => HK.out k n t h))
    go_wp2
    have z0 : w1.cell? ⟨w.heap.size, 0, none⟩ = some (.int .i64 0) := (by simp [go_sem, *]); have z1 : w1.cell? ⟨w.heap.size, 1, none⟩ = some (.int .i64 0) := (by simp [go_sem, *]); have z2 : w1.cell? ⟨w.heap.size, 2, none⟩ = some (.string ⟨#[]⟩) := (by simp [go_sem, *])
    exact bodyPost_ret (v := .tuple #[.agg #[.int .i64 0, .int .i64 0, .string ⟨#[]⟩], .bool false]) (by simp [results, Try.results28, go_sem, z0, z1, z2]) rfl (read_no HN.out (by (repeat (with_reducible first | exact Below.refl _ _ | exact HBD.out | (refine Below.trans ?_ (Below.mono hb1 (by first | omega | (simp; done) | (simp; omega))); clear hb1) | (refine Below.trans ?_ (Below.mono hb2 (by first | omega | (simp; done) | (simp; omega))); clear hb2) | (refine Below.trans ?_ (Below.mono hb3 (by first | omega | (simp; done) | (simp; omega))); clear hb3) | (refine Below.trans ?_ (Below.mono hb4 (by first | omega | (simp; done) | (simp; omega))); clear hb4) | (refine Below.trans ?_ (Below.mono hb5 (by first | omega | (simp; done) | (simp; omega))); clear hb5) | (refine Below.trans ?_ (Below.mono hb6 (by first | omega | (simp; done) | (simp; omega))); clear hb6) | (refine Below.trans ?_ (Below.mono hb7 (by first | omega | (simp; done) | (simp; omega))); clear hb7) | (refine Below.trans ?_ (Below.mono hb8 (by first | omega | (simp; done) | (simp; omega))); clear hb8) | (refine Below.trans ?_ (Below.mono hb9 (by first | omega | (simp; done) | (simp; omega))); clear hb9) | (refine Below.trans ?_ (Below.mono hb10 (by first | omega | (simp; done) | (simp; omega))); clear hb10) | refine Below.alloc ?_ (by first | omega | (simp; done) | (simp; omega)) _ | refine Below.setCell ?_ (by first | omega | (simp; done) | (simp; omega)) _ | refine Below.drew ?_))))
  · have HY := Lib.hid (s_yes HTT.out hq (fun _ => HNE.out))
    go_wp2
    have z0 : w1.cell? ⟨w.heap.size, 0, none⟩ = some (.int .i64 0) := (by simp [go_sem, *]); have z1 : w1.cell? ⟨w.heap.size, 1, none⟩ = some (.int .i64 0) := (by simp [go_sem, *]); have z2 : w1.cell? ⟨w.heap.size, 2, none⟩ = some (.string ⟨#[]⟩) := (by simp [go_sem, *])
    exact bodyPost_ret (v := .tuple #[.agg #[.int .i64 (2), .int .i64 (0), .string t], .bool true]) (by simp [results, Try.results28, go_sem, z0, z1, z2]) rfl (read_yes HY.out (by (repeat (with_reducible first | exact Below.refl _ _ | exact HBD.out | (refine Below.trans ?_ (Below.mono hb1 (by first | omega | (simp; done) | (simp; omega))); clear hb1) | (refine Below.trans ?_ (Below.mono hb2 (by first | omega | (simp; done) | (simp; omega))); clear hb2) | (refine Below.trans ?_ (Below.mono hb3 (by first | omega | (simp; done) | (simp; omega))); clear hb3) | (refine Below.trans ?_ (Below.mono hb4 (by first | omega | (simp; done) | (simp; omega))); clear hb4) | (refine Below.trans ?_ (Below.mono hb5 (by first | omega | (simp; done) | (simp; omega))); clear hb5) | (refine Below.trans ?_ (Below.mono hb6 (by first | omega | (simp; done) | (simp; omega))); clear hb6) | (refine Below.trans ?_ (Below.mono hb7 (by first | omega | (simp; done) | (simp; omega))); clear hb7) | (refine Below.trans ?_ (Below.mono hb8 (by first | omega | (simp; done) | (simp; omega))); clear hb8) | (refine Below.trans ?_ (Below.mono hb9 (by first | omega | (simp; done) | (simp; omega))); clear hb9) | (refine Below.trans ?_ (Below.mono hb10 (by first | omega | (simp; done) | (simp; omega))); clear hb10) | refine Below.alloc ?_ (by first | omega | (simp; done) | (simp; omega)) _ | refine Below.setCell ?_ (by first | omega | (simp; done) | (simp; omega)) _ | refine Below.drew ?_))))
theorem valueReadS (s : ByteArray) (w : World) (hs : s.size ≤ maxLen) : Calls Try.prog 28 #[.string s] w (ReadPost s w) := by
  by_cases h0 : s.data.toList = [110, 111, 110, 101]
  · have e0 := eqL s _ h0
    have HT : Hid (HasText s.data.toList 0 0 ⟨#[]⟩) := by show HasText _ _ _ _; rw [h0]; exact has_none
    clear h0
    go_enter Try.func28, Try.ntmps28
    go_wp2
    exact bodyPost_ret (v := .tuple #[.agg #[.int .i64 0, .int .i64 0, .string ⟨#[]⟩], .bool true]) (by simp [results, Try.results28, go_sem]) rfl (read_yes HT.out (by (repeat (with_reducible first | exact Below.refl _ _ | exact HBD.out | (refine Below.trans ?_ (Below.mono hb1 (by first | omega | (simp; done) | (simp; omega))); clear hb1) | (refine Below.trans ?_ (Below.mono hb2 (by first | omega | (simp; done) | (simp; omega))); clear hb2) | (refine Below.trans ?_ (Below.mono hb3 (by first | omega | (simp; done) | (simp; omega))); clear hb3) | (refine Below.trans ?_ (Below.mono hb4 (by first | omega | (simp; done) | (simp; omega))); clear hb4) | (refine Below.trans ?_ (Below.mono hb5 (by first | omega | (simp; done) | (simp; omega))); clear hb5) | (refine Below.trans ?_ (Below.mono hb6 (by first | omega | (simp; done) | (simp; omega))); clear hb6) | (refine Below.trans ?_ (Below.mono hb7 (by first | omega | (simp; done) | (simp; omega))); clear hb7) | (refine Below.trans ?_ (Below.mono hb8 (by first | omega | (simp; done) | (simp; omega))); clear hb8) | (refine Below.trans ?_ (Below.mono hb9 (by first | omega | (simp; done) | (simp; omega))); clear hb9) | (refine Below.trans ?_ (Below.mono hb10 (by first | omega | (simp; done) | (simp; omega))); clear hb10) | refine Below.alloc ?_ (by first | omega | (simp; done) | (simp; omega)) _ | refine Below.setCell ?_ (by first | omega | (simp; done) | (simp; omega)) _ | refine Below.drew ?_))))
  by_cases h1 : s.data.toList = [102, 97, 108, 115, 101]
  · have e0 := neL s _ h0
    have e1 := eqL s _ h1
    have e2 := neL s [116, 114, 117, 101] (by rw [h1]; decide)
    have hz : s.size = 5 := by have := congrArg List.length h1; simpa using this
    have HT : Hid (HasText s.data.toList 3 0 ⟨#[]⟩) := by show HasText _ _ _ _; rw [h1]; exact has_false
    have HX : Hid (textL 3 0 ⟨#[]⟩ = s.data.toList) := HT.out.2
    clear h1 h0
    have hz' : (s.size : Int) = 5 := by omega
    clear hz
    go_enter Try.func28, Try.ntmps28
    go_wp2_with fail
    refine (valueTextS _ _ _ _ (by decide)).mono ?_
    rintro e w1 ⟨rfl, hb1⟩
    obtain ⟨hc1, hf1⟩ := bcell hb1
    have hz1 := hb1.size
    (try simp at hz1)
    have hya_1 : w.heap.size < w1.heap.size := by omega
    have hyb_1 : w.heap.size + 1 < w1.heap.size := by omega
    generalize hTT : (⟨(textL (3) (0) ⟨#[]⟩).toArray⟩ : ByteArray) = TT
    have HTT := Lib.hid hTT
    clear hTT
    cases hq : (TT.toList == s.toList)
    · have HN := Lib.hid (s_no HTT.out hq (fun k n t h => by obtain ⟨a, b, c⟩ := has_inj h HT.out; exact ⟨a, b, c⟩))
      go_wp2
      have z0 : w1.cell? ⟨w.heap.size, 0, none⟩ = some (.int .i64 0) := (by simp [go_sem, *]); have z1 : w1.cell? ⟨w.heap.size, 1, none⟩ = some (.int .i64 0) := (by simp [go_sem, *]); have z2 : w1.cell? ⟨w.heap.size, 2, none⟩ = some (.string ⟨#[]⟩) := (by simp [go_sem, *])
      exact bodyPost_ret (v := .tuple #[.agg #[.int .i64 0, .int .i64 0, .string ⟨#[]⟩], .bool false]) (by simp [results, Try.results28, go_sem, z0, z1, z2]) rfl (read_no HN.out (by (repeat (with_reducible first | exact Below.refl _ _ | exact HBD.out | (refine Below.trans ?_ (Below.mono hb1 (by first | omega | (simp; done) | (simp; omega))); clear hb1) | (refine Below.trans ?_ (Below.mono hb2 (by first | omega | (simp; done) | (simp; omega))); clear hb2) | (refine Below.trans ?_ (Below.mono hb3 (by first | omega | (simp; done) | (simp; omega))); clear hb3) | (refine Below.trans ?_ (Below.mono hb4 (by first | omega | (simp; done) | (simp; omega))); clear hb4) | (refine Below.trans ?_ (Below.mono hb5 (by first | omega | (simp; done) | (simp; omega))); clear hb5) | (refine Below.trans ?_ (Below.mono hb6 (by first | omega | (simp; done) | (simp; omega))); clear hb6) | (refine Below.trans ?_ (Below.mono hb7 (by first | omega | (simp; done) | (simp; omega))); clear hb7) | (refine Below.trans ?_ (Below.mono hb8 (by first | omega | (simp; done) | (simp; omega))); clear hb8) | (refine Below.trans ?_ (Below.mono hb9 (by first | omega | (simp; done) | (simp; omega))); clear hb9) | (refine Below.trans ?_ (Below.mono hb10 (by first | omega | (simp; done) | (simp; omega))); clear hb10) | refine Below.alloc ?_ (by first | omega | (simp; done) | (simp; omega)) _ | refine Below.setCell ?_ (by first | omega | (simp; done) | (simp; omega)) _ | refine Below.drew ?_))))
    · have HY := Lib.hid (s_yes HTT.out hq (fun hf => by rw [HT.out.1] at hf; cases hf))
      go_wp2
      have z0 : w1.cell? ⟨w.heap.size, 0, none⟩ = some (.int .i64 0) := (by simp [go_sem, *]); have z1 : w1.cell? ⟨w.heap.size, 1, none⟩ = some (.int .i64 0) := (by simp [go_sem, *]); have z2 : w1.cell? ⟨w.heap.size, 2, none⟩ = some (.string ⟨#[]⟩) := (by simp [go_sem, *])
      exact bodyPost_ret (v := .tuple #[.agg #[.int .i64 (3), .int .i64 (0), .string ⟨#[]⟩], .bool true]) (by simp [results, Try.results28, go_sem, z0, z1, z2]) rfl (read_yes HY.out (by (repeat (with_reducible first | exact Below.refl _ _ | exact HBD.out | (refine Below.trans ?_ (Below.mono hb1 (by first | omega | (simp; done) | (simp; omega))); clear hb1) | (refine Below.trans ?_ (Below.mono hb2 (by first | omega | (simp; done) | (simp; omega))); clear hb2) | (refine Below.trans ?_ (Below.mono hb3 (by first | omega | (simp; done) | (simp; omega))); clear hb3) | (refine Below.trans ?_ (Below.mono hb4 (by first | omega | (simp; done) | (simp; omega))); clear hb4) | (refine Below.trans ?_ (Below.mono hb5 (by first | omega | (simp; done) | (simp; omega))); clear hb5) | (refine Below.trans ?_ (Below.mono hb6 (by first | omega | (simp; done) | (simp; omega))); clear hb6) | (refine Below.trans ?_ (Below.mono hb7 (by first | omega | (simp; done) | (simp; omega))); clear hb7) | (refine Below.trans ?_ (Below.mono hb8 (by first | omega | (simp; done) | (simp; omega))); clear hb8) | (refine Below.trans ?_ (Below.mono hb9 (by first | omega | (simp; done) | (simp; omega))); clear hb9) | (refine Below.trans ?_ (Below.mono hb10 (by first | omega | (simp; done) | (simp; omega))); clear hb10) | refine Below.alloc ?_ (by first | omega | (simp; done) | (simp; omega)) _ | refine Below.setCell ?_ (by first | omega | (simp; done) | (simp; omega)) _ | refine Below.drew ?_))))
  by_cases h2 : s.data.toList = [116, 114, 117, 101]
  · have e0 := neL s _ h0
    have e1 := neL s _ h1
    have e2 := eqL s _ h2
    have hz : s.size = 4 := by have := congrArg List.length h2; simpa using this
    have HT : Hid (HasText s.data.toList 3 1 ⟨#[]⟩) := by show HasText _ _ _ _; rw [h2]; exact has_true
    have HX : Hid (textL 3 1 ⟨#[]⟩ = s.data.toList) := HT.out.2
    clear h2 h1 h0
    have hz' : (s.size : Int) = 4 := by omega
    clear hz
    go_enter Try.func28, Try.ntmps28
    go_wp2_with fail
    refine (valueTextS _ _ _ _ (by decide)).mono ?_
    rintro e w1 ⟨rfl, hb1⟩
    obtain ⟨hc1, hf1⟩ := bcell hb1
    have hz1 := hb1.size
    (try simp at hz1)
    have hya_1 : w.heap.size < w1.heap.size := by omega
    have hyb_1 : w.heap.size + 1 < w1.heap.size := by omega
    generalize hTT : (⟨(textL (3) (1) ⟨#[]⟩).toArray⟩ : ByteArray) = TT
    have HTT := Lib.hid hTT
    clear hTT
    cases hq : (TT.toList == s.toList)
    · have HN := Lib.hid (s_no HTT.out hq (fun k n t h => by obtain ⟨a, b, c⟩ := has_inj h HT.out; exact ⟨a, b, c⟩))
      go_wp2
      have z0 : w1.cell? ⟨w.heap.size, 0, none⟩ = some (.int .i64 0) := (by simp [go_sem, *]); have z1 : w1.cell? ⟨w.heap.size, 1, none⟩ = some (.int .i64 0) := (by simp [go_sem, *]); have z2 : w1.cell? ⟨w.heap.size, 2, none⟩ = some (.string ⟨#[]⟩) := (by simp [go_sem, *])
      exact bodyPost_ret (v := .tuple #[.agg #[.int .i64 0, .int .i64 0, .string ⟨#[]⟩], .bool false]) (by simp [results, Try.results28, go_sem, z0, z1, z2]) rfl (read_no HN.out (by (repeat (with_reducible first | exact Below.refl _ _ | exact HBD.out | (refine Below.trans ?_ (Below.mono hb1 (by first | omega | (simp; done) | (simp; omega))); clear hb1) | (refine Below.trans ?_ (Below.mono hb2 (by first | omega | (simp; done) | (simp; omega))); clear hb2) | (refine Below.trans ?_ (Below.mono hb3 (by first | omega | (simp; done) | (simp; omega))); clear hb3) | (refine Below.trans ?_ (Below.mono hb4 (by first | omega | (simp; done) | (simp; omega))); clear hb4) | (refine Below.trans ?_ (Below.mono hb5 (by first | omega | (simp; done) | (simp; omega))); clear hb5) | (refine Below.trans ?_ (Below.mono hb6 (by first | omega | (simp; done) | (simp; omega))); clear hb6) | (refine Below.trans ?_ (Below.mono hb7 (by first | omega | (simp; done) | (simp; omega))); clear hb7) | (refine Below.trans ?_ (Below.mono hb8 (by first | omega | (simp; done) | (simp; omega))); clear hb8) | (refine Below.trans ?_ (Below.mono hb9 (by first | omega | (simp; done) | (simp; omega))); clear hb9) | (refine Below.trans ?_ (Below.mono hb10 (by first | omega | (simp; done) | (simp; omega))); clear hb10) | refine Below.alloc ?_ (by first | omega | (simp; done) | (simp; omega)) _ | refine Below.setCell ?_ (by first | omega | (simp; done) | (simp; omega)) _ | refine Below.drew ?_))))
    · have HY := Lib.hid (s_yes HTT.out hq (fun hf => by rw [HT.out.1] at hf; cases hf))
      go_wp2
      have z0 : w1.cell? ⟨w.heap.size, 0, none⟩ = some (.int .i64 0) := (by simp [go_sem, *]); have z1 : w1.cell? ⟨w.heap.size, 1, none⟩ = some (.int .i64 0) := (by simp [go_sem, *]); have z2 : w1.cell? ⟨w.heap.size, 2, none⟩ = some (.string ⟨#[]⟩) := (by simp [go_sem, *])
      exact bodyPost_ret (v := .tuple #[.agg #[.int .i64 (3), .int .i64 (1), .string ⟨#[]⟩], .bool true]) (by simp [results, Try.results28, go_sem, z0, z1, z2]) rfl (read_yes HY.out (by (repeat (with_reducible first | exact Below.refl _ _ | exact HBD.out | (refine Below.trans ?_ (Below.mono hb1 (by first | omega | (simp; done) | (simp; omega))); clear hb1) | (refine Below.trans ?_ (Below.mono hb2 (by first | omega | (simp; done) | (simp; omega))); clear hb2) | (refine Below.trans ?_ (Below.mono hb3 (by first | omega | (simp; done) | (simp; omega))); clear hb3) | (refine Below.trans ?_ (Below.mono hb4 (by first | omega | (simp; done) | (simp; omega))); clear hb4) | (refine Below.trans ?_ (Below.mono hb5 (by first | omega | (simp; done) | (simp; omega))); clear hb5) | (refine Below.trans ?_ (Below.mono hb6 (by first | omega | (simp; done) | (simp; omega))); clear hb6) | (refine Below.trans ?_ (Below.mono hb7 (by first | omega | (simp; done) | (simp; omega))); clear hb7) | (refine Below.trans ?_ (Below.mono hb8 (by first | omega | (simp; done) | (simp; omega))); clear hb8) | (refine Below.trans ?_ (Below.mono hb9 (by first | omega | (simp; done) | (simp; omega))); clear hb9) | (refine Below.trans ?_ (Below.mono hb10 (by first | omega | (simp; done) | (simp; omega))); clear hb10) | refine Below.alloc ?_ (by first | omega | (simp; done) | (simp; omega)) _ | refine Below.setCell ?_ (by first | omega | (simp; done) | (simp; omega)) _ | refine Below.drew ?_))))
  by_cases hgt : 1 < s.size
  · have hp : 0 < s.size := by omega
    by_cases h39 : s[0] = 39
    · exact readS_text s w hs hp hgt h39
    by_cases h45 : s[0] = 45
    · exact readS_neg s w hs hp hgt h45
    · exact readS_num s w hs h0 h1 h2 (.inr ⟨hp, h39, h45, hgt⟩)
  · exact readS_num s w hs h0 h1 h2 (.inl (by omega))
/-- Both sides read alike. -/
theorem read_pair (s : ByteArray) (hs : s.size ≤ maxLen) : ∃ (k n : Int) (t : ByteArray) (b : Bool), ReadsV s.data.toList k n t b ∧
    (∀ w, Calls Try.prog 26 #[.string s] w fun e w' => e = .returned (.tuple #[.agg #[.int .i64 k, .int .i64 n, .string t], .bool b]) ∧ Below w.heap.size w w') ∧
    (∀ w, Calls Try.prog 28 #[.string s] w fun e w' => e = .returned (.tuple #[.agg #[.int .i64 k, .int .i64 n, .string t], .bool b]) ∧ Below w.heap.size w w') := by
  have key : ∃ (k n : Int) (t : ByteArray) (b : Bool), ReadsV s.data.toList k n t b := by
    by_cases h : ∃ k n t, HasText s.data.toList k n t
    · obtain ⟨k, n, t, h⟩ := h; exact ⟨k, n, t, true, .inl ⟨rfl, h⟩⟩
    · exact ⟨0, 0, ⟨#[]⟩, false, .inr ⟨rfl, rfl, rfl, rfl, fun k n t hh => h ⟨k, n, t, hh⟩⟩⟩
  obtain ⟨k, n, t, b, h⟩ := key
  refine ⟨k, n, t, b, h, fun w => (valueReadI s w hs).mono ?_, fun w => (valueReadS s w hs).mono ?_⟩
  all_goals
    rintro e w' ⟨k', n', t', b', rfl, h', hb⟩
    obtain ⟨rfl, rfl, rfl, rfl⟩ := reads_same h h'
    exact ⟨rfl, hb⟩
end Go.Proofs.Ytcaggcehcdikmaa.Val
