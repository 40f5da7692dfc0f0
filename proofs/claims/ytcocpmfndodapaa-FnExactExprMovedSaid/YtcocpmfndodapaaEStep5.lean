/- The kinds that stand after a part: values, columns, and none. -/
import Derived.Test.YtcocpmfndodapaaEStep
import Derived.Deep.RegionHeldLaw
namespace Go.Proofs.Ytcocpmfndodapaa.Val
open Go.RowKit
set_option linter.unusedVariables false
set_option linter.unusedSimpArgs false
set_option maxRecDepth 20000
set_option maxHeartbeats 2000000 in
theorem l4Step1 (A : Option Addr) (gc o cc : Nat) (cs : List CT) (g cap : Nat) (st : List Int) (vk vn : Int) (s : ByteArray) (B : Nat) (w : World) (hA : Fl w gc o A (flatC cs)) (hcs : cs.length ≤ 2000000) (own : w.ownsRow B 3 1 (.slice (some ⟨g, 0, none⟩) st.length cap) st.length (st.reverse.map iv)) (hB : B ≤ w.heap.size) (hst : st.length ≤ 100) (hs : s.size ≤ maxLen) : Calls Try.prog 62 #[.slice A cs.length cc, .slice (some ⟨g, 0, none⟩) st.length cap, aggP (1, 0, (vk, vn, s))] w (StepPost cs st (1, 0, (vk, vn, s)) B w) := by
  have OQ := Lib.hid own
  obtain ⟨hBg, hg, hc1, hc2⟩ := own_cap own
  clear own
  have hgn : ¬ (w.heap.size = g) := by omega
  obtain ⟨i0, hi, iz0, iz1, iz2⟩ := info_parts infoN
  unfold aggP
  simp only
  go_enter Try.func62, Try.ntmps62
  go_wp2_with (first | (go_at_call 91; ((with_reducible refine (valueOkS _ _ _ _ (by assumption)).mono ?_); rintro e w1 ⟨rfl, hb1⟩; have hz1 := hb1.size; (try simp at hz1); have HO := Lib.hid (own_below ((OQ.out).alloc _) hb1); have HB1 := Lib.hid (Below.trans ((Below.refl B w).alloc hB _) (hb1.mono (by simp; omega))); obtain ⟨hc1, hf1⟩ := bcell hb1; (try simp only [World.size_drew, World.cell?_drew, World.frozen?_drew] at hc1 hf1))) | (at_builtin; refine wpList_append_own _ rfl (.tmp 54) (.tmp 58) 41 rfl B 3 i0 (.int .i64 0) 1 8 Try.underlying41 hi iz0 iz1 iz2 rfl (by decide) (.slice (some ⟨g, 0, none⟩) (st.length) cap) (st.length) ((st.reverse.map iv)) rfl (by repeat (with_reducible first | exact HO.out | apply World.ownsRow.alloc | apply own_drew)) ⟨w1.heap.size, 0, none⟩ 1 1 [.int .i64 vk] rfl rfl (news_new (by simp)) (by simp [Value.oneCell']) (by unfold maxLen; omega) (by omega) (by simp; omega) ?_; intro v2 w2 hown2 hgr2 _; have OWN2 := Lib.hid hown2; have HB2 := Lib.hid (Below.grown (B := B) (a := w) (by repeat (with_reducible first | exact Below.refl B w | exact HB1.out | refine Below.alloc ?_ (by first | exact hB | (have := HB1.out.size; omega) | (have := HB1.out.size; simp; omega) | (simp; omega)) _ | apply Below.drew)) hgr2 (by simp; omega) (fun k hk => (HO.out.lt k hk).1)); clear hown2 hgr2))
  all_goals first
    | (have _ := OWN2
       refine bodyPost_ret (v := .tuple #[v2, .bool true]) (by simp [results, Try.results62, go_sem]) rfl (step_yes (st' := vk :: st) ?_ HB2.out OWN2.out (by simp) (by simp) (by simp [iv]))
       simp_all [stepK, partBad, okV]
       done)
    | (refine bodyPost_ret (v := .tuple #[.slice (some ⟨g, 0, none⟩) st.length cap, .bool false]) (by simp [results, Try.results62, go_sem]) rfl (step_no ?_ (by repeat (with_reducible first | exact Below.refl B w | exact HB1.out | refine Below.alloc ?_ (by first | exact hB | (have := HB1.out.size; omega) | (have := HB1.out.size; simp; omega) | (simp; omega)) _ | apply Below.drew)))
       simp_all [stepK, partBad, okV]
       done)
set_option maxHeartbeats 2000000 in
theorem l4Step2 (A : Option Addr) (gc o cc : Nat) (cs : List CT) (g cap : Nat) (st : List Int) (n : Int) (B : Nat) (w : World) (hA : Fl w gc o A (flatC cs)) (hcs : cs.length ≤ 2000000) (own : w.ownsRow B 3 1 (.slice (some ⟨g, 0, none⟩) st.length cap) st.length (st.reverse.map iv)) (hB : B ≤ w.heap.size) (hst : st.length ≤ 100) : Calls Try.prog 62 #[.slice A cs.length cc, .slice (some ⟨g, 0, none⟩) st.length cap, aggP (2, n, nilV)] w (StepPost cs st (2, n, nilV) B w) := by
  have OQ := Lib.hid own
  obtain ⟨hBg, hg, hc1, hc2⟩ := own_cap own
  clear own
  have hgn : ¬ (w.heap.size = g) := by omega
  obtain ⟨i0, hi, iz0, iz1, iz2⟩ := info_parts infoN
  rcases Decidable.em (0 ≤ n ∧ n < cs.length) with ⟨hn0, hn1⟩ | hn
  · obtain ⟨N, rfl⟩ := Int.eq_ofNat_of_zero_le hn0
    have hN : N < cs.length := by omega
    have hin : (decide ((0 : Int) ≤ (N : Int)) && decide ((N : Int) ≤ (cs.length : Int) - 1)) = true := by simp; omega
    have HS := Lib.hid (show stepK cs (2, (N : Int), nilV) st = some (cs[N].1 :: st) by simp [stepK, partBad, isNil, nilV, colAt, hN])
    obtain ⟨rfl, hg2, c0, -⟩ := hA.cl N hN
    have hgn2 : ¬ (w.heap.size = gc) := by omega
    obtain ⟨K, hK⟩ : ∃ K, cs[N].1 = K := ⟨_, rfl⟩
    rw [hK] at c0 HS
    clear hK hA
    have i0' : (0 : Int) ≤ (N : Int) := by omega
    have i1' : (N : Int) < (cs.length : Int) := by omega
    unfold aggP nilV
    simp only
    go_enter Try.func62, Try.ntmps62
    go_wp2_with (first | (go_at_call 74; ((with_reducible refine (l1In _ _ _ _).mono ?_); rintro e w1 ⟨rfl, rfl⟩)) | (at_builtin; refine wpList_append_own _ rfl (.tmp 70) (.tmp 77) 41 rfl B 3 i0 (.int .i64 0) 1 8 Try.underlying41 hi iz0 iz1 iz2 rfl (by decide) (.slice (some ⟨g, 0, none⟩) (st.length) cap) (st.length) ((st.reverse.map iv)) rfl (by repeat (with_reducible first | exact OQ.out | apply World.ownsRow.alloc | apply own_drew)) ⟨w.heap.size + 1, 0, none⟩ 1 1 [.int .i64 K] rfl rfl (news_new (by simp)) (by simp [Value.oneCell']) (by unfold maxLen; omega) (by omega) (by simp; omega) ?_; intro v2 w2 hown2 hgr2 _; have OWN2 := Lib.hid hown2; have HB2 := Lib.hid (Below.grown (B := B) (a := w) (by repeat (with_reducible first | exact Below.refl B w | refine Below.alloc ?_ (by first | exact hB | (simp; omega)) _ | apply Below.drew)) hgr2 (by simp; omega) (fun k hk => (OQ.out.lt k hk).1)); clear hown2 hgr2))
    all_goals first
      | (have _ := OWN2
         refine bodyPost_ret (v := .tuple #[v2, .bool true]) (by simp [results, Try.results62, go_sem]) rfl (step_yes HS.out HB2.out OWN2.out (by simp) (by simp) (by simp [iv]))
         done)
      | (exfalso; simp at *; omega)
  · have hin : (decide ((0 : Int) ≤ n) && decide (n ≤ (cs.length : Int) - 1)) = false := by simp; omega
    have HS := Lib.hid (show stepK cs (2, n, nilV) st = none by simp [stepK, partBad, isNil, nilV]; omega)
    clear hn
    unfold aggP nilV
    simp only
    go_enter Try.func62, Try.ntmps62
    go_wp2_with (first | (go_at_call 74; ((with_reducible refine (l1In _ _ _ _).mono ?_); rintro e w1 ⟨rfl, rfl⟩)))
    all_goals first
      | (exfalso; simp at *; omega)
      | (refine bodyPost_ret (v := .tuple #[.slice (some ⟨g, 0, none⟩) st.length cap, .bool false]) (by simp [results, Try.results62, go_sem]) rfl (step_no HS.out (by repeat (with_reducible first | exact Below.refl B w | refine Below.alloc ?_ (by first | exact hB | (simp; omega)) _ | apply Below.drew))); done)
set_option maxHeartbeats 2000000 in
theorem l4StepNo (A : Option Addr) (gc o cc : Nat) (cs : List CT) (g cap : Nat) (st : List Int) (k : Int) (B : Nat) (w : World) (hA : Fl w gc o A (flatC cs)) (hcs : cs.length ≤ 2000000) (own : w.ownsRow B 3 1 (.slice (some ⟨g, 0, none⟩) st.length cap) st.length (st.reverse.map iv)) (hB : B ≤ w.heap.size) (hst : st.length ≤ 100) (h : k ≠ 1 ∧ k ≠ 2 ∧ k ≠ 3 ∧ k ≠ 4 ∧ k ≠ 5 ∧ k ≠ 6 ∧ k ≠ 7 ∧ k ≠ 8) : Calls Try.prog 62 #[.slice A cs.length cc, .slice (some ⟨g, 0, none⟩) st.length cap, aggP (k, 0, nilV)] w (StepPost cs st (k, 0, nilV) B w) := by
  have OQ := Lib.hid own
  obtain ⟨hBg, hg, hc1, hc2⟩ := own_cap own
  clear own
  have hgn : ¬ (w.heap.size = g) := by omega
  obtain ⟨i0, hi, iz0, iz1, iz2⟩ := info_parts infoN
  obtain ⟨h1, h2, h3, h4, h5, h6, h7, h8⟩ := h
  have HS := Lib.hid (show stepK cs (k, 0, nilV) st = none by rcases st with _ | ⟨a, _ | ⟨b, q⟩⟩ <;> simp [stepK, partBad, isNil, nilV, h1, h2, h3, h4, h5, h6, h7, h8])
  unfold aggP nilV
  simp only
  go_enter Try.func62, Try.ntmps62
  go_wp2
  all_goals first
    | contradiction
    | (refine bodyPost_ret (v := .tuple #[.slice (some ⟨g, 0, none⟩) st.length cap, .bool false]) (by simp [results, Try.results62, go_sem]) rfl (step_no HS.out (by repeat (with_reducible first | exact Below.refl B w | refine Below.alloc ?_ (by first | exact hB | (simp; omega)) _ | apply Below.drew))); done)
end Go.Proofs.Ytcocpmfndodapaa.Val
