/- The kinds that stand after a part: comparisons. -/
import Derived.Test.YtcocpmfndodapaaEStep
import Derived.Deep.RegionHeldLaw
namespace Go.Proofs.Ytcocpmfndodapaa.Val
open Go.RowKit
set_option linter.unusedVariables false
set_option linter.unusedSimpArgs false
set_option maxRecDepth 20000
set_option maxHeartbeats 2000000 in
theorem l4Step4C (A : Option Addr) (cc : Nat) (cs : List CT) (g cap : Nat) (n a b : Int) (q : List Int) (B : Nat) (w : World) (own : w.ownsRow B 3 1 (.slice (some ⟨g, 0, none⟩) (q.length + 1 + 1) cap) (q.length + 1 + 1) ((a :: b :: q).reverse.map iv)) (hB : B ≤ w.heap.size) (hst : (a :: b :: q).length ≤ 100) : Calls Try.prog 62 #[.slice A cs.length cc, .slice (some ⟨g, 0, none⟩) (q.length + 1 + 1) cap, aggP (4, n, nilV)] w (StepPost cs (a :: b :: q) (4, n, nilV) B w) := by
  have ha := own_rev (x := [a, b]) (l := q) own 1 (by simp)
  have hb := own_rev (x := [a, b]) (l := q) own 0 (by simp)
  simp at ha hb
  have OQ := Lib.hid (own_fewer (x := [a, b]) (l := q) own)
  obtain ⟨hBg, hg, hc1, hc2⟩ := own_cap own
  clear own
  have hgn : ¬ (w.heap.size = g) := by omega
  obtain ⟨i0, hi, iz0, iz1, iz2⟩ := info_parts infoN
  simp only [List.length_cons] at hst
  have kw1 : IntKind.i64.wrap ((q.length : Int) + 1) = (q.length : Int) + 1 := IntWalk.i64_in _ (by omega)
  have kw2 : IntKind.i64.wrap ((q.length : Int) + 1 + 1 - 2) = (q.length : Int) := by rw [IntWalk.i64_in _ (by omega)]; omega
  have k3 : (0 : Int) ≤ (q.length : Int) := by omega
  have k4 : (q.length : Int) < (q.length : Int) + 1 + 1 := by omega
  have k7 : (0 : Int) ≤ (q.length : Int) + 1 := by omega
  have k8 : (q.length : Int) + 1 < (q.length : Int) + 1 + 1 := by omega
  have k9 : ((q.length : Int) + 1).toNat = q.length + 1 := by omega
  have hgt : decide ((1 : Int) < (q.length : Int) + 1 + 1) = true := by simp; omega
  rcases Decidable.em (a = b) with rfl | ha1
  · have haa : (a == a) = true := by simp
    rcases Decidable.em (1 ≤ n ∧ n ≤ 4) with hn | hn
    · have hn1 : (decide ((1 : Int) ≤ n) && decide (n ≤ 4)) = true := by simp [hn]
      unfold aggP nilV
      simp only
      go_enter Try.func62, Try.ntmps62
      go_wp2_with (go_at_call 74; ((with_reducible refine (l1In _ _ _ _).mono ?_); rintro e w1 ⟨rfl, rfl⟩))
      go_region_held_law (fun w' => w'.cell? ⟨w.heap.size, 1, none⟩ = some (.int .i64 n) ∧ w'.cell? ⟨g, q.length + 1, none⟩ = some (.int .i64 a) ∧ w'.cell? ⟨g, q.length, none⟩ = some (.int .i64 a)) (go_keep) (first | (go_at_call 74; ((with_reducible refine (l1In _ _ _ _).mono ?_); rintro e w1 ⟨rfl, rfl⟩)))
      all_goals clear kw1 kw2 k3 k4 k7 k8 k9
      all_goals go_wp2_with (at_builtin; refine wpList_append_own _ rfl (.tmp 133) (.tmp 134) 41 rfl B 3 i0 (.int .i64 0) 1 8 Try.underlying41 hi iz0 iz1 iz2 rfl (by decide) (.slice (some ⟨g, 0, none⟩) (q.length) cap) (q.length) ((q.reverse.map iv)) rfl (by repeat (with_reducible first | exact OQ.out | apply World.ownsRow.alloc | apply own_drew)) ⟨w.heap.size + 1, 0, none⟩ 1 1 [.int .i64 3] rfl rfl (news_new (by simp)) (by simp [Value.oneCell']) (by unfold maxLen; omega) (by omega) (by simp; omega) ?_; intro v2 w2 hown2 hgr2 _; have OWN2 := Lib.hid hown2; have HB2 := Lib.hid (Below.grown (B := B) (a := w) (by repeat (with_reducible first | exact Below.refl B w | refine Below.alloc ?_ (by first | exact hB | (simp; omega)) _ | apply Below.drew)) hgr2 (by simp; omega) (fun k hk => (OQ.out.lt k hk).1)); clear hown2 hgr2)
      all_goals (refine bodyPost_ret (v := .tuple #[v2, .bool true]) (by simp [results, Try.results62, go_sem]) rfl (step_yes (st' := 3 :: q) (by simp [stepK, partBad, isNil, nilV, *]) HB2.out OWN2.out (by simp) (by simp) (by simp [iv])); done)
    · have hn1 : (decide ((1 : Int) ≤ n) && decide (n ≤ 4)) = false := by simp; omega
      unfold aggP nilV
      simp only
      go_enter Try.func62, Try.ntmps62
      go_wp2_with (go_at_call 74; ((with_reducible refine (l1In _ _ _ _).mono ?_); rintro e w1 ⟨rfl, rfl⟩))
      go_region_held_law (fun w' => w'.cell? ⟨w.heap.size, 1, none⟩ = some (.int .i64 n) ∧ w'.cell? ⟨g, q.length + 1, none⟩ = some (.int .i64 a) ∧ w'.cell? ⟨g, q.length, none⟩ = some (.int .i64 a)) (go_keep) (first | (go_at_call 74; ((with_reducible refine (l1In _ _ _ _).mono ?_); rintro e w1 ⟨rfl, rfl⟩)))
      all_goals clear kw1 kw2 k3 k4 k7 k8 k9
      all_goals go_wp2_with (at_builtin; refine wpList_append_own _ rfl (.tmp 133) (.tmp 134) 41 rfl B 3 i0 (.int .i64 0) 1 8 Try.underlying41 hi iz0 iz1 iz2 rfl (by decide) (.slice (some ⟨g, 0, none⟩) (q.length) cap) (q.length) ((q.reverse.map iv)) rfl (by repeat (with_reducible first | exact OQ.out | apply World.ownsRow.alloc | apply own_drew)) ⟨w.heap.size + 1, 0, none⟩ 1 1 [.int .i64 3] rfl rfl (news_new (by simp)) (by simp [Value.oneCell']) (by unfold maxLen; omega) (by omega) (by simp; omega) ?_; intro v2 w2 hown2 hgr2 _; have OWN2 := Lib.hid hown2; have HB2 := Lib.hid (Below.grown (B := B) (a := w) (by repeat (with_reducible first | exact Below.refl B w | refine Below.alloc ?_ (by first | exact hB | (simp; omega)) _ | apply Below.drew)) hgr2 (by simp; omega) (fun k hk => (OQ.out.lt k hk).1)); clear hown2 hgr2)
      all_goals (refine bodyPost_ret (v := .tuple #[v2, .bool false]) (by simp [results, Try.results62, go_sem]) rfl (step_no (by simp [stepK, partBad, isNil, nilV]; omega) HB2.out); done)
  · have haa : (a == b) = false := by simp [ha1]
    unfold aggP nilV
    simp only
    go_enter Try.func62, Try.ntmps62
    go_wp2_with (go_at_call 74; ((with_reducible refine (l1In _ _ _ _).mono ?_); rintro e w1 ⟨rfl, rfl⟩))
    go_region
    all_goals clear kw1 kw2 k3 k4 k7 k8 k9
    all_goals go_wp2_with (at_builtin; refine wpList_append_own _ rfl (.tmp 133) (.tmp 134) 41 rfl B 3 i0 (.int .i64 0) 1 8 Try.underlying41 hi iz0 iz1 iz2 rfl (by decide) (.slice (some ⟨g, 0, none⟩) (q.length) cap) (q.length) ((q.reverse.map iv)) rfl (by repeat (with_reducible first | exact OQ.out | apply World.ownsRow.alloc | apply own_drew)) ⟨w.heap.size + 1, 0, none⟩ 1 1 [.int .i64 3] rfl rfl (news_new (by simp)) (by simp [Value.oneCell']) (by unfold maxLen; omega) (by omega) (by simp; omega) ?_; intro v2 w2 hown2 hgr2 _; have OWN2 := Lib.hid hown2; have HB2 := Lib.hid (Below.grown (B := B) (a := w) (by repeat (with_reducible first | exact Below.refl B w | refine Below.alloc ?_ (by first | exact hB | (simp; omega)) _ | apply Below.drew)) hgr2 (by simp; omega) (fun k hk => (OQ.out.lt k hk).1)); clear hown2 hgr2)
    all_goals (refine bodyPost_ret (v := .tuple #[v2, .bool false]) (by simp [results, Try.results62, go_sem]) rfl (step_no (by simp [stepK, partBad, isNil, nilV, *]) HB2.out); done)
set_option maxHeartbeats 2000000 in
theorem l4Step4B (A : Option Addr) (cc : Nat) (cs : List CT) (g cap : Nat) (n a : Int) (B : Nat) (w : World) (own : w.ownsRow B 3 1 (.slice (some ⟨g, 0, none⟩) (1) cap) (1) (([a]).reverse.map iv)) (hB : B ≤ w.heap.size) (hst : ([a]).length ≤ 100) : Calls Try.prog 62 #[.slice A cs.length cc, .slice (some ⟨g, 0, none⟩) (1) cap, aggP (4, n, nilV)] w (StepPost cs ([a]) (4, n, nilV) B w) := by
  have OQ : Hid (w.ownsRow B 3 1 (.slice (some ⟨g, 0, none⟩) 0 cap) 0 []) := own_fewer (x := [a]) (l := []) own
  have ha := own_rev (x := [a]) (l := []) own 0 (by simp)
  simp at ha
  obtain ⟨hBg, hg, hc1, hc2⟩ := own_cap own
  clear own
  have hgn : ¬ (w.heap.size = g) := by omega
  obtain ⟨i0, hi, iz0, iz1, iz2⟩ := info_parts infoN
  unfold aggP nilV
  simp only
  go_enter Try.func62, Try.ntmps62
  go_wp2_with (go_at_call 74; ((with_reducible refine (l1In _ _ _ _).mono ?_); rintro e w1 ⟨rfl, rfl⟩))
  go_region
  all_goals go_wp2_with (at_builtin; refine wpList_append_own _ rfl (.tmp 133) (.tmp 134) 41 rfl B 3 i0 (.int .i64 0) 1 8 Try.underlying41 hi iz0 iz1 iz2 rfl (by decide) (.slice (some ⟨g, 0, none⟩) (0) cap) (0) ([]) rfl (by repeat (with_reducible first | exact OQ.out | apply World.ownsRow.alloc | apply own_drew)) ⟨w.heap.size + 1, 0, none⟩ 1 1 [.int .i64 3] rfl rfl (news_new (by simp)) (by simp [Value.oneCell']) (by unfold maxLen; omega) (by omega) (by simp; omega) ?_; intro v2 w2 hown2 hgr2 _; have OWN2 := Lib.hid hown2; have HB2 := Lib.hid (Below.grown (B := B) (a := w) (by repeat (with_reducible first | exact Below.refl B w | refine Below.alloc ?_ (by first | exact hB | (simp; omega)) _ | apply Below.drew)) hgr2 (by simp; omega) (fun k hk => (OQ.out.lt k hk).1)); clear hown2 hgr2)
  all_goals (refine bodyPost_ret (v := .tuple #[v2, .bool false]) (by simp [results, Try.results62, go_sem]) rfl (step_no (by simp [stepK, partBad, isNil, nilV, *]) HB2.out); done)
set_option maxHeartbeats 2000000 in
theorem l4Step4A (A : Option Addr) (cc : Nat) (cs : List CT) (g cap : Nat) (n : Int) (B : Nat) (w : World) (own : w.ownsRow B 3 1 (.slice (some ⟨g, 0, none⟩) (0) cap) (0) ((([] : List Int)).reverse.map iv)) (hB : B ≤ w.heap.size) (hst : (([] : List Int)).length ≤ 100) : Calls Try.prog 62 #[.slice A cs.length cc, .slice (some ⟨g, 0, none⟩) (0) cap, aggP (4, n, nilV)] w (StepPost cs (([] : List Int)) (4, n, nilV) B w) := by
  have OQ : Hid (w.ownsRow B 3 1 (.slice (some ⟨g, 0, none⟩) 0 cap) 0 []) := own
  obtain ⟨hBg, hg, hc1, hc2⟩ := own_cap own
  clear own
  have hgn : ¬ (w.heap.size = g) := by omega
  obtain ⟨i0, hi, iz0, iz1, iz2⟩ := info_parts infoN
  unfold aggP nilV
  simp only
  go_enter Try.func62, Try.ntmps62
  go_wp2_with (go_at_call 74; ((with_reducible refine (l1In _ _ _ _).mono ?_); rintro e w1 ⟨rfl, rfl⟩))
  go_region
  all_goals go_wp2_with (at_builtin; refine wpList_append_own _ rfl (.tmp 133) (.tmp 134) 41 rfl B 3 i0 (.int .i64 0) 1 8 Try.underlying41 hi iz0 iz1 iz2 rfl (by decide) (.slice (some ⟨g, 0, none⟩) (0) cap) (0) ([]) rfl (by repeat (with_reducible first | exact OQ.out | apply World.ownsRow.alloc | apply own_drew)) ⟨w.heap.size + 1, 0, none⟩ 1 1 [.int .i64 3] rfl rfl (news_new (by simp)) (by simp [Value.oneCell']) (by unfold maxLen; omega) (by omega) (by simp; omega) ?_; intro v2 w2 hown2 hgr2 _; have OWN2 := Lib.hid hown2; have HB2 := Lib.hid (Below.grown (B := B) (a := w) (by repeat (with_reducible first | exact Below.refl B w | refine Below.alloc ?_ (by first | exact hB | (simp; omega)) _ | apply Below.drew)) hgr2 (by simp; omega) (fun k hk => (OQ.out.lt k hk).1)); clear hown2 hgr2)
  all_goals (refine bodyPost_ret (v := .tuple #[v2, .bool false]) (by simp [results, Try.results62, go_sem]) rfl (step_no (by simp [stepK, partBad, isNil, nilV, *]) HB2.out); done)
end Go.Proofs.Ytcocpmfndodapaa.Val
