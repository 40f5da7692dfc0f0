/- The kinds that stand after a part: sums and truths of two. -/
import Derived.Test.YtcocpmfndodapaaEStep
import Derived.Deep.RegionHeldLaw
namespace Go.Proofs.Ytcocpmfndodapaa.Val
open Go.RowKit
set_option linter.unusedVariables false
set_option linter.unusedSimpArgs false
set_option maxRecDepth 20000
set_option maxHeartbeats 2000000 in
theorem l4Step3C (A : Option Addr) (cc : Nat) (cs : List CT) (g cap : Nat) (a b : Int) (q : List Int) (B : Nat) (w : World) (own : w.ownsRow B 3 1 (.slice (some ⟨g, 0, none⟩) (q.length + 1 + 1) cap) (q.length + 1 + 1) ((a :: b :: q).reverse.map iv)) (hB : B ≤ w.heap.size) (hst : (a :: b :: q).length ≤ 100) : Calls Try.prog 62 #[.slice A cs.length cc, .slice (some ⟨g, 0, none⟩) (q.length + 1 + 1) cap, aggP (3, 0, nilV)] w (StepPost cs (a :: b :: q) (3, 0, nilV) B w) := by
  have ha := own_rev (x := [a, b]) (l := q) own 1 (by simp)
  have hb := own_rev (x := [a, b]) (l := q) own 0 (by simp)
  simp at ha hb
  have OQ := Lib.hid (own_fewer (x := [a, b]) (l := q) own)
  obtain ⟨hBg, hg, hc1, hc2⟩ := own_cap own
  clear own
  have hgn : ¬ (w.heap.size = g) := by omega
  obtain ⟨i0, hi, iz0, iz1, iz2⟩ := info_parts infoN
  simp only [List.length_cons] at hst
  rcases Decidable.em (a = 1) with rfl | ha1
  · rcases Decidable.em (b = 1) with rfl | hb1
    · unfold aggP nilV
      simp only
      go_enter Try.func62, Try.ntmps62
      go_wp2_with (at_builtin; refine wpList_append_own _ rfl (.tmp 103) (.tmp 104) 41 rfl B 3 i0 (.int .i64 0) 1 8 Try.underlying41 hi iz0 iz1 iz2 rfl (by decide) (.slice (some ⟨g, 0, none⟩) (q.length) cap) (q.length) ((q.reverse.map iv)) rfl (((OQ.out).alloc _).alloc _) ⟨w.heap.size + 1, 0, none⟩ 1 1 [.int .i64 1] rfl rfl (news_new (by simp)) (by simp [Value.oneCell']) (by unfold maxLen; omega) (by omega) (by simp; omega) ?_; intro v2 w2 hown2 hgr2 _; have OWN2 := Lib.hid hown2; have HB2 := Lib.hid (Below.grown (B := B) (a := w) (((Below.refl B w).alloc hB _).alloc (by simp; omega) _) hgr2 (by simp; omega) (fun k hk => (OQ.out.lt k hk).1)); clear hown2 hgr2)
      all_goals (refine bodyPost_ret (v := .tuple #[v2, .bool true]) (by simp [results, Try.results62, go_sem]) rfl (step_yes (st' := 1 :: q) (by simp [stepK, partBad, isNil, nilV, *]) HB2.out OWN2.out (by simp) (by simp) (by simp [iv])); done)
    · have hbb : (b == 1) = false := by simp [hb1]
      unfold aggP nilV
      simp only
      go_enter Try.func62, Try.ntmps62
      go_wp2_with (at_builtin; refine wpList_append_own _ rfl (.tmp 103) (.tmp 104) 41 rfl B 3 i0 (.int .i64 0) 1 8 Try.underlying41 hi iz0 iz1 iz2 rfl (by decide) (.slice (some ⟨g, 0, none⟩) (q.length) cap) (q.length) ((q.reverse.map iv)) rfl (((OQ.out).alloc _).alloc _) ⟨w.heap.size + 1, 0, none⟩ 1 1 [.int .i64 1] rfl rfl (news_new (by simp)) (by simp [Value.oneCell']) (by unfold maxLen; omega) (by omega) (by simp; omega) ?_; intro v2 w2 hown2 hgr2 _; have OWN2 := Lib.hid hown2; have HB2 := Lib.hid (Below.grown (B := B) (a := w) (((Below.refl B w).alloc hB _).alloc (by simp; omega) _) hgr2 (by simp; omega) (fun k hk => (OQ.out.lt k hk).1)); clear hown2 hgr2)
      all_goals (refine bodyPost_ret (v := .tuple #[v2, .bool false]) (by simp [results, Try.results62, go_sem]) rfl (step_no (by simp [stepK, partBad, isNil, nilV, *]) HB2.out); done)
  · have haa : (a == 1) = false := by simp [ha1]
    unfold aggP nilV
    simp only
    go_enter Try.func62, Try.ntmps62
    go_wp2_with (at_builtin; refine wpList_append_own _ rfl (.tmp 103) (.tmp 104) 41 rfl B 3 i0 (.int .i64 0) 1 8 Try.underlying41 hi iz0 iz1 iz2 rfl (by decide) (.slice (some ⟨g, 0, none⟩) (q.length) cap) (q.length) ((q.reverse.map iv)) rfl (((OQ.out).alloc _).alloc _) ⟨w.heap.size + 1, 0, none⟩ 1 1 [.int .i64 1] rfl rfl (news_new (by simp)) (by simp [Value.oneCell']) (by unfold maxLen; omega) (by omega) (by simp; omega) ?_; intro v2 w2 hown2 hgr2 _; have OWN2 := Lib.hid hown2; have HB2 := Lib.hid (Below.grown (B := B) (a := w) (((Below.refl B w).alloc hB _).alloc (by simp; omega) _) hgr2 (by simp; omega) (fun k hk => (OQ.out.lt k hk).1)); clear hown2 hgr2)
    all_goals (refine bodyPost_ret (v := .tuple #[v2, .bool false]) (by simp [results, Try.results62, go_sem]) rfl (step_no (by simp [stepK, partBad, isNil, nilV, *]) HB2.out); done)
set_option maxHeartbeats 2000000 in
theorem l4Step3B (A : Option Addr) (cc : Nat) (cs : List CT) (g cap : Nat) (a : Int) (B : Nat) (w : World) (own : w.ownsRow B 3 1 (.slice (some ⟨g, 0, none⟩) (1) cap) (1) (([a]).reverse.map iv)) (hB : B ≤ w.heap.size) (hst : ([a]).length ≤ 100) : Calls Try.prog 62 #[.slice A cs.length cc, .slice (some ⟨g, 0, none⟩) (1) cap, aggP (3, 0, nilV)] w (StepPost cs ([a]) (3, 0, nilV) B w) := by
  have OQ : Hid (w.ownsRow B 3 1 (.slice (some ⟨g, 0, none⟩) 0 cap) 0 []) := own_fewer (x := [a]) (l := []) own
  have ha := own_rev (x := [a]) (l := []) own 0 (by simp)
  simp at ha
  obtain ⟨hBg, hg, hc1, hc2⟩ := own_cap own
  clear own
  have hgn : ¬ (w.heap.size = g) := by omega
  obtain ⟨i0, hi, iz0, iz1, iz2⟩ := info_parts infoN
  unfold aggP nilV
  simp only
  go_enter Try.func62, Try.ntmps62
  go_wp2_with (at_builtin; refine wpList_append_own _ rfl (.tmp 103) (.tmp 104) 41 rfl B 3 i0 (.int .i64 0) 1 8 Try.underlying41 hi iz0 iz1 iz2 rfl (by decide) (.slice (some ⟨g, 0, none⟩) (0) cap) (0) ([]) rfl (((OQ.out).alloc _).alloc _) ⟨w.heap.size + 1, 0, none⟩ 1 1 [.int .i64 1] rfl rfl (news_new (by simp)) (by simp [Value.oneCell']) (by unfold maxLen; omega) (by omega) (by simp; omega) ?_; intro v2 w2 hown2 hgr2 _; have OWN2 := Lib.hid hown2; have HB2 := Lib.hid (Below.grown (B := B) (a := w) (((Below.refl B w).alloc hB _).alloc (by simp; omega) _) hgr2 (by simp; omega) (fun k hk => (OQ.out.lt k hk).1)); clear hown2 hgr2)
  all_goals (refine bodyPost_ret (v := .tuple #[v2, .bool false]) (by simp [results, Try.results62, go_sem]) rfl (step_no (by simp [stepK, partBad, isNil, nilV, *]) HB2.out); done)
set_option maxHeartbeats 2000000 in
theorem l4Step3A (A : Option Addr) (cc : Nat) (cs : List CT) (g cap : Nat)  (B : Nat) (w : World) (own : w.ownsRow B 3 1 (.slice (some ⟨g, 0, none⟩) (0) cap) (0) ((([] : List Int)).reverse.map iv)) (hB : B ≤ w.heap.size) (hst : (([] : List Int)).length ≤ 100) : Calls Try.prog 62 #[.slice A cs.length cc, .slice (some ⟨g, 0, none⟩) (0) cap, aggP (3, 0, nilV)] w (StepPost cs (([] : List Int)) (3, 0, nilV) B w) := by
  have OQ : Hid (w.ownsRow B 3 1 (.slice (some ⟨g, 0, none⟩) 0 cap) 0 []) := own
  obtain ⟨hBg, hg, hc1, hc2⟩ := own_cap own
  clear own
  have hgn : ¬ (w.heap.size = g) := by omega
  obtain ⟨i0, hi, iz0, iz1, iz2⟩ := info_parts infoN
  unfold aggP nilV
  simp only
  go_enter Try.func62, Try.ntmps62
  go_wp2_with (at_builtin; refine wpList_append_own _ rfl (.tmp 103) (.tmp 104) 41 rfl B 3 i0 (.int .i64 0) 1 8 Try.underlying41 hi iz0 iz1 iz2 rfl (by decide) (.slice (some ⟨g, 0, none⟩) (0) cap) (0) ([]) rfl (((OQ.out).alloc _).alloc _) ⟨w.heap.size + 1, 0, none⟩ 1 1 [.int .i64 1] rfl rfl (news_new (by simp)) (by simp [Value.oneCell']) (by unfold maxLen; omega) (by omega) (by simp; omega) ?_; intro v2 w2 hown2 hgr2 _; have OWN2 := Lib.hid hown2; have HB2 := Lib.hid (Below.grown (B := B) (a := w) (((Below.refl B w).alloc hB _).alloc (by simp; omega) _) hgr2 (by simp; omega) (fun k hk => (OQ.out.lt k hk).1)); clear hown2 hgr2)
  all_goals (refine bodyPost_ret (v := .tuple #[v2, .bool false]) (by simp [results, Try.results62, go_sem]) rfl (step_no (by simp [stepK, partBad, isNil, nilV, *]) HB2.out); done)
set_option maxHeartbeats 2000000 in
theorem l4Step5C (A : Option Addr) (cc : Nat) (cs : List CT) (g cap : Nat) (a b : Int) (q : List Int) (B : Nat) (w : World) (own : w.ownsRow B 3 1 (.slice (some ⟨g, 0, none⟩) (q.length + 1 + 1) cap) (q.length + 1 + 1) ((a :: b :: q).reverse.map iv)) (hB : B ≤ w.heap.size) (hst : (a :: b :: q).length ≤ 100) : Calls Try.prog 62 #[.slice A cs.length cc, .slice (some ⟨g, 0, none⟩) (q.length + 1 + 1) cap, aggP (5, 0, nilV)] w (StepPost cs (a :: b :: q) (5, 0, nilV) B w) := by
  have ha := own_rev (x := [a, b]) (l := q) own 1 (by simp)
  have hb := own_rev (x := [a, b]) (l := q) own 0 (by simp)
  simp at ha hb
  have OQ := Lib.hid (own_fewer (x := [a, b]) (l := q) own)
  obtain ⟨hBg, hg, hc1, hc2⟩ := own_cap own
  clear own
  have hgn : ¬ (w.heap.size = g) := by omega
  obtain ⟨i0, hi, iz0, iz1, iz2⟩ := info_parts infoN
  simp only [List.length_cons] at hst
  rcases Decidable.em (a = 3) with rfl | ha1
  · rcases Decidable.em (b = 3) with rfl | hb1
    · unfold aggP nilV
      simp only
      go_enter Try.func62, Try.ntmps62
      go_wp2_with (at_builtin; refine wpList_append_own _ rfl (.tmp 162) (.tmp 163) 41 rfl B 3 i0 (.int .i64 0) 1 8 Try.underlying41 hi iz0 iz1 iz2 rfl (by decide) (.slice (some ⟨g, 0, none⟩) (q.length) cap) (q.length) ((q.reverse.map iv)) rfl (((OQ.out).alloc _).alloc _) ⟨w.heap.size + 1, 0, none⟩ 1 1 [.int .i64 3] rfl rfl (news_new (by simp)) (by simp [Value.oneCell']) (by unfold maxLen; omega) (by omega) (by simp; omega) ?_; intro v2 w2 hown2 hgr2 _; have OWN2 := Lib.hid hown2; have HB2 := Lib.hid (Below.grown (B := B) (a := w) (((Below.refl B w).alloc hB _).alloc (by simp; omega) _) hgr2 (by simp; omega) (fun k hk => (OQ.out.lt k hk).1)); clear hown2 hgr2)
      all_goals (refine bodyPost_ret (v := .tuple #[v2, .bool true]) (by simp [results, Try.results62, go_sem]) rfl (step_yes (st' := 3 :: q) (by simp [stepK, partBad, isNil, nilV, *]) HB2.out OWN2.out (by simp) (by simp) (by simp [iv])); done)
    · have hbb : (b == 3) = false := by simp [hb1]
      unfold aggP nilV
      simp only
      go_enter Try.func62, Try.ntmps62
      go_wp2_with (at_builtin; refine wpList_append_own _ rfl (.tmp 162) (.tmp 163) 41 rfl B 3 i0 (.int .i64 0) 1 8 Try.underlying41 hi iz0 iz1 iz2 rfl (by decide) (.slice (some ⟨g, 0, none⟩) (q.length) cap) (q.length) ((q.reverse.map iv)) rfl (((OQ.out).alloc _).alloc _) ⟨w.heap.size + 1, 0, none⟩ 1 1 [.int .i64 3] rfl rfl (news_new (by simp)) (by simp [Value.oneCell']) (by unfold maxLen; omega) (by omega) (by simp; omega) ?_; intro v2 w2 hown2 hgr2 _; have OWN2 := Lib.hid hown2; have HB2 := Lib.hid (Below.grown (B := B) (a := w) (((Below.refl B w).alloc hB _).alloc (by simp; omega) _) hgr2 (by simp; omega) (fun k hk => (OQ.out.lt k hk).1)); clear hown2 hgr2)
      all_goals (refine bodyPost_ret (v := .tuple #[v2, .bool false]) (by simp [results, Try.results62, go_sem]) rfl (step_no (by simp [stepK, partBad, isNil, nilV, *]) HB2.out); done)
  · have haa : (a == 3) = false := by simp [ha1]
    unfold aggP nilV
    simp only
    go_enter Try.func62, Try.ntmps62
    go_wp2_with (at_builtin; refine wpList_append_own _ rfl (.tmp 162) (.tmp 163) 41 rfl B 3 i0 (.int .i64 0) 1 8 Try.underlying41 hi iz0 iz1 iz2 rfl (by decide) (.slice (some ⟨g, 0, none⟩) (q.length) cap) (q.length) ((q.reverse.map iv)) rfl (((OQ.out).alloc _).alloc _) ⟨w.heap.size + 1, 0, none⟩ 1 1 [.int .i64 3] rfl rfl (news_new (by simp)) (by simp [Value.oneCell']) (by unfold maxLen; omega) (by omega) (by simp; omega) ?_; intro v2 w2 hown2 hgr2 _; have OWN2 := Lib.hid hown2; have HB2 := Lib.hid (Below.grown (B := B) (a := w) (((Below.refl B w).alloc hB _).alloc (by simp; omega) _) hgr2 (by simp; omega) (fun k hk => (OQ.out.lt k hk).1)); clear hown2 hgr2)
    all_goals (refine bodyPost_ret (v := .tuple #[v2, .bool false]) (by simp [results, Try.results62, go_sem]) rfl (step_no (by simp [stepK, partBad, isNil, nilV, *]) HB2.out); done)
set_option maxHeartbeats 2000000 in
theorem l4Step5B (A : Option Addr) (cc : Nat) (cs : List CT) (g cap : Nat) (a : Int) (B : Nat) (w : World) (own : w.ownsRow B 3 1 (.slice (some ⟨g, 0, none⟩) (1) cap) (1) (([a]).reverse.map iv)) (hB : B ≤ w.heap.size) (hst : ([a]).length ≤ 100) : Calls Try.prog 62 #[.slice A cs.length cc, .slice (some ⟨g, 0, none⟩) (1) cap, aggP (5, 0, nilV)] w (StepPost cs ([a]) (5, 0, nilV) B w) := by
  have OQ : Hid (w.ownsRow B 3 1 (.slice (some ⟨g, 0, none⟩) 0 cap) 0 []) := own_fewer (x := [a]) (l := []) own
  have ha := own_rev (x := [a]) (l := []) own 0 (by simp)
  simp at ha
  obtain ⟨hBg, hg, hc1, hc2⟩ := own_cap own
  clear own
  have hgn : ¬ (w.heap.size = g) := by omega
  obtain ⟨i0, hi, iz0, iz1, iz2⟩ := info_parts infoN
  unfold aggP nilV
  simp only
  go_enter Try.func62, Try.ntmps62
  go_wp2_with (at_builtin; refine wpList_append_own _ rfl (.tmp 162) (.tmp 163) 41 rfl B 3 i0 (.int .i64 0) 1 8 Try.underlying41 hi iz0 iz1 iz2 rfl (by decide) (.slice (some ⟨g, 0, none⟩) (0) cap) (0) ([]) rfl (((OQ.out).alloc _).alloc _) ⟨w.heap.size + 1, 0, none⟩ 1 1 [.int .i64 3] rfl rfl (news_new (by simp)) (by simp [Value.oneCell']) (by unfold maxLen; omega) (by omega) (by simp; omega) ?_; intro v2 w2 hown2 hgr2 _; have OWN2 := Lib.hid hown2; have HB2 := Lib.hid (Below.grown (B := B) (a := w) (((Below.refl B w).alloc hB _).alloc (by simp; omega) _) hgr2 (by simp; omega) (fun k hk => (OQ.out.lt k hk).1)); clear hown2 hgr2)
  all_goals (refine bodyPost_ret (v := .tuple #[v2, .bool false]) (by simp [results, Try.results62, go_sem]) rfl (step_no (by simp [stepK, partBad, isNil, nilV, *]) HB2.out); done)
set_option maxHeartbeats 2000000 in
theorem l4Step5A (A : Option Addr) (cc : Nat) (cs : List CT) (g cap : Nat)  (B : Nat) (w : World) (own : w.ownsRow B 3 1 (.slice (some ⟨g, 0, none⟩) (0) cap) (0) ((([] : List Int)).reverse.map iv)) (hB : B ≤ w.heap.size) (hst : (([] : List Int)).length ≤ 100) : Calls Try.prog 62 #[.slice A cs.length cc, .slice (some ⟨g, 0, none⟩) (0) cap, aggP (5, 0, nilV)] w (StepPost cs (([] : List Int)) (5, 0, nilV) B w) := by
  have OQ : Hid (w.ownsRow B 3 1 (.slice (some ⟨g, 0, none⟩) 0 cap) 0 []) := own
  obtain ⟨hBg, hg, hc1, hc2⟩ := own_cap own
  clear own
  have hgn : ¬ (w.heap.size = g) := by omega
  obtain ⟨i0, hi, iz0, iz1, iz2⟩ := info_parts infoN
  unfold aggP nilV
  simp only
  go_enter Try.func62, Try.ntmps62
  go_wp2_with (at_builtin; refine wpList_append_own _ rfl (.tmp 162) (.tmp 163) 41 rfl B 3 i0 (.int .i64 0) 1 8 Try.underlying41 hi iz0 iz1 iz2 rfl (by decide) (.slice (some ⟨g, 0, none⟩) (0) cap) (0) ([]) rfl (((OQ.out).alloc _).alloc _) ⟨w.heap.size + 1, 0, none⟩ 1 1 [.int .i64 3] rfl rfl (news_new (by simp)) (by simp [Value.oneCell']) (by unfold maxLen; omega) (by omega) (by simp; omega) ?_; intro v2 w2 hown2 hgr2 _; have OWN2 := Lib.hid hown2; have HB2 := Lib.hid (Below.grown (B := B) (a := w) (((Below.refl B w).alloc hB _).alloc (by simp; omega) _) hgr2 (by simp; omega) (fun k hk => (OQ.out.lt k hk).1)); clear hown2 hgr2)
  all_goals (refine bodyPost_ret (v := .tuple #[v2, .bool false]) (by simp [results, Try.results62, go_sem]) rfl (step_no (by simp [stepK, partBad, isNil, nilV, *]) HB2.out); done)
set_option maxHeartbeats 2000000 in
theorem l4Step6C (A : Option Addr) (cc : Nat) (cs : List CT) (g cap : Nat) (a b : Int) (q : List Int) (B : Nat) (w : World) (own : w.ownsRow B 3 1 (.slice (some ⟨g, 0, none⟩) (q.length + 1 + 1) cap) (q.length + 1 + 1) ((a :: b :: q).reverse.map iv)) (hB : B ≤ w.heap.size) (hst : (a :: b :: q).length ≤ 100) : Calls Try.prog 62 #[.slice A cs.length cc, .slice (some ⟨g, 0, none⟩) (q.length + 1 + 1) cap, aggP (6, 0, nilV)] w (StepPost cs (a :: b :: q) (6, 0, nilV) B w) := by
  have ha := own_rev (x := [a, b]) (l := q) own 1 (by simp)
  have hb := own_rev (x := [a, b]) (l := q) own 0 (by simp)
  simp at ha hb
  have OQ := Lib.hid (own_fewer (x := [a, b]) (l := q) own)
  obtain ⟨hBg, hg, hc1, hc2⟩ := own_cap own
  clear own
  have hgn : ¬ (w.heap.size = g) := by omega
  obtain ⟨i0, hi, iz0, iz1, iz2⟩ := info_parts infoN
  simp only [List.length_cons] at hst
  rcases Decidable.em (a = 3) with rfl | ha1
  · rcases Decidable.em (b = 3) with rfl | hb1
    · unfold aggP nilV
      simp only
      go_enter Try.func62, Try.ntmps62
      go_wp2_with (at_builtin; refine wpList_append_own _ rfl (.tmp 162) (.tmp 163) 41 rfl B 3 i0 (.int .i64 0) 1 8 Try.underlying41 hi iz0 iz1 iz2 rfl (by decide) (.slice (some ⟨g, 0, none⟩) (q.length) cap) (q.length) ((q.reverse.map iv)) rfl (((OQ.out).alloc _).alloc _) ⟨w.heap.size + 1, 0, none⟩ 1 1 [.int .i64 3] rfl rfl (news_new (by simp)) (by simp [Value.oneCell']) (by unfold maxLen; omega) (by omega) (by simp; omega) ?_; intro v2 w2 hown2 hgr2 _; have OWN2 := Lib.hid hown2; have HB2 := Lib.hid (Below.grown (B := B) (a := w) (((Below.refl B w).alloc hB _).alloc (by simp; omega) _) hgr2 (by simp; omega) (fun k hk => (OQ.out.lt k hk).1)); clear hown2 hgr2)
      all_goals (refine bodyPost_ret (v := .tuple #[v2, .bool true]) (by simp [results, Try.results62, go_sem]) rfl (step_yes (st' := 3 :: q) (by simp [stepK, partBad, isNil, nilV, *]) HB2.out OWN2.out (by simp) (by simp) (by simp [iv])); done)
    · have hbb : (b == 3) = false := by simp [hb1]
      unfold aggP nilV
      simp only
      go_enter Try.func62, Try.ntmps62
      go_wp2_with (at_builtin; refine wpList_append_own _ rfl (.tmp 162) (.tmp 163) 41 rfl B 3 i0 (.int .i64 0) 1 8 Try.underlying41 hi iz0 iz1 iz2 rfl (by decide) (.slice (some ⟨g, 0, none⟩) (q.length) cap) (q.length) ((q.reverse.map iv)) rfl (((OQ.out).alloc _).alloc _) ⟨w.heap.size + 1, 0, none⟩ 1 1 [.int .i64 3] rfl rfl (news_new (by simp)) (by simp [Value.oneCell']) (by unfold maxLen; omega) (by omega) (by simp; omega) ?_; intro v2 w2 hown2 hgr2 _; have OWN2 := Lib.hid hown2; have HB2 := Lib.hid (Below.grown (B := B) (a := w) (((Below.refl B w).alloc hB _).alloc (by simp; omega) _) hgr2 (by simp; omega) (fun k hk => (OQ.out.lt k hk).1)); clear hown2 hgr2)
      all_goals (refine bodyPost_ret (v := .tuple #[v2, .bool false]) (by simp [results, Try.results62, go_sem]) rfl (step_no (by simp [stepK, partBad, isNil, nilV, *]) HB2.out); done)
  · have haa : (a == 3) = false := by simp [ha1]
    unfold aggP nilV
    simp only
    go_enter Try.func62, Try.ntmps62
    go_wp2_with (at_builtin; refine wpList_append_own _ rfl (.tmp 162) (.tmp 163) 41 rfl B 3 i0 (.int .i64 0) 1 8 Try.underlying41 hi iz0 iz1 iz2 rfl (by decide) (.slice (some ⟨g, 0, none⟩) (q.length) cap) (q.length) ((q.reverse.map iv)) rfl (((OQ.out).alloc _).alloc _) ⟨w.heap.size + 1, 0, none⟩ 1 1 [.int .i64 3] rfl rfl (news_new (by simp)) (by simp [Value.oneCell']) (by unfold maxLen; omega) (by omega) (by simp; omega) ?_; intro v2 w2 hown2 hgr2 _; have OWN2 := Lib.hid hown2; have HB2 := Lib.hid (Below.grown (B := B) (a := w) (((Below.refl B w).alloc hB _).alloc (by simp; omega) _) hgr2 (by simp; omega) (fun k hk => (OQ.out.lt k hk).1)); clear hown2 hgr2)
    all_goals (refine bodyPost_ret (v := .tuple #[v2, .bool false]) (by simp [results, Try.results62, go_sem]) rfl (step_no (by simp [stepK, partBad, isNil, nilV, *]) HB2.out); done)
set_option maxHeartbeats 2000000 in
theorem l4Step6B (A : Option Addr) (cc : Nat) (cs : List CT) (g cap : Nat) (a : Int) (B : Nat) (w : World) (own : w.ownsRow B 3 1 (.slice (some ⟨g, 0, none⟩) (1) cap) (1) (([a]).reverse.map iv)) (hB : B ≤ w.heap.size) (hst : ([a]).length ≤ 100) : Calls Try.prog 62 #[.slice A cs.length cc, .slice (some ⟨g, 0, none⟩) (1) cap, aggP (6, 0, nilV)] w (StepPost cs ([a]) (6, 0, nilV) B w) := by
  have OQ : Hid (w.ownsRow B 3 1 (.slice (some ⟨g, 0, none⟩) 0 cap) 0 []) := own_fewer (x := [a]) (l := []) own
  have ha := own_rev (x := [a]) (l := []) own 0 (by simp)
  simp at ha
  obtain ⟨hBg, hg, hc1, hc2⟩ := own_cap own
  clear own
  have hgn : ¬ (w.heap.size = g) := by omega
  obtain ⟨i0, hi, iz0, iz1, iz2⟩ := info_parts infoN
  unfold aggP nilV
  simp only
  go_enter Try.func62, Try.ntmps62
  go_wp2_with (at_builtin; refine wpList_append_own _ rfl (.tmp 162) (.tmp 163) 41 rfl B 3 i0 (.int .i64 0) 1 8 Try.underlying41 hi iz0 iz1 iz2 rfl (by decide) (.slice (some ⟨g, 0, none⟩) (0) cap) (0) ([]) rfl (((OQ.out).alloc _).alloc _) ⟨w.heap.size + 1, 0, none⟩ 1 1 [.int .i64 3] rfl rfl (news_new (by simp)) (by simp [Value.oneCell']) (by unfold maxLen; omega) (by omega) (by simp; omega) ?_; intro v2 w2 hown2 hgr2 _; have OWN2 := Lib.hid hown2; have HB2 := Lib.hid (Below.grown (B := B) (a := w) (((Below.refl B w).alloc hB _).alloc (by simp; omega) _) hgr2 (by simp; omega) (fun k hk => (OQ.out.lt k hk).1)); clear hown2 hgr2)
  all_goals (refine bodyPost_ret (v := .tuple #[v2, .bool false]) (by simp [results, Try.results62, go_sem]) rfl (step_no (by simp [stepK, partBad, isNil, nilV, *]) HB2.out); done)
set_option maxHeartbeats 2000000 in
theorem l4Step6A (A : Option Addr) (cc : Nat) (cs : List CT) (g cap : Nat)  (B : Nat) (w : World) (own : w.ownsRow B 3 1 (.slice (some ⟨g, 0, none⟩) (0) cap) (0) ((([] : List Int)).reverse.map iv)) (hB : B ≤ w.heap.size) (hst : (([] : List Int)).length ≤ 100) : Calls Try.prog 62 #[.slice A cs.length cc, .slice (some ⟨g, 0, none⟩) (0) cap, aggP (6, 0, nilV)] w (StepPost cs (([] : List Int)) (6, 0, nilV) B w) := by
  have OQ : Hid (w.ownsRow B 3 1 (.slice (some ⟨g, 0, none⟩) 0 cap) 0 []) := own
  obtain ⟨hBg, hg, hc1, hc2⟩ := own_cap own
  clear own
  have hgn : ¬ (w.heap.size = g) := by omega
  obtain ⟨i0, hi, iz0, iz1, iz2⟩ := info_parts infoN
  unfold aggP nilV
  simp only
  go_enter Try.func62, Try.ntmps62
  go_wp2_with (at_builtin; refine wpList_append_own _ rfl (.tmp 162) (.tmp 163) 41 rfl B 3 i0 (.int .i64 0) 1 8 Try.underlying41 hi iz0 iz1 iz2 rfl (by decide) (.slice (some ⟨g, 0, none⟩) (0) cap) (0) ([]) rfl (((OQ.out).alloc _).alloc _) ⟨w.heap.size + 1, 0, none⟩ 1 1 [.int .i64 3] rfl rfl (news_new (by simp)) (by simp [Value.oneCell']) (by unfold maxLen; omega) (by omega) (by simp; omega) ?_; intro v2 w2 hown2 hgr2 _; have OWN2 := Lib.hid hown2; have HB2 := Lib.hid (Below.grown (B := B) (a := w) (((Below.refl B w).alloc hB _).alloc (by simp; omega) _) hgr2 (by simp; omega) (fun k hk => (OQ.out.lt k hk).1)); clear hown2 hgr2)
  all_goals (refine bodyPost_ret (v := .tuple #[v2, .bool false]) (by simp [results, Try.results62, go_sem]) rfl (step_no (by simp [stepK, partBad, isNil, nilV, *]) HB2.out); done)
end Go.Proofs.Ytcocpmfndodapaa.Val
