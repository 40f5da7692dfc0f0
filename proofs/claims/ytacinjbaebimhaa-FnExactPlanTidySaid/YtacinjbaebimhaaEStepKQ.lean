/- The kinds that stand after a part (spec.l4Step); The kinds that stand after a part: sums and truths of two; The kinds that stand after a part: those of one value; The kinds that stand after a part: comparisons; The kinds that stand after a part: values, columns, and none; The kinds that stand after a part: any part. -/
import Derived.Test.YtacinjbaebimhaaFlPQ
import Derived.Test.YtacinjbaebimhaaRowFQ
import Derived.Test.YtacinjbaebimhaaOwnKQ
import Derived.Test.YtacinjbaebimhaaEMathAQ
import Derived.Deep.RegionHeldLaw
namespace Go.Proofs.Ytacinjbaebimhaa.Val
open Go.RowKit
set_option linter.unusedVariables false
set_option maxRecDepth 20000
def StepPost (cs : List CT) (st : List Int) (p : PT) (B : Nat) (w : World) (e : Ending) (w' : World) : Prop := ∃ (v : Value) (ok : Bool), e = .returned (.tuple #[v, .bool ok]) ∧ Below B w w' ∧ ((stepK cs p st = none ∧ ok = false) ∨ ∃ (st' : List Int) (g' cap' : Nat), stepK cs p st = some st' ∧ ok = true ∧ v = .slice (some ⟨g', 0, none⟩) st'.length cap' ∧ w'.ownsRow B 3 1 v st'.length (st'.reverse.map iv))
theorem own_cap {w : World} {B g n cap size : Nat} {e : TypeId} {xs : List Value} (h : w.ownsRow B e size (.slice (some ⟨g, 0, none⟩) n cap) n xs) : B ≤ g ∧ g < w.heap.size ∧ n ≤ cap ∧ cap ≤ maxLen := by
  rcases h.2 with ⟨h3, -⟩ | ⟨g2, cap2, cur, h3, h4, h5, h6, h7, h8, h9⟩
  · cases h3
  · injection h3 with e1 e2 e3
    injection e1 with e1
    injection e1 with e1
    subst e1 e3
    exact ⟨h4, (Array.getElem?_eq_some_iff.1 h5).1, h6, h7⟩
theorem step_no {cs : List CT} {st : List Int} {p : PT} {B : Nat} {w w' : World} {v : Value} (hs : stepK cs p st = none) (hb : Below B w w') : StepPost cs st p B w (.returned (.tuple #[v, .bool false])) w' := ⟨v, false, rfl, hb, .inl ⟨hs, rfl⟩⟩
theorem step_yes {cs : List CT} {st st' : List Int} {p : PT} {B n : Nat} {w w' : World} {v : Value} {xs : List Value} (hs : stepK cs p st = some st') (hb : Below B w w') (ho : w'.ownsRow B 3 1 v n xs) (hn : n = st'.length) (h0 : 0 < n) (hx : xs = st'.reverse.map iv) : StepPost cs st p B w (.returned (.tuple #[v, .bool true])) w' := by
  subst hn hx
  refine ⟨v, true, rfl, hb, .inr ?_⟩
  rcases ho.2 with ⟨-, hz⟩ | ⟨g, cap, cur, rfl, -⟩
  · omega
  · exact ⟨st', g, cap, hs, rfl, rfl, ho⟩
theorem own_at {w : World} {B g n cap : Nat} {e : TypeId} {l : List Int} (h : w.ownsRow B e 1 (.slice (some ⟨g, 0, none⟩) n cap) n (l.map iv)) (i : Nat) (hi : i < l.length) : w.cell? ⟨g, i, none⟩ = some (.int .i64 l[i]) := by
  have h1 := h.1
  rw [List.length_map] at h1
  rw [h.cellAt i (by omega), List.getElem?_map, List.getElem?_eq_getElem hi]; rfl
theorem own_fewer {w : World} {B g cap : Nat} {e : TypeId} {l x : List Int} (h : w.ownsRow B e 1 (.slice (some ⟨g, 0, none⟩) (x ++ l).length cap) (x ++ l).length ((x ++ l).reverse.map iv)) : w.ownsRow B e 1 (.slice (some ⟨g, 0, none⟩) l.length cap) l.length (l.reverse.map iv) := by
  have := own_take h (m := l.length) (by simp)
  rwa [Nat.mul_one, List.reverse_append, List.map_append, show (l.reverse.map iv ++ x.reverse.map iv).take l.length = l.reverse.map iv from by rw [List.take_append_of_le_length (by simp), List.take_of_length_le (by simp)]] at this
theorem own_rev {w : World} {B g cap : Nat} {e : TypeId} {l x : List Int} (h : w.ownsRow B e 1 (.slice (some ⟨g, 0, none⟩) (x ++ l).length cap) (x ++ l).length ((x ++ l).reverse.map iv)) (i : Nat) (hi : i < x.length) : w.cell? ⟨g, l.length + i, none⟩ = some (.int .i64 (x[x.length - 1 - i])) := by
  have h1 := own_at h (l.length + i) (by simp; omega)
  rw [h1]
  congr 2
  rw [List.getElem_reverse, List.getElem_append_left (by simp; omega)]
  congr 1
  simp; omega
set_option maxHeartbeats 4000000 in
theorem l4StepBad (A : Option Addr) (cc : Nat) (cs : List CT) (V : Value) (st : List Int) (m cap g : Nat) (p : PT) (B : Nat) (w : World) (hbad : partBad p = true) (hB : B ≤ w.heap.size) : Calls Try.prog 141 #[.slice A cs.length cc, .slice (some ⟨g, 0, none⟩) m cap, aggP p] w (StepPost cs st p B w) := by
  have HS := Lib.hid (show stepK cs p st = none by unfold stepK; rw [if_pos hbad])
  have HP := Lib.hid hbad
  clear hbad
  obtain ⟨k, n, vk, vn, s⟩ := p
  unfold aggP
  simp only
  go_enter Try.func141, Try.ntmps141
  go_upto_region 4 with (fail)
  all_goals first
    | (refine bodyPost_ret (v := .tuple #[.slice (some ⟨g, 0, none⟩) m cap, .bool false]) (by simp [results, Try.results141, go_sem]) rfl (step_no HS.out ((Below.refl _ _).alloc hB _)); done)
    | (exfalso; have hp := HP.out; simp only [partBad, isNil, Bool.or_eq_true, Bool.and_eq_true, decide_eq_true_eq, Bool.not_eq_true', Bool.and_eq_false_iff, decide_eq_false_iff_not] at hp; simp_all; done)
end Go.Proofs.Ytacinjbaebimhaa.Val
namespace Go.Proofs.Ytacinjbaebimhaa.Val
open Go.RowKit
set_option linter.unusedVariables false
set_option linter.unusedSimpArgs false
set_option maxRecDepth 20000
set_option maxHeartbeats 2000000 in
theorem l4Step3C (A : Option Addr) (cc : Nat) (cs : List CT) (g cap : Nat) (a b : Int) (q : List Int) (B : Nat) (w : World) (own : w.ownsRow B 3 1 (.slice (some ⟨g, 0, none⟩) (q.length + 1 + 1) cap) (q.length + 1 + 1) ((a :: b :: q).reverse.map iv)) (hB : B ≤ w.heap.size) (hst : (a :: b :: q).length ≤ 100) : Calls Try.prog 141 #[.slice A cs.length cc, .slice (some ⟨g, 0, none⟩) (q.length + 1 + 1) cap, aggP (3, 0, nilV)] w (StepPost cs (a :: b :: q) (3, 0, nilV) B w) := by
  have ha := own_rev (x := [a, b]) (l := q) own 1 (by simp)
  have hb := own_rev (x := [a, b]) (l := q) own 0 (by simp)
  simp at ha hb
  have OQ := Lib.hid (own_fewer (x := [a, b]) (l := q) own)
  obtain ⟨hBg, hg, hc1, hc2⟩ := own_cap own
  clear own
  have hgn : ¬ (w.heap.size = g) := by omega
  obtain ⟨i0, hi, iz0, iz1, iz2⟩ := info_parts infoN
  simp only [List.length_cons] at hst
  rcases Decidable.em (a = 1) with rfl | ha1
  · rcases Decidable.em (b = 1) with rfl | hb1
    · unfold aggP nilV
      simp only
      go_enter Try.func141, Try.ntmps141
      go_wp2_with (at_builtin; refine wpList_append_own _ rfl (.tmp 103) (.tmp 104) 30 rfl B 3 i0 (.int .i64 0) 1 8 Try.underlying30 hi iz0 iz1 iz2 rfl (by decide) (.slice (some ⟨g, 0, none⟩) (q.length) cap) (q.length) ((q.reverse.map iv)) rfl (((OQ.out).alloc _).alloc _) ⟨w.heap.size + 1, 0, none⟩ 1 1 [.int .i64 1] rfl rfl (news_new (by simp)) (by simp [Value.oneCell']) (by unfold maxLen; omega) (by omega) (by simp; omega) ?_; intro v2 w2 hown2 hgr2 _; have OWN2 := Lib.hid hown2; have HB2 := Lib.hid (Below.grown (B := B) (a := w) (((Below.refl B w).alloc hB _).alloc (by simp; omega) _) hgr2 (by simp; omega) (fun k hk => (OQ.out.lt k hk).1)); clear hown2 hgr2)
      all_goals (refine bodyPost_ret (v := .tuple #[v2, .bool true]) (by simp [results, Try.results141, go_sem]) rfl (step_yes (st' := 1 :: q) (by simp [stepK, partBad, isNil, nilV, *]) HB2.out OWN2.out (by simp) (by simp) (by simp [iv])); done)
    · have hbb : (b == 1) = false := by simp [hb1]
      unfold aggP nilV
      simp only
      go_enter Try.func141, Try.ntmps141
      go_wp2_with (at_builtin; refine wpList_append_own _ rfl (.tmp 103) (.tmp 104) 30 rfl B 3 i0 (.int .i64 0) 1 8 Try.underlying30 hi iz0 iz1 iz2 rfl (by decide) (.slice (some ⟨g, 0, none⟩) (q.length) cap) (q.length) ((q.reverse.map iv)) rfl (((OQ.out).alloc _).alloc _) ⟨w.heap.size + 1, 0, none⟩ 1 1 [.int .i64 1] rfl rfl (news_new (by simp)) (by simp [Value.oneCell']) (by unfold maxLen; omega) (by omega) (by simp; omega) ?_; intro v2 w2 hown2 hgr2 _; have OWN2 := Lib.hid hown2; have HB2 := Lib.hid (Below.grown (B := B) (a := w) (((Below.refl B w).alloc hB _).alloc (by simp; omega) _) hgr2 (by simp; omega) (fun k hk => (OQ.out.lt k hk).1)); clear hown2 hgr2)
      all_goals (refine bodyPost_ret (v := .tuple #[v2, .bool false]) (by simp [results, Try.results141, go_sem]) rfl (step_no (by simp [stepK, partBad, isNil, nilV, *]) HB2.out); done)
  · have haa : (a == 1) = false := by simp [ha1]
    unfold aggP nilV
    simp only
    go_enter Try.func141, Try.ntmps141
    go_wp2_with (at_builtin; refine wpList_append_own _ rfl (.tmp 103) (.tmp 104) 30 rfl B 3 i0 (.int .i64 0) 1 8 Try.underlying30 hi iz0 iz1 iz2 rfl (by decide) (.slice (some ⟨g, 0, none⟩) (q.length) cap) (q.length) ((q.reverse.map iv)) rfl (((OQ.out).alloc _).alloc _) ⟨w.heap.size + 1, 0, none⟩ 1 1 [.int .i64 1] rfl rfl (news_new (by simp)) (by simp [Value.oneCell']) (by unfold maxLen; omega) (by omega) (by simp; omega) ?_; intro v2 w2 hown2 hgr2 _; have OWN2 := Lib.hid hown2; have HB2 := Lib.hid (Below.grown (B := B) (a := w) (((Below.refl B w).alloc hB _).alloc (by simp; omega) _) hgr2 (by simp; omega) (fun k hk => (OQ.out.lt k hk).1)); clear hown2 hgr2)
    all_goals (refine bodyPost_ret (v := .tuple #[v2, .bool false]) (by simp [results, Try.results141, go_sem]) rfl (step_no (by simp [stepK, partBad, isNil, nilV, *]) HB2.out); done)
set_option maxHeartbeats 2000000 in
theorem l4Step3B (A : Option Addr) (cc : Nat) (cs : List CT) (g cap : Nat) (a : Int) (B : Nat) (w : World) (own : w.ownsRow B 3 1 (.slice (some ⟨g, 0, none⟩) (1) cap) (1) (([a]).reverse.map iv)) (hB : B ≤ w.heap.size) (hst : ([a]).length ≤ 100) : Calls Try.prog 141 #[.slice A cs.length cc, .slice (some ⟨g, 0, none⟩) (1) cap, aggP (3, 0, nilV)] w (StepPost cs ([a]) (3, 0, nilV) B w) := by
  have OQ : Hid (w.ownsRow B 3 1 (.slice (some ⟨g, 0, none⟩) 0 cap) 0 []) := own_fewer (x := [a]) (l := []) own
  have ha := own_rev (x := [a]) (l := []) own 0 (by simp)
  simp at ha
  obtain ⟨hBg, hg, hc1, hc2⟩ := own_cap own
  clear own
  have hgn : ¬ (w.heap.size = g) := by omega
  obtain ⟨i0, hi, iz0, iz1, iz2⟩ := info_parts infoN
  unfold aggP nilV
  simp only
  go_enter Try.func141, Try.ntmps141
  go_wp2_with (at_builtin; refine wpList_append_own _ rfl (.tmp 103) (.tmp 104) 30 rfl B 3 i0 (.int .i64 0) 1 8 Try.underlying30 hi iz0 iz1 iz2 rfl (by decide) (.slice (some ⟨g, 0, none⟩) (0) cap) (0) ([]) rfl (((OQ.out).alloc _).alloc _) ⟨w.heap.size + 1, 0, none⟩ 1 1 [.int .i64 1] rfl rfl (news_new (by simp)) (by simp [Value.oneCell']) (by unfold maxLen; omega) (by omega) (by simp; omega) ?_; intro v2 w2 hown2 hgr2 _; have OWN2 := Lib.hid hown2; have HB2 := Lib.hid (Below.grown (B := B) (a := w) (((Below.refl B w).alloc hB _).alloc (by simp; omega) _) hgr2 (by simp; omega) (fun k hk => (OQ.out.lt k hk).1)); clear hown2 hgr2)
  all_goals (refine bodyPost_ret (v := .tuple #[v2, .bool false]) (by simp [results, Try.results141, go_sem]) rfl (step_no (by simp [stepK, partBad, isNil, nilV, *]) HB2.out); done)
set_option maxHeartbeats 2000000 in
theorem l4Step3A (A : Option Addr) (cc : Nat) (cs : List CT) (g cap : Nat)  (B : Nat) (w : World) (own : w.ownsRow B 3 1 (.slice (some ⟨g, 0, none⟩) (0) cap) (0) ((([] : List Int)).reverse.map iv)) (hB : B ≤ w.heap.size) (hst : (([] : List Int)).length ≤ 100) : Calls Try.prog 141 #[.slice A cs.length cc, .slice (some ⟨g, 0, none⟩) (0) cap, aggP (3, 0, nilV)] w (StepPost cs (([] : List Int)) (3, 0, nilV) B w) := by
  have OQ : Hid (w.ownsRow B 3 1 (.slice (some ⟨g, 0, none⟩) 0 cap) 0 []) := own
  obtain ⟨hBg, hg, hc1, hc2⟩ := own_cap own
  clear own
  have hgn : ¬ (w.heap.size = g) := by omega
  obtain ⟨i0, hi, iz0, iz1, iz2⟩ := info_parts infoN
  unfold aggP nilV
  simp only
  go_enter Try.func141, Try.ntmps141
  go_wp2_with (at_builtin; refine wpList_append_own _ rfl (.tmp 103) (.tmp 104) 30 rfl B 3 i0 (.int .i64 0) 1 8 Try.underlying30 hi iz0 iz1 iz2 rfl (by decide) (.slice (some ⟨g, 0, none⟩) (0) cap) (0) ([]) rfl (((OQ.out).alloc _).alloc _) ⟨w.heap.size + 1, 0, none⟩ 1 1 [.int .i64 1] rfl rfl (news_new (by simp)) (by simp [Value.oneCell']) (by unfold maxLen; omega) (by omega) (by simp; omega) ?_; intro v2 w2 hown2 hgr2 _; have OWN2 := Lib.hid hown2; have HB2 := Lib.hid (Below.grown (B := B) (a := w) (((Below.refl B w).alloc hB _).alloc (by simp; omega) _) hgr2 (by simp; omega) (fun k hk => (OQ.out.lt k hk).1)); clear hown2 hgr2)
  all_goals (refine bodyPost_ret (v := .tuple #[v2, .bool false]) (by simp [results, Try.results141, go_sem]) rfl (step_no (by simp [stepK, partBad, isNil, nilV, *]) HB2.out); done)
set_option maxHeartbeats 2000000 in
theorem l4Step5C (A : Option Addr) (cc : Nat) (cs : List CT) (g cap : Nat) (a b : Int) (q : List Int) (B : Nat) (w : World) (own : w.ownsRow B 3 1 (.slice (some ⟨g, 0, none⟩) (q.length + 1 + 1) cap) (q.length + 1 + 1) ((a :: b :: q).reverse.map iv)) (hB : B ≤ w.heap.size) (hst : (a :: b :: q).length ≤ 100) : Calls Try.prog 141 #[.slice A cs.length cc, .slice (some ⟨g, 0, none⟩) (q.length + 1 + 1) cap, aggP (5, 0, nilV)] w (StepPost cs (a :: b :: q) (5, 0, nilV) B w) := by
  have ha := own_rev (x := [a, b]) (l := q) own 1 (by simp)
  have hb := own_rev (x := [a, b]) (l := q) own 0 (by simp)
  simp at ha hb
  have OQ := Lib.hid (own_fewer (x := [a, b]) (l := q) own)
  obtain ⟨hBg, hg, hc1, hc2⟩ := own_cap own
  clear own
  have hgn : ¬ (w.heap.size = g) := by omega
  obtain ⟨i0, hi, iz0, iz1, iz2⟩ := info_parts infoN
  simp only [List.length_cons] at hst
  rcases Decidable.em (a = 3) with rfl | ha1
  · rcases Decidable.em (b = 3) with rfl | hb1
    · unfold aggP nilV
      simp only
      go_enter Try.func141, Try.ntmps141
      go_wp2_with (at_builtin; refine wpList_append_own _ rfl (.tmp 162) (.tmp 163) 30 rfl B 3 i0 (.int .i64 0) 1 8 Try.underlying30 hi iz0 iz1 iz2 rfl (by decide) (.slice (some ⟨g, 0, none⟩) (q.length) cap) (q.length) ((q.reverse.map iv)) rfl (((OQ.out).alloc _).alloc _) ⟨w.heap.size + 1, 0, none⟩ 1 1 [.int .i64 3] rfl rfl (news_new (by simp)) (by simp [Value.oneCell']) (by unfold maxLen; omega) (by omega) (by simp; omega) ?_; intro v2 w2 hown2 hgr2 _; have OWN2 := Lib.hid hown2; have HB2 := Lib.hid (Below.grown (B := B) (a := w) (((Below.refl B w).alloc hB _).alloc (by simp; omega) _) hgr2 (by simp; omega) (fun k hk => (OQ.out.lt k hk).1)); clear hown2 hgr2)
      all_goals (refine bodyPost_ret (v := .tuple #[v2, .bool true]) (by simp [results, Try.results141, go_sem]) rfl (step_yes (st' := 3 :: q) (by simp [stepK, partBad, isNil, nilV, *]) HB2.out OWN2.out (by simp) (by simp) (by simp [iv])); done)
    · have hbb : (b == 3) = false := by simp [hb1]
      unfold aggP nilV
      simp only
      go_enter Try.func141, Try.ntmps141
      go_wp2_with (at_builtin; refine wpList_append_own _ rfl (.tmp 162) (.tmp 163) 30 rfl B 3 i0 (.int .i64 0) 1 8 Try.underlying30 hi iz0 iz1 iz2 rfl (by decide) (.slice (some ⟨g, 0, none⟩) (q.length) cap) (q.length) ((q.reverse.map iv)) rfl (((OQ.out).alloc _).alloc _) ⟨w.heap.size + 1, 0, none⟩ 1 1 [.int .i64 3] rfl rfl (news_new (by simp)) (by simp [Value.oneCell']) (by unfold maxLen; omega) (by omega) (by simp; omega) ?_; intro v2 w2 hown2 hgr2 _; have OWN2 := Lib.hid hown2; have HB2 := Lib.hid (Below.grown (B := B) (a := w) (((Below.refl B w).alloc hB _).alloc (by simp; omega) _) hgr2 (by simp; omega) (fun k hk => (OQ.out.lt k hk).1)); clear hown2 hgr2)
      all_goals (refine bodyPost_ret (v := .tuple #[v2, .bool false]) (by simp [results, Try.results141, go_sem]) rfl (step_no (by simp [stepK, partBad, isNil, nilV, *]) HB2.out); done)
  · have haa : (a == 3) = false := by simp [ha1]
    unfold aggP nilV
    simp only
    go_enter Try.func141, Try.ntmps141
    go_wp2_with (at_builtin; refine wpList_append_own _ rfl (.tmp 162) (.tmp 163) 30 rfl B 3 i0 (.int .i64 0) 1 8 Try.underlying30 hi iz0 iz1 iz2 rfl (by decide) (.slice (some ⟨g, 0, none⟩) (q.length) cap) (q.length) ((q.reverse.map iv)) rfl (((OQ.out).alloc _).alloc _) ⟨w.heap.size + 1, 0, none⟩ 1 1 [.int .i64 3] rfl rfl (news_new (by simp)) (by simp [Value.oneCell']) (by unfold maxLen; omega) (by omega) (by simp; omega) ?_; intro v2 w2 hown2 hgr2 _; have OWN2 := Lib.hid hown2; have HB2 := Lib.hid (Below.grown (B := B) (a := w) (((Below.refl B w).alloc hB _).alloc (by simp; omega) _) hgr2 (by simp; omega) (fun k hk => (OQ.out.lt k hk).1)); clear hown2 hgr2)
    all_goals (refine bodyPost_ret (v := .tuple #[v2, .bool false]) (by simp [results, Try.results141, go_sem]) rfl (step_no (by simp [stepK, partBad, isNil, nilV, *]) HB2.out); done)
set_option maxHeartbeats 2000000 in
theorem l4Step5B (A : Option Addr) (cc : Nat) (cs : List CT) (g cap : Nat) (a : Int) (B : Nat) (w : World) (own : w.ownsRow B 3 1 (.slice (some ⟨g, 0, none⟩) (1) cap) (1) (([a]).reverse.map iv)) (hB : B ≤ w.heap.size) (hst : ([a]).length ≤ 100) : Calls Try.prog 141 #[.slice A cs.length cc, .slice (some ⟨g, 0, none⟩) (1) cap, aggP (5, 0, nilV)] w (StepPost cs ([a]) (5, 0, nilV) B w) := by
  have OQ : Hid (w.ownsRow B 3 1 (.slice (some ⟨g, 0, none⟩) 0 cap) 0 []) := own_fewer (x := [a]) (l := []) own
  have ha := own_rev (x := [a]) (l := []) own 0 (by simp)
  simp at ha
  obtain ⟨hBg, hg, hc1, hc2⟩ := own_cap own
  clear own
  have hgn : ¬ (w.heap.size = g) := by omega
  obtain ⟨i0, hi, iz0, iz1, iz2⟩ := info_parts infoN
  unfold aggP nilV
  simp only
  go_enter Try.func141, Try.ntmps141
  go_wp2_with (at_builtin; refine wpList_append_own _ rfl (.tmp 162) (.tmp 163) 30 rfl B 3 i0 (.int .i64 0) 1 8 Try.underlying30 hi iz0 iz1 iz2 rfl (by decide) (.slice (some ⟨g, 0, none⟩) (0) cap) (0) ([]) rfl (((OQ.out).alloc _).alloc _) ⟨w.heap.size + 1, 0, none⟩ 1 1 [.int .i64 3] rfl rfl (news_new (by simp)) (by simp [Value.oneCell']) (by unfold maxLen; omega) (by omega) (by simp; omega) ?_; intro v2 w2 hown2 hgr2 _; have OWN2 := Lib.hid hown2; have HB2 := Lib.hid (Below.grown (B := B) (a := w) (((Below.refl B w).alloc hB _).alloc (by simp; omega) _) hgr2 (by simp; omega) (fun k hk => (OQ.out.lt k hk).1)); clear hown2 hgr2)
  all_goals (refine bodyPost_ret (v := .tuple #[v2, .bool false]) (by simp [results, Try.results141, go_sem]) rfl (step_no (by simp [stepK, partBad, isNil, nilV, *]) HB2.out); done)
set_option maxHeartbeats 2000000 in
theorem l4Step5A (A : Option Addr) (cc : Nat) (cs : List CT) (g cap : Nat)  (B : Nat) (w : World) (own : w.ownsRow B 3 1 (.slice (some ⟨g, 0, none⟩) (0) cap) (0) ((([] : List Int)).reverse.map iv)) (hB : B ≤ w.heap.size) (hst : (([] : List Int)).length ≤ 100) : Calls Try.prog 141 #[.slice A cs.length cc, .slice (some ⟨g, 0, none⟩) (0) cap, aggP (5, 0, nilV)] w (StepPost cs (([] : List Int)) (5, 0, nilV) B w) := by
  have OQ : Hid (w.ownsRow B 3 1 (.slice (some ⟨g, 0, none⟩) 0 cap) 0 []) := own
  obtain ⟨hBg, hg, hc1, hc2⟩ := own_cap own
  clear own
  have hgn : ¬ (w.heap.size = g) := by omega
  obtain ⟨i0, hi, iz0, iz1, iz2⟩ := info_parts infoN
  unfold aggP nilV
  simp only
  go_enter Try.func141, Try.ntmps141
  go_wp2_with (at_builtin; refine wpList_append_own _ rfl (.tmp 162) (.tmp 163) 30 rfl B 3 i0 (.int .i64 0) 1 8 Try.underlying30 hi iz0 iz1 iz2 rfl (by decide) (.slice (some ⟨g, 0, none⟩) (0) cap) (0) ([]) rfl (((OQ.out).alloc _).alloc _) ⟨w.heap.size + 1, 0, none⟩ 1 1 [.int .i64 3] rfl rfl (news_new (by simp)) (by simp [Value.oneCell']) (by unfold maxLen; omega) (by omega) (by simp; omega) ?_; intro v2 w2 hown2 hgr2 _; have OWN2 := Lib.hid hown2; have HB2 := Lib.hid (Below.grown (B := B) (a := w) (((Below.refl B w).alloc hB _).alloc (by simp; omega) _) hgr2 (by simp; omega) (fun k hk => (OQ.out.lt k hk).1)); clear hown2 hgr2)
  all_goals (refine bodyPost_ret (v := .tuple #[v2, .bool false]) (by simp [results, Try.results141, go_sem]) rfl (step_no (by simp [stepK, partBad, isNil, nilV, *]) HB2.out); done)
set_option maxHeartbeats 2000000 in
theorem l4Step6C (A : Option Addr) (cc : Nat) (cs : List CT) (g cap : Nat) (a b : Int) (q : List Int) (B : Nat) (w : World) (own : w.ownsRow B 3 1 (.slice (some ⟨g, 0, none⟩) (q.length + 1 + 1) cap) (q.length + 1 + 1) ((a :: b :: q).reverse.map iv)) (hB : B ≤ w.heap.size) (hst : (a :: b :: q).length ≤ 100) : Calls Try.prog 141 #[.slice A cs.length cc, .slice (some ⟨g, 0, none⟩) (q.length + 1 + 1) cap, aggP (6, 0, nilV)] w (StepPost cs (a :: b :: q) (6, 0, nilV) B w) := by
  have ha := own_rev (x := [a, b]) (l := q) own 1 (by simp)
  have hb := own_rev (x := [a, b]) (l := q) own 0 (by simp)
  simp at ha hb
  have OQ := Lib.hid (own_fewer (x := [a, b]) (l := q) own)
  obtain ⟨hBg, hg, hc1, hc2⟩ := own_cap own
  clear own
  have hgn : ¬ (w.heap.size = g) := by omega
  obtain ⟨i0, hi, iz0, iz1, iz2⟩ := info_parts infoN
  simp only [List.length_cons] at hst
  rcases Decidable.em (a = 3) with rfl | ha1
  · rcases Decidable.em (b = 3) with rfl | hb1
    · unfold aggP nilV
      simp only
      go_enter Try.func141, Try.ntmps141
      go_wp2_with (at_builtin; refine wpList_append_own _ rfl (.tmp 162) (.tmp 163) 30 rfl B 3 i0 (.int .i64 0) 1 8 Try.underlying30 hi iz0 iz1 iz2 rfl (by decide) (.slice (some ⟨g, 0, none⟩) (q.length) cap) (q.length) ((q.reverse.map iv)) rfl (((OQ.out).alloc _).alloc _) ⟨w.heap.size + 1, 0, none⟩ 1 1 [.int .i64 3] rfl rfl (news_new (by simp)) (by simp [Value.oneCell']) (by unfold maxLen; omega) (by omega) (by simp; omega) ?_; intro v2 w2 hown2 hgr2 _; have OWN2 := Lib.hid hown2; have HB2 := Lib.hid (Below.grown (B := B) (a := w) (((Below.refl B w).alloc hB _).alloc (by simp; omega) _) hgr2 (by simp; omega) (fun k hk => (OQ.out.lt k hk).1)); clear hown2 hgr2)
      all_goals (refine bodyPost_ret (v := .tuple #[v2, .bool true]) (by simp [results, Try.results141, go_sem]) rfl (step_yes (st' := 3 :: q) (by simp [stepK, partBad, isNil, nilV, *]) HB2.out OWN2.out (by simp) (by simp) (by simp [iv])); done)
    · have hbb : (b == 3) = false := by simp [hb1]
      unfold aggP nilV
      simp only
      go_enter Try.func141, Try.ntmps141
      go_wp2_with (at_builtin; refine wpList_append_own _ rfl (.tmp 162) (.tmp 163) 30 rfl B 3 i0 (.int .i64 0) 1 8 Try.underlying30 hi iz0 iz1 iz2 rfl (by decide) (.slice (some ⟨g, 0, none⟩) (q.length) cap) (q.length) ((q.reverse.map iv)) rfl (((OQ.out).alloc _).alloc _) ⟨w.heap.size + 1, 0, none⟩ 1 1 [.int .i64 3] rfl rfl (news_new (by simp)) (by simp [Value.oneCell']) (by unfold maxLen; omega) (by omega) (by simp; omega) ?_; intro v2 w2 hown2 hgr2 _; have OWN2 := Lib.hid hown2; have HB2 := Lib.hid (Below.grown (B := B) (a := w) (((Below.refl B w).alloc hB _).alloc (by simp; omega) _) hgr2 (by simp; omega) (fun k hk => (OQ.out.lt k hk).1)); clear hown2 hgr2)
      all_goals (refine bodyPost_ret (v := .tuple #[v2, .bool false]) (by simp [results, Try.results141, go_sem]) rfl (step_no (by simp [stepK, partBad, isNil, nilV, *]) HB2.out); done)
  · have haa : (a == 3) = false := by simp [ha1]
    unfold aggP nilV
    simp only
    go_enter Try.func141, Try.ntmps141
    go_wp2_with (at_builtin; refine wpList_append_own _ rfl (.tmp 162) (.tmp 163) 30 rfl B 3 i0 (.int .i64 0) 1 8 Try.underlying30 hi iz0 iz1 iz2 rfl (by decide) (.slice (some ⟨g, 0, none⟩) (q.length) cap) (q.length) ((q.reverse.map iv)) rfl (((OQ.out).alloc _).alloc _) ⟨w.heap.size + 1, 0, none⟩ 1 1 [.int .i64 3] rfl rfl (news_new (by simp)) (by simp [Value.oneCell']) (by unfold maxLen; omega) (by omega) (by simp; omega) ?_; intro v2 w2 hown2 hgr2 _; have OWN2 := Lib.hid hown2; have HB2 := Lib.hid (Below.grown (B := B) (a := w) (((Below.refl B w).alloc hB _).alloc (by simp; omega) _) hgr2 (by simp; omega) (fun k hk => (OQ.out.lt k hk).1)); clear hown2 hgr2)
    all_goals (refine bodyPost_ret (v := .tuple #[v2, .bool false]) (by simp [results, Try.results141, go_sem]) rfl (step_no (by simp [stepK, partBad, isNil, nilV, *]) HB2.out); done)
set_option maxHeartbeats 2000000 in
theorem l4Step6B (A : Option Addr) (cc : Nat) (cs : List CT) (g cap : Nat) (a : Int) (B : Nat) (w : World) (own : w.ownsRow B 3 1 (.slice (some ⟨g, 0, none⟩) (1) cap) (1) (([a]).reverse.map iv)) (hB : B ≤ w.heap.size) (hst : ([a]).length ≤ 100) : Calls Try.prog 141 #[.slice A cs.length cc, .slice (some ⟨g, 0, none⟩) (1) cap, aggP (6, 0, nilV)] w (StepPost cs ([a]) (6, 0, nilV) B w) := by
  have OQ : Hid (w.ownsRow B 3 1 (.slice (some ⟨g, 0, none⟩) 0 cap) 0 []) := own_fewer (x := [a]) (l := []) own
  have ha := own_rev (x := [a]) (l := []) own 0 (by simp)
  simp at ha
  obtain ⟨hBg, hg, hc1, hc2⟩ := own_cap own
  clear own
  have hgn : ¬ (w.heap.size = g) := by omega
  obtain ⟨i0, hi, iz0, iz1, iz2⟩ := info_parts infoN
  unfold aggP nilV
  simp only
  go_enter Try.func141, Try.ntmps141
  go_wp2_with (at_builtin; refine wpList_append_own _ rfl (.tmp 162) (.tmp 163) 30 rfl B 3 i0 (.int .i64 0) 1 8 Try.underlying30 hi iz0 iz1 iz2 rfl (by decide) (.slice (some ⟨g, 0, none⟩) (0) cap) (0) ([]) rfl (((OQ.out).alloc _).alloc _) ⟨w.heap.size + 1, 0, none⟩ 1 1 [.int .i64 3] rfl rfl (news_new (by simp)) (by simp [Value.oneCell']) (by unfold maxLen; omega) (by omega) (by simp; omega) ?_; intro v2 w2 hown2 hgr2 _; have OWN2 := Lib.hid hown2; have HB2 := Lib.hid (Below.grown (B := B) (a := w) (((Below.refl B w).alloc hB _).alloc (by simp; omega) _) hgr2 (by simp; omega) (fun k hk => (OQ.out.lt k hk).1)); clear hown2 hgr2)
  all_goals (refine bodyPost_ret (v := .tuple #[v2, .bool false]) (by simp [results, Try.results141, go_sem]) rfl (step_no (by simp [stepK, partBad, isNil, nilV, *]) HB2.out); done)
set_option maxHeartbeats 2000000 in
theorem l4Step6A (A : Option Addr) (cc : Nat) (cs : List CT) (g cap : Nat)  (B : Nat) (w : World) (own : w.ownsRow B 3 1 (.slice (some ⟨g, 0, none⟩) (0) cap) (0) ((([] : List Int)).reverse.map iv)) (hB : B ≤ w.heap.size) (hst : (([] : List Int)).length ≤ 100) : Calls Try.prog 141 #[.slice A cs.length cc, .slice (some ⟨g, 0, none⟩) (0) cap, aggP (6, 0, nilV)] w (StepPost cs (([] : List Int)) (6, 0, nilV) B w) := by
  have OQ : Hid (w.ownsRow B 3 1 (.slice (some ⟨g, 0, none⟩) 0 cap) 0 []) := own
  obtain ⟨hBg, hg, hc1, hc2⟩ := own_cap own
  clear own
  have hgn : ¬ (w.heap.size = g) := by omega
  obtain ⟨i0, hi, iz0, iz1, iz2⟩ := info_parts infoN
  unfold aggP nilV
  simp only
  go_enter Try.func141, Try.ntmps141
  go_wp2_with (at_builtin; refine wpList_append_own _ rfl (.tmp 162) (.tmp 163) 30 rfl B 3 i0 (.int .i64 0) 1 8 Try.underlying30 hi iz0 iz1 iz2 rfl (by decide) (.slice (some ⟨g, 0, none⟩) (0) cap) (0) ([]) rfl (((OQ.out).alloc _).alloc _) ⟨w.heap.size + 1, 0, none⟩ 1 1 [.int .i64 3] rfl rfl (news_new (by simp)) (by simp [Value.oneCell']) (by unfold maxLen; omega) (by omega) (by simp; omega) ?_; intro v2 w2 hown2 hgr2 _; have OWN2 := Lib.hid hown2; have HB2 := Lib.hid (Below.grown (B := B) (a := w) (((Below.refl B w).alloc hB _).alloc (by simp; omega) _) hgr2 (by simp; omega) (fun k hk => (OQ.out.lt k hk).1)); clear hown2 hgr2)
  all_goals (refine bodyPost_ret (v := .tuple #[v2, .bool false]) (by simp [results, Try.results141, go_sem]) rfl (step_no (by simp [stepK, partBad, isNil, nilV, *]) HB2.out); done)
end Go.Proofs.Ytacinjbaebimhaa.Val
namespace Go.Proofs.Ytacinjbaebimhaa.Val
open Go.RowKit
set_option linter.unusedVariables false
set_option linter.unusedSimpArgs false
set_option maxRecDepth 20000
set_option maxHeartbeats 2000000 in
theorem l4Step7C (A : Option Addr) (cc : Nat) (cs : List CT) (g cap : Nat) (a : Int) (q : List Int) (B : Nat) (w : World) (own : w.ownsRow B 3 1 (.slice (some ⟨g, 0, none⟩) (q.length + 1) cap) (q.length + 1) ((a :: q).reverse.map iv)) (hB : B ≤ w.heap.size) (hst : (a :: q).length ≤ 100) : Calls Try.prog 141 #[.slice A cs.length cc, .slice (some ⟨g, 0, none⟩) (q.length + 1) cap, aggP (7, 0, nilV)] w (StepPost cs (a :: q) (7, 0, nilV) B w) := by
  have OWN := Lib.hid own
  have OQ := Lib.hid (own_fewer (x := [a]) (l := q) own)
  have ha := own_rev (x := [a]) (l := q) own 0 (by simp)
  simp at ha
  obtain ⟨hBg, hg, hc1, hc2⟩ := own_cap own
  clear own
  have hgn : ¬ (w.heap.size = g) := by omega
  obtain ⟨i0, hi, iz0, iz1, iz2⟩ := info_parts infoN
  simp only [List.length_cons] at hst
  have kw1 : IntKind.i64.wrap (q.length : Int) = (q.length : Int) := IntWalk.i64_in _ (by omega)
  have k3 : (0 : Int) ≤ (q.length : Int) := by omega
  have k8 : (q.length : Int) < (q.length : Int) + 1 := by omega
  have hgt : decide ((0 : Int) < (q.length : Int) + 1) = true := decide_eq_true (by omega)
  rcases Decidable.em (a = 3) with rfl | ha1
  · unfold aggP nilV
    simp only
    go_enter Try.func141, Try.ntmps141
    go_wp2
    all_goals (try go_region)
    all_goals (try go_wp2)
    all_goals (refine bodyPost_ret (v := .tuple #[.slice (some ⟨g, 0, none⟩) (q.length + 1) cap, .bool true]) (by simp [results, Try.results141, go_sem]) rfl (step_yes (st' := 3 :: q) (by simp [stepK, partBad, isNil, nilV]) (by repeat (with_reducible first | exact Below.refl B w | refine Below.alloc ?_ (by first | exact hB | (simp; omega)) _ | apply Below.drew)) (by repeat (with_reducible first | exact OWN.out | apply World.ownsRow.alloc | apply own_drew)) (by simp) (by simp) rfl); done)
  · have haa : (a == 3) = false := by simp [ha1]
    unfold aggP nilV
    simp only
    go_enter Try.func141, Try.ntmps141
    go_wp2
    all_goals (try go_region)
    all_goals (try go_wp2)
    all_goals (refine bodyPost_ret (v := .tuple #[.slice (some ⟨g, 0, none⟩) (q.length + 1) cap, .bool false]) (by simp [results, Try.results141, go_sem]) rfl (step_no (by simp [stepK, partBad, isNil, nilV, ha1]) (by repeat (with_reducible first | exact Below.refl B w | refine Below.alloc ?_ (by first | exact hB | (simp; omega)) _ | apply Below.drew))); done)
set_option maxHeartbeats 2000000 in
theorem l4Step7A (A : Option Addr) (cc : Nat) (cs : List CT) (g cap : Nat)  (B : Nat) (w : World) (own : w.ownsRow B 3 1 (.slice (some ⟨g, 0, none⟩) (0) cap) (0) ((([] : List Int)).reverse.map iv)) (hB : B ≤ w.heap.size) (hst : (([] : List Int)).length ≤ 100) : Calls Try.prog 141 #[.slice A cs.length cc, .slice (some ⟨g, 0, none⟩) (0) cap, aggP (7, 0, nilV)] w (StepPost cs (([] : List Int)) (7, 0, nilV) B w) := by
  have OQ : Hid (w.ownsRow B 3 1 (.slice (some ⟨g, 0, none⟩) 0 cap) 0 []) := own
  obtain ⟨hBg, hg, hc1, hc2⟩ := own_cap own
  clear own
  have hgn : ¬ (w.heap.size = g) := by omega
  obtain ⟨i0, hi, iz0, iz1, iz2⟩ := info_parts infoN
  unfold aggP nilV
  simp only
  go_enter Try.func141, Try.ntmps141
  go_wp2
  all_goals (try go_region)
  all_goals (try go_wp2)
  all_goals (refine bodyPost_ret (v := .tuple #[.slice (some ⟨g, 0, none⟩) 0 cap, .bool false]) (by simp [results, Try.results141, go_sem]) rfl (step_no (by simp [stepK, partBad, isNil, nilV]) (by repeat (with_reducible first | exact Below.refl B w | refine Below.alloc ?_ (by first | exact hB | (simp; omega)) _ | apply Below.drew))); done)
set_option maxHeartbeats 2000000 in
theorem l4Step8C (A : Option Addr) (cc : Nat) (cs : List CT) (g cap : Nat) (a : Int) (q : List Int) (B : Nat) (w : World) (own : w.ownsRow B 3 1 (.slice (some ⟨g, 0, none⟩) (q.length + 1) cap) (q.length + 1) ((a :: q).reverse.map iv)) (hB : B ≤ w.heap.size) (hst : (a :: q).length ≤ 100) : Calls Try.prog 141 #[.slice A cs.length cc, .slice (some ⟨g, 0, none⟩) (q.length + 1) cap, aggP (8, 0, nilV)] w (StepPost cs (a :: q) (8, 0, nilV) B w) := by
  have OQ := Lib.hid (own_fewer (x := [a]) (l := q) own)
  have ha := own_rev (x := [a]) (l := q) own 0 (by simp)
  simp at ha
  obtain ⟨hBg, hg, hc1, hc2⟩ := own_cap own
  clear own
  have hgn : ¬ (w.heap.size = g) := by omega
  obtain ⟨i0, hi, iz0, iz1, iz2⟩ := info_parts infoN
  simp only [List.length_cons] at hst
  unfold aggP nilV
  simp only
  go_enter Try.func141, Try.ntmps141
  go_wp2_with (at_builtin; refine wpList_append_own _ rfl (.tmp 185) (.tmp 186) 30 rfl B 3 i0 (.int .i64 0) 1 8 Try.underlying30 hi iz0 iz1 iz2 rfl (by decide) (.slice (some ⟨g, 0, none⟩) (q.length) cap) (q.length) ((q.reverse.map iv)) rfl (((OQ.out).alloc _).alloc _) ⟨w.heap.size + 1, 0, none⟩ 1 1 [.int .i64 3] rfl rfl (news_new (by simp)) (by simp [Value.oneCell']) (by unfold maxLen; omega) (by omega) (by simp; omega) ?_; intro v2 w2 hown2 hgr2 _; have OWN2 := Lib.hid hown2; have HB2 := Lib.hid (Below.grown (B := B) (a := w) (((Below.refl B w).alloc hB _).alloc (by simp; omega) _) hgr2 (by simp; omega) (fun k hk => (OQ.out.lt k hk).1)); clear hown2 hgr2)
  all_goals (refine bodyPost_ret (v := .tuple #[v2, .bool true]) (by simp [results, Try.results141, go_sem]) rfl (step_yes (st' := 3 :: q) (by simp [stepK, partBad, isNil, nilV, *]) HB2.out OWN2.out (by simp) (by simp) (by simp [iv])); done)
set_option maxHeartbeats 2000000 in
theorem l4Step8A (A : Option Addr) (cc : Nat) (cs : List CT) (g cap : Nat)  (B : Nat) (w : World) (own : w.ownsRow B 3 1 (.slice (some ⟨g, 0, none⟩) (0) cap) (0) ((([] : List Int)).reverse.map iv)) (hB : B ≤ w.heap.size) (hst : (([] : List Int)).length ≤ 100) : Calls Try.prog 141 #[.slice A cs.length cc, .slice (some ⟨g, 0, none⟩) (0) cap, aggP (8, 0, nilV)] w (StepPost cs (([] : List Int)) (8, 0, nilV) B w) := by
  have OQ : Hid (w.ownsRow B 3 1 (.slice (some ⟨g, 0, none⟩) 0 cap) 0 []) := own
  obtain ⟨hBg, hg, hc1, hc2⟩ := own_cap own
  clear own
  have hgn : ¬ (w.heap.size = g) := by omega
  obtain ⟨i0, hi, iz0, iz1, iz2⟩ := info_parts infoN
  unfold aggP nilV
  simp only
  go_enter Try.func141, Try.ntmps141
  go_wp2_with (at_builtin; refine wpList_append_own _ rfl (.tmp 185) (.tmp 186) 30 rfl B 3 i0 (.int .i64 0) 1 8 Try.underlying30 hi iz0 iz1 iz2 rfl (by decide) (.slice (some ⟨g, 0, none⟩) (0) cap) (0) ([]) rfl (((OQ.out).alloc _).alloc _) ⟨w.heap.size + 1, 0, none⟩ 1 1 [.int .i64 3] rfl rfl (news_new (by simp)) (by simp [Value.oneCell']) (by unfold maxLen; omega) (by omega) (by simp; omega) ?_; intro v2 w2 hown2 hgr2 _; have OWN2 := Lib.hid hown2; have HB2 := Lib.hid (Below.grown (B := B) (a := w) (((Below.refl B w).alloc hB _).alloc (by simp; omega) _) hgr2 (by simp; omega) (fun k hk => (OQ.out.lt k hk).1)); clear hown2 hgr2)
  all_goals (refine bodyPost_ret (v := .tuple #[v2, .bool false]) (by simp [results, Try.results141, go_sem]) rfl (step_no (by simp [stepK, partBad, isNil, nilV, *]) HB2.out); done)
end Go.Proofs.Ytacinjbaebimhaa.Val
namespace Go.Proofs.Ytacinjbaebimhaa.Val
open Go.RowKit
set_option linter.unusedVariables false
set_option linter.unusedSimpArgs false
set_option maxRecDepth 20000
set_option maxHeartbeats 2000000 in
theorem l4Step4C (A : Option Addr) (cc : Nat) (cs : List CT) (g cap : Nat) (n a b : Int) (q : List Int) (B : Nat) (w : World) (own : w.ownsRow B 3 1 (.slice (some ⟨g, 0, none⟩) (q.length + 1 + 1) cap) (q.length + 1 + 1) ((a :: b :: q).reverse.map iv)) (hB : B ≤ w.heap.size) (hst : (a :: b :: q).length ≤ 100) : Calls Try.prog 141 #[.slice A cs.length cc, .slice (some ⟨g, 0, none⟩) (q.length + 1 + 1) cap, aggP (4, n, nilV)] w (StepPost cs (a :: b :: q) (4, n, nilV) B w) := by
  have ha := own_rev (x := [a, b]) (l := q) own 1 (by simp)
  have hb := own_rev (x := [a, b]) (l := q) own 0 (by simp)
  simp at ha hb
  have OQ := Lib.hid (own_fewer (x := [a, b]) (l := q) own)
  obtain ⟨hBg, hg, hc1, hc2⟩ := own_cap own
  clear own
  have hgn : ¬ (w.heap.size = g) := by omega
  obtain ⟨i0, hi, iz0, iz1, iz2⟩ := info_parts infoN
  simp only [List.length_cons] at hst
  have kw1 : IntKind.i64.wrap ((q.length : Int) + 1) = (q.length : Int) + 1 := IntWalk.i64_in _ (by omega)
  have kw2 : IntKind.i64.wrap ((q.length : Int) + 1 + 1 - 2) = (q.length : Int) := by rw [IntWalk.i64_in _ (by omega)]; omega
  have k3 : (0 : Int) ≤ (q.length : Int) := by omega
  have k4 : (q.length : Int) < (q.length : Int) + 1 + 1 := by omega
  have k7 : (0 : Int) ≤ (q.length : Int) + 1 := by omega
  have k8 : (q.length : Int) + 1 < (q.length : Int) + 1 + 1 := by omega
  have k9 : ((q.length : Int) + 1).toNat = q.length + 1 := by omega
  have hgt : decide ((1 : Int) < (q.length : Int) + 1 + 1) = true := by simp; omega
  rcases Decidable.em (a = b) with rfl | ha1
  · have haa : (a == a) = true := by simp
    rcases Decidable.em (1 ≤ n ∧ n ≤ 4) with hn | hn
    · have hn1 : (decide ((1 : Int) ≤ n) && decide (n ≤ 4)) = true := by simp [hn]
      unfold aggP nilV
      simp only
      go_enter Try.func141, Try.ntmps141
      go_wp2_with (go_at_call 49; ((with_reducible refine (l1In _ _ _ _).mono ?_); rintro e w1 ⟨rfl, rfl⟩))
      go_region_held_law (fun w' => w'.cell? ⟨w.heap.size, 1, none⟩ = some (.int .i64 n) ∧ w'.cell? ⟨g, q.length + 1, none⟩ = some (.int .i64 a) ∧ w'.cell? ⟨g, q.length, none⟩ = some (.int .i64 a)) (go_keep) (first | (go_at_call 49; ((with_reducible refine (l1In _ _ _ _).mono ?_); rintro e w1 ⟨rfl, rfl⟩)))
      all_goals clear kw1 kw2 k3 k4 k7 k8 k9
      all_goals go_wp2_with (at_builtin; refine wpList_append_own _ rfl (.tmp 133) (.tmp 134) 30 rfl B 3 i0 (.int .i64 0) 1 8 Try.underlying30 hi iz0 iz1 iz2 rfl (by decide) (.slice (some ⟨g, 0, none⟩) (q.length) cap) (q.length) ((q.reverse.map iv)) rfl (by repeat (with_reducible first | exact OQ.out | apply World.ownsRow.alloc | apply own_drew)) ⟨w.heap.size + 1, 0, none⟩ 1 1 [.int .i64 3] rfl rfl (news_new (by simp)) (by simp [Value.oneCell']) (by unfold maxLen; omega) (by omega) (by simp; omega) ?_; intro v2 w2 hown2 hgr2 _; have OWN2 := Lib.hid hown2; have HB2 := Lib.hid (Below.grown (B := B) (a := w) (by repeat (with_reducible first | exact Below.refl B w | refine Below.alloc ?_ (by first | exact hB | (simp; omega)) _ | apply Below.drew)) hgr2 (by simp; omega) (fun k hk => (OQ.out.lt k hk).1)); clear hown2 hgr2)
      all_goals (refine bodyPost_ret (v := .tuple #[v2, .bool true]) (by simp [results, Try.results141, go_sem]) rfl (step_yes (st' := 3 :: q) (by simp [stepK, partBad, isNil, nilV, *]) HB2.out OWN2.out (by simp) (by simp) (by simp [iv])); done)
    · have hn1 : (decide ((1 : Int) ≤ n) && decide (n ≤ 4)) = false := by simp; omega
      unfold aggP nilV
      simp only
      go_enter Try.func141, Try.ntmps141
      go_wp2_with (go_at_call 49; ((with_reducible refine (l1In _ _ _ _).mono ?_); rintro e w1 ⟨rfl, rfl⟩))
      go_region_held_law (fun w' => w'.cell? ⟨w.heap.size, 1, none⟩ = some (.int .i64 n) ∧ w'.cell? ⟨g, q.length + 1, none⟩ = some (.int .i64 a) ∧ w'.cell? ⟨g, q.length, none⟩ = some (.int .i64 a)) (go_keep) (first | (go_at_call 49; ((with_reducible refine (l1In _ _ _ _).mono ?_); rintro e w1 ⟨rfl, rfl⟩)))
      all_goals clear kw1 kw2 k3 k4 k7 k8 k9
      all_goals go_wp2_with (at_builtin; refine wpList_append_own _ rfl (.tmp 133) (.tmp 134) 30 rfl B 3 i0 (.int .i64 0) 1 8 Try.underlying30 hi iz0 iz1 iz2 rfl (by decide) (.slice (some ⟨g, 0, none⟩) (q.length) cap) (q.length) ((q.reverse.map iv)) rfl (by repeat (with_reducible first | exact OQ.out | apply World.ownsRow.alloc | apply own_drew)) ⟨w.heap.size + 1, 0, none⟩ 1 1 [.int .i64 3] rfl rfl (news_new (by simp)) (by simp [Value.oneCell']) (by unfold maxLen; omega) (by omega) (by simp; omega) ?_; intro v2 w2 hown2 hgr2 _; have OWN2 := Lib.hid hown2; have HB2 := Lib.hid (Below.grown (B := B) (a := w) (by repeat (with_reducible first | exact Below.refl B w | refine Below.alloc ?_ (by first | exact hB | (simp; omega)) _ | apply Below.drew)) hgr2 (by simp; omega) (fun k hk => (OQ.out.lt k hk).1)); clear hown2 hgr2)
      all_goals (refine bodyPost_ret (v := .tuple #[v2, .bool false]) (by simp [results, Try.results141, go_sem]) rfl (step_no (by simp [stepK, partBad, isNil, nilV]; omega) HB2.out); done)
  · have haa : (a == b) = false := by simp [ha1]
    unfold aggP nilV
    simp only
    go_enter Try.func141, Try.ntmps141
    go_wp2_with (go_at_call 49; ((with_reducible refine (l1In _ _ _ _).mono ?_); rintro e w1 ⟨rfl, rfl⟩))
    go_region
    all_goals clear kw1 kw2 k3 k4 k7 k8 k9
    all_goals go_wp2_with (at_builtin; refine wpList_append_own _ rfl (.tmp 133) (.tmp 134) 30 rfl B 3 i0 (.int .i64 0) 1 8 Try.underlying30 hi iz0 iz1 iz2 rfl (by decide) (.slice (some ⟨g, 0, none⟩) (q.length) cap) (q.length) ((q.reverse.map iv)) rfl (by repeat (with_reducible first | exact OQ.out | apply World.ownsRow.alloc | apply own_drew)) ⟨w.heap.size + 1, 0, none⟩ 1 1 [.int .i64 3] rfl rfl (news_new (by simp)) (by simp [Value.oneCell']) (by unfold maxLen; omega) (by omega) (by simp; omega) ?_; intro v2 w2 hown2 hgr2 _; have OWN2 := Lib.hid hown2; have HB2 := Lib.hid (Below.grown (B := B) (a := w) (by repeat (with_reducible first | exact Below.refl B w | refine Below.alloc ?_ (by first | exact hB | (simp; omega)) _ | apply Below.drew)) hgr2 (by simp; omega) (fun k hk => (OQ.out.lt k hk).1)); clear hown2 hgr2)
    all_goals (refine bodyPost_ret (v := .tuple #[v2, .bool false]) (by simp [results, Try.results141, go_sem]) rfl (step_no (by simp [stepK, partBad, isNil, nilV, *]) HB2.out); done)
set_option maxHeartbeats 2000000 in
theorem l4Step4B (A : Option Addr) (cc : Nat) (cs : List CT) (g cap : Nat) (n a : Int) (B : Nat) (w : World) (own : w.ownsRow B 3 1 (.slice (some ⟨g, 0, none⟩) (1) cap) (1) (([a]).reverse.map iv)) (hB : B ≤ w.heap.size) (hst : ([a]).length ≤ 100) : Calls Try.prog 141 #[.slice A cs.length cc, .slice (some ⟨g, 0, none⟩) (1) cap, aggP (4, n, nilV)] w (StepPost cs ([a]) (4, n, nilV) B w) := by
  have OQ : Hid (w.ownsRow B 3 1 (.slice (some ⟨g, 0, none⟩) 0 cap) 0 []) := own_fewer (x := [a]) (l := []) own
  have ha := own_rev (x := [a]) (l := []) own 0 (by simp)
  simp at ha
  obtain ⟨hBg, hg, hc1, hc2⟩ := own_cap own
  clear own
  have hgn : ¬ (w.heap.size = g) := by omega
  obtain ⟨i0, hi, iz0, iz1, iz2⟩ := info_parts infoN
  unfold aggP nilV
  simp only
  go_enter Try.func141, Try.ntmps141
  go_wp2_with (go_at_call 49; ((with_reducible refine (l1In _ _ _ _).mono ?_); rintro e w1 ⟨rfl, rfl⟩))
  go_region
  all_goals go_wp2_with (at_builtin; refine wpList_append_own _ rfl (.tmp 133) (.tmp 134) 30 rfl B 3 i0 (.int .i64 0) 1 8 Try.underlying30 hi iz0 iz1 iz2 rfl (by decide) (.slice (some ⟨g, 0, none⟩) (0) cap) (0) ([]) rfl (by repeat (with_reducible first | exact OQ.out | apply World.ownsRow.alloc | apply own_drew)) ⟨w.heap.size + 1, 0, none⟩ 1 1 [.int .i64 3] rfl rfl (news_new (by simp)) (by simp [Value.oneCell']) (by unfold maxLen; omega) (by omega) (by simp; omega) ?_; intro v2 w2 hown2 hgr2 _; have OWN2 := Lib.hid hown2; have HB2 := Lib.hid (Below.grown (B := B) (a := w) (by repeat (with_reducible first | exact Below.refl B w | refine Below.alloc ?_ (by first | exact hB | (simp; omega)) _ | apply Below.drew)) hgr2 (by simp; omega) (fun k hk => (OQ.out.lt k hk).1)); clear hown2 hgr2)
  all_goals (refine bodyPost_ret (v := .tuple #[v2, .bool false]) (by simp [results, Try.results141, go_sem]) rfl (step_no (by simp [stepK, partBad, isNil, nilV, *]) HB2.out); done)
set_option maxHeartbeats 2000000 in
theorem l4Step4A (A : Option Addr) (cc : Nat) (cs : List CT) (g cap : Nat) (n : Int) (B : Nat) (w : World) (own : w.ownsRow B 3 1 (.slice (some ⟨g, 0, none⟩) (0) cap) (0) ((([] : List Int)).reverse.map iv)) (hB : B ≤ w.heap.size) (hst : (([] : List Int)).length ≤ 100) : Calls Try.prog 141 #[.slice A cs.length cc, .slice (some ⟨g, 0, none⟩) (0) cap, aggP (4, n, nilV)] w (StepPost cs (([] : List Int)) (4, n, nilV) B w) := by
  have OQ : Hid (w.ownsRow B 3 1 (.slice (some ⟨g, 0, none⟩) 0 cap) 0 []) := own
  obtain ⟨hBg, hg, hc1, hc2⟩ := own_cap own
  clear own
  have hgn : ¬ (w.heap.size = g) := by omega
  obtain ⟨i0, hi, iz0, iz1, iz2⟩ := info_parts infoN
  unfold aggP nilV
  simp only
  go_enter Try.func141, Try.ntmps141
  go_wp2_with (go_at_call 49; ((with_reducible refine (l1In _ _ _ _).mono ?_); rintro e w1 ⟨rfl, rfl⟩))
  go_region
  all_goals go_wp2_with (at_builtin; refine wpList_append_own _ rfl (.tmp 133) (.tmp 134) 30 rfl B 3 i0 (.int .i64 0) 1 8 Try.underlying30 hi iz0 iz1 iz2 rfl (by decide) (.slice (some ⟨g, 0, none⟩) (0) cap) (0) ([]) rfl (by repeat (with_reducible first | exact OQ.out | apply World.ownsRow.alloc | apply own_drew)) ⟨w.heap.size + 1, 0, none⟩ 1 1 [.int .i64 3] rfl rfl (news_new (by simp)) (by simp [Value.oneCell']) (by unfold maxLen; omega) (by omega) (by simp; omega) ?_; intro v2 w2 hown2 hgr2 _; have OWN2 := Lib.hid hown2; have HB2 := Lib.hid (Below.grown (B := B) (a := w) (by repeat (with_reducible first | exact Below.refl B w | refine Below.alloc ?_ (by first | exact hB | (simp; omega)) _ | apply Below.drew)) hgr2 (by simp; omega) (fun k hk => (OQ.out.lt k hk).1)); clear hown2 hgr2)
  all_goals (refine bodyPost_ret (v := .tuple #[v2, .bool false]) (by simp [results, Try.results141, go_sem]) rfl (step_no (by simp [stepK, partBad, isNil, nilV, *]) HB2.out); done)
end Go.Proofs.Ytacinjbaebimhaa.Val
namespace Go.Proofs.Ytacinjbaebimhaa.Val
open Go.RowKit
set_option linter.unusedVariables false
set_option linter.unusedSimpArgs false
set_option maxRecDepth 20000
set_option maxHeartbeats 2000000 in
theorem l4Step1 (A : Option Addr) (gc o cc : Nat) (cs : List CT) (g cap : Nat) (st : List Int) (vk vn : Int) (s : ByteArray) (B : Nat) (w : World) (hA : Fl w gc o A (flatC cs)) (hcs : cs.length ≤ 2000000) (own : w.ownsRow B 3 1 (.slice (some ⟨g, 0, none⟩) st.length cap) st.length (st.reverse.map iv)) (hB : B ≤ w.heap.size) (hst : st.length ≤ 100) (hs : s.size ≤ maxLen) : Calls Try.prog 141 #[.slice A cs.length cc, .slice (some ⟨g, 0, none⟩) st.length cap, aggP (1, 0, (vk, vn, s))] w (StepPost cs st (1, 0, (vk, vn, s)) B w) := by
  have OQ := Lib.hid own
  obtain ⟨hBg, hg, hc1, hc2⟩ := own_cap own
  clear own
  have hgn : ¬ (w.heap.size = g) := by omega
  obtain ⟨i0, hi, iz0, iz1, iz2⟩ := info_parts infoN
  unfold aggP
  simp only
  go_enter Try.func141, Try.ntmps141
  go_wp2_with (first | (go_at_call 155; ((with_reducible refine (valueOkS _ _ _ _ (by assumption)).mono ?_); rintro e w1 ⟨rfl, hb1⟩; have hz1 := hb1.size; (try simp at hz1); have HO := Lib.hid (own_below ((OQ.out).alloc _) hb1); have HB1 := Lib.hid (Below.trans ((Below.refl B w).alloc hB _) (hb1.mono (by simp; omega))); obtain ⟨hc1, hf1⟩ := bcell hb1; (try simp only [World.size_drew, World.cell?_drew, World.frozen?_drew] at hc1 hf1))) | (at_builtin; refine wpList_append_own _ rfl (.tmp 54) (.tmp 58) 30 rfl B 3 i0 (.int .i64 0) 1 8 Try.underlying30 hi iz0 iz1 iz2 rfl (by decide) (.slice (some ⟨g, 0, none⟩) (st.length) cap) (st.length) ((st.reverse.map iv)) rfl (by repeat (with_reducible first | exact HO.out | apply World.ownsRow.alloc | apply own_drew)) ⟨w1.heap.size, 0, none⟩ 1 1 [.int .i64 vk] rfl rfl (news_new (by simp)) (by simp [Value.oneCell']) (by unfold maxLen; omega) (by omega) (by simp; omega) ?_; intro v2 w2 hown2 hgr2 _; have OWN2 := Lib.hid hown2; have HB2 := Lib.hid (Below.grown (B := B) (a := w) (by repeat (with_reducible first | exact Below.refl B w | exact HB1.out | refine Below.alloc ?_ (by first | exact hB | (have := HB1.out.size; omega) | (have := HB1.out.size; simp; omega) | (simp; omega)) _ | apply Below.drew)) hgr2 (by simp; omega) (fun k hk => (HO.out.lt k hk).1)); clear hown2 hgr2))
  all_goals first
    | (have _ := OWN2
       refine bodyPost_ret (v := .tuple #[v2, .bool true]) (by simp [results, Try.results141, go_sem]) rfl (step_yes (st' := vk :: st) ?_ HB2.out OWN2.out (by simp) (by simp) (by simp [iv]))
       simp_all [stepK, partBad, okV]
       done)
    | (refine bodyPost_ret (v := .tuple #[.slice (some ⟨g, 0, none⟩) st.length cap, .bool false]) (by simp [results, Try.results141, go_sem]) rfl (step_no ?_ (by repeat (with_reducible first | exact Below.refl B w | exact HB1.out | refine Below.alloc ?_ (by first | exact hB | (have := HB1.out.size; omega) | (have := HB1.out.size; simp; omega) | (simp; omega)) _ | apply Below.drew)))
       simp_all [stepK, partBad, okV]
       done)
set_option maxHeartbeats 2000000 in
theorem l4Step2 (A : Option Addr) (gc o cc : Nat) (cs : List CT) (g cap : Nat) (st : List Int) (n : Int) (B : Nat) (w : World) (hA : Fl w gc o A (flatC cs)) (hcs : cs.length ≤ 2000000) (own : w.ownsRow B 3 1 (.slice (some ⟨g, 0, none⟩) st.length cap) st.length (st.reverse.map iv)) (hB : B ≤ w.heap.size) (hst : st.length ≤ 100) : Calls Try.prog 141 #[.slice A cs.length cc, .slice (some ⟨g, 0, none⟩) st.length cap, aggP (2, n, nilV)] w (StepPost cs st (2, n, nilV) B w) := by
  have OQ := Lib.hid own
  obtain ⟨hBg, hg, hc1, hc2⟩ := own_cap own
  clear own
  have hgn : ¬ (w.heap.size = g) := by omega
  obtain ⟨i0, hi, iz0, iz1, iz2⟩ := info_parts infoN
  rcases Decidable.em (0 ≤ n ∧ n < cs.length) with ⟨hn0, hn1⟩ | hn
  · obtain ⟨N, rfl⟩ := Int.eq_ofNat_of_zero_le hn0
    have hN : N < cs.length := by omega
    have hin : (decide ((0 : Int) ≤ (N : Int)) && decide ((N : Int) ≤ (cs.length : Int) - 1)) = true := by simp; omega
    have HS := Lib.hid (show stepK cs (2, (N : Int), nilV) st = some (cs[N].1 :: st) by simp [stepK, partBad, isNil, nilV, colAt, hN])
    obtain ⟨rfl, hg2, c0, -⟩ := hA.cl N hN
    have hgn2 : ¬ (w.heap.size = gc) := by omega
    obtain ⟨K, hK⟩ : ∃ K, cs[N].1 = K := ⟨_, rfl⟩
    rw [hK] at c0 HS
    clear hK hA
    have i0' : (0 : Int) ≤ (N : Int) := by omega
    have i1' : (N : Int) < (cs.length : Int) := by omega
    unfold aggP nilV
    simp only
    go_enter Try.func141, Try.ntmps141
    go_wp2_with (first | (go_at_call 49; ((with_reducible refine (l1In _ _ _ _).mono ?_); rintro e w1 ⟨rfl, rfl⟩)) | (at_builtin; refine wpList_append_own _ rfl (.tmp 70) (.tmp 77) 30 rfl B 3 i0 (.int .i64 0) 1 8 Try.underlying30 hi iz0 iz1 iz2 rfl (by decide) (.slice (some ⟨g, 0, none⟩) (st.length) cap) (st.length) ((st.reverse.map iv)) rfl (by repeat (with_reducible first | exact OQ.out | apply World.ownsRow.alloc | apply own_drew)) ⟨w.heap.size + 1, 0, none⟩ 1 1 [.int .i64 K] rfl rfl (news_new (by simp)) (by simp [Value.oneCell']) (by unfold maxLen; omega) (by omega) (by simp; omega) ?_; intro v2 w2 hown2 hgr2 _; have OWN2 := Lib.hid hown2; have HB2 := Lib.hid (Below.grown (B := B) (a := w) (by repeat (with_reducible first | exact Below.refl B w | refine Below.alloc ?_ (by first | exact hB | (simp; omega)) _ | apply Below.drew)) hgr2 (by simp; omega) (fun k hk => (OQ.out.lt k hk).1)); clear hown2 hgr2))
    all_goals first
      | (have _ := OWN2
         refine bodyPost_ret (v := .tuple #[v2, .bool true]) (by simp [results, Try.results141, go_sem]) rfl (step_yes HS.out HB2.out OWN2.out (by simp) (by simp) (by simp [iv]))
         done)
      | (exfalso; simp at *; omega)
  · have hin : (decide ((0 : Int) ≤ n) && decide (n ≤ (cs.length : Int) - 1)) = false := by simp; omega
    have HS := Lib.hid (show stepK cs (2, n, nilV) st = none by simp [stepK, partBad, isNil, nilV]; omega)
    clear hn
    unfold aggP nilV
    simp only
    go_enter Try.func141, Try.ntmps141
    go_wp2_with (first | (go_at_call 49; ((with_reducible refine (l1In _ _ _ _).mono ?_); rintro e w1 ⟨rfl, rfl⟩)))
    all_goals first
      | (exfalso; simp at *; omega)
      | (refine bodyPost_ret (v := .tuple #[.slice (some ⟨g, 0, none⟩) st.length cap, .bool false]) (by simp [results, Try.results141, go_sem]) rfl (step_no HS.out (by repeat (with_reducible first | exact Below.refl B w | refine Below.alloc ?_ (by first | exact hB | (simp; omega)) _ | apply Below.drew))); done)
set_option maxHeartbeats 2000000 in
theorem l4StepNo (A : Option Addr) (gc o cc : Nat) (cs : List CT) (g cap : Nat) (st : List Int) (k : Int) (B : Nat) (w : World) (hA : Fl w gc o A (flatC cs)) (hcs : cs.length ≤ 2000000) (own : w.ownsRow B 3 1 (.slice (some ⟨g, 0, none⟩) st.length cap) st.length (st.reverse.map iv)) (hB : B ≤ w.heap.size) (hst : st.length ≤ 100) (h : k ≠ 1 ∧ k ≠ 2 ∧ k ≠ 3 ∧ k ≠ 4 ∧ k ≠ 5 ∧ k ≠ 6 ∧ k ≠ 7 ∧ k ≠ 8) : Calls Try.prog 141 #[.slice A cs.length cc, .slice (some ⟨g, 0, none⟩) st.length cap, aggP (k, 0, nilV)] w (StepPost cs st (k, 0, nilV) B w) := by
  have OQ := Lib.hid own
  obtain ⟨hBg, hg, hc1, hc2⟩ := own_cap own
  clear own
  have hgn : ¬ (w.heap.size = g) := by omega
  obtain ⟨i0, hi, iz0, iz1, iz2⟩ := info_parts infoN
  obtain ⟨h1, h2, h3, h4, h5, h6, h7, h8⟩ := h
  have HS := Lib.hid (show stepK cs (k, 0, nilV) st = none by rcases st with _ | ⟨a, _ | ⟨b, q⟩⟩ <;> simp [stepK, partBad, isNil, nilV, h1, h2, h3, h4, h5, h6, h7, h8])
  unfold aggP nilV
  simp only
  go_enter Try.func141, Try.ntmps141
  go_wp2
  all_goals first
    | contradiction
    | (refine bodyPost_ret (v := .tuple #[.slice (some ⟨g, 0, none⟩) st.length cap, .bool false]) (by simp [results, Try.results141, go_sem]) rfl (step_no HS.out (by repeat (with_reducible first | exact Below.refl B w | refine Below.alloc ?_ (by first | exact hB | (simp; omega)) _ | apply Below.drew))); done)
end Go.Proofs.Ytacinjbaebimhaa.Val
namespace Go.Proofs.Ytacinjbaebimhaa.Val
open Go.RowKit
set_option linter.unusedVariables false
theorem nil_is {v : VT} (h : isNil v = true) : v = nilV := by
  obtain ⟨k, n, s⟩ := v
  simp [isNil] at h
  obtain ⟨⟨rfl, rfl⟩, hs⟩ := h
  rw [bytes_none hs]; rfl
theorem l4Step (A : Option Addr) (gc o cc : Nat) (cs : List CT) (g cap : Nat) (st : List Int) (p : PT) (B : Nat) (w : World) (hA : Fl w gc o A (flatC cs)) (hcs : cs.length ≤ 2000000) (own : w.ownsRow B 3 1 (.slice (some ⟨g, 0, none⟩) st.length cap) st.length (st.reverse.map iv)) (hB : B ≤ w.heap.size) (hst : st.length ≤ 100) (hs : p.2.2.2.2.size ≤ maxLen) : Calls Try.prog 141 #[.slice A cs.length cc, .slice (some ⟨g, 0, none⟩) st.length cap, aggP p] w (StepPost cs st p B w) := by
  rcases hb : partBad p with _ | _
  case true => exact l4StepBad A cc cs (.int .i64 0) st _ cap g p B w hb hB
  obtain ⟨k, n, v⟩ := p
  have hb2 : (k ≠ 1 → v = nilV) ∧ (k ≠ 2 → k ≠ 4 → n = 0) := by
    simp [partBad] at hb
    exact ⟨fun h => nil_is (by simpa using hb.1 h), fun h h4 => hb.2 h h4⟩
  clear hb
  obtain ⟨hv, hn⟩ := hb2
  rcases kind_eight k with rfl | rfl | rfl | rfl | rfl | rfl | rfl | rfl | h9
  · obtain rfl := hn (by decide) (by decide)
    exact l4Step1 A gc o cc cs g cap st v.1 v.2.1 v.2.2 B w hA hcs own hB hst hs
  · obtain rfl := hv (by decide)
    exact l4Step2 A gc o cc cs g cap st n B w hA hcs own hB hst
  · obtain rfl := hv (by decide)
    obtain rfl := hn (by decide) (by decide)
    clear hA hcs hs
    rcases st with _ | ⟨a, _ | ⟨b, q⟩⟩
    · exact l4Step3A A cc cs g cap B w own hB hst
    · exact l4Step3B A cc cs g cap a B w own hB hst
    · exact l4Step3C A cc cs g cap a b q B w own hB hst
  · obtain rfl := hv (by decide)
    clear hA hcs hs
    rcases st with _ | ⟨a, _ | ⟨b, q⟩⟩
    · exact l4Step4A A cc cs g cap n B w own hB hst
    · exact l4Step4B A cc cs g cap n a B w own hB hst
    · exact l4Step4C A cc cs g cap n a b q B w own hB hst
  · obtain rfl := hv (by decide)
    obtain rfl := hn (by decide) (by decide)
    clear hA hcs hs
    rcases st with _ | ⟨a, _ | ⟨b, q⟩⟩
    · exact l4Step5A A cc cs g cap B w own hB hst
    · exact l4Step5B A cc cs g cap a B w own hB hst
    · exact l4Step5C A cc cs g cap a b q B w own hB hst
  · obtain rfl := hv (by decide)
    obtain rfl := hn (by decide) (by decide)
    clear hA hcs hs
    rcases st with _ | ⟨a, _ | ⟨b, q⟩⟩
    · exact l4Step6A A cc cs g cap B w own hB hst
    · exact l4Step6B A cc cs g cap a B w own hB hst
    · exact l4Step6C A cc cs g cap a b q B w own hB hst
  · obtain rfl := hv (by decide)
    obtain rfl := hn (by decide) (by decide)
    clear hA hcs hs
    rcases st with _ | ⟨a, q⟩
    · exact l4Step7A A cc cs g cap B w own hB hst
    · exact l4Step7C A cc cs g cap a q B w own hB hst
  · obtain rfl := hv (by decide)
    obtain rfl := hn (by decide) (by decide)
    clear hA hcs hs
    rcases st with _ | ⟨a, q⟩
    · exact l4Step8A A cc cs g cap B w own hB hst
    · exact l4Step8C A cc cs g cap a q B w own hB hst
  · obtain rfl := hv h9.1
    obtain rfl := hn h9.2.1 h9.2.2.2.1
    exact l4StepNo A gc o cc cs g cap st k B w hA hcs own hB hst h9
end Go.Proofs.Ytacinjbaebimhaa.Val
