/- Folding an expression (impl.ExprFolded, spec.ExprFolded). -/
import Derived.Test.YtcocpmfndodapaaEVX
import Derived.Test.YtcocpmfndodapaaEXCS
import Derived.Test.YtcocpmfndodapaaEXM
namespace Go.Proofs.Ytcocpmfndodapaa.Val
open Go.RowKit
set_option linter.unusedVariables false
set_option linter.unusedSimpArgs false
set_option maxRecDepth 20000
theorem step_free {cs : List CT} {p : PT} (st : List Int) (h : p.1 ≠ 2) : stepK [] p st = stepK cs p st := by
  unfold stepK
  simp only [h, if_false]
theorem run_free {cs : List CT} {ps : List PT} (h : ∀ p ∈ ps, p.1 ≠ 2) : ∀ st, runK [] ps st = runK cs ps st := by
  induction ps with
  | nil => intro st; rfl
  | cons p ps ih =>
    intro st
    rw [runK, runK, step_free (cs := cs) st (h p (by simp))]
    rcases stepK cs p st with _ | s1
    · rfl
    · exact ih (fun q hq => h q (by simp [hq])) s1
theorem run_bound {ps : List PT} {p : PT} (hp : p ∈ ps) (h2 : p.1 = 2) : ∀ st, runK [] ps st = none := by
  induction ps with
  | nil => cases hp
  | cons q ps ih =>
    intro st
    rw [runK]
    rcases List.mem_cons.1 hp with rfl | hp
    · have : stepK [] p st = none := by
        rcases hs : stepK [] p st with _ | s1
        · rfl
        · have := step_col hs h2
          simp at this
          omega
      rw [this]
    · rcases stepK [] q st with _ | s1
      · rfl
      · exact ih hp s1
theorem cols_free {cs : List CT} {ps : List PT} (h : ¬ kindI cs ps < 0) (hn : colsI cs ps = []) : ∀ p ∈ ps, p.1 ≠ 2 := by
  intro p hp h2
  obtain ⟨i, hi, hpi⟩ := List.getElem_of_mem hp
  obtain ⟨h3, h4⟩ := col_in h hi hpi h2
  unfold colsI at hn
  rw [if_neg h, List.filter_eq_nil_iff] at hn
  refine hn p.2.1.toNat (List.mem_range.2 (by omega)) ?_
  unfold asks
  rw [List.any_eq_true]
  exact ⟨p, hp, by simp [h2]; omega⟩
theorem cols_bound {cs : List CT} {ps : List PT} (hn : colsI cs ps ≠ []) : ∃ p ∈ ps, p.1 = 2 := by
  unfold colsI at hn
  split at hn
  · exact absurd rfl hn
  · obtain ⟨k, hk⟩ := List.exists_mem_of_ne_nil _ hn
    have ha := (List.mem_filter.1 hk).2
    unfold asks at ha
    rw [List.any_eq_true] at ha
    obtain ⟨p, hp, h2⟩ := ha
    simp at h2
    exact ⟨p, hp, h2.1⟩
theorem fit_none : fitB [] [] = true := by simp [fitB, colB, rowB]
theorem kind_free {cs : List CT} {ps : List PT} (h : ¬ kindI cs ps < 0) (hn : colsI cs ps = []) : kindI [] ps = kindI cs ps := by
  obtain ⟨hc, h12, hr, -, -⟩ := kind_some h
  unfold kindI
  rw [if_pos ⟨by simp [colB], h12⟩, if_pos ⟨hc, h12⟩, run_free (cs := cs) (cols_free h hn)]
theorem kind_bound {cs : List CT} {ps : List PT} (hn : colsI cs ps ≠ []) : kindI [] ps = -1 := by
  obtain ⟨p, hp, h2⟩ := cols_bound hn
  exact kindI_dead (run_bound hp h2 [])
theorem xval_free {cs : List CT} {ps : List PT} (h : ¬ kindI cs ps < 0) (hn : colsI cs ps = []) : xvalI [] [] ps = (runV [] ps []).headD nilV := by
  unfold xvalI
  rw [if_neg (by rw [kind_free h hn, fit_none]; simp only [reduceCtorEq, or_false]; exact h)]
/-- What impl does. -/
theorem foldI_impl {cs : List CT} {ps : List PT} (h : ¬ kindI cs ps < 0) : foldI cs ps = if (xvalI [] [] ps).1 ≠ 0 then [(1, 0, xvalI [] [] ps)] else ps := by
  unfold foldI
  rw [if_neg h]
  by_cases hn : colsI cs ps = []
  · rw [xval_free h hn]
    simp only [hn, true_and]
  · rw [xval_nil (cs := []) (row := []) (ps := ps) (.inl (by rw [kind_bound hn]; decide))]
    simp [hn, nilV]
theorem colZ_none {cs : List CT} {ps : List PT} : (colZ cs ps = []) ↔ colsI cs ps = [] := by
  unfold colZ colsI
  split
  · simp
  · simp [colL]
theorem own_made {w : World} {B : Nat} (e : TypeId) (size n : Nat) (C : Array Value) {X : Nat} (hX : w.heap.size = X) (hB : B ≤ X) (hC : C.size = n * size) (hn : n ≤ maxLen) : (w.alloc (.cells C e)).ownsRow B e size (.slice (some ⟨X, 0, none⟩) n n) n C.toList := by
  subst hX
  exact ⟨hC, .inr ⟨w.heap.size, n, C, rfl, hB, heap_alloc_new w _, Nat.le_refl _, hn, hC, by rw [← hC, ← Array.length_toList, List.take_length]⟩⟩
/-- The cells of an expression that lies in a block, as news for append. -/
theorem news_flat {W : World} {ge oe : Nat} {E : Option Addr} {xs : List Value} (hE : Fl W ge oe E xs) : ∀ j u, xs[j]? = some u → W.cell? ((⟨ge, oe, none⟩ : Addr).add j) = some u := by
  intro j u hj
  obtain ⟨hl, rfl⟩ := List.getElem?_eq_some_iff.1 hj
  have := hE.c j hl
  unfold Addr.add
  split
  · rename_i h; subst h; simpa using this
  · simpa using this
theorem one_flat (ps : List PT) : ∀ u ∈ flatP ps, u.oneCell' = true := by
  induction ps with
  | nil => intro u hu; cases hu
  | cons p ps ih =>
    intro u hu
    rw [flatP_cons] at hu
    simp only [List.mem_cons] at hu
    rcases hu with rfl | rfl | rfl | rfl | rfl | hu
    · rfl
    · rfl
    · rfl
    · rfl
    · rfl
    · exact ih u hu
set_option maxHeartbeats 4000000 in
theorem exprFoldedI (A E : Option Addr) (gc oc cc ge oe ce : Nat) (cs : List CT) (ps : List PT) (w : World) (hA : Fl w gc oc A (flatC cs)) (hE : Fl w ge oe E (flatP ps)) (hl : cs.length ≤ 2000000) (hp : ps.length ≤ 2000000) (hs : ShortP ps) : Calls Try.prog 36 #[.slice A cs.length cc, .slice E ps.length ce] w (OwnP (foldI cs ps) w) := by
  have CK := Lib.hid (exprKindI A E gc oc cc ge oe ce cs ps w hA hE hl hp hs)
  have HE := Lib.hid hE
  have HSP := Lib.hid hs
  have CX := Lib.hid (fun (W : World) (g1 g2 c1 c2 : Nat) (hWE : Fl W ge oe E (flatP ps)) => exprValueI (some ⟨g1, 0, none⟩) (some ⟨g2, 0, none⟩) E g1 0 c1 g2 0 c2 ge oe ce [] [] ps W ⟨fun h => absurd h (by simp [flatC]), fun j hj => absurd hj (by simp [flatC])⟩ ⟨fun h => absurd h (by simp [flatV]), fun j hj => absurd hj (by simp [flatV])⟩ hWE (by simp) (by simp) hp (fun i h => absurd h (by simp)) hs)
  obtain ⟨i0, hi, iz0, iz1, iz2⟩ := info_parts infoP
  clear hA hE hs
  by_cases h0 : kindI cs ps < 0
  · have HZ := Lib.hid (show foldI cs ps = [] by unfold foldI; rw [if_pos h0])
    obtain ⟨K, hK⟩ : ∃ K, kindI cs ps = K := ⟨_, rfl⟩
    rw [hK] at CK h0
    clear hK CX
    go_enter Try.func36, Try.ntmps36
    go_wp2_with (go_at_call 16; (with_reducible refine CK.out.mono ?_); rintro e w1 ⟨rfl, hb1⟩; have HB := Lib.hid hb1; clear hb1)
    all_goals (go_ret; refine ⟨_, rfl, ?_, HB.out⟩; rw [HZ.out]; exact own_nilP)
  · have HZ := Lib.hid (foldI_impl h0)
    have H12 := Lib.hid (kind_some h0).2.1
    have hne : 0 < ps.length := List.length_pos_iff.2 (kind_ne h0)
    obtain ⟨X, hX⟩ : ∃ X, xvalI [] [] ps = X := ⟨_, rfl⟩
    rw [hX] at HZ
    rw [hX] at CX
    obtain ⟨K, hK⟩ : ∃ K, kindI cs ps = K := ⟨_, rfl⟩
    rw [hK] at CK h0
    clear hK hX
    obtain ⟨xk, xn, xs⟩ := X
    simp only [List.length_nil] at CX
    unfold aggV at CX
    simp only at CX HZ
    obtain rfl := HE.out.ad (by rw [flatP_len]; omega)
    have h12 : ps.length ≤ 12 := H12.out
    by_cases hk : xk = 0
    · subst hk
      go_enter Try.func36, Try.ntmps36
      go_wp2_with (first
        | (go_at_call 16; (with_reducible refine CK.out.mono ?_); rintro e w1 ⟨rfl, hb1⟩; have HB := Lib.hid hb1; clear hb1)
        | (go_at_call 20; (with_reducible refine (CX.out _ _ _ _ _ (by repeat (with_reducible first | exact HE.out.below HB.out | apply Fl.alloc | apply Fl.drew))).mono ?_); rintro e w2 ⟨rfl, hb2⟩; have HB2 : Hid (Below w.heap.size w w2) := Below.trans (((HB.out).alloc HB.out.size _).alloc (by have := HB.out.size; simp; omega) _) (hb2.mono (by have := HB.out.size; simp; omega)); have HE2 := Lib.hid (Fl.below (by repeat (with_reducible first | exact HE.out.below HB.out | apply Fl.alloc | apply Fl.drew)) hb2); clear hb2; have hz2 := HB2.out.size)
        | (at_builtin; refine wpList_append_own _ rfl (.tmp 20) (.tmp 21) 24 rfl w.heap.size 32 i0 (.agg #[.int .i64 0, .int .i64 0, .int .i64 0, .int .i64 0, .string ⟨#[]⟩]) 5 48 Try.underlying24 hi iz0 iz1 iz2 rfl (by decide) (.slice (some ⟨w2.heap.size + 1, 0, none⟩) 0 0) 0 [] rfl (own_empty3 32 5 (by first | rfl | simp) (by first | omega | (simp; done) | (simp; omega))) ⟨ge, oe, none⟩ ps.length ce (flatP ps) rfl (flatP_len ps) (news_flat (by repeat (with_reducible first | exact HE2.out | apply Fl.alloc | apply Fl.drew))) (one_flat ps) (by unfold maxLen; omega) (by omega) (by first | omega | (simp; done) | (simp; omega)) ?_; intro v3 w3 hown3 hgr3 _; have OWN3 := Lib.hid hown3; have HW3 := Lib.hid (Below.grown (B := w.heap.size) (a := w) (by repeat (with_reducible first | exact HB2.out | refine Below.alloc ?_ (by first | omega | (simp; done) | (simp; omega)) _ | apply Below.drew)) hgr3 (by first | omega | (simp; done) | (simp; omega)) (fun k hk => by simp [Value.ownBlock] at hk; omega)); clear hown3 hgr3))
      all_goals go_ret
      refine ⟨_, rfl, ?_, HW3.out⟩
      rw [HZ.out, if_neg (by simp)]
      simpa using OWN3.out
    · go_enter Try.func36, Try.ntmps36
      go_wp2_with (first
        | (go_at_call 16; (with_reducible refine CK.out.mono ?_); rintro e w1 ⟨rfl, hb1⟩; have HB := Lib.hid hb1; clear hb1)
        | (go_at_call 20; (with_reducible refine (CX.out _ _ _ _ _ (by repeat (with_reducible first | exact HE.out.below HB.out | apply Fl.alloc | apply Fl.drew))).mono ?_); rintro e w2 ⟨rfl, hb2⟩; have HB2 : Hid (Below w.heap.size w w2) := Below.trans (((HB.out).alloc HB.out.size _).alloc (by have := HB.out.size; simp; omega) _) (hb2.mono (by have := HB.out.size; simp; omega)); have HE2 := Lib.hid (Fl.below (by repeat (with_reducible first | exact HE.out.below HB.out | apply Fl.alloc | apply Fl.drew)) hb2); clear hb2; have hz2 := HB2.out.size))
      all_goals (refine bodyPost_ret (v := .slice (some ⟨w2.heap.size + 1, 0, none⟩) 1 1) (by simp [results, Try.results36, go_sem]) rfl ⟨_, rfl, ?_, ?_⟩)
      · rw [HZ.out, if_pos (by simp [hk])]
        exact own_made (w := w2.alloc _) 32 5 1 _ (by first | rfl | simp) (by first | omega | (simp; done) | (simp; omega)) (by first | rfl | simp) (by decide)
      · repeat (with_reducible first | exact HB2.out | refine Below.alloc ?_ (by first | omega | (simp; done) | (simp; omega)) _ | apply Below.drew)
end Go.Proofs.Ytcocpmfndodapaa.Val
