/- Folding an expression (spec.ExprFolded). -/
import Derived.Test.YtcocpmfndodapaaEXF
namespace Go.Proofs.Ytcocpmfndodapaa.Val
open Go.RowKit
set_option linter.unusedVariables false
set_option linter.unusedSimpArgs false
set_option maxRecDepth 20000
theorem colZ_zero {cs : List CT} {ps : List PT} : (colZ cs ps).length = 0 ↔ colsI cs ps = [] := by rw [List.length_eq_zero_iff, colZ_none]
theorem fold_free {cs : List CT} {ps : List PT} (h : ¬ kindI cs ps < 0) (hn : colsI cs ps = []) : ¬ kindI [] ps < 0 := by rw [kind_free h hn]; exact h
theorem fold_bound {cs : List CT} {ps : List PT} (h : ¬ kindI cs ps < 0) (hn : colsI cs ps ≠ []) : foldI cs ps = ps := by
  unfold foldI
  rw [if_neg h, if_neg (fun h2 => hn h2.1)]
theorem fl_none {W : World} {b c : Nat} : Fl W b 0 (some ⟨b, 0, none⟩) (flatV []) := ⟨fun _ => rfl, fun j hj => absurd hj (by simp [flatV])⟩
set_option maxHeartbeats 4000000 in
theorem exprFoldedS (A E : Option Addr) (gc oc cc ge oe ce : Nat) (cs : List CT) (ps : List PT) (w : World) (hA : Fl w gc oc A (flatC cs)) (hE : Fl w ge oe E (flatP ps)) (hl : cs.length ≤ 2000000) (hp : ps.length ≤ 2000000) (hs : ShortP ps) : Calls Try.prog 37 #[.slice A cs.length cc, .slice E ps.length ce] w (OwnP (foldI cs ps) w) := by
  have CK := Lib.hid (fun (W : World) hWA hWE => exprKindS A E gc oc cc ge oe ce cs ps W hWA hWE hl hp hs)
  have CN := Lib.hid (fun (W : World) hWA hWE => exprColumnsS A E gc oc cc ge oe ce cs ps W hWA hWE hl hp hs)
  unfold OwnN at CN
  have HA := Lib.hid hA
  have HE := Lib.hid hE
  obtain ⟨i0, hi, iz0, iz1, iz2⟩ := info_parts infoP
  clear hA hE hs
  by_cases h0 : kindI cs ps < 0
  · have HZ := Lib.hid (show foldI cs ps = [] by unfold foldI; rw [if_pos h0])
    obtain ⟨K, hK⟩ : ∃ K, kindI cs ps = K := ⟨_, rfl⟩
    rw [hK] at CK h0
    clear hK CN
    go_enter Try.func37, Try.ntmps37
    go_wp2_with (go_at_call 17; (with_reducible refine (CK.out _ (HA.out.alloc _) (HE.out.alloc _)).mono ?_); rintro e w1 ⟨rfl, hb1⟩; have HB : Hid (Below w.heap.size w w1) := Below.trans ((Below.refl _ _).alloc (Nat.le_refl _) _) (hb1.mono (by simp)); have OW := Lib.hid (own_below (own_empty3 (w := w) (B := w.heap.size) 32 5 rfl (Nat.le_refl _)) hb1); clear hb1)
    all_goals (go_ret; refine ⟨_, rfl, ?_, HB.out⟩; rw [HZ.out]; exact OW.out)
  · have H12 := Lib.hid (kind_some h0).2.1
    have h12 : ps.length ≤ 12 := H12.out
    have hne : 0 < ps.length := List.length_pos_iff.2 (kind_ne h0)
    have CX := Lib.hid (fun (hn : colsI cs ps = []) (W : World) (b c : Nat) hWE => l4Value (some ⟨b, 0, none⟩) E b 0 c ge oe ce [] [] ps W (fold_free h0 hn) fit_none (fl_none (c := 0)) hWE (by simp))
    have HF := Lib.hid (foldI_impl h0)
    have HB1 := Lib.hid (fold_bound h0)
    obtain ⟨X, hX⟩ : ∃ X, xvalI [] [] ps = X := ⟨_, rfl⟩
    rw [hX] at HF
    rw [hX] at CX
    obtain ⟨K, hK⟩ : ∃ K, kindI cs ps = K := ⟨_, rfl⟩
    rw [hK] at CK h0
    have HLN := Lib.hid (colZ_zero (cs := cs) (ps := ps))
    have hcl : (colZ cs ps).length ≤ 4 := by
      unfold colZ
      split
      · simp
      · rename_i hh; exact Nat.le_trans (colL_len _ _) (kind_cols hh)
    obtain ⟨L, hL⟩ : ∃ L, colZ cs ps = L := ⟨_, rfl⟩
    rw [hL] at CN HLN hcl
    clear hK hX hL
    obtain ⟨xk, xn, xs⟩ := X
    unfold aggV at CX
    simp only [List.length_nil] at CX HF
    obtain rfl := HE.out.ad (by rw [flatP_len]; omega)
    by_cases hn : colsI cs ps = []
    · have hl0 : L.length = 0 := HLN.out.2 hn
      have CX := Lib.hid (CX.out hn)
      clear HB1 HLN hn
      by_cases hk : xk = 0
      · subst hk
        go_enter Try.func37, Try.ntmps37
        go_wp2_with (first
          | (go_at_call 17; (with_reducible refine (CK.out _ (HA.out.alloc _) (HE.out.alloc _)).mono ?_); rintro e w1 ⟨rfl, hb1⟩; have HB : Hid (Below w.heap.size w w1) := Below.trans ((Below.refl _ _).alloc (Nat.le_refl _) _) (hb1.mono (by simp)); have OW := Lib.hid (own_below (own_empty3 (w := w) (B := w.heap.size) 32 5 rfl (Nat.le_refl _)) hb1); have HA1 := Lib.hid ((HA.out.alloc _).below hb1); have HE1 := Lib.hid ((HE.out.alloc _).below hb1); have hzw := HB.out.size; clear hb1)
          | (go_at_call 29; (with_reducible refine (CN.out _ HA1.out HE1.out).mono ?_); rintro e w2 ⟨v2, rfl, hown2, hb2⟩; obtain ⟨gl, Al, cl, rfl, -, -, -, -, -⟩ := fl_of_own hown2; have HBn : Hid (Below w.heap.size w w2) := Below.trans HB.out (hb2.mono hzw); clear HB; have HB := HBn; clear HBn; have OWn := Lib.hid (own_below OW.out hb2); clear OW; have OW := OWn; clear OWn; have HEn := Lib.hid (HE1.out.below hb2); clear HE1; have HE1 := HEn; clear HEn; have hzx := HB.out.size; clear hb2 hown2)
          | (go_at_call 66; (with_reducible refine (CX.out _ _ _ (by repeat (with_reducible first | exact HE1.out | apply Fl.alloc | apply Fl.drew))).mono ?_); rintro e w3 ⟨rfl, hb3⟩; have HBn : Hid (Below w.heap.size w w3) := Below.trans (by repeat (with_reducible first | exact HB.out | refine Below.alloc ?_ (by first | omega | (simp; done) | (simp; omega)) _ | apply Below.drew)) (hb3.mono (by first | omega | (simp; done) | (simp; omega))); clear HB; have HB := HBn; clear HBn; have OWn := Lib.hid (own_below (by repeat (with_reducible first | exact OW.out | apply World.ownsRow.alloc | apply own_drew)) hb3); clear OW; have OW := OWn; clear OWn; have HEn := Lib.hid (Fl.below (by repeat (with_reducible first | exact HE1.out | apply Fl.alloc | apply Fl.drew)) hb3); clear HE1; have HE1 := HEn; clear HEn; have hzy := HB.out.size; clear hb3)
          | (at_builtin; go_loud (refine wpList_append_own _ rfl (.tmp 29) (.tmp 30) 24 rfl w.heap.size 32 i0 (.agg #[.int .i64 0, .int .i64 0, .int .i64 0, .int .i64 0, .string ⟨#[]⟩]) 5 48 Try.underlying24 hi iz0 iz1 iz2 rfl (by decide) (.slice (some ⟨w.heap.size, 0, none⟩) 0 0) 0 [] rfl (by repeat (with_reducible first | exact OW.out | apply World.ownsRow.alloc | apply own_drew)) ⟨ge, oe, none⟩ ps.length ce (flatP ps) rfl (flatP_len ps) (news_flat (by repeat (with_reducible first | exact HE1.out | apply Fl.alloc | apply Fl.drew))) (one_flat ps) (by unfold maxLen; omega) (by omega) (by first | omega | (simp; done) | (simp; omega)) ?_); intro v4 w4 hown4 hgr4 _; have OWN3 := Lib.hid hown4; have HW3 := Lib.hid (Below.grown (B := w.heap.size) (a := w) (by repeat (with_reducible first | exact HB.out | refine Below.alloc ?_ (by first | omega | (simp; done) | (simp; omega)) _ | apply Below.drew)) hgr4 (by first | omega | (simp; done) | (simp; omega)) (fun k hk => by simp [Value.ownBlock] at hk; omega)); clear hown4 hgr4))
        all_goals go_ret
        all_goals (refine ⟨_, rfl, ?_, HW3.out⟩; rw [HF.out, if_neg (by simp)]; simpa using OWN3.out)
      · go_enter Try.func37, Try.ntmps37
        go_wp2_with (first
          | (go_at_call 17; (with_reducible refine (CK.out _ (HA.out.alloc _) (HE.out.alloc _)).mono ?_); rintro e w1 ⟨rfl, hb1⟩; have HB : Hid (Below w.heap.size w w1) := Below.trans ((Below.refl _ _).alloc (Nat.le_refl _) _) (hb1.mono (by simp)); have OW := Lib.hid (own_below (own_empty3 (w := w) (B := w.heap.size) 32 5 rfl (Nat.le_refl _)) hb1); have HA1 := Lib.hid ((HA.out.alloc _).below hb1); have HE1 := Lib.hid ((HE.out.alloc _).below hb1); have hzw := HB.out.size; clear hb1)
          | (go_at_call 29; (with_reducible refine (CN.out _ HA1.out HE1.out).mono ?_); rintro e w2 ⟨v2, rfl, hown2, hb2⟩; obtain ⟨gl, Al, cl, rfl, -, -, -, -, -⟩ := fl_of_own hown2; have HBn : Hid (Below w.heap.size w w2) := Below.trans HB.out (hb2.mono hzw); clear HB; have HB := HBn; clear HBn; have OWn := Lib.hid (own_below OW.out hb2); clear OW; have OW := OWn; clear OWn; have HEn := Lib.hid (HE1.out.below hb2); clear HE1; have HE1 := HEn; clear HEn; have hzx := HB.out.size; clear hb2 hown2)
          | (go_at_call 66; (with_reducible refine (CX.out _ _ _ (by repeat (with_reducible first | exact HE1.out | apply Fl.alloc | apply Fl.drew))).mono ?_); rintro e w3 ⟨rfl, hb3⟩; have HBn : Hid (Below w.heap.size w w3) := Below.trans (by repeat (with_reducible first | exact HB.out | refine Below.alloc ?_ (by first | omega | (simp; done) | (simp; omega)) _ | apply Below.drew)) (hb3.mono (by first | omega | (simp; done) | (simp; omega))); clear HB; have HB := HBn; clear HBn; have OWn := Lib.hid (own_below (by repeat (with_reducible first | exact OW.out | apply World.ownsRow.alloc | apply own_drew)) hb3); clear OW; have OW := OWn; clear OWn; have HEn := Lib.hid (Fl.below (by repeat (with_reducible first | exact HE1.out | apply Fl.alloc | apply Fl.drew)) hb3); clear HE1; have HE1 := HEn; clear HEn; have hzy := HB.out.size; clear hb3)
          | (at_builtin; go_loud (refine wpList_append_own _ rfl (.tmp 24) (.tmp 27) 24 rfl w.heap.size 32 i0 (.agg #[.int .i64 0, .int .i64 0, .int .i64 0, .int .i64 0, .string ⟨#[]⟩]) 5 48 Try.underlying24 hi iz0 iz1 iz2 rfl (by decide) (.slice (some ⟨w.heap.size, 0, none⟩) 0 0) 0 [] rfl (by repeat (with_reducible first | exact OW.out | apply World.ownsRow.alloc | apply own_drew)) _ 1 1 [.int .i64 1, .int .i64 0, .int .i64 xk, .int .i64 xn, .string xs] rfl rfl (news_new (by first | rfl | simp)) (by simp [Value.oneCell']) (by unfold maxLen; omega) (by omega) (by first | omega | (simp; done) | (simp; omega)) ?_); intro v4 w4 hown4 hgr4 _; have OWN3 := Lib.hid hown4; have HW3 := Lib.hid (Below.grown (B := w.heap.size) (a := w) (by repeat (with_reducible first | exact HB.out | refine Below.alloc ?_ (by first | omega | (simp; done) | (simp; omega)) _ | apply Below.drew)) hgr4 (by first | omega | (simp; done) | (simp; omega)) (fun k hk => by simp [Value.ownBlock] at hk; omega)); clear hown4 hgr4))
        all_goals go_ret
        all_goals (refine ⟨_, rfl, ?_, HW3.out⟩; rw [HF.out, if_pos (by simp [hk])]; simpa [flatP_cons, flatP_nil] using OWN3.out)
    · have hl0 : ¬ (L.length = 0) := fun h => hn (HLN.out.1 h)
      have HZ := Lib.hid (HB1.out hn)
      clear HB1 HLN hn CX
      go_enter Try.func37, Try.ntmps37
      go_wp2_with (first
        | (go_at_call 17; (with_reducible refine (CK.out _ (HA.out.alloc _) (HE.out.alloc _)).mono ?_); rintro e w1 ⟨rfl, hb1⟩; have HB : Hid (Below w.heap.size w w1) := Below.trans ((Below.refl _ _).alloc (Nat.le_refl _) _) (hb1.mono (by simp)); have OW := Lib.hid (own_below (own_empty3 (w := w) (B := w.heap.size) 32 5 rfl (Nat.le_refl _)) hb1); have HA1 := Lib.hid ((HA.out.alloc _).below hb1); have HE1 := Lib.hid ((HE.out.alloc _).below hb1); have hzw := HB.out.size; clear hb1)
        | (go_at_call 29; (with_reducible refine (CN.out _ HA1.out HE1.out).mono ?_); rintro e w2 ⟨v2, rfl, hown2, hb2⟩; obtain ⟨gl, Al, cl, rfl, -, -, -, -, -⟩ := fl_of_own hown2; have HBn : Hid (Below w.heap.size w w2) := Below.trans HB.out (hb2.mono hzw); clear HB; have HB := HBn; clear HBn; have OWn := Lib.hid (own_below OW.out hb2); clear OW; have OW := OWn; clear OWn; have HEn := Lib.hid (HE1.out.below hb2); clear HE1; have HE1 := HEn; clear HEn; have hzx := HB.out.size; clear hb2 hown2)
        | (at_builtin; go_loud (refine wpList_append_own _ rfl (.tmp 29) (.tmp 30) 24 rfl w.heap.size 32 i0 (.agg #[.int .i64 0, .int .i64 0, .int .i64 0, .int .i64 0, .string ⟨#[]⟩]) 5 48 Try.underlying24 hi iz0 iz1 iz2 rfl (by decide) (.slice (some ⟨w.heap.size, 0, none⟩) 0 0) 0 [] rfl (by repeat (with_reducible first | exact OW.out | apply World.ownsRow.alloc | apply own_drew)) ⟨ge, oe, none⟩ ps.length ce (flatP ps) rfl (flatP_len ps) (news_flat (by repeat (with_reducible first | exact HE1.out | apply Fl.alloc | apply Fl.drew))) (one_flat ps) (by unfold maxLen; omega) (by omega) (by first | omega | (simp; done) | (simp; omega)) ?_); intro v4 w4 hown4 hgr4 _; have OWN3 := Lib.hid hown4; have HW3 := Lib.hid (Below.grown (B := w.heap.size) (a := w) (by repeat (with_reducible first | exact HB.out | refine Below.alloc ?_ (by first | omega | (simp; done) | (simp; omega)) _ | apply Below.drew)) hgr4 (by first | omega | (simp; done) | (simp; omega)) (fun k hk => by simp [Value.ownBlock] at hk; omega)); clear hown4 hgr4))
      all_goals go_ret
      all_goals (refine ⟨_, rfl, ?_, HW3.out⟩; rw [HZ.out]; simpa using OWN3.out)
end Go.Proofs.Ytcocpmfndodapaa.Val
