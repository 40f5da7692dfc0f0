/- The walk of the law FnExprMoved. -/
import Derived.Test.YtcocpmfndodapaaMutR
import Derived.Test.YtcocpmfndodapaaSameP
import Derived.Test.YtcocpmfndodapaaEXMS
import Derived.Test.YtcocpmfndodapaaEVI
import Derived.Test.YtcocpmfndodapaaRowF
import Derived.Test.YtcocpmfndodapaaAlive
namespace Go.Proofs.Ytcocpmfndodapaa.Val
open Go.RowKit
set_option linter.unusedVariables false
set_option linter.unusedSimpArgs false
set_option maxRecDepth 4000
theorem own_partsM {w : World} {B n : Nat} {e : TypeId} {v : Value} {l : List PT} (h : w.ownsRow B e 5 v n (flatP l)) (hn : n = l.length) : ∃ (g : Nat) (A : Option Addr) (cap : Nat), v = .slice A n cap ∧ Fl w g 0 A (flatP l) := by
  by_cases h0 : 0 < n
  · obtain ⟨g, cap, rfl⟩ := own_sliceX h h0
    exact ⟨g, _, cap, rfl, fl_sliceP h⟩
  · have hl : l = [] := List.length_eq_zero_iff.1 (by omega)
    subst hl
    rcases h.2 with ⟨hz, hn0⟩ | ⟨g, cap, cur, hv, -⟩
    · subst hn0
      exact ⟨0, none, 0, hz, ⟨fun h => absurd h (by simp [flatP]), fun j hj => absurd hj (by simp [flatP])⟩⟩
    · exact ⟨g, _, cap, hv, ⟨fun h => absurd h (by simp [flatP]), fun j hj => absurd hj (by simp [flatP])⟩⟩
theorem mov_none {cs : List CT} {ps : List PT} {tt : List Int} (h : movB cs ps tt = false) : movI cs ps tt = [] := by unfold movI; rw [h]; rfl
theorem mov_some {cs : List CT} {ps : List PT} {tt : List Int} (h : movB cs ps tt = true) : movI cs ps tt = ps.map (mvP tt) ∧ ¬ kindI cs ps < 0 ∧ tt.length = cs.length := by
  refine ⟨by unfold movI; rw [if_pos h], ?_⟩
  simp only [movB, Bool.and_eq_true, decide_eq_true_eq] at h
  exact ⟨by omega, h.1.2⟩
theorem mov_texts {ps : List PT} (tt : List Int) (h : TextsP ps) : TextsP (ps.map (mvP tt)) := by
  intro p hp
  obtain ⟨q, hq, rfl⟩ := List.mem_map.1 hp
  have := h q hq
  unfold mvP
  split <;> exact this
theorem moved_texts {π : List Nat} {xs ys : List VT} (h : Moved π xs ys) (ht : Texts xs) : Texts ys := by
  have := h.all (fun v => decide (v.2.2.size ≤ 20)) (by rw [List.all_eq_true]; intro v hv; simpa using ht v hv)
  rw [List.all_eq_true] at this
  intro v hv
  simpa using this v hv
set_option maxHeartbeats 8000000 in
theorem walk_FnExprMoved (a : Option Addr) (len cap : Nat) (zs : List Int) (w : World) (h : IsRow .u8 w a len cap zs) :
    Calls Try.prog 7 #[.slice a len cap] w fun e w' => e = .returned (.bool true) ∧ Below w.heap.size w w' := by
  by_cases hl : 1048576 < len
  · clear h
    go_enter Try.func7, Try.ntmps7
    go_wp2
    go_ret
    exact ⟨rfl, Below.refl _ _⟩
  · have HI := Lib.hid h
    clear h
    obtain ⟨i0, hi, iz0, iz1, iz2⟩ := info_parts infoC
    obtain ⟨j0, hj, jz0, jz1, jz2⟩ := info_parts infoV
    go_enter Try.func7, Try.ntmps7
    go_wp2_with (go_at_call 31; refine (drawMovedRow _ _ _ zs _ HI.out).mono ?_; rintro e wd ⟨cs, vs, ps, tt, gc, cc, g2, c2, gp, cp, gt, ct, rfl, ⟨hc0, hc6⟩, ⟨hv0, hv20⟩, hps, htt, htv, htp, hf, kf, pf, tf, ⟨hgp, hgt⟩, hbd⟩; have HB := Lib.hid hbd; have FC := Lib.hid hf; have FV := Lib.hid kf; have FP := Lib.hid pf; have FT := Lib.hid tf; have HTV := Lib.hid htv; have HTP := Lib.hid htp; have HTT := Lib.hid htt; clear hbd hf kf pf tf htv htp htt)
    have S0 := True.intro
    have hzd := HB.out.size
    have htl : tt.length ≤ 7 := by
      rcases HTT.out with h | ⟨π, h, hp⟩
      · omega
      · have := hp.length_eq
        rw [h]
        simp at this ⊢
        omega
    have CI := Lib.hid (fun W hA hB hT => exprMovedI (some ⟨gc, 0, none⟩) (some ⟨gp, 0, none⟩) (some ⟨gt, 0, none⟩) gc 0 cc gp 0 cp gt 0 ct cs ps tt W hA hB hT (by omega) (by omega) (by omega) HTP.out.short)
    have CS := Lib.hid (fun W hA hB hT => exprMovedS (some ⟨gc, 0, none⟩) (some ⟨gp, 0, none⟩) (some ⟨gt, 0, none⟩) gc 0 cc gp 0 cp gt 0 ct cs ps tt W hA hB hT (by omega) (by omega) (by omega) HTP.out.short)
    have CF := Lib.hid (fun W hA hB => rowFitsI (some ⟨gc, 0, none⟩) (some ⟨g2, 0, none⟩) gc 0 g2 0 cc c2 cs vs W hA hB (by omega) (by omega) HTV.out.short)
    by_cases hm : movB cs ps tt = true
    case neg =>
      have hz := mov_none (by simpa using hm)
      rw [hz] at CI CS
      unfold OwnP at CI CS
      have CE := Lib.hid (fun W A B g' g4 cA cB hA hB => samePartsE A B g' g4 0 0 cA cB [] W hA hB (by simp))
      dsimp only [List.length_nil] at CI CS CE
      clear hz hm
      go_wp2_with (first
        | ((have _ := S0); (fail_if_success (have _ := S1)); go_at_call 32; (with_reducible refine (CI.out _ FC.out FP.out FT.out).mono ?_); rintro e wn0 ⟨v1, rfl, own1, hb1⟩; have HBn : Hid (Below w.heap.size w wn0) := Below.trans (by repeat (with_reducible first | exact HB.out | refine Below.alloc ?_ (by first | omega | (have := HB.out.size; omega) | (have := HB.out.size; simp; omega)) _ | apply Below.drew)) (Below.mono hb1 (by have := HB.out.size; first | omega | (simp; omega))); have K0 := Lib.hid (Fl.below (by (repeat (with_reducible first | exact FC.out | apply Fl.alloc | apply Fl.drew))) hb1); clear FC; have FC := K0; clear K0; have K0 := Lib.hid (Fl.below (by (repeat (with_reducible first | exact FP.out | apply Fl.alloc | apply Fl.drew))) hb1); clear FP; have FP := K0; clear K0; have K0 := Lib.hid (Fl.below (by (repeat (with_reducible first | exact FT.out | apply Fl.alloc | apply Fl.drew))) hb1); clear FT; have FT := K0; clear K0; clear HB; have HB := HBn; clear HBn; obtain ⟨gi, Ai, ci, rfl, fi⟩ := own_partsM own1 rfl; have FI := Lib.hid fi; clear fi own1; clear hb1; have S1 := True.intro)
        | ((have _ := S1); (fail_if_success (have _ := S2)); go_at_call 34; (with_reducible refine (CS.out _ FC.out FP.out FT.out).mono ?_); rintro e wn1 ⟨v2, rfl, own2, hb1⟩; have HBn : Hid (Below w.heap.size w wn1) := Below.trans (by repeat (with_reducible first | exact HB.out | refine Below.alloc ?_ (by first | omega | (have := HB.out.size; omega) | (have := HB.out.size; simp; omega)) _ | apply Below.drew)) (Below.mono hb1 (by have := HB.out.size; first | omega | (simp; omega))); have K0 := Lib.hid (Fl.below (by (repeat (with_reducible first | exact FC.out | apply Fl.alloc | apply Fl.drew))) hb1); clear FC; have FC := K0; clear K0; have K0 := Lib.hid (Fl.below (by (repeat (with_reducible first | exact FI.out | apply Fl.alloc | apply Fl.drew))) hb1); clear FI; have FI := K0; clear K0; clear HB; have HB := HBn; clear HBn; obtain ⟨gs, As, cS, rfl, fs⟩ := own_partsM own2 rfl; have FSx := Lib.hid fs; clear fs own2; clear hb1; have S2 := True.intro)
        | ((have _ := S2); (fail_if_success (have _ := S3)); go_at_call 33; (with_reducible refine (CE.out _ _ _ _ _ _ _ FI.out FSx.out).mono ?_); rintro e wn2 ⟨rfl, hb1⟩; have HBn : Hid (Below w.heap.size w wn2) := Below.trans (by repeat (with_reducible first | exact HB.out | refine Below.alloc ?_ (by first | omega | (have := HB.out.size; omega) | (have := HB.out.size; simp; omega)) _ | apply Below.drew)) (Below.mono hb1 (by have := HB.out.size; first | omega | (simp; omega))); have K0 := Lib.hid (Fl.below (by (repeat (with_reducible first | exact FC.out | apply Fl.alloc | apply Fl.drew))) hb1); clear FC; have FC := K0; clear K0; clear HB; have HB := HBn; clear HBn; clear hb1; have S3 := True.intro)
        | ((have _ := S3); (fail_if_success (have _ := S4)); go_at_call 18; (with_reducible refine (alive _).mono ?_); rintro e wn3 ⟨rfl, hb1⟩; have HBn : Hid (Below w.heap.size w wn3) := Below.trans (by repeat (with_reducible first | exact HB.out | refine Below.alloc ?_ (by first | omega | (have := HB.out.size; omega) | (have := HB.out.size; simp; omega)) _ | apply Below.drew)) (Below.mono hb1 (by have := HB.out.size; first | omega | (simp; omega))); clear HB; have HB := HBn; clear HBn; clear hb1; have S4 := True.intro))
      all_goals (go_ret; exact ⟨retB (by first | rfl | simp), HB.out⟩)
    case pos =>
      obtain ⟨hz, hk, hlen⟩ := mov_some hm
      obtain ⟨π, hπ, hperm⟩ : ∃ π : List Nat, tt = π.map Int.ofNat ∧ π.Perm (List.range cs.length) := by
        rcases HTT.out with h | h
        · omega
        · exact h
      have HPM := Lib.hid hperm
      have hzp := List.length_pos_iff.2 (kind_ne hk)
      have HTZ := Lib.hid (mov_texts tt HTP.out)
      have HV := Lib.hid (fun (D : List CT) (O : List VT) (h1 : Moved π cs D) (h2 : Moved π vs O) (h3 : fitB cs vs = true) => moved_val h1 h2 h3 hk)
      rw [← hπ] at HV
      obtain ⟨Z, hZ⟩ : ∃ Z, ps.map (mvP tt) = Z := ⟨_, rfl⟩
      have hzl : Z.length = ps.length := by rw [← hZ]; simp
      rw [hz, hZ] at CI CS
      rw [hZ] at HTZ HV
      unfold OwnP at CI CS
      rw [hzl] at CI CS
      have CE := Lib.hid (fun W A B g' g4 cA cB hA hB => by
        have := samePartsE A B g' g4 0 0 cA cB Z W hA hB (by omega)
        rw [hzl] at this
        exact this)
      have HFL := Lib.hid (fun (h : fitB cs vs = true) => (fit_len h))
      obtain ⟨F, hF⟩ : ∃ F, fitB cs vs = F := ⟨_, rfl⟩
      rw [hF] at CF HV HFL
      obtain ⟨X, hX⟩ : ∃ X, xvalI cs vs ps = X := ⟨_, rfl⟩
      have V1 := Lib.hid (fun W hA hR hE => by have := exprValueI (some ⟨gc, 0, none⟩) (some ⟨g2, 0, none⟩) (some ⟨gp, 0, none⟩) gc 0 cc g2 0 c2 gp 0 cp cs vs ps W hA hR hE (by omega) (by omega) (by omega) HTV.out.short HTP.out.short; rw [hX] at this; exact this)
      rw [hX] at HV
      have hlen1 : tt.length ≤ cs.length := by omega
      have hlen2 : cs.length ≤ tt.length := by omega
      have HZL := Lib.hid hzl
      have HTE := Lib.hid hπ
      clear hz hm hlen hF hX hzl hπ hZ hperm
      have hzp0 : ¬ (ps.length = 0) := by omega
      go_wp2_with (first
        | ((have _ := S0); (fail_if_success (have _ := S1)); go_at_call 32; (with_reducible refine (CI.out _ FC.out FP.out FT.out).mono ?_); rintro e wn0 ⟨v1, rfl, own1, hb1⟩; have HBn : Hid (Below w.heap.size w wn0) := Below.trans (by repeat (with_reducible first | exact HB.out | refine Below.alloc ?_ (by first | omega | (have := HB.out.size; omega) | (have := HB.out.size; simp; omega)) _ | apply Below.drew)) (Below.mono hb1 (by have := HB.out.size; first | omega | (simp; omega))); have K0 := Lib.hid (Fl.below (by (repeat (with_reducible first | exact FC.out | apply Fl.alloc | apply Fl.drew))) hb1); clear FC; have FC := K0; clear K0; have K0 := Lib.hid (Fl.below (by (repeat (with_reducible first | exact FV.out | apply Fl.alloc | apply Fl.drew))) hb1); clear FV; have FV := K0; clear K0; have K0 := Lib.hid (Fl.below (by (repeat (with_reducible first | exact FP.out | apply Fl.alloc | apply Fl.drew))) hb1); clear FP; have FP := K0; clear K0; have K0 := Lib.hid (Fl.below (by (repeat (with_reducible first | exact FT.out | apply Fl.alloc | apply Fl.drew))) hb1); clear FT; have FT := K0; clear K0; clear HB; have HB := HBn; clear HBn; obtain ⟨gi, Ai, ci, rfl, fi⟩ := own_partsM own1 HZL.out.symm; have FI := Lib.hid fi; clear fi own1; have hz0 := hb1.size; clear hb1; have S1 := True.intro)
        | ((have _ := S1); (fail_if_success (have _ := S2)); go_at_call 34; (with_reducible refine (CS.out _ FC.out FP.out FT.out).mono ?_); rintro e wn1 ⟨v2, rfl, own2, hb1⟩; have HBn : Hid (Below w.heap.size w wn1) := Below.trans (by repeat (with_reducible first | exact HB.out | refine Below.alloc ?_ (by first | omega | (have := HB.out.size; omega) | (have := HB.out.size; simp; omega)) _ | apply Below.drew)) (Below.mono hb1 (by have := HB.out.size; first | omega | (simp; omega))); have K0 := Lib.hid (Fl.below (by (repeat (with_reducible first | exact FC.out | apply Fl.alloc | apply Fl.drew))) hb1); clear FC; have FC := K0; clear K0; have K0 := Lib.hid (Fl.below (by (repeat (with_reducible first | exact FV.out | apply Fl.alloc | apply Fl.drew))) hb1); clear FV; have FV := K0; clear K0; have K0 := Lib.hid (Fl.below (by (repeat (with_reducible first | exact FP.out | apply Fl.alloc | apply Fl.drew))) hb1); clear FP; have FP := K0; clear K0; have K0 := Lib.hid (Fl.below (by (repeat (with_reducible first | exact FT.out | apply Fl.alloc | apply Fl.drew))) hb1); clear FT; have FT := K0; clear K0; have K0 := Lib.hid (Fl.below (by (repeat (with_reducible first | exact FI.out | apply Fl.alloc | apply Fl.drew))) hb1); clear FI; have FI := K0; clear K0; clear HB; have HB := HBn; clear HBn; obtain ⟨gs, As, cS, rfl, fs⟩ := own_partsM own2 HZL.out.symm; have FSx := Lib.hid fs; clear fs own2; have hz1 := hb1.size; clear hb1; have S2 := True.intro)
        | ((have _ := S2); (fail_if_success (have _ := S3)); go_at_call 33; (with_reducible refine (CE.out _ _ _ _ _ _ _ FI.out FSx.out).mono ?_); rintro e wn2 ⟨rfl, hb1⟩; have HBn : Hid (Below w.heap.size w wn2) := Below.trans (by repeat (with_reducible first | exact HB.out | refine Below.alloc ?_ (by first | omega | (have := HB.out.size; omega) | (have := HB.out.size; simp; omega)) _ | apply Below.drew)) (Below.mono hb1 (by have := HB.out.size; first | omega | (simp; omega))); have K0 := Lib.hid (Fl.below (by (repeat (with_reducible first | exact FC.out | apply Fl.alloc | apply Fl.drew))) hb1); clear FC; have FC := K0; clear K0; have K0 := Lib.hid (Fl.below (by (repeat (with_reducible first | exact FV.out | apply Fl.alloc | apply Fl.drew))) hb1); clear FV; have FV := K0; clear K0; have K0 := Lib.hid (Fl.below (by (repeat (with_reducible first | exact FP.out | apply Fl.alloc | apply Fl.drew))) hb1); clear FP; have FP := K0; clear K0; have K0 := Lib.hid (Fl.below (by (repeat (with_reducible first | exact FT.out | apply Fl.alloc | apply Fl.drew))) hb1); clear FT; have FT := K0; clear K0; have K0 := Lib.hid (Fl.below (by (repeat (with_reducible first | exact FI.out | apply Fl.alloc | apply Fl.drew))) hb1); clear FI; have FI := K0; clear K0; clear HB; have HB := HBn; clear HBn; have hz2 := hb1.size; clear hb1; have S3 := True.intro)
        | ((have _ := S3); (fail_if_success (have _ := S4)); go_at_call 22; (with_reducible refine (CF.out _ FC.out FV.out).mono ?_); rintro e wn3 ⟨rfl, hb1⟩; have HBn : Hid (Below w.heap.size w wn3) := Below.trans (by repeat (with_reducible first | exact HB.out | refine Below.alloc ?_ (by first | omega | (have := HB.out.size; omega) | (have := HB.out.size; simp; omega)) _ | apply Below.drew)) (Below.mono hb1 (by have := HB.out.size; first | omega | (simp; omega))); have K0 := Lib.hid (Fl.below (by (repeat (with_reducible first | exact FC.out | apply Fl.alloc | apply Fl.drew))) hb1); clear FC; have FC := K0; clear K0; have K0 := Lib.hid (Fl.below (by (repeat (with_reducible first | exact FV.out | apply Fl.alloc | apply Fl.drew))) hb1); clear FV; have FV := K0; clear K0; have K0 := Lib.hid (Fl.below (by (repeat (with_reducible first | exact FP.out | apply Fl.alloc | apply Fl.drew))) hb1); clear FP; have FP := K0; clear K0; have K0 := Lib.hid (Fl.below (by (repeat (with_reducible first | exact FT.out | apply Fl.alloc | apply Fl.drew))) hb1); clear FT; have FT := K0; clear K0; have K0 := Lib.hid (Fl.below (by (repeat (with_reducible first | exact FI.out | apply Fl.alloc | apply Fl.drew))) hb1); clear FI; have FI := K0; clear K0; clear HB; have HB := HBn; clear HBn; have hz3 := hb1.size; clear hb1; have S4 := True.intro)
        | ((have _ := S4); (fail_if_success (have _ := S5)); go_at_call 18; (with_reducible refine (alive _).mono ?_); rintro e wn4 ⟨rfl, hb1⟩; have HBn : Hid (Below w.heap.size w wn4) := Below.trans (by repeat (with_reducible first | exact HB.out | refine Below.alloc ?_ (by first | omega | (have := HB.out.size; omega) | (have := HB.out.size; simp; omega)) _ | apply Below.drew)) (Below.mono hb1 (by have := HB.out.size; first | omega | (simp; omega))); clear HB; have HB := HBn; clear HBn; clear hb1; have S5 := True.intro)
        | ((have _ := S4); at_make; refine wpList_make_full wn3 rfl _ _ 23 rfl wn3.heap.size 45 i0 (.agg #[.int .i64 0, .bool false]) 2 Try.underlying23 hi iz0 iz1 .i64 .i64 cs.length cs.length cs.length rfl rfl rfl rfl (by rw [iz2]; omega) (by unfold maxLen; omega) (Nat.le_refl _) ?_; intro wm hown hgr; rw [made_noC] at hown; have MD := Lib.hid (Mut.of_own hown); have HL := Lib.hid (Below.grown (Below.refl wn3.heap.size wn3) hgr (Nat.le_refl _) (by intro k hk; cases hk)); have hsm := hgr.size; have hgD := (own_cap hown).2.1; clear hown hgr)
        | (at_make; refine wpList_make_full wm rfl _ _ 34 rfl wm.heap.size 30 j0 (.agg #[.int .i64 0, .int .i64 0, .string ⟨#[]⟩]) 3 Try.underlying34 hj jz0 jz1 .i64 .i64 cs.length cs.length cs.length rfl rfl rfl rfl (by rw [jz2]; omega) (by unfold maxLen; omega) (Nat.le_refl _) ?_; intro wo hown hgr; rw [made_noV] at hown; have MO := Lib.hid (Mut.of_own hown); have hbm := Below.grown (Below.refl wm.heap.size wm) hgr (Nat.le_refl _) (by intro k hk; cases hk); have K0 := Lib.hid (MD.out.below hbm); clear MD; have MD := K0; clear K0; have K0 := Lib.hid (HL.out.trans (hbm.mono HL.out.size)); clear HL; have HL := K0; clear K0 hbm; have hso := hgr.size; have hgO := (own_cap hown).2.1; clear hown hgr))
      all_goals (try (go_ret; exact ⟨retB (by first | rfl | simp), HB.out⟩))
      have hFt : F = true := by cases F <;> first | rfl | (simp at *; done) | simp_all
      subst hFt
      have hvl : vs.length = cs.length := HFL.out rfl
      have HVL := Lib.hid hvl
      have hvl1 : cs.length ≤ vs.length := by omega
      have hgC : gc < wn3.heap.size := FC.out.lt (by rw [flatC_len]; omega)
      have hgV : g2 < wn3.heap.size := FV.out.lt (by rw [flatV_len]; omega)
      have hgT : gt < wn3.heap.size := FT.out.lt (by simp; omega)
      clear hvl
      go_loopw [10] (fun kx wr => ∃ (k : Nat) (D : List CT) (O : List VT), k ≤ cs.length ∧ kx = .int .i64 k ∧ Hid (Put π cs D k) ∧ Hid (Put π vs O k) ∧ Hid (Mut wr wn3.heap.size (flatC D)) ∧ Hid (Mut wr wm.heap.size (flatV O)) ∧ Hid (Below wn3.heap.size wn3 wr)) (fun kx _ => cs.length - (intOf kx).toNat)
      case atStart => exact ⟨0, List.replicate cs.length noC, List.replicate cs.length noV, by omega, rfl, ⟨by simp, fun j hj => absurd hj (by omega)⟩, ⟨by simp [HVL.out], fun j hj => absurd hj (by omega)⟩, MD.out, MO.out, HL.out⟩
      case round =>
        clear MD MO HL CI CS CF CE
        obtain ⟨k, D, O, hk, rfl, PD, PO, MD, MO, HL⟩ := hrel
        by_cases hlt : k < cs.length
        · obtain ⟨hP, hPe⟩ := perm_get HPM.out k hlt
          have hlv : k < vs.length := by omega
          have PD2 := Lib.hid (PD.out.step HPM.out hlt)
          have PO2 := Lib.hid (PO.out.step (by rw [HVL.out]; exact HPM.out) hlv)
          have hDl : D.length = cs.length := PD.out.1
          have hOl : O.length = cs.length := by rw [PO.out.1, HVL.out]
          obtain ⟨P, hPP⟩ : ∃ P, π.getD k 0 = P := ⟨_, rfl⟩
          rw [hPP] at hP hPe PD2 PO2
          have hT : (tt.map iv)[k]? = some (.int .i64 (P : Int)) := by rw [List.getElem?_map, HTE.out, hPe]; rfl
          obtain ⟨hT1, hT2⟩ := List.getElem?_eq_some_iff.1 hT
          have cT : wr.cell? ⟨gt, k, none⟩ = some (.int .i64 (P : Int)) := by
            have := (FT.out.below HL.out).c k hT1
            rwa [Nat.zero_add, hT2] at this
          obtain ⟨-, -, c0, c1⟩ := (FC.out.below HL.out).cl k hlt
          obtain ⟨-, -, d0, d1, d2⟩ := (FV.out.below HL.out).v k hlv
          obtain ⟨C, hC⟩ : ∃ C, cs[k] = C := ⟨_, rfl⟩
          obtain ⟨V, hVV⟩ : ∃ V, vs[k] = V := ⟨_, rfl⟩
          rw [hC] at c0 c1 PD2
          rw [hVV] at d0 d1 d2 PO2
          obtain ⟨⟨u0, e0⟩, ⟨u1, e1⟩, z0, z1⟩ := MD.out.cellC P (by omega)
          obtain ⟨⟨v0, y0⟩, ⟨v1, y1⟩, ⟨v2, y2⟩, x0, x1, x2⟩ := MO.out.cellV P (by omega)
          clear hC hVV hT hT2 hPP hPe hDl hOl
          obtain ⟨cx, cb⟩ := C
          obtain ⟨vx, vn, vs0⟩ := V
          simp only [Nat.zero_add] at c0 c1 d0 d1 d2
          have i0' : (0 : Int) ≤ (k : Int) := by omega
          have i1' : (k : Int) < (cs.length : Int) := by omega
          have i2' : (k : Int) < (vs.length : Int) := by omega
          have i3' : (k : Int) < (tt.length : Int) := by omega
          have i4' : (0 : Int) ≤ (P : Int) := by omega
          have i5' : (P : Int) < (cs.length : Int) := by omega
          have i6' : ¬ ((cs.length : Int) ≤ (P : Int)) := by omega
          have n1 : ¬ (wn3.heap.size = wm.heap.size) := by omega
          have n2 : ¬ (wm.heap.size = wn3.heap.size) := by omega
          have n3 : ¬ (gc = wn3.heap.size) := by omega
          have n4 : ¬ (g2 = wn3.heap.size) := by omega
          have n5 : ¬ (gt = wn3.heap.size) := by omega
          clear HTT HV V1 FI FP FT FC FV HTV HTP HTZ HI
          go_wp2
          go_region
          all_goals go_wp2
          all_goals go_region
          all_goals go_wp2
          all_goals exact ⟨⟨k + 1, D.set P (cx, cb), O.set P (vx, vn, vs0), by omega, by go_num, PD2.out, PO2.out, ((((MD.out.setC P (cx, cb)).far n1).far n1).far n1).drew.drew, (((MO.out.far n2).far n2).setV P (vx, vn, vs0)).drew.drew, ((((((HL.out.setCell (Nat.le_refl _) _).setCell (Nat.le_refl _) _).setCell (by omega) _).setCell (by omega) _).setCell (by omega) _).drew).drew⟩, by simp [intOf]; omega⟩
        · obtain rfl : k = cs.length := by omega
          have M1 : Moved π cs D := PD.out.moved HPM.out
          have M2 : Moved π vs O := Put.moved (by rw [HVL.out]; exact HPM.out) (by rw [HVL.out]; exact PO.out)
          have EQ := HV.out D O M1 M2 rfl
          have hDl : D.length = cs.length := M1.len
          have hOl : O.length = cs.length := M2.len.trans HVL.out
          have HTO := Lib.hid (moved_texts M2 HTV.out)
          have V2 := Lib.hid (fun W hA hR hE => by have := exprValueI (some ⟨wn3.heap.size, 0, none⟩) (some ⟨wm.heap.size, 0, none⟩) Ai wn3.heap.size 0 cs.length wm.heap.size 0 cs.length gi 0 ci D O Z W hA hR hE (by omega) (by omega) (by have := HZL.out; omega) HTO.out.short HTZ.out.short; rw [EQ, hDl, hOl, HZL.out] at this; exact this)
          obtain ⟨xk, xn, xs⟩ := X
          unfold aggV at V1 V2
          simp only at V1 V2
          have FD := Lib.hid MD.out.fl
          have FO := Lib.hid MO.out.fl
          have HBr := Lib.hid (HB.out.trans (HL.out.mono HB.out.size))
          have GC := Lib.hid (FC.out.below HL.out)
          have GV := Lib.hid (FV.out.below HL.out)
          have GP := Lib.hid (FP.out.below HL.out)
          have GI := Lib.hid (FI.out.below HL.out)
          clear EQ hDl hOl M1 M2 HB FC FV FP FI MD MO PD PO HV HTO HL HPM
          have HB := HBr
          clear HBr
          have S5 := True.intro
          go_wp2_with (first
            | ((have _ := S5); (fail_if_success (have _ := S6)); go_at_call 20; (with_reducible refine (V2.out _ FD.out FO.out GI.out).mono ?_); rintro e wn5 ⟨rfl, hb1⟩; have HBn : Hid (Below w.heap.size w wn5) := Below.trans (by repeat (with_reducible first | exact HB.out | refine Below.alloc ?_ (by first | omega | (have := HB.out.size; omega) | (have := HB.out.size; simp; omega)) _ | apply Below.drew)) (Below.mono hb1 (by have := HB.out.size; first | omega | (simp; omega))); have K0 := Lib.hid (Fl.below (by (repeat (with_reducible first | exact GC.out | apply Fl.alloc | apply Fl.drew))) hb1); clear GC; have GC := K0; clear K0; have K0 := Lib.hid (Fl.below (by (repeat (with_reducible first | exact GV.out | apply Fl.alloc | apply Fl.drew))) hb1); clear GV; have GV := K0; clear K0; have K0 := Lib.hid (Fl.below (by (repeat (with_reducible first | exact GP.out | apply Fl.alloc | apply Fl.drew))) hb1); clear GP; have GP := K0; clear K0; clear HB; have HB := HBn; clear HBn; have hz5 := hb1.size; clear hb1; have S6 := True.intro)
            | ((have _ := S6); (fail_if_success (have _ := S7)); go_at_call 20; (with_reducible refine (V1.out _ GC.out GV.out GP.out).mono ?_); rintro e wn6 ⟨rfl, hb1⟩; have HBn : Hid (Below w.heap.size w wn6) := Below.trans (by repeat (with_reducible first | exact HB.out | refine Below.alloc ?_ (by first | omega | (have := HB.out.size; omega) | (have := HB.out.size; simp; omega)) _ | apply Below.drew)) (Below.mono hb1 (by have := HB.out.size; first | omega | (simp; omega))); have K0 := Lib.hid (Fl.below (by (repeat (with_reducible first | exact GC.out | apply Fl.alloc | apply Fl.drew))) hb1); clear GC; have GC := K0; clear K0; clear HB; have HB := HBn; clear HBn; have hz6 := hb1.size; clear hb1; have S7 := True.intro)
            | ((have _ := S7); (fail_if_success (have _ := S8)); go_at_call 18; (with_reducible refine (alive _).mono ?_); rintro e wn7 ⟨rfl, hb1⟩; have HBn : Hid (Below w.heap.size w wn7) := Below.trans (by repeat (with_reducible first | exact HB.out | refine Below.alloc ?_ (by first | omega | (have := HB.out.size; omega) | (have := HB.out.size; simp; omega)) _ | apply Below.drew)) (Below.mono hb1 (by have := HB.out.size; first | omega | (simp; omega))); clear HB; have HB := HBn; clear HBn; clear hb1; have S8 := True.intro))
          all_goals (go_ret; exact ⟨retB (by first | rfl | simp), HB.out⟩)
end Go.Proofs.Ytcocpmfndodapaa.Val
