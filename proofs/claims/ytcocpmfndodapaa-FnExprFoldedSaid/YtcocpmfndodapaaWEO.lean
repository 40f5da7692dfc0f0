/- The walk of the law FnExprFolded. -/
import Derived.Test.YtcocpmfndodapaaDrawFo
import Derived.Test.YtcocpmfndodapaaSameP
import Derived.Test.YtcocpmfndodapaaEXFS
import Derived.Test.YtcocpmfndodapaaEVI
import Derived.Test.YtcocpmfndodapaaEKI
import Derived.Test.YtcocpmfndodapaaAlive
namespace Go.Proofs.Ytcocpmfndodapaa.Val
open Go.RowKit
set_option linter.unusedVariables false
set_option linter.unusedSimpArgs false
set_option maxRecDepth 4000
theorem own_partsX {w : World} {B n : Nat} {e : TypeId} {v : Value} {l : List PT} (h : w.ownsRow B e 5 v n (flatP l)) (hn : n = l.length) : ∃ (g : Nat) (A : Option Addr) (cap : Nat), v = .slice A n cap ∧ Fl w g 0 A (flatP l) := by
  by_cases h0 : 0 < n
  · obtain ⟨g, cap, rfl⟩ := own_sliceX h h0
    exact ⟨g, _, cap, rfl, fl_sliceP h⟩
  · have hl : l = [] := List.length_eq_zero_iff.1 (by omega)
    subst hl
    rcases h.2 with ⟨hz, hn0⟩ | ⟨g, cap, cur, hv, -⟩
    · subst hn0
      exact ⟨0, none, 0, hz, ⟨fun h => absurd h (by simp [flatP]), fun j hj => absurd hj (by simp [flatP])⟩⟩
    · exact ⟨g, _, cap, hv, ⟨fun h => absurd h (by simp [flatP]), fun j hj => absurd hj (by simp [flatP])⟩⟩
theorem okV_texts {v : VT} (h : okV v = true) : v.2.2.size ≤ 20 := by
  obtain ⟨k, n, s⟩ := v
  show s.size ≤ 20
  rcases ok_cases k n s with h0 | ⟨-, -, h1, -⟩ | ⟨-, -, -, h1, -⟩ | ⟨-, -, h1, -, -⟩ | ⟨-, -, h1, -⟩ | ⟨-, -, h1, -⟩
  · have : okB k n s = true := h
    rw [h0] at this
    cases this
  · rw [bytes_none h1]; decide
  · rw [bytes_none h1]; decide
  · omega
  · rw [bytes_none h1]; decide
  · rw [bytes_none h1]; decide
theorem fold_texts {cs : List CT} {ps : List PT} (h : TextsP ps) : TextsP (foldI cs ps) := by
  unfold foldI
  split
  · intro p hp; cases hp
  · split
    · rename_i h1 h2
      have ht := fold_typ h1 h2.1
      intro p hp
      rw [List.mem_singleton] at hp
      subst hp
      exact okV_texts ht.1
    · exact h
theorem fold_neg {cs : List CT} {ps : List PT} (h : kindI cs ps < 0) : foldI cs ps = [] := by unfold foldI; rw [if_pos h]
set_option maxHeartbeats 8000000 in
theorem walk_FnExprFolded (a : Option Addr) (len cap : Nat) (zs : List Int) (w : World) (h : IsRow .u8 w a len cap zs) :
    Calls Try.prog 8 #[.slice a len cap] w fun e w' => e = .returned (.bool true) ∧ Below w.heap.size w w' := by
  by_cases hl : 1048576 < len
  · clear h
    go_enter Try.func8, Try.ntmps8
    go_wp2
    go_ret
    exact ⟨rfl, Below.refl _ _⟩
  · have HI := Lib.hid h
    clear h
    go_enter Try.func8, Try.ntmps8
    go_wp2_with (go_at_call 35; refine (drawFoldedRow _ _ _ zs _ HI.out).mono ?_; rintro e wd ⟨cs, vs, ps, g, c, g2, c2, g3, c3, rfl, ⟨hc0, hc6⟩, ⟨hv0, hv20⟩, hps, htv, htp, hf, kf, pf, hg3, hbd⟩; have HB := Lib.hid hbd; have HF := Lib.hid hf; have KF := Lib.hid kf; have FP := Lib.hid pf; have HTV := Lib.hid htv; have HTP := Lib.hid htp; clear hbd hf kf pf htv htp)
    have S0 := True.intro
    have hzd := HB.out.size
    have HTF := Lib.hid (fold_texts (cs := cs) HTP.out)
    have CI := Lib.hid (fun W hA hB => exprFoldedI (some ⟨g, 0, none⟩) (some ⟨g3, 0, none⟩) g 0 c g3 0 c3 cs ps W hA hB (by omega) (by omega) HTP.out.short)
    have CS := Lib.hid (fun W hA hB => exprFoldedS (some ⟨g, 0, none⟩) (some ⟨g3, 0, none⟩) g 0 c g3 0 c3 cs ps W hA hB (by omega) (by omega) HTP.out.short)
    have CK := Lib.hid (fun W hA hB => exprKindI (some ⟨g, 0, none⟩) (some ⟨g3, 0, none⟩) g 0 c g3 0 c3 cs ps W hA hB (by omega) (by omega) HTP.out.short)
    by_cases hk : kindI cs ps < 0
    · have hk1 := kind_neg hk
      rw [hk1] at CK
      rw [fold_neg hk] at CI CS
      unfold OwnP at CI CS
      have CE := Lib.hid (fun W A B g' g4 cA cB hA hB => samePartsE A B g' g4 0 0 cA cB [] W hA hB (by simp))
      dsimp only [List.length_nil] at CI CS CE
      go_wp2_with (first
        | ((have _ := S0); (fail_if_success (have _ := S1)); go_at_call 36; (with_reducible refine (CI.out _ HF.out FP.out).mono ?_); rintro e wn0 ⟨v1, rfl, own1, hb1⟩; have HBn : Hid (Below w.heap.size w wn0) := Below.trans (by repeat (with_reducible first | exact HB.out | refine Below.alloc ?_ (by first | omega | (have := HB.out.size; omega) | (have := HB.out.size; simp; omega)) _ | apply Below.drew)) (Below.mono hb1 (by have := HB.out.size; first | omega | (simp; omega))); have K0 := Lib.hid (Fl.below (by (repeat (with_reducible first | exact HF.out | apply Fl.alloc | apply Fl.drew))) hb1); clear HF; have HF := K0; clear K0; have K0 := Lib.hid (Fl.below (by (repeat (with_reducible first | exact FP.out | apply Fl.alloc | apply Fl.drew))) hb1); clear FP; have FP := K0; clear K0; clear HB; have HB := HBn; clear HBn; obtain ⟨gi, Ai, ci, rfl, fi⟩ := own_partsX own1 rfl; have FI := Lib.hid fi; clear fi own1; clear hb1; have S1 := True.intro)
        | ((have _ := S1); (fail_if_success (have _ := S2)); go_at_call 37; (with_reducible refine (CS.out _ HF.out FP.out).mono ?_); rintro e wn1 ⟨v2, rfl, own2, hb1⟩; have HBn : Hid (Below w.heap.size w wn1) := Below.trans (by repeat (with_reducible first | exact HB.out | refine Below.alloc ?_ (by first | omega | (have := HB.out.size; omega) | (have := HB.out.size; simp; omega)) _ | apply Below.drew)) (Below.mono hb1 (by have := HB.out.size; first | omega | (simp; omega))); have K0 := Lib.hid (Fl.below (by (repeat (with_reducible first | exact HF.out | apply Fl.alloc | apply Fl.drew))) hb1); clear HF; have HF := K0; clear K0; have K0 := Lib.hid (Fl.below (by (repeat (with_reducible first | exact FP.out | apply Fl.alloc | apply Fl.drew))) hb1); clear FP; have FP := K0; clear K0; have K0 := Lib.hid (Fl.below (by (repeat (with_reducible first | exact FI.out | apply Fl.alloc | apply Fl.drew))) hb1); clear FI; have FI := K0; clear K0; clear HB; have HB := HBn; clear HBn; obtain ⟨gs, As, cS, rfl, fs⟩ := own_partsX own2 rfl; have FSx := Lib.hid fs; clear fs own2; clear hb1; have S2 := True.intro)
        | ((have _ := S2); (fail_if_success (have _ := S3)); go_at_call 33; (with_reducible refine (CE.out _ _ _ _ _ _ _ FI.out FSx.out).mono ?_); rintro e wn2 ⟨rfl, hb1⟩; have HBn : Hid (Below w.heap.size w wn2) := Below.trans (by repeat (with_reducible first | exact HB.out | refine Below.alloc ?_ (by first | omega | (have := HB.out.size; omega) | (have := HB.out.size; simp; omega)) _ | apply Below.drew)) (Below.mono hb1 (by have := HB.out.size; first | omega | (simp; omega))); have K0 := Lib.hid (Fl.below (by (repeat (with_reducible first | exact HF.out | apply Fl.alloc | apply Fl.drew))) hb1); clear HF; have HF := K0; clear K0; have K0 := Lib.hid (Fl.below (by (repeat (with_reducible first | exact FP.out | apply Fl.alloc | apply Fl.drew))) hb1); clear FP; have FP := K0; clear K0; have K0 := Lib.hid (Fl.below (by (repeat (with_reducible first | exact FI.out | apply Fl.alloc | apply Fl.drew))) hb1); clear FI; have FI := K0; clear K0; clear HB; have HB := HBn; clear HBn; clear hb1; have S3 := True.intro)
        | ((have _ := S3); (fail_if_success (have _ := S4)); go_at_call 16; (with_reducible refine (CK.out _ HF.out FP.out).mono ?_); rintro e wn3 ⟨rfl, hb1⟩; have HBn : Hid (Below w.heap.size w wn3) := Below.trans (by repeat (with_reducible first | exact HB.out | refine Below.alloc ?_ (by first | omega | (have := HB.out.size; omega) | (have := HB.out.size; simp; omega)) _ | apply Below.drew)) (Below.mono hb1 (by have := HB.out.size; first | omega | (simp; omega))); have K0 := Lib.hid (Fl.below (by (repeat (with_reducible first | exact HF.out | apply Fl.alloc | apply Fl.drew))) hb1); clear HF; have HF := K0; clear K0; clear HB; have HB := HBn; clear HBn; clear hb1; have S4 := True.intro)
        | ((have _ := S4); (fail_if_success (have _ := S5)); go_at_call 18; (with_reducible refine (alive _).mono ?_); rintro e wn4 ⟨rfl, hb1⟩; have HBn : Hid (Below w.heap.size w wn4) := Below.trans (by repeat (with_reducible first | exact HB.out | refine Below.alloc ?_ (by first | omega | (have := HB.out.size; omega) | (have := HB.out.size; simp; omega)) _ | apply Below.drew)) (Below.mono hb1 (by have := HB.out.size; first | omega | (simp; omega))); clear HB; have HB := HBn; clear HBn; clear hb1; have S5 := True.intro))
      all_goals (go_ret; exact ⟨retB (by first | rfl | simp), HB.out⟩)
    · obtain ⟨k1, k2, k3⟩ := fold_kind hk
      have E1 := fold_val vs hk
      obtain ⟨Z, hZ⟩ : ∃ Z, foldI cs ps = Z := ⟨_, rfl⟩
      obtain ⟨K, hK⟩ : ∃ K, kindI cs ps = K := ⟨_, rfl⟩
      obtain ⟨⟨x, n, s⟩, X1⟩ : ∃ X, xvalI cs vs ps = X := ⟨_, rfl⟩
      rw [hZ] at CI CS HTF k1 k2 k3 E1
      rw [hK] at CK k1
      rw [X1] at E1
      unfold OwnP at CI CS
      have CE := Lib.hid (fun W A B g' g4 cA cB hA hB => samePartsE A B g' g4 0 0 cA cB Z W hA hB (by omega))
      have CZ := Lib.hid (fun W A g' cA hA hB => by have := exprKindI (some ⟨g, 0, none⟩) A g 0 c g' 0 cA cs Z W hA hB (by omega) (by omega) HTF.out.short; rw [k1] at this; exact this)
      have V1 := Lib.hid (fun W hA hR hE => by have := exprValueI (some ⟨g, 0, none⟩) (some ⟨g2, 0, none⟩) (some ⟨g3, 0, none⟩) g 0 c g2 0 c2 g3 0 c3 cs vs ps W hA hR hE (by omega) (by omega) (by omega) HTV.out.short HTP.out.short; rw [X1] at this; dsimp only [aggV] at this; exact this)
      have V2 := Lib.hid (fun W A g' cA hA hR hE => by have := exprValueI (some ⟨g, 0, none⟩) (some ⟨g2, 0, none⟩) A g 0 c g2 0 c2 g' 0 cA cs vs Z W hA hR hE (by omega) (by omega) (by omega) HTV.out.short HTF.out.short; rw [E1] at this; dsimp only [aggV] at this; exact this)
      clear hK X1 hZ E1
      go_wp2_with (first
        | ((have _ := S0); (fail_if_success (have _ := S1)); go_at_call 36; (with_reducible refine (CI.out _ HF.out FP.out).mono ?_); rintro e wn0 ⟨v1, rfl, own1, hb1⟩; have HBn : Hid (Below w.heap.size w wn0) := Below.trans (by repeat (with_reducible first | exact HB.out | refine Below.alloc ?_ (by first | omega | (have := HB.out.size; omega) | (have := HB.out.size; simp; omega)) _ | apply Below.drew)) (Below.mono hb1 (by have := HB.out.size; first | omega | (simp; omega))); have K0 := Lib.hid (Fl.below (by (repeat (with_reducible first | exact HF.out | apply Fl.alloc | apply Fl.drew))) hb1); clear HF; have HF := K0; clear K0; have K0 := Lib.hid (Fl.below (by (repeat (with_reducible first | exact KF.out | apply Fl.alloc | apply Fl.drew))) hb1); clear KF; have KF := K0; clear K0; have K0 := Lib.hid (Fl.below (by (repeat (with_reducible first | exact FP.out | apply Fl.alloc | apply Fl.drew))) hb1); clear FP; have FP := K0; clear K0; clear HB; have HB := HBn; clear HBn; obtain ⟨gi, Ai, ci, rfl, fi⟩ := own_partsX own1 rfl; have FI := Lib.hid fi; clear fi own1; clear hb1; have S1 := True.intro)
        | ((have _ := S1); (fail_if_success (have _ := S2)); go_at_call 37; (with_reducible refine (CS.out _ HF.out FP.out).mono ?_); rintro e wn1 ⟨v2, rfl, own2, hb1⟩; have HBn : Hid (Below w.heap.size w wn1) := Below.trans (by repeat (with_reducible first | exact HB.out | refine Below.alloc ?_ (by first | omega | (have := HB.out.size; omega) | (have := HB.out.size; simp; omega)) _ | apply Below.drew)) (Below.mono hb1 (by have := HB.out.size; first | omega | (simp; omega))); have K0 := Lib.hid (Fl.below (by (repeat (with_reducible first | exact HF.out | apply Fl.alloc | apply Fl.drew))) hb1); clear HF; have HF := K0; clear K0; have K0 := Lib.hid (Fl.below (by (repeat (with_reducible first | exact KF.out | apply Fl.alloc | apply Fl.drew))) hb1); clear KF; have KF := K0; clear K0; have K0 := Lib.hid (Fl.below (by (repeat (with_reducible first | exact FP.out | apply Fl.alloc | apply Fl.drew))) hb1); clear FP; have FP := K0; clear K0; have K0 := Lib.hid (Fl.below (by (repeat (with_reducible first | exact FI.out | apply Fl.alloc | apply Fl.drew))) hb1); clear FI; have FI := K0; clear K0; clear HB; have HB := HBn; clear HBn; obtain ⟨gs, As, cS, rfl, fs⟩ := own_partsX own2 rfl; have FSx := Lib.hid fs; clear fs own2; clear hb1; have S2 := True.intro)
        | ((have _ := S2); (fail_if_success (have _ := S3)); go_at_call 33; (with_reducible refine (CE.out _ _ _ _ _ _ _ FI.out FSx.out).mono ?_); rintro e wn2 ⟨rfl, hb1⟩; have HBn : Hid (Below w.heap.size w wn2) := Below.trans (by repeat (with_reducible first | exact HB.out | refine Below.alloc ?_ (by first | omega | (have := HB.out.size; omega) | (have := HB.out.size; simp; omega)) _ | apply Below.drew)) (Below.mono hb1 (by have := HB.out.size; first | omega | (simp; omega))); have K0 := Lib.hid (Fl.below (by (repeat (with_reducible first | exact HF.out | apply Fl.alloc | apply Fl.drew))) hb1); clear HF; have HF := K0; clear K0; have K0 := Lib.hid (Fl.below (by (repeat (with_reducible first | exact KF.out | apply Fl.alloc | apply Fl.drew))) hb1); clear KF; have KF := K0; clear K0; have K0 := Lib.hid (Fl.below (by (repeat (with_reducible first | exact FP.out | apply Fl.alloc | apply Fl.drew))) hb1); clear FP; have FP := K0; clear K0; have K0 := Lib.hid (Fl.below (by (repeat (with_reducible first | exact FI.out | apply Fl.alloc | apply Fl.drew))) hb1); clear FI; have FI := K0; clear K0; clear HB; have HB := HBn; clear HBn; clear hb1; have S3 := True.intro)
        | ((have _ := S3); (fail_if_success (have _ := S4)); go_at_call 16; (with_reducible refine (CZ.out _ _ _ _ HF.out FI.out).mono ?_); rintro e wn3 ⟨rfl, hb1⟩; have HBn : Hid (Below w.heap.size w wn3) := Below.trans (by repeat (with_reducible first | exact HB.out | refine Below.alloc ?_ (by first | omega | (have := HB.out.size; omega) | (have := HB.out.size; simp; omega)) _ | apply Below.drew)) (Below.mono hb1 (by have := HB.out.size; first | omega | (simp; omega))); have K0 := Lib.hid (Fl.below (by (repeat (with_reducible first | exact HF.out | apply Fl.alloc | apply Fl.drew))) hb1); clear HF; have HF := K0; clear K0; have K0 := Lib.hid (Fl.below (by (repeat (with_reducible first | exact KF.out | apply Fl.alloc | apply Fl.drew))) hb1); clear KF; have KF := K0; clear K0; have K0 := Lib.hid (Fl.below (by (repeat (with_reducible first | exact FP.out | apply Fl.alloc | apply Fl.drew))) hb1); clear FP; have FP := K0; clear K0; have K0 := Lib.hid (Fl.below (by (repeat (with_reducible first | exact FI.out | apply Fl.alloc | apply Fl.drew))) hb1); clear FI; have FI := K0; clear K0; clear HB; have HB := HBn; clear HBn; clear hb1; have S4 := True.intro)
        | ((have _ := S4); (fail_if_success (have _ := S5)); go_at_call 16; (with_reducible refine (CK.out _ HF.out FP.out).mono ?_); rintro e wn4 ⟨rfl, hb1⟩; have HBn : Hid (Below w.heap.size w wn4) := Below.trans (by repeat (with_reducible first | exact HB.out | refine Below.alloc ?_ (by first | omega | (have := HB.out.size; omega) | (have := HB.out.size; simp; omega)) _ | apply Below.drew)) (Below.mono hb1 (by have := HB.out.size; first | omega | (simp; omega))); have K0 := Lib.hid (Fl.below (by (repeat (with_reducible first | exact HF.out | apply Fl.alloc | apply Fl.drew))) hb1); clear HF; have HF := K0; clear K0; have K0 := Lib.hid (Fl.below (by (repeat (with_reducible first | exact KF.out | apply Fl.alloc | apply Fl.drew))) hb1); clear KF; have KF := K0; clear K0; have K0 := Lib.hid (Fl.below (by (repeat (with_reducible first | exact FP.out | apply Fl.alloc | apply Fl.drew))) hb1); clear FP; have FP := K0; clear K0; have K0 := Lib.hid (Fl.below (by (repeat (with_reducible first | exact FI.out | apply Fl.alloc | apply Fl.drew))) hb1); clear FI; have FI := K0; clear K0; clear HB; have HB := HBn; clear HBn; clear hb1; have S5 := True.intro)
        | ((have _ := S5); (fail_if_success (have _ := S6)); go_at_call 20; (with_reducible refine (V2.out _ _ _ _ HF.out KF.out FI.out).mono ?_); rintro e wn5 ⟨rfl, hb1⟩; have HBn : Hid (Below w.heap.size w wn5) := Below.trans (by repeat (with_reducible first | exact HB.out | refine Below.alloc ?_ (by first | omega | (have := HB.out.size; omega) | (have := HB.out.size; simp; omega)) _ | apply Below.drew)) (Below.mono hb1 (by have := HB.out.size; first | omega | (simp; omega))); have K0 := Lib.hid (Fl.below (by (repeat (with_reducible first | exact HF.out | apply Fl.alloc | apply Fl.drew))) hb1); clear HF; have HF := K0; clear K0; have K0 := Lib.hid (Fl.below (by (repeat (with_reducible first | exact KF.out | apply Fl.alloc | apply Fl.drew))) hb1); clear KF; have KF := K0; clear K0; have K0 := Lib.hid (Fl.below (by (repeat (with_reducible first | exact FP.out | apply Fl.alloc | apply Fl.drew))) hb1); clear FP; have FP := K0; clear K0; have K0 := Lib.hid (Fl.below (by (repeat (with_reducible first | exact FI.out | apply Fl.alloc | apply Fl.drew))) hb1); clear FI; have FI := K0; clear K0; clear HB; have HB := HBn; clear HBn; clear hb1; have S6 := True.intro)
        | ((have _ := S6); (fail_if_success (have _ := S7)); go_at_call 20; (with_reducible refine (V1.out _ HF.out KF.out FP.out).mono ?_); rintro e wn6 ⟨rfl, hb1⟩; have HBn : Hid (Below w.heap.size w wn6) := Below.trans (by repeat (with_reducible first | exact HB.out | refine Below.alloc ?_ (by first | omega | (have := HB.out.size; omega) | (have := HB.out.size; simp; omega)) _ | apply Below.drew)) (Below.mono hb1 (by have := HB.out.size; first | omega | (simp; omega))); have K0 := Lib.hid (Fl.below (by (repeat (with_reducible first | exact HF.out | apply Fl.alloc | apply Fl.drew))) hb1); clear HF; have HF := K0; clear K0; have K0 := Lib.hid (Fl.below (by (repeat (with_reducible first | exact KF.out | apply Fl.alloc | apply Fl.drew))) hb1); clear KF; have KF := K0; clear K0; have K0 := Lib.hid (Fl.below (by (repeat (with_reducible first | exact FP.out | apply Fl.alloc | apply Fl.drew))) hb1); clear FP; have FP := K0; clear K0; have K0 := Lib.hid (Fl.below (by (repeat (with_reducible first | exact FI.out | apply Fl.alloc | apply Fl.drew))) hb1); clear FI; have FI := K0; clear K0; clear HB; have HB := HBn; clear HBn; clear hb1; have S7 := True.intro)
        | (exfalso; omega))
      all_goals (go_ret; exact ⟨retB (by first | rfl | simp), HB.out⟩)
end Go.Proofs.Ytcocpmfndodapaa.Val
