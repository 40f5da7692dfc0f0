/- The walk of the law FnExprColumns. -/
import Derived.Test.YtcddkleglmbfgaaColM
import Derived.Test.YtcddkleglmbfgaaEVI
import Derived.Test.YtcddkleglmbfgaaAppB
import Derived.Test.YtcddkleglmbfgaaMutR
import Derived.Test.YtcddkleglmbfgaaAlive
import Derived.OneCell
namespace Go.Proofs.Ytcddkleglmbfgaa.Val
open Go.RowKit
set_option linter.unusedVariables false
set_option linter.unusedSimpArgs false
set_option maxRecDepth 4000
theorem own_intsX {w : World} {B n : Nat} {e : TypeId} {v : Value} {l : List Int} (h : w.ownsRow B e 1 v n (l.map iv)) (hn : n = l.length) : ∃ (g : Nat) (A : Option Addr) (cap : Nat), v = .slice A n cap ∧ Fl w g 0 A (l.map iv) := by
  by_cases h0 : 0 < n
  · obtain ⟨g, cap, rfl⟩ := own_sliceX h h0
    exact ⟨g, _, cap, rfl, fl_sliceP h⟩
  · have hl : l = [] := List.length_eq_zero_iff.1 (by omega)
    subst hl
    rcases h.2 with ⟨hz, hn0⟩ | ⟨g, cap, cur, hv, -⟩
    · subst hn0
      exact ⟨0, none, 0, hz, ⟨fun h => absurd h (by simp), fun j hj => absurd hj (by simp)⟩⟩
    · exact ⟨g, _, cap, hv, ⟨fun h => absurd h (by simp), fun j hj => absurd hj (by simp)⟩⟩
/-- A value lies in a block of its own, which can be written. -/
def BoxC (W : World) (b : Nat) (k n : Int) (s : ByteArray) : Prop := W.cell? ⟨b, 0, none⟩ = some (.int .i64 k) ∧ W.cell? ⟨b, 1, none⟩ = some (.int .i64 n) ∧ W.cell? ⟨b, 2, none⟩ = some (.string s) ∧ W.frozen? ⟨b, 1, none⟩ = false ∧ b < W.heap.size
theorem BoxC.below {W w : World} {b : Nat} {k n : Int} {s : ByteArray} (h : BoxC W b k n s) (hb : Below W.heap.size W w) : BoxC w b k n s := by
  obtain ⟨h0, h1, h2, hf, h3⟩ := h
  have hc := fun j => (bcell hb).1 b j h3
  exact ⟨(hc 0).trans h0, (hc 1).trans h1, (hc 2).trans h2, ((bcell hb).2 b 1 h3).trans hf, Nat.lt_of_lt_of_le h3 hb.size⟩
theorem BoxC.new (W : World) (k n : Int) (s : ByteArray) (t : TypeId) : BoxC (W.alloc (.cells #[.int .i64 k, .int .i64 n, .string s] t)) W.heap.size k n s := by
  simp [BoxC, go_sem]
theorem BoxC.alloc {W : World} {b : Nat} {k n : Int} {s : ByteArray} (h : BoxC W b k n s) (o : Obj) : BoxC (W.alloc o) b k n s := h.below ((Below.refl _ _).alloc (Nat.le_refl _) _)
theorem BoxC.grown {W w : World} {b : Nat} {k n : Int} {s : ByteArray} {g : Nat} (h : BoxC W b k n s) (hg : W.grownBy w (some g)) (hne : ¬ (g = b)) : BoxC w b k n s := by
  obtain ⟨h0, h1, h2, hf, h3⟩ := h
  have hb := hg.block b h3 (fun e => hne (by injection e with e; exact e.symm))
  exact ⟨(World.cell?_of_block (a := ⟨b, 0, none⟩) hb).trans h0, (World.cell?_of_block (a := ⟨b, 1, none⟩) hb).trans h1, (World.cell?_of_block (a := ⟨b, 2, none⟩) hb).trans h2, (World.frozen?_of_block (a := ⟨b, 1, none⟩) hb).trans hf, Nat.lt_of_lt_of_le h3 hg.size⟩
theorem flat_one (vs : List VT) (k n : Int) : flatV (vs ++ [(k, n, ⟨#[]⟩)]) = flatV vs ++ [.int .i64 k, .int .i64 n, .string ⟨#[]⟩] := by simp [flatV]
set_option maxHeartbeats 40000000 in
theorem walk_FnExprColumns (a : Option Addr) (len cap : Nat) (zs : List Int) (w : World) (h : IsRow .u8 w a len cap zs) :
    Calls Try.prog 3 #[.slice a len cap] w fun e w' => e = .returned (.bool true) ∧ Below w.heap.size w w' := by
  by_cases hl : 1048576 < len
  · clear h
    go_enter Try.func3, Try.ntmps3
    go_wp2
    go_ret
    exact ⟨rfl, Below.refl _ _⟩
  · have HI := Lib.hid h
    clear h
    obtain ⟨j0, hj, jz0, jz1, jz2⟩ := info_parts infoV
    go_enter Try.func3, Try.ntmps3
    go_wp2_with (go_at_call 15; refine (drawExprColumns _ _ _ zs _ HI.out).mono ?_; rintro e wd ⟨cs, ps, gc, cc, gp, cp, rfl, ⟨hc0, hc6⟩, hps, htp, hf, pf, hgp, hbd⟩; have HB := Lib.hid hbd; have FC := Lib.hid hf; have FP := Lib.hid pf; have HTP := Lib.hid htp; clear hbd hf pf htp)
    have S0 := True.intro
    have hzd := HB.out.size
    have hgC : gc < wd.heap.size := FC.out.lt (by rw [flatC_len]; omega)
    have CI := Lib.hid (fun W hA hB => exprColumnsI (some ⟨gc, 0, none⟩) (some ⟨gp, 0, none⟩) gc 0 cc gp 0 cp cs ps W hA hB (by omega) (by omega) HTP.out.short)
    have CS := Lib.hid (fun W hA hB => exprColumnsS (some ⟨gc, 0, none⟩) (some ⟨gp, 0, none⟩) gc 0 cc gp 0 cp cs ps W hA hB (by omega) (by omega) HTP.out.short)
    have hzl := colZ_len cs ps
    have CE := Lib.hid (fun W A B g' g4 cA cB hA hB => sameIntsE A B g' g4 0 0 cA cB (colZ cs ps) W hA hB (by omega))
    have CH := Lib.hid (fun W A g' cA n hA => hasInt A g' 0 cA (colZ cs ps) n W hA (by omega))
    have HZI := Lib.hid (fun x h => colZ_in (cs := cs) (ps := ps) (x := x) h)
    have HZU := Lib.hid (colZ_up cs ps)
    obtain ⟨Z, hZ⟩ : ∃ Z, colZ cs ps = Z := ⟨_, rfl⟩
    have HZ := Lib.hid hZ
    rw [hZ] at CI CS CE CH HZI HZU hzl
    unfold OwnN at CI CS
    clear hZ
    go_wp2_with (first
      | ((have _ := S0); (fail_if_success (have _ := S1)); go_at_call 16; (with_reducible refine (CI.out _ FC.out FP.out).mono ?_); rintro e wn0 ⟨v1, rfl, own1, hb1⟩; have HBn : Hid (Below w.heap.size w wn0) := Below.trans (by repeat (with_reducible first | exact HB.out | refine Below.alloc ?_ (by first | omega | (have := HB.out.size; omega) | (have := HB.out.size; simp; omega)) _ | apply Below.drew)) (Below.mono hb1 (by have := HB.out.size; first | omega | (simp; omega))); have K0 := Lib.hid (Fl.below (by (repeat (with_reducible first | exact FC.out | apply Fl.alloc | apply Fl.drew))) hb1); clear FC; have FC := K0; clear K0; have K0 := Lib.hid (Fl.below (by (repeat (with_reducible first | exact FP.out | apply Fl.alloc | apply Fl.drew))) hb1); clear FP; have FP := K0; clear K0; clear HB; have HB := HBn; clear HBn; obtain ⟨gi, Ai, ci, rfl, fi⟩ := own_intsX own1 rfl; have FI := Lib.hid fi; clear fi own1; have hz0 := hb1.size; clear hb1; have S1 := True.intro)
      | ((have _ := S1); (fail_if_success (have _ := S2)); go_at_call 18; (with_reducible refine (CS.out _ FC.out FP.out).mono ?_); rintro e wn1 ⟨v2, rfl, own2, hb1⟩; have HBn : Hid (Below w.heap.size w wn1) := Below.trans (by repeat (with_reducible first | exact HB.out | refine Below.alloc ?_ (by first | omega | (have := HB.out.size; omega) | (have := HB.out.size; simp; omega)) _ | apply Below.drew)) (Below.mono hb1 (by have := HB.out.size; first | omega | (simp; omega))); have K0 := Lib.hid (Fl.below (by (repeat (with_reducible first | exact FC.out | apply Fl.alloc | apply Fl.drew))) hb1); clear FC; have FC := K0; clear K0; have K0 := Lib.hid (Fl.below (by (repeat (with_reducible first | exact FP.out | apply Fl.alloc | apply Fl.drew))) hb1); clear FP; have FP := K0; clear K0; have K0 := Lib.hid (Fl.below (by (repeat (with_reducible first | exact FI.out | apply Fl.alloc | apply Fl.drew))) hb1); clear FI; have FI := K0; clear K0; clear HB; have HB := HBn; clear HBn; obtain ⟨gs, As, cS, rfl, fs⟩ := own_intsX own2 rfl; have FSx := Lib.hid fs; clear fs own2; have hz1 := hb1.size; clear hb1; have S2 := True.intro)
      | ((have _ := S2); (fail_if_success (have _ := S3)); go_at_call 17; (with_reducible refine (CE.out _ _ _ _ _ _ _ FI.out FSx.out).mono ?_); rintro e wn2 ⟨rfl, hb1⟩; have HBn : Hid (Below w.heap.size w wn2) := Below.trans (by repeat (with_reducible first | exact HB.out | refine Below.alloc ?_ (by first | omega | (have := HB.out.size; omega) | (have := HB.out.size; simp; omega)) _ | apply Below.drew)) (Below.mono hb1 (by have := HB.out.size; first | omega | (simp; omega))); have K0 := Lib.hid (Fl.below (by (repeat (with_reducible first | exact FC.out | apply Fl.alloc | apply Fl.drew))) hb1); clear FC; have FC := K0; clear K0; have K0 := Lib.hid (Fl.below (by (repeat (with_reducible first | exact FP.out | apply Fl.alloc | apply Fl.drew))) hb1); clear FP; have FP := K0; clear K0; have K0 := Lib.hid (Fl.below (by (repeat (with_reducible first | exact FI.out | apply Fl.alloc | apply Fl.drew))) hb1); clear FI; have FI := K0; clear K0; clear HB; have HB := HBn; clear HBn; have hz2 := hb1.size; clear hb1; have S3 := True.intro))
    go_loopw [6] (fun kx wr => ∃ (k : Nat), k ≤ Z.length ∧ kx = .int .i64 k ∧ Hid (Below wn2.heap.size wn2 wr)) (fun kx _ => Z.length - (intOf kx).toNat)
    case atStart => exact ⟨0, by omega, rfl, Below.refl _ _⟩
    case round =>
      obtain ⟨k, hk, rfl, HL⟩ := hrel
      by_cases hlt : k < Z.length
      · obtain ⟨rfl, -, -⟩ := FI.out.n k hlt
        obtain ⟨-, -, c0⟩ := (FI.out.below HL.out).n k hlt
        obtain ⟨hx0, hx1⟩ := HZI.out _ (List.getElem_mem hlt)
        have hprev : 0 < k → ∃ y, wr.cell? ⟨gi, k - 1, none⟩ = some (.int .i64 y) ∧ y < Z[k] := fun h0 => by
          obtain ⟨-, -, d0⟩ := (FI.out.below HL.out).n (k - 1) (by omega)
          exact ⟨_, by simpa using d0, List.pairwise_iff_getElem.1 HZU.out (k - 1) k (Nat.lt_of_le_of_lt (Nat.sub_le _ _) hlt) hlt (Nat.sub_lt h0 Nat.one_pos)⟩
        obtain ⟨K, hK⟩ : ∃ K, Z[k] = K := ⟨_, rfl⟩
        rw [hK] at c0 hx0 hx1 hprev
        simp only [Nat.zero_add] at c0
        have HPR := Lib.hid hprev
        clear hK hprev
        have i0' : (0 : Int) ≤ (k : Int) := by omega
        have i1' : (k : Int) < (Z.length : Int) := by omega
        have b0 : ¬ (K < 0) := by omega
        have b1 : ¬ ((cs.length : Int) ≤ K) := by omega
        clear CI CS CE CH HZ HZI HZU HB
        by_cases hk0 : k = 0
        · subst hk0
          go_wp2
          refine wp_region_any (by kernel_rfl) ?_
          try change wpAny _ _ _ _ _ _ _ (World.drew _)
          refine wpAny_take (i := 0) (v := ?_) rfl (by kernel_rfl) (by kernel_rfl) (by kernel_rfl) (fun _ _ _ h => h) (Or.inl ⟨by rfl, ?_⟩) ?_
          rotate_left 1
          · (intro w; go_simp)
            all_goals with_reducible rfl
          try go_simp
          refine wpAny_take (i := 1) (v := ?_) rfl (by kernel_rfl) (by kernel_rfl) (by kernel_rfl) (fun _ _ _ h => h) (Or.inl ⟨by rfl, ?_⟩) ?_
          rotate_left 1
          · (intro w; go_simp)
            all_goals with_reducible rfl
          try go_simp
          refine wpAny_take (i := 2) (v := ?_) rfl (by kernel_rfl) (by kernel_rfl) (by kernel_rfl) (fun _ _ _ h => h) (Or.inl ⟨by rfl, ?_⟩) ?_
          rotate_left 1
          · (intro w; go_simp)
            all_goals with_reducible rfl
          try go_simp
          refine wpAny_ready (rs := [3]) (by kernel_rfl) (by simp) ?_
          refine AllReady.cons rfl (fun K hK => ?_) AllReady.nil
          go_simp
          refine hK _ _ ?_
          clear hK K
          refine wpAny_take (i := 4) (v := .bool false) rfl (by kernel_rfl) (by kernel_rfl) (by kernel_rfl) (fun _ _ _ h => h) (Or.inl ⟨by rfl, ?_⟩) ?_
          · (intro w; go_simp)
            all_goals (first | omega | (simp; omega))
          try go_simp
          refine wpAny_take (i := 5) (v := ?_) rfl (by kernel_rfl) (by kernel_rfl) (by kernel_rfl) (fun _ _ _ h => h) (Or.inl ⟨by rfl, ?_⟩) ?_
          rotate_left 1
          · (intro w; go_simp)
            all_goals with_reducible rfl
          try go_simp
          refine wpAny_take (i := 6) (v := ?_) rfl (by kernel_rfl) (by kernel_rfl) (by kernel_rfl) (fun _ _ _ h => h) (Or.inl ⟨by rfl, ?_⟩) ?_
          rotate_left 1
          · (intro w; go_simp)
            all_goals with_reducible rfl
          try go_simp
          refine wpAny_take (i := 7) (v := ?_) rfl (by kernel_rfl) (by kernel_rfl) (by kernel_rfl) (fun _ _ _ h => h) (Or.inl ⟨by rfl, ?_⟩) ?_
          rotate_left 1
          · (intro w; go_simp)
            all_goals with_reducible rfl
          try go_simp
          refine wpAny_take (i := 8) (v := ?_) rfl (by kernel_rfl) (by kernel_rfl) (by kernel_rfl) (fun _ _ _ h => h) (Or.inl ⟨by rfl, ?_⟩) ?_
          rotate_left 1
          · (intro w; go_simp)
            all_goals with_reducible rfl
          try go_simp
          refine wpAny_take (i := 10) (v := ?_) rfl (by kernel_rfl) (by kernel_rfl) (by kernel_rfl) (fun _ _ _ h => h) (Or.inl ⟨by rfl, ?_⟩) ?_
          rotate_left 1
          · (intro w; go_simp)
            all_goals with_reducible rfl
          try go_simp
          refine wpAny_take (i := 11) (v := ?_) rfl (by kernel_rfl) (by kernel_rfl) (by kernel_rfl) (fun _ _ _ h => h) (Or.inl ⟨by rfl, ?_⟩) ?_
          rotate_left 1
          · (intro w; go_simp)
            all_goals with_reducible rfl
          try go_simp
          refine wpAny_ready (rs := [9]) (by kernel_rfl) (by simp) ?_
          refine AllReady.cons rfl (fun K hK => ?_) AllReady.nil
          go_simp
          refine hK _ _ ?_
          clear hK K
          refine wpAny_take (i := 12) (v := .bool false) rfl (by kernel_rfl) (by kernel_rfl) (by kernel_rfl) (fun _ _ _ h => h) (Or.inl ⟨by rfl, ?_⟩) ?_
          · (intro w; go_simp)
            all_goals (first | omega | (simp; omega))
          try go_simp
          refine wpAny_take (i := 13) (v := ?_) rfl (by kernel_rfl) (by kernel_rfl) (by kernel_rfl) (fun _ _ _ h => h) (Or.inl ⟨by rfl, ?_⟩) ?_
          rotate_left 1
          · (intro w; go_simp)
            all_goals with_reducible rfl
          try go_simp
          refine wpAny_take (i := 14) (v := ?_) rfl (by kernel_rfl) (by kernel_rfl) (by kernel_rfl) (fun _ _ _ h => h) (Or.inl ⟨by rfl, ?_⟩) ?_
          rotate_left 1
          · (intro w; go_simp)
            all_goals with_reducible rfl
          try go_simp
          refine wpAny_take (i := 15) (v := ?_) rfl (by kernel_rfl) (by kernel_rfl) (by kernel_rfl) (fun _ _ _ h => h) (Or.inl ⟨by rfl, ?_⟩) ?_
          rotate_left 1
          · (intro w; go_simp)
            all_goals with_reducible rfl
          try go_simp
          refine wpAny_take (i := 16) (v := .bool false) rfl (by kernel_rfl) (by kernel_rfl) (by kernel_rfl) (fun _ _ _ h => h) (Or.inl ⟨by rfl, ?_⟩) ?_
          · (intro w; go_simp)
            all_goals (first | omega | (simp; omega))
          try go_simp
          refine wpAny_take (i := 17) (v := ?_) rfl (by kernel_rfl) (by kernel_rfl) (by kernel_rfl) (fun _ _ _ h => h) (Or.inl ⟨by rfl, ?_⟩) ?_
          rotate_left 1
          · (intro w; go_simp)
            all_goals with_reducible rfl
          try go_simp
          refine wpAny_take (i := 18) (v := undef) rfl (by kernel_rfl) (by kernel_rfl) (by kernel_rfl) (fun _ _ _ h => h) (Or.inr ⟨by rfl, rfl⟩) ?_
          try go_simp
          refine wpAny_take (i := 19) (v := undef) rfl (by kernel_rfl) (by kernel_rfl) (by kernel_rfl) (fun _ _ _ h => h) (Or.inr ⟨by rfl, rfl⟩) ?_
          try go_simp
          refine wpAny_take (i := 20) (v := undef) rfl (by kernel_rfl) (by kernel_rfl) (by kernel_rfl) (fun _ _ _ h => h) (Or.inr ⟨by rfl, rfl⟩) ?_
          try go_simp
          refine wpAny_take (i := 21) (v := undef) rfl (by kernel_rfl) (by kernel_rfl) (by kernel_rfl) (fun _ _ _ h => h) (Or.inr ⟨by rfl, rfl⟩) ?_
          try go_simp
          refine wpAny_take (i := 22) (v := undef) rfl (by kernel_rfl) (by kernel_rfl) (by kernel_rfl) (fun _ _ _ h => h) (Or.inr ⟨by rfl, rfl⟩) ?_
          try go_simp
          refine wpAny_take (i := 23) (v := undef) rfl (by kernel_rfl) (by kernel_rfl) (by kernel_rfl) (fun _ _ _ h => h) (Or.inr ⟨by rfl, rfl⟩) ?_
          try go_simp
          refine wpAny_take (i := 24) (v := undef) rfl (by kernel_rfl) (by kernel_rfl) (by kernel_rfl) (fun _ _ _ h => h) (Or.inr ⟨by rfl, rfl⟩) ?_
          try go_simp
          refine wpAny_take (i := 25) (v := undef) rfl (by kernel_rfl) (by kernel_rfl) (by kernel_rfl) (fun _ _ _ h => h) (Or.inr ⟨by rfl, rfl⟩) ?_
          try go_simp
          refine wpAny_take (i := 26) (v := undef) rfl (by kernel_rfl) (by kernel_rfl) (by kernel_rfl) (fun _ _ _ h => h) (Or.inr ⟨by rfl, rfl⟩) ?_
          try go_simp
          refine wpAny_take (i := 27) (v := undef) rfl (by kernel_rfl) (by kernel_rfl) (by kernel_rfl) (fun _ _ _ h => h) (Or.inr ⟨by rfl, rfl⟩) ?_
          try go_simp
          refine wpAny_take (i := 28) (v := ?_) rfl (by kernel_rfl) (by kernel_rfl) (by kernel_rfl) (fun _ _ _ h => h) (Or.inl ⟨by rfl, ?_⟩) ?_
          rotate_left 1
          · (intro w; go_simp)
            all_goals with_reducible rfl
          try go_simp
          refine wpAny_take (i := 29) (v := ?_) rfl (by kernel_rfl) (by kernel_rfl) (by kernel_rfl) (fun _ _ _ h => h) (Or.inl ⟨by rfl, ?_⟩) ?_
          rotate_left 1
          · (intro w; go_simp)
            all_goals with_reducible rfl
          try go_simp
          refine wpAny_done (by kernel_rfl) ?_ _
          all_goals go_wp2
          all_goals exact ⟨⟨1, by omega, by rfl, HL.out.drew⟩, by simp [intOf]; omega⟩
        · obtain ⟨y, d0, hy⟩ := HPR.out (by omega)
          have hw : IntKind.i64.wrap ((k : Int) - 1) = ((k - 1 : Nat) : Int) := (IntWalk.i64_in _ (by omega)).trans (by omega)
          have j0' : (0 : Int) ≤ ((k - 1 : Nat) : Int) := by omega
          have j1' : ((k - 1 : Nat) : Int) < (Z.length : Int) := by omega
          have j2' : (0 : Int) < (k : Int) := by omega
          have b2 : ¬ (K ≤ y) := by omega
          go_wp2
          refine wp_region_any (by kernel_rfl) ?_
          try change wpAny _ _ _ _ _ _ _ (World.drew _)
          refine wpAny_take (i := 0) (v := ?_) rfl (by kernel_rfl) (by kernel_rfl) (by kernel_rfl) (fun _ _ _ h => h) (Or.inl ⟨by rfl, ?_⟩) ?_
          rotate_left 1
          · (intro w; go_simp)
            all_goals with_reducible rfl
          try go_simp
          refine wpAny_take (i := 1) (v := ?_) rfl (by kernel_rfl) (by kernel_rfl) (by kernel_rfl) (fun _ _ _ h => h) (Or.inl ⟨by rfl, ?_⟩) ?_
          rotate_left 1
          · (intro w; go_simp)
            all_goals with_reducible rfl
          try go_simp
          refine wpAny_take (i := 2) (v := ?_) rfl (by kernel_rfl) (by kernel_rfl) (by kernel_rfl) (fun _ _ _ h => h) (Or.inl ⟨by rfl, ?_⟩) ?_
          rotate_left 1
          · (intro w; go_simp)
            all_goals with_reducible rfl
          try go_simp
          refine wpAny_ready (rs := [3]) (by kernel_rfl) (by simp) ?_
          refine AllReady.cons rfl (fun K hK => ?_) AllReady.nil
          go_simp
          refine hK _ _ ?_
          clear hK K
          refine wpAny_take (i := 4) (v := .bool false) rfl (by kernel_rfl) (by kernel_rfl) (by kernel_rfl) (fun _ _ _ h => h) (Or.inl ⟨by rfl, ?_⟩) ?_
          · (intro w; go_simp)
            all_goals (first | omega | (simp; omega))
          try go_simp
          refine wpAny_take (i := 5) (v := ?_) rfl (by kernel_rfl) (by kernel_rfl) (by kernel_rfl) (fun _ _ _ h => h) (Or.inl ⟨by rfl, ?_⟩) ?_
          rotate_left 1
          · (intro w; go_simp)
            all_goals with_reducible rfl
          try go_simp
          refine wpAny_take (i := 6) (v := ?_) rfl (by kernel_rfl) (by kernel_rfl) (by kernel_rfl) (fun _ _ _ h => h) (Or.inl ⟨by rfl, ?_⟩) ?_
          rotate_left 1
          · (intro w; go_simp)
            all_goals with_reducible rfl
          try go_simp
          refine wpAny_take (i := 7) (v := ?_) rfl (by kernel_rfl) (by kernel_rfl) (by kernel_rfl) (fun _ _ _ h => h) (Or.inl ⟨by rfl, ?_⟩) ?_
          rotate_left 1
          · (intro w; go_simp)
            all_goals with_reducible rfl
          try go_simp
          refine wpAny_take (i := 8) (v := ?_) rfl (by kernel_rfl) (by kernel_rfl) (by kernel_rfl) (fun _ _ _ h => h) (Or.inl ⟨by rfl, ?_⟩) ?_
          rotate_left 1
          · (intro w; go_simp)
            all_goals with_reducible rfl
          try go_simp
          refine wpAny_take (i := 10) (v := ?_) rfl (by kernel_rfl) (by kernel_rfl) (by kernel_rfl) (fun _ _ _ h => h) (Or.inl ⟨by rfl, ?_⟩) ?_
          rotate_left 1
          · (intro w; go_simp)
            all_goals with_reducible rfl
          try go_simp
          refine wpAny_take (i := 11) (v := ?_) rfl (by kernel_rfl) (by kernel_rfl) (by kernel_rfl) (fun _ _ _ h => h) (Or.inl ⟨by rfl, ?_⟩) ?_
          rotate_left 1
          · (intro w; go_simp)
            all_goals with_reducible rfl
          try go_simp
          refine wpAny_ready (rs := [9]) (by kernel_rfl) (by simp) ?_
          refine AllReady.cons rfl (fun K hK => ?_) AllReady.nil
          go_simp
          refine hK _ _ ?_
          clear hK K
          refine wpAny_take (i := 12) (v := .bool false) rfl (by kernel_rfl) (by kernel_rfl) (by kernel_rfl) (fun _ _ _ h => h) (Or.inl ⟨by rfl, ?_⟩) ?_
          · (intro w; go_simp)
            all_goals (first | omega | (simp; omega))
          try go_simp
          refine wpAny_take (i := 13) (v := ?_) rfl (by kernel_rfl) (by kernel_rfl) (by kernel_rfl) (fun _ _ _ h => h) (Or.inl ⟨by rfl, ?_⟩) ?_
          rotate_left 1
          · (intro w; go_simp)
            all_goals with_reducible rfl
          try go_simp
          refine wpAny_take (i := 14) (v := ?_) rfl (by kernel_rfl) (by kernel_rfl) (by kernel_rfl) (fun _ _ _ h => h) (Or.inl ⟨by rfl, ?_⟩) ?_
          rotate_left 1
          · (intro w; go_simp)
            all_goals with_reducible rfl
          try go_simp
          refine wpAny_take (i := 15) (v := ?_) rfl (by kernel_rfl) (by kernel_rfl) (by kernel_rfl) (fun _ _ _ h => h) (Or.inl ⟨by rfl, ?_⟩) ?_
          rotate_left 1
          · (intro w; go_simp)
            all_goals with_reducible rfl
          try go_simp
          refine wpAny_take (i := 16) (v := .bool true) rfl (by kernel_rfl) (by kernel_rfl) (by kernel_rfl) (fun _ _ _ h => h) (Or.inl ⟨by rfl, ?_⟩) ?_
          · (intro w; go_simp)
            all_goals (first | omega | (simp; omega))
          try go_simp
          refine wpAny_take (i := 17) (v := ?_) rfl (by kernel_rfl) (by kernel_rfl) (by kernel_rfl) (fun _ _ _ h => h) (Or.inl ⟨by rfl, ?_⟩) ?_
          rotate_left 1
          · (intro w; go_simp)
            all_goals with_reducible rfl
          try go_simp
          refine wpAny_take (i := 18) (v := ?_) rfl (by kernel_rfl) (by kernel_rfl) (by kernel_rfl) (fun _ _ _ h => h) (Or.inl ⟨by rfl, ?_⟩) ?_
          rotate_left 1
          · (intro w; go_simp)
            all_goals with_reducible rfl
          try go_simp
          refine wpAny_take (i := 19) (v := ?_) rfl (by kernel_rfl) (by kernel_rfl) (by kernel_rfl) (fun _ _ _ h => h) (Or.inl ⟨by rfl, ?_⟩) ?_
          rotate_left 1
          · (intro w; go_simp)
            all_goals with_reducible rfl
          try go_simp
          refine wpAny_take (i := 20) (v := ?_) rfl (by kernel_rfl) (by kernel_rfl) (by kernel_rfl) (fun _ _ _ h => h) (Or.inl ⟨by rfl, ?_⟩) ?_
          rotate_left 1
          · (intro w; go_simp)
            all_goals with_reducible rfl
          try go_simp
          refine wpAny_take (i := 21) (v := ?_) rfl (by kernel_rfl) (by kernel_rfl) (by kernel_rfl) (fun _ _ _ h => h) (Or.inl ⟨by rfl, ?_⟩) ?_
          rotate_left 1
          · (intro w; go_simp)
            all_goals with_reducible rfl
          try go_simp
          refine wpAny_take (i := 23) (v := ?_) rfl (by kernel_rfl) (by kernel_rfl) (by kernel_rfl) (fun _ _ _ h => h) (Or.inl ⟨by rfl, ?_⟩) ?_
          rotate_left 1
          · (intro w; go_simp)
            all_goals with_reducible rfl
          try go_simp
          refine wpAny_take (i := 24) (v := ?_) rfl (by kernel_rfl) (by kernel_rfl) (by kernel_rfl) (fun _ _ _ h => h) (Or.inl ⟨by rfl, ?_⟩) ?_
          rotate_left 1
          · (intro w; go_simp)
            all_goals with_reducible rfl
          try go_simp
          refine wpAny_take (i := 25) (v := ?_) rfl (by kernel_rfl) (by kernel_rfl) (by kernel_rfl) (fun _ _ _ h => h) (Or.inl ⟨by rfl, ?_⟩) ?_
          rotate_left 1
          · (intro w; go_simp)
            all_goals with_reducible rfl
          try go_simp
          refine wpAny_ready (rs := [22, 26]) (by kernel_rfl) (by simp) ?_
          refine AllReady.cons rfl (fun K hK => ?_) (AllReady.cons rfl (fun K hK => ?_) AllReady.nil)
          · go_simp
            refine hK _ _ ?_
            clear hK K
            refine wpAny_ready (rs := [26]) (by kernel_rfl) (by simp) ?_
            refine AllReady.cons rfl (fun K hK => ?_) AllReady.nil
            go_simp
            refine hK _ _ ?_
            clear hK K
            refine wpAny_take (i := 27) (v := .bool false) rfl (by kernel_rfl) (by kernel_rfl) (by kernel_rfl) (fun _ _ _ h => h) (Or.inl ⟨by rfl, ?_⟩) ?_
            · (intro w; go_simp)
              all_goals (first | omega | (simp; omega))
            try go_simp
            refine wpAny_take (i := 28) (v := ?_) rfl (by kernel_rfl) (by kernel_rfl) (by kernel_rfl) (fun _ _ _ h => h) (Or.inl ⟨by rfl, ?_⟩) ?_
            rotate_left 1
            · (intro w; go_simp)
              all_goals with_reducible rfl
            try go_simp
            refine wpAny_take (i := 29) (v := ?_) rfl (by kernel_rfl) (by kernel_rfl) (by kernel_rfl) (fun _ _ _ h => h) (Or.inl ⟨by rfl, ?_⟩) ?_
            rotate_left 1
            · (intro w; go_simp)
              all_goals with_reducible rfl
            try go_simp
            refine wpAny_done (by kernel_rfl) ?_ _
            all_goals go_wp2
            all_goals exact ⟨⟨k + 1, by omega, by go_num, HL.out.drew⟩, by simp [intOf]; omega⟩
          · go_simp
            refine hK _ _ ?_
            clear hK K
            refine wpAny_ready (rs := [22]) (by kernel_rfl) (by simp) ?_
            refine AllReady.cons rfl (fun K hK => ?_) AllReady.nil
            go_simp
            refine hK _ _ ?_
            clear hK K
            refine wpAny_take (i := 27) (v := .bool false) rfl (by kernel_rfl) (by kernel_rfl) (by kernel_rfl) (fun _ _ _ h => h) (Or.inl ⟨by rfl, ?_⟩) ?_
            · (intro w; go_simp)
              all_goals (first | omega | (simp; omega))
            try go_simp
            refine wpAny_take (i := 28) (v := ?_) rfl (by kernel_rfl) (by kernel_rfl) (by kernel_rfl) (fun _ _ _ h => h) (Or.inl ⟨by rfl, ?_⟩) ?_
            rotate_left 1
            · (intro w; go_simp)
              all_goals with_reducible rfl
            try go_simp
            refine wpAny_take (i := 29) (v := ?_) rfl (by kernel_rfl) (by kernel_rfl) (by kernel_rfl) (fun _ _ _ h => h) (Or.inl ⟨by rfl, ?_⟩) ?_
            rotate_left 1
            · (intro w; go_simp)
              all_goals with_reducible rfl
            try go_simp
            refine wpAny_done (by kernel_rfl) ?_ _
            all_goals go_wp2
            all_goals exact ⟨⟨k + 1, by omega, by go_num, HL.out.drew⟩, by simp [intOf]; omega⟩
      · obtain rfl : k = Z.length := by omega
        go_wp2
        have hzr := HL.out.size
        have hfc := FC.out.below HL.out
        have GC := Lib.hid hfc
        have GI := Lib.hid (FI.out.below HL.out)
        have GP := Lib.hid (FP.out.below HL.out)
        have HBr := Lib.hid (HB.out.trans (HL.out.mono HB.out.size))
        clear HB HL FC FI FP hfc CI CS CE HZI HZU
        have hgC1 : gc < wr.heap.size := by omega
        obtain ⟨wL, hwL⟩ : ∃ x, x = wr := ⟨_, rfl⟩
        subst hwL
        go_loopw [7, 8, 9, 10] (fun ax bx kx _ wq => ∃ (k ga ca gb cb : Nat), k ≤ cs.length ∧ kx = .int .i64 k ∧ ax = .slice (some ⟨ga, 0, none⟩) k ca ∧ bx = .slice (some ⟨gb, 0, none⟩) k cb ∧ ¬ (ga = gb) ∧ Hid (wq.ownsRow wL.heap.size 34 3 (.slice (some ⟨ga, 0, none⟩) k ca) k (flatV (rowA cs k))) ∧ Hid (wq.ownsRow wL.heap.size 34 3 (.slice (some ⟨gb, 0, none⟩) k cb) k (flatV (rowB2 cs ps k))) ∧ Hid (Below wL.heap.size wL wq)) (fun _ _ kx _ _ => cs.length - (intOf kx).toNat)
        case atStart => exact ⟨0, _, _, _, _, by omega, rfl, rfl, rfl, by omega, (own_empty3 34 3 rfl (Nat.le_refl _)).alloc _, own_empty3 34 3 (by simp) (by omega), ((Below.refl _ _).alloc (Nat.le_refl _) _).alloc (by simp) _⟩
        case round =>
          obtain ⟨k, ga, ca, gb, cb, hk, rfl, rfl, rfl, hab, OA, OB, HL⟩ := hrel
          by_cases hlt : k < cs.length
          · obtain ⟨-, -, c0, -⟩ := (GC.out.below HL.out).cl k hlt
            have hcol := colAt_nat hlt
            obtain ⟨C, hC⟩ : ∃ C, cs[k].1 = C := ⟨_, rfl⟩
            rw [hC] at c0 hcol
            simp only [Nat.zero_add] at c0
            have HCO := Lib.hid hcol
            clear hC hcol
            have i0' : (0 : Int) ≤ (k : Int) := by omega
            have i1' : (k : Int) < (cs.length : Int) := by omega
            have hga := (own_cap OA.out).2.1
            have hgb := (own_cap OB.out).2.1
            have hga0 := (own_cap OA.out).1
            have hgb0 := (own_cap OB.out).1
            have hsz := HL.out.size
            have hgC2 : gc < wr.heap.size := by omega
            have hgC3 : gc < wr.heap.size := by omega
            by_cases hz : (k : Int) ∈ Z
            · have CK := Lib.hid (fun W (hA : Fl W gi 0 Ai (Z.map iv)) => (by have := CH.out W Ai gi ci (k : Int) hA; rw [decide_eq_true hz] at this; exact this : Calls Try.prog 19 #[.slice Ai Z.length ci, .int .i64 (k : Int)] W fun e w' => e = .returned (.bool true) ∧ Below W.heap.size W w'))
              by_cases hC2 : C = 2
              · subst hC2
                have hC' : oneN 2 = 0 := rfl
                have HSA : Hid (flatV (rowA cs k) ++ [.int .i64 2, .int .i64 0, .string ⟨#[]⟩] = flatV (rowA cs (k + 1))) := by show _ = _; rw [rowA_snoc, HCO.out, hC', flat_one]
                have HSB : Hid (flatV (rowB2 cs ps k) ++ [.int .i64 2, .int .i64 0, .string ⟨#[]⟩] = flatV (rowB2 cs ps (k + 1))) := by show _ = _; rw [rowB2_snoc, HCO.out, HZ.out, if_pos hz, hC', flat_one]
                clear hC'
                go_wp2_with (first
                  | (at_builtin; refine wpList_append_block _ rfl (.tmp 85) (.tmp 87) 30 rfl wL.heap.size 34 j0 (.agg #[.int .i64 0, .int .i64 0, .string ⟨#[]⟩]) 3 32 Try.underlying30 hj jz0 jz1 jz2 rfl (by decide) ga k ca (flatV (rowA cs k)) rfl ((OA.out.alloc _).alloc _) _ 1 1 [.int .i64 2, .int .i64 0, .string ⟨#[]⟩] rfl rfl (news_new (by first | rfl | simp)) (by simp [Value.oneCell']) (by unfold maxLen; omega) (by omega) (by first | omega | (simp; done) | (simp; omega)) ?_; intro gn cn wa hown hgr hfr; rw [HSA.out] at hown; have hs0 := hgr.size; simp only [World.size_alloc] at hs0 hfr; have HQ := Lib.hid (BoxC.grown (BoxC.alloc (BoxC.new wr 2 0 ⟨#[]⟩ _) _) hgr (by omega)); have K0 := Lib.hid (own_grown ((OB.out.alloc _).alloc _) hgr (fun e => hab (Option.some.inj e))); have K1 := Lib.hid (Below.grown ((HL.out.alloc hsz _).alloc (by first | omega | (simp; done) | (simp; omega)) _) hgr (by first | omega | (simp; done) | (simp; omega)) (fun k hk => by have := Option.some.inj hk; omega)); clear OA OB HL; have OA := Lib.hid hown; have OB := K0; have HL := K1; have hgn := (own_cap hown).2.1; have hab2 : ¬ (gn = gb) := (by rcases hfr with h | h <;> omega); have hgv : ¬ (gn = wr.heap.size) := (by rcases hfr with h | h <;> omega); clear K0 K1 hown hgr hfr)
                  | (go_at_call 19; (with_reducible refine (CK.out _ (GI.out.below HL.out)).mono ?_); rintro e w5 ⟨rfl, hb1⟩; have K0 := Lib.hid (own_below OA.out hb1); have K1 := Lib.hid (own_below OB.out hb1); have K2 := Lib.hid (BoxC.below HQ.out hb1); have K3 := Lib.hid (HL.out.trans (hb1.mono HL.out.size)); have hs1 := hb1.size; clear OA OB HQ HL hb1; have OA := K0; have OB := K1; have HQ := K2; have HL := K3; clear K0 K1 K2 K3; obtain ⟨q0, q1, q2, q3, q4⟩ := HQ.out; have hgb5 := (own_cap OB.out).2.1; have hgn5 := (own_cap OA.out).2.1)
                  | (at_builtin; refine wpList_append_block _ rfl (.tmp 94) (.tmp 96) 30 rfl wL.heap.size 34 j0 (.agg #[.int .i64 0, .int .i64 0, .string ⟨#[]⟩]) 3 32 Try.underlying30 hj jz0 jz1 jz2 rfl (by decide) gb k cb (flatV (rowB2 cs ps k)) rfl (OB.out.alloc _) _ 1 1 [.int .i64 2, .int .i64 0, .string ⟨#[]⟩] rfl rfl (news_new rfl) (by simp [Value.oneCell']) (by unfold maxLen; omega) (by omega) (Nat.le_trans HL.out.size (by simp)) ?_; intro gm cm wb hown hgr hfr; have HOWN := Lib.hid hown; have HGR := Lib.hid hgr; have HFR := Lib.hid hfr; clear hown hgr hfr))
                all_goals (have K0 := Lib.hid (own_grown (OA.out.alloc _) HGR.out (fun e => hab2 (Option.some.inj e).symm)))
                all_goals (have K1 := Lib.hid (Below.grown (HL.out.alloc HL.out.size _) HGR.out (Nat.le_trans HL.out.size (by simp)) (fun k hk => by have := Option.some.inj hk; omega)))
                all_goals (have hfr := HFR.out; have hown := HOWN.out; rw [HSB.out] at hown)
                all_goals (have hab3 : ¬ (gn = gm) := (by simp [World.setCell] at hfr; rcases hfr with h | h <;> omega))
                all_goals exact ⟨⟨k + 1, gn, cn, gm, cm, by omega, by go_num, rfl, rfl, hab3, K0.out, hown, K1.out⟩, by simp [intOf]; omega⟩
              · skip
                have hC' : oneN C = 1 := by unfold oneN; rw [if_neg hC2]
                have HSA : Hid (flatV (rowA cs k) ++ [.int .i64 C, .int .i64 1, .string ⟨#[]⟩] = flatV (rowA cs (k + 1))) := by show _ = _; rw [rowA_snoc, HCO.out, hC', flat_one]
                have HSB : Hid (flatV (rowB2 cs ps k) ++ [.int .i64 C, .int .i64 1, .string ⟨#[]⟩] = flatV (rowB2 cs ps (k + 1))) := by show _ = _; rw [rowB2_snoc, HCO.out, HZ.out, if_pos hz, hC', flat_one]
                clear hC'
                go_wp2_with (first
                  | (at_builtin; refine wpList_append_block _ rfl (.tmp 85) (.tmp 87) 30 rfl wL.heap.size 34 j0 (.agg #[.int .i64 0, .int .i64 0, .string ⟨#[]⟩]) 3 32 Try.underlying30 hj jz0 jz1 jz2 rfl (by decide) ga k ca (flatV (rowA cs k)) rfl ((OA.out.alloc _).alloc _) _ 1 1 [.int .i64 C, .int .i64 1, .string ⟨#[]⟩] rfl rfl (news_new (by first | rfl | simp)) (by simp [Value.oneCell']) (by unfold maxLen; omega) (by omega) (by first | omega | (simp; done) | (simp; omega)) ?_; intro gn cn wa hown hgr hfr; rw [HSA.out] at hown; have hs0 := hgr.size; simp only [World.size_alloc] at hs0 hfr; have HQ := Lib.hid (BoxC.grown (BoxC.alloc (BoxC.new wr C 1 ⟨#[]⟩ _) _) hgr (by omega)); have K0 := Lib.hid (own_grown ((OB.out.alloc _).alloc _) hgr (fun e => hab (Option.some.inj e))); have K1 := Lib.hid (Below.grown ((HL.out.alloc hsz _).alloc (by first | omega | (simp; done) | (simp; omega)) _) hgr (by first | omega | (simp; done) | (simp; omega)) (fun k hk => by have := Option.some.inj hk; omega)); clear OA OB HL; have OA := Lib.hid hown; have OB := K0; have HL := K1; have hgn := (own_cap hown).2.1; have hab2 : ¬ (gn = gb) := (by rcases hfr with h | h <;> omega); have hgv : ¬ (gn = wr.heap.size) := (by rcases hfr with h | h <;> omega); clear K0 K1 hown hgr hfr)
                  | (go_at_call 19; (with_reducible refine (CK.out _ (GI.out.below HL.out)).mono ?_); rintro e w5 ⟨rfl, hb1⟩; have K0 := Lib.hid (own_below OA.out hb1); have K1 := Lib.hid (own_below OB.out hb1); have K2 := Lib.hid (BoxC.below HQ.out hb1); have K3 := Lib.hid (HL.out.trans (hb1.mono HL.out.size)); have hs1 := hb1.size; clear OA OB HQ HL hb1; have OA := K0; have OB := K1; have HQ := K2; have HL := K3; clear K0 K1 K2 K3; obtain ⟨q0, q1, q2, q3, q4⟩ := HQ.out; have hgb5 := (own_cap OB.out).2.1; have hgn5 := (own_cap OA.out).2.1)
                  | (at_builtin; refine wpList_append_block _ rfl (.tmp 94) (.tmp 96) 30 rfl wL.heap.size 34 j0 (.agg #[.int .i64 0, .int .i64 0, .string ⟨#[]⟩]) 3 32 Try.underlying30 hj jz0 jz1 jz2 rfl (by decide) gb k cb (flatV (rowB2 cs ps k)) rfl (OB.out.alloc _) _ 1 1 [.int .i64 C, .int .i64 1, .string ⟨#[]⟩] rfl rfl (news_new rfl) (by simp [Value.oneCell']) (by unfold maxLen; omega) (by omega) (Nat.le_trans HL.out.size (by simp)) ?_; intro gm cm wb hown hgr hfr; have HOWN := Lib.hid hown; have HGR := Lib.hid hgr; have HFR := Lib.hid hfr; clear hown hgr hfr))
                all_goals (have K0 := Lib.hid (own_grown (OA.out.alloc _) HGR.out (fun e => hab2 (Option.some.inj e).symm)))
                all_goals (have K1 := Lib.hid (Below.grown (HL.out.alloc HL.out.size _) HGR.out (Nat.le_trans HL.out.size (by simp)) (fun k hk => by have := Option.some.inj hk; omega)))
                all_goals (have hfr := HFR.out; have hown := HOWN.out; rw [HSB.out] at hown)
                all_goals (have hab3 : ¬ (gn = gm) := (by simp [World.setCell] at hfr; rcases hfr with h | h <;> omega))
                all_goals exact ⟨⟨k + 1, gn, cn, gm, cm, by omega, by go_num, rfl, rfl, hab3, K0.out, hown, K1.out⟩, by simp [intOf]; omega⟩
            · have CK := Lib.hid (fun W (hA : Fl W gi 0 Ai (Z.map iv)) => (by have := CH.out W Ai gi ci (k : Int) hA; rw [decide_eq_false hz] at this; exact this : Calls Try.prog 19 #[.slice Ai Z.length ci, .int .i64 (k : Int)] W fun e w' => e = .returned (.bool false) ∧ Below W.heap.size W w'))
              by_cases hC2 : C = 2
              · subst hC2
                have hC' : oneN 2 = 0 := rfl
                have HSA : Hid (flatV (rowA cs k) ++ [.int .i64 2, .int .i64 0, .string ⟨#[]⟩] = flatV (rowA cs (k + 1))) := by show _ = _; rw [rowA_snoc, HCO.out, hC', flat_one]
                have HSB : Hid (flatV (rowB2 cs ps k) ++ [.int .i64 2, .int .i64 0, .string ⟨#[]⟩] = flatV (rowB2 cs ps (k + 1))) := by show _ = _; rw [rowB2_snoc, HCO.out, HZ.out, if_neg hz, flat_one]
                clear hC'
                go_wp2_with (first
                  | (at_builtin; refine wpList_append_block _ rfl (.tmp 85) (.tmp 87) 30 rfl wL.heap.size 34 j0 (.agg #[.int .i64 0, .int .i64 0, .string ⟨#[]⟩]) 3 32 Try.underlying30 hj jz0 jz1 jz2 rfl (by decide) ga k ca (flatV (rowA cs k)) rfl ((OA.out.alloc _).alloc _) _ 1 1 [.int .i64 2, .int .i64 0, .string ⟨#[]⟩] rfl rfl (news_new (by first | rfl | simp)) (by simp [Value.oneCell']) (by unfold maxLen; omega) (by omega) (by first | omega | (simp; done) | (simp; omega)) ?_; intro gn cn wa hown hgr hfr; rw [HSA.out] at hown; have hs0 := hgr.size; simp only [World.size_alloc] at hs0 hfr; have HQ := Lib.hid (BoxC.grown (BoxC.alloc (BoxC.new wr 2 0 ⟨#[]⟩ _) _) hgr (by omega)); have K0 := Lib.hid (own_grown ((OB.out.alloc _).alloc _) hgr (fun e => hab (Option.some.inj e))); have K1 := Lib.hid (Below.grown ((HL.out.alloc hsz _).alloc (by first | omega | (simp; done) | (simp; omega)) _) hgr (by first | omega | (simp; done) | (simp; omega)) (fun k hk => by have := Option.some.inj hk; omega)); clear OA OB HL; have OA := Lib.hid hown; have OB := K0; have HL := K1; have hgn := (own_cap hown).2.1; have hab2 : ¬ (gn = gb) := (by rcases hfr with h | h <;> omega); have hgv : ¬ (gn = wr.heap.size) := (by rcases hfr with h | h <;> omega); clear K0 K1 hown hgr hfr)
                  | (go_at_call 19; (with_reducible refine (CK.out _ (GI.out.below HL.out)).mono ?_); rintro e w5 ⟨rfl, hb1⟩; have K0 := Lib.hid (own_below OA.out hb1); have K1 := Lib.hid (own_below OB.out hb1); have K2 := Lib.hid (BoxC.below HQ.out hb1); have K3 := Lib.hid (HL.out.trans (hb1.mono HL.out.size)); have hs1 := hb1.size; clear OA OB HQ HL hb1; have OA := K0; have OB := K1; have HQ := K2; have HL := K3; clear K0 K1 K2 K3; obtain ⟨q0, q1, q2, q3, q4⟩ := HQ.out; have hgb5 := (own_cap OB.out).2.1; have hgn5 := (own_cap OA.out).2.1)
                  | (at_builtin; refine wpList_append_block _ rfl (.tmp 94) (.tmp 96) 30 rfl wL.heap.size 34 j0 (.agg #[.int .i64 0, .int .i64 0, .string ⟨#[]⟩]) 3 32 Try.underlying30 hj jz0 jz1 jz2 rfl (by decide) gb k cb (flatV (rowB2 cs ps k)) rfl (World.ownsRow.alloc (ownsRow_setCell_other OB.out (by first | (simp [Value.ownBlock]; done) | (simp [Value.ownBlock]; omega)) _) _) _ 1 1 [.int .i64 2, .int .i64 0, .string ⟨#[]⟩] rfl rfl (news_new (W := (w5.setCell ⟨wr.heap.size, 1, none⟩ (.int .i64 0))) (X := w5.heap.size) (by simp [World.setCell])) (by simp [Value.oneCell']) (by unfold maxLen; omega) (by omega) (Nat.le_trans HL.out.size (by simp [World.setCell])) ?_; intro gm cm wb hown hgr hfr; have HOWN := Lib.hid hown; have HGR := Lib.hid hgr; have HFR := Lib.hid hfr; clear hown hgr hfr))
                all_goals (have K0 := Lib.hid (own_grown (World.ownsRow.alloc (ownsRow_setCell_other OA.out (by first | (simp [Value.ownBlock]; done) | (simp [Value.ownBlock]; omega)) _) _) HGR.out (fun e => hab2 (Option.some.inj e).symm)))
                all_goals (have K1 := Lib.hid (Below.grown ((HL.out.setCell (by simp only; omega) _).alloc (Nat.le_trans HL.out.size (by simp [World.setCell])) _) HGR.out (Nat.le_trans HL.out.size (by simp [World.setCell])) (fun k hk => by have := Option.some.inj hk; omega)))
                all_goals (have hfr := HFR.out; have hown := HOWN.out; rw [HSB.out] at hown)
                all_goals (have hab3 : ¬ (gn = gm) := (by simp [World.setCell] at hfr; rcases hfr with h | h <;> omega))
                all_goals exact ⟨⟨k + 1, gn, cn, gm, cm, by omega, by go_num, rfl, rfl, hab3, K0.out, hown, K1.out⟩, by simp [intOf]; omega⟩
              · skip
                have hC' : oneN C = 1 := by unfold oneN; rw [if_neg hC2]
                have HSA : Hid (flatV (rowA cs k) ++ [.int .i64 C, .int .i64 1, .string ⟨#[]⟩] = flatV (rowA cs (k + 1))) := by show _ = _; rw [rowA_snoc, HCO.out, hC', flat_one]
                have HSB : Hid (flatV (rowB2 cs ps k) ++ [.int .i64 C, .int .i64 0, .string ⟨#[]⟩] = flatV (rowB2 cs ps (k + 1))) := by show _ = _; rw [rowB2_snoc, HCO.out, HZ.out, if_neg hz, flat_one]
                clear hC'
                go_wp2_with (first
                  | (at_builtin; refine wpList_append_block _ rfl (.tmp 85) (.tmp 87) 30 rfl wL.heap.size 34 j0 (.agg #[.int .i64 0, .int .i64 0, .string ⟨#[]⟩]) 3 32 Try.underlying30 hj jz0 jz1 jz2 rfl (by decide) ga k ca (flatV (rowA cs k)) rfl ((OA.out.alloc _).alloc _) _ 1 1 [.int .i64 C, .int .i64 1, .string ⟨#[]⟩] rfl rfl (news_new (by first | rfl | simp)) (by simp [Value.oneCell']) (by unfold maxLen; omega) (by omega) (by first | omega | (simp; done) | (simp; omega)) ?_; intro gn cn wa hown hgr hfr; rw [HSA.out] at hown; have hs0 := hgr.size; simp only [World.size_alloc] at hs0 hfr; have HQ := Lib.hid (BoxC.grown (BoxC.alloc (BoxC.new wr C 1 ⟨#[]⟩ _) _) hgr (by omega)); have K0 := Lib.hid (own_grown ((OB.out.alloc _).alloc _) hgr (fun e => hab (Option.some.inj e))); have K1 := Lib.hid (Below.grown ((HL.out.alloc hsz _).alloc (by first | omega | (simp; done) | (simp; omega)) _) hgr (by first | omega | (simp; done) | (simp; omega)) (fun k hk => by have := Option.some.inj hk; omega)); clear OA OB HL; have OA := Lib.hid hown; have OB := K0; have HL := K1; have hgn := (own_cap hown).2.1; have hab2 : ¬ (gn = gb) := (by rcases hfr with h | h <;> omega); have hgv : ¬ (gn = wr.heap.size) := (by rcases hfr with h | h <;> omega); clear K0 K1 hown hgr hfr)
                  | (go_at_call 19; (with_reducible refine (CK.out _ (GI.out.below HL.out)).mono ?_); rintro e w5 ⟨rfl, hb1⟩; have K0 := Lib.hid (own_below OA.out hb1); have K1 := Lib.hid (own_below OB.out hb1); have K2 := Lib.hid (BoxC.below HQ.out hb1); have K3 := Lib.hid (HL.out.trans (hb1.mono HL.out.size)); have hs1 := hb1.size; clear OA OB HQ HL hb1; have OA := K0; have OB := K1; have HQ := K2; have HL := K3; clear K0 K1 K2 K3; obtain ⟨q0, q1, q2, q3, q4⟩ := HQ.out; have hgb5 := (own_cap OB.out).2.1; have hgn5 := (own_cap OA.out).2.1)
                  | (at_builtin; refine wpList_append_block _ rfl (.tmp 94) (.tmp 96) 30 rfl wL.heap.size 34 j0 (.agg #[.int .i64 0, .int .i64 0, .string ⟨#[]⟩]) 3 32 Try.underlying30 hj jz0 jz1 jz2 rfl (by decide) gb k cb (flatV (rowB2 cs ps k)) rfl (World.ownsRow.alloc (ownsRow_setCell_other OB.out (by first | (simp [Value.ownBlock]; done) | (simp [Value.ownBlock]; omega)) _) _) _ 1 1 [.int .i64 C, .int .i64 0, .string ⟨#[]⟩] rfl rfl (news_new (W := (w5.setCell ⟨wr.heap.size, 1, none⟩ (.int .i64 0))) (X := w5.heap.size) (by simp [World.setCell])) (by simp [Value.oneCell']) (by unfold maxLen; omega) (by omega) (Nat.le_trans HL.out.size (by simp [World.setCell])) ?_; intro gm cm wb hown hgr hfr; have HOWN := Lib.hid hown; have HGR := Lib.hid hgr; have HFR := Lib.hid hfr; clear hown hgr hfr))
                all_goals (have K0 := Lib.hid (own_grown (World.ownsRow.alloc (ownsRow_setCell_other OA.out (by first | (simp [Value.ownBlock]; done) | (simp [Value.ownBlock]; omega)) _) _) HGR.out (fun e => hab2 (Option.some.inj e).symm)))
                all_goals (have K1 := Lib.hid (Below.grown ((HL.out.setCell (by simp only; omega) _).alloc (Nat.le_trans HL.out.size (by simp [World.setCell])) _) HGR.out (Nat.le_trans HL.out.size (by simp [World.setCell])) (fun k hk => by have := Option.some.inj hk; omega)))
                all_goals (have hfr := HFR.out; have hown := HOWN.out; rw [HSB.out] at hown)
                all_goals (have hab3 : ¬ (gn = gm) := (by simp [World.setCell] at hfr; rcases hfr with h | h <;> omega))
                all_goals exact ⟨⟨k + 1, gn, cn, gm, cm, by omega, by go_num, rfl, rfl, hab3, K0.out, hown, K1.out⟩, by simp [intOf]; omega⟩
          · obtain rfl : k = cs.length := by omega
            have hsame := rows_same cs ps
            have FA := Lib.hid (fl_sliceP OA.out)
            have FB := Lib.hid (fl_sliceP OB.out)
            have VA := Lib.hid (fun W hA hR hE => exprValueI (some ⟨gc, 0, none⟩) (some ⟨ga, 0, none⟩) (some ⟨gp, 0, none⟩) gc 0 cc ga 0 ca gp 0 cp cs (rowA cs cs.length) ps W hA hR hE (by omega) (by rw [rowA_len]; omega) (by omega) (rowA_texts cs cs.length).short HTP.out.short)
            have VB := Lib.hid (fun W hA hR hE => exprValueI (some ⟨gc, 0, none⟩) (some ⟨gb, 0, none⟩) (some ⟨gp, 0, none⟩) gc 0 cc gb 0 cb gp 0 cp cs (rowB2 cs ps cs.length) ps W hA hR hE (by omega) (by rw [rowB2_len]; omega) (by omega) (rowB2_texts cs ps cs.length).short HTP.out.short)
            rw [rowA_len, hsame] at VA
            rw [rowB2_len] at VB
            obtain ⟨X, hX⟩ : ∃ X, xvalI cs (rowB2 cs ps cs.length) ps = X := ⟨_, rfl⟩
            rw [hX] at VA VB
            obtain ⟨x, n, s⟩ := X
            unfold aggV at VA VB
            have HC := Lib.hid (GC.out.below HL.out)
            have HP := Lib.hid (GP.out.below HL.out)
            have HB := Lib.hid (HBr.out.trans (HL.out.mono HBr.out.size))
            clear hX hsame OA OB GC GP GI HBr HL
            go_wp2_with (first
              | ((have _ := S3); (fail_if_success (have _ := S4)); go_at_call 20; (with_reducible refine (VA.out _ HC.out FA.out HP.out).mono ?_); rintro e wn3 ⟨rfl, hb1⟩; have HBn : Hid (Below w.heap.size w wn3) := Below.trans (by repeat (with_reducible first | exact HB.out | refine Below.alloc ?_ (by first | omega | (have := HB.out.size; omega) | (have := HB.out.size; simp; omega)) _ | apply Below.drew)) (Below.mono hb1 (by have := HB.out.size; first | omega | (simp; omega))); have K0 := Lib.hid (Fl.below (by (repeat (with_reducible first | exact HC.out | apply Fl.alloc | apply Fl.drew))) hb1); clear HC; have HC := K0; clear K0; have K0 := Lib.hid (Fl.below (by (repeat (with_reducible first | exact HP.out | apply Fl.alloc | apply Fl.drew))) hb1); clear HP; have HP := K0; clear K0; have K0 := Lib.hid (Fl.below (by (repeat (with_reducible first | exact FB.out | apply Fl.alloc | apply Fl.drew))) hb1); clear FB; have FB := K0; clear K0; clear HB; have HB := HBn; clear HBn; clear hb1; have S4 := True.intro)
              | ((have _ := S4); (fail_if_success (have _ := S5)); go_at_call 20; (with_reducible refine (VB.out _ HC.out FB.out HP.out).mono ?_); rintro e wn4 ⟨rfl, hb1⟩; have HBn : Hid (Below w.heap.size w wn4) := Below.trans (by repeat (with_reducible first | exact HB.out | refine Below.alloc ?_ (by first | omega | (have := HB.out.size; omega) | (have := HB.out.size; simp; omega)) _ | apply Below.drew)) (Below.mono hb1 (by have := HB.out.size; first | omega | (simp; omega))); clear HB; have HB := HBn; clear HBn; clear hb1; have S5 := True.intro)
              | ((have _ := S5); (fail_if_success (have _ := S6)); go_at_call 21; (with_reducible refine (alive _).mono ?_); rintro e wn5 ⟨rfl, hb1⟩; have HBn : Hid (Below w.heap.size w wn5) := Below.trans (by repeat (with_reducible first | exact HB.out | refine Below.alloc ?_ (by first | omega | (have := HB.out.size; omega) | (have := HB.out.size; simp; omega)) _ | apply Below.drew)) (Below.mono hb1 (by have := HB.out.size; first | omega | (simp; omega))); clear HB; have HB := HBn; clear HBn; clear hb1; have S6 := True.intro))
            all_goals (go_ret; exact ⟨retB (by first | rfl | simp), HB.out⟩)
end Go.Proofs.Ytcddkleglmbfgaa.Val
