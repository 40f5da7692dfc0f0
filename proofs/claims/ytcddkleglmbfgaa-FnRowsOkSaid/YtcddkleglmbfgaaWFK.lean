/- The walk of the law FnRowsOk. -/
import Derived.Test.YtcddkleglmbfgaaLSame
import Derived.Test.YtcddkleglmbfgaaDrawBg
import Derived.Test.YtcddkleglmbfgaaRSame
import Derived.Test.YtcddkleglmbfgaaAlive
namespace Go.Proofs.Ytcddkleglmbfgaa.Val
open Go.RowKit
set_option linter.unusedVariables false
set_option maxRecDepth 8000
theorem append_guardedB {P : Program} (w : World) {ops : Array Oper} {rest : List Oper} {o : Oper} {a : Act} {Q : Exit → Act → World → Prop} (hw : Region.wanted o (yielded ops a.tmps) = true) (s x : Operand) (t : TypeId)
    (ho : o.op = .call { callee := .builtin .append, args := #[s, x], argTypes := #[t, t] })
    (base : Nat) (e : TypeId) (i : TypeInfo) (z : Value) (size bytes : Nat) (ht : P.underlying t = some (.slice e)) (hi : P.info? e = some i) (hz : i.zero = some z)
    (hsize : i.size = size) (hby : i.bytes = bytes) (hzs : z.cells.size = size) (hsz : 0 < size)
    (g n cap : Nat) (xs : List Value) (hs : a.eval s = .slice (some ⟨g, 0, none⟩) n cap) (hown : w.ownsRow base e size (.slice (some ⟨g, 0, none⟩) n cap) n xs)
    (ad : Addr) (m c : Nat) (news : List Value) (hx : a.eval x = .slice (some ad) m c) (hl : news.length = m * size) (hnews : ∀ j u, news[j]? = some u → w.cell? (ad.add j) = some u) (h1 : ∀ u ∈ news, u.oneCell' = true)
    (h63 : n + m ≤ maxLen) (hbytes : (n + m) * bytes ≤ 140737488355328) (hbase : base ≤ w.heap.size)
    (h : ∀ g' cap' w', w'.ownsRow base e size (.slice (some ⟨g', 0, none⟩) (n + m) cap') (n + m) (xs ++ news) → w.grownBy w' (some g) → (g' = g ∨ w.heap.size ≤ g') → wpList P ops Q rest (a.put o.dst (.slice (some ⟨g', 0, none⟩) (n + m) cap')) w') : wpList P ops Q (o :: rest) a w :=
  wpList_step fun K hK => by
    rw [if_pos hw]
    obtain ⟨g', cap', w', hr, h2, h3, h4⟩ := run_append_block (P := P) w base t o.type e i z size bytes ht hi hz hsize hby hzs hsz g n cap xs hown ad m c news hl hnews h1 h63 hbytes hbase
    unfold Oper.wp execOp
    simp only [ho, resolve, invoke, builtin, Sem.run_bind, Sem.run_pure, Result.andThen_ok, List.map_toArray, List.map_cons, List.map_nil, hs, hx, hr]
    exact hK _ _ (h g' cap' w' h2 h3 h4)
theorem columnsOkB (A : Option Addr) (g c : Nat) (cs : List CT) (w : World) (h : Fl w g 0 A (flatC cs)) (hl : cs.length ≤ 2000000) : Calls Try.prog 25 #[.slice A cs.length c] w fun e w' => e = .returned (.bool (colB cs)) ∧ Below w.heap.size w w' := by
  refine (columnsOkI A g 0 c cs w h hl).mono ?_
  rintro e w' ⟨rfl, rfl⟩
  exact ⟨rfl, Below.refl _ _⟩
theorem rowsB_cons (cs : List CT) (r : RT) (t : List RT) : rowsB cs (r :: t) = (fitB cs r && rowsB cs t) := by
  unfold rowsB fitB
  cases colB cs <;> simp
theorem news_one {W : World} {g : Nat} {D : List Value} (h : ∀ j u, D[j]? = some u → W.cell? ((⟨g, 0 + 1, none⟩ : Addr).add j) = some u) (h0 : D.length = 0) : ∀ j u, D[j]? = some u → W.cell? ((⟨g, 0, none⟩ : Addr).add j) = some u := by
  intro j u hu
  rw [List.eq_nil_of_length_eq_zero h0] at hu
  simp at hu
set_option maxHeartbeats 4000000 in
theorem walk_FnRowsOk (a : Option Addr) (len cap : Nat) (zs : List Int) (w0 : World) (h : IsRow .u8 w0 a len cap zs) :
    Calls Try.prog 4 #[.slice a len cap] w0 fun e w' => e = .returned (.bool true) ∧ Below w0.heap.size w0 w' := by
  by_cases hl : 1048576 < len
  · clear h
    go_enter Try.func4, Try.ntmps4
    go_wp2
    go_ret
    exact ⟨rfl, Below.refl _ _⟩
  · have HI := Lib.hid h
    clear h
    obtain ⟨i0, hi, iz0, iz1, iz2⟩ := info_parts infoVS
    go_enter Try.func4, Try.ntmps4
    go_wp2_with (go_at_call 22; (with_reducible refine (drawRowsOk _ _ _ zs _ HI.out).mono ?_); rintro e w ⟨gc, cc, g, c, cs, ls, rfl, hc6, hfc, hv, hbd⟩; have VC := Lib.hid hfc; have VR := Lib.hid hv.1; have SM := Lib.hid hv.2.1; have hcap := hv.2.2.1; have HB0 := Lib.hid hbd; clear hv hbd hfc)
    have S0 := True.intro
    have HB := Lib.hid (Below.refl w.heap.size w)
    have OK := Lib.hid SM.out.ok
    have CI := Lib.hid (fun W g g' A B c c' hA hB => rowsOkI A B g 0 g' 0 c c' cs ls W hA hB (by omega) OK.out)
    have CS := Lib.hid (fun W g g' A B c c' hA hB => rowsOkS A B g 0 g' 0 c c' cs ls W hA hB (by omega) OK.out)
    rcases ls with _ | ⟨r, t⟩
    · have CC := Lib.hid (fun W A g c hw => columnsOkB A g c cs W hw (by omega))
      have hx : rowsB cs [] = colB cs := by simp [rowsB]
      rw [hx] at CI CS
      obtain ⟨X, hX⟩ : ∃ X, colB cs = X := ⟨_, rfl⟩
      rw [hX] at CI CS CC
      clear hX hx
      simp only [List.length_nil] at CI CS ⊢
      cases X
      all_goals go_wp2_with (first
        | ((have _ := S0); (fail_if_success (have _ := S1)); go_at_call 23; (with_reducible refine (CI.out _ _ _ _ _ _ _ VC.out VR.out).mono ?_); rintro e wn0 ⟨rfl, hb1⟩; have HBn : Hid (Below w.heap.size w wn0) := Below.trans (by repeat (with_reducible first | exact HB.out | refine Below.alloc ?_ (by first | omega | (have := HB.out.size; omega) | (have := HB.out.size; simp; omega)) _ | apply Below.drew)) (Below.mono hb1 (by have := HB.out.size; first | omega | (simp; omega))); have K0 := Lib.hid (Fl.below (by (repeat (with_reducible first | exact VC.out | apply Fl.alloc | apply Fl.drew))) hb1); clear VC; have VC := K0; clear K0; have K0 := Lib.hid (by first | exact VR.out.below hb1 | exact (VR.out.alloc _).below hb1 | exact ((VR.out.alloc _).alloc _).below hb1 | exact (VR.out.drew).below hb1); clear VR; have VR := K0; clear K0; clear HB; have HB := HBn; clear HBn; clear hb1; have S1 := True.intro)
        | ((have _ := S1); (fail_if_success (have _ := S2)); go_at_call 24; (with_reducible refine (CS.out _ _ _ _ _ _ _ VC.out VR.out).mono ?_); rintro e wn1 ⟨rfl, hb1⟩; have HBn : Hid (Below w.heap.size w wn1) := Below.trans (by repeat (with_reducible first | exact HB.out | refine Below.alloc ?_ (by first | omega | (have := HB.out.size; omega) | (have := HB.out.size; simp; omega)) _ | apply Below.drew)) (Below.mono hb1 (by have := HB.out.size; first | omega | (simp; omega))); have K0 := Lib.hid (Fl.below (by (repeat (with_reducible first | exact VC.out | apply Fl.alloc | apply Fl.drew))) hb1); clear VC; have VC := K0; clear K0; clear HB; have HB := HBn; clear HBn; clear hb1; have S2 := True.intro)
        | ((have _ := S2); (fail_if_success (have _ := S3)); go_at_call 25; (with_reducible refine (CC.out _ _ _ _ VC.out).mono ?_); rintro e wn2 ⟨rfl, hb1⟩; have HBn : Hid (Below w.heap.size w wn2) := Below.trans (by repeat (with_reducible first | exact HB.out | refine Below.alloc ?_ (by first | omega | (have := HB.out.size; omega) | (have := HB.out.size; simp; omega)) _ | apply Below.drew)) (Below.mono hb1 (by have := HB.out.size; first | omega | (simp; omega))); clear HB; have HB := HBn; clear HBn; clear hb1; have S3 := True.intro)
        | ((have _ := S3); (fail_if_success (have _ := S4)); go_at_call 21; (with_reducible refine (alive _).mono ?_); rintro e wn3 ⟨rfl, hb1⟩; have HBn : Hid (Below w.heap.size w wn3) := Below.trans (by repeat (with_reducible first | exact HB.out | refine Below.alloc ?_ (by first | omega | (have := HB.out.size; omega) | (have := HB.out.size; simp; omega)) _ | apply Below.drew)) (Below.mono hb1 (by have := HB.out.size; first | omega | (simp; omega))); clear HB; have HB := HBn; clear HBn; clear hb1; have S4 := True.intro))
      all_goals (go_ret; exact ⟨retB (by first | rfl | simp), HB0.out.trans (HB.out.mono HB0.out.size)⟩)
    · have hx := rowsB_cons cs r t
      rw [hx] at CI CS
      have OKT : Ok2 t := OK.out.sub (by have := OK.out.1; simp at this; omega) (fun x hx => List.mem_cons_of_mem _ hx)
      obtain ⟨hrl, hrs⟩ := OK.out.2 r (by simp)
      obtain ⟨D, hD, hDc, hD1⟩ := (VR.out.drop 1).heads
      simp only [List.drop_succ_cons, List.drop_zero] at hD
      obtain ⟨-, hg0, c1, g1, o1, hc1, hf1⟩ := VR.out.at 0 (by simp)
      simp only [List.getElem_cons_zero, Nat.zero_add] at hc1 hf1
      have CF := Lib.hid (fun W A gA cA hA hB => rowFitsI A (some ⟨g1, o1, none⟩) gA 0 g1 o1 cA c1 cs r W hA hB (by omega) hrl hrs)
      have CJ := Lib.hid (fun W g g' A B c c' hA hB => rowsOkI A B g 0 g' 0 c c' cs t W hA hB (by omega) OKT)
      obtain ⟨tl, htl⟩ : ∃ n, t.length = n := ⟨_, rfl⟩
      have hdl := hD.1
      have ht6 : tl + 1 ≤ 6 := by have := SM.out.1; simp at this; omega
      rw [htl] at CJ hdl
      have hll : (r :: t).length = tl + 1 := by simp [htl]
      rw [hll] at CI CS hcap ⊢
      obtain ⟨rl, hrl2⟩ : ∃ n, r.length = n := ⟨_, rfl⟩
      rw [hrl2] at CF hc1
      obtain ⟨F, hF⟩ : ∃ X, fitB cs r = X := ⟨_, rfl⟩
      obtain ⟨Y, hY⟩ : ∃ X, rowsB cs t = X := ⟨_, rfl⟩
      rw [hF] at CI CS CF
      rw [hY] at CI CS CJ
      have HD := Lib.hid hD
      have HDC := Lib.hid hDc
      have HD1 := Lib.hid hD1
      have HDL := Lib.hid hdl
      have HTL := Lib.hid htl
      have HF1 := Lib.hid hf1
      have HC1 := Lib.hid hc1
      have hz : ¬ ((tl : Int) + 1 = 0) := by omega
      have k1 : (1 : Int) ≤ (tl : Int) + 1 := by omega
      have k2 : (0 : Int) < (tl : Int) + 1 := by omega
      have k3 : (tl : Int) + 1 ≤ (c : Int) := by omega
      clear hF hY hrl2 hll htl hD hDc hD1 hdl hf1 hrs OKT hx hc1
      cases F
      · cases Y
        all_goals simp only [Bool.false_and] at CI CS
        all_goals go_wp2_with (first
          | ((have _ := S0); (fail_if_success (have _ := S1)); go_at_call 23; (with_reducible refine (CI.out _ _ _ _ _ _ _ VC.out VR.out).mono ?_); rintro e wn0 ⟨rfl, hb1⟩; have HBn : Hid (Below w.heap.size w wn0) := Below.trans (by repeat (with_reducible first | exact HB.out | refine Below.alloc ?_ (by first | omega | (have := HB.out.size; omega) | (have := HB.out.size; simp; omega)) _ | apply Below.drew)) (Below.mono hb1 (by have := HB.out.size; first | omega | (simp; omega))); have K0 := Lib.hid (Fl.below (by (repeat (with_reducible first | exact VC.out | apply Fl.alloc | apply Fl.drew))) hb1); clear VC; have VC := K0; clear K0; have K0 := Lib.hid (by first | exact VR.out.below hb1 | exact (VR.out.alloc _).below hb1 | exact ((VR.out.alloc _).alloc _).below hb1 | exact (VR.out.drew).below hb1); clear VR; have VR := K0; clear K0; clear HB; have HB := HBn; clear HBn; clear hb1; have S1 := True.intro)
          | ((have _ := S1); (fail_if_success (have _ := S2)); go_at_call 24; (with_reducible refine (CS.out _ _ _ _ _ _ _ VC.out VR.out).mono ?_); rintro e wn1 ⟨rfl, hb1⟩; have HBn : Hid (Below w.heap.size w wn1) := Below.trans (by repeat (with_reducible first | exact HB.out | refine Below.alloc ?_ (by first | omega | (have := HB.out.size; omega) | (have := HB.out.size; simp; omega)) _ | apply Below.drew)) (Below.mono hb1 (by have := HB.out.size; first | omega | (simp; omega))); have K0 := Lib.hid (Fl.below (by (repeat (with_reducible first | exact VC.out | apply Fl.alloc | apply Fl.drew))) hb1); clear VC; have VC := K0; clear K0; clear HB; have HB := HBn; clear HBn; have hc2 := (HB.out.cell (p := ⟨g, 0, none⟩) hg0).trans HC1.out; clear hb1; have S2 := True.intro)
          | ((have _ := S2); (fail_if_success (have _ := S3)); go_at_call 26; (with_reducible refine (CF.out _ _ _ _ VC.out (HF1.out.below HB.out)).mono ?_); rintro e wn2 ⟨rfl, hb1⟩; have HBn : Hid (Below w.heap.size w wn2) := Below.trans (by repeat (with_reducible first | exact HB.out | refine Below.alloc ?_ (by first | omega | (have := HB.out.size; omega) | (have := HB.out.size; simp; omega)) _ | apply Below.drew)) (Below.mono hb1 (by have := HB.out.size; first | omega | (simp; omega))); clear HB; have HB := HBn; clear HBn; clear hb1; have S3 := True.intro)
          | ((have _ := S3); (fail_if_success (have _ := S4)); go_at_call 21; (with_reducible refine (alive _).mono ?_); rintro e wn3 ⟨rfl, hb1⟩; have HBn : Hid (Below w.heap.size w wn3) := Below.trans (by repeat (with_reducible first | exact HB.out | refine Below.alloc ?_ (by first | omega | (have := HB.out.size; omega) | (have := HB.out.size; simp; omega)) _ | apply Below.drew)) (Below.mono hb1 (by have := HB.out.size; first | omega | (simp; omega))); clear HB; have HB := HBn; clear HBn; clear hb1; have S4 := True.intro))
        all_goals (go_ret; exact ⟨retB (by first | rfl | simp), HB0.out.trans (HB.out.mono HB0.out.size)⟩)
      · simp only [Bool.true_and] at CI CS
        by_cases hcc : c = 1
        · subst hcc
          have ht0 : tl = 0 := by omega
          subst ht0
          cases Y
          all_goals go_wp2_with (first
            | ((have _ := S0); (fail_if_success (have _ := S1)); go_at_call 23; (with_reducible refine (CI.out _ _ _ _ _ _ _ VC.out VR.out).mono ?_); rintro e wn0 ⟨rfl, hb1⟩; have HBn : Hid (Below w.heap.size w wn0) := Below.trans (by repeat (with_reducible first | exact HB.out | refine Below.alloc ?_ (by first | omega | (have := HB.out.size; omega) | (have := HB.out.size; simp; omega)) _ | apply Below.drew)) (Below.mono hb1 (by have := HB.out.size; first | omega | (simp; omega))); have K0 := Lib.hid (Fl.below (by (repeat (with_reducible first | exact VC.out | apply Fl.alloc | apply Fl.drew))) hb1); clear VC; have VC := K0; clear K0; have K0 := Lib.hid (by first | exact VR.out.below hb1 | exact (VR.out.alloc _).below hb1 | exact ((VR.out.alloc _).alloc _).below hb1 | exact (VR.out.drew).below hb1); clear VR; have VR := K0; clear K0; clear HB; have HB := HBn; clear HBn; clear hb1; have S1 := True.intro)
            | ((have _ := S1); (fail_if_success (have _ := S2)); go_at_call 24; (with_reducible refine (CS.out _ _ _ _ _ _ _ VC.out VR.out).mono ?_); rintro e wn1 ⟨rfl, hb1⟩; have HBn : Hid (Below w.heap.size w wn1) := Below.trans (by repeat (with_reducible first | exact HB.out | refine Below.alloc ?_ (by first | omega | (have := HB.out.size; omega) | (have := HB.out.size; simp; omega)) _ | apply Below.drew)) (Below.mono hb1 (by have := HB.out.size; first | omega | (simp; omega))); have K0 := Lib.hid (Fl.below (by (repeat (with_reducible first | exact VC.out | apply Fl.alloc | apply Fl.drew))) hb1); clear VC; have VC := K0; clear K0; clear HB; have HB := HBn; clear HBn; have hc2 := (HB.out.cell (p := ⟨g, 0, none⟩) hg0).trans HC1.out; clear hb1; have S2 := True.intro)
            | ((have _ := S2); (fail_if_success (have _ := S3)); go_at_call 26; (with_reducible refine (CF.out _ _ _ _ VC.out (HF1.out.below HB.out)).mono ?_); rintro e wn2 ⟨rfl, hb1⟩; have HBn : Hid (Below w.heap.size w wn2) := Below.trans (by repeat (with_reducible first | exact HB.out | refine Below.alloc ?_ (by first | omega | (have := HB.out.size; omega) | (have := HB.out.size; simp; omega)) _ | apply Below.drew)) (Below.mono hb1 (by have := HB.out.size; first | omega | (simp; omega))); have K0 := Lib.hid (Fl.below (by (repeat (with_reducible first | exact VC.out | apply Fl.alloc | apply Fl.drew))) hb1); clear VC; have VC := K0; clear K0; clear HB; have HB := HBn; clear HBn; clear hb1; have S3 := True.intro)
            | (at_builtin; refine append_guardedB _ (by first | rfl | (simp [Region.wanted, yielded]; done)) (.tmp 40) (.tmp 42) 39 rfl wn2.heap.size 30 i0 (.slice none 0 0) 1 24 Try.underlying39 hi iz0 iz1 iz2 rfl (by decide) wn2.heap.size 0 0 [] rfl (own_empty3 30 1 rfl (Nat.le_refl _)) ⟨g, 0, none⟩ 0 _ D rfl (by have := HDL.out; omega) (news_one (news_keep HDC.out (HB.out.alloc HB.out.size _)) HDL.out) HD1.out (by unfold maxLen; omega) (by omega) (by first | (simp; done) | (simp; omega)) ?_; intro g3 c3 w3 hown hgr hgg; (try simp only [Nat.zero_add, List.nil_append] at hown); have HBB := Lib.hid (Below.grown ((Below.refl wn2.heap.size wn2).alloc (Nat.le_refl _) _) hgr (by simp) (fun k hk => by obtain rfl := Option.some.inj hk; exact Nat.le_refl _)); have VCn := Lib.hid (VC.out.below HBB.out); have HBn := Lib.hid (HB.out.trans (HBB.out.mono HB.out.size)); have RR := Lib.hid (gone_rws HD.out (by rw [HTL.out]; exact hown) HBn.out); clear VC HB hown hgr hgg HBB; have VC := VCn; have HB := HBn; clear VCn HBn)
            | ((have _ := S3); (fail_if_success (have _ := S4)); go_at_call 23; (with_reducible refine (CJ.out _ _ _ _ _ _ _ VC.out RR.out).mono ?_); rintro e wn3 ⟨rfl, hb1⟩; have HBn : Hid (Below w.heap.size w wn3) := Below.trans (by repeat (with_reducible first | exact HB.out | refine Below.alloc ?_ (by first | omega | (have := HB.out.size; omega) | (have := HB.out.size; simp; omega)) _ | apply Below.drew)) (Below.mono hb1 (by have := HB.out.size; first | omega | (simp; omega))); clear HB; have HB := HBn; clear HBn; clear hb1; have S4 := True.intro)
            | ((have _ := S4); (fail_if_success (have _ := S5)); go_at_call 21; (with_reducible refine (alive _).mono ?_); rintro e wn4 ⟨rfl, hb1⟩; have HBn : Hid (Below w.heap.size w wn4) := Below.trans (by repeat (with_reducible first | exact HB.out | refine Below.alloc ?_ (by first | omega | (have := HB.out.size; omega) | (have := HB.out.size; simp; omega)) _ | apply Below.drew)) (Below.mono hb1 (by have := HB.out.size; first | omega | (simp; omega))); clear HB; have HB := HBn; clear HBn; clear hb1; have S5 := True.intro))
          all_goals (go_ret; exact ⟨retB (by first | rfl | simp), HB0.out.trans (HB.out.mono HB0.out.size)⟩)
        · skip
          cases Y
          all_goals go_wp2_with (first
            | ((have _ := S0); (fail_if_success (have _ := S1)); go_at_call 23; (with_reducible refine (CI.out _ _ _ _ _ _ _ VC.out VR.out).mono ?_); rintro e wn0 ⟨rfl, hb1⟩; have HBn : Hid (Below w.heap.size w wn0) := Below.trans (by repeat (with_reducible first | exact HB.out | refine Below.alloc ?_ (by first | omega | (have := HB.out.size; omega) | (have := HB.out.size; simp; omega)) _ | apply Below.drew)) (Below.mono hb1 (by have := HB.out.size; first | omega | (simp; omega))); have K0 := Lib.hid (Fl.below (by (repeat (with_reducible first | exact VC.out | apply Fl.alloc | apply Fl.drew))) hb1); clear VC; have VC := K0; clear K0; have K0 := Lib.hid (by first | exact VR.out.below hb1 | exact (VR.out.alloc _).below hb1 | exact ((VR.out.alloc _).alloc _).below hb1 | exact (VR.out.drew).below hb1); clear VR; have VR := K0; clear K0; clear HB; have HB := HBn; clear HBn; clear hb1; have S1 := True.intro)
            | ((have _ := S1); (fail_if_success (have _ := S2)); go_at_call 24; (with_reducible refine (CS.out _ _ _ _ _ _ _ VC.out VR.out).mono ?_); rintro e wn1 ⟨rfl, hb1⟩; have HBn : Hid (Below w.heap.size w wn1) := Below.trans (by repeat (with_reducible first | exact HB.out | refine Below.alloc ?_ (by first | omega | (have := HB.out.size; omega) | (have := HB.out.size; simp; omega)) _ | apply Below.drew)) (Below.mono hb1 (by have := HB.out.size; first | omega | (simp; omega))); have K0 := Lib.hid (Fl.below (by (repeat (with_reducible first | exact VC.out | apply Fl.alloc | apply Fl.drew))) hb1); clear VC; have VC := K0; clear K0; clear HB; have HB := HBn; clear HBn; have hc2 := (HB.out.cell (p := ⟨g, 0, none⟩) hg0).trans HC1.out; clear hb1; have S2 := True.intro)
            | ((have _ := S2); (fail_if_success (have _ := S3)); go_at_call 26; (with_reducible refine (CF.out _ _ _ _ VC.out (HF1.out.below HB.out)).mono ?_); rintro e wn2 ⟨rfl, hb1⟩; have HBn : Hid (Below w.heap.size w wn2) := Below.trans (by repeat (with_reducible first | exact HB.out | refine Below.alloc ?_ (by first | omega | (have := HB.out.size; omega) | (have := HB.out.size; simp; omega)) _ | apply Below.drew)) (Below.mono hb1 (by have := HB.out.size; first | omega | (simp; omega))); have K0 := Lib.hid (Fl.below (by (repeat (with_reducible first | exact VC.out | apply Fl.alloc | apply Fl.drew))) hb1); clear VC; have VC := K0; clear K0; clear HB; have HB := HBn; clear HBn; clear hb1; have S3 := True.intro)
            | (at_builtin; refine append_guardedB _ (by first | rfl | (simp [Region.wanted, yielded]; done)) (.tmp 40) (.tmp 42) 39 rfl wn2.heap.size 30 i0 (.slice none 0 0) 1 24 Try.underlying39 hi iz0 iz1 iz2 rfl (by decide) wn2.heap.size 0 0 [] rfl (own_empty3 30 1 rfl (Nat.le_refl _)) ⟨g, 0 + 1, none⟩ tl _ D rfl (by have := HDL.out; omega) (news_keep HDC.out (HB.out.alloc HB.out.size _)) HD1.out (by unfold maxLen; omega) (by omega) (by first | (simp; done) | (simp; omega)) ?_; intro g3 c3 w3 hown hgr hgg; (try simp only [Nat.zero_add, List.nil_append] at hown); have HBB := Lib.hid (Below.grown ((Below.refl wn2.heap.size wn2).alloc (Nat.le_refl _) _) hgr (by simp) (fun k hk => by obtain rfl := Option.some.inj hk; exact Nat.le_refl _)); have VCn := Lib.hid (VC.out.below HBB.out); have HBn := Lib.hid (HB.out.trans (HBB.out.mono HB.out.size)); have RR := Lib.hid (gone_rws HD.out (by rw [HTL.out]; exact hown) HBn.out); clear VC HB hown hgr hgg HBB; have VC := VCn; have HB := HBn; clear VCn HBn)
            | ((have _ := S3); (fail_if_success (have _ := S4)); go_at_call 23; (with_reducible refine (CJ.out _ _ _ _ _ _ _ VC.out RR.out).mono ?_); rintro e wn3 ⟨rfl, hb1⟩; have HBn : Hid (Below w.heap.size w wn3) := Below.trans (by repeat (with_reducible first | exact HB.out | refine Below.alloc ?_ (by first | omega | (have := HB.out.size; omega) | (have := HB.out.size; simp; omega)) _ | apply Below.drew)) (Below.mono hb1 (by have := HB.out.size; first | omega | (simp; omega))); clear HB; have HB := HBn; clear HBn; clear hb1; have S4 := True.intro)
            | ((have _ := S4); (fail_if_success (have _ := S5)); go_at_call 21; (with_reducible refine (alive _).mono ?_); rintro e wn4 ⟨rfl, hb1⟩; have HBn : Hid (Below w.heap.size w wn4) := Below.trans (by repeat (with_reducible first | exact HB.out | refine Below.alloc ?_ (by first | omega | (have := HB.out.size; omega) | (have := HB.out.size; simp; omega)) _ | apply Below.drew)) (Below.mono hb1 (by have := HB.out.size; first | omega | (simp; omega))); clear HB; have HB := HBn; clear HBn; clear hb1; have S5 := True.intro))
          all_goals (go_ret; exact ⟨retB (by first | rfl | simp), HB0.out.trans (HB.out.mono HB0.out.size)⟩)
end Go.Proofs.Ytcddkleglmbfgaa.Val
