/- The walk of the law FnPlanTables. -/
import Derived.Test.YtacinjbaebimhaaStpNQ
import Derived.Test.YtacinjbaebimhaaTabNQ
import Derived.Test.YtacinjbaebimhaaDrawAsQ
import Derived.Test.YtacinjbaebimhaaLSmQ
import Derived.Test.YtacinjbaebimhaaColMQ
import Derived.Test.YtacinjbaebimhaaAliveQ
namespace Go.Proofs.Ytacinjbaebimhaa.Val
open Go.RowKit
set_option linter.unusedSimpArgs false
set_option linter.unusedVariables false
set_option maxRecDepth 20000
/-- Tables, only those of a list with their rows. -/
def blkT (l : List Int) (ts : List TB) : List TB := (List.range ts.length).map fun (k : Nat) => ((ts.getD k ([], [])).1, if (k : Int) ∈ l then (ts.getD k ([], [])).2 else [])
theorem blkT_len (l : List Int) (ts : List TB) : (blkT l ts).length = ts.length := by simp [blkT]
theorem blkT_at {l : List Int} {ts : List TB} {k : Nat} (hk : k < ts.length) (h2 : k < (blkT l ts).length) : (blkT l ts)[k]'h2 = (ts[k].1, if (k : Int) ∈ l then ts[k].2 else []) := by
  simp only [blkT, List.getElem_map, List.getElem_range, getD_lt hk]
theorem ok2_nil : Ok2 [] := ⟨Nat.zero_le _, fun r hr => absurd hr (by simp)⟩
theorem blkT_ok {l : List Int} {ts : List TB} (h : OkT ts) : OkT (blkT l ts) := ⟨by rw [blkT_len]; exact h.1, fun t ht => by
  obtain ⟨k, hk, rfl⟩ := List.mem_iff_getElem.1 ht
  have hk2 : k < ts.length := by rw [blkT_len] at hk; exact hk
  rw [blkT_at hk2]
  refine ⟨(h.at k hk2).1, ?_⟩
  simp only
  split
  · exact (h.at k hk2).2
  · exact ok2_nil⟩
theorem blkT_eq {ts : List TB} {ps : List SP} (h : planB ts ps = true) : blkT ((ptabI ts ps).map fun (k : Nat) => (k : Int)) ts = blankT (askedI ts ps) ts := by
  unfold blkT blankT
  refine List.map_congr_left fun k hk => ?_
  have hk2 := List.mem_range.1 hk
  have : ((k : Int) ∈ (ptabI ts ps).map fun (k : Nat) => (k : Int)) ↔ (askedI ts ps).getD k false = true := by
    rw [List.mem_map]
    constructor
    · rintro ⟨j, hj, he⟩
      obtain rfl : j = k := by omega
      rw [ptabI, if_pos h, List.mem_filter] at hj
      exact hj.2
    · intro hx
      exact ⟨k, by rw [ptabI, if_pos h, List.mem_filter]; exact ⟨hk, hx⟩, rfl⟩
  simp only [this]
theorem blk_rows {ts : List TB} {ps : List SP} (h : planB ts ps = true) : prowsI (blkT ((ptabI ts ps).map fun (k : Nat) => (k : Int)) ts) ps = prowsI ts ps := by
  rw [blkT_eq h, prows_blank h]
theorem cellsT_blk {W : World} {t : TB} {A1 A2 : Option Addr} {c1 g1 o1 c2 g2 o2 : Nat} (hf : Fl W g1 o1 A1 (flatC t.1)) (hr : Rws W g2 o2 A2 t.2) (l1 : t.1.length ≤ c1) (l2 : t.2.length ≤ c2) (n1 : Nice A1 c1 g1 o1) (n2 : Nice A2 c2 g2 o2) : CellsT W t [.slice A1 t.1.length c1, .slice A2 t.2.length c2] :=
  ⟨A1, c1, g1, o1, A2, c2, g2, o2, rfl, hf, hr, l1, l2, n1, n2⟩
theorem rws_nil (W : World) : Rws W 0 0 none [] := ⟨fun h => absurd h (by simp), fun j hj => absurd hj (by simp)⟩
set_option maxHeartbeats 8000000 in
theorem walk_FnPlanTables (a : Option Addr) (len cap : Nat) (zs : List Int) (w : World) (h : IsRow .u8 w a len cap zs) :
    Calls Try.prog 5 #[.slice a len cap] w fun e w' => e = .returned (.bool true) ∧ Below w.heap.size w w' := by
  by_cases hl : 1048576 < len
  · clear h
    go_enter Try.func5, Try.ntmps5
    go_wp2
    go_ret
    exact ⟨rfl, Below.refl _ _⟩
  · have HI := Lib.hid h
    clear h
    obtain ⟨j0, hj0, jz0, jz1, jz2⟩ := info_parts infoTW
    go_enter Try.func5, Try.ntmps5
    go_wp2_with (go_at_call 21; (with_reducible refine (drawPlanTables _ _ _ zs _ HI.out).mono ?_); rintro e wd ⟨gt, ct, gp, cp, ts, ps, rfl, htb, hok, hts, hct, hsp, hsf, hpl, hcp, hbd⟩; have TBW := Lib.hid htb; have OKT := Lib.hid hok; have SPW := Lib.hid hsp; have SF := Lib.hid hsf; have HB := Lib.hid hbd; clear htb hok hsp hsf hbd)
    have OKS := Lib.hid (okS_fit (by omega) SF.out)
    have PI := Lib.hid (fun W h1 h2 => planOkI (some ⟨gt, 0, none⟩) (some ⟨gp, 0, none⟩) gt 0 ct gp 0 cp ts ps W h1 OKT.out h2 OKS.out)
    have TI := Lib.hid (fun W h1 h2 => planTablesI (some ⟨gt, 0, none⟩) (some ⟨gp, 0, none⟩) gt 0 ct gp 0 cp ts ps W h1 OKT.out h2 OKS.out)
    have TS := Lib.hid (fun W h1 h2 => planTablesS (some ⟨gt, 0, none⟩) (some ⟨gp, 0, none⟩) gt 0 ct gp 0 cp ts ps W h1 OKT.out h2 OKS.out)
    have PRX := Lib.hid (fun W h1 h2 => (planRowsI (some ⟨gt, 0, none⟩) (some ⟨gp, 0, none⟩) gt 0 ct gp 0 cp ts ps W h1 OKT.out h2 OKS.out).mono fun e w' h => retBagN h)
    obtain ⟨LI, hLI⟩ : ∃ l, (ptabI ts ps).map (fun (k : Nat) => (k : Int)) = l := ⟨_, rfl⟩
    have hLm : (ptabI ts ps).map nv = LI.map iv := by rw [← hLI, List.map_map]; rfl
    have hLl : (ptabI ts ps).length = LI.length := by rw [← hLI, List.length_map]
    have hL3 : LI.length ≤ 3 := by rw [← hLl]; exact ptab_small ts ps
    rw [hLm, hLl] at TI TS
    have OKU := blkT_ok (l := LI) OKT.out
    have hul := blkT_len LI ts
    have UJ := Lib.hid (fun j (hj : j < ts.length) (hj2 : j < (blkT LI ts).length) => blkT_at hj hj2)
    have PRY := Lib.hid (fun W Y cY h1 h2 => (by have h3 := (planRowsI (some ⟨Y, 0, none⟩) (some ⟨gp, 0, none⟩) Y 0 cY gp 0 cp (blkT LI ts) ps W h1 OKU h2 OKS.out).mono fun e w' h => retBagN h; rw [blkT_len] at h3; exact h3 : Calls _ _ _ _ _))
    have hrow : planB ts ps = true → prowsI (blkT LI ts) ps = prowsI ts ps := fun h => by rw [← hLI]; exact blk_rows h
    have hpos : planB ts ps = true → 0 < LI.length := fun h => by rw [← hLl]; exact List.length_pos_iff.2 (ptab_some h)
    have hnul : planB ts ps = false → LI.length = 0 := fun h => by rw [← hLl, ptabI, if_neg (by rw [h]; simp)]; rfl
    obtain ⟨-, -, OX⟩ := prows_small ts ps
    have OXH := Lib.hid OX
    clear OKU OX hLI hLm hLl
    generalize blkT LI ts = us at hul UJ PRY hrow
    generalize prowsI ts ps = rx at hrow PRX OXH
    generalize prowsI us ps = ry at hrow PRY
    have SI := Lib.hid (fun W A B g g' c c' h1 h2 => sameIntsE A B g g' 0 0 c c' LI W h1 h2 (by omega))
    have HIN := Lib.hid (fun W A g c n h => hasInt A g 0 c LI n W h (by omega))
    obtain ⟨ok, hok⟩ : ∃ b, planB ts ps = b := ⟨_, rfl⟩
    rw [hok] at PI hrow hpos hnul
    obtain ⟨m, hm⟩ : ∃ m, ts.length = m := ⟨_, rfl⟩
    have HM := Lib.hid hm
    have HSL := Lib.hid hul
    rw [hm] at hts hct PI TI TS PRX PRY ⊢
    clear hm hul hok
    have HBD := Lib.hid (Below.refl wd.heap.size wd)
    go_upto_region 7 with (first
      | (go_at_call 22; (with_reducible refine (TI.out _ (TBW.out.below HBD.out) (SPW.out.below HBD.out)).mono ?_); rintro e w1 ⟨Al, gl, cl, rfl, hfl, hb⟩; have FL := Lib.hid hfl.fl; have HBn := Lib.hid (HBD.out.trans (hb.mono HBD.out.size)); clear hfl HBD hb; have HBD := HBn; clear HBn)
      | (go_at_call 24; (with_reducible refine (TS.out _ (TBW.out.below HBD.out) (SPW.out.below HBD.out)).mono ?_); rintro e w2 ⟨gm, cm, rfl, hfm, hb⟩; have FLn := Lib.hid (FL.out.below hb); clear FL; have FL := FLn; clear FLn; have FM := Lib.hid hfm.fl; have HBn := Lib.hid (HBD.out.trans (hb.mono HBD.out.size)); clear hfm HBD hb; have HBD := HBn; clear HBn)
      | (go_at_call 23; (with_reducible refine (SI.out _ Al (some ⟨gm, 0, none⟩) gl gm cl cm FL.out FM.out).mono ?_); rintro e w3 ⟨rfl, hb⟩; have FLn := Lib.hid (FL.out.below hb); clear FL; have FL := FLn; clear FLn FM; have HBn := Lib.hid (HBD.out.trans (hb.mono HBD.out.size)); clear HBD hb; have HBD := HBn; clear HBn))
    have TBn := Lib.hid (TBW.out.below HBD.out)
    have SPn := Lib.hid (SPW.out.below HBD.out)
    have HBw := Lib.hid (HB.out.trans (HBD.out.mono HB.out.size))
    clear TBW SPW HB HBD TI TS SI
    have TBW := TBn
    have SPW := SPn
    have HB := HBw
    clear TBn SPn HBw
    obtain ⟨wd, rfl⟩ : ∃ x, x = w3 := ⟨_, rfl⟩
    have HBD := Lib.hid (Below.refl wd.heap.size wd)
    go_wp2
    go_loopw [6, 7] (fun ox kx wr => ∃ (k g c : Nat) (D : List (TB × List Value)), k ≤ m ∧ kx = .int .i64 (k : Int) ∧ ox = .slice (some ⟨g, 0, none⟩) k c ∧ Hid (TabsO wr wd.heap.size g c k us D) ∧ Hid (∀ p ∈ D, CellsT wd p.1 p.2) ∧ Hid (Below wd.heap.size wd wr)) (fun _ kx _ => m - (intOf kx).toNat)
    case atStart => exact ⟨0, _, _, [], by omega, rfl, rfl, TabsO.nil (by first | rfl | simp) (Nat.le_refl _), fun p hp => absurd hp (by simp), HBD.out.alloc HBD.out.size _⟩
    case round =>
      clear HBD
      obtain ⟨k, g, c, D, hkm, rfl, rfl, TO, CD, HBD⟩ := hrel
      have hzd := HBD.out.size
      have hcg := TO.out.caps
      have hlg := TO.out.lo
      by_cases hk : k < m
      · have hk0 : (0 : Int) ≤ (k : Int) := by omega
        have hk1 : (k : Int) < (m : Int) := by omega
        have hkt : k < ts.length := by have := HM.out; omega
        have hku : k < us.length := by rw [HSL.out]; exact hkt
        obtain ⟨-, hgw, A1, c1, g1, o1, A2, c2, g2, o2, e0, e1, f1, r2, l1, l2, n1, n2⟩ := TBW.out.at k hkt
        have htj := UJ.out k hkt hku
        obtain ⟨T, hT⟩ : ∃ t, ts[k]'hkt = t := ⟨_, rfl⟩
        obtain ⟨U, hU⟩ : ∃ t, us[k]'hku = t := ⟨_, rfl⟩
        rw [hT, hU] at htj
        rw [hT] at e0 e1 f1 r2 l1 l2
        have HU := Lib.hid hU
        obtain ⟨tc, tr⟩ := T
        have HT := Lib.hid htj
        simp only at e0 e1 f1 r2 l1 l2
        rw [Nat.zero_add] at e0 e1
        have ef0 := (HBD.out.cell (p := ⟨gt, k * 2, none⟩) hgw).trans e0
        have ef1 := (HBD.out.cell (p := ⟨gt, k * 2 + 1, none⟩) hgw).trans e1
        have F1 := Lib.hid f1
        have R2 := Lib.hid r2
        have N1 := Lib.hid n1
        have N2 := Lib.hid n2
        have hgr0 : gt < wr.heap.size := by omega
        have hgX : ¬ (gt = wr.heap.size) := by omega
        have hgX2 : g ≠ wr.heap.size := by omega
        clear hT hU htj e0 e1 f1 r2 n1 n2
        by_cases hin : (k : Int) ∈ LI
        · have HIN2 := Lib.hid hin
          go_wp2_with (first
            | (go_at_call 25; (with_reducible refine (HIN.out _ Al gl cl (k : Int) (FL.out.below (show Below wd.heap.size wd _ from (by repeat (with_reducible first | exact HBD.out | apply Below.drew | refine Below.alloc ?_ (by first | omega | (simp; done) | (simp; omega)) _))))).mono ?_); rintro e w5 ⟨rfl, hb⟩; rw [decide_eq_true HIN2.out]; have BX := Lib.hid ((BoxT.new (w := wr) (B := wr.heap.size) rfl (Nat.le_refl _) (.slice A1 tc.length c1) (.slice none 0 0)).below hb); have HB5 := Lib.hid (Below.trans ((Below.refl wr.heap.size wr).alloc (Nat.le_refl _) _) (hb.mono (by simp))); have TO1 := Lib.hid (own_keep TO.out.own (HB5.out.block _ hlg.2)); have ef2 := (HB5.out.cell (p := ⟨gt, k * 2, none⟩) hgr0).trans ef0; have ef3 := (HB5.out.cell (p := ⟨gt, k * 2 + 1, none⟩) hgr0).trans ef1; have hz5 := HB5.out.size; have hb5 := BX.out.lo; obtain ⟨⟨x0, x1⟩, y0, y1⟩ := BX.out.facts; clear hb)
            | (at_builtin; refine wpList_append_block _ rfl (.tmp 48) (.tmp 50) 23 rfl wd.heap.size 45 j0 (.agg #[.slice none 0 0, .slice none 0 0]) 2 48 Try.underlying23 hj0 jz0 jz1 jz2 rfl (by decide) g k c (D.flatMap fun p => p.2) rfl (by repeat (with_reducible first | exact TO1.out | apply World.ownsRow.alloc | apply own_drew | refine own_setOff ?_ hgX2)) _ 1 1 [.slice A1 tc.length c1, .slice A2 tr.length c2] rfl rfl (news_new (by first | rfl | simp)) (by simp [Value.oneCell']) (by unfold maxLen; omega) (by omega) (by first | omega | (simp; done) | (simp; omega)) ?_; intro g6 c6 w6 hown hgr hgg; have OW6 := Lib.hid hown; have HG6 := Lib.hid hgr; clear hown hgr hgg))
          have hT2 : U = (tc, tr) := by rw [HT.out, if_pos HIN2.out]
          have HB6 : Below wd.heap.size wd w6 := Below.grown (show Below wd.heap.size wd _ from by repeat (with_reducible first | exact HBD.out.trans (HB5.out.mono hzd) | apply Below.drew | refine Below.alloc ?_ (by first | omega | (simp; done) | (simp; omega)) _ | refine Below.setCell ?_ (by simp only; omega) _)) HG6.out (by first | omega | (simp; done) | (simp; omega)) (fun k hk => by obtain rfl := Option.some.inj hk; exact hlg.1)
          exact ⟨⟨k + 1, g6, c6, D ++ [(U, [.slice A1 tc.length c1, .slice A2 tr.length c2])], by omega, by go_num, rfl, TO.out.push hku HU.out OW6.out, fun p hp => by
            rcases List.mem_append.1 hp with hp | hp
            · exact CD.out p hp
            · obtain rfl := List.mem_singleton.1 hp
              simp only [hT2]
              exact cellsT_blk (t := (tc, tr)) F1.out R2.out l1 l2 N1.out N2.out, HB6⟩, by simp [intOf]; omega⟩
        · have HIN2 := Lib.hid hin
          go_wp2_with (first
            | (go_at_call 25; (with_reducible refine (HIN.out _ Al gl cl (k : Int) (FL.out.below (show Below wd.heap.size wd _ from (by repeat (with_reducible first | exact HBD.out | apply Below.drew | refine Below.alloc ?_ (by first | omega | (simp; done) | (simp; omega)) _))))).mono ?_); rintro e w5 ⟨rfl, hb⟩; rw [decide_eq_false HIN2.out]; have BX := Lib.hid ((BoxT.new (w := wr) (B := wr.heap.size) rfl (Nat.le_refl _) (.slice A1 tc.length c1) (.slice none 0 0)).below hb); have HB5 := Lib.hid (Below.trans ((Below.refl wr.heap.size wr).alloc (Nat.le_refl _) _) (hb.mono (by simp))); have TO1 := Lib.hid (own_keep TO.out.own (HB5.out.block _ hlg.2)); have ef2 := (HB5.out.cell (p := ⟨gt, k * 2, none⟩) hgr0).trans ef0; have ef3 := (HB5.out.cell (p := ⟨gt, k * 2 + 1, none⟩) hgr0).trans ef1; have hz5 := HB5.out.size; have hb5 := BX.out.lo; obtain ⟨⟨x0, x1⟩, y0, y1⟩ := BX.out.facts; clear hb)
            | (at_builtin; refine wpList_append_block _ rfl (.tmp 48) (.tmp 50) 23 rfl wd.heap.size 45 j0 (.agg #[.slice none 0 0, .slice none 0 0]) 2 48 Try.underlying23 hj0 jz0 jz1 jz2 rfl (by decide) g k c (D.flatMap fun p => p.2) rfl (by repeat (with_reducible first | exact TO1.out | apply World.ownsRow.alloc | apply own_drew | refine own_setOff ?_ hgX2)) _ 1 1 [.slice A1 tc.length c1, .slice none 0 0] rfl rfl (news_new (by first | rfl | simp)) (by simp [Value.oneCell']) (by unfold maxLen; omega) (by omega) (by first | omega | (simp; done) | (simp; omega)) ?_; intro g6 c6 w6 hown hgr hgg; have OW6 := Lib.hid hown; have HG6 := Lib.hid hgr; clear hown hgr hgg))
          have hT2 : U = (tc, []) := by rw [HT.out, if_neg HIN2.out]
          have HB6 : Below wd.heap.size wd w6 := Below.grown (show Below wd.heap.size wd _ from by repeat (with_reducible first | exact HBD.out.trans (HB5.out.mono hzd) | apply Below.drew | refine Below.alloc ?_ (by first | omega | (simp; done) | (simp; omega)) _ | refine Below.setCell ?_ (by simp only; omega) _)) HG6.out (by first | omega | (simp; done) | (simp; omega)) (fun k hk => by obtain rfl := Option.some.inj hk; exact hlg.1)
          exact ⟨⟨k + 1, g6, c6, D ++ [(U, [.slice A1 tc.length c1, .slice none 0 0])], by omega, by go_num, rfl, TO.out.push hku HU.out OW6.out, fun p hp => by
            rcases List.mem_append.1 hp with hp | hp
            · exact CD.out p hp
            · obtain rfl := List.mem_singleton.1 hp
              simp only [hT2]
              exact cellsT_blk (t := (tc, [])) F1.out (rws_nil _) l1 (Nat.le_refl _) N1.out (.inr ⟨rfl, rfl⟩), HB6⟩, by simp [intOf]; omega⟩
      · obtain rfl : k = m := by omega
        have TBO := Lib.hid (TO.out.tbs (by rw [HSL.out, HM.out]) (fun p hp => (CD.out p hp).below HBD.out))
        have TBn := Lib.hid (TBW.out.below HBD.out)
        have SPn := Lib.hid (SPW.out.below HBD.out)
        have HBw := Lib.hid (HB.out.trans (HBD.out.mono HB.out.size))
        clear TBW SPW HB HBD TO CD FL
        have TBW := TBn
        have SPW := SPn
        have HB := HBw
        clear TBn SPn HBw
        obtain ⟨wd, rfl⟩ : ∃ x, x = wr := ⟨_, rfl⟩
        have HBD := Lib.hid (Below.refl wd.heap.size wd)
        cases ok with
        | false =>
          have hn0 := hnul rfl
          have hn1 : (LI.length : Int) = 0 := by omega
          go_wp2_with (first
            | (go_at_call 12; (with_reducible refine (PI.out _ (TBW.out.below HBD.out) (SPW.out.below HBD.out)).mono ?_); rintro e w7 ⟨rfl, hb⟩; have HBn := Lib.hid (Below.trans (show Below wd.heap.size wd _ from (by repeat (with_reducible first | exact HBD.out | apply Below.drew | refine Below.alloc ?_ (by have := HBD.out.size; first | omega | (simp; done) | (simp; omega)) _))) (hb.mono (by have := HBD.out.size; first | omega | (simp; done) | (simp; omega)))); clear HBD hb; have HBD := HBn; clear HBn)
            | (go_at_call 14; (with_reducible refine (alive _).mono ?_); rintro e w10 ⟨rfl, hb⟩; have HBn := Lib.hid (Below.trans (show Below wd.heap.size wd _ from (by repeat (with_reducible first | exact HBD.out | apply Below.drew | refine Below.alloc ?_ (by have := HBD.out.size; first | omega | (simp; done) | (simp; omega)) _))) (hb.mono (by have := HBD.out.size; first | omega | (simp; done) | (simp; omega)))); clear HBD hb; have HBD := HBn; clear HBn))
          all_goals go_ret
          all_goals exact ⟨rfl, HB.out.trans (HBD.out.mono HB.out.size)⟩
        | true =>
          have hp0 := hpos rfl
          have hp1 : (0 : Int) < (LI.length : Int) := by omega
          have hr0 := hrow rfl
          subst hr0
          go_wp2_with (first
            | (go_at_call 12; (with_reducible refine (PI.out _ (TBW.out.below HBD.out) (SPW.out.below HBD.out)).mono ?_); rintro e w7 ⟨rfl, hb⟩; have HBn := Lib.hid (Below.trans (show Below wd.heap.size wd _ from (by repeat (with_reducible first | exact HBD.out | apply Below.drew | refine Below.alloc ?_ (by have := HBD.out.size; first | omega | (simp; done) | (simp; omega)) _))) (hb.mono (by have := HBD.out.size; first | omega | (simp; done) | (simp; omega)))); clear HBD hb; have HBD := HBn; clear HBn)
            | (go_at_call 20; (with_reducible refine (PRY.out _ g c (TBO.out.below HBD.out) (SPW.out.below HBD.out)).mono ?_); rintro e w8 ⟨Ax, gx, cx, Tx, rfl, hc, hb⟩; have VX := Lib.hid hc.rws; clear hc; have HBn := Lib.hid (Below.trans (show Below wd.heap.size wd _ from (by repeat (with_reducible first | exact HBD.out | apply Below.drew | refine Below.alloc ?_ (by have := HBD.out.size; first | omega | (simp; done) | (simp; omega)) _))) (hb.mono (by have := HBD.out.size; first | omega | (simp; done) | (simp; omega)))); clear HBD hb; have HBD := HBn; clear HBn)
            | (go_at_call 20; (with_reducible refine (PRX.out _ (TBW.out.below HBD.out) (SPW.out.below HBD.out)).mono ?_); rintro e w9 ⟨Ay, gy, cy, Ty, rfl, hc, hb⟩; have VXn := Lib.hid (VX.out.below hb); clear VX; have VX := VXn; clear VXn; have VY := Lib.hid hc.rws; clear hc; have HBn := Lib.hid (Below.trans (show Below wd.heap.size wd _ from (by repeat (with_reducible first | exact HBD.out | apply Below.drew | refine Below.alloc ?_ (by have := HBD.out.size; first | omega | (simp; done) | (simp; omega)) _))) (hb.mono (by have := HBD.out.size; first | omega | (simp; done) | (simp; omega)))); clear HBD hb; have HBD := HBn; clear HBn)
            | (go_at_call 26; (with_reducible refine (sameRowsL Ax Ay gx gy 0 0 cx cy ry ry _ VX.out VY.out OXH.out OXH.out).mono ?_); rintro e w9 ⟨rfl, hb⟩; rw [decide_eq_true (rfl : ry = ry)]; have HBn := Lib.hid (Below.trans (show Below wd.heap.size wd _ from (by repeat (with_reducible first | exact HBD.out | apply Below.drew | refine Below.alloc ?_ (by have := HBD.out.size; first | omega | (simp; done) | (simp; omega)) _))) (hb.mono (by have := HBD.out.size; first | omega | (simp; done) | (simp; omega)))); clear HBD hb; have HBD := HBn; clear HBn)
            | (go_at_call 14; (with_reducible refine (alive _).mono ?_); rintro e w10 ⟨rfl, hb⟩; have HBn := Lib.hid (Below.trans (show Below wd.heap.size wd _ from (by repeat (with_reducible first | exact HBD.out | apply Below.drew | refine Below.alloc ?_ (by have := HBD.out.size; first | omega | (simp; done) | (simp; omega)) _))) (hb.mono (by have := HBD.out.size; first | omega | (simp; done) | (simp; omega)))); clear HBD hb; have HBD := HBn; clear HBn))
          all_goals go_ret
          all_goals exact ⟨rfl, HB.out.trans (HBD.out.mono HB.out.size)⟩
end Go.Proofs.Ytacinjbaebimhaa.Val
