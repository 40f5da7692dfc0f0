/- The walk of the law FnWholeOrder. -/
import Derived.Test.YtacinjbaebimhaaStpNQ
import Derived.Test.YtacinjbaebimhaaDrawShQ
import Derived.Test.YtacinjbaebimhaaLSmQ
import Derived.Test.YtacinjbaebimhaaPMath3Q
import Derived.Test.YtacinjbaebimhaaAliveQ
import Derived.Test.YtacinjbaebimhaaTabNQ
import Derived.Deep.RegionHeldLaw
namespace Go.Proofs.Ytacinjbaebimhaa.Val
open Go.RowKit
set_option linter.unusedSimpArgs false
set_option linter.unusedVariables false
set_option maxRecDepth 20000
theorem twoS_len (p : List SP) (a b : List PT) : (twoS p a b).length = p.length + 2 := by simp [twoS]
theorem oneS_len (p : List SP) (a : List PT) : (oneS p a).length = p.length + 1 := by simp [oneS]
theorem fits_one {ps : List SP} {a : List PT} (h : ∀ s ∈ ps, StepFit s) (la : a.length ≤ 7) (ta : TextsP a) : ∀ t ∈ oneS ps a, StepFit t := fits_app h ⟨la, ta, Nat.zero_le _⟩
theorem fits_two {ps : List SP} {a b : List PT} (h : ∀ s ∈ ps, StepFit s) (la : a.length ≤ 7) (lb : b.length ≤ 7) (ta : TextsP a) (tb : TextsP b) : ∀ t ∈ twoS ps a b, StepFit t := fits_app (fits_app h ⟨la, ta, Nat.zero_le _⟩) ⟨lb, tb, Nat.zero_le _⟩
theorem sortT_len (ts : List TB) : (sortT ts).length = ts.length := by rw [sortT, List.length_map]
theorem sortT_ok {ts : List TB} (h : OkT ts) : OkT (sortT ts) := ⟨by rw [sortT, List.length_map]; exact h.1, fun t ht => by
  obtain ⟨u, hu, rfl⟩ := List.mem_map.1 ht
  exact ⟨(h.2 u hu).1, (h.2 u hu).2.sub (by rw [sortI_len]; exact (h.2 u hu).2.1) fun r hr => (sortI_perm _).mem_iff.1 hr⟩⟩
set_option maxHeartbeats 8000000 in
theorem walk_FnWholeOrder (a : Option Addr) (len cap : Nat) (zs : List Int) (w : World) (h : IsRow .u8 w a len cap zs) :
    Calls Try.prog 9 #[.slice a len cap] w fun e w' => e = .returned (.bool true) ∧ Below w.heap.size w w' := by
  by_cases hl : 1048576 < len
  · clear h
    go_enter Try.func9, Try.ntmps9
    go_wp2
    go_ret
    exact ⟨rfl, Below.refl _ _⟩
  · have HI := Lib.hid h
    clear h
    obtain ⟨i0, hi, iz0, iz1, iz2⟩ := info_parts infoST
    go_enter Try.func9, Try.ntmps9
    go_wp2_with (go_at_call 27; (with_reducible refine (drawTested _ _ _ zs _ HI.out).mono ?_); rintro e wd ⟨gt, ct, gp, cp, ga, ka, gb, kb, ts, ps, ea, eb, rfl, htb, hts, htf, hct, hsp, hpl, hsf, hcp, ⟨fa, la, ta, ra, ca⟩, ⟨fb, lb, tb2, rb, cb⟩, hbd⟩; have TBW := Lib.hid htb; have OKT := Lib.hid (htf.ok hts.2); have SPW := Lib.hid hsp; have SF := Lib.hid hsf; have HB := Lib.hid hbd; have FA := Lib.hid fa; have FB := Lib.hid fb; have TA := Lib.hid ta; have TX := Lib.hid tb2; have RA := Lib.hid ra; have TFT := Lib.hid htf; clear htb hsp hsf hbd htf fa fb ta tb2 ra rb)
    have OKS := Lib.hid (okS_fit (by omega) SF.out)
    obtain ⟨L, hL1, hL2, hL3⟩ := SPW.out.cells
    have LL : L.length = ps.length := by rw [← hL1, List.length_map]
    have CEL := Lib.hid (fun W (hb : Below wd.heap.size wd W) (k j : Nat) (u : Value) (hj : ((L.take k).flatMap fun p => p.2)[j]? = some u) => (by
      have h1 : (L.flatMap fun p => p.2)[j]? = some u := by
        conv => lhs; rw [← List.take_append_drop k L, List.flatMap_append]
        rw [List.getElem?_append_left (List.getElem?_eq_some_iff.1 hj).1]
        exact hj
      rw [addNone, Nat.zero_add]
      have h2 := hL3 j u h1
      rw [Nat.zero_add] at h2
      exact (hb.cell (p := ⟨gp, j, none⟩) (World.block_lt_of_cell? wd ⟨gp, j, none⟩ h2)).trans h2 : W.cell? ((⟨gp, 0, none⟩ : Addr).add j) = some u))
    have LX := Lib.hid (fun W (hb : Below wd.heap.size wd W) (k : Nat) p (hp : p ∈ L.take k) => (hL2 p (List.mem_of_mem_take hp)).below hb)
    have LM := Lib.hid (fun (k : Nat) => (by rw [List.map_take, hL1] : (L.take k).map (fun p => p.1) = ps.take k))
    have LC := Lib.hid (fun (k : Nat) (hk : k ≤ ps.length) => (by rw [stepsX_len (W := wd) (L := L.take k) (fun p hp => hL2 p (List.mem_of_mem_take hp)), List.length_take, LL, Nat.min_eq_left hk] : ((L.take k).flatMap fun p => p.2).length = k * 6))
    have LO := Lib.hid (fun (k : Nat) => stepsX_one (W := wd) (L := L.take k) (fun p hp => hL2 p (List.mem_of_mem_take hp)))
    clear hL1 hL2 hL3 LL
    have PI := Lib.hid (fun W h1 h2 => planOkI (some ⟨gt, 0, none⟩) (some ⟨gp, 0, none⟩) gt 0 ct gp 0 cp ts ps W h1 OKT.out h2 OKS.out)
    have PS := Lib.hid (fun W h1 h2 => planOkS (some ⟨gt, 0, none⟩) (some ⟨gp, 0, none⟩) gt 0 ct gp 0 cp ts ps W h1 OKT.out h2 OKS.out)
    have OKX := Lib.hid (okS_fit (by rw [oneS_len]; omega) (fits_one SF.out (by omega) TA.out) : OkS (oneS ps ea))
    have PRX := Lib.hid (fun W X cX h1 h2 => (by have h3 := (planRowsI (some ⟨gt, 0, none⟩) (some ⟨X, 0, none⟩) gt 0 ct X 0 cX ts (oneS ps ea) W h1 OKT.out h2 OKX.out).mono fun e w' h => retBagN h; rw [oneS_len] at h3; exact h3 : Calls _ _ _ _ _))
    have OKT2 := sortT_ok OKT.out
    have PRY := Lib.hid (fun W Y cY X cX h1 h2 => (by have h3 := (planRowsI (some ⟨Y, 0, none⟩) (some ⟨X, 0, none⟩) Y 0 cY X 0 cX (sortT ts) (oneS ps ea) W h1 OKT2 h2 OKX.out).mono fun e w' h => retBagN h; rw [oneS_len, sortT_len] at h3; exact h3 : Calls _ _ _ _ _))
    have hsl := sortT_len ts
    clear OKT2
    have RS := Lib.hid (fun W j (hj : j < ts.length) A c g o (h : Rws W g o A (ts[j]'hj).2) => rowsSortedI A g o c ts[j].2 W h (OKT.out.at j hj).2)
    have TJ := Lib.hid (fun j (hj : j < ts.length) (hj2 : j < (sortT ts).length) => (by simp [sortT] : (sortT ts)[j]'hj2 = (ts[j].1, sortI ts[j].2)))
    have BG := Lib.hid ((bagB_iff _ _).2 (prows_perm (sortT_perm ts) (oneS ps ea)))
    obtain ⟨-, -, OX⟩ := prows_small ts (oneS ps ea)
    obtain ⟨-, -, OY⟩ := prows_small (sortT ts) (oneS ps ea)
    have OXH := Lib.hid OX
    have OYH := Lib.hid OY
    generalize sortT ts = us at PRY hsl TJ BG OYH
    obtain ⟨rx, hrx⟩ : ∃ u, prowsI ts (oneS ps ea) = u := ⟨_, rfl⟩
    obtain ⟨ry, hry⟩ : ∃ u, prowsI us (oneS ps ea) = u := ⟨_, rfl⟩
    rw [hrx] at PRX BG OXH
    rw [hry] at PRY BG OYH
    clear OX OY hrx hry
    obtain ⟨j0, hj0, jz0, jz1, jz2⟩ := info_parts infoTW
    obtain ⟨ok, hok⟩ : ∃ b, planB ts ps = b := ⟨_, rfl⟩
    rw [hok] at PI PS
    obtain ⟨n, hn⟩ : ∃ n, ps.length = n := ⟨_, rfl⟩
    have HN := Lib.hid hn
    rw [hn] at hpl hcp PI PS LC PRX PRY ⊢
    clear hn
    have HBD := Lib.hid (Below.refl wd.heap.size wd)
    have hnc : (n : Int) ≤ (cp : Int) := by omega
    obtain ⟨m, hm⟩ : ∃ m, ts.length = m := ⟨_, rfl⟩
    have HM := Lib.hid hm
    have HSL := Lib.hid hsl
    rw [hm] at hts hct PI PS PRX PRY ⊢
    clear hm hsl
    have hb0 : (0 : Int) < (eb.length : Int) := by omega
    cases ok
    case false =>
      go_wp2_with (first
              | (go_at_call 12; (with_reducible refine (PI.out _ (TBW.out.below HBD.out) (SPW.out.below HBD.out)).mono ?_); rintro e w1 ⟨rfl, hb⟩; have HBn := Lib.hid (Below.trans (show Below wd.heap.size wd _ from (by repeat (with_reducible first | exact HBD.out | apply Below.drew | refine Below.alloc ?_ (by have := HBD.out.size; first | omega | (simp; done) | (simp; omega)) _))) (hb.mono (by have := HBD.out.size; first | omega | (simp; done) | (simp; omega)))); clear HBD hb; have HBD := HBn; clear HBn)
              | (go_at_call 13; (with_reducible refine (PS.out _ (TBW.out.below HBD.out) (SPW.out.below HBD.out)).mono ?_); rintro e w1 ⟨rfl, hb⟩; have HBn := Lib.hid (Below.trans (show Below wd.heap.size wd _ from (by repeat (with_reducible first | exact HBD.out | apply Below.drew | refine Below.alloc ?_ (by have := HBD.out.size; first | omega | (simp; done) | (simp; omega)) _))) (hb.mono (by have := HBD.out.size; first | omega | (simp; done) | (simp; omega)))); clear HBD hb; have HBD := HBn; clear HBn))
      go_loopw [8, 9] (fun ox kx wr => ∃ (k g c : Nat) (D : List (TB × List Value)), k ≤ m ∧ kx = .int .i64 (k : Int) ∧ ox = .slice (some ⟨g, 0, none⟩) k c ∧ Hid (TabsO wr wd.heap.size g c k us D) ∧ Hid (∀ p ∈ D, SrtAt wd wr g p.1 p.2) ∧ Hid (Below wd.heap.size wd wr)) (fun _ kx _ => m - (intOf kx).toNat)
      case atStart => exact ⟨0, _, _, [], by omega, rfl, rfl, TabsO.nil (by first | rfl | simp) (by have := HBD.out.size; first | omega | (simp; omega)), fun p hp => absurd hp (by simp), HBD.out.alloc HBD.out.size _⟩
      case round =>
        clear HBD PI PS
        obtain ⟨k, g, c, D, hkm, rfl, rfl, TO, CD, HBD⟩ := hrel
        have hzd := HBD.out.size
        have hcg := TO.out.caps
        have hlg := TO.out.lo
        by_cases hk : k < m
        · have hk0 : (0 : Int) ≤ (k : Int) := by omega
          have hk1 : (k : Int) < (m : Int) := by omega
          have hkt : k < ts.length := by have := HM.out; omega
          obtain ⟨-, hgw, A1, c1, g1, o1, A2, c2, g2, o2, e0, e1, f1, r2, l1, l2, n1, n2⟩ := TBW.out.at k hkt
          have hku : k < us.length := by rw [HSL.out]; exact hkt
          have htj := TJ.out k hkt hku
          have RSk := Lib.hid (fun W (h : Rws W g2 o2 A2 (ts[k]'hkt).2) => RS.out W k hkt A2 c2 g2 o2 h)
          obtain ⟨T, hT⟩ : ∃ t, ts[k]'hkt = t := ⟨_, rfl⟩
          obtain ⟨U, hU⟩ : ∃ t, us[k]'hku = t := ⟨_, rfl⟩
          rw [hT, hU] at htj
          rw [hT] at e0 e1 f1 r2 l1 l2
          simp only [hT] at RSk
          have HU := Lib.hid hU
          have htj1 : U.1 = T.1 := by rw [htj]
          have htj2 : U.2 = sortI T.2 := by rw [htj]
          obtain ⟨tc, hc⟩ : ∃ x, T.1 = x := ⟨_, rfl⟩
          obtain ⟨tr, hr⟩ : ∃ x, T.2 = x := ⟨_, rfl⟩
          rw [hc] at e0 f1 l1 htj1
          rw [hr] at e1 r2 l2 htj2
          simp only [hr] at RSk
          rw [Nat.zero_add] at e0 e1
          have ef0 := (HBD.out.cell (p := ⟨gt, k * 2, none⟩) hgw).trans e0
          have ef1 := (HBD.out.cell (p := ⟨gt, k * 2 + 1, none⟩) hgw).trans e1
          have F1 := Lib.hid f1
          have R2 := Lib.hid (r2.below HBD.out)
          have HU1 := Lib.hid htj1
          have HU2 := Lib.hid htj2
          have hgr0 : gt < wr.heap.size := by omega
          clear hT hU htj hc hr e0 e1 f1 r2 htj1 htj2
          go_upto_region 11 with fail
          go_region_law (first
            | (refine step_blk rfl (.tmp 38) (.tmp 51) 23 rfl wd.heap.size 45 j0 (.agg #[.slice none 0 0, .slice none 0 0]) 2 48 Try.underlying23 hj0 jz0 jz1 jz2 rfl (by decide) g k c (D.flatMap fun p => p.2) rfl (by repeat (with_reducible first | exact TO1.out | apply World.ownsRow.alloc | apply own_drew)) _ 1 1 [.slice A1 tc.length c1, .slice (some ⟨g5, 0, none⟩) (sortI tr).length c5] rfl rfl (news_new (by first | rfl | simp)) (by simp [Value.oneCell']) (by unfold maxLen; omega) (by omega) (by first | omega | (simp; done) | (simp; omega)) ?_; intro g6 c6 w6 hown hgr hgg; have OW6 := Lib.hid hown; have HG6 := Lib.hid hgr; have HN6 := Lib.hid hgg; clear hown hgr hgg)
            | (go_simp; go_at_call 32; (with_reducible refine (RSk.out _ (R2.out.below (show Below wr.heap.size wr _ from (by repeat (with_reducible first | exact Below.refl _ _ | apply Below.drew))))).mono ?_); rintro e w5 ⟨g5, c5, T5, rfl, hbag, hb⟩; have HB5 := Lib.hid (Below.trans (show Below wr.heap.size wr _ from (by repeat (with_reducible first | exact Below.refl _ _ | apply Below.drew))) (hb.mono (by first | omega | (simp; done) | (simp; omega)))); have BAG5 := Lib.hid hbag; have TO1 := Lib.hid (own_keep TO.out.own (HB5.out.block _ hlg.2)); have ef2 := (HB5.out.cell (p := ⟨gt, k * 2, none⟩) hgr0).trans ef0; have hz5 := HB5.out.size; have hlo5 := BAG5.out.lo; clear hb hbag))
          all_goals go_wp2
          all_goals (
            have S5 : SrtAt wd w5 g U [.slice A1 tc.length c1, .slice (some ⟨g5, 0, none⟩) (sortI tr).length c5] := ⟨A1, c1, g1, o1, g5, c5, _, T5, by rw [HU1.out, HU2.out], by rw [HU1.out]; exact F1.out, by rw [HU1.out]; exact l1, n1, by rw [HU2.out]; exact BAG5.out, by have := BAG5.out.lo; (try simp only [World.size_drew] at this); omega, fun x hx => by have := (BAG5.out.rows x hx).lo; (try simp only [World.size_drew] at this); omega⟩
            have HB6 : Below wd.heap.size wd w6 := Below.grown (show Below wd.heap.size wd _ from by repeat (with_reducible first | exact HBD.out.trans (HB5.out.mono hzd) | apply Below.drew | refine Below.alloc ?_ (by omega) _)) HG6.out (by first | omega | (simp; omega)) (fun k hk => by obtain rfl := Option.some.inj hk; exact hlg.1)
            exact ⟨⟨k + 1, g6, c6, D ++ [(U, [.slice A1 tc.length c1, .slice (some ⟨g5, 0, none⟩) (sortI tr).length c5])], by omega, by go_num, rfl, TO.out.push hku HU.out OW6.out, fun p hp => by
              rcases List.mem_append.1 hp with hp | hp
              · exact SrtAt.grown (SrtAt.below ((CD.out p hp).below HB5.out) (by repeat (with_reducible first | exact Below.refl _ _ | apply Below.drew | refine Below.alloc ?_ (Nat.le_refl _) _))) HG6.out HN6.out
              · obtain rfl := List.mem_singleton.1 hp
                exact SrtAt.grown (SrtAt.below S5 (by repeat (with_reducible first | exact Below.refl _ _ | apply Below.drew | refine Below.alloc ?_ (Nat.le_refl _) _))) HG6.out HN6.out, HB6⟩, by simp [intOf]; omega⟩)
        · obtain rfl : k = m := by omega
          have TBO := Lib.hid (TO.out.tbs (by rw [HSL.out, HM.out]) (fun p hp => (CD.out p hp).cells HBD.out))
          clear TO CD
          have HZ := HBD.out.size
          have CELn := Lib.hid (fun W (hb : Below wr.heap.size wr W) (k j : Nat) (u : Value) (hj : ((L.take k).flatMap fun p => p.2)[j]? = some u) => CEL.out W (HBD.out.trans (hb.mono HBD.out.size)) k j u hj)
          have LXn := Lib.hid (fun W (hb : Below wr.heap.size wr W) (k : Nat) p (hp : p ∈ L.take k) => LX.out W (HBD.out.trans (hb.mono HBD.out.size)) k p hp)
          have TBn := Lib.hid (TBW.out.below HBD.out)
          have SPn := Lib.hid (SPW.out.below HBD.out)
          have FAn := Lib.hid (FA.out.below HBD.out)
          have FBn := Lib.hid (FB.out.below HBD.out)
          have HBw := Lib.hid (HB.out.trans (HBD.out.mono HB.out.size))
          clear CEL LX TBW SPW FA FB HB HBD HZ
          have CEL := CELn
          have LX := LXn
          have TBW := TBn
          have SPW := SPn
          have FA := FAn
          have FB := FBn
          have HB := HBw
          clear CELn LXn TBn SPn FAn FBn HBw
          have HBD := Lib.hid (Below.refl wr.heap.size wr)
          go_wp2_with (first
                | (at_builtin; refine wpList_append_block _ rfl (.tmp 53) (.tmp 54) 24 rfl wr.heap.size 32 i0 (.agg #[.int .i64 0, .int .i64 0, .int .i64 0, .int .i64 0, .slice none 0 0, .slice none 0 0]) 6 80 Try.underlying24 hi iz0 iz1 iz2 rfl (by decide) wr.heap.size 0 0 [] rfl (own_empty3 32 6 rfl (Nat.le_refl _)) ⟨gp, 0, none⟩ n cp ((L.take n).flatMap fun p => p.2) rfl (LC.out n (Nat.le_refl _)) (CEL.out _ (HBD.out.alloc HBD.out.size _) n) (LO.out n) (by unfold maxLen; omega) (by omega) (by simp) ?_; intro g3 c3 w3 hown hgr hgg; (try simp only [Nat.zero_add, List.nil_append] at hown ⊢); have HB3 := Lib.hid (Below.grown (HBD.out.alloc HBD.out.size (.cells #[] 32)) hgr (by have := HBD.out.size; first | omega | (simp; done) | (simp; omega)) (fun k hk => by obtain rfl := Option.some.inj hk; exact HBD.out.size)); have OW3 := Lib.hid hown; have hlo3 := (hown.lt g3 rfl).1; clear hown hgr hgg)
                | (at_builtin; refine wpList_append_block _ rfl (.tmp 55) (.tmp 59) 24 rfl wr.heap.size 32 i0 (.agg #[.int .i64 0, .int .i64 0, .int .i64 0, .int .i64 0, .slice none 0 0, .slice none 0 0]) 6 80 Try.underlying24 hi iz0 iz1 iz2 rfl (by decide) g3 n c3 ((L.take n).flatMap fun p => p.2) rfl (OW3.out.alloc _) _ 1 1 [.int .i64 2, .int .i64 ((n : Int) - 1), .int .i64 0, .int .i64 0, .slice (some ⟨ga, 0, none⟩) ea.length ka, .slice none 0 0] rfl rfl (news_new (by first | rfl | simp)) (by simp [Value.oneCell']) (by unfold maxLen; omega) (by omega) (by have := (OW3.out.lt g3 rfl).2; first | omega | (simp; omega)) ?_; intro gX cX w4x hown hgr hgg; have HB4 := Lib.hid (Below.grown (HB3.out.alloc HB3.out.size (.cells #[.int .i64 2, .int .i64 ((n : Int) - 1), .int .i64 0, .int .i64 0, .slice (some ⟨ga, 0, none⟩) ea.length ka, .slice none 0 0] 32)) hgr (by have := HB3.out.size; simp; omega) (fun k hk => by obtain rfl := Option.some.inj hk; have := HBD.out.size; omega)); have SPX := Lib.hid (sps_own (L := L.take n ++ [((2, ((n : Int) - 1), 0, 0, ea, []), [.int .i64 2, .int .i64 ((n : Int) - 1), .int .i64 0, .int .i64 0, .slice (some ⟨ga, 0, none⟩) ea.length ka, .slice none 0 0])]) (ps := oneS ps ea) (fun p hp => by
                  rcases List.mem_append.1 hp with hp | hp
                  · exact LX.out _ HB4.out n p hp
                  · simp only [List.mem_cons, List.not_mem_nil, or_false] at hp
                    rcases hp with rfl
                    · exact cellsX_expr _ _ _ _ (FA.out.below HB4.out) rfl ca.1 (.inl rfl)) (by rw [List.map_append, LM.out, ← HN.out, List.take_length]; simp only [oneS, whereS, List.map_cons, List.map_nil, List.append_assoc, List.cons_append, List.nil_append]; rw [show ((ps.length - 1 : Nat) : Int) = (ps.length : Int) - 1 by have := HN.out; omega]) (by rw [List.flatMap_append]; exact hown)); clear hown hgr hgg HBD OW3; have HBD := HB4; clear HB4 HB3)
                | (go_at_call 20; (with_reducible refine (PRX.out _ gX cX (TBW.out.below HBD.out) (SPX.out.below (Below.refl _ _))).mono ?_); rintro e w7 ⟨Ax, gx, cx, Tx, rfl, hc, hb⟩; have VX := Lib.hid hc.rws; clear hc; have SPn := Lib.hid (SPX.out.below hb); clear SPX; have SPX := SPn; clear SPn; have HBn := Lib.hid (Below.trans (show Below wr.heap.size wr _ from (by repeat (with_reducible first | exact HBD.out | apply Below.drew | refine Below.alloc ?_ (by have := HBD.out.size; first | omega | (simp; done) | (simp; omega)) _))) (hb.mono (by have := HBD.out.size; first | omega | (simp; done) | (simp; omega)))); clear HBD hb; have HBD := HBn; clear HBn)
                | (go_at_call 20; (with_reducible refine (PRY.out _ g c gX cX (TBO.out.below HBD.out) (SPX.out.below (Below.refl _ _))).mono ?_); rintro e w8 ⟨Ay, gy, cy, Ty, rfl, hc, hb⟩; have VXn := Lib.hid (VX.out.below hb); clear VX; have VX := VXn; clear VXn; have VY := Lib.hid hc.rws; clear hc; have HBn := Lib.hid (Below.trans (show Below wr.heap.size wr _ from (by repeat (with_reducible first | exact HBD.out | apply Below.drew | refine Below.alloc ?_ (by have := HBD.out.size; first | omega | (simp; done) | (simp; omega)) _))) (hb.mono (by have := HBD.out.size; first | omega | (simp; done) | (simp; omega)))); clear HBD hb; have HBD := HBn; clear HBn)
                | (go_at_call 30; (with_reducible refine (sameBagI Ax Ay gx 0 gy 0 cx cy rx ry _ VX.out VY.out OXH.out OYH.out).mono ?_); rintro e w9 ⟨rfl, hb⟩; rw [BG.out]; have HBn := Lib.hid (Below.trans (show Below wr.heap.size wr _ from (by repeat (with_reducible first | exact HBD.out | apply Below.drew | refine Below.alloc ?_ (by have := HBD.out.size; first | omega | (simp; done) | (simp; omega)) _))) (hb.mono (by have := HBD.out.size; first | omega | (simp; done) | (simp; omega)))); clear HBD hb; have HBD := HBn; clear HBn)
                | (go_at_call 14; (with_reducible refine (alive _).mono ?_); rintro e w10 ⟨rfl, hb⟩; have HBn := Lib.hid (Below.trans (show Below wr.heap.size wr _ from (by repeat (with_reducible first | exact HBD.out | apply Below.drew | refine Below.alloc ?_ (by have := HBD.out.size; first | omega | (simp; done) | (simp; omega)) _))) (hb.mono (by have := HBD.out.size; first | omega | (simp; done) | (simp; omega)))); clear HBD hb; have HBD := HBn; clear HBn))
          all_goals go_ret
          all_goals exact ⟨rfl, HB.out.trans (HBD.out.mono HB.out.size)⟩
    case true =>
      go_wp2_with (first
              | (go_at_call 12; (with_reducible refine (PI.out _ (TBW.out.below HBD.out) (SPW.out.below HBD.out)).mono ?_); rintro e w1 ⟨rfl, hb⟩; have HBn := Lib.hid (Below.trans (show Below wd.heap.size wd _ from (by repeat (with_reducible first | exact HBD.out | apply Below.drew | refine Below.alloc ?_ (by have := HBD.out.size; first | omega | (simp; done) | (simp; omega)) _))) (hb.mono (by have := HBD.out.size; first | omega | (simp; done) | (simp; omega)))); clear HBD hb; have HBD := HBn; clear HBn)
              | (go_at_call 13; (with_reducible refine (PS.out _ (TBW.out.below HBD.out) (SPW.out.below HBD.out)).mono ?_); rintro e w1 ⟨rfl, hb⟩; have HBn := Lib.hid (Below.trans (show Below wd.heap.size wd _ from (by repeat (with_reducible first | exact HBD.out | apply Below.drew | refine Below.alloc ?_ (by have := HBD.out.size; first | omega | (simp; done) | (simp; omega)) _))) (hb.mono (by have := HBD.out.size; first | omega | (simp; done) | (simp; omega)))); clear HBD hb; have HBD := HBn; clear HBn))
      go_loopw [8, 9] (fun ox kx wr => ∃ (k g c : Nat) (D : List (TB × List Value)), k ≤ m ∧ kx = .int .i64 (k : Int) ∧ ox = .slice (some ⟨g, 0, none⟩) k c ∧ Hid (TabsO wr wd.heap.size g c k us D) ∧ Hid (∀ p ∈ D, SrtAt wd wr g p.1 p.2) ∧ Hid (Below wd.heap.size wd wr)) (fun _ kx _ => m - (intOf kx).toNat)
      case atStart => exact ⟨0, _, _, [], by omega, rfl, rfl, TabsO.nil (by first | rfl | simp) (by have := HBD.out.size; first | omega | (simp; omega)), fun p hp => absurd hp (by simp), HBD.out.alloc HBD.out.size _⟩
      case round =>
        clear HBD PI PS
        obtain ⟨k, g, c, D, hkm, rfl, rfl, TO, CD, HBD⟩ := hrel
        have hzd := HBD.out.size
        have hcg := TO.out.caps
        have hlg := TO.out.lo
        by_cases hk : k < m
        · have hk0 : (0 : Int) ≤ (k : Int) := by omega
          have hk1 : (k : Int) < (m : Int) := by omega
          have hkt : k < ts.length := by have := HM.out; omega
          obtain ⟨-, hgw, A1, c1, g1, o1, A2, c2, g2, o2, e0, e1, f1, r2, l1, l2, n1, n2⟩ := TBW.out.at k hkt
          have hku : k < us.length := by rw [HSL.out]; exact hkt
          have htj := TJ.out k hkt hku
          have RSk := Lib.hid (fun W (h : Rws W g2 o2 A2 (ts[k]'hkt).2) => RS.out W k hkt A2 c2 g2 o2 h)
          obtain ⟨T, hT⟩ : ∃ t, ts[k]'hkt = t := ⟨_, rfl⟩
          obtain ⟨U, hU⟩ : ∃ t, us[k]'hku = t := ⟨_, rfl⟩
          rw [hT, hU] at htj
          rw [hT] at e0 e1 f1 r2 l1 l2
          simp only [hT] at RSk
          have HU := Lib.hid hU
          have htj1 : U.1 = T.1 := by rw [htj]
          have htj2 : U.2 = sortI T.2 := by rw [htj]
          obtain ⟨tc, hc⟩ : ∃ x, T.1 = x := ⟨_, rfl⟩
          obtain ⟨tr, hr⟩ : ∃ x, T.2 = x := ⟨_, rfl⟩
          rw [hc] at e0 f1 l1 htj1
          rw [hr] at e1 r2 l2 htj2
          simp only [hr] at RSk
          rw [Nat.zero_add] at e0 e1
          have ef0 := (HBD.out.cell (p := ⟨gt, k * 2, none⟩) hgw).trans e0
          have ef1 := (HBD.out.cell (p := ⟨gt, k * 2 + 1, none⟩) hgw).trans e1
          have F1 := Lib.hid f1
          have R2 := Lib.hid (r2.below HBD.out)
          have HU1 := Lib.hid htj1
          have HU2 := Lib.hid htj2
          have hgr0 : gt < wr.heap.size := by omega
          clear hT hU htj hc hr e0 e1 f1 r2 htj1 htj2
          go_upto_region 11 with fail
          go_region_law (first
            | (refine step_blk rfl (.tmp 38) (.tmp 51) 23 rfl wd.heap.size 45 j0 (.agg #[.slice none 0 0, .slice none 0 0]) 2 48 Try.underlying23 hj0 jz0 jz1 jz2 rfl (by decide) g k c (D.flatMap fun p => p.2) rfl (by repeat (with_reducible first | exact TO1.out | apply World.ownsRow.alloc | apply own_drew)) _ 1 1 [.slice A1 tc.length c1, .slice (some ⟨g5, 0, none⟩) (sortI tr).length c5] rfl rfl (news_new (by first | rfl | simp)) (by simp [Value.oneCell']) (by unfold maxLen; omega) (by omega) (by first | omega | (simp; done) | (simp; omega)) ?_; intro g6 c6 w6 hown hgr hgg; have OW6 := Lib.hid hown; have HG6 := Lib.hid hgr; have HN6 := Lib.hid hgg; clear hown hgr hgg)
            | (go_simp; go_at_call 32; (with_reducible refine (RSk.out _ (R2.out.below (show Below wr.heap.size wr _ from (by repeat (with_reducible first | exact Below.refl _ _ | apply Below.drew))))).mono ?_); rintro e w5 ⟨g5, c5, T5, rfl, hbag, hb⟩; have HB5 := Lib.hid (Below.trans (show Below wr.heap.size wr _ from (by repeat (with_reducible first | exact Below.refl _ _ | apply Below.drew))) (hb.mono (by first | omega | (simp; done) | (simp; omega)))); have BAG5 := Lib.hid hbag; have TO1 := Lib.hid (own_keep TO.out.own (HB5.out.block _ hlg.2)); have ef2 := (HB5.out.cell (p := ⟨gt, k * 2, none⟩) hgr0).trans ef0; have hz5 := HB5.out.size; have hlo5 := BAG5.out.lo; clear hb hbag))
          all_goals go_wp2
          all_goals (
            have S5 : SrtAt wd w5 g U [.slice A1 tc.length c1, .slice (some ⟨g5, 0, none⟩) (sortI tr).length c5] := ⟨A1, c1, g1, o1, g5, c5, _, T5, by rw [HU1.out, HU2.out], by rw [HU1.out]; exact F1.out, by rw [HU1.out]; exact l1, n1, by rw [HU2.out]; exact BAG5.out, by have := BAG5.out.lo; (try simp only [World.size_drew] at this); omega, fun x hx => by have := (BAG5.out.rows x hx).lo; (try simp only [World.size_drew] at this); omega⟩
            have HB6 : Below wd.heap.size wd w6 := Below.grown (show Below wd.heap.size wd _ from by repeat (with_reducible first | exact HBD.out.trans (HB5.out.mono hzd) | apply Below.drew | refine Below.alloc ?_ (by omega) _)) HG6.out (by first | omega | (simp; omega)) (fun k hk => by obtain rfl := Option.some.inj hk; exact hlg.1)
            exact ⟨⟨k + 1, g6, c6, D ++ [(U, [.slice A1 tc.length c1, .slice (some ⟨g5, 0, none⟩) (sortI tr).length c5])], by omega, by go_num, rfl, TO.out.push hku HU.out OW6.out, fun p hp => by
              rcases List.mem_append.1 hp with hp | hp
              · exact SrtAt.grown (SrtAt.below ((CD.out p hp).below HB5.out) (by repeat (with_reducible first | exact Below.refl _ _ | apply Below.drew | refine Below.alloc ?_ (Nat.le_refl _) _))) HG6.out HN6.out
              · obtain rfl := List.mem_singleton.1 hp
                exact SrtAt.grown (SrtAt.below S5 (by repeat (with_reducible first | exact Below.refl _ _ | apply Below.drew | refine Below.alloc ?_ (Nat.le_refl _) _))) HG6.out HN6.out, HB6⟩, by simp [intOf]; omega⟩)
        · obtain rfl : k = m := by omega
          have TBO := Lib.hid (TO.out.tbs (by rw [HSL.out, HM.out]) (fun p hp => (CD.out p hp).cells HBD.out))
          clear TO CD
          have HZ := HBD.out.size
          have CELn := Lib.hid (fun W (hb : Below wr.heap.size wr W) (k j : Nat) (u : Value) (hj : ((L.take k).flatMap fun p => p.2)[j]? = some u) => CEL.out W (HBD.out.trans (hb.mono HBD.out.size)) k j u hj)
          have LXn := Lib.hid (fun W (hb : Below wr.heap.size wr W) (k : Nat) p (hp : p ∈ L.take k) => LX.out W (HBD.out.trans (hb.mono HBD.out.size)) k p hp)
          have TBn := Lib.hid (TBW.out.below HBD.out)
          have SPn := Lib.hid (SPW.out.below HBD.out)
          have FAn := Lib.hid (FA.out.below HBD.out)
          have FBn := Lib.hid (FB.out.below HBD.out)
          have HBw := Lib.hid (HB.out.trans (HBD.out.mono HB.out.size))
          clear CEL LX TBW SPW FA FB HB HBD HZ
          have CEL := CELn
          have LX := LXn
          have TBW := TBn
          have SPW := SPn
          have FA := FAn
          have FB := FBn
          have HB := HBw
          clear CELn LXn TBn SPn FAn FBn HBw
          have HBD := Lib.hid (Below.refl wr.heap.size wr)
          go_wp2_with (first
                | (at_builtin; refine wpList_append_block _ rfl (.tmp 53) (.tmp 54) 24 rfl wr.heap.size 32 i0 (.agg #[.int .i64 0, .int .i64 0, .int .i64 0, .int .i64 0, .slice none 0 0, .slice none 0 0]) 6 80 Try.underlying24 hi iz0 iz1 iz2 rfl (by decide) wr.heap.size 0 0 [] rfl (own_empty3 32 6 rfl (Nat.le_refl _)) ⟨gp, 0, none⟩ n cp ((L.take n).flatMap fun p => p.2) rfl (LC.out n (Nat.le_refl _)) (CEL.out _ (HBD.out.alloc HBD.out.size _) n) (LO.out n) (by unfold maxLen; omega) (by omega) (by simp) ?_; intro g3 c3 w3 hown hgr hgg; (try simp only [Nat.zero_add, List.nil_append] at hown ⊢); have HB3 := Lib.hid (Below.grown (HBD.out.alloc HBD.out.size (.cells #[] 32)) hgr (by have := HBD.out.size; first | omega | (simp; done) | (simp; omega)) (fun k hk => by obtain rfl := Option.some.inj hk; exact HBD.out.size)); have OW3 := Lib.hid hown; have hlo3 := (hown.lt g3 rfl).1; clear hown hgr hgg)
                | (at_builtin; refine wpList_append_block _ rfl (.tmp 55) (.tmp 59) 24 rfl wr.heap.size 32 i0 (.agg #[.int .i64 0, .int .i64 0, .int .i64 0, .int .i64 0, .slice none 0 0, .slice none 0 0]) 6 80 Try.underlying24 hi iz0 iz1 iz2 rfl (by decide) g3 n c3 ((L.take n).flatMap fun p => p.2) rfl (OW3.out.alloc _) _ 1 1 [.int .i64 2, .int .i64 ((n : Int) - 1), .int .i64 0, .int .i64 0, .slice (some ⟨ga, 0, none⟩) ea.length ka, .slice none 0 0] rfl rfl (news_new (by first | rfl | simp)) (by simp [Value.oneCell']) (by unfold maxLen; omega) (by omega) (by have := (OW3.out.lt g3 rfl).2; first | omega | (simp; omega)) ?_; intro gX cX w4x hown hgr hgg; have HB4 := Lib.hid (Below.grown (HB3.out.alloc HB3.out.size (.cells #[.int .i64 2, .int .i64 ((n : Int) - 1), .int .i64 0, .int .i64 0, .slice (some ⟨ga, 0, none⟩) ea.length ka, .slice none 0 0] 32)) hgr (by have := HB3.out.size; simp; omega) (fun k hk => by obtain rfl := Option.some.inj hk; have := HBD.out.size; omega)); have SPX := Lib.hid (sps_own (L := L.take n ++ [((2, ((n : Int) - 1), 0, 0, ea, []), [.int .i64 2, .int .i64 ((n : Int) - 1), .int .i64 0, .int .i64 0, .slice (some ⟨ga, 0, none⟩) ea.length ka, .slice none 0 0])]) (ps := oneS ps ea) (fun p hp => by
                  rcases List.mem_append.1 hp with hp | hp
                  · exact LX.out _ HB4.out n p hp
                  · simp only [List.mem_cons, List.not_mem_nil, or_false] at hp
                    rcases hp with rfl
                    · exact cellsX_expr _ _ _ _ (FA.out.below HB4.out) rfl ca.1 (.inl rfl)) (by rw [List.map_append, LM.out, ← HN.out, List.take_length]; simp only [oneS, whereS, List.map_cons, List.map_nil, List.append_assoc, List.cons_append, List.nil_append]; rw [show ((ps.length - 1 : Nat) : Int) = (ps.length : Int) - 1 by have := HN.out; omega]) (by rw [List.flatMap_append]; exact hown)); clear hown hgr hgg HBD OW3; have HBD := HB4; clear HB4 HB3)
                | (go_at_call 20; (with_reducible refine (PRX.out _ gX cX (TBW.out.below HBD.out) (SPX.out.below (Below.refl _ _))).mono ?_); rintro e w7 ⟨Ax, gx, cx, Tx, rfl, hc, hb⟩; have VX := Lib.hid hc.rws; clear hc; have SPn := Lib.hid (SPX.out.below hb); clear SPX; have SPX := SPn; clear SPn; have HBn := Lib.hid (Below.trans (show Below wr.heap.size wr _ from (by repeat (with_reducible first | exact HBD.out | apply Below.drew | refine Below.alloc ?_ (by have := HBD.out.size; first | omega | (simp; done) | (simp; omega)) _))) (hb.mono (by have := HBD.out.size; first | omega | (simp; done) | (simp; omega)))); clear HBD hb; have HBD := HBn; clear HBn)
                | (go_at_call 20; (with_reducible refine (PRY.out _ g c gX cX (TBO.out.below HBD.out) (SPX.out.below (Below.refl _ _))).mono ?_); rintro e w8 ⟨Ay, gy, cy, Ty, rfl, hc, hb⟩; have VXn := Lib.hid (VX.out.below hb); clear VX; have VX := VXn; clear VXn; have VY := Lib.hid hc.rws; clear hc; have HBn := Lib.hid (Below.trans (show Below wr.heap.size wr _ from (by repeat (with_reducible first | exact HBD.out | apply Below.drew | refine Below.alloc ?_ (by have := HBD.out.size; first | omega | (simp; done) | (simp; omega)) _))) (hb.mono (by have := HBD.out.size; first | omega | (simp; done) | (simp; omega)))); clear HBD hb; have HBD := HBn; clear HBn)
                | (go_at_call 30; (with_reducible refine (sameBagI Ax Ay gx 0 gy 0 cx cy rx ry _ VX.out VY.out OXH.out OYH.out).mono ?_); rintro e w9 ⟨rfl, hb⟩; rw [BG.out]; have HBn := Lib.hid (Below.trans (show Below wr.heap.size wr _ from (by repeat (with_reducible first | exact HBD.out | apply Below.drew | refine Below.alloc ?_ (by have := HBD.out.size; first | omega | (simp; done) | (simp; omega)) _))) (hb.mono (by have := HBD.out.size; first | omega | (simp; done) | (simp; omega)))); clear HBD hb; have HBD := HBn; clear HBn)
                | (go_at_call 14; (with_reducible refine (alive _).mono ?_); rintro e w10 ⟨rfl, hb⟩; have HBn := Lib.hid (Below.trans (show Below wr.heap.size wr _ from (by repeat (with_reducible first | exact HBD.out | apply Below.drew | refine Below.alloc ?_ (by have := HBD.out.size; first | omega | (simp; done) | (simp; omega)) _))) (hb.mono (by have := HBD.out.size; first | omega | (simp; done) | (simp; omega)))); clear HBD hb; have HBD := HBn; clear HBn))
          all_goals go_ret
          all_goals exact ⟨rfl, HB.out.trans (HBD.out.mono HB.out.size)⟩
end Go.Proofs.Ytacinjbaebimhaa.Val
