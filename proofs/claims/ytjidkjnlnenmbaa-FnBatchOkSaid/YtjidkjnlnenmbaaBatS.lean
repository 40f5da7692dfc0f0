/- BatchOk, BatchRows: the reference's. -/
import Derived.Test.YtjidkjnlnenmbaaBatM
namespace Go.Proofs.Ytjidkjnlnenmbaa.Val
open Go.RowKit
set_option linter.unusedVariables false
set_option maxRecDepth 8000
theorem batchOkS (A1 A2 : Option Addr) (g1 o1 c1 g2 o2 c2 : Nat) (ls : List RT) (bs : List Bool) (w : World) (h : BatR w A1 g1 o1 A2 g2 o2 ls bs) (hok : Ok2 ls) (hl : bs.length ≤ 2000000) :
    Calls Try.prog 13 #[.agg #[.slice A1 ls.length c1, .slice A2 bs.length c2]] w fun e w' => e = .returned (.bool (batB ls bs.length)) ∧ Below w.heap.size w w' := by
  have HA := Lib.hid h
  have HK := Lib.hid hok
  have hll := hok.1
  obtain ⟨n, hn⟩ : ∃ n, bs.length = n := ⟨_, rfl⟩
  rw [hn] at hl
  rw [hn]
  clear h hok hn
  go_enter Try.func13, Try.ntmps13
  have BX := Lib.hid (show Box2 w.heap.size (.slice A1 ls.length c1) (.slice A2 n c2) (w.alloc (.cells #[.slice A1 ls.length c1, .slice A2 n c2] 30)) from ⟨by simp [go_sem], by simp [go_sem]⟩)
  go_wp2
  go_loopw [3] (fun ix wr => ∃ k : Nat, k ≤ ls.length ∧ ix = .int .i64 k ∧ Hid (Below w.heap.size w wr) ∧ Hid (Box2 w.heap.size (.slice A1 ls.length c1) (.slice A2 n c2) wr) ∧ Hid ((ls.take k).all (colN n) = true)) (fun ix _ => ls.length - (intOf ix).toNat)
  case atStart => exact ⟨0, Nat.zero_le _, rfl, (Below.refl _ _).alloc (Nat.le_refl _) _, BX, rfl⟩
  case round =>
    clear BX
    obtain ⟨k, hk, rfl, HW, HX, HL⟩ := hrel
    obtain ⟨b0, b1⟩ := HX.out
    by_cases hlt : k < ls.length
    · obtain ⟨rfl, hg, c', g', o', hc, hf⟩ := (HA.out.below HW.out).cs.at k hlt
      have HS := Lib.hid (all_snoc (colN n) ls k hlt)
      have HN := Lib.hid (fun hp => all_no (p := colN n) k hlt hp)
      have HNB := Lib.hid (fun hp => batB_no (n := n) hlt hp)
      obtain ⟨hlr, hsr⟩ := HK.out.at k hlt
      have HCB := Lib.hid (fun W (hW : Below wr.heap.size wr W) => ((HA.out.below (HW.out.trans (hW.mono HW.out.size))).cs.hd k hlt))
      obtain ⟨K, hK⟩ : ∃ K, ls[k] = K := ⟨_, rfl⟩
      rw [hK] at hc hf HS HN HNB hlr hsr
      clear hK HCB
      have HF := Lib.hid hf
      have HSR := Lib.hid hsr
      clear hf hsr
      have i0' : (0 : Int) ≤ (k : Int) := by omega
      have i1' : (k : Int) < (ls.length : Int) := by omega
      by_cases hq : K.length = n
      · have hE := colN_same hq
        rw [hE] at HS HN HNB
        clear hE
        have q0 : ((K.length : Int) != (n : Int)) = false := by simp; omega
        have HQ := Lib.hid hq
        clear hq
        obtain ⟨wv, rfl⟩ : ∃ x, x = wr := ⟨_, rfl⟩
        go_wp2
        go_quiet (fail)
        go_wp2
        go_loopw [4] (fun ix wr => ∃ j : Nat, j ≤ K.length ∧ ix = .int .i64 j ∧ Hid (Below wv.heap.size wv wr) ∧ Hid ((K.take j).all okV = true)) (fun ix _ => K.length - (intOf ix).toNat)
        case atStart => exact ⟨0, Nat.zero_le _, rfl, below_drewB (Below.refl _ _), rfl⟩
        case round =>
          obtain ⟨j, hj, rfl, HV, HLJ⟩ := hrel
          obtain ⟨d0, d1⟩ := HX.out.below HV.out
          have hc9 := (HV.out.cell (p := ⟨g1, o1 + k, none⟩) hg).trans hc
          have hg9 : g1 < wr.heap.size := Nat.lt_of_lt_of_le hg HV.out.size
          by_cases hjl : j < K.length
          · obtain ⟨-, hg3, e0, e1, e2⟩ := (HF.out.below HV.out).v j hjl
            have HSJ := Lib.hid (all_snoc okV K j hjl)
            have HNJ := Lib.hid (fun hp => all_no (p := okV) j hjl hp)
            have hsz := HSR.out j hjl
            obtain ⟨V, hV⟩ : ∃ V, K[j] = V := ⟨_, rfl⟩
            rw [hV] at e0 e1 e2 HSJ HNJ hsz
            obtain ⟨x, m, s⟩ := V
            simp only at e0 e1 e2 hsz
            have C := Lib.hid (fun w => valueOkS x m s w hsz)
            obtain ⟨E, hE⟩ : ∃ E, okB x m s = E := ⟨_, rfl⟩
            have hE2 : okV (x, m, s) = E := hE
            rw [hE] at C
            rw [hE2] at HSJ HNJ
            clear hE hE2 hV
            have j0' : (0 : Int) ≤ (j : Int) := by omega
            have j1' : (j : Int) < (K.length : Int) := by omega
            go_wp2_with (go_at_call 59; (with_reducible refine (C.out _).mono ?_); rintro e w1 ⟨rfl, hb1⟩; have HW1 := Lib.hid (HV.out.trans (hb1.mono HV.out.size)); clear hb1 HV)
            · go_ret
              refine ⟨retB ?_, HW.out.trans (HW1.out.mono HW.out.size)⟩
              have := HNJ.out (not_of (by assumption))
              rw [HNB.out this]
            · go_round
              case rel => exact ⟨j + 1, by omega, by go_num, HW1, hid_all HSJ HLJ (by assumption)⟩
              case measure => simp [intOf]; omega
          · obtain rfl : j = K.length := by omega
            have hall := all_end HLJ
            have HL2 : Hid ((ls.take (k + 1)).all (colN n) = true) := by show _ = _; rw [HS.out, HL.out, hall]; rfl
            clear hall
            go_wp2
            exact ⟨⟨k + 1, by omega, by go_num, HW.out.trans (HV.out.mono HW.out.size), HX.out.below HV.out, HL2⟩, by simp [intOf]; omega⟩
      · have hE := colN_len hq
        have HNO := Lib.hid (HNB.out hE)
        obtain ⟨kl, hkl⟩ : ∃ m, K.length = m := ⟨_, rfl⟩
        rw [hkl] at hc hq hlr
        have q0 : ((kl : Int) != (n : Int)) = true := by simp; omega
        clear hE HS HN HNB HF hkl
        go_wp2
        go_quiet (fail)
        go_wp2
        all_goals (go_ret; exact ⟨retB (by rw [HNO.out]), below_drewB HW.out⟩)
    · obtain rfl : k = ls.length := by omega
      have hall := all_end HL
      have HE := Lib.hid (show batB ls n = (decide (ls.length ≤ 4) && decide (n ≤ 4)) by unfold batB; rw [hall, Bool.and_true])
      clear hall
      by_cases h4 : ls.length ≤ 4
      · by_cases h5 : n ≤ 4
        · have HE2 := Lib.hid (show batB ls n = true by rw [HE.out, decide_eq_true h4, decide_eq_true h5]; rfl)
          go_wp2
          all_goals (go_ret; exact ⟨retB (by rw [HE2.out]; try (simp; omega)), HW.out⟩)
        · have HE2 := Lib.hid (show batB ls n = false by rw [HE.out, decide_eq_true h4, decide_eq_false h5]; rfl)
          go_wp2
          all_goals (go_ret; exact ⟨retB (by rw [HE2.out]; try (simp; omega)), HW.out⟩)
      · have HE2 := Lib.hid (show batB ls n = false by rw [HE.out, decide_eq_false h4]; rfl)
        go_wp2
        all_goals (go_ret; exact ⟨retB (by rw [HE2.out]; try (simp; omega)), HW.out⟩)
theorem l9Row (A : Option Addr) (g o cap : Nat) (PV : Value) (ls : List RT) (m : Nat) (w : World) (hA : Rws w g o A ls) (hok : Ok2 ls) (hin : ∀ c ∈ ls, m < c.length) :
    Calls Try.prog 63 #[.agg #[.slice A ls.length cap, PV], .int .i64 (m : Int)] w (RetRw (acr ls m) w) := by
  obtain ⟨i0, hi, iz0, iz1, iz2⟩ := info_parts infoVc
  have HA := Lib.hid hA
  have HIN := Lib.hid hin
  have HK := Lib.hid hok
  have hl := hok.1
  clear hA hin hok
  go_enter Try.func63, Try.ntmps63
  have BX := Lib.hid ((show Box2 w.heap.size (.slice A ls.length cap) PV (w.alloc (.cells #[.slice A ls.length cap, PV] 30)) from ⟨by simp [go_sem], by simp [go_sem]⟩).alloc (.cells #[] 73))
  have HB0 := Lib.hid (((Below.refl w.heap.size w).alloc (Nat.le_refl _) (.cells #[.slice A ls.length cap, PV] 30)).alloc (by simp) (.cells #[] 73))
  have OWN := Lib.hid (own_empty3 (w := w.alloc (.cells #[.slice A ls.length cap, PV] 30)) (B := w.heap.size + 1) 73 3 (X := w.heap.size + 1) (by simp) (Nat.le_refl _))
  go_wp2
  go_loopw [5, 6] (fun ox kx wr => ∃ (k g2 c2 : Nat), k ≤ ls.length ∧ kx = .int .i64 k ∧ ox = .slice (some ⟨g2, 0, none⟩) k c2 ∧ Hid (wr.ownsRow (w.heap.size + 1) 73 3 (.slice (some ⟨g2, 0, none⟩) k c2) k (flatV (acr (ls.take k) m))) ∧ Hid (Box2 w.heap.size (.slice A ls.length cap) PV wr) ∧ Hid (Below w.heap.size w wr)) (fun _ kx _ => ls.length - (intOf kx).toNat)
  case atStart => exact ⟨0, w.heap.size + 1, 0, Nat.zero_le _, rfl, rfl, OWN, BX, HB0⟩
  case round =>
    clear OWN BX HB0
    obtain ⟨k, g2, c2, hk, rfl, rfl, HO, HX, HB⟩ := hrel
    obtain ⟨b0, b1⟩ := HX.out
    have hbl := Box2.lt HX.out
    have hz := HB.out.size
    by_cases hlt : k < ls.length
    · obtain ⟨rfl, hg, c', g', o', hc, hf⟩ := (HA.out.below HB.out).at k hlt
      have HTK := Lib.hid (List.take_succ_eq_append_getElem hlt)
      have hml := HIN.out _ (List.getElem_mem hlt)
      have hkl := (HK.out.at k hlt).1
      obtain ⟨K, hK⟩ : ∃ K, ls[k] = K := ⟨_, rfl⟩
      rw [hK] at hc hf HTK hml hkl
      obtain ⟨-, hg3, e0, e1, e2⟩ := hf.v m hml
      have hgd : K.getD m nilV = K[m] := getD_lt hml _
      obtain ⟨V, hV⟩ : ∃ V, K[m] = V := ⟨_, rfl⟩
      rw [hV] at e0 e1 e2 hgd
      obtain ⟨vk, vn, vs⟩ := V
      simp only at e0 e1 e2
      have hfl := Lib.hid (show flatV (acr (ls.take (k + 1)) m) = flatV (acr (ls.take k) m) ++ [.int .i64 vk, .int .i64 vn, .string vs] by
        unfold acr; rw [HTK.out, List.map_append, flatV_app]; simp only [List.map_cons, List.map_nil, hgd]; rfl)
      have hgs := (HO.out.lt g2 rfl).1
      obtain ⟨kl, hkl2⟩ : ∃ n, K.length = n := ⟨_, rfl⟩
      rw [hkl2] at hc hml hkl
      have i0' : (0 : Int) ≤ (k : Int) := by omega
      have i1' : (k : Int) < (ls.length : Int) := by omega
      have j0' : (0 : Int) ≤ (m : Int) := by omega
      have j1' : (m : Int) < (kl : Int) := by omega
      clear hV hgd HTK hK hf hkl2
      go_wp2_with (at_builtin; go_loud (refine wpList_append_block _ rfl (.tmp 15) (.tmp 24) 53 rfl (w.heap.size + 1) 73 i0 (.agg #[.int .i64 0, .int .i64 0, .string ⟨#[]⟩]) 3 32 Try.underlying53 hi iz0 iz1 iz2 rfl (by decide) g2 k c2 (flatV (acr (ls.take k) m)) rfl (HO.out.alloc _) _ 1 1 [.int .i64 vk, .int .i64 vn, .string vs] rfl rfl (news_new (by first | rfl | simp)) (by simp [Value.oneCell']) (by unfold maxLen; omega) (by omega) (by first | omega | (simp; done) | (simp; omega)) ?_); intro g5 c5 w5 hown hgr hgg; rw [← hfl.out] at hown; have HO5 := Lib.hid hown; have HB5 := Lib.hid (Below.grown (HB.out.alloc hz _) hgr (by simp; omega) (fun k hk => by obtain rfl := Option.some.inj hk; omega)); have HX5 := Lib.hid ((HX.out.alloc _).grown hgr (by omega)); clear hown hgr hgg)
      exact ⟨⟨k + 1, g5, c5, by omega, by go_num, rfl, HO5, HX5, HB5⟩, by simp [intOf]; omega⟩
    · obtain rfl : k = ls.length := by omega
      have HOF := HO.out
      rw [List.take_length] at HOF
      have HO2 := Lib.hid HOF
      clear HOF
      go_wp2
      go_ret
      exact ⟨g2, c2, by rw [acr_len]; rfl, (RowO.of_own (by rw [acr_len]; exact HO2.out)).lower (by omega), HB.out⟩
set_option maxHeartbeats 2000000 in
theorem batchRowsS (A1 A2 : Option Addr) (g1 o1 c1 g2 o2 c2 : Nat) (ls : List RT) (bs : List Bool) (w : World) (h : BatR w A1 g1 o1 A2 g2 o2 ls bs) (hok : Ok2 ls) (hl : bs.length ≤ 2000000) :
    Calls Try.prog 17 #[.agg #[.slice A1 ls.length c1, .slice A2 bs.length c2]] w (RetBag (batR ls bs) w) := by
  obtain ⟨i0, hi, iz0, iz1, iz2⟩ := info_parts infoVS
  have HA := Lib.hid h
  have HK := Lib.hid hok
  have hll := hok.1
  have CB := Lib.hid (fun W hW => batchOkS A1 A2 g1 o1 c1 g2 o2 c2 ls bs W hW hok hl)
  have HAL := Lib.hid (h.alloc (.cells #[.slice A1 ls.length c1, .slice A2 bs.length c2] 30))
  clear h hok
  obtain ⟨Z, hZ⟩ : ∃ Z, batR ls bs = Z := ⟨_, rfl⟩
  rw [hZ]
  have HZ := Lib.hid hZ
  clear hZ
  have HAP := Lib.hid (fun (h : batB ls bs.length = true) => batB_in h)
  obtain ⟨n, hn⟩ : ∃ n, bs.length = n := ⟨_, rfl⟩
  have HNL := Lib.hid hn
  rw [hn] at hl CB HAL HAP
  rw [hn]
  clear hn
  have BX0 := Lib.hid ((show Box2 w.heap.size (.slice A1 ls.length c1) (.slice A2 n c2) (w.alloc (.cells #[.slice A1 ls.length c1, .slice A2 n c2] 30)) from ⟨by simp [go_sem], by simp [go_sem]⟩).alloc (.cells #[] 53))
  have HB0 := Lib.hid (((Below.refl w.heap.size w).alloc (Nat.le_refl _) (.cells #[.slice A1 ls.length c1, .slice A2 n c2] 30)).alloc (by simp) (.cells #[] 53))
  have BAG0 := Lib.hid (bag_empty (w := w.alloc (.cells #[.slice A1 ls.length c1, .slice A2 n c2] 30)) (X := w.heap.size + 1) (by simp))
  obtain ⟨y9, hy9⟩ : ∃ y, batB ls n = y := ⟨_, rfl⟩
  rw [hy9] at CB HAP
  have HZY := Lib.hid (show Z = if y9 = true then pckN ls bs n else [] by rw [← HZ.out]; unfold batR; rw [HNL.out, hy9])
  clear hy9 HZ
  go_enter Try.func17, Try.ntmps17
  cases y9 with
  | false =>
    have HZ2 : Z = [] := HZY.out
    subst HZ2
    go_wp2
    go_loopw [3, 4] (fun ox ix wr => ix = .int .i64 0 ∧ ox = .slice (some ⟨w.heap.size + 1, 0, none⟩) 0 0 ∧ Hid (Bag wr (w.heap.size + 1) (w.heap.size + 1) 0 [] []) ∧ Hid (Box2 w.heap.size (.slice A1 ls.length c1) (.slice A2 n c2) wr) ∧ Hid (Below w.heap.size w wr)) (fun _ _ _ => 0)
    case atStart => exact ⟨rfl, rfl, BAG0, BX0, HB0⟩
    case round =>
      clear BAG0 HB0 BX0
      obtain ⟨rfl, rfl, BAG, HX, HB⟩ := hrel
      have hwz := HB.out.size
      obtain ⟨b0, b1⟩ := HX.out
      by_cases hlt : 0 < n
      · have i1' : (0 : Int) < (n : Int) := by omega
        go_wp2_with (go_at_call 13; (with_reducible refine (CB.out _ (HA.out.below HB.out)).mono ?_); rintro e w2 ⟨rfl, hb2⟩; have BAG2 := Lib.hid (BAG.out.below hb2); have HB2 := Lib.hid (HB.out.trans (hb2.mono hwz)); clear hb2 b0 b1)
        go_ret
        exact ⟨_, _, _, rfl, BAG2.out.lower (by omega), HB2.out⟩
      · obtain rfl : n = 0 := by omega
        go_wp2
        go_ret
        exact ⟨_, _, _, rfl, BAG.out.lower (by omega), HB.out⟩
  | true =>
    obtain ⟨h4, h5, hin⟩ := HAP.out rfl
    have HIN := Lib.hid hin
    have HZ2 := Lib.hid (show pckN ls bs n = Z from HZY.out.symm)
    clear hin HZY
    go_wp2
    go_loopw [3, 4] (fun ox ix wr => ∃ (k g c : Nat) (T : List TT) (o : List RT), k ≤ n ∧ ix = .int .i64 k ∧ ox = .slice (some ⟨g, 0, none⟩) o.length c ∧ o.length ≤ k ∧ Hid (o = pckN ls bs k) ∧ Hid (Bag wr (w.heap.size + 1) g c T o) ∧ Hid (Box2 w.heap.size (.slice A1 ls.length c1) (.slice A2 n c2) wr) ∧ Hid (Below w.heap.size w wr) ∧ (w.heap.size + 1) ≤ wr.heap.size) (fun _ ix _ => n - (intOf ix).toNat)
    case atStart => exact ⟨0, w.heap.size + 1, 0, [], [], Nat.zero_le _, rfl, rfl, Nat.le_refl _, rfl, BAG0, BX0, HB0, by simp⟩
    case round =>
      clear BAG0 HB0 BX0
      obtain ⟨k, g, c, T, o, hk, rfl, rfl, hol, HO, BAG, HX, HB, hwr⟩ := hrel
      have hwz := HB.out.size
      obtain ⟨b0, b1⟩ := HX.out
      by_cases hlt : k < n
      · have hkb : k < bs.length := by rw [HNL.out]; exact hlt
        obtain ⟨rfl, hg2, cb⟩ := (HA.out.below HB.out).pk.b k hkb
        have HS := Lib.hid (pckN_succ ls bs k hkb)
        obtain ⟨y, hy⟩ : ∃ y, bs[k] = y := ⟨_, rfl⟩
        rw [hy] at cb HS
        rw [← HO.out] at HS
        clear hy hkb
        obtain ⟨ol, hol2⟩ : ∃ n, o.length = n := ⟨_, rfl⟩
        have HOL := Lib.hid hol2
        rw [hol2] at hol
        rw [hol2]
        clear hol2
        have i0' : (0 : Int) ≤ (k : Int) := by omega
        have i1' : (k : Int) < (n : Int) := by omega
        cases y with
        | false =>
          have HN : Hid (o = pckN ls bs (k + 1)) := by show _ = _; rw [HS.out]; simp
          clear HS HO
          go_wp2_with (go_at_call 13; (with_reducible refine (CB.out _ (HA.out.below HB.out)).mono ?_); rintro e w5 ⟨rfl, hb5⟩; have BAGn := Lib.hid (BAG.out.below hb5); have HXn := Lib.hid (HX.out.below hb5); have HBn := Lib.hid (HB.out.trans (hb5.mono hwz)); have hwr5 := Nat.le_trans hwr hb5.size; have cb5 := (hb5.cell (p := ⟨g2, o2 + k, none⟩) hg2).trans cb; have hg5 := Nat.lt_of_lt_of_le hg2 hb5.size; have hwz5 := HBn.out.size; clear b0 b1 BAG HX HB hb5 cb; have BAG := BAGn; have HX := HXn; have HB := HBn; clear BAGn HXn HBn; obtain ⟨b0, b1⟩ := HX.out)
          exact ⟨⟨k + 1, g, c, T, o, by omega, by go_num, by rw [HOL.out], by rw [HOL.out]; omega, HN, BAG, HX, HB, hwr5⟩, by simp [intOf]; omega⟩
        | true =>
          have HN : Hid (o ++ [acr ls k] = pckN ls bs (k + 1)) := by show _ = _; rw [HS.out]; rfl
          clear HS HO
          have CV := Lib.hid (fun PV W hW => l9Row A1 g1 o1 c1 PV ls k W hW HK.out (fun c hc => by rw [(HIN.out c hc).1]; exact hlt))
          obtain ⟨N, hN⟩ : ∃ N, acr ls k = N := ⟨_, rfl⟩
          rw [hN] at CV HN
          unfold RetRw at CV
          obtain ⟨nl, hnl⟩ : ∃ n, N.length = n := ⟨_, rfl⟩
          have HNN := Lib.hid hnl
          rw [hnl] at CV
          clear hnl hN
          have HLN : Hid ((o ++ [N]).length = ol + 1) := by show _ = _; rw [List.length_append, HOL.out]; rfl
          go_wp2_with (first
            | (go_at_call 13; (with_reducible refine (CB.out _ (HA.out.below HB.out)).mono ?_); rintro e w5 ⟨rfl, hb5⟩; have BAGn := Lib.hid (BAG.out.below hb5); have HXn := Lib.hid (HX.out.below hb5); have HBn := Lib.hid (HB.out.trans (hb5.mono hwz)); have hwr5 := Nat.le_trans hwr hb5.size; have cb5 := (hb5.cell (p := ⟨g2, o2 + k, none⟩) hg2).trans cb; have hg5 := Nat.lt_of_lt_of_le hg2 hb5.size; have hwz5 := HBn.out.size; clear b0 b1 BAG HX HB hb5 cb; have BAG := BAGn; have HX := HXn; have HB := HBn; clear BAGn HXn HBn; obtain ⟨b0, b1⟩ := HX.out)
            | (go_at_call 63; (with_reducible refine (CV.out _ _ (HA.out.below HB.out).cs).mono ?_); rintro e w2 ⟨g3, c3, rfl, hr2, hb2⟩; have HR2 := Lib.hid hr2; have BAG2 := Lib.hid (BAG.out.below hb2); have HX2 := Lib.hid (HX.out.below hb2); have HB2 := Lib.hid (HB.out.trans (hb2.mono hwz5)); have HBB := Lib.hid hb2; have hwz2 := HB2.out.size; have hwr2 := Nat.le_trans hwr5 hb2.size; clear hb2 hr2 b0 b1)
            | (at_builtin; go_loud (refine wpList_append_block _ rfl (.tmp 22) (.tmp 26) 28 rfl (w.heap.size + 1) 53 i0 (.slice none 0 0) 1 24 Try.underlying28 hi iz0 iz1 iz2 rfl (by decide) g ol c (T.map hdr) rfl (by have h := BAG2.out.own; rw [HOL.out] at h; exact h.alloc _) _ 1 1 [.slice (some ⟨g3, 0, none⟩) nl c3] rfl rfl (news_new (by first | rfl | simp)) (by simp [Value.oneCell']) (by unfold maxLen; omega) (by omega) (by first | omega | (simp; done) | (simp; omega)) ?_); intro g4 c4 w3 hown hgr hgg; go_loud (have HNB := Lib.hid (Bag.push2 BAG.out HR2.out HBB.out (by rw [HOL.out]) (by have h := hown; rw [← HNN.out] at h; exact h) hgr hgg); have HB3 := Lib.hid (Below.grown (HB2.out.alloc hwz2 _) hgr (by simp; omega) (fun k hk => by obtain rfl := Option.some.inj hk; have := BAG.out.lo.1; omega)); have HX3 := Lib.hid (HX2.out.alloc _ |>.grown hgr (by have := BAG.out.lo.1; omega)); have hwr3 : (w.heap.size + 1) ≤ w3.heap.size := (by have h1 := hgr.size; simp at h1; omega); clear hown hgr hgg)))
          exact ⟨⟨k + 1, g4, c4, _, o ++ [N], by omega, by go_num, by rw [HLN.out], by rw [HLN.out]; omega, HN, HNB, HX3, HB3, hwr3⟩, by simp [intOf]; omega⟩
      · obtain rfl : k = n := by omega
        have HO2 : Hid (o = Z) := by show _ = _; rw [HO.out, HZ2.out]
        obtain rfl := HO2.out
        go_wp2
        go_ret
        exact ⟨g, c, T, rfl, BAG.out.lower (by omega), HB.out⟩
end Go.Proofs.Ytjidkjnlnenmbaa.Val
