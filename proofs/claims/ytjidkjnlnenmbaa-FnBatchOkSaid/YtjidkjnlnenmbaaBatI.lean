/- BatchOk, BatchRows: the program's. -/
import Derived.Test.YtjidkjnlnenmbaaBatM
namespace Go.Proofs.Ytjidkjnlnenmbaa.Val
open Go.RowKit
set_option linter.unusedVariables false
set_option maxRecDepth 8000
theorem valuesAcross (A : Option Addr) (g o cap : Nat) (ls : List RT) (m : Nat) (w : World) (hA : Rws w g o A ls) (hok : Ok2 ls) (hin : ∀ c ∈ ls, m < c.length) :
    Calls Try.prog 64 #[.slice A ls.length cap, .int .i64 (m : Int)] w (RetRw (acr ls m) w) := by
  obtain ⟨i0, hi, iz0, iz1, iz2⟩ := info_parts infoVc
  have HA := Lib.hid hA
  have HIN := Lib.hid hin
  have HK := Lib.hid hok
  have hl := hok.1
  have OWN := Lib.hid (own_empty3 (w := w) (B := w.heap.size) 73 3 rfl (Nat.le_refl _))
  clear hA hin hok
  go_enter Try.func64, Try.ntmps64
  go_wp2
  go_loopw [5, 6] (fun ox kx wr => ∃ (k g2 c2 : Nat), k ≤ ls.length ∧ kx = .int .i64 k ∧ ox = .slice (some ⟨g2, 0, none⟩) k c2 ∧ Hid (wr.ownsRow w.heap.size 73 3 (.slice (some ⟨g2, 0, none⟩) k c2) k (flatV (acr (ls.take k) m))) ∧ Hid (Below w.heap.size w wr)) (fun _ kx _ => ls.length - (intOf kx).toNat)
  case atStart => exact ⟨0, w.heap.size, 0, Nat.zero_le _, rfl, rfl, OWN, (Below.refl _ _).alloc (Nat.le_refl _) _⟩
  case round =>
    clear OWN
    obtain ⟨k, g2, c2, hk, rfl, rfl, HO, HB⟩ := hrel
    have hz := HB.out.size
    by_cases hlt : k < ls.length
    · obtain ⟨rfl, hg, c', g', o', hc, hf⟩ := (HA.out.below HB.out).at k hlt
      have HTK := Lib.hid (List.take_succ_eq_append_getElem hlt)
      have hml := HIN.out _ (List.getElem_mem hlt)
      have hkl := (HK.out.at k hlt).1
      obtain ⟨K, hK⟩ : ∃ K, ls[k] = K := ⟨_, rfl⟩
      rw [hK] at hc hf HTK hml hkl
      obtain ⟨-, hg3, e0, e1, e2⟩ := hf.v m hml
      have hgd : K.getD m nilV = K[m] := getD_lt hml _
      obtain ⟨V, hV⟩ : ∃ V, K[m] = V := ⟨_, rfl⟩
      rw [hV] at e0 e1 e2 hgd
      obtain ⟨vk, vn, vs⟩ := V
      simp only at e0 e1 e2
      have hfl := Lib.hid (show flatV (acr (ls.take (k + 1)) m) = flatV (acr (ls.take k) m) ++ [.int .i64 vk, .int .i64 vn, .string vs] by
        unfold acr; rw [HTK.out, List.map_append, flatV_app]; simp only [List.map_cons, List.map_nil, hgd]; rfl)
      have hgs := (HO.out.lt g2 rfl).1
      obtain ⟨kl, hkl2⟩ : ∃ n, K.length = n := ⟨_, rfl⟩
      rw [hkl2] at hc hml hkl
      have i0' : (0 : Int) ≤ (k : Int) := by omega
      have i1' : (k : Int) < (ls.length : Int) := by omega
      have j0' : (0 : Int) ≤ (m : Int) := by omega
      have j1' : (m : Int) < (kl : Int) := by omega
      clear hV hgd HTK hK hf hkl2
      go_wp2_with (at_builtin; go_loud (refine wpList_append_block _ rfl (.tmp 14) (.tmp 22) 53 rfl w.heap.size 73 i0 (.agg #[.int .i64 0, .int .i64 0, .string ⟨#[]⟩]) 3 32 Try.underlying53 hi iz0 iz1 iz2 rfl (by decide) g2 k c2 (flatV (acr (ls.take k) m)) rfl (HO.out.alloc _) _ 1 1 [.int .i64 vk, .int .i64 vn, .string vs] rfl rfl (news_new (by first | rfl | simp)) (by simp [Value.oneCell']) (by unfold maxLen; omega) (by omega) (by first | omega | (simp; done) | (simp; omega)) ?_); intro g5 c5 w5 hown hgr hgg; rw [← hfl.out] at hown; have HO5 := Lib.hid hown; have HB5 := Lib.hid (Below.grown (HB.out.alloc hz _) hgr (by simp; omega) (fun k hk => by obtain rfl := Option.some.inj hk; exact hgs)); clear hown hgr hgg)
      exact ⟨⟨k + 1, g5, c5, by omega, by go_num, rfl, HO5, HB5⟩, by simp [intOf]; omega⟩
    · obtain rfl : k = ls.length := by omega
      have HOF := HO.out
      rw [List.take_length] at HOF
      have HO2 := Lib.hid HOF
      clear HOF
      go_wp2
      go_ret
      exact ⟨g2, c2, by rw [acr_len]; rfl, RowO.of_own (by rw [acr_len]; exact HO2.out), HB.out⟩
set_option maxHeartbeats 1000000 in
theorem batchOkI (A1 A2 : Option Addr) (g1 o1 c1 g2 o2 c2 : Nat) (ls : List RT) (bs : List Bool) (w : World) (h : BatR w A1 g1 o1 A2 g2 o2 ls bs) (hok : Ok2 ls) (hl : bs.length ≤ 2000000) :
    Calls Try.prog 15 #[.agg #[.slice A1 ls.length c1, .slice A2 bs.length c2]] w fun e w' => e = .returned (.bool (batB ls bs.length)) ∧ Below w.heap.size w w' := by
  have HA := Lib.hid h
  have HK := Lib.hid hok
  have hll := hok.1
  obtain ⟨n, hn⟩ : ∃ n, bs.length = n := ⟨_, rfl⟩
  rw [hn] at hl
  rw [hn]
  clear h hok hn
  go_enter Try.func15, Try.ntmps15
  have BX := Lib.hid (show Box2 w.heap.size (.slice A1 ls.length c1) (.slice A2 n c2) (w.alloc (.cells #[.slice A1 ls.length c1, .slice A2 n c2] 30)) from ⟨by simp [go_sem], by simp [go_sem]⟩)
  by_cases ht : 4 < ls.length ∨ 4 < n
  · have hE := batB_too ht
    rw [hE]
    clear hE
    rcases (by omega : 4 < ls.length ∨ (¬ 4 < ls.length ∧ 4 < n)) with ht | ⟨ht, ht2⟩
    · go_wp2
      all_goals (go_ret; exact ⟨rfl, (Below.refl _ _).alloc (Nat.le_refl _) _⟩)
    · go_wp2
      all_goals (go_ret; exact ⟨rfl, (Below.refl _ _).alloc (Nat.le_refl _) _⟩)
  have h4 : ls.length ≤ 4 := by omega
  have h5 : n ≤ 4 := by omega
  rw [batB_all h4 h5]
  clear ht
  go_wp2
  go_loopw [3] (fun ix wr => ∃ k : Nat, k ≤ ls.length ∧ ix = .int .i64 k ∧ Hid (Below w.heap.size w wr) ∧ Hid (Box2 w.heap.size (.slice A1 ls.length c1) (.slice A2 n c2) wr) ∧ Hid ((ls.take k).all (colN n) = true)) (fun ix _ => ls.length - (intOf ix).toNat)
  case atStart => exact ⟨0, Nat.zero_le _, rfl, (Below.refl _ _).alloc (Nat.le_refl _) _, BX, rfl⟩
  case round =>
    clear BX
    obtain ⟨k, hk, rfl, HW, HX, HL⟩ := hrel
    obtain ⟨b0, b1⟩ := HX.out
    by_cases hlt : k < ls.length
    · obtain ⟨rfl, hg, c', g', o', hc, hf⟩ := (HA.out.below HW.out).cs.at k hlt
      have HF := Lib.hid hf
      have HS := Lib.hid (all_snoc (colN n) ls k hlt)
      have HN := Lib.hid (fun hp => all_no (p := colN n) k hlt hp)
      obtain ⟨hlr, hsr⟩ := HK.out.at k hlt
      obtain ⟨K, hK⟩ : ∃ K, ls[k] = K := ⟨_, rfl⟩
      rw [hK] at hc HF HS HN hlr hsr
      clear hK hf
      have CV := Lib.hid (fun W hW => valuesOkI (some ⟨g', o', none⟩) g' o' c' K W hW hlr hsr)
      have i0' : (0 : Int) ≤ (k : Int) := by omega
      have i1' : (k : Int) < (ls.length : Int) := by omega
      by_cases hq : K.length = n
      · have hE := colN_same hq
        obtain ⟨E, hE2⟩ : ∃ E, K.all okV = E := ⟨_, rfl⟩
        rw [hE2] at hE CV
        rw [hE] at HS HN
        clear hE hE2
        rw [hq] at hc CV
        have q0 : ((n : Int) != (n : Int)) = false := by simp
        clear hq
        have hS : (fun W : World => W.cell? ⟨w.heap.size, 0, none⟩ = some (.slice (some ⟨g1, o1, none⟩) ls.length c1) ∧ W.cell? ⟨w.heap.size, 1, none⟩ = some (.slice A2 n c2) ∧ W.cell? ⟨g1, o1 + k, none⟩ = some (.slice (some ⟨g', o', none⟩) n c') ∧ Fl W g' o' (some ⟨g', o', none⟩) (flatV K) ∧ Below w.heap.size w W ∧ w.heap.size ≤ W.heap.size) wr := ⟨b0, b1, hc, HF.out, HW.out, HW.out.size⟩
        clear b0 b1 hc HF
        go_wp2_with (fail)
        cases E with
        | false =>
          have HNO := Lib.hid (HN.out rfl)
          clear HN HS
          go_region_held_law (fun W : World => W.cell? ⟨w.heap.size, 0, none⟩ = some (.slice (some ⟨g1, o1, none⟩) ls.length c1) ∧ W.cell? ⟨w.heap.size, 1, none⟩ = some (.slice A2 n c2) ∧ W.cell? ⟨g1, o1 + k, none⟩ = some (.slice (some ⟨g', o', none⟩) n c') ∧ Fl W g' o' (some ⟨g', o', none⟩) (flatV K) ∧ Below w.heap.size w W ∧ w.heap.size ≤ W.heap.size) (first | exact keep3 (by assumption) hbq | exact keep3D (by assumption) | assumption) (first | (go_at_call 61; (with_reducible refine (CV.out _ (keep3F (by assumption))).mono ?_); rintro e w1 ⟨rfl, hbq⟩))
          all_goals go_wp2
          all_goals (go_ret; exact ⟨retB (by rw [HNO.out]), keep3B (by assumption)⟩)
        | true =>
          have HL2 : Hid ((ls.take (k + 1)).all (colN n) = true) := by show _ = _; rw [HS.out, HL.out]; rfl
          clear HN HS
          go_region_held_law (fun W : World => W.cell? ⟨w.heap.size, 0, none⟩ = some (.slice (some ⟨g1, o1, none⟩) ls.length c1) ∧ W.cell? ⟨w.heap.size, 1, none⟩ = some (.slice A2 n c2) ∧ W.cell? ⟨g1, o1 + k, none⟩ = some (.slice (some ⟨g', o', none⟩) n c') ∧ Fl W g' o' (some ⟨g', o', none⟩) (flatV K) ∧ Below w.heap.size w W ∧ w.heap.size ≤ W.heap.size) (first | exact keep3 (by assumption) hbq | exact keep3D (by assumption) | assumption) (first | (go_at_call 61; (with_reducible refine (CV.out _ (keep3F (by assumption))).mono ?_); rintro e w1 ⟨rfl, hbq⟩))
          all_goals (have HWN := Lib.hid (keep3B (by assumption)); have HXN := Lib.hid (keep3X (by assumption)))
          all_goals go_wp2
          all_goals exact ⟨⟨k + 1, by omega, by go_num, HWN, HXN, HL2⟩, by simp [intOf]; omega⟩
      · have hE := colN_len hq
        rw [hE] at HN
        have HNO := Lib.hid (HN.out rfl)
        obtain ⟨kl, hkl⟩ : ∃ m, K.length = m := ⟨_, rfl⟩
        rw [hkl] at hc hq hlr
        have q0 : ((kl : Int) != (n : Int)) = true := by simp; omega
        clear hE HS HN CV hkl
        go_wp2
        go_quiet (fail)
        go_wp2
        all_goals (go_ret; exact ⟨retB (by rw [HNO.out]), below_drewB HW.out⟩)
    · obtain rfl : k = ls.length := by omega
      go_wp2
      go_ret
      refine ⟨retB ?_, HW.out⟩
      rw [all_end HL]
set_option maxHeartbeats 2000000 in
theorem batchRowsT (A1 A2 : Option Addr) (g1 o1 c1 g2 o2 c2 : Nat) (ls : List RT) (bs : List Bool) (w : World) (h : BatR w A1 g1 o1 A2 g2 o2 ls bs) (hok : Ok2 ls) (hl : bs.length ≤ 2000000) (hE : batB ls bs.length = true) :
    Calls Try.prog 18 #[.agg #[.slice A1 ls.length c1, .slice A2 bs.length c2]] w (RetBag (batR ls bs) w) := by
  obtain ⟨i0, hi, iz0, iz1, iz2⟩ := info_parts infoVS
  have HA := Lib.hid h
  have HK := Lib.hid hok
  have hll := hok.1
  have CB := Lib.hid (fun W hW => batchOkI A1 A2 g1 o1 c1 g2 o2 c2 ls bs W hW hok hl)
  have HAL := Lib.hid (h.alloc (.cells #[.slice A1 ls.length c1, .slice A2 bs.length c2] 30))
  clear h hok
  obtain ⟨h4, h5, hin⟩ := batB_in hE
  have hz : batR ls bs = pckN ls bs bs.length := by unfold batR; rw [if_pos hE]
  rw [hz]
  rw [hE] at CB
  clear hE hz
  obtain ⟨Z, hZ⟩ : ∃ Z, pckN ls bs bs.length = Z := ⟨_, rfl⟩
  rw [hZ]
  have HZ := Lib.hid hZ
  clear hZ
  have HIN := Lib.hid hin
  clear hin
  obtain ⟨n, hn⟩ : ∃ n, bs.length = n := ⟨_, rfl⟩
  have HNL := Lib.hid hn
  rw [hn] at h5 hl HZ CB HAL HIN
  rw [hn]
  clear hn
  go_enter Try.func18, Try.ntmps18
  have BX := Lib.hid (show Box2 w.heap.size (.slice A1 ls.length c1) (.slice A2 n c2) (w.alloc (.cells #[.slice A1 ls.length c1, .slice A2 n c2] 30)) from ⟨by simp [go_sem], by simp [go_sem]⟩)
  go_wp2_with (go_at_call 15; (with_reducible refine (CB.out _ HAL.out).mono ?_); rintro e w1 ⟨rfl, hb1⟩; have HB1 := Lib.hid (((Below.refl w.heap.size w).alloc (Nat.le_refl _) _).trans (hb1.mono (by simp))); have BX1 := Lib.hid (BX.out.below hb1); have hw1 := hb1.size; clear hb1)
  simp at hw1
  clear BX HAL CB
  have BAG0 := Lib.hid (Bag.empty w1)
  have HB0 := Lib.hid (HB1.out.alloc HB1.out.size (.cells #[] 53))
  have BX0 := Lib.hid (BX1.out.alloc (.cells #[] 53))
  clear HB1 BX1
  go_loopw [3, 4] (fun ox ix wr => ∃ (k g c : Nat) (T : List TT) (o : List RT), k ≤ n ∧ ix = .int .i64 k ∧ ox = .slice (some ⟨g, 0, none⟩) o.length c ∧ o.length ≤ k ∧ Hid (o = pckN ls bs k) ∧ Hid (Bag wr w1.heap.size g c T o) ∧ Hid (Box2 w.heap.size (.slice A1 ls.length c1) (.slice A2 n c2) wr) ∧ Hid (Below w.heap.size w wr) ∧ w1.heap.size ≤ wr.heap.size) (fun _ ix _ => n - (intOf ix).toNat)
  case atStart => exact ⟨0, w1.heap.size, 0, [], [], Nat.zero_le _, rfl, rfl, Nat.le_refl _, rfl, BAG0, BX0, HB0, by simp⟩
  case round =>
    clear BAG0 HB0 BX0
    obtain ⟨k, g, c, T, o, hk, rfl, rfl, hol, HO, BAG, HX, HB, hwr⟩ := hrel
    have hwz := HB.out.size
    obtain ⟨b0, b1⟩ := HX.out
    by_cases hlt : k < n
    · have hkb : k < bs.length := by rw [HNL.out]; exact hlt
      obtain ⟨rfl, hg2, cb⟩ := (HA.out.below HB.out).pk.b k hkb
      have HS := Lib.hid (pckN_succ ls bs k hkb)
      obtain ⟨y, hy⟩ : ∃ y, bs[k] = y := ⟨_, rfl⟩
      rw [hy] at cb HS
      rw [← HO.out] at HS
      clear hy hkb
      obtain ⟨ol, hol2⟩ : ∃ n, o.length = n := ⟨_, rfl⟩
      have HOL := Lib.hid hol2
      rw [hol2] at hol
      rw [hol2]
      clear hol2
      have i0' : (0 : Int) ≤ (k : Int) := by omega
      have i1' : (k : Int) < (n : Int) := by omega
      cases y with
      | false =>
        have HN : Hid (o = pckN ls bs (k + 1)) := by show _ = _; rw [HS.out]; simp
        clear HS HO
        go_wp2
        exact ⟨⟨k + 1, g, c, T, o, by omega, by go_num, by rw [HOL.out], by rw [HOL.out]; omega, HN, BAG, HX, HB, hwr⟩, by simp [intOf]; omega⟩
      | true =>
        have HN : Hid (o ++ [acr ls k] = pckN ls bs (k + 1)) := by show _ = _; rw [HS.out]; rfl
        clear HS HO
        have CV := Lib.hid (fun W hW => valuesAcross A1 g1 o1 c1 ls k W hW HK.out (fun c hc => by rw [(HIN.out c hc).1]; exact hlt))
        obtain ⟨N, hN⟩ : ∃ N, acr ls k = N := ⟨_, rfl⟩
        rw [hN] at CV HN
        unfold RetRw at CV
        obtain ⟨nl, hnl⟩ : ∃ n, N.length = n := ⟨_, rfl⟩
        have HNN := Lib.hid hnl
        rw [hnl] at CV
        clear hnl hN
        have HLN : Hid ((o ++ [N]).length = ol + 1) := by show _ = _; rw [List.length_append, HOL.out]; rfl
        go_wp2_with (first
          | (go_at_call 64; (with_reducible refine (CV.out _ (HA.out.below HB.out).cs).mono ?_); rintro e w2 ⟨g3, c3, rfl, hr2, hb2⟩; have HR2 := Lib.hid hr2; have BAG2 := Lib.hid (BAG.out.below hb2); have HX2 := Lib.hid (HX.out.below hb2); have HB2 := Lib.hid (HB.out.trans (hb2.mono hwz)); have HBB := Lib.hid hb2; have hwz2 := HB2.out.size; have hwr2 := Nat.le_trans hwr hb2.size; clear hb2 hr2 b0 b1)
          | (at_builtin; go_loud (refine wpList_append_block _ rfl (.tmp 21) (.tmp 26) 28 rfl w1.heap.size 53 i0 (.slice none 0 0) 1 24 Try.underlying28 hi iz0 iz1 iz2 rfl (by decide) g ol c (T.map hdr) rfl (by have h := BAG2.out.own; rw [HOL.out] at h; exact h.alloc _) _ 1 1 [.slice (some ⟨g3, 0, none⟩) nl c3] rfl rfl (news_new (by first | rfl | simp)) (by simp [Value.oneCell']) (by unfold maxLen; omega) (by omega) (by first | omega | (simp; done) | (simp; omega)) ?_); intro g4 c4 w3 hown hgr hgg; go_loud (have HNB := Lib.hid (Bag.push2 BAG.out HR2.out HBB.out (by rw [HOL.out]) (by have h := hown; rw [← HNN.out] at h; exact h) hgr hgg); have HB3 := Lib.hid (Below.grown (HB2.out.alloc hwz2 _) hgr (by simp; omega) (fun k hk => by obtain rfl := Option.some.inj hk; have := BAG.out.lo.1; omega)); have HX3 := Lib.hid (HX2.out.alloc _ |>.grown hgr (by have := BAG.out.lo.1; omega)); have hwr3 : w1.heap.size ≤ w3.heap.size := (by have h1 := hgr.size; simp at h1; omega); clear hown hgr hgg)))
        exact ⟨⟨k + 1, g4, c4, _, o ++ [N], by omega, by go_num, by rw [HLN.out], by rw [HLN.out]; omega, HN, HNB, HX3, HB3, hwr3⟩, by simp [intOf]; omega⟩
    · obtain rfl : k = n := by omega
      have HO2 : Hid (o = Z) := by show _ = _; rw [HO.out, HZ.out]
      obtain rfl := HO2.out
      go_wp2
      go_ret
      exact ⟨g, c, T, rfl, BAG.out.lower (by omega), HB.out⟩
set_option maxHeartbeats 2000000 in
theorem batchRowsI (A1 A2 : Option Addr) (g1 o1 c1 g2 o2 c2 : Nat) (ls : List RT) (bs : List Bool) (w : World) (h : BatR w A1 g1 o1 A2 g2 o2 ls bs) (hok : Ok2 ls) (hl : bs.length ≤ 2000000) :
    Calls Try.prog 18 #[.agg #[.slice A1 ls.length c1, .slice A2 bs.length c2]] w (RetBagN (batR ls bs) w) := by
  cases hE : batB ls bs.length with
  | true =>
    refine (batchRowsT A1 A2 g1 o1 c1 g2 o2 c2 ls bs w h hok hl hE).mono ?_
    rintro e w' ⟨g, c, T, rfl, hb, hb2⟩
    exact ⟨.inl ⟨g, c, T, rfl, hb⟩, hb2⟩
  | false =>
    have CB := Lib.hid (fun W hW => batchOkI A1 A2 g1 o1 c1 g2 o2 c2 ls bs W hW hok hl)
    have HAL := Lib.hid (h.alloc (.cells #[.slice A1 ls.length c1, .slice A2 bs.length c2] 30))
    clear h hok
    have hz : batR ls bs = [] := by unfold batR; rw [hE]; rfl
    rw [hz]
    rw [hE] at CB
    clear hE hz
    go_enter Try.func18, Try.ntmps18
    go_wp2_with (go_at_call 15; (with_reducible refine (CB.out _ HAL.out).mono ?_); rintro e w1 ⟨rfl, hb1⟩; have HB1 := Lib.hid (((Below.refl w.heap.size w).alloc (Nat.le_refl _) _).trans (hb1.mono (by simp))); clear hb1)
    go_ret
    exact ⟨.inr ⟨rfl, rfl⟩, HB1.out⟩
end Go.Proofs.Ytjidkjnlnenmbaa.Val
