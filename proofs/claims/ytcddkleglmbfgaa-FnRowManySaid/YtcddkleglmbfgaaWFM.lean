/- The walk of the law FnRowMany. -/
import Derived.Test.YtcddkleglmbfgaaLSame
import Derived.Test.YtcddkleglmbfgaaDrawBg
import Derived.Test.YtcddkleglmbfgaaRSame
import Derived.Test.YtcddkleglmbfgaaAlive
namespace Go.Proofs.Ytcddkleglmbfgaa.Val
open Go.RowKit
set_option linter.unusedVariables false
set_option maxRecDepth 20000
theorem rowManyEnters (vs : Array Value) (w : World) : (callFunc 28 vs).run Try.prog w = .ok (.enter 28 vs) w := by
  go_simp
theorem aliveEnters (vs : Array Value) (w : World) : (callFunc 21 vs).run Try.prog w = .ok (.enter 21 vs) w := by
  go_simp
theorem news_nil {W : World} {ad : Addr} {D : List Value} (h : D.length = 0) : ∀ j u, D[j]? = some u → W.cell? (ad.add j) = some u := by
  intro j u hu
  rw [List.eq_nil_of_length_eq_zero h] at hu
  simp at hu
theorem sumC_take (o l : List RT) (k : Nat) : sumC (o.take k) l ≤ sumC o l := by
  have h : sumC (o.take k ++ o.drop k) l = sumC (o.take k) l + sumC (o.drop k) l := by rw [sumC, List.map_append, List.sum_append]; rfl
  rw [List.take_append_drop] at h
  omega
theorem count_half (l : List RT) (k : Nat) (r : RT) : l.count r = (l.take k).count r + (l.drop k).count r := by
  rw [← List.count_append, List.take_append_drop]
set_option maxHeartbeats 8000000 in
theorem walk_FnRowMany (a : Option Addr) (len cap : Nat) (zs : List Int) (w0 : World) (h : IsRow .u8 w0 a len cap zs) :
    Calls Try.prog 5 #[.slice a len cap] w0 fun e w' => e = .returned (.bool true) ∧ Below w0.heap.size w0 w' := by
  by_cases hl : 1048576 < len
  · clear h
    go_enter Try.func5, Try.ntmps5
    go_wp2
    go_ret
    exact ⟨rfl, Below.refl _ _⟩
  · have HI := Lib.hid h
    clear h
    go_enter Try.func5, Try.ntmps5
    obtain ⟨i0, hi, iz0, iz1, iz2⟩ := info_parts infoVS
    go_wp2_with (go_at_call 27; (with_reducible refine (drawRowMany _ _ _ zs _ HI.out).mono ?_); rintro e w ⟨g, c, g2, c2, ls, vs, rfl, hv, hv1, hvt, hvf, hbd⟩; have VR := Lib.hid hv.1; have SM := Lib.hid hv.2.1; have hca := hv.2.2.1; have VF := Lib.hid hvf; have HB0 := Lib.hid hbd; clear hv hbd hvt hvf)
    have S0 := True.intro
    have HB := Lib.hid (Below.refl w.heap.size w)
    have OKL := Lib.hid SM.out.ok
    have hl6 := SM.out.1
    have hzl := once_len ls
    have OKZ : Hid (Ok2 (onceI ls)) := OKL.out.sub (by omega) (fun r hr => (once_mem ls r).1 hr)
    have HSU := Lib.hid (sum_once ls)
    have HST := Lib.hid (fun k => sumC_take (onceI ls) ls k)
    have HSS := Lib.hid (fun k (h : k < (onceI ls).length) => sumC_snoc (onceI ls) ls k h)
    obtain ⟨hh, hhh⟩ : ∃ h, ls.length / 2 = h := ⟨_, rfl⟩
    have hcnt := count_half ls hh vs
    have ht1 : (ls.take hh).length = hh := by simp; omega
    have ht2 : (ls.drop hh).length = ls.length - hh := by simp
    have OK1 : Ok2 (ls.take hh) := OKL.out.sub (by omega) (fun r hr => List.mem_of_mem_take hr)
    have OK2' : Ok2 (ls.drop hh) := OKL.out.sub (by omega) (fun r hr => List.mem_of_mem_drop hr)
    obtain ⟨D1, hD1, hD1c, hD1o⟩ := (VR.out.take hh).heads
    obtain ⟨D2, hD2, hD2c, hD2o⟩ := (VR.out.drop hh).heads
    have hd1l := hD1.1
    have hd2l := hD2.1
    have CM := Lib.hid (fun W g c g' c' A B hA hB => rowManyI A B g 0 g' 0 c c' ls vs W hA hB OKL.out (by omega))
    have CS := Lib.hid (fun W g c g' c' A B hA hB => rowManyS A B g 0 g' 0 c c' ls vs W hA hB OKL.out (by omega))
    have CO := Lib.hid (fun W g c A hv => rowsOnceI A g 0 c ls W hv OKL.out)
    have C1 := Lib.hid (fun W gx cx (hA : Rws W gx 0 (some ⟨gx, 0, none⟩) (ls.take hh)) hB => rowManyI (some ⟨gx, 0, none⟩) (some ⟨g2, 0, none⟩) gx 0 g2 0 cx c2 (ls.take hh) vs W hA hB OK1 (by omega))
    have C2 := Lib.hid (fun W gx cx (hA : Rws W gx 0 (some ⟨gx, 0, none⟩) (ls.drop hh)) hB => rowManyI (some ⟨gx, 0, none⟩) (some ⟨g2, 0, none⟩) gx 0 g2 0 cx c2 (ls.drop hh) vs W hA hB OK2' (by omega))
    obtain ⟨L1, hL1⟩ : ∃ L, ls.take hh = L := ⟨_, rfl⟩
    obtain ⟨L2, hL2⟩ : ∃ L, ls.drop hh = L := ⟨_, rfl⟩
    rw [hL1] at C1 hD1 hd1l ht1 hcnt
    rw [hL2] at C2 hD2 hd2l ht2 hcnt
    have hnb : ls.count vs ≤ ls.length := List.count_le_length
    obtain ⟨nn, hnn⟩ : ∃ m, ls.count vs = m := ⟨_, rfl⟩
    obtain ⟨m1, hm1⟩ : ∃ m, L1.count vs = m := ⟨_, rfl⟩
    obtain ⟨m2, hm2⟩ : ∃ m, L2.count vs = m := ⟨_, rfl⟩
    rw [hnn] at CM CS hcnt hnb
    rw [hm1] at C1 hcnt
    rw [hm2] at C2 hcnt
    obtain ⟨Z, hZ⟩ : ∃ Z, onceI ls = Z := ⟨_, rfl⟩
    rw [hZ] at CO OKZ hzl HSU HST HSS
    unfold RetBag at CO
    obtain ⟨vl, hvl⟩ : ∃ n, vs.length = n := ⟨_, rfl⟩
    rw [hvl] at CM CS C1 C2 ⊢
    have HVL := Lib.hid hvl
    rw [ht1] at C1 hd1l
    rw [ht2] at C2 hd2l
    have HLL1 := Lib.hid ht1
    have HLL2 := Lib.hid ht2
    obtain ⟨n, hn⟩ : ∃ n, ls.length = n := ⟨_, rfl⟩
    have HN := Lib.hid hn
    rw [hn] at hl6 hzl hhh hd2l HLL2 HSU CM CS CO C2 hca hnb ⊢
    have HLD1 := Lib.hid hd1l
    have HLD2 := Lib.hid hd2l
    have HOD1 := Lib.hid hD1o
    have HOD2 := Lib.hid hD2o
    have HDC1 := Lib.hid hD1c
    simp only [Nat.zero_add] at hD2c
    have HDC2 := Lib.hid hD2c
    have HD1 := Lib.hid hD1
    have HD2 := Lib.hid hD2
    have hmm : (m1 : Int) + (m2 : Int) = (nn : Int) := by omega
    have hh0 : (0 : Int) ≤ (hh : Int) := by omega
    have hhc : (hh : Int) ≤ (c : Int) := by omega
    have hhn : (hh : Int) ≤ (n : Int) := by omega
    have eq2 : Int.tdiv (n : Int) 2 = (hh : Int) := by rw [Int.tdiv_eq_ediv_of_nonneg (by omega)]; omega
    have hn6 : hh ≤ 6 := by omega
    have HHH := Lib.hid hhh
    clear hD1 hD2 hD1c hD2c hD1o hD2o hd1l hd2l ht1 ht2 hL1 hL2 hnn hm1 hm2 hZ hvl hn hcnt OK1 OK2' hhh
    go_wp2_with (first
      | ((have _ := S0); (fail_if_success (have _ := S1)); go_at_call 28; (with_reducible refine (CM.out _ _ _ _ _ _ _ (VR.out.below HB.out) (VF.out.below HB.out)).mono ?_); rintro e wn0 ⟨rfl, hb1⟩; have HBn : Hid (Below w.heap.size w wn0) := Below.trans (by repeat (with_reducible first | exact HB.out | refine Below.alloc ?_ (by first | omega | (have := HB.out.size; omega) | (have := HB.out.size; simp; omega)) _ | apply Below.drew)) (Below.mono hb1 (by have := HB.out.size; first | omega | (simp; omega))); clear HB; have HB := HBn; clear HBn; clear hb1; have S1 := True.intro)
      | ((have _ := S1); (fail_if_success (have _ := S2)); go_at_call 29; (with_reducible refine (CS.out _ _ _ _ _ _ _ (VR.out.below HB.out) (VF.out.below HB.out)).mono ?_); rintro e wn1 ⟨rfl, hb1⟩; have HBn : Hid (Below w.heap.size w wn1) := Below.trans (by repeat (with_reducible first | exact HB.out | refine Below.alloc ?_ (by first | omega | (have := HB.out.size; omega) | (have := HB.out.size; simp; omega)) _ | apply Below.drew)) (Below.mono hb1 (by have := HB.out.size; first | omega | (simp; omega))); clear HB; have HB := HBn; clear HBn; clear hb1; have S2 := True.intro)
      | ((have _ := S2); (fail_if_success (have _ := S3)); go_at_call 30; (with_reducible refine (CO.out _ _ _ _ (VR.out.below HB.out)).mono ?_); rintro e wn2 ⟨gz, cz, Tz, rfl, hc, hb1⟩; have HBn : Hid (Below w.heap.size w wn2) := Below.trans (by repeat (with_reducible first | exact HB.out | refine Below.alloc ?_ (by first | omega | (have := HB.out.size; omega) | (have := HB.out.size; simp; omega)) _ | apply Below.drew)) (Below.mono hb1 (by have := HB.out.size; first | omega | (simp; omega))); clear HB; have HB := HBn; clear HBn; have VZ := Lib.hid hc.rws; clear hc; clear hb1; have S3 := True.intro))
    obtain ⟨wL, hwL⟩ : ∃ x, x = wn2 := ⟨_, rfl⟩
    rw [← hwL] at VZ HB ⊢
    clear hwL
    go_loopw [8, 9] (fun sx kx wr => ∃ (k s : Nat), kx = .int .i64 k ∧ k ≤ Z.length ∧ sx = .int .i64 (s : Int) ∧ s ≤ 6 ∧ Hid (s = sumC (Z.take k) ls) ∧ Hid (Below wL.heap.size wL wr)) (fun _ kx _ => Z.length - (intOf kx).toNat)
    case atStart => exact ⟨0, 0, rfl, Nat.zero_le _, rfl, by omega, rfl, Below.refl _ _⟩
    case round =>
      obtain ⟨k, s, rfl, hk, rfl, hs6, HSK, HL⟩ := hrel
      have hzL := HL.out.size
      by_cases hlt : k < Z.length
      · obtain ⟨-, hg1, c1, g1, o1, hc1, hf1⟩ := (VZ.out.below HL.out).at k hlt
        have HF1 := Lib.hid hf1
        have hl1 := (OKZ.out.at k hlt).1
        have hss := HSS.out k hlt
        have hst := HST.out (k + 1)
        rw [HSU.out, hss, ← HSK.out] at hst
        rw [← HSK.out] at hss
        obtain ⟨K, hK⟩ : ∃ K, Z[k] = K := ⟨_, rfl⟩
        rw [hK] at hc1 HF1 hl1 hss hst
        have CK := Lib.hid (fun W hW hW2 => rowManyI (some ⟨g, 0, none⟩) (some ⟨g1, o1, none⟩) g 0 g1 o1 c c1 ls K W hW hW2 OKL.out hl1)
        rw [HN.out] at CK
        obtain ⟨m, hm⟩ : ∃ m, ls.count K = m := ⟨_, rfl⟩
        rw [hm] at CK hss hst
        obtain ⟨kl, hkl⟩ : ∃ n, K.length = n := ⟨_, rfl⟩
        rw [hkl] at hc1 CK
        simp only [Nat.zero_add] at hc1
        have HSN := Lib.hid hss
        clear hK hf1 hkl hm hss
        have i0' : (0 : Int) ≤ (k : Int) := by omega
        have i1' : (k : Int) < (Z.length : Int) := by omega
        go_wp2_with (go_at_call 28; (with_reducible refine (CK.out _ (VR.out.below (HB.out.trans (HL.out.mono HB.out.size))) HF1.out).mono ?_); rintro e w1 ⟨rfl, hb1⟩; have HL1 := Lib.hid (HL.out.trans (hb1.mono hzL)); clear hb1 HL)
        exact ⟨⟨k + 1, s + m, by go_num, by omega, by go_num, by omega, HSN.out.symm, HL1⟩, by simp [intOf]; omega⟩
      · obtain rfl : k = Z.length := by omega
        have hsn : s = n := by have h1 := HSK.out; rw [List.take_length, HSU.out] at h1; exact h1
        subst hsn
        have HBn := Lib.hid (HB.out.trans (HL.out.mono HB.out.size))
        clear HB VZ HL HSK
        have HB := HBn
        clear HBn
        obtain ⟨wC, hwC⟩ : ∃ x, x = wr := ⟨_, rfl⟩
        rw [← hwC] at HB ⊢
        clear hwC hzL
        go_wp2_with (fail)
        by_cases hs0 : s = 0
        · have hh00 : hh = 0 := by have := HHH.out; omega
          subst hh00
          subst hs0
          refine wp_region_any (by kernel_rfl) ?_
          try go_simp
          refine wpAny_take (i := 0) (v := ?_) rfl (by kernel_rfl) (by kernel_rfl) (by kernel_rfl) (fun _ _ _ h => h) (Or.inl ⟨by rfl, ?_⟩) ?_
          rotate_left 1
          · (intro w; go_simp)
            all_goals with_reducible rfl
          try go_simp
          refine wpAny_take (i := 2) (v := ?_) rfl (by kernel_rfl) (by kernel_rfl) (by kernel_rfl) (fun _ _ _ h => h) (Or.inl ⟨by rfl, ?_⟩) ?_
          rotate_left 1
          · (intro w; go_simp)
            all_goals with_reducible rfl
          try go_simp
          refine wpAny_take (i := 3) (v := ?_) rfl (by kernel_rfl) (by kernel_rfl) (by kernel_rfl) (fun _ _ _ h => h) (Or.inl ⟨by rfl, ?_⟩) ?_
          rotate_left 1
          · (intro w; go_simp)
            all_goals with_reducible rfl
          try go_simp
          refine wpAny_take (i := 4) (v := ?_) rfl (by kernel_rfl) (by kernel_rfl) (by kernel_rfl) (fun _ _ _ h => h) (Or.inl ⟨by rfl, ?_⟩) ?_
          rotate_left 1
          · (intro w; go_simp)
            all_goals with_reducible rfl
          try go_simp
          refine wpAny_take (i := 6) (v := ?_) rfl (by kernel_rfl) (by kernel_rfl) (by kernel_rfl) (fun _ _ _ h => h) (Or.inl ⟨by rfl, ?_⟩) ?_
          rotate_left 1
          · (intro w; go_simp)
            all_goals with_reducible rfl
          try go_simp
          refine wpAny_take (i := 9) (v := ?_) rfl (by kernel_rfl) (by kernel_rfl) (by kernel_rfl) (fun _ _ _ h => h) (Or.inl ⟨by rfl, ?_⟩) ?_
          rotate_left 1
          · (intro w; go_simp)
            all_goals with_reducible rfl
          try go_simp
          refine wpAny_take (i := 10) (v := ?_) rfl (by kernel_rfl) (by kernel_rfl) (by kernel_rfl) (fun _ _ _ h => h) (Or.inl ⟨by rfl, ?_⟩) ?_
          rotate_left 1
          · (intro w; go_simp)
            all_goals with_reducible rfl
          try go_simp
          refine wpAny_take (i := 11) (v := ?_) rfl (by kernel_rfl) (by kernel_rfl) (by kernel_rfl) (fun _ _ _ h => h) (Or.inl ⟨by rfl, ?_⟩) ?_
          rotate_left 1
          · (intro w; go_simp)
            all_goals with_reducible rfl
          try go_simp
          refine wpAny_take (i := 13) (v := ?_) rfl (by kernel_rfl) (by kernel_rfl) (by kernel_rfl) (fun _ _ _ h => h) (Or.inl ⟨by rfl, ?_⟩) ?_
          rotate_left 1
          · (intro w; go_simp)
            all_goals with_reducible rfl
          try go_simp
          have HBd := Lib.hid HB.out.drew
          clear HB
          have HB := HBd
          clear HBd
          refine wpAny_ready (rs := [1, 8]) (by kernel_rfl) (by simp) ?_
          refine AllReady.cons rfl (fun K0 hK0 => ?_) (AllReady.cons rfl (fun K0 hK0 => ?_) AllReady.nil)
          · skip
            go_simp
            refine hK0 _ _ ?_
            clear hK0 K0
            have OA := Lib.hid (own_empty3 (w := wC.drew) (B := w.heap.size) (X := wC.heap.size) 30 1 (by first | rfl | (simp; done)) (by have hq := HB.out.size; (try simp at hq); first | omega | (simp; done) | (simp; omega)))
            have HBn := Lib.hid (HB.out.alloc (by have hq := HB.out.size; (try simp at hq); first | omega | (simp; done) | (simp; omega)) (.cells #[] 30))
            clear HB
            have HB := HBn
            clear HBn
            refine wpAny_ready (rs := [5, 8]) (by kernel_rfl) (by simp) ?_
            refine AllReady.cons rfl (fun K0 hK0 => ?_) (AllReady.cons rfl (fun K0 hK0 => ?_) AllReady.nil)
            · skip
              refine step_block rfl (.tmp 46) (.tmp 49) 39 rfl w.heap.size 30 i0 (.slice none 0 0) 1 24 Try.underlying39 hi iz0 iz1 iz2 rfl (by decide) (wC.heap.size) 0 0 [] rfl OA.out ⟨g, 0, none⟩ 0 _ D1 rfl (by have := HLD1.out; omega) (news_keep HDC1.out HB.out) HOD1.out (by unfold maxLen; omega) (by omega) HB.out.size ?_
              intro gp1 cp1 wp1 hown hgr hgg
              (try simp only [Nat.zero_add, List.nil_append] at hown)
              have hlx := (OA.out.lt _ rfl).1
              have OAn := Lib.hid hown
              have HBn := Lib.hid (Below.grown HB.out hgr HB.out.size (fun k hk => by obtain rfl := Option.some.inj hk; exact hlx))
              clear HB OA hown hgr hgg hlx
              have HB := HBn
              have OA := OAn
              clear HBn OAn
              refine hK0 _ _ ?_
              clear hK0 K0
              try go_simp
              refine wpAny_ready (rs := [7, 8]) (by kernel_rfl) (by simp) ?_
              refine AllReady.cons rfl (fun K0 hK0 => ?_) (AllReady.cons rfl (fun K0 hK0 => ?_) AllReady.nil)
              · skip
                refine step_callW (by rfl) 28 _ _ rfl rowManyEnters #[.slice (some ⟨gp1, 0, none⟩) 0 cp1, .slice (some ⟨g2, 0, none⟩) vl c2] rfl (C1.out _ gp1 cp1 (gone_rws HD1.out (by rw [HLL1.out]; exact OA.out) HB.out) (VF.out.below HB.out)) ?_
                rintro e wp2 ⟨rfl, hbx⟩
                have HBn := Lib.hid (HB.out.trans (hbx.mono HB.out.size))
                clear HB hbx OA
                have HB := HBn
                clear HBn
                refine ⟨_, rfl, hK0 _ _ ?_⟩
                clear hK0 K0
                try go_simp
                refine wpAny_ready (rs := [8]) (by kernel_rfl) (by simp) ?_
                refine AllReady.cons rfl (fun K0 hK0 => ?_) AllReady.nil
                go_simp
                refine hK0 _ _ ?_
                clear hK0 K0
                have OB := Lib.hid (own_empty3 (w := wp2) (B := w.heap.size) (X := wp2.heap.size) 30 1 (by first | rfl | (simp; done)) (by have hq := HB.out.size; (try simp at hq); first | omega | (simp; done) | (simp; omega)))
                have HBn := Lib.hid (HB.out.alloc (by have hq := HB.out.size; (try simp at hq); first | omega | (simp; done) | (simp; omega)) (.cells #[] 30))
                clear HB
                have HB := HBn
                clear HBn
                refine wpAny_ready (rs := [12]) (by kernel_rfl) (by simp) ?_
                refine AllReady.cons rfl (fun K0 hK0 => ?_) AllReady.nil
                refine step_block rfl (.tmp 53) (.tmp 56) 39 rfl w.heap.size 30 i0 (.slice none 0 0) 1 24 Try.underlying39 hi iz0 iz1 iz2 rfl (by decide) (wp2.heap.size) 0 0 [] rfl OB.out ⟨g, 0, none⟩ 0 _ D2 rfl (by have := HLD2.out; omega) (news_nil (by have := HLD2.out; omega)) HOD2.out (by unfold maxLen; omega) (by omega) HB.out.size ?_
                intro gp3 cp3 wp3 hown hgr hgg
                (try simp only [Nat.zero_add, List.nil_append] at hown)
                have hlx := (OB.out.lt _ rfl).1
                have OBn := Lib.hid hown
                have HBn := Lib.hid (Below.grown HB.out hgr HB.out.size (fun k hk => by obtain rfl := Option.some.inj hk; exact hlx))
                clear HB OB hown hgr hgg hlx
                have HB := HBn
                have OB := OBn
                clear HBn OBn
                refine hK0 _ _ ?_
                clear hK0 K0
                try go_simp
                refine wpAny_ready (rs := [14]) (by kernel_rfl) (by simp) ?_
                refine AllReady.cons rfl (fun K0 hK0 => ?_) AllReady.nil
                refine step_callW (by rfl) 28 _ _ rfl rowManyEnters #[.slice (some ⟨gp3, 0, none⟩) 0 cp3, .slice (some ⟨g2, 0, none⟩) vl c2] rfl (C2.out _ gp3 cp3 (gone_rws HD2.out (by rw [HLL2.out]; exact OB.out) HB.out) (VF.out.below HB.out)) ?_
                rintro e wp4 ⟨rfl, hbx⟩
                have HBn := Lib.hid (HB.out.trans (hbx.mono HB.out.size))
                clear HB hbx OB
                have HB := HBn
                clear HBn
                refine ⟨_, rfl, hK0 _ _ ?_⟩
                clear hK0 K0
                try go_simp
                refine wpAny_take (i := 15) (v := .int .i64 (nn : Int)) rfl (by kernel_rfl) (by kernel_rfl) (by kernel_rfl) (fun _ _ _ h => h) (Or.inl ⟨by rfl, ?_⟩) ?_
                · (intro w; go_simp)
                  all_goals (first | omega | exact IntWalk.i64_in _ (by omega) | (simp; omega))
                try go_simp
                refine wpAny_take (i := 16) (v := .bool true) rfl (by kernel_rfl) (by kernel_rfl) (by kernel_rfl) (fun _ _ _ h => h) (Or.inl ⟨by rfl, ?_⟩) ?_
                · (intro w; go_simp)
                  all_goals (first | omega | exact IntWalk.i64_in _ (by omega) | (simp; omega))
                try go_simp
                refine wpAny_take (i := 17) (v := ?_) rfl (by kernel_rfl) (by kernel_rfl) (by kernel_rfl) (fun _ _ _ h => h) (Or.inl ⟨by rfl, ?_⟩) ?_
                rotate_left 1
                · (intro w; go_simp)
                  all_goals with_reducible rfl
                try go_simp
                refine wpAny_take (i := 18) (v := ?_) rfl (by kernel_rfl) (by kernel_rfl) (by kernel_rfl) (fun _ _ _ h => h) (Or.inl ⟨by rfl, ?_⟩) ?_
                rotate_left 1
                · (intro w; go_simp)
                  all_goals with_reducible rfl
                try go_simp
                refine wpAny_take (i := 19) (v := ?_) rfl (by kernel_rfl) (by kernel_rfl) (by kernel_rfl) (fun _ _ _ h => h) (Or.inl ⟨by rfl, ?_⟩) ?_
                rotate_left 1
                · (intro w; go_simp)
                  all_goals with_reducible rfl
                try go_simp
                refine wpAny_take (i := 20) (v := ?_) rfl (by kernel_rfl) (by kernel_rfl) (by kernel_rfl) (fun _ _ _ h => h) (Or.inl ⟨by rfl, ?_⟩) ?_
                rotate_left 1
                · (intro w; go_simp)
                  all_goals with_reducible rfl
                try go_simp
                refine wpAny_take (i := 21) (v := .bool true) rfl (by kernel_rfl) (by kernel_rfl) (by kernel_rfl) (fun _ _ _ h => h) (Or.inl ⟨by rfl, ?_⟩) ?_
                · (intro w; go_simp)
                  all_goals (first | omega | exact IntWalk.i64_in _ (by omega) | (simp; omega))
                try go_simp
                refine wpAny_take (i := 22) (v := .bool true) rfl (by kernel_rfl) (by kernel_rfl) (by kernel_rfl) (fun _ _ _ h => h) (Or.inl ⟨by rfl, ?_⟩) ?_
                · (intro w; go_simp)
                  all_goals (first | omega | exact IntWalk.i64_in _ (by omega) | (simp; omega))
                try go_simp
                refine wpAny_take (i := 23) (v := ?_) rfl (by kernel_rfl) (by kernel_rfl) (by kernel_rfl) (fun _ _ _ h => h) (Or.inl ⟨by rfl, ?_⟩) ?_
                rotate_left 1
                · (intro w; go_simp)
                  all_goals with_reducible rfl
                try go_simp
                refine wpAny_ready (rs := [24]) (by kernel_rfl) (by simp) ?_
                refine AllReady.cons rfl (fun K0 hK0 => ?_) AllReady.nil
                refine step_callW (by rfl) 21 _ _ rfl aliveEnters #[] rfl (alive _) ?_
                rintro e wp5 ⟨rfl, hbx⟩
                have HBn := Lib.hid (HB.out.trans (hbx.mono HB.out.size))
                clear HB hbx
                have HB := HBn
                clear HBn
                refine ⟨_, rfl, hK0 _ _ ?_⟩
                clear hK0 K0
                try go_simp
                refine wpAny_take (i := 25) (v := .bool true) rfl (by kernel_rfl) (by kernel_rfl) (by kernel_rfl) (fun _ _ _ h => h) (Or.inl ⟨by rfl, ?_⟩) ?_
                · (intro w; go_simp)
                  all_goals (first | omega | exact IntWalk.i64_in _ (by omega) | (simp; omega))
                try go_simp
                refine wpAny_take (i := 26) (v := ?_) rfl (by kernel_rfl) (by kernel_rfl) (by kernel_rfl) (fun _ _ _ h => h) (Or.inl ⟨by rfl, ?_⟩) ?_
                rotate_left 1
                · (intro w; go_simp)
                  all_goals with_reducible rfl
                try go_simp
                refine wpAny_done (by kernel_rfl) ?_ _
                go_wp2
                go_ret
                exact ⟨retB (by first | rfl | simp), HB0.out.trans (HB.out.mono HB0.out.size)⟩
              · skip
                go_simp
                refine hK0 _ _ ?_
                clear hK0 K0
                have OB := Lib.hid (own_empty3 (w := wp1) (B := w.heap.size) (X := wp1.heap.size) 30 1 (by first | rfl | (simp; done)) (by have hq := HB.out.size; (try simp at hq); first | omega | (simp; done) | (simp; omega)))
                have OAn := Lib.hid (OA.out.alloc (.cells #[] 30))
                clear OA
                have OA := OAn
                clear OAn
                have HBn := Lib.hid (HB.out.alloc (by have hq := HB.out.size; (try simp at hq); first | omega | (simp; done) | (simp; omega)) (.cells #[] 30))
                clear HB
                have HB := HBn
                clear HBn
                refine wpAny_ready (rs := [7]) (by kernel_rfl) (by simp) ?_
                refine AllReady.cons rfl (fun K0 hK0 => ?_) AllReady.nil
                refine step_callW (by rfl) 28 _ _ rfl rowManyEnters #[.slice (some ⟨gp1, 0, none⟩) 0 cp1, .slice (some ⟨g2, 0, none⟩) vl c2] rfl (C1.out _ gp1 cp1 (gone_rws HD1.out (by rw [HLL1.out]; exact OA.out) HB.out) (VF.out.below HB.out)) ?_
                rintro e wp6 ⟨rfl, hbx⟩
                have OBn := Lib.hid (own_below OB.out hbx)
                clear OB
                have OB := OBn
                clear OBn
                have HBn := Lib.hid (HB.out.trans (hbx.mono HB.out.size))
                clear HB hbx OA
                have HB := HBn
                clear HBn
                refine ⟨_, rfl, hK0 _ _ ?_⟩
                clear hK0 K0
                try go_simp
                refine wpAny_ready (rs := [12]) (by kernel_rfl) (by simp) ?_
                refine AllReady.cons rfl (fun K0 hK0 => ?_) AllReady.nil
                refine step_block rfl (.tmp 53) (.tmp 56) 39 rfl w.heap.size 30 i0 (.slice none 0 0) 1 24 Try.underlying39 hi iz0 iz1 iz2 rfl (by decide) (wp1.heap.size) 0 0 [] rfl OB.out ⟨g, 0, none⟩ 0 _ D2 rfl (by have := HLD2.out; omega) (news_nil (by have := HLD2.out; omega)) HOD2.out (by unfold maxLen; omega) (by omega) HB.out.size ?_
                intro gp7 cp7 wp7 hown hgr hgg
                (try simp only [Nat.zero_add, List.nil_append] at hown)
                have hlx := (OB.out.lt _ rfl).1
                have OBn := Lib.hid hown
                have HBn := Lib.hid (Below.grown HB.out hgr HB.out.size (fun k hk => by obtain rfl := Option.some.inj hk; exact hlx))
                clear HB OB hown hgr hgg hlx
                have HB := HBn
                have OB := OBn
                clear HBn OBn
                refine hK0 _ _ ?_
                clear hK0 K0
                try go_simp
                refine wpAny_ready (rs := [14]) (by kernel_rfl) (by simp) ?_
                refine AllReady.cons rfl (fun K0 hK0 => ?_) AllReady.nil
                refine step_callW (by rfl) 28 _ _ rfl rowManyEnters #[.slice (some ⟨gp7, 0, none⟩) 0 cp7, .slice (some ⟨g2, 0, none⟩) vl c2] rfl (C2.out _ gp7 cp7 (gone_rws HD2.out (by rw [HLL2.out]; exact OB.out) HB.out) (VF.out.below HB.out)) ?_
                rintro e wp8 ⟨rfl, hbx⟩
                have HBn := Lib.hid (HB.out.trans (hbx.mono HB.out.size))
                clear HB hbx OB
                have HB := HBn
                clear HBn
                refine ⟨_, rfl, hK0 _ _ ?_⟩
                clear hK0 K0
                try go_simp
                refine wpAny_take (i := 15) (v := .int .i64 (nn : Int)) rfl (by kernel_rfl) (by kernel_rfl) (by kernel_rfl) (fun _ _ _ h => h) (Or.inl ⟨by rfl, ?_⟩) ?_
                · (intro w; go_simp)
                  all_goals (first | omega | exact IntWalk.i64_in _ (by omega) | (simp; omega))
                try go_simp
                refine wpAny_take (i := 16) (v := .bool true) rfl (by kernel_rfl) (by kernel_rfl) (by kernel_rfl) (fun _ _ _ h => h) (Or.inl ⟨by rfl, ?_⟩) ?_
                · (intro w; go_simp)
                  all_goals (first | omega | exact IntWalk.i64_in _ (by omega) | (simp; omega))
                try go_simp
                refine wpAny_take (i := 17) (v := ?_) rfl (by kernel_rfl) (by kernel_rfl) (by kernel_rfl) (fun _ _ _ h => h) (Or.inl ⟨by rfl, ?_⟩) ?_
                rotate_left 1
                · (intro w; go_simp)
                  all_goals with_reducible rfl
                try go_simp
                refine wpAny_take (i := 18) (v := ?_) rfl (by kernel_rfl) (by kernel_rfl) (by kernel_rfl) (fun _ _ _ h => h) (Or.inl ⟨by rfl, ?_⟩) ?_
                rotate_left 1
                · (intro w; go_simp)
                  all_goals with_reducible rfl
                try go_simp
                refine wpAny_take (i := 19) (v := ?_) rfl (by kernel_rfl) (by kernel_rfl) (by kernel_rfl) (fun _ _ _ h => h) (Or.inl ⟨by rfl, ?_⟩) ?_
                rotate_left 1
                · (intro w; go_simp)
                  all_goals with_reducible rfl
                try go_simp
                refine wpAny_take (i := 20) (v := ?_) rfl (by kernel_rfl) (by kernel_rfl) (by kernel_rfl) (fun _ _ _ h => h) (Or.inl ⟨by rfl, ?_⟩) ?_
                rotate_left 1
                · (intro w; go_simp)
                  all_goals with_reducible rfl
                try go_simp
                refine wpAny_take (i := 21) (v := .bool true) rfl (by kernel_rfl) (by kernel_rfl) (by kernel_rfl) (fun _ _ _ h => h) (Or.inl ⟨by rfl, ?_⟩) ?_
                · (intro w; go_simp)
                  all_goals (first | omega | exact IntWalk.i64_in _ (by omega) | (simp; omega))
                try go_simp
                refine wpAny_take (i := 22) (v := .bool true) rfl (by kernel_rfl) (by kernel_rfl) (by kernel_rfl) (fun _ _ _ h => h) (Or.inl ⟨by rfl, ?_⟩) ?_
                · (intro w; go_simp)
                  all_goals (first | omega | exact IntWalk.i64_in _ (by omega) | (simp; omega))
                try go_simp
                refine wpAny_take (i := 23) (v := ?_) rfl (by kernel_rfl) (by kernel_rfl) (by kernel_rfl) (fun _ _ _ h => h) (Or.inl ⟨by rfl, ?_⟩) ?_
                rotate_left 1
                · (intro w; go_simp)
                  all_goals with_reducible rfl
                try go_simp
                refine wpAny_ready (rs := [24]) (by kernel_rfl) (by simp) ?_
                refine AllReady.cons rfl (fun K0 hK0 => ?_) AllReady.nil
                refine step_callW (by rfl) 21 _ _ rfl aliveEnters #[] rfl (alive _) ?_
                rintro e wp9 ⟨rfl, hbx⟩
                have HBn := Lib.hid (HB.out.trans (hbx.mono HB.out.size))
                clear HB hbx
                have HB := HBn
                clear HBn
                refine ⟨_, rfl, hK0 _ _ ?_⟩
                clear hK0 K0
                try go_simp
                refine wpAny_take (i := 25) (v := .bool true) rfl (by kernel_rfl) (by kernel_rfl) (by kernel_rfl) (fun _ _ _ h => h) (Or.inl ⟨by rfl, ?_⟩) ?_
                · (intro w; go_simp)
                  all_goals (first | omega | exact IntWalk.i64_in _ (by omega) | (simp; omega))
                try go_simp
                refine wpAny_take (i := 26) (v := ?_) rfl (by kernel_rfl) (by kernel_rfl) (by kernel_rfl) (fun _ _ _ h => h) (Or.inl ⟨by rfl, ?_⟩) ?_
                rotate_left 1
                · (intro w; go_simp)
                  all_goals with_reducible rfl
                try go_simp
                refine wpAny_done (by kernel_rfl) ?_ _
                go_wp2
                go_ret
                exact ⟨retB (by first | rfl | simp), HB0.out.trans (HB.out.mono HB0.out.size)⟩
            · skip
              go_simp
              refine hK0 _ _ ?_
              clear hK0 K0
              have OB := Lib.hid (own_empty3 (w := (wC.drew.alloc (.cells #[] 30))) (B := w.heap.size) (X := wC.heap.size + 1) 30 1 (by first | rfl | (simp; done)) (by have hq := HB.out.size; (try simp at hq); first | omega | (simp; done) | (simp; omega)))
              have OAn := Lib.hid (OA.out.alloc (.cells #[] 30))
              clear OA
              have OA := OAn
              clear OAn
              have HBn := Lib.hid (HB.out.alloc (by have hq := HB.out.size; (try simp at hq); first | omega | (simp; done) | (simp; omega)) (.cells #[] 30))
              clear HB
              have HB := HBn
              clear HBn
              refine wpAny_ready (rs := [5]) (by kernel_rfl) (by simp) ?_
              refine AllReady.cons rfl (fun K0 hK0 => ?_) AllReady.nil
              refine step_block rfl (.tmp 46) (.tmp 49) 39 rfl w.heap.size 30 i0 (.slice none 0 0) 1 24 Try.underlying39 hi iz0 iz1 iz2 rfl (by decide) (wC.heap.size) 0 0 [] rfl OA.out ⟨g, 0, none⟩ 0 _ D1 rfl (by have := HLD1.out; omega) (news_keep HDC1.out HB.out) HOD1.out (by unfold maxLen; omega) (by omega) HB.out.size ?_
              intro gp10 cp10 wp10 hown hgr hgg
              (try simp only [Nat.zero_add, List.nil_append] at hown)
              have hlx := (OA.out.lt _ rfl).1
              have OAn := Lib.hid hown
              have OBn := Lib.hid (own_grownB OB.out hgr (by omega))
              have HBn := Lib.hid (Below.grown HB.out hgr HB.out.size (fun k hk => by obtain rfl := Option.some.inj hk; exact hlx))
              clear HB OA hown hgr hgg hlx OB
              have HB := HBn
              have OA := OAn
              clear HBn OAn
              have OB := OBn
              clear OBn
              refine hK0 _ _ ?_
              clear hK0 K0
              try go_simp
              refine wpAny_ready (rs := [7]) (by kernel_rfl) (by simp) ?_
              refine AllReady.cons rfl (fun K0 hK0 => ?_) AllReady.nil
              refine step_callW (by rfl) 28 _ _ rfl rowManyEnters #[.slice (some ⟨gp10, 0, none⟩) 0 cp10, .slice (some ⟨g2, 0, none⟩) vl c2] rfl (C1.out _ gp10 cp10 (gone_rws HD1.out (by rw [HLL1.out]; exact OA.out) HB.out) (VF.out.below HB.out)) ?_
              rintro e wp11 ⟨rfl, hbx⟩
              have OBn := Lib.hid (own_below OB.out hbx)
              clear OB
              have OB := OBn
              clear OBn
              have HBn := Lib.hid (HB.out.trans (hbx.mono HB.out.size))
              clear HB hbx OA
              have HB := HBn
              clear HBn
              refine ⟨_, rfl, hK0 _ _ ?_⟩
              clear hK0 K0
              try go_simp
              refine wpAny_ready (rs := [12]) (by kernel_rfl) (by simp) ?_
              refine AllReady.cons rfl (fun K0 hK0 => ?_) AllReady.nil
              refine step_block rfl (.tmp 53) (.tmp 56) 39 rfl w.heap.size 30 i0 (.slice none 0 0) 1 24 Try.underlying39 hi iz0 iz1 iz2 rfl (by decide) (wC.heap.size + 1) 0 0 [] rfl OB.out ⟨g, 0, none⟩ 0 _ D2 rfl (by have := HLD2.out; omega) (news_nil (by have := HLD2.out; omega)) HOD2.out (by unfold maxLen; omega) (by omega) HB.out.size ?_
              intro gp12 cp12 wp12 hown hgr hgg
              (try simp only [Nat.zero_add, List.nil_append] at hown)
              have hlx := (OB.out.lt _ rfl).1
              have OBn := Lib.hid hown
              have HBn := Lib.hid (Below.grown HB.out hgr HB.out.size (fun k hk => by obtain rfl := Option.some.inj hk; exact hlx))
              clear HB OB hown hgr hgg hlx
              have HB := HBn
              have OB := OBn
              clear HBn OBn
              refine hK0 _ _ ?_
              clear hK0 K0
              try go_simp
              refine wpAny_ready (rs := [14]) (by kernel_rfl) (by simp) ?_
              refine AllReady.cons rfl (fun K0 hK0 => ?_) AllReady.nil
              refine step_callW (by rfl) 28 _ _ rfl rowManyEnters #[.slice (some ⟨gp12, 0, none⟩) 0 cp12, .slice (some ⟨g2, 0, none⟩) vl c2] rfl (C2.out _ gp12 cp12 (gone_rws HD2.out (by rw [HLL2.out]; exact OB.out) HB.out) (VF.out.below HB.out)) ?_
              rintro e wp13 ⟨rfl, hbx⟩
              have HBn := Lib.hid (HB.out.trans (hbx.mono HB.out.size))
              clear HB hbx OB
              have HB := HBn
              clear HBn
              refine ⟨_, rfl, hK0 _ _ ?_⟩
              clear hK0 K0
              try go_simp
              refine wpAny_take (i := 15) (v := .int .i64 (nn : Int)) rfl (by kernel_rfl) (by kernel_rfl) (by kernel_rfl) (fun _ _ _ h => h) (Or.inl ⟨by rfl, ?_⟩) ?_
              · (intro w; go_simp)
                all_goals (first | omega | exact IntWalk.i64_in _ (by omega) | (simp; omega))
              try go_simp
              refine wpAny_take (i := 16) (v := .bool true) rfl (by kernel_rfl) (by kernel_rfl) (by kernel_rfl) (fun _ _ _ h => h) (Or.inl ⟨by rfl, ?_⟩) ?_
              · (intro w; go_simp)
                all_goals (first | omega | exact IntWalk.i64_in _ (by omega) | (simp; omega))
              try go_simp
              refine wpAny_take (i := 17) (v := ?_) rfl (by kernel_rfl) (by kernel_rfl) (by kernel_rfl) (fun _ _ _ h => h) (Or.inl ⟨by rfl, ?_⟩) ?_
              rotate_left 1
              · (intro w; go_simp)
                all_goals with_reducible rfl
              try go_simp
              refine wpAny_take (i := 18) (v := ?_) rfl (by kernel_rfl) (by kernel_rfl) (by kernel_rfl) (fun _ _ _ h => h) (Or.inl ⟨by rfl, ?_⟩) ?_
              rotate_left 1
              · (intro w; go_simp)
                all_goals with_reducible rfl
              try go_simp
              refine wpAny_take (i := 19) (v := ?_) rfl (by kernel_rfl) (by kernel_rfl) (by kernel_rfl) (fun _ _ _ h => h) (Or.inl ⟨by rfl, ?_⟩) ?_
              rotate_left 1
              · (intro w; go_simp)
                all_goals with_reducible rfl
              try go_simp
              refine wpAny_take (i := 20) (v := ?_) rfl (by kernel_rfl) (by kernel_rfl) (by kernel_rfl) (fun _ _ _ h => h) (Or.inl ⟨by rfl, ?_⟩) ?_
              rotate_left 1
              · (intro w; go_simp)
                all_goals with_reducible rfl
              try go_simp
              refine wpAny_take (i := 21) (v := .bool true) rfl (by kernel_rfl) (by kernel_rfl) (by kernel_rfl) (fun _ _ _ h => h) (Or.inl ⟨by rfl, ?_⟩) ?_
              · (intro w; go_simp)
                all_goals (first | omega | exact IntWalk.i64_in _ (by omega) | (simp; omega))
              try go_simp
              refine wpAny_take (i := 22) (v := .bool true) rfl (by kernel_rfl) (by kernel_rfl) (by kernel_rfl) (fun _ _ _ h => h) (Or.inl ⟨by rfl, ?_⟩) ?_
              · (intro w; go_simp)
                all_goals (first | omega | exact IntWalk.i64_in _ (by omega) | (simp; omega))
              try go_simp
              refine wpAny_take (i := 23) (v := ?_) rfl (by kernel_rfl) (by kernel_rfl) (by kernel_rfl) (fun _ _ _ h => h) (Or.inl ⟨by rfl, ?_⟩) ?_
              rotate_left 1
              · (intro w; go_simp)
                all_goals with_reducible rfl
              try go_simp
              refine wpAny_ready (rs := [24]) (by kernel_rfl) (by simp) ?_
              refine AllReady.cons rfl (fun K0 hK0 => ?_) AllReady.nil
              refine step_callW (by rfl) 21 _ _ rfl aliveEnters #[] rfl (alive _) ?_
              rintro e wp14 ⟨rfl, hbx⟩
              have HBn := Lib.hid (HB.out.trans (hbx.mono HB.out.size))
              clear HB hbx
              have HB := HBn
              clear HBn
              refine ⟨_, rfl, hK0 _ _ ?_⟩
              clear hK0 K0
              try go_simp
              refine wpAny_take (i := 25) (v := .bool true) rfl (by kernel_rfl) (by kernel_rfl) (by kernel_rfl) (fun _ _ _ h => h) (Or.inl ⟨by rfl, ?_⟩) ?_
              · (intro w; go_simp)
                all_goals (first | omega | exact IntWalk.i64_in _ (by omega) | (simp; omega))
              try go_simp
              refine wpAny_take (i := 26) (v := ?_) rfl (by kernel_rfl) (by kernel_rfl) (by kernel_rfl) (fun _ _ _ h => h) (Or.inl ⟨by rfl, ?_⟩) ?_
              rotate_left 1
              · (intro w; go_simp)
                all_goals with_reducible rfl
              try go_simp
              refine wpAny_done (by kernel_rfl) ?_ _
              go_wp2
              go_ret
              exact ⟨retB (by first | rfl | simp), HB0.out.trans (HB.out.mono HB0.out.size)⟩
          · skip
            go_simp
            refine hK0 _ _ ?_
            clear hK0 K0
            have OB := Lib.hid (own_empty3 (w := wC.drew) (B := w.heap.size) (X := wC.heap.size) 30 1 (by first | rfl | (simp; done)) (by have hq := HB.out.size; (try simp at hq); first | omega | (simp; done) | (simp; omega)))
            have HBn := Lib.hid (HB.out.alloc (by have hq := HB.out.size; (try simp at hq); first | omega | (simp; done) | (simp; omega)) (.cells #[] 30))
            clear HB
            have HB := HBn
            clear HBn
            refine wpAny_ready (rs := [1]) (by kernel_rfl) (by simp) ?_
            refine AllReady.cons rfl (fun K0 hK0 => ?_) AllReady.nil
            go_simp
            refine hK0 _ _ ?_
            clear hK0 K0
            have OA := Lib.hid (own_empty3 (w := (wC.drew.alloc (.cells #[] 30))) (B := w.heap.size) (X := wC.heap.size + 1) 30 1 (by first | rfl | (simp; done)) (by have hq := HB.out.size; (try simp at hq); first | omega | (simp; done) | (simp; omega)))
            have OBn := Lib.hid (OB.out.alloc (.cells #[] 30))
            clear OB
            have OB := OBn
            clear OBn
            have HBn := Lib.hid (HB.out.alloc (by have hq := HB.out.size; (try simp at hq); first | omega | (simp; done) | (simp; omega)) (.cells #[] 30))
            clear HB
            have HB := HBn
            clear HBn
            refine wpAny_ready (rs := [5]) (by kernel_rfl) (by simp) ?_
            refine AllReady.cons rfl (fun K0 hK0 => ?_) AllReady.nil
            refine step_block rfl (.tmp 46) (.tmp 49) 39 rfl w.heap.size 30 i0 (.slice none 0 0) 1 24 Try.underlying39 hi iz0 iz1 iz2 rfl (by decide) (wC.heap.size + 1) 0 0 [] rfl OA.out ⟨g, 0, none⟩ 0 _ D1 rfl (by have := HLD1.out; omega) (news_keep HDC1.out HB.out) HOD1.out (by unfold maxLen; omega) (by omega) HB.out.size ?_
            intro gp15 cp15 wp15 hown hgr hgg
            (try simp only [Nat.zero_add, List.nil_append] at hown)
            have hlx := (OA.out.lt _ rfl).1
            have OAn := Lib.hid hown
            have OBn := Lib.hid (own_grownB OB.out hgr (by omega))
            have HBn := Lib.hid (Below.grown HB.out hgr HB.out.size (fun k hk => by obtain rfl := Option.some.inj hk; exact hlx))
            clear HB OA hown hgr hgg hlx OB
            have HB := HBn
            have OA := OAn
            clear HBn OAn
            have OB := OBn
            clear OBn
            refine hK0 _ _ ?_
            clear hK0 K0
            try go_simp
            refine wpAny_ready (rs := [7]) (by kernel_rfl) (by simp) ?_
            refine AllReady.cons rfl (fun K0 hK0 => ?_) AllReady.nil
            refine step_callW (by rfl) 28 _ _ rfl rowManyEnters #[.slice (some ⟨gp15, 0, none⟩) 0 cp15, .slice (some ⟨g2, 0, none⟩) vl c2] rfl (C1.out _ gp15 cp15 (gone_rws HD1.out (by rw [HLL1.out]; exact OA.out) HB.out) (VF.out.below HB.out)) ?_
            rintro e wp16 ⟨rfl, hbx⟩
            have OBn := Lib.hid (own_below OB.out hbx)
            clear OB
            have OB := OBn
            clear OBn
            have HBn := Lib.hid (HB.out.trans (hbx.mono HB.out.size))
            clear HB hbx OA
            have HB := HBn
            clear HBn
            refine ⟨_, rfl, hK0 _ _ ?_⟩
            clear hK0 K0
            try go_simp
            refine wpAny_ready (rs := [12]) (by kernel_rfl) (by simp) ?_
            refine AllReady.cons rfl (fun K0 hK0 => ?_) AllReady.nil
            refine step_block rfl (.tmp 53) (.tmp 56) 39 rfl w.heap.size 30 i0 (.slice none 0 0) 1 24 Try.underlying39 hi iz0 iz1 iz2 rfl (by decide) (wC.heap.size) 0 0 [] rfl OB.out ⟨g, 0, none⟩ 0 _ D2 rfl (by have := HLD2.out; omega) (news_nil (by have := HLD2.out; omega)) HOD2.out (by unfold maxLen; omega) (by omega) HB.out.size ?_
            intro gp17 cp17 wp17 hown hgr hgg
            (try simp only [Nat.zero_add, List.nil_append] at hown)
            have hlx := (OB.out.lt _ rfl).1
            have OBn := Lib.hid hown
            have HBn := Lib.hid (Below.grown HB.out hgr HB.out.size (fun k hk => by obtain rfl := Option.some.inj hk; exact hlx))
            clear HB OB hown hgr hgg hlx
            have HB := HBn
            have OB := OBn
            clear HBn OBn
            refine hK0 _ _ ?_
            clear hK0 K0
            try go_simp
            refine wpAny_ready (rs := [14]) (by kernel_rfl) (by simp) ?_
            refine AllReady.cons rfl (fun K0 hK0 => ?_) AllReady.nil
            refine step_callW (by rfl) 28 _ _ rfl rowManyEnters #[.slice (some ⟨gp17, 0, none⟩) 0 cp17, .slice (some ⟨g2, 0, none⟩) vl c2] rfl (C2.out _ gp17 cp17 (gone_rws HD2.out (by rw [HLL2.out]; exact OB.out) HB.out) (VF.out.below HB.out)) ?_
            rintro e wp18 ⟨rfl, hbx⟩
            have HBn := Lib.hid (HB.out.trans (hbx.mono HB.out.size))
            clear HB hbx OB
            have HB := HBn
            clear HBn
            refine ⟨_, rfl, hK0 _ _ ?_⟩
            clear hK0 K0
            try go_simp
            refine wpAny_take (i := 15) (v := .int .i64 (nn : Int)) rfl (by kernel_rfl) (by kernel_rfl) (by kernel_rfl) (fun _ _ _ h => h) (Or.inl ⟨by rfl, ?_⟩) ?_
            · (intro w; go_simp)
              all_goals (first | omega | exact IntWalk.i64_in _ (by omega) | (simp; omega))
            try go_simp
            refine wpAny_take (i := 16) (v := .bool true) rfl (by kernel_rfl) (by kernel_rfl) (by kernel_rfl) (fun _ _ _ h => h) (Or.inl ⟨by rfl, ?_⟩) ?_
            · (intro w; go_simp)
              all_goals (first | omega | exact IntWalk.i64_in _ (by omega) | (simp; omega))
            try go_simp
            refine wpAny_take (i := 17) (v := ?_) rfl (by kernel_rfl) (by kernel_rfl) (by kernel_rfl) (fun _ _ _ h => h) (Or.inl ⟨by rfl, ?_⟩) ?_
            rotate_left 1
            · (intro w; go_simp)
              all_goals with_reducible rfl
            try go_simp
            refine wpAny_take (i := 18) (v := ?_) rfl (by kernel_rfl) (by kernel_rfl) (by kernel_rfl) (fun _ _ _ h => h) (Or.inl ⟨by rfl, ?_⟩) ?_
            rotate_left 1
            · (intro w; go_simp)
              all_goals with_reducible rfl
            try go_simp
            refine wpAny_take (i := 19) (v := ?_) rfl (by kernel_rfl) (by kernel_rfl) (by kernel_rfl) (fun _ _ _ h => h) (Or.inl ⟨by rfl, ?_⟩) ?_
            rotate_left 1
            · (intro w; go_simp)
              all_goals with_reducible rfl
            try go_simp
            refine wpAny_take (i := 20) (v := ?_) rfl (by kernel_rfl) (by kernel_rfl) (by kernel_rfl) (fun _ _ _ h => h) (Or.inl ⟨by rfl, ?_⟩) ?_
            rotate_left 1
            · (intro w; go_simp)
              all_goals with_reducible rfl
            try go_simp
            refine wpAny_take (i := 21) (v := .bool true) rfl (by kernel_rfl) (by kernel_rfl) (by kernel_rfl) (fun _ _ _ h => h) (Or.inl ⟨by rfl, ?_⟩) ?_
            · (intro w; go_simp)
              all_goals (first | omega | exact IntWalk.i64_in _ (by omega) | (simp; omega))
            try go_simp
            refine wpAny_take (i := 22) (v := .bool true) rfl (by kernel_rfl) (by kernel_rfl) (by kernel_rfl) (fun _ _ _ h => h) (Or.inl ⟨by rfl, ?_⟩) ?_
            · (intro w; go_simp)
              all_goals (first | omega | exact IntWalk.i64_in _ (by omega) | (simp; omega))
            try go_simp
            refine wpAny_take (i := 23) (v := ?_) rfl (by kernel_rfl) (by kernel_rfl) (by kernel_rfl) (fun _ _ _ h => h) (Or.inl ⟨by rfl, ?_⟩) ?_
            rotate_left 1
            · (intro w; go_simp)
              all_goals with_reducible rfl
            try go_simp
            refine wpAny_ready (rs := [24]) (by kernel_rfl) (by simp) ?_
            refine AllReady.cons rfl (fun K0 hK0 => ?_) AllReady.nil
            refine step_callW (by rfl) 21 _ _ rfl aliveEnters #[] rfl (alive _) ?_
            rintro e wp19 ⟨rfl, hbx⟩
            have HBn := Lib.hid (HB.out.trans (hbx.mono HB.out.size))
            clear HB hbx
            have HB := HBn
            clear HBn
            refine ⟨_, rfl, hK0 _ _ ?_⟩
            clear hK0 K0
            try go_simp
            refine wpAny_take (i := 25) (v := .bool true) rfl (by kernel_rfl) (by kernel_rfl) (by kernel_rfl) (fun _ _ _ h => h) (Or.inl ⟨by rfl, ?_⟩) ?_
            · (intro w; go_simp)
              all_goals (first | omega | exact IntWalk.i64_in _ (by omega) | (simp; omega))
            try go_simp
            refine wpAny_take (i := 26) (v := ?_) rfl (by kernel_rfl) (by kernel_rfl) (by kernel_rfl) (fun _ _ _ h => h) (Or.inl ⟨by rfl, ?_⟩) ?_
            rotate_left 1
            · (intro w; go_simp)
              all_goals with_reducible rfl
            try go_simp
            refine wpAny_done (by kernel_rfl) ?_ _
            go_wp2
            go_ret
            exact ⟨retB (by first | rfl | simp), HB0.out.trans (HB.out.mono HB0.out.size)⟩
        · have hcc : ¬ (c = hh) := by have := HHH.out; omega
          have hcc2 : (hh : Int) ≤ (s : Int) := by omega
          refine wp_region_any (by kernel_rfl) ?_
          try go_simp
          refine wpAny_take (i := 0) (v := ?_) rfl (by kernel_rfl) (by kernel_rfl) (by kernel_rfl) (fun _ _ _ h => h) (Or.inl ⟨by rfl, ?_⟩) ?_
          rotate_left 1
          · (intro w; go_simp)
            all_goals with_reducible rfl
          try go_simp
          refine wpAny_take (i := 2) (v := ?_) rfl (by kernel_rfl) (by kernel_rfl) (by kernel_rfl) (fun _ _ _ h => h) (Or.inl ⟨by rfl, ?_⟩) ?_
          rotate_left 1
          · (intro w; go_simp)
            all_goals with_reducible rfl
          try go_simp
          refine wpAny_take (i := 3) (v := ?_) rfl (by kernel_rfl) (by kernel_rfl) (by kernel_rfl) (fun _ _ _ h => h) (Or.inl ⟨by rfl, ?_⟩) ?_
          rotate_left 1
          · (intro w; go_simp)
            all_goals with_reducible rfl
          try go_simp
          refine wpAny_take (i := 4) (v := ?_) rfl (by kernel_rfl) (by kernel_rfl) (by kernel_rfl) (fun _ _ _ h => h) (Or.inl ⟨by rfl, ?_⟩) ?_
          rotate_left 1
          · (intro w; go_simp)
            all_goals with_reducible rfl
          try go_simp
          refine wpAny_take (i := 6) (v := ?_) rfl (by kernel_rfl) (by kernel_rfl) (by kernel_rfl) (fun _ _ _ h => h) (Or.inl ⟨by rfl, ?_⟩) ?_
          rotate_left 1
          · (intro w; go_simp)
            all_goals with_reducible rfl
          try go_simp
          refine wpAny_take (i := 9) (v := ?_) rfl (by kernel_rfl) (by kernel_rfl) (by kernel_rfl) (fun _ _ _ h => h) (Or.inl ⟨by rfl, ?_⟩) ?_
          rotate_left 1
          · (intro w; go_simp)
            all_goals with_reducible rfl
          try go_simp
          refine wpAny_take (i := 10) (v := ?_) rfl (by kernel_rfl) (by kernel_rfl) (by kernel_rfl) (fun _ _ _ h => h) (Or.inl ⟨by rfl, ?_⟩) ?_
          rotate_left 1
          · (intro w; go_simp)
            all_goals with_reducible rfl
          try go_simp
          refine wpAny_take (i := 11) (v := ?_) rfl (by kernel_rfl) (by kernel_rfl) (by kernel_rfl) (fun _ _ _ h => h) (Or.inl ⟨by rfl, ?_⟩) ?_
          rotate_left 1
          · (intro w; go_simp)
            all_goals with_reducible rfl
          try go_simp
          refine wpAny_take (i := 13) (v := ?_) rfl (by kernel_rfl) (by kernel_rfl) (by kernel_rfl) (fun _ _ _ h => h) (Or.inl ⟨by rfl, ?_⟩) ?_
          rotate_left 1
          · (intro w; go_simp)
            all_goals with_reducible rfl
          try go_simp
          have HBd := Lib.hid HB.out.drew
          clear HB
          have HB := HBd
          clear HBd
          refine wpAny_ready (rs := [1, 8]) (by kernel_rfl) (by simp) ?_
          refine AllReady.cons rfl (fun K0 hK0 => ?_) (AllReady.cons rfl (fun K0 hK0 => ?_) AllReady.nil)
          · skip
            go_simp
            refine hK0 _ _ ?_
            clear hK0 K0
            have OA := Lib.hid (own_empty3 (w := wC.drew) (B := w.heap.size) (X := wC.heap.size) 30 1 (by first | rfl | (simp; done)) (by have hq := HB.out.size; (try simp at hq); first | omega | (simp; done) | (simp; omega)))
            have HBn := Lib.hid (HB.out.alloc (by have hq := HB.out.size; (try simp at hq); first | omega | (simp; done) | (simp; omega)) (.cells #[] 30))
            clear HB
            have HB := HBn
            clear HBn
            refine wpAny_ready (rs := [5, 8]) (by kernel_rfl) (by simp) ?_
            refine AllReady.cons rfl (fun K0 hK0 => ?_) (AllReady.cons rfl (fun K0 hK0 => ?_) AllReady.nil)
            · skip
              refine step_block rfl (.tmp 46) (.tmp 49) 39 rfl w.heap.size 30 i0 (.slice none 0 0) 1 24 Try.underlying39 hi iz0 iz1 iz2 rfl (by decide) (wC.heap.size) 0 0 [] rfl OA.out ⟨g, 0, none⟩ hh _ D1 rfl (by have := HLD1.out; omega) (news_keep HDC1.out HB.out) HOD1.out (by unfold maxLen; omega) (by omega) HB.out.size ?_
              intro gp20 cp20 wp20 hown hgr hgg
              (try simp only [Nat.zero_add, List.nil_append] at hown)
              have hlx := (OA.out.lt _ rfl).1
              have OAn := Lib.hid hown
              have HBn := Lib.hid (Below.grown HB.out hgr HB.out.size (fun k hk => by obtain rfl := Option.some.inj hk; exact hlx))
              clear HB OA hown hgr hgg hlx
              have HB := HBn
              have OA := OAn
              clear HBn OAn
              refine hK0 _ _ ?_
              clear hK0 K0
              try go_simp
              refine wpAny_ready (rs := [7, 8]) (by kernel_rfl) (by simp) ?_
              refine AllReady.cons rfl (fun K0 hK0 => ?_) (AllReady.cons rfl (fun K0 hK0 => ?_) AllReady.nil)
              · skip
                refine step_callW (by rfl) 28 _ _ rfl rowManyEnters #[.slice (some ⟨gp20, 0, none⟩) hh cp20, .slice (some ⟨g2, 0, none⟩) vl c2] rfl (C1.out _ gp20 cp20 (gone_rws HD1.out (by rw [HLL1.out]; exact OA.out) HB.out) (VF.out.below HB.out)) ?_
                rintro e wp21 ⟨rfl, hbx⟩
                have HBn := Lib.hid (HB.out.trans (hbx.mono HB.out.size))
                clear HB hbx OA
                have HB := HBn
                clear HBn
                refine ⟨_, rfl, hK0 _ _ ?_⟩
                clear hK0 K0
                try go_simp
                refine wpAny_ready (rs := [8]) (by kernel_rfl) (by simp) ?_
                refine AllReady.cons rfl (fun K0 hK0 => ?_) AllReady.nil
                go_simp
                refine hK0 _ _ ?_
                clear hK0 K0
                have OB := Lib.hid (own_empty3 (w := wp21) (B := w.heap.size) (X := wp21.heap.size) 30 1 (by first | rfl | (simp; done)) (by have hq := HB.out.size; (try simp at hq); first | omega | (simp; done) | (simp; omega)))
                have HBn := Lib.hid (HB.out.alloc (by have hq := HB.out.size; (try simp at hq); first | omega | (simp; done) | (simp; omega)) (.cells #[] 30))
                clear HB
                have HB := HBn
                clear HBn
                refine wpAny_ready (rs := [12]) (by kernel_rfl) (by simp) ?_
                refine AllReady.cons rfl (fun K0 hK0 => ?_) AllReady.nil
                refine step_block rfl (.tmp 53) (.tmp 56) 39 rfl w.heap.size 30 i0 (.slice none 0 0) 1 24 Try.underlying39 hi iz0 iz1 iz2 rfl (by decide) (wp21.heap.size) 0 0 [] rfl OB.out ⟨g, hh, none⟩ (s - hh) _ D2 rfl (by have := HLD2.out; omega) (news_keep HDC2.out HB.out) HOD2.out (by unfold maxLen; omega) (by omega) HB.out.size ?_
                intro gp22 cp22 wp22 hown hgr hgg
                (try simp only [Nat.zero_add, List.nil_append] at hown)
                have hlx := (OB.out.lt _ rfl).1
                have OBn := Lib.hid hown
                have HBn := Lib.hid (Below.grown HB.out hgr HB.out.size (fun k hk => by obtain rfl := Option.some.inj hk; exact hlx))
                clear HB OB hown hgr hgg hlx
                have HB := HBn
                have OB := OBn
                clear HBn OBn
                refine hK0 _ _ ?_
                clear hK0 K0
                try go_simp
                refine wpAny_ready (rs := [14]) (by kernel_rfl) (by simp) ?_
                refine AllReady.cons rfl (fun K0 hK0 => ?_) AllReady.nil
                refine step_callW (by rfl) 28 _ _ rfl rowManyEnters #[.slice (some ⟨gp22, 0, none⟩) (s - hh) cp22, .slice (some ⟨g2, 0, none⟩) vl c2] rfl (C2.out _ gp22 cp22 (gone_rws HD2.out (by rw [HLL2.out]; exact OB.out) HB.out) (VF.out.below HB.out)) ?_
                rintro e wp23 ⟨rfl, hbx⟩
                have HBn := Lib.hid (HB.out.trans (hbx.mono HB.out.size))
                clear HB hbx OB
                have HB := HBn
                clear HBn
                refine ⟨_, rfl, hK0 _ _ ?_⟩
                clear hK0 K0
                try go_simp
                refine wpAny_take (i := 15) (v := .int .i64 (nn : Int)) rfl (by kernel_rfl) (by kernel_rfl) (by kernel_rfl) (fun _ _ _ h => h) (Or.inl ⟨by rfl, ?_⟩) ?_
                · (intro w; go_simp)
                  all_goals (first | omega | exact IntWalk.i64_in _ (by omega) | (simp; omega))
                try go_simp
                refine wpAny_take (i := 16) (v := .bool true) rfl (by kernel_rfl) (by kernel_rfl) (by kernel_rfl) (fun _ _ _ h => h) (Or.inl ⟨by rfl, ?_⟩) ?_
                · (intro w; go_simp)
                  all_goals (first | omega | exact IntWalk.i64_in _ (by omega) | (simp; omega))
                try go_simp
                refine wpAny_take (i := 17) (v := ?_) rfl (by kernel_rfl) (by kernel_rfl) (by kernel_rfl) (fun _ _ _ h => h) (Or.inl ⟨by rfl, ?_⟩) ?_
                rotate_left 1
                · (intro w; go_simp)
                  all_goals with_reducible rfl
                try go_simp
                refine wpAny_take (i := 18) (v := ?_) rfl (by kernel_rfl) (by kernel_rfl) (by kernel_rfl) (fun _ _ _ h => h) (Or.inl ⟨by rfl, ?_⟩) ?_
                rotate_left 1
                · (intro w; go_simp)
                  all_goals with_reducible rfl
                try go_simp
                refine wpAny_take (i := 19) (v := ?_) rfl (by kernel_rfl) (by kernel_rfl) (by kernel_rfl) (fun _ _ _ h => h) (Or.inl ⟨by rfl, ?_⟩) ?_
                rotate_left 1
                · (intro w; go_simp)
                  all_goals with_reducible rfl
                try go_simp
                refine wpAny_take (i := 20) (v := ?_) rfl (by kernel_rfl) (by kernel_rfl) (by kernel_rfl) (fun _ _ _ h => h) (Or.inl ⟨by rfl, ?_⟩) ?_
                rotate_left 1
                · (intro w; go_simp)
                  all_goals with_reducible rfl
                try go_simp
                refine wpAny_take (i := 21) (v := .bool true) rfl (by kernel_rfl) (by kernel_rfl) (by kernel_rfl) (fun _ _ _ h => h) (Or.inl ⟨by rfl, ?_⟩) ?_
                · (intro w; go_simp)
                  all_goals (first | omega | exact IntWalk.i64_in _ (by omega) | (simp; omega))
                try go_simp
                refine wpAny_take (i := 22) (v := .bool true) rfl (by kernel_rfl) (by kernel_rfl) (by kernel_rfl) (fun _ _ _ h => h) (Or.inl ⟨by rfl, ?_⟩) ?_
                · (intro w; go_simp)
                  all_goals (first | omega | exact IntWalk.i64_in _ (by omega) | (simp; omega))
                try go_simp
                refine wpAny_take (i := 23) (v := ?_) rfl (by kernel_rfl) (by kernel_rfl) (by kernel_rfl) (fun _ _ _ h => h) (Or.inl ⟨by rfl, ?_⟩) ?_
                rotate_left 1
                · (intro w; go_simp)
                  all_goals with_reducible rfl
                try go_simp
                refine wpAny_ready (rs := [24]) (by kernel_rfl) (by simp) ?_
                refine AllReady.cons rfl (fun K0 hK0 => ?_) AllReady.nil
                refine step_callW (by rfl) 21 _ _ rfl aliveEnters #[] rfl (alive _) ?_
                rintro e wp24 ⟨rfl, hbx⟩
                have HBn := Lib.hid (HB.out.trans (hbx.mono HB.out.size))
                clear HB hbx
                have HB := HBn
                clear HBn
                refine ⟨_, rfl, hK0 _ _ ?_⟩
                clear hK0 K0
                try go_simp
                refine wpAny_take (i := 25) (v := .bool true) rfl (by kernel_rfl) (by kernel_rfl) (by kernel_rfl) (fun _ _ _ h => h) (Or.inl ⟨by rfl, ?_⟩) ?_
                · (intro w; go_simp)
                  all_goals (first | omega | exact IntWalk.i64_in _ (by omega) | (simp; omega))
                try go_simp
                refine wpAny_take (i := 26) (v := ?_) rfl (by kernel_rfl) (by kernel_rfl) (by kernel_rfl) (fun _ _ _ h => h) (Or.inl ⟨by rfl, ?_⟩) ?_
                rotate_left 1
                · (intro w; go_simp)
                  all_goals with_reducible rfl
                try go_simp
                refine wpAny_done (by kernel_rfl) ?_ _
                go_wp2
                go_ret
                exact ⟨retB (by first | rfl | simp), HB0.out.trans (HB.out.mono HB0.out.size)⟩
              · skip
                go_simp
                refine hK0 _ _ ?_
                clear hK0 K0
                have OB := Lib.hid (own_empty3 (w := wp20) (B := w.heap.size) (X := wp20.heap.size) 30 1 (by first | rfl | (simp; done)) (by have hq := HB.out.size; (try simp at hq); first | omega | (simp; done) | (simp; omega)))
                have OAn := Lib.hid (OA.out.alloc (.cells #[] 30))
                clear OA
                have OA := OAn
                clear OAn
                have HBn := Lib.hid (HB.out.alloc (by have hq := HB.out.size; (try simp at hq); first | omega | (simp; done) | (simp; omega)) (.cells #[] 30))
                clear HB
                have HB := HBn
                clear HBn
                refine wpAny_ready (rs := [7]) (by kernel_rfl) (by simp) ?_
                refine AllReady.cons rfl (fun K0 hK0 => ?_) AllReady.nil
                refine step_callW (by rfl) 28 _ _ rfl rowManyEnters #[.slice (some ⟨gp20, 0, none⟩) hh cp20, .slice (some ⟨g2, 0, none⟩) vl c2] rfl (C1.out _ gp20 cp20 (gone_rws HD1.out (by rw [HLL1.out]; exact OA.out) HB.out) (VF.out.below HB.out)) ?_
                rintro e wp25 ⟨rfl, hbx⟩
                have OBn := Lib.hid (own_below OB.out hbx)
                clear OB
                have OB := OBn
                clear OBn
                have HBn := Lib.hid (HB.out.trans (hbx.mono HB.out.size))
                clear HB hbx OA
                have HB := HBn
                clear HBn
                refine ⟨_, rfl, hK0 _ _ ?_⟩
                clear hK0 K0
                try go_simp
                refine wpAny_ready (rs := [12]) (by kernel_rfl) (by simp) ?_
                refine AllReady.cons rfl (fun K0 hK0 => ?_) AllReady.nil
                refine step_block rfl (.tmp 53) (.tmp 56) 39 rfl w.heap.size 30 i0 (.slice none 0 0) 1 24 Try.underlying39 hi iz0 iz1 iz2 rfl (by decide) (wp20.heap.size) 0 0 [] rfl OB.out ⟨g, hh, none⟩ (s - hh) _ D2 rfl (by have := HLD2.out; omega) (news_keep HDC2.out HB.out) HOD2.out (by unfold maxLen; omega) (by omega) HB.out.size ?_
                intro gp26 cp26 wp26 hown hgr hgg
                (try simp only [Nat.zero_add, List.nil_append] at hown)
                have hlx := (OB.out.lt _ rfl).1
                have OBn := Lib.hid hown
                have HBn := Lib.hid (Below.grown HB.out hgr HB.out.size (fun k hk => by obtain rfl := Option.some.inj hk; exact hlx))
                clear HB OB hown hgr hgg hlx
                have HB := HBn
                have OB := OBn
                clear HBn OBn
                refine hK0 _ _ ?_
                clear hK0 K0
                try go_simp
                refine wpAny_ready (rs := [14]) (by kernel_rfl) (by simp) ?_
                refine AllReady.cons rfl (fun K0 hK0 => ?_) AllReady.nil
                refine step_callW (by rfl) 28 _ _ rfl rowManyEnters #[.slice (some ⟨gp26, 0, none⟩) (s - hh) cp26, .slice (some ⟨g2, 0, none⟩) vl c2] rfl (C2.out _ gp26 cp26 (gone_rws HD2.out (by rw [HLL2.out]; exact OB.out) HB.out) (VF.out.below HB.out)) ?_
                rintro e wp27 ⟨rfl, hbx⟩
                have HBn := Lib.hid (HB.out.trans (hbx.mono HB.out.size))
                clear HB hbx OB
                have HB := HBn
                clear HBn
                refine ⟨_, rfl, hK0 _ _ ?_⟩
                clear hK0 K0
                try go_simp
                refine wpAny_take (i := 15) (v := .int .i64 (nn : Int)) rfl (by kernel_rfl) (by kernel_rfl) (by kernel_rfl) (fun _ _ _ h => h) (Or.inl ⟨by rfl, ?_⟩) ?_
                · (intro w; go_simp)
                  all_goals (first | omega | exact IntWalk.i64_in _ (by omega) | (simp; omega))
                try go_simp
                refine wpAny_take (i := 16) (v := .bool true) rfl (by kernel_rfl) (by kernel_rfl) (by kernel_rfl) (fun _ _ _ h => h) (Or.inl ⟨by rfl, ?_⟩) ?_
                · (intro w; go_simp)
                  all_goals (first | omega | exact IntWalk.i64_in _ (by omega) | (simp; omega))
                try go_simp
                refine wpAny_take (i := 17) (v := ?_) rfl (by kernel_rfl) (by kernel_rfl) (by kernel_rfl) (fun _ _ _ h => h) (Or.inl ⟨by rfl, ?_⟩) ?_
                rotate_left 1
                · (intro w; go_simp)
                  all_goals with_reducible rfl
                try go_simp
                refine wpAny_take (i := 18) (v := ?_) rfl (by kernel_rfl) (by kernel_rfl) (by kernel_rfl) (fun _ _ _ h => h) (Or.inl ⟨by rfl, ?_⟩) ?_
                rotate_left 1
                · (intro w; go_simp)
                  all_goals with_reducible rfl
                try go_simp
                refine wpAny_take (i := 19) (v := ?_) rfl (by kernel_rfl) (by kernel_rfl) (by kernel_rfl) (fun _ _ _ h => h) (Or.inl ⟨by rfl, ?_⟩) ?_
                rotate_left 1
                · (intro w; go_simp)
                  all_goals with_reducible rfl
                try go_simp
                refine wpAny_take (i := 20) (v := ?_) rfl (by kernel_rfl) (by kernel_rfl) (by kernel_rfl) (fun _ _ _ h => h) (Or.inl ⟨by rfl, ?_⟩) ?_
                rotate_left 1
                · (intro w; go_simp)
                  all_goals with_reducible rfl
                try go_simp
                refine wpAny_take (i := 21) (v := .bool true) rfl (by kernel_rfl) (by kernel_rfl) (by kernel_rfl) (fun _ _ _ h => h) (Or.inl ⟨by rfl, ?_⟩) ?_
                · (intro w; go_simp)
                  all_goals (first | omega | exact IntWalk.i64_in _ (by omega) | (simp; omega))
                try go_simp
                refine wpAny_take (i := 22) (v := .bool true) rfl (by kernel_rfl) (by kernel_rfl) (by kernel_rfl) (fun _ _ _ h => h) (Or.inl ⟨by rfl, ?_⟩) ?_
                · (intro w; go_simp)
                  all_goals (first | omega | exact IntWalk.i64_in _ (by omega) | (simp; omega))
                try go_simp
                refine wpAny_take (i := 23) (v := ?_) rfl (by kernel_rfl) (by kernel_rfl) (by kernel_rfl) (fun _ _ _ h => h) (Or.inl ⟨by rfl, ?_⟩) ?_
                rotate_left 1
                · (intro w; go_simp)
                  all_goals with_reducible rfl
                try go_simp
                refine wpAny_ready (rs := [24]) (by kernel_rfl) (by simp) ?_
                refine AllReady.cons rfl (fun K0 hK0 => ?_) AllReady.nil
                refine step_callW (by rfl) 21 _ _ rfl aliveEnters #[] rfl (alive _) ?_
                rintro e wp28 ⟨rfl, hbx⟩
                have HBn := Lib.hid (HB.out.trans (hbx.mono HB.out.size))
                clear HB hbx
                have HB := HBn
                clear HBn
                refine ⟨_, rfl, hK0 _ _ ?_⟩
                clear hK0 K0
                try go_simp
                refine wpAny_take (i := 25) (v := .bool true) rfl (by kernel_rfl) (by kernel_rfl) (by kernel_rfl) (fun _ _ _ h => h) (Or.inl ⟨by rfl, ?_⟩) ?_
                · (intro w; go_simp)
                  all_goals (first | omega | exact IntWalk.i64_in _ (by omega) | (simp; omega))
                try go_simp
                refine wpAny_take (i := 26) (v := ?_) rfl (by kernel_rfl) (by kernel_rfl) (by kernel_rfl) (fun _ _ _ h => h) (Or.inl ⟨by rfl, ?_⟩) ?_
                rotate_left 1
                · (intro w; go_simp)
                  all_goals with_reducible rfl
                try go_simp
                refine wpAny_done (by kernel_rfl) ?_ _
                go_wp2
                go_ret
                exact ⟨retB (by first | rfl | simp), HB0.out.trans (HB.out.mono HB0.out.size)⟩
            · skip
              go_simp
              refine hK0 _ _ ?_
              clear hK0 K0
              have OB := Lib.hid (own_empty3 (w := (wC.drew.alloc (.cells #[] 30))) (B := w.heap.size) (X := wC.heap.size + 1) 30 1 (by first | rfl | (simp; done)) (by have hq := HB.out.size; (try simp at hq); first | omega | (simp; done) | (simp; omega)))
              have OAn := Lib.hid (OA.out.alloc (.cells #[] 30))
              clear OA
              have OA := OAn
              clear OAn
              have HBn := Lib.hid (HB.out.alloc (by have hq := HB.out.size; (try simp at hq); first | omega | (simp; done) | (simp; omega)) (.cells #[] 30))
              clear HB
              have HB := HBn
              clear HBn
              refine wpAny_ready (rs := [5]) (by kernel_rfl) (by simp) ?_
              refine AllReady.cons rfl (fun K0 hK0 => ?_) AllReady.nil
              refine step_block rfl (.tmp 46) (.tmp 49) 39 rfl w.heap.size 30 i0 (.slice none 0 0) 1 24 Try.underlying39 hi iz0 iz1 iz2 rfl (by decide) (wC.heap.size) 0 0 [] rfl OA.out ⟨g, 0, none⟩ hh _ D1 rfl (by have := HLD1.out; omega) (news_keep HDC1.out HB.out) HOD1.out (by unfold maxLen; omega) (by omega) HB.out.size ?_
              intro gp29 cp29 wp29 hown hgr hgg
              (try simp only [Nat.zero_add, List.nil_append] at hown)
              have hlx := (OA.out.lt _ rfl).1
              have OAn := Lib.hid hown
              have OBn := Lib.hid (own_grownB OB.out hgr (by omega))
              have HBn := Lib.hid (Below.grown HB.out hgr HB.out.size (fun k hk => by obtain rfl := Option.some.inj hk; exact hlx))
              clear HB OA hown hgr hgg hlx OB
              have HB := HBn
              have OA := OAn
              clear HBn OAn
              have OB := OBn
              clear OBn
              refine hK0 _ _ ?_
              clear hK0 K0
              try go_simp
              refine wpAny_ready (rs := [7]) (by kernel_rfl) (by simp) ?_
              refine AllReady.cons rfl (fun K0 hK0 => ?_) AllReady.nil
              refine step_callW (by rfl) 28 _ _ rfl rowManyEnters #[.slice (some ⟨gp29, 0, none⟩) hh cp29, .slice (some ⟨g2, 0, none⟩) vl c2] rfl (C1.out _ gp29 cp29 (gone_rws HD1.out (by rw [HLL1.out]; exact OA.out) HB.out) (VF.out.below HB.out)) ?_
              rintro e wp30 ⟨rfl, hbx⟩
              have OBn := Lib.hid (own_below OB.out hbx)
              clear OB
              have OB := OBn
              clear OBn
              have HBn := Lib.hid (HB.out.trans (hbx.mono HB.out.size))
              clear HB hbx OA
              have HB := HBn
              clear HBn
              refine ⟨_, rfl, hK0 _ _ ?_⟩
              clear hK0 K0
              try go_simp
              refine wpAny_ready (rs := [12]) (by kernel_rfl) (by simp) ?_
              refine AllReady.cons rfl (fun K0 hK0 => ?_) AllReady.nil
              refine step_block rfl (.tmp 53) (.tmp 56) 39 rfl w.heap.size 30 i0 (.slice none 0 0) 1 24 Try.underlying39 hi iz0 iz1 iz2 rfl (by decide) (wC.heap.size + 1) 0 0 [] rfl OB.out ⟨g, hh, none⟩ (s - hh) _ D2 rfl (by have := HLD2.out; omega) (news_keep HDC2.out HB.out) HOD2.out (by unfold maxLen; omega) (by omega) HB.out.size ?_
              intro gp31 cp31 wp31 hown hgr hgg
              (try simp only [Nat.zero_add, List.nil_append] at hown)
              have hlx := (OB.out.lt _ rfl).1
              have OBn := Lib.hid hown
              have HBn := Lib.hid (Below.grown HB.out hgr HB.out.size (fun k hk => by obtain rfl := Option.some.inj hk; exact hlx))
              clear HB OB hown hgr hgg hlx
              have HB := HBn
              have OB := OBn
              clear HBn OBn
              refine hK0 _ _ ?_
              clear hK0 K0
              try go_simp
              refine wpAny_ready (rs := [14]) (by kernel_rfl) (by simp) ?_
              refine AllReady.cons rfl (fun K0 hK0 => ?_) AllReady.nil
              refine step_callW (by rfl) 28 _ _ rfl rowManyEnters #[.slice (some ⟨gp31, 0, none⟩) (s - hh) cp31, .slice (some ⟨g2, 0, none⟩) vl c2] rfl (C2.out _ gp31 cp31 (gone_rws HD2.out (by rw [HLL2.out]; exact OB.out) HB.out) (VF.out.below HB.out)) ?_
              rintro e wp32 ⟨rfl, hbx⟩
              have HBn := Lib.hid (HB.out.trans (hbx.mono HB.out.size))
              clear HB hbx OB
              have HB := HBn
              clear HBn
              refine ⟨_, rfl, hK0 _ _ ?_⟩
              clear hK0 K0
              try go_simp
              refine wpAny_take (i := 15) (v := .int .i64 (nn : Int)) rfl (by kernel_rfl) (by kernel_rfl) (by kernel_rfl) (fun _ _ _ h => h) (Or.inl ⟨by rfl, ?_⟩) ?_
              · (intro w; go_simp)
                all_goals (first | omega | exact IntWalk.i64_in _ (by omega) | (simp; omega))
              try go_simp
              refine wpAny_take (i := 16) (v := .bool true) rfl (by kernel_rfl) (by kernel_rfl) (by kernel_rfl) (fun _ _ _ h => h) (Or.inl ⟨by rfl, ?_⟩) ?_
              · (intro w; go_simp)
                all_goals (first | omega | exact IntWalk.i64_in _ (by omega) | (simp; omega))
              try go_simp
              refine wpAny_take (i := 17) (v := ?_) rfl (by kernel_rfl) (by kernel_rfl) (by kernel_rfl) (fun _ _ _ h => h) (Or.inl ⟨by rfl, ?_⟩) ?_
              rotate_left 1
              · (intro w; go_simp)
                all_goals with_reducible rfl
              try go_simp
              refine wpAny_take (i := 18) (v := ?_) rfl (by kernel_rfl) (by kernel_rfl) (by kernel_rfl) (fun _ _ _ h => h) (Or.inl ⟨by rfl, ?_⟩) ?_
              rotate_left 1
              · (intro w; go_simp)
                all_goals with_reducible rfl
              try go_simp
              refine wpAny_take (i := 19) (v := ?_) rfl (by kernel_rfl) (by kernel_rfl) (by kernel_rfl) (fun _ _ _ h => h) (Or.inl ⟨by rfl, ?_⟩) ?_
              rotate_left 1
              · (intro w; go_simp)
                all_goals with_reducible rfl
              try go_simp
              refine wpAny_take (i := 20) (v := ?_) rfl (by kernel_rfl) (by kernel_rfl) (by kernel_rfl) (fun _ _ _ h => h) (Or.inl ⟨by rfl, ?_⟩) ?_
              rotate_left 1
              · (intro w; go_simp)
                all_goals with_reducible rfl
              try go_simp
              refine wpAny_take (i := 21) (v := .bool true) rfl (by kernel_rfl) (by kernel_rfl) (by kernel_rfl) (fun _ _ _ h => h) (Or.inl ⟨by rfl, ?_⟩) ?_
              · (intro w; go_simp)
                all_goals (first | omega | exact IntWalk.i64_in _ (by omega) | (simp; omega))
              try go_simp
              refine wpAny_take (i := 22) (v := .bool true) rfl (by kernel_rfl) (by kernel_rfl) (by kernel_rfl) (fun _ _ _ h => h) (Or.inl ⟨by rfl, ?_⟩) ?_
              · (intro w; go_simp)
                all_goals (first | omega | exact IntWalk.i64_in _ (by omega) | (simp; omega))
              try go_simp
              refine wpAny_take (i := 23) (v := ?_) rfl (by kernel_rfl) (by kernel_rfl) (by kernel_rfl) (fun _ _ _ h => h) (Or.inl ⟨by rfl, ?_⟩) ?_
              rotate_left 1
              · (intro w; go_simp)
                all_goals with_reducible rfl
              try go_simp
              refine wpAny_ready (rs := [24]) (by kernel_rfl) (by simp) ?_
              refine AllReady.cons rfl (fun K0 hK0 => ?_) AllReady.nil
              refine step_callW (by rfl) 21 _ _ rfl aliveEnters #[] rfl (alive _) ?_
              rintro e wp33 ⟨rfl, hbx⟩
              have HBn := Lib.hid (HB.out.trans (hbx.mono HB.out.size))
              clear HB hbx
              have HB := HBn
              clear HBn
              refine ⟨_, rfl, hK0 _ _ ?_⟩
              clear hK0 K0
              try go_simp
              refine wpAny_take (i := 25) (v := .bool true) rfl (by kernel_rfl) (by kernel_rfl) (by kernel_rfl) (fun _ _ _ h => h) (Or.inl ⟨by rfl, ?_⟩) ?_
              · (intro w; go_simp)
                all_goals (first | omega | exact IntWalk.i64_in _ (by omega) | (simp; omega))
              try go_simp
              refine wpAny_take (i := 26) (v := ?_) rfl (by kernel_rfl) (by kernel_rfl) (by kernel_rfl) (fun _ _ _ h => h) (Or.inl ⟨by rfl, ?_⟩) ?_
              rotate_left 1
              · (intro w; go_simp)
                all_goals with_reducible rfl
              try go_simp
              refine wpAny_done (by kernel_rfl) ?_ _
              go_wp2
              go_ret
              exact ⟨retB (by first | rfl | simp), HB0.out.trans (HB.out.mono HB0.out.size)⟩
          · skip
            go_simp
            refine hK0 _ _ ?_
            clear hK0 K0
            have OB := Lib.hid (own_empty3 (w := wC.drew) (B := w.heap.size) (X := wC.heap.size) 30 1 (by first | rfl | (simp; done)) (by have hq := HB.out.size; (try simp at hq); first | omega | (simp; done) | (simp; omega)))
            have HBn := Lib.hid (HB.out.alloc (by have hq := HB.out.size; (try simp at hq); first | omega | (simp; done) | (simp; omega)) (.cells #[] 30))
            clear HB
            have HB := HBn
            clear HBn
            refine wpAny_ready (rs := [1]) (by kernel_rfl) (by simp) ?_
            refine AllReady.cons rfl (fun K0 hK0 => ?_) AllReady.nil
            go_simp
            refine hK0 _ _ ?_
            clear hK0 K0
            have OA := Lib.hid (own_empty3 (w := (wC.drew.alloc (.cells #[] 30))) (B := w.heap.size) (X := wC.heap.size + 1) 30 1 (by first | rfl | (simp; done)) (by have hq := HB.out.size; (try simp at hq); first | omega | (simp; done) | (simp; omega)))
            have OBn := Lib.hid (OB.out.alloc (.cells #[] 30))
            clear OB
            have OB := OBn
            clear OBn
            have HBn := Lib.hid (HB.out.alloc (by have hq := HB.out.size; (try simp at hq); first | omega | (simp; done) | (simp; omega)) (.cells #[] 30))
            clear HB
            have HB := HBn
            clear HBn
            refine wpAny_ready (rs := [5]) (by kernel_rfl) (by simp) ?_
            refine AllReady.cons rfl (fun K0 hK0 => ?_) AllReady.nil
            refine step_block rfl (.tmp 46) (.tmp 49) 39 rfl w.heap.size 30 i0 (.slice none 0 0) 1 24 Try.underlying39 hi iz0 iz1 iz2 rfl (by decide) (wC.heap.size + 1) 0 0 [] rfl OA.out ⟨g, 0, none⟩ hh _ D1 rfl (by have := HLD1.out; omega) (news_keep HDC1.out HB.out) HOD1.out (by unfold maxLen; omega) (by omega) HB.out.size ?_
            intro gp34 cp34 wp34 hown hgr hgg
            (try simp only [Nat.zero_add, List.nil_append] at hown)
            have hlx := (OA.out.lt _ rfl).1
            have OAn := Lib.hid hown
            have OBn := Lib.hid (own_grownB OB.out hgr (by omega))
            have HBn := Lib.hid (Below.grown HB.out hgr HB.out.size (fun k hk => by obtain rfl := Option.some.inj hk; exact hlx))
            clear HB OA hown hgr hgg hlx OB
            have HB := HBn
            have OA := OAn
            clear HBn OAn
            have OB := OBn
            clear OBn
            refine hK0 _ _ ?_
            clear hK0 K0
            try go_simp
            refine wpAny_ready (rs := [7]) (by kernel_rfl) (by simp) ?_
            refine AllReady.cons rfl (fun K0 hK0 => ?_) AllReady.nil
            refine step_callW (by rfl) 28 _ _ rfl rowManyEnters #[.slice (some ⟨gp34, 0, none⟩) hh cp34, .slice (some ⟨g2, 0, none⟩) vl c2] rfl (C1.out _ gp34 cp34 (gone_rws HD1.out (by rw [HLL1.out]; exact OA.out) HB.out) (VF.out.below HB.out)) ?_
            rintro e wp35 ⟨rfl, hbx⟩
            have OBn := Lib.hid (own_below OB.out hbx)
            clear OB
            have OB := OBn
            clear OBn
            have HBn := Lib.hid (HB.out.trans (hbx.mono HB.out.size))
            clear HB hbx OA
            have HB := HBn
            clear HBn
            refine ⟨_, rfl, hK0 _ _ ?_⟩
            clear hK0 K0
            try go_simp
            refine wpAny_ready (rs := [12]) (by kernel_rfl) (by simp) ?_
            refine AllReady.cons rfl (fun K0 hK0 => ?_) AllReady.nil
            refine step_block rfl (.tmp 53) (.tmp 56) 39 rfl w.heap.size 30 i0 (.slice none 0 0) 1 24 Try.underlying39 hi iz0 iz1 iz2 rfl (by decide) (wC.heap.size) 0 0 [] rfl OB.out ⟨g, hh, none⟩ (s - hh) _ D2 rfl (by have := HLD2.out; omega) (news_keep HDC2.out HB.out) HOD2.out (by unfold maxLen; omega) (by omega) HB.out.size ?_
            intro gp36 cp36 wp36 hown hgr hgg
            (try simp only [Nat.zero_add, List.nil_append] at hown)
            have hlx := (OB.out.lt _ rfl).1
            have OBn := Lib.hid hown
            have HBn := Lib.hid (Below.grown HB.out hgr HB.out.size (fun k hk => by obtain rfl := Option.some.inj hk; exact hlx))
            clear HB OB hown hgr hgg hlx
            have HB := HBn
            have OB := OBn
            clear HBn OBn
            refine hK0 _ _ ?_
            clear hK0 K0
            try go_simp
            refine wpAny_ready (rs := [14]) (by kernel_rfl) (by simp) ?_
            refine AllReady.cons rfl (fun K0 hK0 => ?_) AllReady.nil
            refine step_callW (by rfl) 28 _ _ rfl rowManyEnters #[.slice (some ⟨gp36, 0, none⟩) (s - hh) cp36, .slice (some ⟨g2, 0, none⟩) vl c2] rfl (C2.out _ gp36 cp36 (gone_rws HD2.out (by rw [HLL2.out]; exact OB.out) HB.out) (VF.out.below HB.out)) ?_
            rintro e wp37 ⟨rfl, hbx⟩
            have HBn := Lib.hid (HB.out.trans (hbx.mono HB.out.size))
            clear HB hbx OB
            have HB := HBn
            clear HBn
            refine ⟨_, rfl, hK0 _ _ ?_⟩
            clear hK0 K0
            try go_simp
            refine wpAny_take (i := 15) (v := .int .i64 (nn : Int)) rfl (by kernel_rfl) (by kernel_rfl) (by kernel_rfl) (fun _ _ _ h => h) (Or.inl ⟨by rfl, ?_⟩) ?_
            · (intro w; go_simp)
              all_goals (first | omega | exact IntWalk.i64_in _ (by omega) | (simp; omega))
            try go_simp
            refine wpAny_take (i := 16) (v := .bool true) rfl (by kernel_rfl) (by kernel_rfl) (by kernel_rfl) (fun _ _ _ h => h) (Or.inl ⟨by rfl, ?_⟩) ?_
            · (intro w; go_simp)
              all_goals (first | omega | exact IntWalk.i64_in _ (by omega) | (simp; omega))
            try go_simp
            refine wpAny_take (i := 17) (v := ?_) rfl (by kernel_rfl) (by kernel_rfl) (by kernel_rfl) (fun _ _ _ h => h) (Or.inl ⟨by rfl, ?_⟩) ?_
            rotate_left 1
            · (intro w; go_simp)
              all_goals with_reducible rfl
            try go_simp
            refine wpAny_take (i := 18) (v := ?_) rfl (by kernel_rfl) (by kernel_rfl) (by kernel_rfl) (fun _ _ _ h => h) (Or.inl ⟨by rfl, ?_⟩) ?_
            rotate_left 1
            · (intro w; go_simp)
              all_goals with_reducible rfl
            try go_simp
            refine wpAny_take (i := 19) (v := ?_) rfl (by kernel_rfl) (by kernel_rfl) (by kernel_rfl) (fun _ _ _ h => h) (Or.inl ⟨by rfl, ?_⟩) ?_
            rotate_left 1
            · (intro w; go_simp)
              all_goals with_reducible rfl
            try go_simp
            refine wpAny_take (i := 20) (v := ?_) rfl (by kernel_rfl) (by kernel_rfl) (by kernel_rfl) (fun _ _ _ h => h) (Or.inl ⟨by rfl, ?_⟩) ?_
            rotate_left 1
            · (intro w; go_simp)
              all_goals with_reducible rfl
            try go_simp
            refine wpAny_take (i := 21) (v := .bool true) rfl (by kernel_rfl) (by kernel_rfl) (by kernel_rfl) (fun _ _ _ h => h) (Or.inl ⟨by rfl, ?_⟩) ?_
            · (intro w; go_simp)
              all_goals (first | omega | exact IntWalk.i64_in _ (by omega) | (simp; omega))
            try go_simp
            refine wpAny_take (i := 22) (v := .bool true) rfl (by kernel_rfl) (by kernel_rfl) (by kernel_rfl) (fun _ _ _ h => h) (Or.inl ⟨by rfl, ?_⟩) ?_
            · (intro w; go_simp)
              all_goals (first | omega | exact IntWalk.i64_in _ (by omega) | (simp; omega))
            try go_simp
            refine wpAny_take (i := 23) (v := ?_) rfl (by kernel_rfl) (by kernel_rfl) (by kernel_rfl) (fun _ _ _ h => h) (Or.inl ⟨by rfl, ?_⟩) ?_
            rotate_left 1
            · (intro w; go_simp)
              all_goals with_reducible rfl
            try go_simp
            refine wpAny_ready (rs := [24]) (by kernel_rfl) (by simp) ?_
            refine AllReady.cons rfl (fun K0 hK0 => ?_) AllReady.nil
            refine step_callW (by rfl) 21 _ _ rfl aliveEnters #[] rfl (alive _) ?_
            rintro e wp38 ⟨rfl, hbx⟩
            have HBn := Lib.hid (HB.out.trans (hbx.mono HB.out.size))
            clear HB hbx
            have HB := HBn
            clear HBn
            refine ⟨_, rfl, hK0 _ _ ?_⟩
            clear hK0 K0
            try go_simp
            refine wpAny_take (i := 25) (v := .bool true) rfl (by kernel_rfl) (by kernel_rfl) (by kernel_rfl) (fun _ _ _ h => h) (Or.inl ⟨by rfl, ?_⟩) ?_
            · (intro w; go_simp)
              all_goals (first | omega | exact IntWalk.i64_in _ (by omega) | (simp; omega))
            try go_simp
            refine wpAny_take (i := 26) (v := ?_) rfl (by kernel_rfl) (by kernel_rfl) (by kernel_rfl) (fun _ _ _ h => h) (Or.inl ⟨by rfl, ?_⟩) ?_
            rotate_left 1
            · (intro w; go_simp)
              all_goals with_reducible rfl
            try go_simp
            refine wpAny_done (by kernel_rfl) ?_ _
            go_wp2
            go_ret
            exact ⟨retB (by first | rfl | simp), HB0.out.trans (HB.out.mono HB0.out.size)⟩
end Go.Proofs.Ytcddkleglmbfgaa.Val
