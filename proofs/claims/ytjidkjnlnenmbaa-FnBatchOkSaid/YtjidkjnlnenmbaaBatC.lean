/- Rows made a batch: the reference's l9Batch. -/
import Derived.Test.YtjidkjnlnenmbaaBagV
namespace Go.Proofs.Ytjidkjnlnenmbaa.Val
open Go.RowKit
set_option linter.unusedVariables false
set_option maxRecDepth 8000
/-- A batch was made: its columns, what is picked; either may be nil. -/
def RetB9 (cols : List RT) (bs : List Bool) (w : World) (e : Ending) (w' : World) : Prop := ∃ (v v2 : Value) (T : List TT), (e = .returned (.agg #[v, v2]) ∧ BagV w' w.heap.size v T cols ∧ w'.ownsRow w.heap.size 4 1 v2 bs.length (bs.map tv) ∧ (∀ b ∈ blkV v T, v2.ownBlock ≠ some b)) ∧ Below w.heap.size w w'
theorem range_col (rows : List RT) (k : Nat) : (List.range (k + 1)).map (acr rows) = (List.range k).map (acr rows) ++ [acr rows k] := by rw [List.range_succ, List.map_append]; rfl
theorem rep_tv (k : Nat) : (List.replicate (k + 1) true).map tv = (List.replicate k true).map tv ++ [.bool true] := by rw [List.replicate_succ', List.map_append]; rfl
theorem own_of_none {w : World} {B size : Nat} {e : TypeId} : w.ownsRow B e size (.slice none 0 0) 0 [] := ⟨by simp, .inl ⟨rfl, rfl⟩⟩
theorem own_hiB {w : World} {B n size : Nat} {e : TypeId} {v : Value} {xs : List Value} (h : w.ownsRow B e size v n xs) {k : Nat} (hk : v.ownBlock = some k) : B ≤ k := (own_hi h k hk).1
theorem own_setFar {w : World} {B n size b j : Nat} {e : TypeId} {v u : Value} {xs : List Value} (h : w.ownsRow B e size v n xs) (hb : b < B) : (w.setCell ⟨b, j, none⟩ u).ownsRow B e size v n xs := own_block h fun k hk => hsetNe (by have := own_hiB h hk; omega)
set_option maxHeartbeats 4000000 in
theorem l9Batch (A : Option Addr) (g o cap : Nat) (ls : List RT) (m : Nat) (w : World) (hA : Rws w g o A ls) (hok : Ok2 ls) (hm : m ≤ 2000000) (hin : ∀ r ∈ ls, m ≤ r.length) :
    Calls Try.prog 108 #[.int .i64 (m : Int), .slice A ls.length cap] w (RetB9 ((List.range m).map (acr ls)) (List.replicate ls.length true) w) := by
  obtain ⟨i0, hi, iz0, iz1, iz2⟩ := info_parts infoVS
  obtain ⟨i1, hj, jz0, jz1, jz2⟩ := info_parts infoVc
  obtain ⟨i2, hp, pz0, pz1, pz2⟩ := info_parts infoTv
  have HA := Lib.hid hA
  have HIN := Lib.hid hin
  have HK := Lib.hid hok
  have hl := hok.1
  clear hA hin hok
  go_enter Try.func108, Try.ntmps108
  go_wp2
  go_loopw [6] (fun ix wr => ∃ (k : Nat) (v : Value) (T : List TT), k ≤ m ∧ ix = .int .i64 k ∧ Hid (BoxW w.heap.size (.slice none 0 0) (.slice none 0 0) wr) ∧ Hid (BoxW (w.heap.size + 1) v (.slice none 0 0) wr) ∧ Hid (BagV wr (w.heap.size + 2) v T ((List.range k).map (acr ls))) ∧ Hid (Below w.heap.size w wr)) (fun ix _ => m - (intOf ix).toNat)
  case atStart => exact ⟨0, .slice none 0 0, [], Nat.zero_le _, rfl, ⟨⟨by simp [go_sem], by simp [go_sem]⟩, by simp [go_sem], by simp [go_sem]⟩, ⟨⟨by simp [go_sem], by simp [go_sem]⟩, by simp [go_sem], by simp [go_sem]⟩, BagV.nil _ _, show Below _ _ _ from by (repeat (with_reducible first | exact Below.refl _ _ | refine Below.alloc ?_ (by first | omega | (simp; done) | (simp; omega)) _ | refine Below.setCell ?_ (by first | omega | (simp; done) | (simp; omega)) _))⟩
  case round =>
    obtain ⟨k, v, T, hk, rfl, HY, HX, HV, HB⟩ := hrel
    have hx9 := HX.out.lt
    by_cases hlt : k < m
    · obtain ⟨wv, rfl⟩ : ∃ x, x = wr := ⟨_, rfl⟩
      have OWN := Lib.hid (own_empty3 (w := wv) (B := wv.heap.size) 73 3 rfl (Nat.le_refl _))
      have i0' : (0 : Int) ≤ (k : Int) := by omega
      have i1' : (k : Int) < (m : Int) := by omega
      go_wp2
      go_loopw [7, 8] (fun ox kx wr => ∃ (j g2 c2 : Nat), j ≤ ls.length ∧ kx = .int .i64 j ∧ ox = .slice (some ⟨g2, 0, none⟩) j c2 ∧ Hid (wr.ownsRow wv.heap.size 73 3 (.slice (some ⟨g2, 0, none⟩) j c2) j (flatV (acr (ls.take j) k))) ∧ Hid (Below wv.heap.size wv wr)) (fun _ kx _ => ls.length - (intOf kx).toNat)
      case atStart => exact ⟨0, wv.heap.size, 0, Nat.zero_le _, rfl, rfl, OWN, (Below.refl _ _).alloc (Nat.le_refl _) _⟩
      case round =>
        clear OWN
        obtain ⟨j, g2, c2, hj2, rfl, rfl, HO, HBV⟩ := hrel
        have hz := HBV.out.size
        by_cases hjl : j < ls.length
        · obtain ⟨rfl, hg, c', g', o', hc, hf⟩ := (HA.out.below (HB.out.trans (HBV.out.mono HB.out.size))).at j hjl
          have HTK := Lib.hid (List.take_succ_eq_append_getElem hjl)
          have hml := HIN.out _ (List.getElem_mem hjl)
          have hkl := (HK.out.at j hjl).1
          obtain ⟨K, hK⟩ : ∃ K, ls[j] = K := ⟨_, rfl⟩
          rw [hK] at hc hf HTK hml hkl
          have hmk : k < K.length := by omega
          obtain ⟨-, hg3, e0, e1, e2⟩ := hf.v k hmk
          have hgd : K.getD k nilV = K[k] := getD_lt hmk _
          obtain ⟨V, hV⟩ : ∃ V, K[k] = V := ⟨_, rfl⟩
          rw [hV] at e0 e1 e2 hgd
          obtain ⟨vk, vn, vs⟩ := V
          simp only at e0 e1 e2
          have hfl := Lib.hid (show flatV (acr (ls.take (j + 1)) k) = flatV (acr (ls.take j) k) ++ [.int .i64 vk, .int .i64 vn, .string vs] by
            unfold acr; rw [HTK.out, List.map_append, flatV_app]; simp only [List.map_cons, List.map_nil, hgd]; rfl)
          have hgs := (HO.out.lt g2 rfl).1
          obtain ⟨kl, hkl2⟩ : ∃ n, K.length = n := ⟨_, rfl⟩
          rw [hkl2] at hc hml hkl hmk
          have j0' : (0 : Int) ≤ (j : Int) := by omega
          have j1' : (j : Int) < (ls.length : Int) := by omega
          have j2' : (k : Int) < (kl : Int) := by omega
          clear hV hgd HTK hK hf hkl2
          go_wp2_with (at_builtin; go_loud (refine wpList_append_block _ rfl (.tmp 23) (.tmp 31) 53 rfl wv.heap.size 73 i1 (.agg #[.int .i64 0, .int .i64 0, .string ⟨#[]⟩]) 3 32 Try.underlying53 hj jz0 jz1 jz2 rfl (by decide) g2 j c2 (flatV (acr (ls.take j) k)) rfl (HO.out.alloc _) _ 1 1 [.int .i64 vk, .int .i64 vn, .string vs] rfl rfl (news_new (by first | rfl | simp)) (by simp [Value.oneCell']) (by unfold maxLen; omega) (by omega) (by first | omega | (simp; done) | (simp; omega)) ?_); intro g5 c5 w5 hown hgr hgg; rw [← hfl.out] at hown; have HO5 := Lib.hid hown; have HB5 := Lib.hid (Below.grown (HBV.out.alloc hz _) hgr (by simp; omega) (fun k hk => by obtain rfl := Option.some.inj hk; exact hgs)); clear hown hgr hgg)
          exact ⟨⟨j + 1, g5, c5, by omega, by go_num, rfl, HO5, HB5⟩, by simp [intOf]; omega⟩
        · obtain rfl : j = ls.length := by omega
          have HOF := HO.out
          rw [List.take_length] at HOF
          have hrw : RowO wr wv.heap.size (g2, c2, acr ls k) := RowO.of_own (by rw [acr_len]; exact HOF)
          have HR := Lib.hid hrw
          clear HOF HO hrw
          have HX1 := Lib.hid (HX.out.below HBV.out)
          have HY1 := Lib.hid (HY.out.below HBV.out)
          have HV1 := Lib.hid (HV.out.below HBV.out)
          have HVN := Lib.hid (show ∀ b ∈ blkV v T, b ≠ g2 from fun b hb e => by have h1 := (HV.out.hi b hb).2; have h2 := HR.out.lo; simp only at h2; omega)
          have HVO := Lib.hid (show wr.ownsRow (w.heap.size + 2) 53 1 v k (T.map hdr) from by have h := HV1.out.own; rwa [List.length_map, List.length_range] at h)
          have hvb : v.ownBlock ≠ some (w.heap.size + 1) := fun e => by have := own_hiB HVO.out e; omega
          have hvb0 : v.ownBlock ≠ some w.heap.size := fun e => by have := own_hiB HVO.out e; omega
          have HBX := Lib.hid (HB.out.trans (HBV.out.mono HB.out.size))
          have HRC := Lib.hid (range_col ls k)
          have HAL := Lib.hid (acr_len ls k)
          obtain ⟨N, hN⟩ : ∃ N, acr ls k = N := ⟨_, rfl⟩
          rw [hN] at HR HRC HAL
          obtain ⟨⟨b0, b1⟩, f0, f1⟩ := HX1.out
          clear hN HX HY HV HB
          go_wp2_with (at_builtin; go_loud (refine wpList_append_any _ rfl (.tmp 34) (.tmp 36) 28 rfl (w.heap.size + 2) 53 i0 (.slice none 0 0) 1 24 Try.underlying28 hi iz0 iz1 iz2 rfl (by decide) v k (T.map hdr) rfl (HVO.out.alloc _) _ 1 1 [.slice (some ⟨g2, 0, none⟩) ls.length c2] rfl (by decide) rfl (news_new (by first | rfl | simp)) (by simp [Value.oneCell']) (by unfold maxLen; omega) (by omega) (by first | omega | (simp; done) | (simp; omega)) ?_); intro g4 c4 w4 hown hgr hgg; go_loud (have HVP := Lib.hid (BagV.push (t := (g2, c2, N)) (HV1.out.alloc _) ((HR.out.alloc _).lower (by omega)) HVN.out (by rw [List.length_map, List.length_range]) (by rw [show hdr (g2, c2, N) = .slice (some ⟨g2, 0, none⟩) ls.length c2 from by rw [← HAL.out]; rfl]; exact hown) hgr hgg); have HX4 := Lib.hid ((HX1.out.alloc _).grown hgr hvb); have HY4 := Lib.hid ((HY1.out.alloc _).grown hgr hvb0); have HB4 := Lib.hid (Below.grown (HBX.out.alloc HBX.out.size _) hgr (by have := HBX.out.size; simp; omega) (fun k hk => by have := own_hiB HVO.out hk; omega)); have hwk := hgr.size; (try simp at hwk); clear hown hgr hgg b0 b1 f0 f1; obtain ⟨⟨b0, b1⟩, f0, f1⟩ := HX4.out))
          refine ⟨⟨k + 1, .slice (some ⟨g4, 0, none⟩) (k + 1) c4, T ++ [(g2, c2, N)], by omega, by go_num, ?_, HX4.out.set0 _, ?_, HB4.out.setCell (p := ⟨w.heap.size + 1, _, none⟩) (by show w.heap.size ≤ w.heap.size + 1; omega) _⟩, by simp [intOf]; omega⟩
          · exact HY4.out.keep (hsetNe (by omega))
          · show BagV _ _ _ _ _
            rw [HRC.out]
            exact HVP.out.setFar (by omega) _ _
    · obtain rfl : k = m := by omega
      obtain ⟨w3, rfl⟩ : ∃ x, x = wr := ⟨_, rfl⟩
      have HVI := Lib.hid (show ∀ b ∈ blkV v T, b < w3.heap.size from fun b hb => (HV.out.hi b hb).2)
      go_wp2
      go_loopw [9] (fun ix wr => ∃ (j : Nat) (v2 : Value), j ≤ ls.length ∧ ix = .int .i64 j ∧ Hid (BoxW w.heap.size (.slice none 0 0) (.slice none 0 0) wr) ∧ Hid (BoxW (w.heap.size + 1) v v2 wr) ∧ Hid (BagV wr (w.heap.size + 2) v T ((List.range k).map (acr ls))) ∧ Hid (wr.ownsRow w3.heap.size 4 1 v2 j ((List.replicate j true).map tv)) ∧ Hid (Below w.heap.size w wr) ∧ w3.heap.size ≤ wr.heap.size) (fun ix _ => ls.length - (intOf ix).toNat)
      case atStart => exact ⟨0, .slice none 0 0, Nat.zero_le _, rfl, HY, HX, HV, own_of_none, HB, Nat.le_refl _⟩
      case round =>
        clear HY HX HV HB
        obtain ⟨j, v2, hj2, rfl, HY, HX, HV, HO, HB, hw3⟩ := hrel
        obtain ⟨⟨b0, b1⟩, f0, f1⟩ := HX.out
        by_cases hjl : j < ls.length
        · have j0' : (0 : Int) ≤ (j : Int) := by omega
          have j1' : (j : Int) < (ls.length : Int) := by omega
          have HRT := Lib.hid (rep_tv j)
          have hvb : v2.ownBlock ≠ some (w.heap.size + 1) := fun e => by have := own_hiB HO.out e; omega
          have hvb0 : v2.ownBlock ≠ some w.heap.size := fun e => by have := own_hiB HO.out e; omega
          have HVB := Lib.hid (show ∀ b ∈ blkV v T, v2.ownBlock ≠ some b from fun b hb e => by have h1 := own_hiB HO.out e; have h2 := HVI.out b hb; omega)
          go_wp2_with (at_builtin; go_loud (refine wpList_append_any _ rfl (.tmp 46) (.tmp 47) 23 rfl w3.heap.size 4 i2 (.bool false) 1 1 Try.underlying23 hp pz0 pz1 pz2 rfl (by decide) v2 j ((List.replicate j true).map tv) rfl (HO.out.alloc _) _ 1 1 [.bool true] rfl (by decide) rfl (news_new (by first | rfl | simp)) (by simp [Value.oneCell']) (by unfold maxLen; omega) (by omega) (by first | omega | (simp; done) | (simp; omega)) ?_); intro g4 c4 w4 hown hgr hgg; go_loud (rw [← HRT.out] at hown; have HO4 := Lib.hid hown; have HX4 := Lib.hid ((HX.out.alloc _).grown hgr hvb); have HY4 := Lib.hid ((HY.out.alloc _).grown hgr hvb0); have HV4 := Lib.hid ((HV.out.alloc (.cells #[.bool true] 4)).keep hgr.size (fun b hb => hgr.block b (by have := (HV.out.hi b hb).2; simp; omega) (fun e => HVB.out b hb e.symm))); have HB4 := Lib.hid (Below.grown (HB.out.alloc HB.out.size _) hgr (by have := HB.out.size; simp; omega) (fun k hk => by have := own_hiB HO.out hk; omega)); have hwk := hgr.size; (try simp at hwk); clear hown hgr hgg b0 b1 f0 f1; obtain ⟨⟨b0, b1⟩, f0, f1⟩ := HX4.out))
          refine ⟨⟨j + 1, .slice (some ⟨g4, 0, none⟩) (j + 1) c4, by omega, by go_num, ?_, HX4.out.set1 _, HV4.out.setFar (by omega) _ _, ?_, HB4.out.setCell (p := ⟨w.heap.size + 1, _, none⟩) (by show w.heap.size ≤ w.heap.size + 1; omega) _, by simp [World.setCell]; omega⟩, by simp [intOf]; omega⟩
          · exact HY4.out.keep (hsetNe (by omega))
          · exact own_setFar HO4.out (by omega)
        · obtain rfl : j = ls.length := by omega
          obtain ⟨⟨y0, y1⟩, z0, z1⟩ := HY.out
          obtain ⟨A2, c2, rfl⟩ := own_form HO.out
          obtain ⟨A1, c1, hv1⟩ := own_form HV.out.own
          rw [List.length_map, List.length_range] at hv1
          subst hv1
          go_wp2
          have YF := Lib.hid ((HY.out.set0 (.slice A1 k c1)).set1 (.slice A2 ls.length c2))
          obtain ⟨Wx, hWx⟩ : ∃ W, (wr.setCell ⟨w.heap.size, 0, none⟩ (.slice A1 k c1)).setCell ⟨w.heap.size, 1, none⟩ (.slice A2 ls.length c2) = W := ⟨_, rfl⟩
          have x0 : Wx.cell? ⟨w.heap.size, 0, none⟩ = some (.slice A1 k c1) := by rw [← hWx]; exact YF.out.1.1
          have x1 : Wx.cell? ⟨w.heap.size, 1, none⟩ = some (.slice A2 ls.length c2) := by rw [← hWx]; exact YF.out.1.2
          refine bodyPost_ret (v := .agg #[.slice A1 k c1, .slice A2 ls.length c2]) (by rw [hWx]; simp [results, Try.results108, go_sem, x0, x1]) rfl ?_
          refine ⟨_, _, T, ⟨rfl, ((HV.out.setFar (by omega) _ _).setFar (by omega) _ _).lower (by omega), ?_, ?_⟩, (HB.out.setCell (p := ⟨w.heap.size, _, none⟩) (Nat.le_refl _) _).setCell (p := ⟨w.heap.size, _, none⟩) (Nat.le_refl _) _⟩
          · rw [List.length_replicate]
            exact own_lowerB (own_setFar (own_setFar HO.out (by omega)) (by omega)) (by omega)
          · intro b hb e
            have h1 := own_hiB HO.out e
            have h2 := HVI.out b hb
            omega
end Go.Proofs.Ytjidkjnlnenmbaa.Val
