/- Rows made a batch: the program's batchOf. -/
import Derived.Test.YtjidkjnlnenmbaaBatCQ
import Derived.Test.YtjidkjnlnenmbaaBatIQ
import Derived.Deep.RegionLaw
namespace Go.Proofs.Ytjidkjnlnenmbaa.Val
open Go.RowKit
set_option linter.unusedVariables false
set_option linter.unusedSimpArgs false
set_option maxRecDepth 8000
theorem valuesAcrossEnters (vs : Array Value) (w : World) : (callFunc 64 vs).run Try.prog w = .ok (.enter 64 vs) w := by
  go_simp
set_option maxHeartbeats 8000000 in
theorem batchOf (A : Option Addr) (g o cap : Nat) (ls : List RT) (m : Nat) (w : World) (hA : Rws w g o A ls) (hok : Ok2 ls) (hm : m ≤ 2000000) (hin : ∀ r ∈ ls, m ≤ r.length) :
    Calls Try.prog 73 #[.int .i64 (m : Int), .slice A ls.length cap] w (RetB9 ((List.range m).map (acr ls)) (List.replicate ls.length true) w) := by
  obtain ⟨i0, hi, iz0, iz1, iz2⟩ := info_parts infoVS
  obtain ⟨i2, hp, pz0, pz1, pz2⟩ := info_parts infoTv
  have HA := Lib.hid hA
  have HIN := Lib.hid hin
  have HK := Lib.hid hok
  have hl := hok.1
  clear hA hin hok
  go_enter Try.func73, Try.ntmps73
  go_wp2
  go_loopw [6] (fun ix wr => ∃ (k : Nat) (v : Value) (T : List TT), k ≤ m ∧ ix = .int .i64 k ∧ Hid (BoxW w.heap.size (.slice none 0 0) (.slice none 0 0) wr) ∧ Hid (BoxW (w.heap.size + 1) v (.slice none 0 0) wr) ∧ Hid (BagV wr (w.heap.size + 2) v T ((List.range k).map (acr ls))) ∧ Hid (Below w.heap.size w wr)) (fun ix _ => m - (intOf ix).toNat)
  case atStart => exact ⟨0, .slice none 0 0, [], Nat.zero_le _, rfl, ⟨⟨by simp [go_sem], by simp [go_sem]⟩, by simp [go_sem], by simp [go_sem]⟩, ⟨⟨by simp [go_sem], by simp [go_sem]⟩, by simp [go_sem], by simp [go_sem]⟩, BagV.nil _ _, show Below _ _ _ from by (repeat (with_reducible first | exact Below.refl _ _ | refine Below.alloc ?_ (by first | omega | (simp; done) | (simp; omega)) _ | refine Below.setCell ?_ (by first | omega | (simp; done) | (simp; omega)) _))⟩
  case round =>
    obtain ⟨k, v, T, hk, rfl, HY, HX, HV, HB⟩ := hrel
    have hx9 := HX.out.lt
    by_cases hlt : k < m
    · have i0' : (0 : Int) ≤ (k : Int) := by omega
      have i1' : (k : Int) < (m : Int) := by omega
      have CV := Lib.hid (fun W hW => valuesAcross A g o cap ls k W hW HK.out (fun r hr => by have := HIN.out r hr; omega))
      have HRC := Lib.hid (range_col ls k)
      obtain ⟨N, hN⟩ : ∃ N, acr ls k = N := ⟨_, rfl⟩
      rw [hN] at CV HRC
      have hnl : N.length = ls.length := by rw [← hN, acr_len]
      clear hN
      unfold RetRw at CV
      rw [hnl] at CV
      have HNL := Lib.hid hnl
      clear hnl
      have hd : Below wr.heap.size wr wr.drew := (Below.refl _ _).drew
      have HXd := Lib.hid (HX.out.below hd)
      have HYd := Lib.hid (HY.out.below hd)
      have HVd := Lib.hid (HV.out.below hd)
      have HBd := Lib.hid (HB.out.trans (hd.mono HB.out.size))
      have HVL := Lib.hid (show ∀ b ∈ blkV v T, b < wr.drew.heap.size from fun b hb => (HV.out.hi b hb).2)
      clear hd HX HY HV HB
      obtain ⟨⟨b0, b1⟩, f0, f1⟩ := HXd.out
      have hx9d : w.heap.size + 1 < wr.drew.heap.size := hx9
      go_wp2
      go_region_law (first
        | (refine step_call rfl 64 _ _ rfl valuesAcrossEnters #[.slice A ls.length cap, .int .i64 (k : Int)] rfl (CV.out _ (HA.out.below HBd.out)) ?_; rintro e w1 ⟨g2, c2, rfl, hr2, hb2⟩; go_loud (have HR := Lib.hid hr2; have HX1 := Lib.hid (HXd.out.below hb2); have HY1 := Lib.hid (HYd.out.below hb2); have HV1 := Lib.hid (HVd.out.below hb2); have HB1 := Lib.hid (HBd.out.trans (hb2.mono HBd.out.size)); have hx1 := HX1.out.lt; have HVN := Lib.hid (show ∀ b ∈ blkV v T, b ≠ g2 from fun b hb e => by have h1 := HVL.out b hb; have h2 := HR.out.lo; simp only at h2; omega); have HVO := Lib.hid (show w1.ownsRow (w.heap.size + 2) 53 1 v k (T.map hdr) from by have h := HV1.out.own; rwa [List.length_map, List.length_range] at h); have hvb : v.ownBlock ≠ some (w.heap.size + 1) := (fun e => by have := own_hiB HVO.out e; omega); have hvb0 : v.ownBlock ≠ some w.heap.size := (fun e => by have := own_hiB HVO.out e; omega); clear hb2 hr2 b0 b1 f0 f1; obtain ⟨⟨b0, b1⟩, f0, f1⟩ := HX1.out); refine ⟨_, rfl, ?_⟩)
        | (refine step_any rfl (.tmp 15) (.tmp 19) 28 rfl (w.heap.size + 2) 53 i0 (.slice none 0 0) 1 24 Try.underlying28 hi iz0 iz1 iz2 rfl (by decide) v k (T.map hdr) rfl (HVO.out.alloc _) _ 1 1 [.slice (some ⟨g2, 0, none⟩) ls.length c2] rfl (by decide) rfl (news_new (by first | rfl | simp)) (by simp [Value.oneCell']) (by unfold maxLen; omega) (by omega) (by first | omega | (simp; done) | (simp; omega)) ?_; intro g4 c4 w4 hown hgr hgg; go_loud (have HVP := Lib.hid (BagV.push (t := (g2, c2, N)) (HV1.out.alloc _) ((HR.out.alloc _).lower (by omega)) HVN.out (by rw [List.length_map, List.length_range]) (by rw [show hdr (g2, c2, N) = .slice (some ⟨g2, 0, none⟩) ls.length c2 from by rw [← HNL.out]; rfl]; exact hown) hgr hgg); have HX4 := Lib.hid ((HX1.out.alloc _).grown hgr hvb); have HY4 := Lib.hid ((HY1.out.alloc _).grown hgr hvb0); have HB4 := Lib.hid (Below.grown (HB1.out.alloc HB1.out.size _) hgr (by have := HB1.out.size; simp; omega) (fun k hk => by have := own_hiB HVO.out hk; omega)); have hwk := hgr.size; (try simp at hwk); clear hown hgr hgg b0 b1 f0 f1; obtain ⟨⟨b0, b1⟩, f0, f1⟩ := HX4.out)))
      all_goals go_wp2
      all_goals (refine ⟨⟨k + 1, .slice (some ⟨g4, 0, none⟩) (k + 1) c4, T ++ [(g2, c2, N)], by omega, by go_num, HY4.out.keep (hsetNe (by omega)), HX4.out.set0 _, (by show BagV _ _ _ _ _; rw [HRC.out]; exact HVP.out.setFar (by omega) _ _), HB4.out.setCell (p := ⟨w.heap.size + 1, _, none⟩) (by show w.heap.size ≤ w.heap.size + 1; omega) _⟩, by simp [intOf]; omega⟩)
    · obtain rfl : k = m := by omega
      obtain ⟨w3, rfl⟩ : ∃ x, x = wr := ⟨_, rfl⟩
      have HVI := Lib.hid (show ∀ b ∈ blkV v T, b < w3.heap.size from fun b hb => (HV.out.hi b hb).2)
      go_wp2
      go_loopw [7] (fun ix wr => ∃ (j : Nat) (v2 : Value), j ≤ ls.length ∧ ix = .int .i64 j ∧ Hid (BoxW w.heap.size (.slice none 0 0) (.slice none 0 0) wr) ∧ Hid (BoxW (w.heap.size + 1) v v2 wr) ∧ Hid (BagV wr (w.heap.size + 2) v T ((List.range k).map (acr ls))) ∧ Hid (wr.ownsRow w3.heap.size 4 1 v2 j ((List.replicate j true).map tv)) ∧ Hid (Below w.heap.size w wr) ∧ w3.heap.size ≤ wr.heap.size) (fun ix _ => ls.length - (intOf ix).toNat)
      case atStart => exact ⟨0, .slice none 0 0, Nat.zero_le _, rfl, HY, HX, HV, own_of_none, HB, Nat.le_refl _⟩
      case round =>
        clear HY HX HV HB
        obtain ⟨j, v2, hj2, rfl, HY, HX, HV, HO, HB, hw3⟩ := hrel
        obtain ⟨⟨b0, b1⟩, f0, f1⟩ := HX.out
        by_cases hjl : j < ls.length
        · have j0' : (0 : Int) ≤ (j : Int) := by omega
          have j1' : (j : Int) < (ls.length : Int) := by omega
          have HRT := Lib.hid (rep_tv j)
          have hvb : v2.ownBlock ≠ some (w.heap.size + 1) := fun e => by have := own_hiB HO.out e; omega
          have hvb0 : v2.ownBlock ≠ some w.heap.size := fun e => by have := own_hiB HO.out e; omega
          have HVB := Lib.hid (show ∀ b ∈ blkV v T, v2.ownBlock ≠ some b from fun b hb e => by have h1 := own_hiB HO.out e; have h2 := HVI.out b hb; omega)
          go_wp2_with (at_builtin; go_loud (refine wpList_append_any _ rfl (.tmp 29) (.tmp 30) 23 rfl w3.heap.size 4 i2 (.bool false) 1 1 Try.underlying23 hp pz0 pz1 pz2 rfl (by decide) v2 j ((List.replicate j true).map tv) rfl (HO.out.alloc _) _ 1 1 [.bool true] rfl (by decide) rfl (news_new (by first | rfl | simp)) (by simp [Value.oneCell']) (by unfold maxLen; omega) (by omega) (by first | omega | (simp; done) | (simp; omega)) ?_); intro g4 c4 w4 hown hgr hgg; go_loud (rw [← HRT.out] at hown; have HO4 := Lib.hid hown; have HX4 := Lib.hid ((HX.out.alloc _).grown hgr hvb); have HY4 := Lib.hid ((HY.out.alloc _).grown hgr hvb0); have HV4 := Lib.hid ((HV.out.alloc (.cells #[.bool true] 4)).keep hgr.size (fun b hb => hgr.block b (by have := (HV.out.hi b hb).2; simp; omega) (fun e => HVB.out b hb e.symm))); have HB4 := Lib.hid (Below.grown (HB.out.alloc HB.out.size _) hgr (by have := HB.out.size; simp; omega) (fun k hk => by have := own_hiB HO.out hk; omega)); have hwk := hgr.size; (try simp at hwk); clear hown hgr hgg b0 b1 f0 f1; obtain ⟨⟨b0, b1⟩, f0, f1⟩ := HX4.out))
          refine ⟨⟨j + 1, .slice (some ⟨g4, 0, none⟩) (j + 1) c4, by omega, by go_num, ?_, HX4.out.set1 _, HV4.out.setFar (by omega) _ _, ?_, HB4.out.setCell (p := ⟨w.heap.size + 1, _, none⟩) (by show w.heap.size ≤ w.heap.size + 1; omega) _, by simp [World.setCell]; omega⟩, by simp [intOf]; omega⟩
          · exact HY4.out.keep (hsetNe (by omega))
          · exact own_setFar HO4.out (by omega)
        · obtain rfl : j = ls.length := by omega
          obtain ⟨⟨y0, y1⟩, z0, z1⟩ := HY.out
          obtain ⟨A2, c2, rfl⟩ := own_form HO.out
          obtain ⟨A1, c1, hv1⟩ := own_form HV.out.own
          rw [List.length_map, List.length_range] at hv1
          subst hv1
          go_wp2
          have YF := Lib.hid ((HY.out.set0 (.slice A1 k c1)).set1 (.slice A2 ls.length c2))
          obtain ⟨Wx, hWx⟩ : ∃ W, (wr.setCell ⟨w.heap.size, 0, none⟩ (.slice A1 k c1)).setCell ⟨w.heap.size, 1, none⟩ (.slice A2 ls.length c2) = W := ⟨_, rfl⟩
          have x0 : Wx.cell? ⟨w.heap.size, 0, none⟩ = some (.slice A1 k c1) := by rw [← hWx]; exact YF.out.1.1
          have x1 : Wx.cell? ⟨w.heap.size, 1, none⟩ = some (.slice A2 ls.length c2) := by rw [← hWx]; exact YF.out.1.2
          refine bodyPost_ret (v := .agg #[.slice A1 k c1, .slice A2 ls.length c2]) (by rw [hWx]; simp [results, Try.results73, go_sem, x0, x1]) rfl ?_
          refine ⟨_, _, T, ⟨rfl, ((HV.out.setFar (by omega) _ _).setFar (by omega) _ _).lower (by omega), ?_, ?_⟩, (HB.out.setCell (p := ⟨w.heap.size, _, none⟩) (Nat.le_refl _) _).setCell (p := ⟨w.heap.size, _, none⟩) (Nat.le_refl _) _⟩
          · rw [List.length_replicate]
            exact own_lowerB (own_setFar (own_setFar HO.out (by omega)) (by omega)) (by omega)
          · intro b hb e
            have h1 := own_hiB HO.out e
            have h2 := HVI.out b hb
            omega
end Go.Proofs.Ytjidkjnlnenmbaa.Val
