/- The kind of an expression (impl.ExprKind). -/
import Derived.Test.YtcddkleglmbfgaaEKS
import Derived.Test.YtcddkleglmbfgaaEIK
import Derived.Deep.RegionHeldLaw
namespace Go.Proofs.Ytcddkleglmbfgaa.Val
open Go.RowKit
set_option linter.unusedVariables false
set_option maxRecDepth 20000
theorem keepE {w W w1 : World} {ge a gc oc size n : Nat} {A : Option Addr} {x0 x1 x2 x3 x4 v : Value} {cl xs : List Value} {ty : TypeId} (h : W.cell? ⟨ge, a, none⟩ = some x0 ∧ W.cell? ⟨ge, a + 1, none⟩ = some x1 ∧ W.cell? ⟨ge, a + 2, none⟩ = some x2 ∧ W.cell? ⟨ge, a + 3, none⟩ = some x3 ∧ W.cell? ⟨ge, a + 4, none⟩ = some x4 ∧ Fl W gc oc A cl ∧ W.ownsRow w.heap.size ty size v n xs ∧ Below w.heap.size w W ∧ w.heap.size ≤ W.heap.size) (hb : Below W.heap.size W w1) : w1.cell? ⟨ge, a, none⟩ = some x0 ∧ w1.cell? ⟨ge, a + 1, none⟩ = some x1 ∧ w1.cell? ⟨ge, a + 2, none⟩ = some x2 ∧ w1.cell? ⟨ge, a + 3, none⟩ = some x3 ∧ w1.cell? ⟨ge, a + 4, none⟩ = some x4 ∧ Fl w1 gc oc A cl ∧ w1.ownsRow w.heap.size ty size v n xs ∧ Below w.heap.size w w1 ∧ w.heap.size ≤ w1.heap.size := by
  obtain ⟨a0, a1, a2, a3, a4, hF, ho, hB, hz⟩ := h
  have c := fun (p : Addr) (v : Value) (h : W.cell? p = some v) => (hb.cell (World.block_lt_of_cell? W p h)).trans h
  have := hb.size
  exact ⟨c _ _ a0, c _ _ a1, c _ _ a2, c _ _ a3, c _ _ a4, hF.below hb, own_below ho hb, hB.trans (hb.mono hz), by omega⟩
theorem keepED {w W : World} {ge a gc oc size n : Nat} {A : Option Addr} {x0 x1 x2 x3 x4 v : Value} {cl xs : List Value} {ty : TypeId} (h : W.cell? ⟨ge, a, none⟩ = some x0 ∧ W.cell? ⟨ge, a + 1, none⟩ = some x1 ∧ W.cell? ⟨ge, a + 2, none⟩ = some x2 ∧ W.cell? ⟨ge, a + 3, none⟩ = some x3 ∧ W.cell? ⟨ge, a + 4, none⟩ = some x4 ∧ Fl W gc oc A cl ∧ W.ownsRow w.heap.size ty size v n xs ∧ Below w.heap.size w W ∧ w.heap.size ≤ W.heap.size) : W.drew.cell? ⟨ge, a, none⟩ = some x0 ∧ W.drew.cell? ⟨ge, a + 1, none⟩ = some x1 ∧ W.drew.cell? ⟨ge, a + 2, none⟩ = some x2 ∧ W.drew.cell? ⟨ge, a + 3, none⟩ = some x3 ∧ W.drew.cell? ⟨ge, a + 4, none⟩ = some x4 ∧ Fl W.drew gc oc A cl ∧ W.drew.ownsRow w.heap.size ty size v n xs ∧ Below w.heap.size w W.drew ∧ w.heap.size ≤ W.drew.heap.size := by
  obtain ⟨a0, a1, a2, a3, a4, hF, ho, hB, hz⟩ := h
  exact ⟨a0, a1, a2, a3, a4, hF.drew, own_drew ho, hB.drew, hz⟩
theorem keepEF {w W : World} {ge a gc oc size n : Nat} {A : Option Addr} {x0 x1 x2 x3 x4 v : Value} {cl xs : List Value} {ty : TypeId} (h : W.cell? ⟨ge, a, none⟩ = some x0 ∧ W.cell? ⟨ge, a + 1, none⟩ = some x1 ∧ W.cell? ⟨ge, a + 2, none⟩ = some x2 ∧ W.cell? ⟨ge, a + 3, none⟩ = some x3 ∧ W.cell? ⟨ge, a + 4, none⟩ = some x4 ∧ Fl W gc oc A cl ∧ W.ownsRow w.heap.size ty size v n xs ∧ Below w.heap.size w W ∧ w.heap.size ≤ W.heap.size) : Fl W gc oc A cl := h.2.2.2.2.2.1
theorem keepEO {w W : World} {ge a gc oc size n : Nat} {A : Option Addr} {x0 x1 x2 x3 x4 v : Value} {cl xs : List Value} {ty : TypeId} (h : W.cell? ⟨ge, a, none⟩ = some x0 ∧ W.cell? ⟨ge, a + 1, none⟩ = some x1 ∧ W.cell? ⟨ge, a + 2, none⟩ = some x2 ∧ W.cell? ⟨ge, a + 3, none⟩ = some x3 ∧ W.cell? ⟨ge, a + 4, none⟩ = some x4 ∧ Fl W gc oc A cl ∧ W.ownsRow w.heap.size ty size v n xs ∧ Below w.heap.size w W ∧ w.heap.size ≤ W.heap.size) : W.ownsRow w.heap.size ty size v n xs := h.2.2.2.2.2.2.1
theorem keepEB {w W : World} {ge a gc oc size n : Nat} {A : Option Addr} {x0 x1 x2 x3 x4 v : Value} {cl xs : List Value} {ty : TypeId} (h : W.cell? ⟨ge, a, none⟩ = some x0 ∧ W.cell? ⟨ge, a + 1, none⟩ = some x1 ∧ W.cell? ⟨ge, a + 2, none⟩ = some x2 ∧ W.cell? ⟨ge, a + 3, none⟩ = some x3 ∧ W.cell? ⟨ge, a + 4, none⟩ = some x4 ∧ Fl W gc oc A cl ∧ W.ownsRow w.heap.size ty size v n xs ∧ Below w.heap.size w W ∧ w.heap.size ≤ W.heap.size) : Below w.heap.size w W := h.2.2.2.2.2.2.2.1
theorem fl_tail1 {W : World} {B g m t cap : Nat} {ty : TypeId} {st : List Int} (hcm : ¬ cap = m) (h : W.ownsRow B ty 1 (.slice (some ⟨g, 0, none⟩) (m + t) cap) (m + t) (st.reverse.map iv)) (hl : st.length = m + t) : Fl W g m (some ⟨g, m, none⟩) ((st.take t).reverse.map iv) := by
  have hlen : ((st.take t).reverse.map iv).length = t := by simp; omega
  refine ⟨fun h0 => rfl, fun j hj => ?_⟩
  rw [hlen] at hj
  rw [own_at h (m + j) (by simp; omega), List.getElem_map]
  simp only [iv, List.getElem_reverse, List.getElem_take, List.length_take]
  congr 3
  omega
theorem fl_tail0 {W : World} {B g m t : Nat} {ty : TypeId} {st : List Int} (h : W.ownsRow B ty 1 (.slice (some ⟨g, 0, none⟩) (m + t) m) (m + t) (st.reverse.map iv)) (hl : st.length = m + t) : Fl W g m (some ⟨g, 0, none⟩) ((st.take t).reverse.map iv) := by
  obtain ⟨-, -, hc, -⟩ := own_cap h
  have ht : t = 0 := by omega
  subst ht
  exact ⟨fun h0 => absurd h0 (by simp), fun j hj => absurd hj (by simp)⟩
theorem own_drop {W : World} {B g m t cap : Nat} {ty : TypeId} {st : List Int} (h : W.ownsRow B ty 1 (.slice (some ⟨g, 0, none⟩) (m + t) cap) (m + t) (st.reverse.map iv)) (hl : st.length = m + t) : W.ownsRow B ty 1 (.slice (some ⟨g, 0, none⟩) m cap) m ((st.drop t).reverse.map iv) := by
  have := own_take h (m := m) (by omega)
  rwa [Nat.mul_one, show (st.reverse.map iv).take m = (st.drop t).reverse.map iv from by rw [← List.map_take, List.take_reverse, hl, Nat.add_sub_cancel_left]] at this
theorem own_slice {W : World} {B size n : Nat} {ty : TypeId} {v : Value} {xs : List Value} (h : W.ownsRow B ty size v n xs) (h0 : 0 < n) : ∃ g cap, v = .slice (some ⟨g, 0, none⟩) n cap := by
  rcases h.2 with ⟨-, hz⟩ | ⟨g, cap, cur, hv, -⟩
  · omega
  · exact ⟨g, cap, hv⟩
set_option maxHeartbeats 4000000 in
theorem exprKindI (A E : Option Addr) (gc oc cc ge oe ce : Nat) (cs : List CT) (ps : List PT) (w : World) (hA : Fl w gc oc A (flatC cs)) (hE : Fl w ge oe E (flatP ps)) (hl : cs.length ≤ 2000000) (hp : ps.length ≤ 2000000) (hs : ShortP ps) : Calls Try.prog 59 #[.slice A cs.length cc, .slice E ps.length ce] w fun e w' => e = .returned (.int .i64 (kindI cs ps)) ∧ Below w.heap.size w w' := by
  have HA := Lib.hid hA
  have HE := Lib.hid hE
  have HS := Lib.hid hs
  clear hA hE hs
  obtain ⟨i0, hi, iz0, iz1, iz2⟩ := info_parts infoN
  have CC := Lib.hid (fun w hw => columnsOkI A gc oc cc cs w hw hl)
  obtain ⟨b1, hb1⟩ : ∃ b, colB cs = b := ⟨_, rfl⟩
  rw [hb1] at CC
  by_cases hc : b1 = true ∧ ps.length ≤ 12
  case neg =>
    have HK := Lib.hid (kindI_no (cs := cs) (ps := ps) (by rw [hb1]; exact hc))
    clear hb1
    cases b1
    · clear hc
      go_enter Try.func59, Try.ntmps59
      go_wp2_with (go_at_call 25; (with_reducible refine (CC.out _ HA.out).mono ?_); rintro e w1 ⟨rfl, rfl⟩)
      all_goals (go_ret; exact ⟨retI HK.out.symm, Below.refl _ _⟩)
    · have h12 : ¬ ps.length ≤ 12 := fun h => hc ⟨rfl, h⟩
      clear hc
      have h12' : (12 : Int) < ps.length := by omega
      go_enter Try.func59, Try.ntmps59
      go_wp2_with (go_at_call 25; (with_reducible refine (CC.out _ HA.out).mono ?_); rintro e w1 ⟨rfl, rfl⟩)
      all_goals first
        | (go_ret; exact ⟨retI HK.out.symm, Below.refl _ _⟩)
        | omega
  case pos =>
    obtain ⟨rfl, h12⟩ := hc
    have HC := Lib.hid (show colB cs = true ∧ ps.length ≤ 12 from ⟨hb1, h12⟩)
    clear hb1
    have h12' : ¬ (12 : Int) < ps.length := by omega
    go_enter Try.func59, Try.ntmps59
    go_wp2_with (go_at_call 25; (with_reducible refine (CC.out _ HA.out).mono ?_); rintro e w1 ⟨rfl, rfl⟩)
    go_loopw [5, 6] (fun kx ix wr => ∃ (k : Nat) (st : List Int) (g cap : Nat), k ≤ ps.length ∧ ix = .int .i64 k ∧ Hid (Below w.heap.size w wr) ∧ kx = .slice (some ⟨g, 0, none⟩) st.length cap ∧ st.length ≤ k ∧ Hid (runK cs (ps.take k) [] = some st) ∧ Hid (wr.ownsRow w.heap.size 3 1 kx st.length (st.reverse.map iv))) (fun _ ix _ => ps.length - (intOf ix).toNat)
    case atStart =>
      exact ⟨0, [], _, _, by omega, rfl, (Below.refl _ _).alloc (Nat.le_refl _) _, rfl, by simp, rfl, own_empty3 3 1 rfl (Nat.le_refl _)⟩
    case round =>
      obtain ⟨k, st, g, cap, hk, rfl, HW, rfl, hst, HR, OWN⟩ := hrel
      by_cases hlt : k < ps.length
      · obtain ⟨rfl, -⟩ := HE.out.pt k hlt
        obtain ⟨-, hg2, c0, c1, c2, c3, c4⟩ := (HE.out.below HW.out).pt k hlt
        have HSK := Lib.hid (HS.out k hlt)
        obtain ⟨p, hpk⟩ : ∃ p, ps[k] = p := ⟨_, rfl⟩
        have HM := Lib.hid (fun (st' : List Int) => run_more (st' := st') hlt hpk HR.out)
        have HD := Lib.hid (run_dead1 hlt hpk HR.out)
        rw [hpk] at c0 c1 c2 c3 c4 HSK
        clear hpk
        have i0' : (0 : Int) ≤ (k : Int) := by omega
        have i1' : (k : Int) < (ps.length : Int) := by omega
        obtain ⟨pk, pn, vk, vn, s⟩ := p
        have ht2 := takes_le pk
        obtain ⟨t, ht⟩ : ∃ t, takesI pk = t := ⟨_, rfl⟩
        have CT := Lib.hid (fun w => partTakes pk w)
        rw [ht] at CT ht2
        simp only at c0 c1 c2 c3 c4 HSK
        by_cases htl : t ≤ st.length
        case neg =>
          have HX := Lib.hid (kindI_dead (HD.out (few_not (by rw [ht]; omega))))
          have hneg : (st.length : Int) - (t : Int) < 0 := by omega
          have hw1 : IntKind.i64.wrap ((st.length : Int) - (t : Int)) = (st.length : Int) - (t : Int) := IntWalk.i64_in _ (by omega)
          go_wp2_with (go_at_call 62; (with_reducible refine (CT.out _).mono ?_); rintro e w1 ⟨rfl, rfl⟩)
          all_goals (go_ret; exact ⟨retI HX.out.symm, HW.out⟩)
        case pos =>
          obtain ⟨m, hm⟩ : ∃ m, st.length = m + t := ⟨st.length - t, by omega⟩
          obtain ⟨F, hF⟩ : ∃ F, fieldB cs (pk, pn, vk, vn, s) = F := ⟨_, rfl⟩
          have CO := Lib.hid (fun w => partOk A cc cs (pk, pn, vk, vn, s) w HSK.out hl)
          rw [hF] at CO
          unfold aggP at CO
          rw [hm] at OWN hst ⊢
          have e0 : ((m : Int) + (t : Int) - (t : Int)) = (m : Int) := by omega
          have hw1 : IntKind.i64.wrap (m : Int) = (m : Int) := IntWalk.i64_in _ (by omega)
          have m0 : ¬ ((m : Int) < 0) := by omega
          have hmt : (m : Int) ≤ (m : Int) + (t : Int) := by omega
          have hg3 : ge < wr.heap.size := hg2
          cases F
          · have HX := Lib.hid (kindI_dead (HD.out (fits_not hF)))
            clear hF hm
            go_wp2_with (first | (go_at_call 62; (with_reducible refine (CT.out _).mono ?_); rintro e w1 ⟨rfl, rfl⟩) | (go_at_call 91; (with_reducible refine (CO.out _).mono ?_); rintro e w1 ⟨rfl, hb1⟩; have HW1 := Lib.hid (Below.trans HW.out (hb1.mono HW.out.size)); clear hb1))
            all_goals (go_ret; exact ⟨retI HX.out.symm, HW1.out⟩)
          · have HP := Lib.hid (step_put (st := st) HC.out.1 (by rw [ht]; omega) hF)
            rw [ht] at HP
            have hlt2 : (st.take t).reverse.length = t := by simp; omega
            have CK := Lib.hid (fun (W : World) (T : Option Addr) (ct : Nat) (hW : Fl W gc oc A (flatC cs)) (hT : Fl W g m T (((st.take t).reverse).map iv)) => partKind A T gc oc cc g m ct cs (st.take t).reverse (pk, pn, vk, vn, s) W hW hT hF (by rw [hlt2, ht]) hl)
            rw [hlt2] at CK
            unfold aggP at CK
            obtain ⟨K, hK⟩ : ∃ K, putK cs (pk, pn, vk, vn, s) (st.take t).reverse = K := ⟨_, rfl⟩
            rw [hK] at CK HP
            have HMM := Lib.hid hm
            clear hK hF hlt2 hm
            go_wp2_with (first | (go_at_call 62; (with_reducible refine (CT.out _).mono ?_); rintro e w1 ⟨rfl, rfl⟩) | (go_at_call 91; (with_reducible refine (CO.out _).mono ?_); rintro e w1 ⟨rfl, hb1⟩; have HW1 := Lib.hid (Below.trans HW.out (hb1.mono HW.out.size)); obtain ⟨hc1, hf1⟩ := bcell hb1; have HB1 := Lib.hid hb1; clear hb1))
            have HS0 : (fun w' => w'.cell? ⟨ge, oe + k * 5, none⟩ = some (.int .i64 pk) ∧ w'.cell? ⟨ge, oe + k * 5 + 1, none⟩ = some (.int .i64 pn) ∧ w'.cell? ⟨ge, oe + k * 5 + 2, none⟩ = some (.int .i64 vk) ∧ w'.cell? ⟨ge, oe + k * 5 + 3, none⟩ = some (.int .i64 vn) ∧ w'.cell? ⟨ge, oe + k * 5 + 4, none⟩ = some (.string s) ∧ Fl w' gc oc A (flatC cs) ∧ w'.ownsRow w.heap.size 3 1 (.slice (some ⟨g, 0, none⟩) (m + t) cap) (m + t) (st.reverse.map iv) ∧ Below w.heap.size w w' ∧ w.heap.size ≤ w'.heap.size) w1 := keepE ⟨c0, c1, c2, c3, c4, HA.out.below HW.out, OWN.out, HW.out, HW.out.size⟩ HB1.out
            clear hc1 hf1
            by_cases hcm : cap = m
            · subst hcm
              by_cases hK0 : K < 0
              · rw [if_pos hK0] at HP
                have HX := Lib.hid (kindI_dead (HD.out HP.out))
                clear HP
                go_region_held_law (fun w' => w'.cell? ⟨ge, oe + k * 5, none⟩ = some (.int .i64 pk) ∧ w'.cell? ⟨ge, oe + k * 5 + 1, none⟩ = some (.int .i64 pn) ∧ w'.cell? ⟨ge, oe + k * 5 + 2, none⟩ = some (.int .i64 vk) ∧ w'.cell? ⟨ge, oe + k * 5 + 3, none⟩ = some (.int .i64 vn) ∧ w'.cell? ⟨ge, oe + k * 5 + 4, none⟩ = some (.string s) ∧ Fl w' gc oc A (flatC cs) ∧ w'.ownsRow w.heap.size 3 1 (.slice (some ⟨g, 0, none⟩) (cap + t) cap) (cap + t) (st.reverse.map iv) ∧ Below w.heap.size w w' ∧ w.heap.size ≤ w'.heap.size) (first | exact keepE (by assumption) hbq | exact keepED (by assumption) | assumption) (first | (go_at_call 92; refine (CK.out _ _ _ (keepEF (by assumption)) (fl_tail0 (keepEO (by assumption)) HMM.out)).mono ?_; rintro e w2 ⟨rfl, hbq⟩))
                all_goals go_wp2_with (fail)
                all_goals (go_ret; exact ⟨retI HX.out.symm, keepEB (by assumption)⟩)
              · rw [if_neg hK0] at HP
                go_region_held_law (fun w' => w'.cell? ⟨ge, oe + k * 5, none⟩ = some (.int .i64 pk) ∧ w'.cell? ⟨ge, oe + k * 5 + 1, none⟩ = some (.int .i64 pn) ∧ w'.cell? ⟨ge, oe + k * 5 + 2, none⟩ = some (.int .i64 vk) ∧ w'.cell? ⟨ge, oe + k * 5 + 3, none⟩ = some (.int .i64 vn) ∧ w'.cell? ⟨ge, oe + k * 5 + 4, none⟩ = some (.string s) ∧ Fl w' gc oc A (flatC cs) ∧ w'.ownsRow w.heap.size 3 1 (.slice (some ⟨g, 0, none⟩) (cap + t) cap) (cap + t) (st.reverse.map iv) ∧ Below w.heap.size w w' ∧ w.heap.size ≤ w'.heap.size) (first | exact keepE (by assumption) hbq | exact keepED (by assumption) | assumption) (first | (go_at_call 92; refine (CK.out _ _ _ (keepEF (by assumption)) (fl_tail0 (keepEO (by assumption)) HMM.out)).mono ?_; rintro e w2 ⟨rfl, hbq⟩))
                all_goals (have OQ := Lib.hid (own_drop (keepEO (by assumption)) HMM.out); have HBN := Lib.hid (keepEB (by assumption)))
                all_goals go_wp2_with (at_builtin; refine wpList_append_own _ rfl (.tmp 57) (.tmp 59) 27 rfl w.heap.size 3 i0 (.int .i64 0) 1 8 Try.underlying27 hi iz0 iz1 iz2 rfl (by decide) (.slice (some ⟨g, 0, none⟩) cap cap) cap ((st.drop t).reverse.map iv) rfl (by repeat (with_reducible first | exact OQ.out | apply World.ownsRow.alloc | apply own_drew)) ⟨w2.heap.size, 0, none⟩ 1 1 [.int .i64 K] rfl rfl (news_new (by simp)) (by simp [Value.oneCell']) (by unfold maxLen; omega) (by omega) (by have := HBN.out.size; simp; omega) ?_; intro v2 w3 hown2 hgr2 _; have OWN2 := Lib.hid hown2; have HB2 := Lib.hid (Below.grown (B := w.heap.size) (a := w) (HBN.out.alloc HBN.out.size _) hgr2 (by have := HBN.out.size; simp; omega) (fun k hk => (OQ.out.lt k hk).1)); clear hown2 hgr2)
                all_goals (obtain ⟨g', cap', rfl⟩ := own_slice OWN2.out (by omega))
                all_goals (have hlen : (K :: st.drop t).length = cap + 1 := by have := HMM.out; simp; omega)
                all_goals (refine ⟨⟨k + 1, K :: st.drop t, g', cap', by omega, by go_num, HB2, by rw [hlen], by rw [hlen]; omega, HM.out _ HP.out, ?_⟩, by simp [intOf]; omega⟩)
                all_goals (rw [hlen]; exact Lib.hid (by have := OWN2.out; simpa [iv] using this))
            · have hmc : (m : Int) ≤ (cap : Int) := by have := (own_cap OWN.out).2.2.1; omega
              have hmc2 : m ≤ cap := by omega
              by_cases hK0 : K < 0
              · rw [if_pos hK0] at HP
                have HX := Lib.hid (kindI_dead (HD.out HP.out))
                clear HP
                go_region_held_law (fun w' => w'.cell? ⟨ge, oe + k * 5, none⟩ = some (.int .i64 pk) ∧ w'.cell? ⟨ge, oe + k * 5 + 1, none⟩ = some (.int .i64 pn) ∧ w'.cell? ⟨ge, oe + k * 5 + 2, none⟩ = some (.int .i64 vk) ∧ w'.cell? ⟨ge, oe + k * 5 + 3, none⟩ = some (.int .i64 vn) ∧ w'.cell? ⟨ge, oe + k * 5 + 4, none⟩ = some (.string s) ∧ Fl w' gc oc A (flatC cs) ∧ w'.ownsRow w.heap.size 3 1 (.slice (some ⟨g, 0, none⟩) (m + t) cap) (m + t) (st.reverse.map iv) ∧ Below w.heap.size w w' ∧ w.heap.size ≤ w'.heap.size) (first | exact keepE (by assumption) hbq | exact keepED (by assumption) | assumption) (first | (go_at_call 92; refine (CK.out _ _ _ (keepEF (by assumption)) (fl_tail1 hcm (keepEO (by assumption)) HMM.out)).mono ?_; rintro e w2 ⟨rfl, hbq⟩))
                all_goals go_wp2_with (fail)
                all_goals (go_ret; exact ⟨retI HX.out.symm, keepEB (by assumption)⟩)
              · rw [if_neg hK0] at HP
                go_region_held_law (fun w' => w'.cell? ⟨ge, oe + k * 5, none⟩ = some (.int .i64 pk) ∧ w'.cell? ⟨ge, oe + k * 5 + 1, none⟩ = some (.int .i64 pn) ∧ w'.cell? ⟨ge, oe + k * 5 + 2, none⟩ = some (.int .i64 vk) ∧ w'.cell? ⟨ge, oe + k * 5 + 3, none⟩ = some (.int .i64 vn) ∧ w'.cell? ⟨ge, oe + k * 5 + 4, none⟩ = some (.string s) ∧ Fl w' gc oc A (flatC cs) ∧ w'.ownsRow w.heap.size 3 1 (.slice (some ⟨g, 0, none⟩) (m + t) cap) (m + t) (st.reverse.map iv) ∧ Below w.heap.size w w' ∧ w.heap.size ≤ w'.heap.size) (first | exact keepE (by assumption) hbq | exact keepED (by assumption) | assumption) (first | (go_at_call 92; refine (CK.out _ _ _ (keepEF (by assumption)) (fl_tail1 hcm (keepEO (by assumption)) HMM.out)).mono ?_; rintro e w2 ⟨rfl, hbq⟩))
                all_goals (have OQ := Lib.hid (own_drop (keepEO (by assumption)) HMM.out); have HBN := Lib.hid (keepEB (by assumption)))
                all_goals go_wp2_with (at_builtin; refine wpList_append_own _ rfl (.tmp 57) (.tmp 59) 27 rfl w.heap.size 3 i0 (.int .i64 0) 1 8 Try.underlying27 hi iz0 iz1 iz2 rfl (by decide) (.slice (some ⟨g, 0, none⟩) m cap) m ((st.drop t).reverse.map iv) rfl (by repeat (with_reducible first | exact OQ.out | apply World.ownsRow.alloc | apply own_drew)) ⟨w2.heap.size, 0, none⟩ 1 1 [.int .i64 K] rfl rfl (news_new (by simp)) (by simp [Value.oneCell']) (by unfold maxLen; omega) (by omega) (by have := HBN.out.size; simp; omega) ?_; intro v2 w3 hown2 hgr2 _; have OWN2 := Lib.hid hown2; have HB2 := Lib.hid (Below.grown (B := w.heap.size) (a := w) (HBN.out.alloc HBN.out.size _) hgr2 (by have := HBN.out.size; simp; omega) (fun k hk => (OQ.out.lt k hk).1)); clear hown2 hgr2)
                all_goals (obtain ⟨g', cap', rfl⟩ := own_slice OWN2.out (by omega))
                all_goals (have hlen : (K :: st.drop t).length = m + 1 := by have := HMM.out; simp; omega)
                all_goals (refine ⟨⟨k + 1, K :: st.drop t, g', cap', by omega, by go_num, HB2, by rw [hlen], by rw [hlen]; omega, HM.out _ HP.out, ?_⟩, by simp [intOf]; omega⟩)
                all_goals (rw [hlen]; exact Lib.hid (by have := OWN2.out; simpa [iv] using this))
      · obtain rfl : k = ps.length := by omega
        have HR2 : Hid (runK cs ps [] = some st) := by have := HR.out; rwa [List.take_length] at this
        have HK := Lib.hid (kindI_run HC.out HR2.out)
        rcases st with _ | ⟨x, _ | ⟨y, q⟩⟩
        · go_wp2
          all_goals (go_ret; exact ⟨retI HK.out.symm, HW.out⟩)
        · have c0 := own_at (l := [x]) OWN.out 0 (by simp)
          simp only [List.getElem_cons_zero] at c0
          go_wp2
          all_goals (go_ret; exact ⟨retI HK.out.symm, HW.out⟩)
        · have e2 : ((q.length : Int) + 1 + 1 != 1) = true := by simp; omega
          go_wp2
          all_goals (go_ret; exact ⟨retI HK.out.symm, HW.out⟩)
end Go.Proofs.Ytcddkleglmbfgaa.Val
