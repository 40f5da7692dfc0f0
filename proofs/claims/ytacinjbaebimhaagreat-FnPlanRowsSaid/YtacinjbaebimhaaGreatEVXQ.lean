/- The value of an expression (impl.ExprValue); The value of an expression (spec.ExprValue). -/
import Derived.Test.YtacinjbaebimhaaGreatEKIQ
import Derived.Test.YtacinjbaebimhaaGreatEPVKQ
import Derived.Test.YtacinjbaebimhaaGreatEDoKQ
import Derived.Deep.RegionHeldLaw
namespace Go.Proofs.YtacinjbaebimhaaGreat.Val
open Go.RowKit
set_option linter.unusedVariables false
set_option maxRecDepth 20000
/-- The run comes to one kind: it is not dead ahead of its end. -/
theorem run_alive {cs : List CT} {ps : List PT} {k : Nat} {p : PT} {st : List Int} (h : ¬ kindI cs ps < 0) (hk : k < ps.length) (hp : ps[k] = p) (hr : runK cs (ps.take k) [] = some st) : ∃ st', stepK cs p st = some st' := by
  obtain ⟨-, -, hr2, -, -⟩ := kind_some h
  rcases hs : stepK cs p st with _ | s1
  · rw [run_dead1 hk hp hr hs] at hr2; cases hr2
  · exact ⟨s1, rfl⟩
theorem own_far {w : World} {B g n cap size b o : Nat} {e : TypeId} {xs : List Value} {u : Value} (h : w.ownsRow B e size (.slice (some ⟨g, 0, none⟩) n cap) n xs) (hb : g ≠ b) : (w.setCell ⟨b, o, none⟩ u).ownsRow B e size (.slice (some ⟨g, 0, none⟩) n cap) n xs := by
  refine ⟨h.1, ?_⟩
  rcases h.2 with h0 | ⟨g2, cap2, cur, h1, h2, h3, h4⟩
  · exact .inl h0
  · have hg : g = g2 := by
      injection h1 with e1 e2 e3
      injection e1 with e1
      injection e1
    subst hg
    exact .inr ⟨g, cap2, cur, h1, h2, by rw [Below.heap_setCell _ _ _ _ hb]; exact h3, h4⟩
set_option maxHeartbeats 4000000 in
theorem exprValueI (A R E : Option Addr) (gc oc cc gr orr rc ge oe ce : Nat) (cs : List CT) (row : List VT) (ps : List PT) (w : World) (hA : Fl w gc oc A (flatC cs)) (hR : Fl w gr orr R (flatV row)) (hE : Fl w ge oe E (flatP ps)) (hl : cs.length ≤ 2000000) (hrl : row.length ≤ 2000000) (hp : ps.length ≤ 2000000) (hsr : Short row) (hs : ShortP ps) : Calls Tryz.prog 67 #[.slice A cs.length cc, .slice R row.length rc, .slice E ps.length ce] w fun e w' => e = .returned (aggV (xvalI cs row ps)) ∧ Below w.heap.size w w' := by
  obtain ⟨W0, hW0⟩ : ∃ W0, W0 = (w.alloc (.cells #[.int .i64 0, .int .i64 0, .string ⟨#[]⟩] 54)) := ⟨_, rfl⟩
  have CK := Lib.hid (exprKindI A E gc oc cc ge oe ce cs ps (w.alloc (.cells #[.int .i64 0, .int .i64 0, .string ⟨#[]⟩] 54)) (hA.alloc _) (hE.alloc _) hl hp hs)
  have CF := Lib.hid (fun (W : World) (hWA : Fl W gc oc A (flatC cs)) (hWR : Fl W gr orr R (flatV row)) => rowFitsI A R gc oc gr orr cc rc cs row W hWA hWR hl hrl hsr)
  have HA := Lib.hid (show Fl W0 gc oc A (flatC cs) by rw [hW0]; exact hA.alloc _)
  have HR := Lib.hid (show Fl W0 gr orr R (flatV row) by rw [hW0]; exact hR.alloc _)
  have HE := Lib.hid (show Fl W0 ge oe E (flatP ps) by rw [hW0]; exact hE.alloc _)
  have HE0 := Lib.hid hE
  have HRL := Lib.hid hrl
  have hs0 : W0.heap.size = w.heap.size + 1 := by rw [hW0]; simp
  have HBW := Lib.hid (show Below w.heap.size w W0 by rw [hW0]; exact (Below.refl _ _).alloc (Nat.le_refl _) _)
  have BX := Lib.hid (show (∀ u, Below W0.heap.size W0 u → (u.cell? ⟨w.heap.size, 0, none⟩ = some (.int .i64 0) ∧ u.cell? ⟨w.heap.size, 1, none⟩ = some (.int .i64 0) ∧ u.cell? ⟨w.heap.size, 2, none⟩ = some (.string ⟨#[]⟩)) ∧ u.frozen? ⟨w.heap.size, 0, none⟩ = false ∧ u.frozen? ⟨w.heap.size, 1, none⟩ = false ∧ u.frozen? ⟨w.heap.size, 2, none⟩ = false) from fun u hu => by
    obtain ⟨hc, hf⟩ := bcell hu
    have c := fun j => hc w.heap.size j (by omega)
    have f := fun j => hf w.heap.size j (by omega)
    rw [c, c, c, f, f, f, hW0]
    simp [go_sem])
  clear hA hR hE hs hsr
  obtain ⟨i0, hi, iz0, iz1, iz2⟩ := info_parts infoV
  by_cases hgood : ¬ kindI cs ps < 0 ∧ fitB cs row = true
  case neg =>
    have HZ := Lib.hid (show xvalI cs row ps = nilV from xval_nil (by
      by_cases h1 : kindI cs ps < 0
      · exact .inl h1
      · refine .inr ?_
        cases h2 : fitB cs row
        · rfl
        · exact absurd ⟨h1, h2⟩ hgood))
    rw [HZ.out]
    unfold aggV nilV
    simp only
    obtain ⟨K, hK⟩ : ∃ K, kindI cs ps = K := ⟨_, rfl⟩
    obtain ⟨F, hF⟩ : ∃ F, fitB cs row = F := ⟨_, rfl⟩
    rw [hK] at CK hgood
    rw [hF] at CF hgood
    clear hK hF
    obtain h1 | h2 : K < 0 ∨ F = false := by
      by_cases h1 : K < 0
      · exact .inl h1
      · refine .inr ?_
        cases F
        · rfl
        · exact absurd ⟨h1, rfl⟩ hgood
    · clear hgood
      go_enter Tryz.func67, Tryz.ntmps67
      go_wp2_with (first
        | (go_at_call 66; (with_reducible refine CK.out.mono ?_); rintro e w1 ⟨rfl, hb1⟩; rw [← hW0] at hb1; have HB := Lib.hid hb1; have HA1 := Lib.hid (HA.out.below hb1); have HR1 := Lib.hid (HR.out.below hb1); obtain ⟨⟨z0, z1, z2⟩, f0, f1, f2⟩ := BX.out _ hb1; clear hb1)
        | (go_at_call 63; (with_reducible refine (CF.out _ HA1.out HR1.out).mono ?_); rintro e w2 ⟨rfl, hb2⟩; have HB2 := Lib.hid (HB.out.trans (hb2.mono HB.out.size)); clear z0 z1 z2 f0 f1 f2; obtain ⟨⟨z0, z1, z2⟩, f0, f1, f2⟩ := BX.out _ HB2.out; clear hb2))
      all_goals (first
        | have HBD := Lib.hid (HBW.out.trans (HB2.out.mono (by omega)))
        | have HBD := Lib.hid (HBW.out.trans (HB.out.mono (by omega))))
      all_goals (change bodyPost Tryz.prog _ _ _ _ _; refine bodyPost_ret (v := .agg #[.int .i64 0, .int .i64 0, .string ⟨#[]⟩]) ?_ rfl ?_; (focus ((simp [results, Tryz.results67, go_sem, *]; done))); refine ⟨rfl, ?_⟩; (repeat (with_reducible first | exact Below.refl _ _ | exact HBD.out | (refine Below.trans ?_ (Below.mono hb1 (by first | omega | (simp; done) | (simp; omega))); clear hb1) | (refine Below.trans ?_ (Below.mono hb2 (by first | omega | (simp; done) | (simp; omega))); clear hb2) | (refine Below.trans ?_ (Below.mono hb3 (by first | omega | (simp; done) | (simp; omega))); clear hb3) | (refine Below.trans ?_ (Below.mono hb4 (by first | omega | (simp; done) | (simp; omega))); clear hb4) | (refine Below.trans ?_ (Below.mono hb5 (by first | omega | (simp; done) | (simp; omega))); clear hb5) | (refine Below.trans ?_ (Below.mono hb6 (by first | omega | (simp; done) | (simp; omega))); clear hb6) | (refine Below.trans ?_ (Below.mono hb7 (by first | omega | (simp; done) | (simp; omega))); clear hb7) | (refine Below.trans ?_ (Below.mono hb8 (by first | omega | (simp; done) | (simp; omega))); clear hb8) | (refine Below.trans ?_ (Below.mono hb9 (by first | omega | (simp; done) | (simp; omega))); clear hb9) | (refine Below.trans ?_ (Below.mono hb10 (by first | omega | (simp; done) | (simp; omega))); clear hb10) | refine Below.alloc ?_ (by first | omega | (simp; done) | (simp; omega)) _ | refine Below.setCell ?_ (by first | omega | (simp; done) | (simp; omega)) _ | refine Below.drew ?_)))
    · clear hgood
      subst h2
      go_enter Tryz.func67, Tryz.ntmps67
      go_wp2_with (first
        | (go_at_call 66; (with_reducible refine CK.out.mono ?_); rintro e w1 ⟨rfl, hb1⟩; rw [← hW0] at hb1; have HB := Lib.hid hb1; have HA1 := Lib.hid (HA.out.below hb1); have HR1 := Lib.hid (HR.out.below hb1); obtain ⟨⟨z0, z1, z2⟩, f0, f1, f2⟩ := BX.out _ hb1; clear hb1)
        | (go_at_call 63; (with_reducible refine (CF.out _ HA1.out HR1.out).mono ?_); rintro e w2 ⟨rfl, hb2⟩; have HB2 := Lib.hid (HB.out.trans (hb2.mono HB.out.size)); clear z0 z1 z2 f0 f1 f2; obtain ⟨⟨z0, z1, z2⟩, f0, f1, f2⟩ := BX.out _ HB2.out; clear hb2))
      all_goals (first
        | have HBD := Lib.hid (HBW.out.trans (HB2.out.mono (by omega)))
        | have HBD := Lib.hid (HBW.out.trans (HB.out.mono (by omega))))
      all_goals (change bodyPost Tryz.prog _ _ _ _ _; refine bodyPost_ret (v := .agg #[.int .i64 0, .int .i64 0, .string ⟨#[]⟩]) ?_ rfl ?_; (focus ((simp [results, Tryz.results67, go_sem, *]; done))); refine ⟨rfl, ?_⟩; (repeat (with_reducible first | exact Below.refl _ _ | exact HBD.out | (refine Below.trans ?_ (Below.mono hb1 (by first | omega | (simp; done) | (simp; omega))); clear hb1) | (refine Below.trans ?_ (Below.mono hb2 (by first | omega | (simp; done) | (simp; omega))); clear hb2) | (refine Below.trans ?_ (Below.mono hb3 (by first | omega | (simp; done) | (simp; omega))); clear hb3) | (refine Below.trans ?_ (Below.mono hb4 (by first | omega | (simp; done) | (simp; omega))); clear hb4) | (refine Below.trans ?_ (Below.mono hb5 (by first | omega | (simp; done) | (simp; omega))); clear hb5) | (refine Below.trans ?_ (Below.mono hb6 (by first | omega | (simp; done) | (simp; omega))); clear hb6) | (refine Below.trans ?_ (Below.mono hb7 (by first | omega | (simp; done) | (simp; omega))); clear hb7) | (refine Below.trans ?_ (Below.mono hb8 (by first | omega | (simp; done) | (simp; omega))); clear hb8) | (refine Below.trans ?_ (Below.mono hb9 (by first | omega | (simp; done) | (simp; omega))); clear hb9) | (refine Below.trans ?_ (Below.mono hb10 (by first | omega | (simp; done) | (simp; omega))); clear hb10) | refine Below.alloc ?_ (by first | omega | (simp; done) | (simp; omega)) _ | refine Below.setCell ?_ (by first | omega | (simp; done) | (simp; omega)) _ | refine Below.drew ?_)))
  case pos =>
    obtain ⟨hk0, hft⟩ := hgood
    have HK := Lib.hid hk0
    have HF := Lib.hid hft
    have hx1 := (xval_of hk0 hft).1
    obtain ⟨XV, hXV⟩ : ∃ X, xvalI cs row ps = X := ⟨_, rfl⟩
    rw [hXV] at hx1 ⊢
    clear hXV
    obtain ⟨v0, v1, v2⟩ := XV
    have HX := Lib.hid hx1
    clear hx1
    unfold aggV
    simp only
    have HKS := Lib.hid (kind_some hk0)
    have h12 : ps.length ≤ 12 := HKS.out.2.1
    obtain ⟨K, hK⟩ : ∃ K, kindI cs ps = K := ⟨_, rfl⟩
    rw [hK] at CK hk0
    rw [hft] at CF
    clear hK hft
    go_enter Tryz.func67, Tryz.ntmps67
    go_wp2_with (first
      | (go_at_call 66; (with_reducible refine CK.out.mono ?_); rintro e w1 ⟨rfl, hb1⟩; rw [← hW0] at hb1; have HB := Lib.hid hb1; have HA1 := Lib.hid (HA.out.below hb1); have HR1 := Lib.hid (HR.out.below hb1); clear hb1)
      | (go_at_call 63; (with_reducible refine (CF.out _ HA1.out HR1.out).mono ?_); rintro e w2 ⟨rfl, hb2⟩; have HB2 := Lib.hid (HB.out.trans (hb2.mono HB.out.size)); clear hb2))
    go_loopw [7, 8] (fun vx ix wr => ∃ (k : Nat) (st : List Int) (vs : List VT) (g cap : Nat), k ≤ ps.length ∧ ix = .int .i64 k ∧ Hid (Below W0.heap.size W0 wr) ∧ vx = .slice (some ⟨g, 0, none⟩) vs.length cap ∧ vs.length ≤ k ∧ Hid (runK cs (ps.take k) [] = some st) ∧ Hid (runV row (ps.take k) [] = vs) ∧ Hid (Typ vs st) ∧ Hid (wr.ownsRow W0.heap.size 54 3 vx vs.length (flatV vs.reverse))) (fun _ ix _ => ps.length - (intOf ix).toNat)
    case atStart =>
      exact ⟨0, [], [], _, _, by omega, rfl, HB2.out.alloc HB2.out.size _, rfl, by simp, rfl, rfl, trivial, own_empty3 54 3 rfl HB2.out.size⟩
    case round =>
      obtain ⟨k, st, vs, g, cap, hk, rfl, HW, rfl, hst, HRK, HRV, HT, OWN⟩ := hrel
      by_cases hlt : k < ps.length
      · obtain ⟨rfl, -⟩ := HE0.out.pt k hlt
        obtain ⟨-, hg2, c0, c1, c2, c3, c4⟩ := (HE.out.below HW.out).pt k hlt
        obtain ⟨p, hpk⟩ : ∃ p, ps[k] = p := ⟨_, rfl⟩
        obtain ⟨st', hst'⟩ := run_alive (by have := HK.out; omega) hlt hpk HRK.out
        have HM := Lib.hid (run_more (st' := st') hlt hpk HRK.out hst')
        have HRV2 := Lib.hid (run_val hlt hpk HRV.out hst' HT.out HF.out)
        have HVP := Lib.hid (val_put (row := row) hst' HT.out.len)
        have hhas := (step_has hst').2
        rw [← HT.out.len] at hhas
        have CT := Lib.hid (fun w => partTakes p.1 w)
        have CP := Lib.hid (fun (W : World) (T : Option Addr) (o ct : Nat) (hW : Fl W gr orr R (flatV row)) (hT : Fl W g o T (flatV (vs.take (takesI p.1)).reverse)) => partValueA R T gr orr rc g o ct cs row vs st st' p W hW hT hst' HT.out HF.out HRL.out)
        rw [hpk] at c0 c1 c2 c3 c4
        clear hpk hst'
        have i0' : (0 : Int) ≤ (k : Int) := by omega
        have i1' : (k : Int) < (ps.length : Int) := by omega
        obtain ⟨pk, pn, vk, vn, s⟩ := p
        have ht2 := takes_le pk
        simp only at c0 c1 c2 c3 c4 CP CT HVP hhas
        obtain ⟨t, ht⟩ : ∃ t, takesI pk = t := ⟨_, rfl⟩
        rw [ht] at CP CT ht2 HVP hhas
        clear ht
        obtain ⟨V, hV⟩ : ∃ V, putV row (pk, pn, vk, vn, s) (vs.take t).reverse = V := ⟨_, rfl⟩
        rw [hV] at CP HVP
        clear hV
        rw [HVP.out] at HRV2
        obtain ⟨u0, u1, u2⟩ := V
        unfold aggP aggV at CP
        simp only at CP
        obtain ⟨m, hm⟩ : ∃ m, vs.length = m + t := ⟨vs.length - t, by omega⟩
        rw [hm] at OWN hst ⊢
        have e0 : ((m : Int) + (t : Int) - (t : Int)) = (m : Int) := by omega
        have hw1 : IntKind.i64.wrap (m : Int) = (m : Int) := IntWalk.i64_in _ (by omega)
        have m0 : ¬ ((m : Int) < 0) := by omega
        have hmt : (m : Int) ≤ (m : Int) + (t : Int) := by omega
        have hg3 : ge < wr.heap.size := hg2
        have HMM := Lib.hid hm
        clear hm
        go_wp2_with (first | (go_at_call 80; (with_reducible refine (CT.out _).mono ?_); rintro e w1 ⟨rfl, rfl⟩))
        by_cases hcm : cap = m
        · subst hcm
          go_region_with (first | (go_at_call 83; (refine (CP.out _ _ _ _ (by repeat (with_reducible first | exact HR.out.below HW.out | apply Fl.alloc | apply Fl.drew)) (fl_tailV0 (by repeat (with_reducible first | exact OWN.out | apply World.ownsRow.alloc | apply own_drew)) HMM.out)).mono ?_); rintro e w2 ⟨rfl, hbq⟩; have OQ := Lib.hid (own_dropV (own_below (by repeat (with_reducible first | exact OWN.out | apply World.ownsRow.alloc | apply own_drew)) hbq) HMM.out); have HBN : Hid (Below W0.heap.size W0 w2) := Below.trans (by repeat (with_reducible first | exact HW.out | refine Below.alloc ?_ HW.out.size _ | apply Below.drew)) (hbq.mono (by have := HW.out.size; first | (simp; done) | (simp; omega))); obtain ⟨hcq, hfq⟩ := bcell hbq; (try simp only [World.size_drew, World.cell?_drew, World.frozen?_drew] at hcq hfq); have hzq := hbq.size; (try simp at hzq); clear hbq))
          all_goals (have hgwr : g < wr.heap.size := (own_cap OWN.out).2.1; have hzw := HW.out.size; have hzn := HBN.out.size)
          all_goals (go_wp2; go_region_law (refine step_own rfl (.tmp 49) (.tmp 51) 50 rfl W0.heap.size 54 i0 (.agg #[.int .i64 0, .int .i64 0, .string ⟨#[]⟩]) 3 32 Tryz.underlying50 hi iz0 iz1 iz2 rfl (by decide) (.slice (some ⟨g, 0, none⟩) cap cap) cap (flatV (vs.drop t).reverse) rfl (by repeat (with_reducible first | exact OQ.out | apply World.ownsRow.alloc | apply own_drew | (refine own_far ?_ (by omega)))) _ 1 1 [.int .i64 u0, .int .i64 u1, .string u2] rfl rfl (news_new (by first | rfl | simp)) (by simp [Value.oneCell']) (by unfold maxLen; omega) (by omega) (by first | omega | (simp; done) | (simp; omega)) ?_; intro v2 w3 hown2 hgr2 _; have OWN2 := Lib.hid hown2; have HB2 := Lib.hid (Below.grown (B := W0.heap.size) (a := W0) (by repeat (with_reducible first | exact HBN.out | refine Below.alloc ?_ (by first | omega | (simp; done) | (simp; omega)) _ | refine Below.setCell ?_ (by first | omega | (simp; done) | (simp; omega)) _ | apply Below.drew)) hgr2 (by first | omega | (simp; done) | (simp; omega)) (fun k hk => (OQ.out.lt k hk).1)); clear hown2 hgr2))
          all_goals go_wp2
          all_goals (obtain ⟨g', cap', rfl⟩ := own_slice OWN2.out (by omega))
          all_goals (have hlen : ((u0, u1, u2) :: vs.drop t).length = cap + 1 := by have := HMM.out; simp; omega)
          all_goals (refine ⟨⟨k + 1, st', (u0, u1, u2) :: vs.drop t, g', cap', by omega, by go_num, HB2, by rw [hlen], by rw [hlen]; omega, HM, HRV2.out.1, HRV2.out.2, ?_⟩, by simp [intOf]; omega⟩)
          all_goals (rw [hlen]; exact Lib.hid (by have := OWN2.out; rwa [List.reverse_cons, flatV_app]))
        · have hmc : (m : Int) ≤ (cap : Int) := by have := (own_cap OWN.out).2.2.1; omega
          have hmc2 : m ≤ cap := by omega
          go_region_with (first | (go_at_call 83; (refine (CP.out _ _ _ _ (by repeat (with_reducible first | exact HR.out.below HW.out | apply Fl.alloc | apply Fl.drew)) (fl_tailV1 hcm (by repeat (with_reducible first | exact OWN.out | apply World.ownsRow.alloc | apply own_drew)) HMM.out)).mono ?_); rintro e w2 ⟨rfl, hbq⟩; have OQ := Lib.hid (own_dropV (own_below (by repeat (with_reducible first | exact OWN.out | apply World.ownsRow.alloc | apply own_drew)) hbq) HMM.out); have HBN : Hid (Below W0.heap.size W0 w2) := Below.trans (by repeat (with_reducible first | exact HW.out | refine Below.alloc ?_ HW.out.size _ | apply Below.drew)) (hbq.mono (by have := HW.out.size; first | (simp; done) | (simp; omega))); obtain ⟨hcq, hfq⟩ := bcell hbq; (try simp only [World.size_drew, World.cell?_drew, World.frozen?_drew] at hcq hfq); have hzq := hbq.size; (try simp at hzq); clear hbq))
          all_goals (have hgwr : g < wr.heap.size := (own_cap OWN.out).2.1; have hzw := HW.out.size; have hzn := HBN.out.size)
          all_goals (go_wp2; go_region_law (refine step_own rfl (.tmp 49) (.tmp 51) 50 rfl W0.heap.size 54 i0 (.agg #[.int .i64 0, .int .i64 0, .string ⟨#[]⟩]) 3 32 Tryz.underlying50 hi iz0 iz1 iz2 rfl (by decide) (.slice (some ⟨g, 0, none⟩) m cap) m (flatV (vs.drop t).reverse) rfl (by repeat (with_reducible first | exact OQ.out | apply World.ownsRow.alloc | apply own_drew | (refine own_far ?_ (by omega)))) _ 1 1 [.int .i64 u0, .int .i64 u1, .string u2] rfl rfl (news_new (by first | rfl | simp)) (by simp [Value.oneCell']) (by unfold maxLen; omega) (by omega) (by first | omega | (simp; done) | (simp; omega)) ?_; intro v2 w3 hown2 hgr2 _; have OWN2 := Lib.hid hown2; have HB2 := Lib.hid (Below.grown (B := W0.heap.size) (a := W0) (by repeat (with_reducible first | exact HBN.out | refine Below.alloc ?_ (by first | omega | (simp; done) | (simp; omega)) _ | refine Below.setCell ?_ (by first | omega | (simp; done) | (simp; omega)) _ | apply Below.drew)) hgr2 (by first | omega | (simp; done) | (simp; omega)) (fun k hk => (OQ.out.lt k hk).1)); clear hown2 hgr2))
          all_goals go_wp2
          all_goals (obtain ⟨g', cap', rfl⟩ := own_slice OWN2.out (by omega))
          all_goals (have hlen : ((u0, u1, u2) :: vs.drop t).length = m + 1 := by have := HMM.out; simp; omega)
          all_goals (refine ⟨⟨k + 1, st', (u0, u1, u2) :: vs.drop t, g', cap', by omega, by go_num, HB2, by rw [hlen], by rw [hlen]; omega, HM, HRV2.out.1, HRV2.out.2, ?_⟩, by simp [intOf]; omega⟩)
          all_goals (rw [hlen]; exact Lib.hid (by have := OWN2.out; rwa [List.reverse_cons, flatV_app]))
      · obtain rfl : k = ps.length := by omega
        have HV1 : Hid (runV row ps [] = vs) := by have := HRV.out; rwa [List.take_length] at this
        have hvs : vs = [(v0, v1, v2)] := HV1.out.symm.trans HX.out
        subst hvs
        obtain ⟨-, hgl, d0, d1, d2⟩ := (fl_slice OWN.out).v 0 (by simp)
        simp only [List.length_singleton, List.reverse_cons, List.reverse_nil, List.nil_append, List.getElem_cons_zero, Nat.zero_mul, Nat.zero_add] at d0 d1 d2 ⊢
        obtain ⟨⟨z0, z1, z2⟩, f0, f1, f2⟩ := BX.out _ HW.out
        have HBD := Lib.hid (HBW.out.trans (HW.out.mono (by omega)))
        go_wp2
        all_goals (change bodyPost Tryz.prog _ _ _ _ _; refine bodyPost_ret (v := .agg #[.int .i64 v0, .int .i64 v1, .string v2]) ?_ rfl ?_; (focus ((simp [results, Tryz.results67, go_sem, *]; done))); refine ⟨rfl, ?_⟩; (repeat (with_reducible first | exact Below.refl _ _ | exact HBD.out | (refine Below.trans ?_ (Below.mono hb1 (by first | omega | (simp; done) | (simp; omega))); clear hb1) | (refine Below.trans ?_ (Below.mono hb2 (by first | omega | (simp; done) | (simp; omega))); clear hb2) | (refine Below.trans ?_ (Below.mono hb3 (by first | omega | (simp; done) | (simp; omega))); clear hb3) | (refine Below.trans ?_ (Below.mono hb4 (by first | omega | (simp; done) | (simp; omega))); clear hb4) | (refine Below.trans ?_ (Below.mono hb5 (by first | omega | (simp; done) | (simp; omega))); clear hb5) | (refine Below.trans ?_ (Below.mono hb6 (by first | omega | (simp; done) | (simp; omega))); clear hb6) | (refine Below.trans ?_ (Below.mono hb7 (by first | omega | (simp; done) | (simp; omega))); clear hb7) | (refine Below.trans ?_ (Below.mono hb8 (by first | omega | (simp; done) | (simp; omega))); clear hb8) | (refine Below.trans ?_ (Below.mono hb9 (by first | omega | (simp; done) | (simp; omega))); clear hb9) | (refine Below.trans ?_ (Below.mono hb10 (by first | omega | (simp; done) | (simp; omega))); clear hb10) | refine Below.alloc ?_ (by first | omega | (simp; done) | (simp; omega)) _ | refine Below.setCell ?_ (by first | omega | (simp; done) | (simp; omega)) _ | refine Below.drew ?_)))
end Go.Proofs.YtacinjbaebimhaaGreat.Val
namespace Go.Proofs.YtacinjbaebimhaaGreat.Val
open Go.RowKit
set_option linter.unusedVariables false
set_option linter.unusedSimpArgs false
set_option maxRecDepth 20000
set_option maxHeartbeats 4000000 in
theorem l4Value (R E : Option Addr) (gr orr rc ge oe ce : Nat) (cs : List CT) (row : List VT) (ps : List PT) (w : World) (hk0 : ¬ kindI cs ps < 0) (hft : fitB cs row = true) (hR : Fl w gr orr R (flatV row)) (hE : Fl w ge oe E (flatP ps)) (hrl : row.length ≤ 2000000) : Calls Tryz.prog 71 #[.slice R row.length rc, .slice E ps.length ce] w fun e w' => e = .returned (aggV (xvalI cs row ps)) ∧ Below w.heap.size w w' := by
  obtain ⟨W0, hW0⟩ : ∃ W0, W0 = (w.alloc (.cells #[.int .i64 0, .int .i64 0, .string ⟨#[]⟩] 54)) := ⟨_, rfl⟩
  have HR := Lib.hid (show Fl W0 gr orr R (flatV row) by rw [hW0]; exact hR.alloc _)
  have HE := Lib.hid (show Fl W0 ge oe E (flatP ps) by rw [hW0]; exact hE.alloc _)
  have HE0 := Lib.hid hE
  have HRL := Lib.hid hrl
  have hs0 : W0.heap.size = w.heap.size + 1 := by rw [hW0]; simp
  have HBW := Lib.hid (show Below w.heap.size w W0 by rw [hW0]; exact (Below.refl _ _).alloc (Nat.le_refl _) _)
  have BX := Lib.hid (show (∀ u, Below W0.heap.size W0 u → (u.cell? ⟨w.heap.size, 0, none⟩ = some (.int .i64 0) ∧ u.cell? ⟨w.heap.size, 1, none⟩ = some (.int .i64 0) ∧ u.cell? ⟨w.heap.size, 2, none⟩ = some (.string ⟨#[]⟩)) ∧ u.frozen? ⟨w.heap.size, 0, none⟩ = false ∧ u.frozen? ⟨w.heap.size, 1, none⟩ = false ∧ u.frozen? ⟨w.heap.size, 2, none⟩ = false) from fun u hu => by
    obtain ⟨hc, hf⟩ := bcell hu
    have c := fun j => hc w.heap.size j (by omega)
    have f := fun j => hf w.heap.size j (by omega)
    rw [c, c, c, f, f, f, hW0]
    simp [go_sem])
  have HK := Lib.hid hk0
  have HF := Lib.hid hft
  have h12 : ps.length ≤ 12 := (kind_some hk0).2.1
  have hx1 := (xval_of hk0 hft).1
  obtain ⟨XV, hXV⟩ : ∃ X, xvalI cs row ps = X := ⟨_, rfl⟩
  rw [hXV] at hx1 ⊢
  clear hXV
  obtain ⟨v0, v1, v2⟩ := XV
  have HX := Lib.hid hx1
  have HB0 := Lib.hid (show Below W0.heap.size W0 ((w.alloc (.cells #[.int .i64 0, .int .i64 0, .string ⟨#[]⟩] 54)).alloc (.cells #[] 54)) by rw [← hW0]; exact (Below.refl _ _).alloc (Nat.le_refl _) _)
  have OW0 := Lib.hid (show ((w.alloc (.cells #[.int .i64 0, .int .i64 0, .string ⟨#[]⟩] 54)).alloc (.cells #[] 54)).ownsRow W0.heap.size 54 3 (.slice (some ⟨w.heap.size + 1, 0, none⟩) 0 0) 0 (flatV ([] : List VT).reverse) from own_empty3 54 3 (by simp) (by omega))
  clear hx1 hR hE hk0 hft
  unfold aggV
  simp only
  go_enter Tryz.func71, Tryz.ntmps71
  go_wp2
  go_loopw [5, 6] (fun vx ix wr => ∃ (k : Nat) (st : List Int) (vs : List VT) (g cap : Nat), k ≤ ps.length ∧ ix = .int .i64 k ∧ Hid (Below W0.heap.size W0 wr) ∧ vx = .slice (some ⟨g, 0, none⟩) vs.length cap ∧ vs.length ≤ k ∧ Hid (runK cs (ps.take k) [] = some st) ∧ Hid (runV row (ps.take k) [] = vs) ∧ Hid (Typ vs st) ∧ Hid (wr.ownsRow W0.heap.size 54 3 vx vs.length (flatV vs.reverse))) (fun _ ix _ => ps.length - (intOf ix).toNat)
  case atStart =>
    exact ⟨0, [], [], _, _, by omega, rfl, HB0.out, rfl, by simp, rfl, rfl, trivial, OW0.out⟩
  case round =>
    obtain ⟨k, st, vs, g, cap, hk, rfl, HW, rfl, hst, HRK, HRV, HT, OWN⟩ := hrel
    by_cases hlt : k < ps.length
    · obtain ⟨rfl, -⟩ := HE0.out.pt k hlt
      obtain ⟨-, hg2, c0, c1, c2, c3, c4⟩ := (HE.out.below HW.out).pt k hlt
      obtain ⟨p, hpk⟩ : ∃ p, ps[k] = p := ⟨_, rfl⟩
      obtain ⟨st', hst'⟩ := run_alive (by have := HK.out; omega) hlt hpk HRK.out
      have HM := Lib.hid (run_more (st' := st') hlt hpk HRK.out hst')
      have HRV2 := Lib.hid (run_val hlt hpk HRV.out hst' HT.out HF.out)
      have HSL := Lib.hid (step_vlen (row := row) hst' HT.out)
      have CD := Lib.hid (l4DoA R gr orr rc g cap cs row vs st st' p W0.heap.size wr (HR.out.below HW.out) hst' HT.out HF.out HRL.out OWN.out HW.out.size (by omega))
      rw [hpk] at c0 c1 c2 c3 c4
      clear hpk hst'
      have i0' : (0 : Int) ≤ (k : Int) := by omega
      have i1' : (k : Int) < (ps.length : Int) := by omega
      obtain ⟨us, hus⟩ : ∃ us, stepV row p vs = us := ⟨_, rfl⟩
      rw [hus] at CD HRV2 HSL
      clear hus
      obtain ⟨pk, pn, vk, vn, s⟩ := p
      simp only at c0 c1 c2 c3 c4
      unfold aggP at CD
      simp only at CD
      go_wp2_with (go_at_call 85; (with_reducible refine CD.out.mono ?_); rintro e w1 ⟨g', cap', rfl, hb1, hown⟩; have OW1 := Lib.hid hown; have HW1 := Lib.hid (HW.out.trans hb1); clear hb1 hown)
      all_goals (exact ⟨⟨k + 1, st', us, g', cap', by omega, by go_num, HW1, rfl, by have := HSL.out; omega, HM, HRV2.out.1, HRV2.out.2, OW1⟩, by simp [intOf]; omega⟩)
    · obtain rfl : k = ps.length := by omega
      have HV1 : Hid (runV row ps [] = vs) := by have := HRV.out; rwa [List.take_length] at this
      have hvs : vs = [(v0, v1, v2)] := HV1.out.symm.trans HX.out
      subst hvs
      obtain ⟨-, hgl, d0, d1, d2⟩ := (fl_slice OWN.out).v 0 (by simp)
      simp only [List.length_singleton, List.reverse_cons, List.reverse_nil, List.nil_append, List.getElem_cons_zero, Nat.zero_mul, Nat.zero_add] at d0 d1 d2 ⊢
      obtain ⟨⟨z0, z1, z2⟩, f0, f1, f2⟩ := BX.out _ HW.out
      have HBD := Lib.hid (HBW.out.trans (HW.out.mono (by omega)))
      go_wp2
      all_goals (change bodyPost Tryz.prog _ _ _ _ _; refine bodyPost_ret (v := .agg #[.int .i64 v0, .int .i64 v1, .string v2]) ?_ rfl ?_; (focus ((simp [results, Tryz.results71, go_sem, *]; done))); refine ⟨rfl, ?_⟩; (repeat (with_reducible first | exact Below.refl _ _ | exact HBD.out | (refine Below.trans ?_ (Below.mono hb1 (by first | omega | (simp; done) | (simp; omega))); clear hb1) | (refine Below.trans ?_ (Below.mono hb2 (by first | omega | (simp; done) | (simp; omega))); clear hb2) | (refine Below.trans ?_ (Below.mono hb3 (by first | omega | (simp; done) | (simp; omega))); clear hb3) | (refine Below.trans ?_ (Below.mono hb4 (by first | omega | (simp; done) | (simp; omega))); clear hb4) | (refine Below.trans ?_ (Below.mono hb5 (by first | omega | (simp; done) | (simp; omega))); clear hb5) | (refine Below.trans ?_ (Below.mono hb6 (by first | omega | (simp; done) | (simp; omega))); clear hb6) | (refine Below.trans ?_ (Below.mono hb7 (by first | omega | (simp; done) | (simp; omega))); clear hb7) | (refine Below.trans ?_ (Below.mono hb8 (by first | omega | (simp; done) | (simp; omega))); clear hb8) | (refine Below.trans ?_ (Below.mono hb9 (by first | omega | (simp; done) | (simp; omega))); clear hb9) | (refine Below.trans ?_ (Below.mono hb10 (by first | omega | (simp; done) | (simp; omega))); clear hb10) | refine Below.alloc ?_ (by first | omega | (simp; done) | (simp; omega)) _ | refine Below.setCell ?_ (by first | omega | (simp; done) | (simp; omega)) _ | refine Below.drew ?_)))
end Go.Proofs.YtacinjbaebimhaaGreat.Val
