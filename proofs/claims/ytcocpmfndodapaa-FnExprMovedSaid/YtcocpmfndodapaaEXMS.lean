/- Moving an expression with its columns (spec.ExprMoved). -/
import Derived.Test.YtcocpmfndodapaaEXM
namespace Go.Proofs.Ytcocpmfndodapaa.Val
open Go.RowKit
set_option linter.unusedVariables false
set_option linter.unusedSimpArgs false
set_option maxRecDepth 20000
theorem l1In03 (n : Int) (w : World) : Calls Try.prog 74 #[.int .i64 n, .int .i64 0, .int .i64 3] w fun e w' => e = .returned (.bool (placeB n)) ∧ w = w' := l1In n 0 3 w
set_option maxHeartbeats 4000000 in
theorem exprMovedS (A E T : Option Addr) (gc oc cc ge oe ce gt ot ct : Nat) (cs : List CT) (ps : List PT) (tt : List Int) (w : World) (hA : Fl w gc oc A (flatC cs)) (hE : Fl w ge oe E (flatP ps)) (hT : Fl w gt ot T (tt.map iv)) (hl : cs.length ≤ 2000000) (hp : ps.length ≤ 2000000) (ht : tt.length ≤ 2000000) (hs : ShortP ps) : Calls Try.prog 34 #[.slice A cs.length cc, .slice E ps.length ce, .slice T tt.length ct] w (OwnP (movI cs ps tt) w) := by
  have CK := Lib.hid (fun W hWA hWE => exprKindS A E gc oc cc ge oe ce cs ps W hWA hWE hl hp hs)
  have HA := Lib.hid hA
  have HE := Lib.hid hE
  have HT := Lib.hid hT
  obtain ⟨i0, hi, iz0, iz1, iz2⟩ := info_parts infoP
  clear hA hE hT hs
  have HBo := Lib.hid (movB_of (cs := cs) (ps := ps) (tt := tt))
  obtain ⟨K, hK⟩ : ∃ K, kindI cs ps = K := ⟨_, rfl⟩
  rw [hK] at HBo CK
  have CALL : True := trivial
  by_cases hgood : ¬ K < 0 ∧ tt.length = cs.length
  · obtain ⟨h0, htl⟩ := hgood
    have HZ1 := Lib.hid (fun (h : tt.all placeB = true) => (show movI cs ps tt = ps.map (mvP tt) by unfold movI; rw [HBo.out, if_pos (by simp [h0, htl, h])]))
    have HZ0 := Lib.hid (fun (h : tt.all placeB = false) => (show movI cs ps tt = [] by unfold movI; rw [HBo.out, if_neg (by simp [h])]))
    have h12 : ps.length ≤ 12 := (kind_some (cs := cs) (ps := ps) (by rw [hK]; exact h0)).2.1
    have HCI := Lib.hid (fun (i : Nat) (p : PT) (h1 : i < ps.length) (h2 : ps[i] = p) (h3 : p.1 = 2) => col_in (cs := cs) (ps := ps) (by rw [hK]; exact h0) h1 h2 h3)
    clear hK HBo
    have e0 : ((tt.length : Int) != (cs.length : Int)) = false := by simp [htl]
    have HTL := Lib.hid htl
    clear htl
    go_enter Try.func34, Try.ntmps34
    go_wp2_with (go_at_call 17; (with_reducible refine (CK.out _ (HA.out.alloc _) (HE.out.alloc _)).mono ?_); rintro e w1 ⟨rfl, hb1⟩; have OW0 := Lib.hid (own_below (own_empty3 (w := w) (B := w.heap.size) 32 5 rfl (Nat.le_refl _)) hb1); have HB := Lib.hid (Below.trans ((Below.refl w.heap.size w).alloc (Nat.le_refl _) _) (hb1.mono (by simp))); clear hb1)
    go_loopw [8] (fun nx wr => ∃ (k : Nat), k ≤ tt.length ∧ nx = .int .i64 k ∧ Hid ((tt.take k).all placeB = true) ∧ Hid (wr.ownsRow w.heap.size 32 5 (.slice (some ⟨w.heap.size, 0, none⟩) 0 0) 0 []) ∧ Hid (Below w.heap.size w wr)) (fun nx _ => tt.length - (intOf nx).toNat)
    case atStart => exact ⟨0, by omega, rfl, Lib.hid rfl, OW0, HB⟩
    case round =>
      clear OW0 HB
      obtain ⟨k, hk, rfl, HN, OW, HW1⟩ := hrel
      by_cases hlt : k < tt.length
      · obtain ⟨rfl, -⟩ := HT.out.n k hlt
        obtain ⟨-, hg2, c0⟩ := (HT.out.below HW1.out).n k hlt
        obtain ⟨x, hx⟩ : ∃ x, tt[k] = x := ⟨_, rfl⟩
        have HY := Lib.hid (fun h1 => pall_no hlt hx h1)
        have HM := Lib.hid (fun h1 => pall_on hlt hx HN.out h1)
        rw [hx] at c0
        clear hx
        have i0' : (0 : Int) ≤ (k : Int) := by omega
        have i1' : (k : Int) < (tt.length : Int) := by omega
        have CL := Lib.hid (fun w => l1In03 x w)
        obtain ⟨b, hb⟩ : ∃ b, placeB x = b := ⟨_, rfl⟩
        rw [hb] at CL
        cases b
        · have HZ := Lib.hid (HZ0.out (HY.out hb))
          clear hb
          go_wp2_with (go_at_call 74; (with_reducible refine (CL.out _).mono ?_); rintro e w2 ⟨rfl, rfl⟩)
          all_goals first
            | (go_ret; refine ⟨_, rfl, ?_, HW1.out.alloc HW1.out.size _⟩; rw [HZ.out]; exact own_empty3 32 5 rfl HW1.out.size)
            | (go_ret; refine ⟨_, rfl, ?_, HW1.out.drew.alloc HW1.out.size _⟩; rw [HZ.out]; exact own_empty3 32 5 rfl HW1.out.size)
        · have HM2 := Lib.hid (HM.out hb)
          clear hb
          go_wp2_with (go_at_call 74; (with_reducible refine (CL.out _).mono ?_); rintro e w2 ⟨rfl, rfl⟩)
          all_goals first
            | exact ⟨⟨k + 1, by omega, by go_num, HM2, OW, HW1⟩, by simp [intOf]; omega⟩
            | exact ⟨⟨k + 1, by omega, by go_num, HM2, Lib.hid (own_drew OW.out), HW1.out.drew⟩, by simp [intOf]; omega⟩
      · obtain rfl : k = tt.length := by omega
        have HZ := Lib.hid (HZ1.out (by have := HN.out; rwa [List.take_length] at this))
        go_wp2
        go_loopw [7, 9] (fun lx nx wr => ∃ (k g cap : Nat), k ≤ ps.length ∧ nx = .int .i64 k ∧ lx = .slice (some ⟨g, 0, none⟩) k cap ∧ Hid (wr.ownsRow w.heap.size 32 5 lx k (flatP ((ps.take k).map (mvP tt)))) ∧ Hid (Below w.heap.size w wr)) (fun _ nx _ => ps.length - (intOf nx).toNat)
        case atStart => exact ⟨0, _, _, by omega, rfl, rfl, OW, HW1⟩
        case round =>
          clear OW HW1
          obtain ⟨k, g, cap, hk, rfl, rfl, OWN, HW⟩ := hrel
          by_cases hlt : k < ps.length
          · obtain ⟨rfl, -⟩ := HE.out.pt k hlt
            obtain ⟨-, hg2, c0, c1, c2, c3, c4⟩ := (HE.out.below HW.out).pt k hlt
            obtain ⟨p, hpk⟩ : ∃ p, ps[k] = p := ⟨_, rfl⟩
            have HSN := Lib.hid (mov_snoc (tt := tt) hlt hpk)
            have HCP := Lib.hid (HCI.out k p hlt hpk)
            rw [hpk] at c0 c1 c2 c3 c4
            clear hpk
            obtain ⟨pk, pn, vk, vn, s⟩ := p
            simp only at c0 c1 c2 c3 c4 HCP
            have i0' : (0 : Int) ≤ (k : Int) := by omega
            have i1' : (k : Int) < (ps.length : Int) := by omega
            by_cases hp2 : pk = 2
            · subst hp2
              obtain ⟨hn0, hn1⟩ := HCP.out rfl
              obtain ⟨N, rfl⟩ := Int.eq_ofNat_of_zero_le hn0
              have hN : N < tt.length := by have := HTL.out; omega
              have HMV := Lib.hid (show mvP tt (2, (N : Int), (vk, vn, s)) = (2, tt[N], (vk, vn, s)) by simp [mvP, hN])
              obtain ⟨rfl, -⟩ := HT.out.n N hN
              obtain ⟨-, hg3, d0⟩ := (HT.out.below HW.out).n N hN
              obtain ⟨X, hX⟩ : ∃ X, tt[N] = X := ⟨_, rfl⟩
              rw [hX] at d0 HMV
              clear hX
              have j1' : (N : Int) < (tt.length : Int) := by omega
              have n1 : ¬ (wr.heap.size = gt) := by omega
              have n2 : ¬ (wr.heap.size = ge) := by omega
              go_wp2_with (at_builtin; refine wpList_append_own _ rfl (.tmp 56) (.tmp 58) 24 rfl w.heap.size 32 i0 (.agg #[.int .i64 0, .int .i64 0, .int .i64 0, .int .i64 0, .string ⟨#[]⟩]) 5 48 Try.underlying24 hi iz0 iz1 iz2 rfl (by decide) (.slice (some ⟨g, 0, none⟩) k cap) k (flatP ((ps.take k).map (mvP tt))) rfl (own_below OWN.out (by (repeat (with_reducible first | exact Below.refl _ _ | exact HBD.out | (refine Below.trans ?_ (Below.mono hb1 (by first | omega | (simp; done) | (simp; omega))); clear hb1) | (refine Below.trans ?_ (Below.mono hb2 (by first | omega | (simp; done) | (simp; omega))); clear hb2) | (refine Below.trans ?_ (Below.mono hb3 (by first | omega | (simp; done) | (simp; omega))); clear hb3) | (refine Below.trans ?_ (Below.mono hb4 (by first | omega | (simp; done) | (simp; omega))); clear hb4) | (refine Below.trans ?_ (Below.mono hb5 (by first | omega | (simp; done) | (simp; omega))); clear hb5) | (refine Below.trans ?_ (Below.mono hb6 (by first | omega | (simp; done) | (simp; omega))); clear hb6) | (refine Below.trans ?_ (Below.mono hb7 (by first | omega | (simp; done) | (simp; omega))); clear hb7) | (refine Below.trans ?_ (Below.mono hb8 (by first | omega | (simp; done) | (simp; omega))); clear hb8) | (refine Below.trans ?_ (Below.mono hb9 (by first | omega | (simp; done) | (simp; omega))); clear hb9) | (refine Below.trans ?_ (Below.mono hb10 (by first | omega | (simp; done) | (simp; omega))); clear hb10) | refine Below.alloc ?_ (by first | omega | (simp; done) | (simp; omega)) _ | refine Below.setCell ?_ (by first | omega | (simp; done) | (simp; omega)) _ | refine Below.drew ?_)))) ⟨wr.heap.size + 1, 0, none⟩ 1 1 [.int .i64 2, .int .i64 X, .int .i64 vk, .int .i64 vn, .string s] rfl rfl (news_new (by simp)) (by simp [Value.oneCell']) (by unfold maxLen; omega) (by omega) (by have := HW.out.size; simp; omega) ?_; intro v3 w3 hown3 hgr3 _; have OWN3 := Lib.hid hown3; have HW3 := Lib.hid (Below.grown (B := w.heap.size) (a := w) (HW.out.trans (Below.mono (B := wr.heap.size) (by (repeat (with_reducible first | exact Below.refl _ _ | exact HBD.out | (refine Below.trans ?_ (Below.mono hb1 (by first | omega | (simp; done) | (simp; omega))); clear hb1) | (refine Below.trans ?_ (Below.mono hb2 (by first | omega | (simp; done) | (simp; omega))); clear hb2) | (refine Below.trans ?_ (Below.mono hb3 (by first | omega | (simp; done) | (simp; omega))); clear hb3) | (refine Below.trans ?_ (Below.mono hb4 (by first | omega | (simp; done) | (simp; omega))); clear hb4) | (refine Below.trans ?_ (Below.mono hb5 (by first | omega | (simp; done) | (simp; omega))); clear hb5) | (refine Below.trans ?_ (Below.mono hb6 (by first | omega | (simp; done) | (simp; omega))); clear hb6) | (refine Below.trans ?_ (Below.mono hb7 (by first | omega | (simp; done) | (simp; omega))); clear hb7) | (refine Below.trans ?_ (Below.mono hb8 (by first | omega | (simp; done) | (simp; omega))); clear hb8) | (refine Below.trans ?_ (Below.mono hb9 (by first | omega | (simp; done) | (simp; omega))); clear hb9) | (refine Below.trans ?_ (Below.mono hb10 (by first | omega | (simp; done) | (simp; omega))); clear hb10) | refine Below.alloc ?_ (by first | omega | (simp; done) | (simp; omega)) _ | refine Below.setCell ?_ (by first | omega | (simp; done) | (simp; omega)) _ | refine Below.drew ?_))) HW.out.size)) hgr3 (by have := HW.out.size; simp; omega) (fun k hk => (OWN.out.lt k hk).1)); clear hown3 hgr3)
              obtain ⟨g', cap', rfl⟩ := own_slice OWN3.out (by omega)
              exact ⟨⟨k + 1, g', cap', by omega, by go_num, rfl, Lib.hid (by have := OWN3.out; rw [HSN.out, HMV.out, flatP_app]; exact this), HW3⟩, by simp [intOf]; omega⟩
            · have HMV := Lib.hid (show mvP tt (pk, pn, (vk, vn, s)) = (pk, pn, (vk, vn, s)) by simp [mvP, hp2])
              go_wp2_with (at_builtin; refine wpList_append_own _ rfl (.tmp 56) (.tmp 58) 24 rfl w.heap.size 32 i0 (.agg #[.int .i64 0, .int .i64 0, .int .i64 0, .int .i64 0, .string ⟨#[]⟩]) 5 48 Try.underlying24 hi iz0 iz1 iz2 rfl (by decide) (.slice (some ⟨g, 0, none⟩) k cap) k (flatP ((ps.take k).map (mvP tt))) rfl (own_below OWN.out (by (repeat (with_reducible first | exact Below.refl _ _ | exact HBD.out | (refine Below.trans ?_ (Below.mono hb1 (by first | omega | (simp; done) | (simp; omega))); clear hb1) | (refine Below.trans ?_ (Below.mono hb2 (by first | omega | (simp; done) | (simp; omega))); clear hb2) | (refine Below.trans ?_ (Below.mono hb3 (by first | omega | (simp; done) | (simp; omega))); clear hb3) | (refine Below.trans ?_ (Below.mono hb4 (by first | omega | (simp; done) | (simp; omega))); clear hb4) | (refine Below.trans ?_ (Below.mono hb5 (by first | omega | (simp; done) | (simp; omega))); clear hb5) | (refine Below.trans ?_ (Below.mono hb6 (by first | omega | (simp; done) | (simp; omega))); clear hb6) | (refine Below.trans ?_ (Below.mono hb7 (by first | omega | (simp; done) | (simp; omega))); clear hb7) | (refine Below.trans ?_ (Below.mono hb8 (by first | omega | (simp; done) | (simp; omega))); clear hb8) | (refine Below.trans ?_ (Below.mono hb9 (by first | omega | (simp; done) | (simp; omega))); clear hb9) | (refine Below.trans ?_ (Below.mono hb10 (by first | omega | (simp; done) | (simp; omega))); clear hb10) | refine Below.alloc ?_ (by first | omega | (simp; done) | (simp; omega)) _ | refine Below.setCell ?_ (by first | omega | (simp; done) | (simp; omega)) _ | refine Below.drew ?_)))) ⟨wr.heap.size + 1, 0, none⟩ 1 1 [.int .i64 pk, .int .i64 pn, .int .i64 vk, .int .i64 vn, .string s] rfl rfl (news_new (by simp)) (by simp [Value.oneCell']) (by unfold maxLen; omega) (by omega) (by have := HW.out.size; simp; omega) ?_; intro v3 w3 hown3 hgr3 _; have OWN3 := Lib.hid hown3; have HW3 := Lib.hid (Below.grown (B := w.heap.size) (a := w) (HW.out.trans (Below.mono (B := wr.heap.size) (by (repeat (with_reducible first | exact Below.refl _ _ | exact HBD.out | (refine Below.trans ?_ (Below.mono hb1 (by first | omega | (simp; done) | (simp; omega))); clear hb1) | (refine Below.trans ?_ (Below.mono hb2 (by first | omega | (simp; done) | (simp; omega))); clear hb2) | (refine Below.trans ?_ (Below.mono hb3 (by first | omega | (simp; done) | (simp; omega))); clear hb3) | (refine Below.trans ?_ (Below.mono hb4 (by first | omega | (simp; done) | (simp; omega))); clear hb4) | (refine Below.trans ?_ (Below.mono hb5 (by first | omega | (simp; done) | (simp; omega))); clear hb5) | (refine Below.trans ?_ (Below.mono hb6 (by first | omega | (simp; done) | (simp; omega))); clear hb6) | (refine Below.trans ?_ (Below.mono hb7 (by first | omega | (simp; done) | (simp; omega))); clear hb7) | (refine Below.trans ?_ (Below.mono hb8 (by first | omega | (simp; done) | (simp; omega))); clear hb8) | (refine Below.trans ?_ (Below.mono hb9 (by first | omega | (simp; done) | (simp; omega))); clear hb9) | (refine Below.trans ?_ (Below.mono hb10 (by first | omega | (simp; done) | (simp; omega))); clear hb10) | refine Below.alloc ?_ (by first | omega | (simp; done) | (simp; omega)) _ | refine Below.setCell ?_ (by first | omega | (simp; done) | (simp; omega)) _ | refine Below.drew ?_))) HW.out.size)) hgr3 (by have := HW.out.size; simp; omega) (fun k hk => (OWN.out.lt k hk).1)); clear hown3 hgr3)
              obtain ⟨g', cap', rfl⟩ := own_slice OWN3.out (by omega)
              exact ⟨⟨k + 1, g', cap', by omega, by go_num, rfl, Lib.hid (by have := OWN3.out; rw [HSN.out, HMV.out, flatP_app]; exact this), HW3⟩, by simp [intOf]; omega⟩
          · obtain rfl : k = ps.length := by omega
            go_wp2
            go_ret
            refine ⟨_, rfl, ?_, HW.out⟩
            have := OWN.out
            rw [HZ.out, List.length_map]
            rwa [List.take_length] at this
  · have HZ := Lib.hid (show movI cs ps tt = [] by unfold movI; rw [HBo.out, if_neg (by simp only [Bool.and_eq_true, decide_eq_true_eq]; exact fun h => hgood h.1)])
    clear HBo hK
    go_enter Try.func34, Try.ntmps34
    go_wp2_with (go_at_call 17; (with_reducible refine (CK.out _ (HA.out.alloc _) (HE.out.alloc _)).mono ?_); rintro e w1 ⟨rfl, hb1⟩; have OW0 := Lib.hid (own_below (own_empty3 (w := w) (B := w.heap.size) 32 5 rfl (Nat.le_refl _)) hb1); have HB := Lib.hid (Below.trans ((Below.refl w.heap.size w).alloc (Nat.le_refl _) _) (hb1.mono (by simp))); clear hb1)
    all_goals first
      | (go_ret; refine ⟨_, rfl, ?_, HB.out⟩; rw [HZ.out]; exact OW0.out)
      | (exfalso; simp_all; done)
      | (exfalso; simp_all; omega)
end Go.Proofs.Ytcocpmfndodapaa.Val
