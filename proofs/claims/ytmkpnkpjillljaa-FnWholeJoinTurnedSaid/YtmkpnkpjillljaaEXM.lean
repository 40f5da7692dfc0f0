/- Moving an expression with its columns (impl.ExprMoved). -/
import Derived.Test.YtmkpnkpjillljaaEKI
import Derived.Test.YtmkpnkpjillljaaEMathA
namespace Go.Proofs.Ytmkpnkpjillljaa.Val
open Go.RowKit
set_option linter.unusedVariables false
set_option linter.unusedSimpArgs false
set_option maxRecDepth 20000
def placeB (t : Int) : Bool := decide (0 ≤ t) && decide (t ≤ 3)
theorem pall_no {l : List Int} {i : Nat} {x : Int} (h : i < l.length) (hx : l[i] = x) (hne : placeB x = false) : l.all placeB = false := by
  rw [List.all_eq_false]
  exact ⟨l[i], List.getElem_mem h, by rw [hx, hne]; decide⟩
theorem pall_on {l : List Int} {i : Nat} {x : Int} (h : i < l.length) (hx : l[i] = x) (h0 : (l.take i).all placeB = true) (hp : placeB x = true) : (l.take (i + 1)).all placeB = true := by
  rw [List.take_succ_eq_append_getElem h, List.all_append, h0, hx]; simp [hp]
set_option maxHeartbeats 2000000 in
theorem placesOk (T : Option Addr) (gt ot ct : Nat) (tt : List Int) (w : World) (hT : Fl w gt ot T (tt.map iv)) (hl : tt.length ≤ 2000000) : Calls Try.prog 49 #[.slice T tt.length ct] w fun e w' => e = .returned (.bool (tt.all placeB)) ∧ Below w.heap.size w w' := by
  have HT := Lib.hid hT
  clear hT
  go_enter Try.func49, Try.ntmps49
  go_wp2
  go_loopw [3] (fun ix wr => ∃ (k : Nat), k ≤ tt.length ∧ ix = .int .i64 k ∧ Hid ((tt.take k).all placeB = true) ∧ Hid (Below w.heap.size w wr)) (fun ix _ => tt.length - (intOf ix).toNat)
  case atStart => exact ⟨0, by omega, rfl, rfl, Below.refl _ _⟩
  case round =>
    obtain ⟨k, hk, rfl, HN, HW⟩ := hrel
    by_cases hlt : k < tt.length
    · obtain ⟨rfl, -⟩ := HT.out.n k hlt
      obtain ⟨-, hg2, c0⟩ := (HT.out.below HW.out).n k hlt
      obtain ⟨x, hx⟩ : ∃ x, tt[k] = x := ⟨_, rfl⟩
      have HY := Lib.hid (fun h1 => pall_no hlt hx h1)
      have HM := Lib.hid (fun h1 => pall_on hlt hx HN.out h1)
      rw [hx] at c0
      clear hx
      have i0' : (0 : Int) ≤ (k : Int) := by omega
      have i1' : (k : Int) < (tt.length : Int) := by omega
      go_wp2
      all_goals (try go_region)
      all_goals (try go_wp2)
      all_goals first
        | (go_ret; exact ⟨retB (HY.out (by simp [placeB]; omega)).symm, HW.out⟩)
        | (go_ret; exact ⟨retB (HY.out (by simp [placeB]; omega)).symm, HW.out.drew⟩)
        | exact ⟨⟨k + 1, by omega, by go_num, HM.out (by simp [placeB]; omega), HW⟩, by simp [intOf]; omega⟩
        | exact ⟨⟨k + 1, by omega, by go_num, HM.out (by simp [placeB]; omega), HW.out.drew⟩, by simp [intOf]; omega⟩
    · obtain rfl : k = tt.length := by omega
      have HN2 : Hid (tt.all placeB = true) := by have := HN.out; rwa [List.take_length] at this
      go_wp2
      go_ret
      exact ⟨retB HN2.out.symm, HW.out⟩
/-- A row of parts of its own. -/
def OwnP (xs : List PT) (w : World) (e : Ending) (w' : World) : Prop := ∃ v, e = .returned v ∧ w'.ownsRow w.heap.size 78 5 v xs.length (flatP xs) ∧ Below w.heap.size w w'
theorem own_nilP {w : World} {B size : Nat} {e : TypeId} : w.ownsRow B e size (.slice none 0 0) 0 [] := ⟨by simp, .inl ⟨rfl, rfl⟩⟩
theorem kind_cols4 {cs : List CT} {ps : List PT} (h : ¬ kindI cs ps < 0) : cs.length ≤ 4 := by
  have := (kind_some h).1
  simp only [colB, Bool.and_eq_true, decide_eq_true_eq] at this
  exact this.1
theorem col_in {cs : List CT} {ps : List PT} (h : ¬ kindI cs ps < 0) {i : Nat} {p : PT} (hi : i < ps.length) (hp : ps[i] = p) (h2 : p.1 = 2) : 0 ≤ p.2.1 ∧ p.2.1 < cs.length := by
  obtain ⟨-, -, hr, -, -⟩ := kind_some h
  rcases h1 : runK cs (ps.take i) [] with _ | st
  · rw [run_dead h1] at hr; cases hr
  · rcases h3 : stepK cs p st with _ | st'
    · rw [run_dead1 hi hp h1 h3] at hr; cases hr
    · exact step_col h3 h2
theorem mov_snoc {tt : List Int} {ps : List PT} {k : Nat} {p : PT} (h : k < ps.length) (hp : ps[k] = p) : (ps.take (k + 1)).map (mvP tt) = (ps.take k).map (mvP tt) ++ [mvP tt p] := by
  rw [List.take_succ_eq_append_getElem h, List.map_append, hp]; rfl
theorem movB_of {cs : List CT} {ps : List PT} {tt : List Int} : movB cs ps tt = (decide (¬ kindI cs ps < 0) && decide (tt.length = cs.length) && tt.all placeB) := by
  unfold movB
  rw [show decide (0 ≤ kindI cs ps) = decide (¬ kindI cs ps < 0) by congr 1; apply propext; omega]
  rfl
set_option maxHeartbeats 4000000 in
theorem exprMovedI (A E T : Option Addr) (gc oc cc ge oe ce gt ot ct : Nat) (cs : List CT) (ps : List PT) (tt : List Int) (w : World) (hA : Fl w gc oc A (flatC cs)) (hE : Fl w ge oe E (flatP ps)) (hT : Fl w gt ot T (tt.map iv)) (hl : cs.length ≤ 2000000) (hp : ps.length ≤ 2000000) (ht : tt.length ≤ 2000000) (hs : ShortP ps) : Calls Try.prog 11 #[.slice A cs.length cc, .slice E ps.length ce, .slice T tt.length ct] w (OwnP (movI cs ps tt) w) := by
  have CK := Lib.hid (exprKindI A E gc oc cc ge oe ce cs ps w hA hE hl hp hs)
  have CT := Lib.hid (fun W hW => placesOk T gt ot ct tt W hW ht)
  have HE := Lib.hid hE
  have HT := Lib.hid hT
  obtain ⟨i0, hi, iz0, iz1, iz2⟩ := info_parts infoP
  clear hA hE hT hs
  have HBo := Lib.hid (movB_of (cs := cs) (ps := ps) (tt := tt))
  obtain ⟨K, hK⟩ : ∃ K, kindI cs ps = K := ⟨_, rfl⟩
  obtain ⟨B, hB⟩ : ∃ B, tt.all placeB = B := ⟨_, rfl⟩
  rw [hK, hB] at HBo
  rw [hK] at CK
  rw [hB] at CT
  by_cases hgood : ¬ K < 0 ∧ tt.length = cs.length ∧ B = true
  · obtain ⟨h0, htl, rfl⟩ := hgood
    have HZ := Lib.hid (show movI cs ps tt = ps.map (mvP tt) by unfold movI; rw [HBo.out, if_pos (by simp [h0, htl])])
    have h12 : ps.length ≤ 12 := (kind_some (cs := cs) (ps := ps) (by rw [hK]; exact h0)).2.1
    have HCI := Lib.hid (fun (i : Nat) (p : PT) (h1 : i < ps.length) (h2 : ps[i] = p) (h3 : p.1 = 2) => col_in (cs := cs) (ps := ps) (by rw [hK]; exact h0) h1 h2 h3)
    clear hK hB HBo
    have e0 : ((tt.length : Int) != (cs.length : Int)) = false := by simp [htl]
    have HTL := Lib.hid htl
    clear htl
    go_enter Try.func11, Try.ntmps11
    go_wp2_with (first
      | (go_at_call 48; (with_reducible refine CK.out.mono ?_); rintro e w1 ⟨rfl, hb1⟩; have HB := Lib.hid hb1; have HT1 := Lib.hid (HT.out.below hb1); clear hb1)
      | (go_at_call 49; (with_reducible refine (CT.out _ HT1.out).mono ?_); rintro e w2 ⟨rfl, hb2⟩; have HB2 := Lib.hid (HB.out.trans (hb2.mono HB.out.size)); clear hb2))
    go_loopw [7, 8] (fun lx nx wr => ∃ (k g cap : Nat), k ≤ ps.length ∧ nx = .int .i64 k ∧ lx = .slice (some ⟨g, 0, none⟩) k cap ∧ Hid (wr.ownsRow w.heap.size 78 5 lx k (flatP ((ps.take k).map (mvP tt)))) ∧ Hid (Below w.heap.size w wr)) (fun _ nx _ => ps.length - (intOf nx).toNat)
    case atStart => exact ⟨0, _, _, by omega, rfl, rfl, own_empty3 78 5 rfl HB2.out.size, HB2.out.alloc HB2.out.size _⟩
    case round =>
      obtain ⟨k, g, cap, hk, rfl, rfl, OWN, HW⟩ := hrel
      by_cases hlt : k < ps.length
      · obtain ⟨rfl, -⟩ := HE.out.pt k hlt
        obtain ⟨-, hg2, c0, c1, c2, c3, c4⟩ := (HE.out.below HW.out).pt k hlt
        obtain ⟨p, hpk⟩ : ∃ p, ps[k] = p := ⟨_, rfl⟩
        have HSN := Lib.hid (mov_snoc (tt := tt) hlt hpk)
        have HCP := Lib.hid (HCI.out k p hlt hpk)
        rw [hpk] at c0 c1 c2 c3 c4
        clear hpk
        obtain ⟨pk, pn, vk, vn, s⟩ := p
        simp only at c0 c1 c2 c3 c4 HCP
        have i0' : (0 : Int) ≤ (k : Int) := by omega
        have i1' : (k : Int) < (ps.length : Int) := by omega
        by_cases hp2 : pk = 2
        · subst hp2
          obtain ⟨hn0, hn1⟩ := HCP.out rfl
          obtain ⟨N, rfl⟩ := Int.eq_ofNat_of_zero_le hn0
          have hN : N < tt.length := by have := HTL.out; omega
          have HMV := Lib.hid (show mvP tt (2, (N : Int), (vk, vn, s)) = (2, tt[N], (vk, vn, s)) by simp [mvP, hN])
          obtain ⟨rfl, -⟩ := HT.out.n N hN
          obtain ⟨-, hg3, d0⟩ := (HT.out.below HW.out).n N hN
          obtain ⟨X, hX⟩ : ∃ X, tt[N] = X := ⟨_, rfl⟩
          rw [hX] at d0 HMV
          clear hX
          have j1' : (N : Int) < (tt.length : Int) := by omega
          have n1 : ¬ (wr.heap.size = gt) := by omega
          have n2 : ¬ (wr.heap.size = ge) := by omega
          go_wp2_with (at_builtin; refine wpList_append_own _ rfl (.tmp 46) (.tmp 48) 24 rfl w.heap.size 78 i0 (.agg #[.int .i64 0, .int .i64 0, .int .i64 0, .int .i64 0, .string ⟨#[]⟩]) 5 48 Try.underlying24 hi iz0 iz1 iz2 rfl (by decide) (.slice (some ⟨g, 0, none⟩) k cap) k (flatP ((ps.take k).map (mvP tt))) rfl (own_below OWN.out (by (repeat (with_reducible first | exact Below.refl _ _ | exact HBD.out | (refine Below.trans ?_ (Below.mono hb1 (by first | omega | (simp; done) | (simp; omega))); clear hb1) | (refine Below.trans ?_ (Below.mono hb2 (by first | omega | (simp; done) | (simp; omega))); clear hb2) | (refine Below.trans ?_ (Below.mono hb3 (by first | omega | (simp; done) | (simp; omega))); clear hb3) | (refine Below.trans ?_ (Below.mono hb4 (by first | omega | (simp; done) | (simp; omega))); clear hb4) | (refine Below.trans ?_ (Below.mono hb5 (by first | omega | (simp; done) | (simp; omega))); clear hb5) | (refine Below.trans ?_ (Below.mono hb6 (by first | omega | (simp; done) | (simp; omega))); clear hb6) | (refine Below.trans ?_ (Below.mono hb7 (by first | omega | (simp; done) | (simp; omega))); clear hb7) | (refine Below.trans ?_ (Below.mono hb8 (by first | omega | (simp; done) | (simp; omega))); clear hb8) | (refine Below.trans ?_ (Below.mono hb9 (by first | omega | (simp; done) | (simp; omega))); clear hb9) | (refine Below.trans ?_ (Below.mono hb10 (by first | omega | (simp; done) | (simp; omega))); clear hb10) | refine Below.alloc ?_ (by first | omega | (simp; done) | (simp; omega)) _ | refine Below.setCell ?_ (by first | omega | (simp; done) | (simp; omega)) _ | refine Below.drew ?_)))) ⟨wr.heap.size + 1, 0, none⟩ 1 1 [.int .i64 2, .int .i64 X, .int .i64 vk, .int .i64 vn, .string s] rfl rfl (news_new (by simp)) (by simp [Value.oneCell']) (by unfold maxLen; omega) (by omega) (by have := HW.out.size; simp; omega) ?_; intro v3 w3 hown3 hgr3 _; have OWN3 := Lib.hid hown3; have HW3 := Lib.hid (Below.grown (B := w.heap.size) (a := w) (HW.out.trans (Below.mono (B := wr.heap.size) (by (repeat (with_reducible first | exact Below.refl _ _ | exact HBD.out | (refine Below.trans ?_ (Below.mono hb1 (by first | omega | (simp; done) | (simp; omega))); clear hb1) | (refine Below.trans ?_ (Below.mono hb2 (by first | omega | (simp; done) | (simp; omega))); clear hb2) | (refine Below.trans ?_ (Below.mono hb3 (by first | omega | (simp; done) | (simp; omega))); clear hb3) | (refine Below.trans ?_ (Below.mono hb4 (by first | omega | (simp; done) | (simp; omega))); clear hb4) | (refine Below.trans ?_ (Below.mono hb5 (by first | omega | (simp; done) | (simp; omega))); clear hb5) | (refine Below.trans ?_ (Below.mono hb6 (by first | omega | (simp; done) | (simp; omega))); clear hb6) | (refine Below.trans ?_ (Below.mono hb7 (by first | omega | (simp; done) | (simp; omega))); clear hb7) | (refine Below.trans ?_ (Below.mono hb8 (by first | omega | (simp; done) | (simp; omega))); clear hb8) | (refine Below.trans ?_ (Below.mono hb9 (by first | omega | (simp; done) | (simp; omega))); clear hb9) | (refine Below.trans ?_ (Below.mono hb10 (by first | omega | (simp; done) | (simp; omega))); clear hb10) | refine Below.alloc ?_ (by first | omega | (simp; done) | (simp; omega)) _ | refine Below.setCell ?_ (by first | omega | (simp; done) | (simp; omega)) _ | refine Below.drew ?_))) HW.out.size)) hgr3 (by have := HW.out.size; simp; omega) (fun k hk => (OWN.out.lt k hk).1)); clear hown3 hgr3)
          obtain ⟨g', cap', rfl⟩ := own_slice OWN3.out (by omega)
          exact ⟨⟨k + 1, g', cap', by omega, by go_num, rfl, Lib.hid (by have := OWN3.out; rw [HSN.out, HMV.out, flatP_app]; exact this), HW3⟩, by simp [intOf]; omega⟩
        · have HMV := Lib.hid (show mvP tt (pk, pn, (vk, vn, s)) = (pk, pn, (vk, vn, s)) by simp [mvP, hp2])
          go_wp2_with (at_builtin; refine wpList_append_own _ rfl (.tmp 46) (.tmp 48) 24 rfl w.heap.size 78 i0 (.agg #[.int .i64 0, .int .i64 0, .int .i64 0, .int .i64 0, .string ⟨#[]⟩]) 5 48 Try.underlying24 hi iz0 iz1 iz2 rfl (by decide) (.slice (some ⟨g, 0, none⟩) k cap) k (flatP ((ps.take k).map (mvP tt))) rfl (own_below OWN.out (by (repeat (with_reducible first | exact Below.refl _ _ | exact HBD.out | (refine Below.trans ?_ (Below.mono hb1 (by first | omega | (simp; done) | (simp; omega))); clear hb1) | (refine Below.trans ?_ (Below.mono hb2 (by first | omega | (simp; done) | (simp; omega))); clear hb2) | (refine Below.trans ?_ (Below.mono hb3 (by first | omega | (simp; done) | (simp; omega))); clear hb3) | (refine Below.trans ?_ (Below.mono hb4 (by first | omega | (simp; done) | (simp; omega))); clear hb4) | (refine Below.trans ?_ (Below.mono hb5 (by first | omega | (simp; done) | (simp; omega))); clear hb5) | (refine Below.trans ?_ (Below.mono hb6 (by first | omega | (simp; done) | (simp; omega))); clear hb6) | (refine Below.trans ?_ (Below.mono hb7 (by first | omega | (simp; done) | (simp; omega))); clear hb7) | (refine Below.trans ?_ (Below.mono hb8 (by first | omega | (simp; done) | (simp; omega))); clear hb8) | (refine Below.trans ?_ (Below.mono hb9 (by first | omega | (simp; done) | (simp; omega))); clear hb9) | (refine Below.trans ?_ (Below.mono hb10 (by first | omega | (simp; done) | (simp; omega))); clear hb10) | refine Below.alloc ?_ (by first | omega | (simp; done) | (simp; omega)) _ | refine Below.setCell ?_ (by first | omega | (simp; done) | (simp; omega)) _ | refine Below.drew ?_)))) ⟨wr.heap.size + 1, 0, none⟩ 1 1 [.int .i64 pk, .int .i64 pn, .int .i64 vk, .int .i64 vn, .string s] rfl rfl (news_new (by simp)) (by simp [Value.oneCell']) (by unfold maxLen; omega) (by omega) (by have := HW.out.size; simp; omega) ?_; intro v3 w3 hown3 hgr3 _; have OWN3 := Lib.hid hown3; have HW3 := Lib.hid (Below.grown (B := w.heap.size) (a := w) (HW.out.trans (Below.mono (B := wr.heap.size) (by (repeat (with_reducible first | exact Below.refl _ _ | exact HBD.out | (refine Below.trans ?_ (Below.mono hb1 (by first | omega | (simp; done) | (simp; omega))); clear hb1) | (refine Below.trans ?_ (Below.mono hb2 (by first | omega | (simp; done) | (simp; omega))); clear hb2) | (refine Below.trans ?_ (Below.mono hb3 (by first | omega | (simp; done) | (simp; omega))); clear hb3) | (refine Below.trans ?_ (Below.mono hb4 (by first | omega | (simp; done) | (simp; omega))); clear hb4) | (refine Below.trans ?_ (Below.mono hb5 (by first | omega | (simp; done) | (simp; omega))); clear hb5) | (refine Below.trans ?_ (Below.mono hb6 (by first | omega | (simp; done) | (simp; omega))); clear hb6) | (refine Below.trans ?_ (Below.mono hb7 (by first | omega | (simp; done) | (simp; omega))); clear hb7) | (refine Below.trans ?_ (Below.mono hb8 (by first | omega | (simp; done) | (simp; omega))); clear hb8) | (refine Below.trans ?_ (Below.mono hb9 (by first | omega | (simp; done) | (simp; omega))); clear hb9) | (refine Below.trans ?_ (Below.mono hb10 (by first | omega | (simp; done) | (simp; omega))); clear hb10) | refine Below.alloc ?_ (by first | omega | (simp; done) | (simp; omega)) _ | refine Below.setCell ?_ (by first | omega | (simp; done) | (simp; omega)) _ | refine Below.drew ?_))) HW.out.size)) hgr3 (by have := HW.out.size; simp; omega) (fun k hk => (OWN.out.lt k hk).1)); clear hown3 hgr3)
          obtain ⟨g', cap', rfl⟩ := own_slice OWN3.out (by omega)
          exact ⟨⟨k + 1, g', cap', by omega, by go_num, rfl, Lib.hid (by have := OWN3.out; rw [HSN.out, HMV.out, flatP_app]; exact this), HW3⟩, by simp [intOf]; omega⟩
      · obtain rfl : k = ps.length := by omega
        go_wp2
        go_ret
        refine ⟨_, rfl, ?_, HW.out⟩
        have := OWN.out
        rw [HZ.out, List.length_map]
        rwa [List.take_length] at this
  · have HZ := Lib.hid (show movI cs ps tt = [] by unfold movI; rw [HBo.out, if_neg (by simp only [Bool.and_eq_true, decide_eq_true_eq, and_assoc]; exact hgood)])
    clear HBo hK hB
    go_enter Try.func11, Try.ntmps11
    go_wp2_with (first
      | (go_at_call 48; (with_reducible refine CK.out.mono ?_); rintro e w1 ⟨rfl, hb1⟩; have HB := Lib.hid hb1; have HT1 := Lib.hid (HT.out.below hb1); clear hb1)
      | (go_at_call 49; (with_reducible refine (CT.out _ HT1.out).mono ?_); rintro e w2 ⟨rfl, hb2⟩; have HB2 := Lib.hid (HB.out.trans (hb2.mono HB.out.size)); clear hb2))
    all_goals first
      | (go_ret; refine ⟨_, rfl, ?_, HB2.out⟩; rw [HZ.out]; exact own_nilP)
      | (go_ret; refine ⟨_, rfl, ?_, HB.out⟩; rw [HZ.out]; exact own_nilP)
      | (exfalso; simp_all; done)
      | (exfalso; simp_all; omega)
end Go.Proofs.Ytmkpnkpjillljaa.Val
