/- The columns that an expression asks for (spec.ExprColumns). -/
import Derived.Test.YtcddkleglmbfgaaEXC
namespace Go.Proofs.Ytcddkleglmbfgaa.Val
open Go.RowKit
set_option linter.unusedVariables false
set_option linter.unusedSimpArgs false
set_option maxRecDepth 20000
theorem asks_on {ps : List PT} {k j : Nat} {p : PT} {b : Bool} (h : j < ps.length) (hp : ps[j] = p) (hb : asks (ps.take j) k = b) : asks (ps.take (j + 1)) k = (b || (decide (p.1 = 2) && decide (p.2.1 = (k : Int)))) := by rw [asks_snoc h, hb, hp]
set_option maxHeartbeats 4000000 in
theorem exprColumnsS (A E : Option Addr) (gc oc cc ge oe ce : Nat) (cs : List CT) (ps : List PT) (w : World) (hA : Fl w gc oc A (flatC cs)) (hE : Fl w ge oe E (flatP ps)) (hl : cs.length ≤ 2000000) (hp : ps.length ≤ 2000000) (hs : ShortP ps) : Calls Try.prog 18 #[.slice A cs.length cc, .slice E ps.length ce] w (OwnN (colZ cs ps) w) := by
  have CK := Lib.hid (fun W hWA hWE => exprKindS A E gc oc cc ge oe ce cs ps W hWA hWE hl hp hs)
  have HA := Lib.hid hA
  have HE := Lib.hid hE
  obtain ⟨i0, hi, iz0, iz1, iz2⟩ := info_parts infoN
  clear hA hE hs
  obtain ⟨K, hK⟩ : ∃ K, kindI cs ps = K := ⟨_, rfl⟩
  by_cases h0 : K < 0
  · have HZ := Lib.hid (show colZ cs ps = [] by unfold colZ; rw [hK, if_pos h0])
    rw [hK] at CK
    clear hK
    have hk0 : ¬ (0 ≤ K) := by omega
    go_enter Try.func18, Try.ntmps18
    go_wp2
    go_loopw [5, 6] (fun lx nx wr => ∃ (g cap : Nat), nx = .int .i64 (0 : Int) ∧ lx = .slice (some ⟨g, 0, none⟩) 0 cap ∧ Hid (wr.ownsRow w.heap.size 3 1 lx 0 []) ∧ Hid (Below w.heap.size w wr)) (fun _ nx _ => cs.length - (intOf nx).toNat)
    case atStart => exact ⟨_, _, rfl, rfl, own_empty3 3 1 rfl (Nat.le_refl _), (Below.refl _ _).alloc (Nat.le_refl _) _⟩
    case round =>
      obtain ⟨g, cap, rfl, rfl, OWN, HW⟩ := hrel
      go_wp2_with (go_at_call 61; (refine (CK.out _ (HA.out.below HW.out) (HE.out.below HW.out)).mono ?_); rintro e w2 ⟨rfl, hb2⟩; have HW2 := Lib.hid (Below.trans HW.out (hb2.mono HW.out.size)); have OWN2 := Lib.hid (own_below OWN.out hb2); clear hb2)
      all_goals first
        | (go_ret; refine ⟨_, rfl, ?_, HW2.out⟩; rw [HZ.out]; exact OWN2.out)
        | (go_ret; refine ⟨_, rfl, ?_, HW.out⟩; rw [HZ.out]; exact OWN.out)
  · have HZ := Lib.hid (show colZ cs ps = colL ps cs.length by unfold colZ; rw [hK, if_neg h0])
    have h4 := kind_cols (cs := cs) (ps := ps) (by rw [hK]; exact h0)
    rw [hK] at CK
    clear hK
    have hk0 : 0 ≤ K := by omega
    go_enter Try.func18, Try.ntmps18
    go_wp2
    go_loopw [5, 6] (fun lx nx wr => ∃ (n g cap : Nat), n ≤ cs.length ∧ nx = .int .i64 n ∧ lx = .slice (some ⟨g, 0, none⟩) (colL ps n).length cap ∧ Hid (wr.ownsRow w.heap.size 3 1 lx (colL ps n).length ((colL ps n).map iv)) ∧ Hid (Below w.heap.size w wr)) (fun _ nx _ => cs.length - (intOf nx).toNat)
    case atStart => exact ⟨0, _, _, by omega, rfl, rfl, Lib.hid (by rw [show colL ps 0 = [] from rfl]; exact own_empty3 3 1 rfl (Nat.le_refl _)), (Below.refl _ _).alloc (Nat.le_refl _) _⟩
    case round =>
      obtain ⟨n, g, cap, hn, rfl, rfl, OWN, HW⟩ := hrel
      have hln := colL_len ps n
      obtain ⟨L, hL⟩ : ∃ L, colL ps n = L := ⟨_, rfl⟩
      rw [hL] at OWN hln ⊢
      obtain ⟨M, hM⟩ : ∃ M, L.length = M := ⟨_, rfl⟩
      rw [hM] at OWN hln ⊢
      have HML := Lib.hid hM
      have HLL := Lib.hid hL
      clear hM hL
      by_cases hlt : n < cs.length
      · have i0' : (0 : Int) ≤ (n : Int) := by omega
        have i1' : (n : Int) < (cs.length : Int) := by omega
        go_wp2_with (go_at_call 61; (refine (CK.out _ (HA.out.below HW.out) (HE.out.below HW.out)).mono ?_); rintro e w2 ⟨rfl, hb2⟩; have HW2 := Lib.hid (Below.trans HW.out (hb2.mono HW.out.size)); have OWN2 := Lib.hid (own_below OWN.out hb2); clear hb2)
        go_loopw [7, 8] (fun fx jx wi => ∃ (j : Nat) (b : Bool), j ≤ ps.length ∧ jx = .int .i64 j ∧ fx = .bool b ∧ Hid (asks (ps.take j) n = b) ∧ Hid (wi.ownsRow w.heap.size 3 1 (.slice (some ⟨g, 0, none⟩) M cap) M (L.map iv)) ∧ Hid (Below w.heap.size w wi)) (fun _ jx _ => ps.length - (intOf jx).toNat)
        case atStart => exact ⟨0, false, by omega, rfl, rfl, Lib.hid rfl, OWN2, HW2⟩
        case round =>
          clear OWN HW OWN2 HW2
          obtain ⟨j, b, hj, rfl, rfl, HB, OWN, HW⟩ := hrel
          by_cases hjl : j < ps.length
          · obtain ⟨rfl, -⟩ := HE.out.pt j hjl
            obtain ⟨-, hg2, c0, c1, -⟩ := (HE.out.below HW.out).pt j hjl
            obtain ⟨p, hpk⟩ : ∃ p, ps[j] = p := ⟨_, rfl⟩
            have HN := Lib.hid (asks_on hjl hpk HB.out)
            rw [hpk] at c0 c1
            clear hpk
            obtain ⟨pk, pn, v⟩ := p
            simp only at c0 c1 HN
            have j0' : (0 : Int) ≤ (j : Int) := by omega
            have j1' : (j : Int) < (ps.length : Int) := by omega
            cases b
            · go_wp2
              all_goals (try go_region)
              all_goals (try go_wp2)
              all_goals first
                | exact ⟨⟨j + 1, _, by omega, by go_num, rfl, Lib.hid (by rw [HN.out]; simp_all <;> rfl), OWN, HW⟩, by simp [intOf]; omega⟩
                | exact ⟨⟨j + 1, _, by omega, by go_num, rfl, Lib.hid (by rw [HN.out]; simp_all <;> rfl), Lib.hid (own_drew OWN.out), HW.out.drew⟩, by simp [intOf]; omega⟩
            · go_wp2
              all_goals (try go_region)
              all_goals (try go_wp2)
              all_goals first
                | exact ⟨⟨j + 1, true, by omega, by go_num, rfl, Lib.hid (by rw [HN.out]; rfl), OWN, HW⟩, by simp [intOf]; omega⟩
                | exact ⟨⟨j + 1, true, by omega, by go_num, rfl, Lib.hid (by rw [HN.out]; rfl), Lib.hid (own_drew OWN.out), HW.out.drew⟩, by simp [intOf]; omega⟩
          · obtain rfl : j = ps.length := by omega
            have HB2 : Hid (asks ps n = b) := by have := HB.out; rwa [List.take_length] at this
            clear HB
            cases b
            · have HC := Lib.hid (colL_no HB2.out)
              go_wp2
              exact ⟨⟨n + 1, g, cap, by omega, by go_num, by rw [HC.out, HLL.out, HML.out], by rw [HC.out, HLL.out, HML.out]; exact OWN, HW⟩, by simp [intOf]; omega⟩
            · have HC := Lib.hid (colL_yes HB2.out)
              go_wp2_with (at_builtin; refine wpList_append_own _ rfl (.tmp 47) (.tmp 49) 27 rfl w.heap.size 3 i0 (.int .i64 0) 1 8 Try.underlying27 hi iz0 iz1 iz2 rfl (by decide) (.slice (some ⟨g, 0, none⟩) M cap) M (L.map iv) rfl (by repeat (with_reducible first | exact OWN.out | apply World.ownsRow.alloc | apply own_drew)) ⟨wr.heap.size, 0, none⟩ 1 1 [.int .i64 n] rfl rfl (news_new (by simp)) (by simp [Value.oneCell']) (by unfold maxLen; omega) (by omega) (by have := HW.out.size; simp; omega) ?_; intro v3 w3 hown3 hgr3 _; have OWN3 := Lib.hid hown3; have HW3 := Lib.hid (Below.grown (B := w.heap.size) (a := w) (HW.out.alloc HW.out.size _) hgr3 (by have := HW.out.size; simp; omega) (fun k hk => (OWN.out.lt k hk).1)); clear hown3 hgr3)
              obtain ⟨g', cap', rfl⟩ := own_slice OWN3.out (by omega)
              have hlen : (colL ps (n + 1)).length = M + 1 := by rw [HC.out, HLL.out, List.length_append, HML.out]; rfl
              exact ⟨⟨n + 1, g', cap', by omega, by go_num, by rw [hlen], by rw [hlen, HC.out, HLL.out]; exact Lib.hid (by have := OWN3.out; simpa [iv] using this), HW3⟩, by simp [intOf]; omega⟩
      · obtain rfl : n = cs.length := by omega
        go_wp2
        all_goals (go_ret; exact ⟨_, rfl, by rw [HZ.out, HLL.out, HML.out]; exact OWN.out, HW.out⟩)
end Go.Proofs.Ytcddkleglmbfgaa.Val
