/- The kind of an expression (spec.ExprKind). -/
import Derived.Test.YtacinjbaebimhaaEStepKQ
import Derived.Test.YtacinjbaebimhaaColQ
namespace Go.Proofs.Ytacinjbaebimhaa.Val
open Go.RowKit
set_option linter.unusedVariables false
set_option maxRecDepth 20000
theorem run_snoc {cs : List CT} {ps : List PT} {k : Nat} (h : k < ps.length) : runK cs (ps.take (k + 1)) [] = (runK cs (ps.take k) []).bind (stepK cs ps[k]) := by
  rw [List.take_succ_eq_append_getElem h, run_cat]
  congr 1
  funext st
  simp only [runK]
  cases stepK cs ps[k] st <;> rfl
theorem run_dead {cs : List CT} {ps : List PT} {k : Nat} (h : runK cs (ps.take k) [] = none) : runK cs ps [] = none := by
  have e := run_cat cs (ps.take k) (ps.drop k) []
  rw [List.take_append_drop, h] at e
  exact e
theorem run_dead1 {cs : List CT} {ps : List PT} {k : Nat} {st : List Int} {p : PT} (h : k < ps.length) (hp : ps[k] = p) (hr : runK cs (ps.take k) [] = some st) (hs : stepK cs p st = none) : runK cs ps [] = none := by
  refine run_dead (k := k + 1) ?_
  rw [run_snoc h, hr, hp]; exact hs
theorem run_more {cs : List CT} {ps : List PT} {k : Nat} {st st' : List Int} {p : PT} (h : k < ps.length) (hp : ps[k] = p) (hr : runK cs (ps.take k) [] = some st) (hs : stepK cs p st = some st') : runK cs (ps.take (k + 1)) [] = some st' := by
  rw [run_snoc h, hr, hp]; exact hs
theorem step_len {cs : List CT} {p : PT} {st st' : List Int} (h : stepK cs p st = some st') : st'.length ≤ st.length + 1 := by
  unfold stepK at h
  rcases st with _ | ⟨a, _ | ⟨b, q⟩⟩ <;> simp only at h <;> (repeat' split at h) <;> first | (cases h; done) | (cases h; simp; done) | (cases h; simp; omega)
theorem kindI_no {cs : List CT} {ps : List PT} (h : ¬ (colB cs = true ∧ ps.length ≤ 12)) : kindI cs ps = -1 := by unfold kindI; rw [if_neg h]
theorem kindI_dead {cs : List CT} {ps : List PT} (hr : runK cs ps [] = none) : kindI cs ps = -1 := by unfold kindI; rw [hr]; split <;> rfl
theorem kindI_run {cs : List CT} {ps : List PT} {st : List Int} (h : colB cs = true ∧ ps.length ≤ 12) (hr : runK cs ps [] = some st) : kindI cs ps = kindO (some st) := by unfold kindI; rw [if_pos h, hr]
set_option maxHeartbeats 4000000 in
theorem exprKindS (A E : Option Addr) (gc oc cc ge oe ce : Nat) (cs : List CT) (ps : List PT) (w : World) (hA : Fl w gc oc A (flatC cs)) (hE : Fl w ge oe E (flatP ps)) (hl : cs.length ≤ 2000000) (hp : ps.length ≤ 2000000) (hs : ShortP ps) : Calls Try.prog 120 #[.slice A cs.length cc, .slice E ps.length ce] w fun e w' => e = .returned (.int .i64 (kindI cs ps)) ∧ Below w.heap.size w w' := by
  have HA := Lib.hid hA
  have HE := Lib.hid hE
  have HS := Lib.hid hs
  clear hA hE hs
  have CC := Lib.hid (fun w hw => columnsOkS A gc oc cc cs w hw hl)
  obtain ⟨b1, hb1⟩ : ∃ b, colB cs = b := ⟨_, rfl⟩
  rw [hb1] at CC
  by_cases hc : b1 = true ∧ ps.length ≤ 12
  case neg =>
    have HK := Lib.hid (kindI_no (cs := cs) (ps := ps) (by rw [hb1]; exact hc))
    clear hb1
    cases b1
    · clear hc
      go_enter Try.func120, Try.ntmps120
      go_wp2_with (go_at_call 122; (with_reducible refine (CC.out _ HA.out).mono ?_); rintro e w1 ⟨rfl, rfl⟩)
      all_goals (go_ret; exact ⟨retI HK.out.symm, Below.refl _ _⟩)
    · have h12 : ¬ ps.length ≤ 12 := fun h => hc ⟨rfl, h⟩
      clear hc
      have h12' : (12 : Int) < ps.length := by omega
      go_enter Try.func120, Try.ntmps120
      go_wp2_with (go_at_call 122; (with_reducible refine (CC.out _ HA.out).mono ?_); rintro e w1 ⟨rfl, rfl⟩)
      all_goals first
        | (go_ret; exact ⟨retI HK.out.symm, Below.refl _ _⟩)
        | omega
  case pos =>
    obtain ⟨rfl, h12⟩ := hc
    have HC := Lib.hid (show colB cs = true ∧ ps.length ≤ 12 from ⟨hb1, h12⟩)
    clear hb1
    have h12' : ¬ (12 : Int) < ps.length := by omega
    go_enter Try.func120, Try.ntmps120
    go_wp2_with (go_at_call 122; (with_reducible refine (CC.out _ HA.out).mono ?_); rintro e w1 ⟨rfl, rfl⟩)
    go_loopw [5, 6, 7] (fun kx ox ix wr => ∃ (k : Nat) (b : Bool), k ≤ ps.length ∧ ix = .int .i64 k ∧ ox = .bool b ∧ Hid (Below w.heap.size w wr) ∧ ((b = false ∧ Hid (runK cs ps [] = none)) ∨ (b = true ∧ ∃ (st : List Int) (g cap : Nat), kx = .slice (some ⟨g, 0, none⟩) st.length cap ∧ st.length ≤ k ∧ Hid (runK cs (ps.take k) [] = some st) ∧ Hid (wr.ownsRow w.heap.size 3 1 kx st.length (st.reverse.map iv))))) (fun _ _ ix _ => ps.length - (intOf ix).toNat)
    case atStart =>
      exact ⟨0, true, by omega, rfl, rfl, (Below.refl _ _).alloc (Nat.le_refl _) _, .inr ⟨rfl, [], _, _, rfl, by simp, rfl, own_empty3 3 1 rfl (Nat.le_refl _)⟩⟩
    case round =>
      obtain ⟨k, b, hk, rfl, rfl, HW, ⟨rfl, HR⟩ | ⟨rfl, st, g, cap, rfl, hst, HR, OWN⟩⟩ := hrel
      · go_wp2
        all_goals (go_ret; exact ⟨retI (kindI_dead HR.out).symm, HW.out⟩)
      · by_cases hlt : k < ps.length
        · obtain ⟨rfl, -⟩ := HE.out.pt k hlt
          obtain ⟨-, hg2, c0, c1, c2, c3, c4⟩ := (HE.out.below HW.out).pt k hlt
          have HSK := Lib.hid (HS.out k hlt)
          obtain ⟨p, hpk⟩ : ∃ p, ps[k] = p := ⟨_, rfl⟩
          have HM := Lib.hid (fun (st' : List Int) => run_more (st' := st') hlt hpk HR.out)
          have HD := Lib.hid (run_dead1 hlt hpk HR.out)
          rw [hpk] at c0 c1 c2 c3 c4 HSK
          clear hpk
          have CS := Lib.hid (fun W (hW : Fl W gc oc A (flatC cs)) (hO : W.ownsRow w.heap.size 3 1 (.slice (some ⟨g, 0, none⟩) st.length cap) st.length (st.reverse.map iv)) (hB : w.heap.size ≤ W.heap.size) => l4Step A gc oc cc cs g cap st p w.heap.size W hW hl hO hB (by omega) HSK.out)
          unfold aggP at CS
          have i0' : (0 : Int) ≤ (k : Int) := by omega
          have i1' : (k : Int) < (ps.length : Int) := by omega
          go_wp2_with (go_at_call 141; (refine (CS.out _ (HA.out.below HW.out) OWN.out HW.out.size).mono ?_; rintro e w1 ⟨v, ok, rfl, hb1, hor⟩))
          have HW2 : Hid (Below w.heap.size w w1) := Below.trans HW.out hb1
          rcases hor with ⟨hn, rfl⟩ | ⟨st', g', cap', hy, rfl, rfl, ho⟩
          · exact ⟨⟨k + 1, false, by omega, by go_num, rfl, HW2, .inl ⟨rfl, HD.out hn⟩⟩, by simp [intOf]; omega⟩
          · exact ⟨⟨k + 1, true, by omega, by go_num, rfl, HW2, .inr ⟨rfl, st', g', cap', rfl, by have := step_len hy; omega, HM.out st' hy, ho⟩⟩, by simp [intOf]; omega⟩
        · obtain rfl : k = ps.length := by omega
          have HR2 : Hid (runK cs ps [] = some st) := by have := HR.out; rwa [List.take_length] at this
          have HK := Lib.hid (kindI_run HC.out HR2.out)
          rcases st with _ | ⟨x, _ | ⟨y, q⟩⟩
          · go_wp2
            all_goals (go_ret; exact ⟨retI HK.out.symm, HW.out⟩)
          · have c0 := own_at (l := [x]) OWN.out 0 (by simp)
            simp only [List.getElem_cons_zero] at c0
            go_wp2
            all_goals (go_ret; exact ⟨retI HK.out.symm, HW.out⟩)
          · have e2 : ((q.length : Int) + 1 + 1 != 1) = true := by simp; omega
            go_wp2
            all_goals (go_ret; exact ⟨retI HK.out.symm, HW.out⟩)
end Go.Proofs.Ytacinjbaebimhaa.Val
