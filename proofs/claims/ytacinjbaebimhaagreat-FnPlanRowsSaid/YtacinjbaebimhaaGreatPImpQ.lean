/- What the exact laws of plans need besides: sizes of answers, what marks leave; Which tables a plan asks for, as the program reckons it: plain facts; TablesOk, the program's; The columns of all steps, and how many rows they may have: the program's planMade; PlanOk, PlanColumns: the program's; PlanOk, PlanColumns: the program's; answers that may be nil; The tables that a plan asks for: the program's PlanTables; The tables that a plan asks for: the program's tableNeeded, PlanTables; Rows taken, held, copied: the program's rowTaken, rowsTaken, rowsHeld, rowsCopy; Rows beside rows: the program's rowsBeside; The rows of a step: the program's stepRows; The rows of a step: the program's stepRows, whole; PlanRows: the program's; PlanRows: the program's; The program's own contracts of chapter 6; rows that may be nil: what marks leave of them. -/
import Derived.Test.YtacinjbaebimhaaGreatTabKQ
import Derived.Test.YtacinjbaebimhaaGreatPSpecQ
import Derived.Test.YtacinjbaebimhaaGreatPIAQ
import Derived.Test.YtacinjbaebimhaaGreatPIBQ
import Derived.Test.YtacinjbaebimhaaGreatEHXQ
import Derived.BigQuiet
import Derived.Deep.RegionHeldLaw
namespace Go.Proofs.YtacinjbaebimhaaGreat.Val
open Go.RowKit
set_option linter.unusedVariables false
/-- No block but those from lo on, below hi, turned. -/
structure OnlyI (lo hi : Nat) (w w' : World) : Prop where
  os : w'.os = w.os
  tape : w'.tape = w.tape
  output : w'.output = w.output
  size : w.heap.size ≤ w'.heap.size
  block : ∀ k, k < w.heap.size → (k < lo ∨ hi ≤ k) → w'.heap[k]? = w.heap[k]?
theorem OnlyT.toI {bs : List Nat} {w w' : World} {lo hi : Nat} (h : OnlyT bs w w') (hb : ∀ b ∈ bs, lo ≤ b ∧ b < hi) : OnlyI lo hi w w' :=
  ⟨h.os, h.tape, h.output, h.size, fun k hk ho => h.block k hk (fun e => by have := hb k e; omega)⟩
theorem Only.toI {r : Nat} {w w' : World} {lo hi : Nat} (h : Only r w w') (hb : lo ≤ r ∧ r < hi) : OnlyI lo hi w w' :=
  ⟨h.os, h.tape, h.output, h.size, fun k hk ho => h.block k hk (fun e => by omega)⟩
theorem OnlyI.below {lo hi N : Nat} {w w' : World} (h : OnlyI lo hi w w') (hN : N ≤ lo) (hw : N ≤ w.heap.size) : Below N w w' :=
  ⟨h.os, h.tape, h.output, h.size, fun k hk => h.block k (by omega) (.inl (by omega))⟩
theorem FlO.alloc {w : World} {B g c n : Nat} {xs : List Value} (h : FlO w B g c n xs) (ob : Obj) : FlO (w.alloc ob) B g c n xs := h.below ((Below.refl _ _).alloc (Nat.le_refl _) _)
theorem FlO.drew {w : World} {B g c n : Nat} {xs : List Value} (h : FlO w B g c n xs) : FlO w.drew B g c n xs := h.below ((Below.refl _ _).drew)
theorem prows_small (tb : List TB) (p : List SP) : (prowsI tb p).length ≤ 300 ∧ total (prowsI tb p) ≤ 1200 ∧ Ok2 (prowsI tb p) := by
  cases h : planB tb p with
  | false =>
    rw [(plan_none h).2]
    exact ⟨by simp, by simp [total], ⟨by simp, fun r hr => absurd hr (by simp)⟩⟩
  | true =>
    obtain ⟨h1, h2⟩ := plan_fits h
    refine ⟨h2, ?_, ok2_of h1 (by omega)⟩
    have hr : ∀ r ∈ prowsI tb p, r.length ≤ 4 := fun r hr => (rowB_iff.1 (fitB_iff.1 ((rowsB_iff.1 h1).2 r hr)).2.1).1
    have ht : ∀ ls : List RT, (∀ r ∈ ls, r.length ≤ 4) → total ls ≤ 4 * ls.length := by
      intro ls
      induction ls with
      | nil => intro _; simp [total]
      | cons r ls ih =>
        intro h
        have h3 := ih fun x hx => h x (List.mem_cons_of_mem _ hx)
        have h4 := h r (by simp)
        rw [total] at h3
        rw [total, List.map_cons, List.sum_cons, List.length_cons]
        omega
    have := ht _ hr
    omega
end Go.Proofs.YtacinjbaebimhaaGreat.Val
namespace Go.Proofs.YtacinjbaebimhaaGreat.Val
open Go.RowKit
set_option linter.unusedVariables false
end Go.Proofs.YtacinjbaebimhaaGreat.Val
namespace Go.Proofs.YtacinjbaebimhaaGreat.Val
open Go.RowKit
set_option linter.unusedVariables false
set_option maxRecDepth 8000
set_option maxHeartbeats 2000000 in
theorem tablesOkI (A : Option Addr) (g o cap : Nat) (ts : List TB) (w : World) (hA : Tbs w g o A ts) (hok : OkT ts) :
    Calls Tryz.prog 27 #[.slice A ts.length cap] w fun e w' => e = .returned (.bool (tablesB ts)) ∧ Below w.heap.size w w' := by
  have HA := Lib.hid hA
  have HK := Lib.hid hok
  have hl := hok.1
  clear hA hok
  go_enter Tryz.func27, Tryz.ntmps27
  by_cases h3 : ts.length ≤ 3
  rotate_left
  · go_wp2
    go_ret
    refine ⟨retB ?_, Below.refl _ _⟩
    rw [tablesB_eq]; simp; omega
  go_wp2
  go_loopw [3] (fun ix wr => ∃ (k : Nat), k ≤ ts.length ∧ ix = .int .i64 k ∧ Hid ((ts.take k).all tab1B = true) ∧ Hid (Below w.heap.size w wr)) (fun ix _ => ts.length - (intOf ix).toNat)
  case atStart => exact ⟨0, Nat.zero_le _, rfl, rfl, Below.refl _ _⟩
  case round =>
    obtain ⟨k, hk, rfl, HL, HW⟩ := hrel
    by_cases hlt : k < ts.length
    · obtain ⟨rfl, hg, A1, c1, g1, o1, A2, c2, g2, o2, hc0, hc1, hf1, hr1, -, -⟩ := (HA.out.below HW.out).at k hlt
      have HF := Lib.hid hf1
      have HR := Lib.hid hr1
      obtain ⟨hlc, hlr⟩ := HK.out.at k hlt
      have HS := Lib.hid (all_snoc tab1B ts k hlt)
      have HN := Lib.hid (fun hp => all_no (p := tab1B) k hlt hp)
      obtain ⟨K, hK⟩ : ∃ K, ts[k] = K := ⟨_, rfl⟩
      rw [hK] at hc0 hc1 HF HR HS HN hlc hlr
      clear hK hf1 hr1
      obtain ⟨cs, ls⟩ := K
      simp only at hc0 hc1 HF HR hlc hlr
      have CR := Lib.hid (fun W hW hW2 => rowsOkI A1 A2 g1 o1 g2 o2 c1 c2 cs ls W hW hW2 hlc hlr)
      have HT : Hid (tab1B (cs, ls) = (decide (ls.length ≤ 6) && rowsB cs ls)) := rfl
      obtain ⟨B1, hB1⟩ : ∃ b, rowsB cs ls = b := ⟨_, rfl⟩
      rw [hB1] at CR HT
      obtain ⟨kl, hkl⟩ : ∃ n, cs.length = n := ⟨_, rfl⟩
      rw [hkl] at hc0 CR
      obtain ⟨kr, hkr⟩ : ∃ n, ls.length = n := ⟨_, rfl⟩
      rw [hkr] at hc1 CR HT
      have hkr2 : kr ≤ 2000000 := by have := hlr.1; omega
      clear hkl hkr hlc hlr hB1
      have i0' : (0 : Int) ≤ (k : Int) := by omega
      have i1' : (k : Int) < (ts.length : Int) := by omega
      have HS0 : (fun w' => w'.cell? ⟨g, o + k * 2, none⟩ = some (.slice A1 kl c1) ∧ w'.cell? ⟨g, o + k * 2 + 1, none⟩ = some (.slice A2 kr c2) ∧ Fl w' g1 o1 A1 (flatC cs) ∧ Rws w' g2 o2 A2 ls ∧ Below w.heap.size w w' ∧ w.heap.size ≤ w'.heap.size) wr := ⟨hc0, hc1, HF.out, HR.out, HW.out, HW.out.size⟩
      clear HF HR
      by_cases h6 : kr ≤ 6
      · clear hc0 hc1
        have q1 : decide (6 < (kr : Int)) = false := by simp; omega
        go_wp2_with (fail)
        go_region_held_law (fun w' => w'.cell? ⟨g, o + k * 2, none⟩ = some (.slice A1 kl c1) ∧ w'.cell? ⟨g, o + k * 2 + 1, none⟩ = some (.slice A2 kr c2) ∧ Fl w' g1 o1 A1 (flatC cs) ∧ Rws w' g2 o2 A2 ls ∧ Below w.heap.size w w' ∧ w.heap.size ≤ w'.heap.size) (first | exact keepTb (by assumption) hbq | exact keepTbD (by assumption) | assumption) (first | (go_at_call 43; (with_reducible refine (CR.out _ (keepTb1 (by assumption)) (keepTb2 (by assumption))).mono ?_); rintro e w1 ⟨rfl, hbq⟩))
        have HWn := Lib.hid (keepTb3 (by assumption))
        go_wp2
        · go_ret
          refine ⟨retB ?_, HWn.out⟩
          have hb : B1 = false := not_of (by assumption)
          rw [tablesB_eq, HN.out (by rw [HT.out, hb]; simp)]; simp
        · go_round
          case rel =>
            have hb : B1 = true := yes_of (by assumption)
            refine ⟨k + 1, by omega, by go_num, ?_, HWn⟩
            show _ = _
            rw [HS.out, HL.out, HT.out, hb]; simp; omega
          case measure => simp [intOf]; omega
      · have q1 : (6 < (kr : Int)) := by omega
        go_wp2_with (fail)
        go_quiet (fail)
        go_wp2
        go_ret
        refine ⟨retB ?_, below_drewN HW.out _⟩
        rw [tablesB_eq, HN.out (by rw [HT.out]; simp; omega)]; simp
    · obtain rfl : k = ts.length := by omega
      go_wp2
      go_ret
      refine ⟨retB ?_, HW.out⟩
      rw [tablesB_eq, all_end HL, Bool.eq_iff_iff]; simp; try omega
end Go.Proofs.YtacinjbaebimhaaGreat.Val
namespace Go.Proofs.YtacinjbaebimhaaGreat.Val
open Go.RowKit
set_option linter.unusedVariables false
set_option linter.unusedSimpArgs false
set_option maxRecDepth 8000
theorem infoM : (Tryz.prog.info? 48).map (fun i => (i.zero, i.size, i.bytes)) = some (some (.agg #[.slice none 0 0, .int .i64 0]), 2, 32) := by kernel_rfl
theorem stepS_of {tb : List TB} {L : List MT} {s : SP} {cs : List CT} {k : Nat} (h : ((colS tb (L.map fun x => x.1) s).map fun c => (c, madeS (L.map fun x => x.2) s)) = some (cs, k)) : stepS tb (L.map fun x => x.1, L.map fun x => x.2) s = if 300 < k then none else some ((L ++ [(cs, k)]).map fun x => x.1, (L ++ [(cs, k)]).map fun x => x.2) := by
  unfold stepS
  rcases hc : colS tb (L.map fun x => x.1) s with _ | c
  · rw [hc] at h; cases h
  · rw [hc, Option.map_some] at h
    injection h with h
    injection h with h1 h2
    simp only [hc, h1, h2, List.map_append, List.map_cons, List.map_nil]
theorem stepS_none {tb : List TB} {L : List MT} {s : SP} (h : ((colS tb (L.map fun x => x.1) s).map fun c => (c, madeS (L.map fun x => x.2) s)) = none) : stepS tb (L.map fun x => x.1, L.map fun x => x.2) s = none := by
  unfold stepS
  rcases hc : colS tb (L.map fun x => x.1) s with _ | c
  · simp only [hc]
  · rw [hc] at h; cases h
theorem plan_cols {tb : List TB} {p : List SP} {L : List MT} (ht : tablesB tb = true) (h : allI tb p = some (L.map fun x => x.1, L.map fun x => x.2)) : ∀ x ∈ L, x.1.length ≤ 4 ∧ x.2 ≤ 300 := by
  intro x hx
  obtain ⟨j, hj, rfl⟩ := List.mem_iff_getElem.1 hx
  obtain ⟨l1, l2⟩ := allI_len h
  simp only [List.length_map] at l1
  obtain ⟨h1, -, h3⟩ := every_fits ht h j (by omega)
  rw [getD_lt (by rw [List.length_map]; exact hj), List.getElem_map] at h1 h3
  exact ⟨(colB_iff.1 (rowsB_iff.1 h1).1).1, h3⟩
theorem MdQ.any {P : Nat → Prop} {w : World} {g o : Nat} {A : Option Addr} {L : List MT} (h : MdQ P w g o A L) : MdQ (fun _ => True) w g o A L := by
  refine ⟨h.ad, fun j hj => ?_⟩
  obtain ⟨A', c', g', o', h1, h2, h3, h4⟩ := h.hd j hj
  exact ⟨A', c', g', o', h1, h2, ⟨h3.fl, fun _ => trivial⟩, h4⟩
theorem MdQ.nil (P : Nat → Prop) (w : World) : MdQ P w 0 0 none [] := ⟨fun h => absurd h (by simp), fun j hj => absurd hj (by simp)⟩
theorem retStep_none {X : Nat} {w w' : World} {e : Ending} (h : RetStep X none w e w') : ∃ (A : Option Addr) (n c k : Nat), e = .returned (.tuple #[.agg #[.slice A n c, .int .i64 (k : Int)], .bool false]) ∧ Below w.heap.size w w' := by
  obtain ⟨A, g, o, c, cs, k, ok, ⟨rfl, -, h1, -⟩, hb⟩ := h
  cases ok with
  | false => exact ⟨A, cs.length, c, k, rfl, hb⟩
  | true => exact absurd (h1 rfl) (by simp)
theorem retStep_some {X : Nat} {cs : List CT} {k : Nat} {w w' : World} {e : Ending} (h : RetStep X (some (cs, k)) w e w') : ∃ (A : Option Addr) (g o c : Nat), (e = .returned (.tuple #[.agg #[.slice A cs.length c, .int .i64 (k : Int)], .bool true]) ∧ MdAt (· ≠ X) w' ((A, c, g, o), (cs, k))) ∧ Below w.heap.size w w' := by
  obtain ⟨A, g, o, c, cs', k', ok, ⟨rfl, hm, h1, h2⟩, hb⟩ := h
  cases ok with
  | false => exact absurd (h2 rfl) (by simp)
  | true =>
    have h3 := h1 rfl
    injection h3 with h3
    injection h3 with h4 h5
    subst h4 h5
    exact ⟨A, g, o, c, ⟨rfl, hm⟩, hb⟩
/-- What a plan was told: the columns of its steps, if it is one. -/
def RetPlan (tb : List TB) (p : List SP) (w : World) (e : Ending) (w' : World) : Prop := ∃ (A : Option Addr) (g c : Nat) (L : List MT), (e = .returned (.slice A L.length c) ∧ MdQ (fun _ => True) w' g 0 A L ∧ (planB tb p = true → allI tb p = some (L.map fun x => x.1, L.map fun x => x.2) ∧ L.length = p.length) ∧ (planB tb p = false → L = []) ∧ ∀ x ∈ L, x.1.length ≤ 4 ∧ x.2 ≤ 300) ∧ Below w.heap.size w w'
theorem planNone {tb : List TB} {p : List SP} {w w' : World} (h : planB tb p = false) (hb : Below w.heap.size w w') : RetPlan tb p w (.returned (.slice none 0 0)) w' :=
  ⟨none, 0, 0, [], ⟨rfl, MdQ.nil _ _, fun h2 => (by rw [h] at h2; cases h2), fun _ => rfl, fun x hx => absurd hx (by simp)⟩, hb⟩
set_option maxHeartbeats 4000000 in
theorem planMade (AT AP : Option Addr) (gT oT cT gP oP cP : Nat) (tb : List TB) (p : List SP) (w : World) (hT : Tbs w gT oT AT tb) (hok : OkT tb) (hP : Sps w gP oP AP p) (hps : OkS p) :
    Calls Tryz.prog 14 #[.slice AT tb.length cT, .slice AP p.length cP] w (RetPlan tb p w) := by
  obtain ⟨i0, hi, iz0, iz1, iz2⟩ := info_parts infoM
  have HT := Lib.hid hT
  have HP := Lib.hid hP
  have HS := Lib.hid hps
  have hpl := hps.1
  have CT := Lib.hid (fun W h1 => tablesOkI AT gT oT cT tb W h1 hok)
  cases htb : tablesB tb with
  | false =>
    rw [htb] at CT
    have HN : Hid (planB tb p = false) := by show _ = _; rw [planB, htb]; simp
    clear hT hP hps
    go_enter Tryz.func14, Tryz.ntmps14
    go_wp2_with (go_at_call 27; (with_reducible refine (CT.out _ HT.out).mono ?_); rintro e w1 ⟨rfl, hb1⟩; have HB := Lib.hid hb1; clear hb1)
    go_ret
    exact planNone HN.out HB.out
  | true =>
    rw [htb] at CT
    by_cases h6 : p.length ≤ 6
    rotate_left
    · have HN : Hid (planB tb p = false) := by show _ = _; cases hq : planB tb p with
      | false => rfl
      | true => exact absurd (planB_iff.1 hq).2.2.2 h6
      clear hT hP hps
      go_enter Tryz.func14, Tryz.ntmps14
      go_wp2_with (go_at_call 27; (with_reducible refine (CT.out _ HT.out).mono ?_); rintro e w1 ⟨rfl, hb1⟩; have HB := Lib.hid hb1; clear hb1)
      go_ret
      exact planNone HN.out HB.out
    have HNO : Hid (∀ k, allI tb (p.take k) = none → planB tb p = false) := fun k h => by rw [planB, show allI tb p = none from (by cases h2 : allI tb p with
      | none => rfl
      | some st => exact absurd (allI_pre (tb := tb) (p := p) (by rw [h2]; rfl) k) (by rw [h]; simp))]; rfl
    have HYES : Hid (allI tb p ≠ none → planB tb p = decide (1 ≤ p.length)) := fun h => by
      obtain ⟨st, hst⟩ := Option.ne_none_iff_exists'.1 h
      rw [planB, htb, hst]; simp [h6]
    have HTB := Lib.hid htb
    clear hT hP hps htb
    go_enter Tryz.func14, Tryz.ntmps14
    go_wp2_with (go_at_call 27; (with_reducible refine (CT.out _ HT.out).mono ?_); rintro e w1 ⟨rfl, hb1⟩; have HB1 := Lib.hid hb1; clear hb1)
    go_loopw [5, 6] (fun ox kx wr => ∃ (k g c : Nat) (D : List MD) (L : List MT), k ≤ p.length ∧ kx = .int .i64 k ∧ ox = .slice (some ⟨g, 0, none⟩) k c ∧ Hid (allI tb (p.take k) = some (L.map fun x => x.1, L.map fun x => x.2)) ∧ Hid (MdO wr w.heap.size g c D L) ∧ Hid (L.length = k) ∧ Hid (Below w.heap.size w wr)) (fun _ kx _ => p.length - (intOf kx).toNat)
    case atStart => exact ⟨0, w1.heap.size, 0, [], [], Nat.zero_le _, rfl, rfl, rfl, MdO.empty _ HB1.out.size, rfl, HB1.out.alloc HB1.out.size _⟩
    case round =>
      clear HB1
      obtain ⟨k, g, c, D, L, hk, rfl, rfl, HAL, HMO, HL, HB⟩ := hrel
      have hwz := HB.out.size
      have hglo := HMO.out.lo
      have HSM := Lib.hid (plan_cols HTB.out HAL.out)
      by_cases hlt : k < p.length
      · obtain ⟨rfl, hgP, A1, c1, g1, o1, A2, c2, g2, o2, x0, x1, x2, x3, x4, x5, hf1, hf2, -⟩ := (HP.out.below HB.out).at k hlt
        have hok1 := HS.out.at k hlt
        have HTK := Lib.hid (allI_take tb p k hlt)
        rw [HAL.out, Option.bind_some] at HTK
        obtain ⟨S, hS⟩ : ∃ S, p[k] = S := ⟨_, rfl⟩
        rw [hS] at x0 x1 x2 x3 x4 x5 hf1 hf2 hok1 HTK
        clear hS
        have CR := Lib.hid (fun W hT hA hX hE hN => stepMade AT (some ⟨g, 0, none⟩) gT oT cT g 0 c g tb L S A1 A2 g1 o1 c1 g2 o2 c2 W hT hA hX HSM.out hE hN hok1)
        have HSO := Lib.hid (fun cs k h => stepS_of (tb := tb) (L := L) (s := S) (cs := cs) (k := k) h)
        have HSN := Lib.hid (fun h => stepS_none (tb := tb) (L := L) (s := S) h)
        unfold aggS at CR
        rw [HL.out] at CR
        obtain ⟨r, hr⟩ : ∃ r, ((colS tb (L.map fun x => x.1) S).map fun c => (c, madeS (L.map fun x => x.2) S)) = r := ⟨_, rfl⟩
        rw [hr] at CR HSO HSN
        obtain ⟨st2, hst⟩ : ∃ st2, stepS tb (L.map fun x => x.1, L.map fun x => x.2) S = st2 := ⟨_, rfl⟩
        rw [hst] at HSO HSN HTK
        obtain ⟨s1, s2, s3, s4, es, ns⟩ := S
        simp only at x0 x1 x2 x3 x4 x5 hf1 hf2 CR
        have HE := Lib.hid hf1
        have HN := Lib.hid hf2
        obtain ⟨el, hel2⟩ : ∃ m, es.length = m := ⟨_, rfl⟩
        rw [hel2] at x4 CR
        obtain ⟨nl, hnl⟩ : ∃ m, ns.length = m := ⟨_, rfl⟩
        rw [hnl] at x5 CR
        have i0' : (0 : Int) ≤ (k : Int) := by omega
        have i1' : (k : Int) < (p.length : Int) := by omega
        clear hf1 hf2 hok1 hel2 hnl hr hst
        cases r with
        | none =>
          have CN := Lib.hid (fun W hT hA hX hE hN => (CR.out W hT hA hX hE hN).mono fun e w' h => retStep_none h)
          have HPN := Lib.hid (HNO.out (k + 1) (by rw [HTK.out]; exact HSN.out rfl))
          clear CR HSO HSN HTK
          go_wp2_with (go_at_call 28; (with_reducible refine (CN.out _ (HT.out.toQ HB.out hglo.1) HMO.out.md hglo.2 HE.out HN.out).mono ?_); rintro e w2 ⟨A9, n9, c9, k9, rfl, hb1⟩; have HB2 := Lib.hid (HB.out.trans (hb1.mono hwz)); clear hb1)
          all_goals (go_ret; exact planNone HPN.out (HB2.out.alloc HB2.out.size _))
        | some ck =>
          obtain ⟨cs9, k9⟩ := ck
          have CN := Lib.hid (fun W hT hA hX hE hN => (CR.out W hT hA hX hE hN).mono fun e w' h => retStep_some h)
          have HST := Lib.hid (HSO.out cs9 k9 rfl)
          obtain ⟨l9, hl9⟩ : ∃ m, cs9.length = m := ⟨_, rfl⟩
          have HL9 := Lib.hid hl9
          rw [hl9] at CN
          clear CR HSO HSN hl9
          by_cases h3 : 300 < k9
          · have HPN := Lib.hid (HNO.out (k + 1) (by rw [HTK.out, HST.out, if_pos h3]))
            have h3' : 300 < (k9 : Int) := by omega
            clear HTK HST
            go_wp2_with (go_at_call 28; (with_reducible refine (CN.out _ (HT.out.toQ HB.out hglo.1) HMO.out.md hglo.2 HE.out HN.out).mono ?_); rintro e w2 ⟨A9, g9, o9, c9, ⟨rfl, hmd⟩, hb1⟩; have HB2 := Lib.hid (HB.out.trans (hb1.mono hwz)); clear hb1 hmd)
            all_goals (go_ret; exact planNone HPN.out (HB2.out.alloc HB2.out.size _))
          · rw [if_neg h3] at HST
            have HAN : Hid (allI tb (p.take (k + 1)) = some ((L ++ [(cs9, k9)]).map fun x => x.1, (L ++ [(cs9, k9)]).map fun x => x.2)) := HTK.out.trans HST.out
            have h3' : ¬ 300 < (k9 : Int) := by omega
            have HLN : Hid ((L ++ [(cs9, k9)]).length = k + 1) := by show _ = _; rw [List.length_append, HL.out]; rfl
            clear HTK HST
            go_wp2_with (first
              | (go_at_call 28; (with_reducible refine (CN.out _ (HT.out.toQ HB.out hglo.1) HMO.out.md hglo.2 HE.out HN.out).mono ?_); rintro e w2 ⟨A9, g9, o9, c9, ⟨rfl, hmd⟩, hb1⟩; go_loud (have HMD := Lib.hid hmd; have HMO2 := Lib.hid (HMO.out.below hb1); have HB2 := Lib.hid (HB.out.trans (hb1.mono hwz)); have hz2 := hb1.size; clear hb1 hmd))
              | (at_builtin; go_loud (refine wpList_append_block _ rfl (.tmp 41) (.tmp 43) 42 rfl w.heap.size 48 i0 (.agg #[.slice none 0 0, .int .i64 0]) 2 32 Tryz.underlying42 hi iz0 iz1 iz2 rfl (by decide) g k c (flatM D) rfl (by have h := HMO2.out.own; rw [HL.out] at h; exact (h.alloc _).alloc _) _ 1 1 [.slice A9 l9 c9, .int .i64 (k9 : Int)] rfl rfl (news_new (by first | rfl | simp)) (by simp [Value.oneCell']) (by unfold maxLen; omega) (by omega) (by first | omega | (simp; done) | (simp; omega)) ?_); intro g3 c3 w3 hown hgr hgg; go_loud (have HM3 := Lib.hid (MdO.push (d := ((A9, c9, g9, o9), (cs9, k9))) ((HMO2.out.alloc _).alloc _) (mdKeep HMD.out (((Below.refl _ _).alloc (Nat.le_refl _) _).alloc (by simp) _) (fun _ _ h => h)) (n := k + 1) (by rw [HL.out]) (by rw [HL9.out]; exact hown) hgr hgg); have HB3 := Lib.hid (Below.grown ((HB2.out.alloc HB2.out.size _).alloc (by have := HB2.out.size; simp; omega) _) hgr (by have := HB2.out.size; simp; omega) (fun k hk => by obtain rfl := Option.some.inj hk; exact hglo.1)); clear hown hgr hgg)))
            exact ⟨⟨k + 1, g3, c3, _, L ++ [(cs9, k9)], by omega, by go_num, rfl, HAN, HM3, HLN, HB3⟩, by simp [intOf]; omega⟩
      · obtain rfl : k = p.length := by omega
        have HAF := HAL.out
        rw [List.take_length] at HAF
        have HA2 := Lib.hid HAF
        have HPL := Lib.hid (HYES.out (by rw [HAF]; simp))
        clear HAF
        go_wp2
        go_ret
        refine ⟨_, g, c, L, ⟨by rw [HL.out]; rfl, HMO.out.md.any, fun _ => ⟨HA2.out, HL.out⟩, fun h => ?_, HSM.out⟩, HB.out⟩
        rw [HPL.out] at h
        have h0 := of_decide_eq_false h
        exact List.eq_nil_of_length_eq_zero (by have := HL.out; omega)
end Go.Proofs.YtacinjbaebimhaaGreat.Val
namespace Go.Proofs.YtacinjbaebimhaaGreat.Val
open Go.RowKit
set_option linter.unusedVariables false
set_option linter.unusedSimpArgs false
set_option maxRecDepth 8000
/-- A flat row of one's own, or nil. -/
structure FlN (w : World) (B : Nat) (A : Option Addr) (g n : Nat) (xs : List Value) : Prop where
  fl : Fl w g 0 A xs
  ad : 0 < n → A = some ⟨g, 0, none⟩
  fz : ∀ j, j < xs.length → w.frozen? ⟨g, j, none⟩ = false
  lo : 0 < xs.length → B ≤ g ∧ g < w.heap.size
theorem FlN.nil (w : World) (B : Nat) : FlN w B none 0 0 [] := ⟨⟨fun h => absurd h (by simp), fun j hj => absurd hj (by simp)⟩, fun h => absurd h (by omega), fun j hj => absurd hj (by simp), fun h => absurd h (by simp)⟩
theorem FlN.same {w w' : World} {B g n : Nat} {A : Option Addr} {xs : List Value} (h : FlN w B A g n xs) (hz : w.heap.size ≤ w'.heap.size) (hk : 0 < xs.length → w'.heap[g]? = w.heap[g]?) : FlN w' B A g n xs :=
  ⟨⟨h.fl.ad, fun j hj => (cellOf (hk (by omega))).trans (h.fl.c j hj)⟩, h.ad, fun j hj => (frozenOf (hk (by omega))).trans (h.fz j hj), fun h0 => ⟨(h.lo h0).1, Nat.lt_of_lt_of_le (h.lo h0).2 hz⟩⟩
theorem FlN.below {w w' : World} {B g n : Nat} {A : Option Addr} {xs : List Value} (h : FlN w B A g n xs) (hb : Below w.heap.size w w') : FlN w' B A g n xs := h.same hb.size fun h0 => hb.block g (h.lo h0).2
theorem FlN.alloc {w : World} {B g n : Nat} {A : Option Addr} {xs : List Value} (h : FlN w B A g n xs) (ob : Obj) : FlN (w.alloc ob) B A g n xs := h.below ((Below.refl _ _).alloc (Nat.le_refl _) _)
theorem FlN.drew {w : World} {B g n : Nat} {A : Option Addr} {xs : List Value} (h : FlN w B A g n xs) : FlN w.drew B A g n xs := h.below ((Below.refl _ _).drew)
theorem OnlyI.refl (lo hi : Nat) (w : World) : OnlyI lo hi w w := ⟨rfl, rfl, rfl, Nat.le_refl _, fun _ _ _ => rfl⟩
/-- What a mark leaves of an answer that may be nil. -/
theorem FlN.only {w w' : World} {B g n : Nat} {A : Option Addr} {xs : List Value} (h : FlN w B A g n xs) (hn : n = 0 → w' = w) (hx : 0 < n → 0 < xs.length) (ho : Only g w w') : OnlyI B w.heap.size w w' := by
  by_cases h0 : n = 0
  · rw [hn h0]; exact OnlyI.refl _ _ _
  · exact Only.toI ho (h.lo (hx (by omega)))
theorem planOkI (AT AP : Option Addr) (gT oT cT gP oP cP : Nat) (tb : List TB) (p : List SP) (w : World) (hT : Tbs w gT oT AT tb) (hok : OkT tb) (hP : Sps w gP oP AP p) (hps : OkS p) :
    Calls Tryz.prog 8 #[.slice AT tb.length cT, .slice AP p.length cP] w fun e w' => e = .returned (.bool (planB tb p)) ∧ Below w.heap.size w w' := by
  have CM := Lib.hid (planMade AT AP gT oT cT gP oP cP tb p w hT hok hP hps)
  have h1 : planB tb p = true → 1 ≤ p.length := fun h => (planB_iff.1 h).2.2.1
  have hb0 : ∀ (n : Nat), (planB tb p = true → n = p.length) → (planB tb p = false → n = 0) → decide (0 < (n : Int)) = planB tb p := by
    intro n k1 k2
    cases hp : planB tb p with
    | true => have := k1 hp; have := h1 hp; simp; omega
    | false => have := k2 hp; simp; omega
  have HN := Lib.hid hb0
  obtain ⟨b, hb⟩ : ∃ b, planB tb p = b := ⟨_, rfl⟩
  unfold RetPlan at CM
  rw [hb] at CM HN ⊢
  clear hT hok hP hps h1 hb0 hb
  go_enter Tryz.func8, Tryz.ntmps8
  go_wp2_with (go_at_call 14; (with_reducible refine CM.out.mono ?_); rintro e w1 ⟨A, g, c, L, ⟨rfl, -, hy, hn, -⟩, hb1⟩; go_loud (have HB := Lib.hid hb1; have HB0 := Lib.hid (HN.out L.length (fun h => (hy h).2) (fun h => by rw [hn h]; rfl)); obtain ⟨l, hl⟩ : ∃ l, L.length = l := ⟨_, rfl⟩; rw [hl] at HB0 ⊢; clear hb1 hy hn hl))
  go_ret
  exact ⟨retB (by rw [← HB0.out]; simp), HB.out⟩
end Go.Proofs.YtacinjbaebimhaaGreat.Val
namespace Go.Proofs.YtacinjbaebimhaaGreat.Val
open Go.RowKit
set_option linter.unusedVariables false
set_option linter.unusedSimpArgs false
set_option maxRecDepth 8000
end Go.Proofs.YtacinjbaebimhaaGreat.Val
namespace Go.Proofs.YtacinjbaebimhaaGreat.Val
open Go.RowKit
set_option linter.unusedVariables false
set_option linter.unusedSimpArgs false
set_option maxRecDepth 8000
end Go.Proofs.YtacinjbaebimhaaGreat.Val
namespace Go.Proofs.YtacinjbaebimhaaGreat.Val
open Go.RowKit
set_option linter.unusedVariables false
set_option maxRecDepth 8000
theorem rowTaken (g o c gn on cn : Nat) (AN : Option Addr) (l : List VT) (ns : List Int) (w : World) (h : Fl w g o (some ⟨g, o, none⟩) (flatV l)) (hn : Fl w gn on AN (ns.map iv)) (hl : l.length ≤ 2000000) (hnl : ns.length ≤ 2000000) (hin : ∀ t ∈ ns, inB t l.length = true) :
    Calls Tryz.prog 50 #[.slice (some ⟨g, o, none⟩) l.length c, .slice AN ns.length cn] w (RetRow (ns.map fun t => l.getD t.toNat nilV) w) := by
  obtain ⟨i0, hi, iz0, iz1, iz2⟩ := info_parts infoVc
  have HA := Lib.hid h
  have HN := Lib.hid hn
  have HIN := Lib.hid hin
  have OWN := Lib.hid (own_empty3 (w := w) (B := w.heap.size) 54 3 rfl (Nat.le_refl _))
  clear h hn hin
  go_enter Tryz.func50, Tryz.ntmps50
  go_wp2
  go_loopw [5, 6] (fun ox kx wr => ∃ (k g2 c2 : Nat), k ≤ ns.length ∧ kx = .int .i64 k ∧ ox = .slice (some ⟨g2, 0, none⟩) k c2 ∧ Hid (wr.ownsRow w.heap.size 54 3 (.slice (some ⟨g2, 0, none⟩) k c2) k (flatV ((ns.take k).map fun t => l.getD t.toNat nilV))) ∧ Hid (Below w.heap.size w wr)) (fun _ kx _ => ns.length - (intOf kx).toNat)
  case atStart => exact ⟨0, w.heap.size, 0, Nat.zero_le _, rfl, rfl, OWN, (Below.refl _ _).alloc (Nat.le_refl _) _⟩
  case round =>
    clear OWN
    obtain ⟨k, g2, c2, hk, rfl, rfl, HO, HB⟩ := hrel
    have hz := HB.out.size
    by_cases hlt : k < ns.length
    · obtain ⟨rfl, hgn, cn1⟩ := (HN.out.below HB.out).n k hlt
      have HTK := Lib.hid (List.take_succ_eq_append_getElem hlt)
      have hi1 := HIN.out _ (List.getElem_mem hlt)
      obtain ⟨m, hm, hml⟩ := inB_nat hi1
      rw [hm] at cn1 HTK
      obtain ⟨-, hg, e0, e1, e2⟩ := (HA.out.below HB.out).v m hml
      have hgd : l.getD m nilV = l[m] := getD_lt hml _
      obtain ⟨V, hV⟩ : ∃ V, l[m] = V := ⟨_, rfl⟩
      rw [hV] at e0 e1 e2 hgd
      obtain ⟨vk, vn, vs⟩ := V
      simp only at e0 e1 e2
      have hfl := Lib.hid (show flatV ((ns.take (k + 1)).map fun t => l.getD t.toNat nilV) = flatV ((ns.take k).map fun t => l.getD t.toNat nilV) ++ [.int .i64 vk, .int .i64 vn, .string vs] by
        rw [HTK.out, List.map_append, flatV_app]; simp only [List.map_cons, List.map_nil, Int.toNat_natCast, hgd]; rfl)
      have hgs := (HO.out.lt g2 rfl).1
      have i0' : (0 : Int) ≤ (k : Int) := by omega
      have i1' : (k : Int) < (ns.length : Int) := by omega
      have j0' : (0 : Int) ≤ (m : Int) := by omega
      have j1' : (m : Int) < (l.length : Int) := by omega
      clear hV hgd hi1 hm HTK
      go_wp2_with (at_builtin; go_loud (refine wpList_append_block _ rfl (.tmp 14) (.tmp 22) 50 rfl w.heap.size 54 i0 (.agg #[.int .i64 0, .int .i64 0, .string ⟨#[]⟩]) 3 32 Tryz.underlying50 hi iz0 iz1 iz2 rfl (by decide) g2 k c2 (flatV ((ns.take k).map fun t => l.getD t.toNat nilV)) rfl (HO.out.alloc _) _ 1 1 [.int .i64 vk, .int .i64 vn, .string vs] rfl rfl (news_new (by first | rfl | simp)) (by simp [Value.oneCell']) (by unfold maxLen; omega) (by omega) (by first | omega | (simp; done) | (simp; omega)) ?_); intro g5 c5 w5 hown hgr hgg; rw [← hfl.out] at hown; have HO5 := Lib.hid hown; have HB5 := Lib.hid (Below.grown (HB.out.alloc hz _) hgr (by simp; omega) (fun k hk => by obtain rfl := Option.some.inj hk; exact hgs)); clear hown hgr hgg)
      exact ⟨⟨k + 1, g5, c5, by omega, by go_num, rfl, HO5, HB5⟩, by simp [intOf]; omega⟩
    · obtain rfl : k = ns.length := by omega
      have HOF := HO.out
      rw [List.take_length] at HOF
      have HO2 := Lib.hid HOF
      clear HOF
      go_wp2
      go_ret
      exact ⟨g2, c2, by rw [List.length_map]; rfl, RowO.of_own (by rw [List.length_map]; exact HO2.out), HB.out⟩
theorem rowsTaken (A AN : Option Addr) (g0 o0 cap gn on cn : Nat) (ls : List RT) (ns : List Int) (w : World) (hA : Rws w g0 o0 A ls) (hN : Fl w gn on AN (ns.map iv)) (hok : Ok2 ls) (hnl : ns.length ≤ 2000000) (hin : ∀ r ∈ ls, ∀ t ∈ ns, inB t r.length = true) :
    Calls Tryz.prog 30 #[.slice A ls.length cap, .slice AN ns.length cn] w (RetBag (ls.map fun r => ns.map fun t => r.getD t.toNat nilV) w) := by
  obtain ⟨i0, hi, iz0, iz1, iz2⟩ := info_parts infoVS
  have HA := Lib.hid hA
  have HK := Lib.hid hok
  have hl := hok.1
  have HNN := Lib.hid hN
  have HIN := Lib.hid hin
  clear hN hin
  clear hA hok
  have BAG0 := Lib.hid (Bag.empty w)
  have HB0 := Lib.hid ((Below.refl w.heap.size w).alloc (Nat.le_refl _) (.cells #[] 50))
  go_enter Tryz.func30, Tryz.ntmps30
  go_wp2
  go_loopw [5, 6] (fun ox ix wr => ∃ (k g c : Nat) (T : List TT) (o : List RT), k ≤ ls.length ∧ ix = .int .i64 k ∧ ox = .slice (some ⟨g, 0, none⟩) k c ∧ Hid (o.length = k) ∧ Hid (o = (ls.take k).map fun r => ns.map fun t => r.getD t.toNat nilV) ∧ Hid (Bag wr w.heap.size g c T o) ∧ Hid (Below w.heap.size w wr)) (fun _ ix _ => ls.length - (intOf ix).toNat)
  case atStart => exact ⟨0, w.heap.size, 0, [], [], Nat.zero_le _, rfl, rfl, rfl, rfl, BAG0, HB0⟩
  case round =>
    clear BAG0 HB0
    obtain ⟨k, g, c, T, o, hk, rfl, rfl, HOL, HO, BAG, HB⟩ := hrel
    have hwz := HB.out.size
    by_cases hlt : k < ls.length
    · obtain ⟨rfl, hg, c', g', o', hc, hf⟩ := (HA.out.below HB.out).at k hlt
      have HF := Lib.hid hf
      have hlr := (HK.out.at k hlt).1
      have HS := Lib.hid (List.take_succ_eq_append_getElem hlt)
      have HIK := Lib.hid (HIN.out _ (List.getElem_mem hlt))
      obtain ⟨K, hK⟩ : ∃ K, ls[k] = K := ⟨_, rfl⟩
      rw [hK] at hc HF HS hlr HIK
      clear hK hf
      have HN : Hid (o ++ [(fun r : RT => ns.map fun t => r.getD t.toNat nilV) K] = (ls.take (k + 1)).map fun r => ns.map fun t => r.getD t.toNat nilV) := by show _ = _; rw [HS.out, List.map_append, ← HO.out]; rfl
      obtain ⟨N, hNN⟩ : ∃ N, (fun r : RT => ns.map fun t => r.getD t.toNat nilV) K = N := ⟨_, rfl⟩
      rw [hNN] at HN
      have CC := Lib.hid (fun W hW hW2 => rowTaken g' o' c' gn on cn AN K ns W hW hW2 hlr hnl HIK.out)
      unfold RetRow at CC
      have hnn2 : (ns.map fun t => K.getD t.toNat nilV) = N := hNN
      rw [hnn2] at CC
      clear hnn2
      obtain ⟨nl, hnl9⟩ : ∃ n, N.length = n := ⟨_, rfl⟩
      have HNL := Lib.hid hnl9
      rw [hnl9] at CC
      clear hnl9
      obtain ⟨kl, hkl⟩ : ∃ n, K.length = n := ⟨_, rfl⟩
      rw [hkl] at hc
      rw [hkl] at CC
      have i0' : (0 : Int) ≤ (k : Int) := by omega
      have i1' : (k : Int) < (ls.length : Int) := by omega
      have HLN : Hid ((o ++ [N]).length = k + 1) := by show _ = _; rw [List.length_append, HOL.out]; rfl
      clear hkl hNN HS HO
      go_wp2_with (first
        | (go_at_call 50; (with_reducible refine (CC.out _ HF.out (HNN.out.below HB.out)).mono ?_); rintro e w2 ⟨g2, c2, rfl, hr2, hb2⟩; have HR2 := Lib.hid hr2; have BAG2 := Lib.hid (BAG.out.below hb2); have HB2 := Lib.hid (HB.out.trans (hb2.mono hwz)); have HBB := Lib.hid hb2; have hwz2 := HB2.out.size; clear hb2 hr2)
        | (at_builtin; go_loud (refine wpList_append_block _ rfl (.tmp 14) (.tmp 21) 27 rfl w.heap.size 50 i0 (.slice none 0 0) 1 24 Tryz.underlying27 hi iz0 iz1 iz2 rfl (by decide) g k c (T.map hdr) rfl (by have h := BAG2.out.own; rw [HOL.out] at h; exact h.alloc _) _ 1 1 [.slice (some ⟨g2, 0, none⟩) nl c2] rfl rfl (news_new (by first | rfl | simp)) (by simp [Value.oneCell']) (by unfold maxLen; omega) (by omega) (by first | omega | (simp; done) | (simp; omega)) ?_); intro g3 c3 w3 hown hgr hgg; have HNB := Lib.hid (Bag.push2 BAG.out HR2.out HBB.out (by rw [HOL.out]) (by have h := hown; rw [← HNL.out] at h; exact h) hgr hgg); have HB3 := Lib.hid (Below.grown (HB2.out.alloc hwz2 _) hgr (by simp; omega) (fun k hk => by obtain rfl := Option.some.inj hk; exact BAG.out.lo.1)); clear hown hgr hgg))
      exact ⟨⟨k + 1, g3, c3, _, o ++ [N], by omega, by go_num, rfl, HLN, HN, HNB, HB3⟩, by simp [intOf]; omega⟩
    · obtain rfl : k = ls.length := by omega
      have HO2 : Hid (o = ls.map fun r => ns.map fun t => r.getD t.toNat nilV) := by show _ = _; have := HO.out; rwa [List.take_length] at this
      have HBF := BAG.out
      rw [HO2.out] at HBF
      have HBG := Lib.hid HBF
      clear HBF
      go_wp2
      go_ret
      exact ⟨g, c, T, by rw [List.length_map]; rfl, HBG.out, HB.out⟩
theorem rowsCopy (A : Option Addr) (g0 o0 cap : Nat) (ls : List RT) (w : World) (hA : Rws w g0 o0 A ls) (hok : Ok2 ls) :
    Calls Tryz.prog 16 #[.slice A ls.length cap] w (RetBag (ls.map fun r => r) w) := by
  obtain ⟨i0, hi, iz0, iz1, iz2⟩ := info_parts infoVS
  have HA := Lib.hid hA
  have HK := Lib.hid hok
  have hl := hok.1
  clear hA hok
  have BAG0 := Lib.hid (Bag.empty w)
  have HB0 := Lib.hid ((Below.refl w.heap.size w).alloc (Nat.le_refl _) (.cells #[] 50))
  go_enter Tryz.func16, Tryz.ntmps16
  go_wp2
  go_loopw [3, 4] (fun ox ix wr => ∃ (k g c : Nat) (T : List TT) (o : List RT), k ≤ ls.length ∧ ix = .int .i64 k ∧ ox = .slice (some ⟨g, 0, none⟩) k c ∧ Hid (o.length = k) ∧ Hid (o = (ls.take k).map fun r => r) ∧ Hid (Bag wr w.heap.size g c T o) ∧ Hid (Below w.heap.size w wr)) (fun _ ix _ => ls.length - (intOf ix).toNat)
  case atStart => exact ⟨0, w.heap.size, 0, [], [], Nat.zero_le _, rfl, rfl, rfl, rfl, BAG0, HB0⟩
  case round =>
    clear BAG0 HB0
    obtain ⟨k, g, c, T, o, hk, rfl, rfl, HOL, HO, BAG, HB⟩ := hrel
    have hwz := HB.out.size
    by_cases hlt : k < ls.length
    · obtain ⟨rfl, hg, c', g', o', hc, hf⟩ := (HA.out.below HB.out).at k hlt
      have HF := Lib.hid hf
      have hlr := (HK.out.at k hlt).1
      have HS := Lib.hid (List.take_succ_eq_append_getElem hlt)
      obtain ⟨K, hK⟩ : ∃ K, ls[k] = K := ⟨_, rfl⟩
      rw [hK] at hc HF HS hlr
      clear hK hf
      have HN : Hid (o ++ [K] = (ls.take (k + 1)).map fun r => r) := by show _ = _; rw [HS.out, List.map_append, ← HO.out]; rfl
      have CC := Lib.hid (fun W hW => rowCopy g' o' c' K W hW hlr)
      obtain ⟨nl, hnl9⟩ : ∃ n, K.length = n := ⟨_, rfl⟩
      have HNL := Lib.hid hnl9
      rw [hnl9] at CC
      obtain ⟨kl, hkl⟩ : ∃ n, K.length = n := ⟨_, rfl⟩
      rw [hkl] at hc
      obtain rfl : nl = kl := by omega
      clear hnl9
      have i0' : (0 : Int) ≤ (k : Int) := by omega
      have i1' : (k : Int) < (ls.length : Int) := by omega
      have HLN : Hid ((o ++ [K]).length = k + 1) := by show _ = _; rw [List.length_append, HOL.out]; rfl
      clear hkl HS HO
      go_wp2_with (first
        | (go_at_call 22; (with_reducible refine (CC.out _ HF.out).mono ?_); rintro e w2 ⟨g2, c2, rfl, hr2, hb2⟩; have HR2 := Lib.hid hr2; have BAG2 := Lib.hid (BAG.out.below hb2); have HB2 := Lib.hid (HB.out.trans (hb2.mono hwz)); have HBB := Lib.hid hb2; have hwz2 := HB2.out.size; clear hb2 hr2)
        | (at_builtin; go_loud (refine wpList_append_block _ rfl (.tmp 12) (.tmp 18) 27 rfl w.heap.size 50 i0 (.slice none 0 0) 1 24 Tryz.underlying27 hi iz0 iz1 iz2 rfl (by decide) g k c (T.map hdr) rfl (by have h := BAG2.out.own; rw [HOL.out] at h; exact h.alloc _) _ 1 1 [.slice (some ⟨g2, 0, none⟩) nl c2] rfl rfl (news_new (by first | rfl | simp)) (by simp [Value.oneCell']) (by unfold maxLen; omega) (by omega) (by first | omega | (simp; done) | (simp; omega)) ?_); intro g3 c3 w3 hown hgr hgg; have HNB := Lib.hid (Bag.push2 BAG.out HR2.out HBB.out (by rw [HOL.out]) (by have h := hown; rw [← HNL.out] at h; exact h) hgr hgg); have HB3 := Lib.hid (Below.grown (HB2.out.alloc hwz2 _) hgr (by simp; omega) (fun k hk => by obtain rfl := Option.some.inj hk; exact BAG.out.lo.1)); clear hown hgr hgg))
      exact ⟨⟨k + 1, g3, c3, _, o ++ [K], by omega, by go_num, rfl, HLN, HN, HNB, HB3⟩, by simp [intOf]; omega⟩
    · obtain rfl : k = ls.length := by omega
      have HO2 : Hid (o = ls.map fun r => r) := by show _ = _; have := HO.out; rwa [List.take_length] at this
      have HBF := BAG.out
      rw [HO2.out] at HBF
      have HBG := Lib.hid HBF
      clear HBF
      go_wp2
      go_ret
      exact ⟨g, c, T, by rw [List.length_map]; rfl, HBG.out, HB.out⟩
/-- Headers of one's own over rows that lie. -/
def RetHd (X : Nat) (ls : List RT) (w : World) (e : Ending) (w' : World) : Prop := ∃ (g c : Nat) (D : List HD), (e = .returned (.slice (some ⟨g, 0, none⟩) ls.length c) ∧ HdO (· ≠ X) w' w.heap.size g c D ls) ∧ Below w.heap.size w w'
set_option maxHeartbeats 2000000 in
theorem rowsHeld (AC A AE : Option Addr) (gc oc cc g0 o0 cap ge oe ce X : Nat) (cs : List CT) (ls : List RT) (es : List PT) (w : World) (hC : Fl w gc oc AC (flatC cs)) (hA : RwsQ (· ≠ X) w g0 o0 A ls) (hE : Fl w ge oe AE (flatP es)) (hok : Ok2 ls) (hl1 : cs.length ≤ 2000000) (hl2 : es.length ≤ 2000000) (hs : ShortP es) (hX : X < w.heap.size) (hk3 : kindI cs es = 3) (hft : ∀ r ∈ ls, fitB cs r = true) :
    Calls Tryz.prog 29 #[.slice AC cs.length cc, .slice A ls.length cap, .slice AE es.length ce] w (RetHd X (ls.filter (yesR es)) w) := by
  obtain ⟨i0, hi, iz0, iz1, iz2⟩ := info_parts infoVS
  have HA := Lib.hid hA
  have HK := Lib.hid hok
  have HC := Lib.hid hC
  have HE := Lib.hid hE
  have HFT := Lib.hid hft
  have hl := hok.1
  have hk3' : ¬ kindI cs es < 0 := by omega
  obtain ⟨cl, hcl⟩ : ∃ n, cs.length = n := ⟨_, rfl⟩
  obtain ⟨el, hel⟩ : ∃ n, es.length = n := ⟨_, rfl⟩
  have CE := Lib.hid (fun W g' o' c' (K : RT) hW1 hW2 hW3 (hkl : K.length ≤ 2000000) (hks : Short K) => exprHoldsI AC (some ⟨g', o', none⟩) AE gc oc cc g' o' c' ge oe ce cs K es W hW1 hW2 hW3 hl1 hkl hl2 hks hs)
  rw [hcl, hel] at CE
  rw [hcl, hel]
  clear hA hok hC hE hft
  have BAG0 := Lib.hid (HdO.empty (· ≠ X) w (Nat.le_refl _))
  have HB0 := Lib.hid ((Below.refl w.heap.size w).alloc (Nat.le_refl _) (.cells #[] 50))
  go_enter Tryz.func29, Tryz.ntmps29
  go_wp2
  go_loopw [7, 8] (fun ox ix wr => ∃ (k g c : Nat) (D : List HD) (o : List RT), k ≤ ls.length ∧ ix = .int .i64 k ∧ ox = .slice (some ⟨g, 0, none⟩) o.length c ∧ o.length ≤ k ∧ Hid (o = (ls.take k).filter (yesR es)) ∧ Hid (HdO (· ≠ X) wr w.heap.size g c D o) ∧ Hid (Below w.heap.size w wr)) (fun _ ix _ => ls.length - (intOf ix).toNat)
  case atStart => exact ⟨0, w.heap.size, 0, [], [], Nat.zero_le _, rfl, rfl, Nat.le_refl _, rfl, BAG0, HB0⟩
  case round =>
    clear BAG0 HB0
    obtain ⟨k, g, c, D, o, hk, rfl, rfl, hok0, HO, BAG, HB⟩ := hrel
    have hwz := HB.out.size
    by_cases hlt : k < ls.length
    · obtain ⟨rfl, hg, c', g', o', hc, hf⟩ := (HA.out.below HB.out).at k hlt
      have HFQ : Hid (FlQ (fun b => b < w.heap.size ∧ b ≠ X) wr g' o' (some ⟨g', o', none⟩) (flatV ls[k])) := by
        obtain ⟨-, -, c2, g2, o2, hc2, hf2⟩ := HA.out.at k hlt
        have e2 := (HB.out.cell (p := ⟨g0, o0 + k, none⟩) (World.block_lt_of_cell? w ⟨g0, o0 + k, none⟩ hc2)).trans hc2
        rw [hc] at e2
        have e3 := Option.some.inj e2
        injection e3 with e4 e5 e6
        injection e4 with e7
        injection e7 with e8 e9
        subst e8 e9
        exact ⟨hf.fl, fun h0 => ⟨hf2.fl.lt h0, hf2.q h0⟩⟩
      have HF := Lib.hid hf.fl
      obtain ⟨hlr, hsr⟩ := HK.out.at k hlt
      have HFK := Lib.hid (HFT.out _ (List.getElem_mem hlt))
      have HS := Lib.hid (List.take_succ_eq_append_getElem hlt)
      obtain ⟨K, hK⟩ : ∃ K, ls[k] = K := ⟨_, rfl⟩
      rw [hK] at hc HF HS hlr hsr HFK HFQ
      have CC := Lib.hid (fun W hW1 hW2 hW3 => CE.out W g' o' c' K hW1 hW2 hW3 hlr hsr)
      have hye : holdsI cs K es = yesR es K := by rw [holds_yes]; exact yes_of_x (by omega) HFK.out
      rw [hye] at CC
      obtain ⟨kl, hkl⟩ : ∃ n, K.length = n := ⟨_, rfl⟩
      rw [hkl] at hc CC
      have HKL := Lib.hid hkl
      obtain ⟨ol, hol⟩ : ∃ n, o.length = n := ⟨_, rfl⟩
      have HOL := Lib.hid hol
      rw [hol] at hok0
      rw [hol]
      have i0' : (0 : Int) ≤ (k : Int) := by omega
      have i1' : (k : Int) < (ls.length : Int) := by omega
      have HRG : Hid ((ls.take (k + 1)).filter (yesR es) = o ++ if yesR es K = true then [K] else []) := by
        show _ = _
        rw [HS.out, List.filter_append, ← HO.out]
        by_cases h : yesR es K = true
        · rw [if_pos h, List.filter_cons_of_pos h]; rfl
        · rw [if_neg h, List.filter_cons_of_neg h]; rfl
      obtain ⟨y, hy⟩ : ∃ y, yesR es K = y := ⟨_, rfl⟩
      rw [hy] at CC HRG
      clear hK hf hkl hol HS hye hy HFK
      have hgx : w.heap.size ≤ g := BAG.out.lo.1
      cases y with
      | false =>
        have HN : Hid (o = (ls.take (k + 1)).filter (yesR es)) := by show _ = _; rw [HRG.out]; simp
        clear HRG HO
        go_wp2_with (go_at_call 49; (with_reducible refine (CC.out _ (HC.out.below HB.out) HF.out (HE.out.below HB.out)).mono ?_); rintro e w1 ⟨rfl, hb1⟩; have BAG1 := Lib.hid (BAG.out.below hb1); have HB1 := Lib.hid (HB.out.trans (hb1.mono hwz)); clear hb1 BAG HB)
        exact ⟨⟨k + 1, g, c, D, o, by omega, by go_num, by rw [HOL.out], by rw [HOL.out]; omega, HN, BAG1, HB1⟩, by simp [intOf]; omega⟩
      | true =>
        have HN : Hid (o ++ [K] = (ls.take (k + 1)).filter (yesR es)) := by show _ = _; rw [HRG.out]; simp
        clear HRG HO
        go_wp2_with (first
          | (go_at_call 49; (with_reducible refine (CC.out _ (HC.out.below HB.out) HF.out (HE.out.below HB.out)).mono ?_); rintro e w1 ⟨rfl, hb1⟩; go_loud (have hc1 := (hb1.cell (p := ⟨_, _, none⟩) hg).trans hc; have BAG1 := Lib.hid (BAG.out.below hb1); have HFQ1 := Lib.hid (HFQ.out.below hb1); have HB1 := Lib.hid (HB.out.trans (hb1.mono hwz)); have hwz1 := HB1.out.size; clear hb1 BAG HB hc))
          | (at_builtin; go_loud (refine wpList_append_block _ rfl (.tmp 23) (.tmp 28) 27 rfl w.heap.size 50 i0 (.slice none 0 0) 1 24 Tryz.underlying27 hi iz0 iz1 iz2 rfl (by decide) g ol c (D.map hdH) rfl (by have h := BAG1.out.own; rw [HOL.out] at h; exact h.alloc _) _ 1 1 [.slice (some ⟨g', o', none⟩) kl c'] rfl rfl (news_new (by first | rfl | simp)) (by simp [Value.oneCell']) (by unfold maxLen; omega) (by omega) (by first | omega | (simp; done) | (simp; omega)) ?_); intro g3 c3 w3 hown hgr hgg; go_loud (have HNB := Lib.hid (HdO.app (D2 := [((g', o', c'), K)]) (BAG1.out.alloc _) (fun d hd => by obtain rfl := List.mem_singleton.1 hd; exact (HFQ1.out.move (Same.below ((Below.refl _ _).alloc (Nat.le_refl _) _)) (fun b _ h => ⟨by have := h.1; omega, h.2⟩))) (n := ol + 1) (by rw [HOL.out]; rfl) (by rw [show ([((g', o', c'), K)] : List HD).map hdH = [.slice (some ⟨g', o', none⟩) kl c'] from by rw [← HKL.out]; rfl]; exact hown) hgr hgg); have HB3 := Lib.hid (Below.grown (HB1.out.alloc hwz1 _) hgr (by simp; omega) (fun k hk => by obtain rfl := Option.some.inj hk; exact hgx)); clear hown hgr hgg)))
        exact ⟨⟨k + 1, g3, c3, _, o ++ [K], by omega, by go_num, by simp [HOL.out], by simp [HOL.out]; omega, HN, HNB, HB3⟩, by simp [intOf]; omega⟩
    · obtain rfl : k = ls.length := by omega
      have HO2 : Hid (o = ls.filter (yesR es)) := by show _ = _; have := HO.out; rwa [List.take_length] at this
      obtain rfl := HO2.out
      go_wp2
      go_ret
      exact ⟨g, c, D, ⟨rfl, BAG.out⟩, HB.out⟩
end Go.Proofs.YtacinjbaebimhaaGreat.Val
namespace Go.Proofs.YtacinjbaebimhaaGreat.Val
open Go.RowKit
set_option linter.unusedVariables false
set_option maxRecDepth 8000
/-- rowCopy, with what an append needs. -/
theorem rowCopyW (g o c : Nat) (l : List VT) (w : World) (h : Fl w g o (some ⟨g, o, none⟩) (flatV l)) (hl : l.length ≤ 2000000) :
    Calls Tryz.prog 22 #[.slice (some ⟨g, o, none⟩) l.length c] w fun e w' => ∃ (g2 c2 : Nat), e = .returned (.slice (some ⟨g2, 0, none⟩) l.length c2) ∧ w'.ownsRow w.heap.size 54 3 (.slice (some ⟨g2, 0, none⟩) l.length c2) l.length (flatV l) ∧ Below w.heap.size w w' := by
  obtain ⟨i0, hi, iz0, iz1, iz2⟩ := info_parts infoVc
  have HA := Lib.hid h
  clear h
  have hfl := Lib.hid (flatV_len l)
  have OWN := Lib.hid (own_empty3 (w := w) (B := w.heap.size) 54 3 rfl (Nat.le_refl _))
  go_enter Tryz.func22, Tryz.ntmps22
  go_wp2_with (at_builtin; refine wpList_append_block _ rfl (.tmp 3) (.tmp 4) 50 rfl w.heap.size 54 i0 (.agg #[.int .i64 0, .int .i64 0, .string ⟨#[]⟩]) 3 32 Tryz.underlying50 hi iz0 iz1 iz2 rfl (by decide) w.heap.size 0 0 [] rfl OWN.out _ _ _ (flatV l) rfl hfl.out (news_flo (HA.out.alloc _)) (one_flatV l) (by unfold maxLen; omega) (by omega) (by first | omega | (simp; done) | (simp; omega)) ?_; intro g2 c2 w2 hown hgr hgg; (try simp only [Nat.zero_add, List.nil_append] at hown); have HO := Lib.hid hown; have HB := Lib.hid (Below.grown ((Below.refl _ _).alloc (Nat.le_refl _) _) hgr (by simp) (fun k hk => by obtain rfl := Option.some.inj hk; exact Nat.le_refl _)); clear hown hgr hgg)
  go_ret
  exact ⟨g2, c2, by simp, HO.out, HB.out⟩
theorem bsKeep {w W W1 : World} {a b p q : Nat} {x y : Value} (h : W.cell? ⟨a, p, none⟩ = some x ∧ W.cell? ⟨b, q, none⟩ = some y ∧ Below w.heap.size w W ∧ w.heap.size ≤ W.heap.size) (ha : a < w.heap.size) (hb : b < w.heap.size) (hq : Below w.heap.size W W1) : W1.cell? ⟨a, p, none⟩ = some x ∧ W1.cell? ⟨b, q, none⟩ = some y ∧ Below w.heap.size w W1 ∧ w.heap.size ≤ W1.heap.size :=
  ⟨(hq.cell (p := ⟨a, p, none⟩) ha).trans h.1, (hq.cell (p := ⟨b, q, none⟩) hb).trans h.2.1, h.2.2.1.trans hq, Nat.le_trans h.2.2.2 hq.size⟩
theorem bsAlloc {w W : World} {a b p q : Nat} {x y : Value} {ob : Obj} (h : W.cell? ⟨a, p, none⟩ = some x ∧ W.cell? ⟨b, q, none⟩ = some y ∧ Below w.heap.size w W ∧ w.heap.size ≤ W.heap.size) (ha : a < w.heap.size) (hb : b < w.heap.size) : (W.alloc ob).cell? ⟨a, p, none⟩ = some x ∧ (W.alloc ob).cell? ⟨b, q, none⟩ = some y ∧ Below w.heap.size w (W.alloc ob) ∧ w.heap.size ≤ (W.alloc ob).heap.size :=
  bsKeep h ha hb ((Below.refl _ _).alloc h.2.2.2 _)
theorem bsDrew {w W : World} {a b p q : Nat} {x y : Value} (h : W.cell? ⟨a, p, none⟩ = some x ∧ W.cell? ⟨b, q, none⟩ = some y ∧ Below w.heap.size w W ∧ w.heap.size ≤ W.heap.size) : W.drew.cell? ⟨a, p, none⟩ = some x ∧ W.drew.cell? ⟨b, q, none⟩ = some y ∧ Below w.heap.size w W.drew ∧ w.heap.size ≤ W.drew.heap.size :=
  ⟨h.1, h.2.1, h.2.2.1.drew, h.2.2.2⟩
theorem bsBelow {w W : World} {a b p q : Nat} {x y : Value} (h : W.cell? ⟨a, p, none⟩ = some x ∧ W.cell? ⟨b, q, none⟩ = some y ∧ Below w.heap.size w W ∧ w.heap.size ≤ W.heap.size) : Below w.heap.size w W := h.2.2.1
set_option maxHeartbeats 8000000 in
theorem rowsBeside (A B : Option Addr) (ga oa ca gb ob cb : Nat) (ls ms : List RT) (w : World) (hA : Rws w ga oa A ls) (hB : Rws w gb ob B ms) (hok : Ok2 ls) (hok2 : Ok2 ms) (hl3 : ls.length ≤ 300) (hm3 : ms.length ≤ 300) :
    Calls Tryz.prog 31 #[.slice A ls.length ca, .slice B ms.length cb] w (RetBag (ls.flatMap fun r => ms.map fun q => r ++ q) w) := by
  obtain ⟨i0, hinf, iz0, iz1, iz2⟩ := info_parts infoVS
  obtain ⟨j0, hjnf, jz0, jz1, jz2⟩ := info_parts infoVc
  have HA := Lib.hid hA
  have HBB := Lib.hid hB
  have HK := Lib.hid hok
  have HKB := Lib.hid hok2
  obtain ⟨lr, hlr⟩ : ∃ n, ls.length = n := ⟨_, rfl⟩
  obtain ⟨mr, hmr⟩ : ∃ n, ms.length = n := ⟨_, rfl⟩
  have HLR := Lib.hid hlr
  have HMR := Lib.hid hmr
  rw [hlr] at hl3
  rw [hmr] at hm3
  have HLIM : Hid (∀ k m (r : RT), k ≤ lr → ((ls.take k).flatMap (fun r => ms.map fun q => r ++ q) ++ (ms.take m).map fun q => r ++ q).length ≤ 90300) := fun k m r hk => by
    have h1 := flat_len (ls.take k) (fun r => ms.map fun q => r ++ q) 300 (fun r _ => by rw [List.length_map, hmr]; omega)
    have h2 : (ls.take k).length ≤ 300 := by rw [List.length_take]; omega
    have h3 : (ls.take k).length * 300 ≤ 300 * 300 := Nat.mul_le_mul h2 (Nat.le_refl _)
    rw [List.length_append, List.length_map, List.length_take]
    omega
  rw [hlr, hmr]
  have HLF : Hid ((ls.flatMap fun r => ms.map fun q => r ++ q) = (ls.take lr).flatMap (fun r => ms.map fun q => r ++ q)) := by show _ = _; rw [List.take_of_length_le (by omega)]
  obtain ⟨Z, hZ⟩ : ∃ Z, (ls.flatMap fun r => ms.map fun q => r ++ q) = Z := ⟨_, rfl⟩
  rw [hZ] at HLF ⊢
  clear hA hB hok hok2 hlr hmr hZ
  have BAG0 := Lib.hid (Bag.empty w)
  have HB0 := Lib.hid ((Below.refl w.heap.size w).alloc (Nat.le_refl _) (.cells #[] 50))
  go_enter Tryz.func31, Tryz.ntmps31
  go_wp2
  go_loopw [5, 6] (fun ox kx wr => ∃ (k g c : Nat) (T : List TT) (o : List RT), k ≤ lr ∧ kx = .int .i64 k ∧ ox = .slice (some ⟨g, 0, none⟩) o.length c ∧ Hid (o = (ls.take k).flatMap (fun r => ms.map fun q => r ++ q)) ∧ Hid (Bag wr w.heap.size g c T o) ∧ Hid (Below w.heap.size w wr)) (fun _ kx _ => lr - (intOf kx).toNat)
  case atStart => exact ⟨0, w.heap.size, 0, [], [], Nat.zero_le _, rfl, rfl, rfl, BAG0, HB0⟩
  case round =>
    clear BAG0 HB0
    obtain ⟨k, g, c, T, o, hk, rfl, rfl, HO, BAG, HB⟩ := hrel
    by_cases hlt : k < lr
    · have hlt2 : k < ls.length := by rw [HLR.out]; exact hlt
      have HSK := Lib.hid (List.take_succ_eq_append_getElem hlt2)
      have hlk := (HK.out.at k hlt2).1
      obtain ⟨rfl, hga, c', g', o', hca, hfa⟩ := HA.out.at k hlt2
      obtain ⟨K, hK⟩ : ∃ K, ls[k] = K := ⟨_, rfl⟩
      rw [hK] at HSK hlk hca hfa
      have HFA := Lib.hid hfa
      have CC := Lib.hid (fun W (hW : Below w.heap.size w W) => rowCopyW g' o' c' K W (hfa.below hW) hlk)
      obtain ⟨kl, hkl⟩ : ∃ n, K.length = n := ⟨_, rfl⟩
      have HKL := Lib.hid hkl
      rw [hkl] at hca hlk CC
      have i0' : (0 : Int) ≤ (k : Int) := by omega
      have i1' : (k : Int) < (lr : Int) := by omega
      have HHO := Lib.hid HO.out
      clear hK hfa hkl hlt2
      go_wp2
      go_loopw [5, 7] (fun ox mx wr => ∃ (m g c : Nat) (T : List TT) (o : List RT), m ≤ mr ∧ mx = .int .i64 m ∧ ox = .slice (some ⟨g, 0, none⟩) o.length c ∧ Hid (o = (ls.take k).flatMap (fun r => ms.map fun q => r ++ q) ++ (ms.take m).map fun q => K ++ q) ∧ Hid (Bag wr w.heap.size g c T o) ∧ Hid (Below w.heap.size w wr)) (fun _ mx _ => mr - (intOf mx).toNat)
      case atStart => exact ⟨0, g, c, T, o, Nat.zero_le _, rfl, rfl, by show _ = _; rw [HO.out]; simp, BAG, HB⟩
      case round =>
        clear HO BAG HB HHO
        obtain ⟨m, g, c, T, o, hm, rfl, rfl, HO, BAG, HB⟩ := hrel
        have hwz := HB.out.size
        by_cases hmt : m < mr
        · have hmt2 : m < ms.length := by rw [HMR.out]; exact hmt
          have HSM := Lib.hid (List.take_succ_eq_append_getElem hmt2)
          have hlm := (HKB.out.at m hmt2).1
          obtain ⟨rfl, hgb, c'', g'', o'', hcb, hfb⟩ := HBB.out.at m hmt2
          obtain ⟨M, hM⟩ : ∃ M, ms[m] = M := ⟨_, rfl⟩
          rw [hM] at HSM hlm hcb hfb
          have HFB := Lib.hid hfb
          have HFL := Lib.hid (flatV_len M)
          have ONEM := Lib.hid (one_flatV M)
          obtain ⟨ml, hml⟩ : ∃ n, M.length = n := ⟨_, rfl⟩
          have HML := Lib.hid hml
          rw [hml] at hcb hlm HFL
          have j0' : (0 : Int) ≤ (m : Int) := by omega
          have j1' : (m : Int) < (mr : Int) := by omega
          have holim := HLIM.out k m K (by omega)
          rw [← HO.out] at holim
          have HN : Hid (o ++ [K ++ M] = (ls.take k).flatMap (fun r => ms.map fun q => r ++ q) ++ (ms.take (m + 1)).map fun q => K ++ q) := by show _ = _; rw [HSM.out, List.map_append, ← List.append_assoc, ← HO.out]; rfl
          obtain ⟨ol, hol⟩ : ∃ n, o.length = n := ⟨_, rfl⟩
          have HOL := Lib.hid hol
          rw [hol] at holim
          rw [hol]
          have HHELD0 : (fun W : World => W.cell? ⟨ga, oa + k, none⟩ = some (.slice (some ⟨g', o', none⟩) kl c') ∧ W.cell? ⟨gb, ob + m, none⟩ = some (.slice (some ⟨g'', o'', none⟩) ml c'') ∧ Below w.heap.size w W ∧ w.heap.size ≤ W.heap.size) wr := ⟨(HB.out.cell (p := ⟨ga, oa + k, none⟩) hga).trans hca, (HB.out.cell (p := ⟨gb, ob + m, none⟩) hgb).trans hcb, HB.out, hwz⟩
          have HLN := Lib.hid (show (K ++ M).length = kl + ml by rw [List.length_append, HKL.out, HML.out])
          have hgo := BAG.out.lo
          clear hM hfb hml hol hmt2 HSM hca hcb HO
          go_wp2_with (fail)
          go_region_held_law (fun W : World => W.cell? ⟨ga, oa + k, none⟩ = some (.slice (some ⟨g', o', none⟩) kl c') ∧ W.cell? ⟨gb, ob + m, none⟩ = some (.slice (some ⟨g'', o'', none⟩) ml c'') ∧ Below w.heap.size w W ∧ w.heap.size ≤ W.heap.size) (first | exact bsKeep (by assumption) hga hgb hbq | exact bsDrew (by assumption) | exact bsAlloc (by assumption) hga hgb | assumption) (first
            | (go_at_call 22; (with_reducible refine (CC.out _ (bsBelow (by assumption))).mono ?_); rintro e w1 ⟨g9, c9, rfl, hown9, hb1⟩; go_loud (have OWN9 := Lib.hid hown9; have BAG1 := Lib.hid (BAG.out.drew.below hb1); have HB1 := Lib.hid hb1; have hbq := hb1.mono (show w.heap.size ≤ wr.drew.heap.size from hwz); have hg9 := hown9.lt g9 rfl; have hz1 := hb1.size; (try simp at hg9 hz1); clear hown9 hb1))
            | (refine step_blk rfl (.tmp 26) (.tmp 30) 50 rfl wr.heap.size 54 j0 (.agg #[.int .i64 0, .int .i64 0, .string ⟨#[]⟩]) 3 32 Tryz.underlying50 hjnf jz0 jz1 jz2 rfl (by decide) g9 kl c9 (flatV K) rfl OWN9.out _ ml _ (flatV M) rfl HFL.out (news_flo (HFB.out.below (bsBelow (by assumption)))) ONEM.out (by unfold maxLen; omega) (by omega) hz1 ?_; intro g5 c5 w5 hown hgr hgg; go_loud (have HR5 := Lib.hid (RowO.of_own (l := K ++ M) (by rw [HLN.out, flatV_app]; exact hown)); have BAG5 := Lib.hid (BAG1.out.keep hgr.size (hgr.block _ BAG1.out.lo.2 (fun e => by have := Option.some.inj e; omega)) (fun t ht => hgr.block _ (BAG1.out.rows t ht).hi (fun e => by have := Option.some.inj e; have := (BAG.out.rows t ht).hi; omega))); have HB5 := Lib.hid (show Below wr.heap.size wr.drew w5 from Below.grown HB1.out hgr hz1 (fun b hb => by obtain rfl := Option.some.inj hb; exact hg9.1)); have hbq : Below w.heap.size w1 w5 := Below.grown (Below.refl _ _) hgr (by omega) (fun b hb => by obtain rfl := Option.some.inj hb; omega); have hz5 := hgr.size; clear hown hgr hgg))
            | (refine step_blk rfl (.tmp 21) (.tmp 32) 27 rfl w.heap.size 50 i0 (.slice none 0 0) 1 24 Tryz.underlying27 hinf iz0 iz1 iz2 rfl (by decide) g ol c (T.map hdr) rfl (by have h := BAG5.out.own; rw [HOL.out] at h; exact h.alloc _) _ 1 1 [.slice (some ⟨g5, 0, none⟩) (kl + ml) c5] rfl rfl (news_new (by first | rfl | simp)) (by simp [Value.oneCell']) (by unfold maxLen; omega) (by omega) (by first | omega | (simp; done) | (simp; omega)) ?_; intro g3 c3 w3 hown hgr hgg; go_loud (have HNB := Lib.hid (Bag.push2 (t := (g5, c5, K ++ M)) BAG.out.drew HR5.out HB5.out (by rw [HOL.out]) (by rw [show hdr (g5, c5, K ++ M) = .slice (some ⟨g5, 0, none⟩) (kl + ml) c5 from by rw [← HLN.out]; rfl]; exact hown) hgr hgg); have hbq := Below.grown (Below.refl w.heap.size _) hgr (by first | omega | (simp; omega)) (fun b hb => by obtain rfl := Option.some.inj hb; exact hgo.1); clear hown hgr hgg)))
          have HBF := Lib.hid (bsBelow (by assumption))
          go_wp2
          exact ⟨⟨m + 1, g3, c3, _, o ++ [K ++ M], by omega, by go_num, by rw [List.length_append, HOL.out]; rfl, HN, HNB, HBF⟩, by simp [intOf]; omega⟩
        · obtain rfl : m = mr := by omega
          have HO2 : Hid (o = (ls.take (k + 1)).flatMap (fun r => ms.map fun q => r ++ q)) := by
            show _ = _
            rw [HSK.out, List.flatMap_append, HO.out, List.take_of_length_le (l := ms) (by rw [HMR.out]; exact Nat.le_refl _)]
            simp
          go_wp2
          exact ⟨⟨k + 1, g, c, T, o, by omega, by go_num, rfl, HO2, BAG, HB⟩, by simp [intOf]; omega⟩
    · obtain rfl : k = lr := by omega
      have HO2 : Hid (o = Z) := HO.out.trans HLF.out.symm
      obtain rfl := HO2.out
      go_wp2
      go_ret
      exact ⟨g, c, T, rfl, BAG.out, HB.out⟩
end Go.Proofs.YtacinjbaebimhaaGreat.Val
namespace Go.Proofs.YtacinjbaebimhaaGreat.Val
open Go.RowKit
set_option linter.unusedVariables false
set_option linter.unusedSimpArgs false
set_option maxRecDepth 8000
/-- Rows that lie, apart from a block. -/
def RetRws (X : Nat) (ls : List RT) (w : World) (e : Ending) (w' : World) : Prop := ∃ (A : Option Addr) (g o c : Nat), (e = .returned (.slice A ls.length c) ∧ RwsQ (· ≠ X) w' g o A ls ∧ Nice A c g o ∧ ls.length ≤ c) ∧ Below w.heap.size w w'
theorem rdKeep {w W W1 : World} {sb gA p q : Nat} {x1 x2 x3 x4 y1 y2 : Value} (h : W.cell? ⟨sb, 1, none⟩ = some x1 ∧ W.cell? ⟨sb, 2, none⟩ = some x2 ∧ W.cell? ⟨sb, 4, none⟩ = some x3 ∧ W.cell? ⟨sb, 5, none⟩ = some x4 ∧ W.cell? ⟨gA, p, none⟩ = some y1 ∧ W.cell? ⟨gA, q, none⟩ = some y2 ∧ Below w.heap.size w W ∧ w.heap.size ≤ W.heap.size) (hb : Below W.heap.size W W1) : W1.cell? ⟨sb, 1, none⟩ = some x1 ∧ W1.cell? ⟨sb, 2, none⟩ = some x2 ∧ W1.cell? ⟨sb, 4, none⟩ = some x3 ∧ W1.cell? ⟨sb, 5, none⟩ = some x4 ∧ W1.cell? ⟨gA, p, none⟩ = some y1 ∧ W1.cell? ⟨gA, q, none⟩ = some y2 ∧ Below w.heap.size w W1 ∧ w.heap.size ≤ W1.heap.size := by
  obtain ⟨h1, h2, h3, h4, h5, h6, h9, h10⟩ := h
  have hc := fun b q x (h : W.cell? ⟨b, q, none⟩ = some x) => (hb.cell (p := ⟨b, q, none⟩) (World.block_lt_of_cell? W ⟨b, q, none⟩ h)).trans h
  exact ⟨hc _ _ _ h1, hc _ _ _ h2, hc _ _ _ h3, hc _ _ _ h4, hc _ _ _ h5, hc _ _ _ h6, h9.trans (hb.mono h10), Nat.le_trans h10 hb.size⟩
theorem rdDrew {w W : World} {sb gA p q : Nat} {x1 x2 x3 x4 y1 y2 : Value} (h : W.cell? ⟨sb, 1, none⟩ = some x1 ∧ W.cell? ⟨sb, 2, none⟩ = some x2 ∧ W.cell? ⟨sb, 4, none⟩ = some x3 ∧ W.cell? ⟨sb, 5, none⟩ = some x4 ∧ W.cell? ⟨gA, p, none⟩ = some y1 ∧ W.cell? ⟨gA, q, none⟩ = some y2 ∧ Below w.heap.size w W ∧ w.heap.size ≤ W.heap.size) : W.drew.cell? ⟨sb, 1, none⟩ = some x1 ∧ W.drew.cell? ⟨sb, 2, none⟩ = some x2 ∧ W.drew.cell? ⟨sb, 4, none⟩ = some x3 ∧ W.drew.cell? ⟨sb, 5, none⟩ = some x4 ∧ W.drew.cell? ⟨gA, p, none⟩ = some y1 ∧ W.drew.cell? ⟨gA, q, none⟩ = some y2 ∧ Below w.heap.size w W.drew ∧ w.heap.size ≤ W.drew.heap.size := rdKeep h ((Below.refl _ _).drew)
theorem rdBelow {w W : World} {sb gA p q : Nat} {x1 x2 x3 x4 y1 y2 : Value} (h : W.cell? ⟨sb, 1, none⟩ = some x1 ∧ W.cell? ⟨sb, 2, none⟩ = some x2 ∧ W.cell? ⟨sb, 4, none⟩ = some x3 ∧ W.cell? ⟨sb, 5, none⟩ = some x4 ∧ W.cell? ⟨gA, p, none⟩ = some y1 ∧ W.cell? ⟨gA, q, none⟩ = some y2 ∧ Below w.heap.size w W ∧ w.heap.size ≤ W.heap.size) : Below w.heap.size w W := h.2.2.2.2.2.2.1
set_option maxHeartbeats 8000000 in
theorem srow_2 (AT AC AA : Option Addr) (nT cT gC oC cC gA oA cA X : Nat) (cs : List CT) (ev : List (List RT)) (i : Nat) (b : Int) (n : Int) (A1 A2 : Option Addr) (g1 o1 c1 g2 o2 c2 : Nat) (es : List PT) (ns : List Int) (w : World) (hC : Fl w gC oC AC (flatC cs)) (hlc : cs.length ≤ 4) (hA : R3Q (· ≠ X) w gA oA AA ev) (hXw : X < w.heap.size) (hE : Fl w g1 o1 A1 (flatP es)) (hN : Fl w g2 o2 A2 (ns.map iv)) (hs : OkS1 (2, (i : Int), b, n, es, ns)) (hi : i < ev.length) (hok : Ok2 ev[i]) (hk3 : kindI cs es = 3) (hft : ∀ r ∈ ev[i], fitB cs r = true) :
    Calls Tryz.prog 15 #[.slice AT nT cT, .slice AC cs.length cC, .slice AA ev.length cA, .agg #[.int .i64 2, .int .i64 (i : Int), .int .i64 b, .int .i64 n, .slice A1 es.length c1, .slice A2 ns.length c2]] w (RetRws X (ev[i].filter (yesR es)) w) := by
  obtain ⟨hs1, hs2, hs3⟩ := hs
  simp only at hs1 hs2 hs3
  obtain ⟨rfl, hg, B1, d1, h1, p1, ca, fa, na, la⟩ := hA.at i hi
  have q0 : (0 : Int) ≤ (i : Int) := by omega
  have q1 : (i : Int) < (ev.length : Int) := by omega
  obtain ⟨X1, hV⟩ : ∃ V, ev[i] = V := ⟨_, rfl⟩
  rw [hV] at ca fa la hok hft ⊢
  have CT := Lib.hid (fun W (hb : Below w.heap.size w W) (hX : X < W.heap.size) => rowsHeld AC B1 A1 gC oC cC h1 p1 d1 g1 o1 c1 X cs X1 es W (hC.below hb) (fa.below hb) (hE.below hb) hok (by omega) hs1 hs2 hX hk3 hft)
  unfold RetHd at CT
  obtain ⟨R, hR⟩ : ∃ R, (X1.filter (yesR es)) = R := ⟨_, rfl⟩
  rw [hR] at CT ⊢
  obtain ⟨rl, hrl⟩ : ∃ m, R.length = m := ⟨_, rfl⟩
  have HRL := Lib.hid hrl
  rw [hrl] at CT
  obtain ⟨x1, hx1⟩ : ∃ m, X1.length = m := ⟨_, rfl⟩
  rw [hx1] at ca CT
  obtain ⟨el, hel⟩ : ∃ m, es.length = m := ⟨_, rfl⟩
  obtain ⟨nl, hnl⟩ : ∃ m, ns.length = m := ⟨_, rfl⟩
  obtain ⟨cl, hcl⟩ : ∃ m, cs.length = m := ⟨_, rfl⟩
  rw [hel, hnl, hcl]
  rw [hel, hcl] at CT
  have hg1 : gA < w.heap.size + 1 := by omega
  clear hA hC hE hN fa na la hV hel hnl hcl hok hft hk3 hR hrl hx1
  have HB1 : Hid (Below w.heap.size w (w.alloc (.cells #[.int .i64 2, .int .i64 (i : Int), .int .i64 b, .int .i64 n, .slice A1 el c1, .slice A2 nl c2] 35))) := (Below.refl _ _).alloc (Nat.le_refl _) _
  have hHELD : (fun W : World => W.cell? ⟨w.heap.size, 1, none⟩ = some (.int .i64 (i : Int)) ∧ W.cell? ⟨w.heap.size, 2, none⟩ = some (.int .i64 b) ∧ W.cell? ⟨w.heap.size, 4, none⟩ = some (.slice A1 el c1) ∧ W.cell? ⟨w.heap.size, 5, none⟩ = some (.slice A2 nl c2) ∧ W.cell? ⟨gA, oA + i, none⟩ = some (.slice B1 x1 d1) ∧ W.cell? ⟨gA, oA + i, none⟩ = some (.slice B1 x1 d1) ∧ Below w.heap.size w W ∧ w.heap.size ≤ W.heap.size) (w.alloc (.cells #[.int .i64 2, .int .i64 (i : Int), .int .i64 b, .int .i64 n, .slice A1 el c1, .slice A2 nl c2] 35)) := ⟨cell_newX rfl, cell_newX rfl, cell_newX rfl, cell_newX rfl, (HB1.out.cell (p := ⟨gA, oA + i, none⟩) hg).trans ca, (HB1.out.cell (p := ⟨gA, oA + i, none⟩) hg).trans ca, HB1.out, by simp⟩
  go_enter Tryz.func15, Tryz.ntmps15
  go_wp2_with (fail)
  go_region_held_law (fun W : World => W.cell? ⟨w.heap.size, 1, none⟩ = some (.int .i64 (i : Int)) ∧ W.cell? ⟨w.heap.size, 2, none⟩ = some (.int .i64 b) ∧ W.cell? ⟨w.heap.size, 4, none⟩ = some (.slice A1 el c1) ∧ W.cell? ⟨w.heap.size, 5, none⟩ = some (.slice A2 nl c2) ∧ W.cell? ⟨gA, oA + i, none⟩ = some (.slice B1 x1 d1) ∧ W.cell? ⟨gA, oA + i, none⟩ = some (.slice B1 x1 d1) ∧ Below w.heap.size w W ∧ w.heap.size ≤ W.heap.size) (first | exact rdKeep (by assumption) hbq | exact rdDrew (by assumption) | assumption) ((go_at_call 29; (with_reducible refine (CT.out _ (rdBelow (by assumption)) (by simp; omega)).mono ?_); rintro e w2 ⟨g9, c9, D9, ⟨rfl, hhd⟩, hbq⟩; have HHD := Lib.hid hhd; have hlo9 := hhd.lo; (try simp at hlo9)))
  have HBL := Lib.hid (rdBelow (by assumption))
  go_wp2
  go_ret
  exact ⟨_, g9, 0, c9, ⟨by rw [HRL.out]; rfl, HHD.out.rwsQ (by omega) (fun _ h => h), .inl rfl, by have := (own_caps HHD.out.own).1; rw [HRL.out] at this ⊢; exact this⟩, HBL.out⟩
set_option maxHeartbeats 8000000 in
theorem srow_3 (AT AC AA : Option Addr) (nT cT gC oC cC gA oA cA X : Nat) (cs : List CT) (ev : List (List RT)) (i : Nat) (b : Int) (n : Int) (A1 A2 : Option Addr) (g1 o1 c1 g2 o2 c2 : Nat) (es : List PT) (ns : List Int) (w : World) (hC : Fl w gC oC AC (flatC cs)) (hlc : cs.length ≤ 4) (hA : R3Q (· ≠ X) w gA oA AA ev) (hXw : X < w.heap.size) (hE : Fl w g1 o1 A1 (flatP es)) (hN : Fl w g2 o2 A2 (ns.map iv)) (hs : OkS1 (3, (i : Int), b, n, es, ns)) (hi : i < ev.length) (hok : Ok2 ev[i]) (hin : ∀ r ∈ ev[i], ∀ t ∈ ns, inB t r.length = true) :
    Calls Tryz.prog 15 #[.slice AT nT cT, .slice AC cs.length cC, .slice AA ev.length cA, .agg #[.int .i64 3, .int .i64 (i : Int), .int .i64 b, .int .i64 n, .slice A1 es.length c1, .slice A2 ns.length c2]] w (RetRws X (ev[i].map fun r => ns.map fun t => r.getD t.toNat nilV) w) := by
  obtain ⟨hs1, hs2, hs3⟩ := hs
  simp only at hs1 hs2 hs3
  obtain ⟨rfl, hg, B1, d1, h1, p1, ca, fa, na, la⟩ := hA.at i hi
  have q0 : (0 : Int) ≤ (i : Int) := by omega
  have q1 : (i : Int) < (ev.length : Int) := by omega
  obtain ⟨X1, hV⟩ : ∃ V, ev[i] = V := ⟨_, rfl⟩
  rw [hV] at ca fa la hok hin ⊢
  have CT := Lib.hid (fun W (hb : Below w.heap.size w W) => rowsTaken B1 A2 h1 p1 d1 g2 o2 c2 X1 ns W (fa.rws.below hb) (hN.below hb) hok hs3 hin)
  unfold RetBag at CT
  obtain ⟨R, hR⟩ : ∃ R, (X1.map fun r => ns.map fun t => r.getD t.toNat nilV) = R := ⟨_, rfl⟩
  rw [hR] at CT ⊢
  obtain ⟨rl, hrl⟩ : ∃ m, R.length = m := ⟨_, rfl⟩
  have HRL := Lib.hid hrl
  rw [hrl] at CT
  obtain ⟨x1, hx1⟩ : ∃ m, X1.length = m := ⟨_, rfl⟩
  rw [hx1] at ca CT
  obtain ⟨el, hel⟩ : ∃ m, es.length = m := ⟨_, rfl⟩
  obtain ⟨nl, hnl⟩ : ∃ m, ns.length = m := ⟨_, rfl⟩
  obtain ⟨cl, hcl⟩ : ∃ m, cs.length = m := ⟨_, rfl⟩
  rw [hel, hnl, hcl]
  rw [hnl] at CT
  have hg1 : gA < w.heap.size + 1 := by omega
  clear hA hC hE hN fa na la hV hel hnl hcl hok hin hR hrl hx1
  have HB1 : Hid (Below w.heap.size w (w.alloc (.cells #[.int .i64 3, .int .i64 (i : Int), .int .i64 b, .int .i64 n, .slice A1 el c1, .slice A2 nl c2] 35))) := (Below.refl _ _).alloc (Nat.le_refl _) _
  have hHELD : (fun W : World => W.cell? ⟨w.heap.size, 1, none⟩ = some (.int .i64 (i : Int)) ∧ W.cell? ⟨w.heap.size, 2, none⟩ = some (.int .i64 b) ∧ W.cell? ⟨w.heap.size, 4, none⟩ = some (.slice A1 el c1) ∧ W.cell? ⟨w.heap.size, 5, none⟩ = some (.slice A2 nl c2) ∧ W.cell? ⟨gA, oA + i, none⟩ = some (.slice B1 x1 d1) ∧ W.cell? ⟨gA, oA + i, none⟩ = some (.slice B1 x1 d1) ∧ Below w.heap.size w W ∧ w.heap.size ≤ W.heap.size) (w.alloc (.cells #[.int .i64 3, .int .i64 (i : Int), .int .i64 b, .int .i64 n, .slice A1 el c1, .slice A2 nl c2] 35)) := ⟨cell_newX rfl, cell_newX rfl, cell_newX rfl, cell_newX rfl, (HB1.out.cell (p := ⟨gA, oA + i, none⟩) hg).trans ca, (HB1.out.cell (p := ⟨gA, oA + i, none⟩) hg).trans ca, HB1.out, by simp⟩
  go_enter Tryz.func15, Tryz.ntmps15
  go_wp2_with (fail)
  go_region_held_law (fun W : World => W.cell? ⟨w.heap.size, 1, none⟩ = some (.int .i64 (i : Int)) ∧ W.cell? ⟨w.heap.size, 2, none⟩ = some (.int .i64 b) ∧ W.cell? ⟨w.heap.size, 4, none⟩ = some (.slice A1 el c1) ∧ W.cell? ⟨w.heap.size, 5, none⟩ = some (.slice A2 nl c2) ∧ W.cell? ⟨gA, oA + i, none⟩ = some (.slice B1 x1 d1) ∧ W.cell? ⟨gA, oA + i, none⟩ = some (.slice B1 x1 d1) ∧ Below w.heap.size w W ∧ w.heap.size ≤ W.heap.size) (first | exact rdKeep (by assumption) hbq | exact rdDrew (by assumption) | assumption) ((go_at_call 30; (with_reducible refine (CT.out _ (rdBelow (by assumption))).mono ?_); rintro e w2 ⟨g9, c9, T9, rfl, hbg, hbq⟩; have HBG := Lib.hid hbg; have hlo9 := hbg.lo; (try simp at hlo9)))
  have HBL := Lib.hid (rdBelow (by assumption))
  go_wp2
  go_ret
  exact ⟨_, g9, 0, c9, ⟨by rw [HRL.out]; rfl, HBG.out.toQ (fun b hb => by (try simp at hb); omega), .inl rfl, by have := HBG.out.caps.1; rw [HRL.out] at this ⊢; exact this⟩, HBL.out⟩
set_option maxHeartbeats 8000000 in
theorem srow_4 (AT AC AA : Option Addr) (nT cT gC oC cC gA oA cA X : Nat) (cs : List CT) (ev : List (List RT)) (i j : Nat) (n : Int) (A1 A2 : Option Addr) (g1 o1 c1 g2 o2 c2 : Nat) (es : List PT) (ns : List Int) (w : World) (hC : Fl w gC oC AC (flatC cs)) (hlc : cs.length ≤ 4) (hA : R3Q (· ≠ X) w gA oA AA ev) (hXw : X < w.heap.size) (hE : Fl w g1 o1 A1 (flatP es)) (hN : Fl w g2 o2 A2 (ns.map iv)) (hs : OkS1 (4, (i : Int), (j : Int), n, es, ns)) (hi : i < ev.length) (hok : Ok2 ev[i]) (hj : j < ev.length) (hok2 : Ok2 ev[j]) (hk3 : kindI cs es = 3) (hft : ∀ r ∈ (ev[i].flatMap fun r => ev[j].map fun q => r ++ q), fitB cs r = true) (hl3 : ev[i].length ≤ 300) (hm3 : ev[j].length ≤ 300) :
    Calls Tryz.prog 15 #[.slice AT nT cT, .slice AC cs.length cC, .slice AA ev.length cA, .agg #[.int .i64 4, .int .i64 (i : Int), .int .i64 (j : Int), .int .i64 n, .slice A1 es.length c1, .slice A2 ns.length c2]] w (RetRws X ((ev[i].flatMap fun r => ev[j].map fun q => r ++ q).filter (yesR es)) w) := by
  obtain ⟨hs1, hs2, hs3⟩ := hs
  simp only at hs1 hs2 hs3
  obtain ⟨rfl, hg, B1, d1, h1, p1, ca, fa, na, la⟩ := hA.at i hi
  obtain ⟨-, -, B2, d2, h2, p2, cb, fb, nb, lb⟩ := hA.at j hj
  have q0 : (0 : Int) ≤ (i : Int) := by omega
  have q1 : (i : Int) < (ev.length : Int) := by omega
  have q2 : (0 : Int) ≤ (j : Int) := by omega
  have q3 : (j : Int) < (ev.length : Int) := by omega
  obtain ⟨X1, hV⟩ : ∃ V, ev[i] = V := ⟨_, rfl⟩
  rw [hV] at ca fa la hok hft hl3 ⊢
  obtain ⟨X2, hU⟩ : ∃ V, ev[j] = V := ⟨_, rfl⟩
  rw [hU] at cb fb lb hok2 hft hm3 ⊢
  have CJ := Lib.hid (fun W (hb : Below w.heap.size w W) => rowsBeside B1 B2 h1 p1 d1 h2 p2 d2 X1 X2 W (fa.rws.below hb) (fb.rws.below hb) hok hok2 hl3 hm3)
  have hfo : Ok2 (X1.flatMap fun r => X2.map fun q => r ++ q) := by
    refine ⟨Nat.le_trans (flat_len _ _ 300 fun r _ => by rw [List.length_map]; exact hm3) (by omega), fun r hr => ?_⟩
    have h9 := rowB_iff.1 (fitB_iff.1 (hft r hr)).2.1
    exact ⟨by omega, fun i hi => ok_size (h9.2 _ (List.getElem_mem _))⟩
  obtain ⟨XJ, hXJ⟩ : ∃ q, (X1.flatMap fun r => X2.map fun q => r ++ q) = q := ⟨_, rfl⟩
  rw [hXJ] at CJ hfo hft ⊢
  have CT := Lib.hid (fun W g c T (hbg : Bag W w.heap.size g c T XJ) (hb : Below w.heap.size w W) (hX : X < W.heap.size) => rowsHeld AC (some ⟨g, 0, none⟩) A1 gC oC cC g 0 c g1 o1 c1 X cs XJ es W (hC.below hb) (hbg.toQ (P := (· ≠ X)) (fun b hb => by omega)) (hE.below hb) hfo (by omega) hs1 hs2 hX hk3 hft)
  unfold RetBag at CJ
  unfold RetHd at CT
  obtain ⟨xj, hxj⟩ : ∃ q, XJ.length = q := ⟨_, rfl⟩
  rw [hxj] at CJ CT
  obtain ⟨R, hR⟩ : ∃ R, (XJ.filter (yesR es)) = R := ⟨_, rfl⟩
  rw [hR] at CT ⊢
  obtain ⟨rl, hrl⟩ : ∃ m, R.length = m := ⟨_, rfl⟩
  have HRL := Lib.hid hrl
  rw [hrl] at CT
  obtain ⟨x1, hx1⟩ : ∃ m, X1.length = m := ⟨_, rfl⟩
  rw [hx1] at ca CJ
  obtain ⟨x2, hx2⟩ : ∃ m, X2.length = m := ⟨_, rfl⟩
  rw [hx2] at cb CJ
  obtain ⟨el, hel⟩ : ∃ m, es.length = m := ⟨_, rfl⟩
  obtain ⟨nl, hnl⟩ : ∃ m, ns.length = m := ⟨_, rfl⟩
  obtain ⟨cl, hcl⟩ : ∃ m, cs.length = m := ⟨_, rfl⟩
  rw [hel, hnl, hcl]
  rw [hel, hcl] at CT
  have hg1 : gA < w.heap.size + 1 := by omega
  clear hA hC hE hN fa na la hV hel hnl hcl hok hft hk3 hR hrl hx1 hx2 fb nb lb hU hok2 hxj hXJ hfo hl3 hm3
  have HB1 : Hid (Below w.heap.size w (w.alloc (.cells #[.int .i64 4, .int .i64 (i : Int), .int .i64 (j : Int), .int .i64 n, .slice A1 el c1, .slice A2 nl c2] 35))) := (Below.refl _ _).alloc (Nat.le_refl _) _
  have hHELD : (fun W : World => W.cell? ⟨w.heap.size, 1, none⟩ = some (.int .i64 (i : Int)) ∧ W.cell? ⟨w.heap.size, 2, none⟩ = some (.int .i64 (j : Int)) ∧ W.cell? ⟨w.heap.size, 4, none⟩ = some (.slice A1 el c1) ∧ W.cell? ⟨w.heap.size, 5, none⟩ = some (.slice A2 nl c2) ∧ W.cell? ⟨gA, oA + i, none⟩ = some (.slice B1 x1 d1) ∧ W.cell? ⟨gA, oA + j, none⟩ = some (.slice B2 x2 d2) ∧ Below w.heap.size w W ∧ w.heap.size ≤ W.heap.size) (w.alloc (.cells #[.int .i64 4, .int .i64 (i : Int), .int .i64 (j : Int), .int .i64 n, .slice A1 el c1, .slice A2 nl c2] 35)) := ⟨cell_newX rfl, cell_newX rfl, cell_newX rfl, cell_newX rfl, (HB1.out.cell (p := ⟨gA, oA + i, none⟩) hg).trans ca, (HB1.out.cell (p := ⟨gA, oA + j, none⟩) hg).trans cb, HB1.out, by simp⟩
  go_enter Tryz.func15, Tryz.ntmps15
  go_wp2_with (fail)
  go_region_held_law (fun W : World => W.cell? ⟨w.heap.size, 1, none⟩ = some (.int .i64 (i : Int)) ∧ W.cell? ⟨w.heap.size, 2, none⟩ = some (.int .i64 (j : Int)) ∧ W.cell? ⟨w.heap.size, 4, none⟩ = some (.slice A1 el c1) ∧ W.cell? ⟨w.heap.size, 5, none⟩ = some (.slice A2 nl c2) ∧ W.cell? ⟨gA, oA + i, none⟩ = some (.slice B1 x1 d1) ∧ W.cell? ⟨gA, oA + j, none⟩ = some (.slice B2 x2 d2) ∧ Below w.heap.size w W ∧ w.heap.size ≤ W.heap.size) (first | exact rdKeep (by assumption) hbq | exact rdDrew (by assumption) | assumption) (first | (go_at_call 31; (with_reducible refine (CJ.out _ (rdBelow (by assumption))).mono ?_); rintro e wj ⟨gj, cj, Tj, rfl, hbj, hbq⟩; have HBJ := Lib.hid (hbj.lower (B' := w.heap.size) (by simp)); have hzj := hbq.size; (try simp at hzj); clear hbj) | (go_at_call 29; (with_reducible refine (CT.out _ _ _ _ HBJ.out (rdBelow (by assumption)) (by omega)).mono ?_); rintro e w2 ⟨g9, c9, D9, ⟨rfl, hhd⟩, hbq⟩; have HHD := Lib.hid hhd; have hlo9 := hhd.lo; (try simp at hlo9)))
  have HBL := Lib.hid (rdBelow (by assumption))
  go_wp2
  go_ret
  exact ⟨_, g9, 0, c9, ⟨by rw [HRL.out]; rfl, HHD.out.rwsQ (by omega) (fun _ h => h), .inl rfl, by have := (own_caps HHD.out.own).1; rw [HRL.out] at this ⊢; exact this⟩, HBL.out⟩
set_option maxHeartbeats 8000000 in
theorem srow_5 (AT AC AA : Option Addr) (nT cT gC oC cC gA oA cA X : Nat) (cs : List CT) (ev : List (List RT)) (i j : Nat) (n : Int) (A1 A2 : Option Addr) (g1 o1 c1 g2 o2 c2 : Nat) (es : List PT) (ns : List Int) (w : World) (hC : Fl w gC oC AC (flatC cs)) (hlc : cs.length ≤ 4) (hA : R3Q (· ≠ X) w gA oA AA ev) (hXw : X < w.heap.size) (hE : Fl w g1 o1 A1 (flatP es)) (hN : Fl w g2 o2 A2 (ns.map iv)) (hs : OkS1 (5, (i : Int), (j : Int), n, es, ns)) (hi : i < ev.length) (hok : Ok2 ev[i]) (hj : j < ev.length) (hok2 : Ok2 ev[j]) :
    Calls Tryz.prog 15 #[.slice AT nT cT, .slice AC cs.length cC, .slice AA ev.length cA, .agg #[.int .i64 5, .int .i64 (i : Int), .int .i64 (j : Int), .int .i64 n, .slice A1 es.length c1, .slice A2 ns.length c2]] w (RetRws X (ev[i] ++ ev[j]) w) := by
  obtain ⟨hs1, hs2, hs3⟩ := hs
  simp only at hs1 hs2 hs3
  obtain ⟨rfl, hg, B1, d1, h1, p1, ca, fa, na, la⟩ := hA.at i hi
  obtain ⟨-, -, B2, d2, h2, p2, cb, fb, nb, lb⟩ := hA.at j hj
  have q0 : (0 : Int) ≤ (i : Int) := by omega
  have q1 : (i : Int) < (ev.length : Int) := by omega
  have q2 : (0 : Int) ≤ (j : Int) := by omega
  have q3 : (j : Int) < (ev.length : Int) := by omega
  obtain ⟨X1, hV⟩ : ∃ V, ev[i] = V := ⟨_, rfl⟩
  rw [hV] at ca fa la hok ⊢
  obtain ⟨X2, hU⟩ : ∃ V, ev[j] = V := ⟨_, rfl⟩
  rw [hU] at cb fb lb hok2 ⊢
  obtain ⟨i0, hinf, iz0, iz1, iz2⟩ := info_parts infoVS
  obtain ⟨x1, hx1⟩ : ∃ m, X1.length = m := ⟨_, rfl⟩
  rw [hx1] at ca
  obtain ⟨x2, hx2⟩ : ∃ m, X2.length = m := ⟨_, rfl⟩
  rw [hx2] at cb
  obtain ⟨el, hel⟩ : ∃ m, es.length = m := ⟨_, rfl⟩
  obtain ⟨nl, hnl⟩ : ∃ m, ns.length = m := ⟨_, rfl⟩
  obtain ⟨cl, hcl⟩ : ∃ m, cs.length = m := ⟨_, rfl⟩
  rw [hel, hnl, hcl]
  have hg1 : gA < w.heap.size + 1 := by omega
  obtain ⟨DA, hDA, hDAl, hDAf, hDAt⟩ := fa.hds
  obtain ⟨DB, hDB, hDBl, hDBf, hDBt⟩ := fb.hds
  have HDA := Lib.hid hDAf
  have HDB := Lib.hid hDBf
  have HTA : Hid (∀ d ∈ DA, HdAt (fun k => k < w.heap.size ∧ k ≠ X) w d) := fun d hd => ⟨(hDAt d hd).fl, fun h0 => ⟨(hDAt d hd).fl.lt h0, (hDAt d hd).q h0⟩⟩
  have HTB : Hid (∀ d ∈ DB, HdAt (fun k => k < w.heap.size ∧ k ≠ X) w d) := fun d hd => ⟨(hDBt d hd).fl, fun h0 => ⟨(hDBt d hd).fl.lt h0, (hDBt d hd).q h0⟩⟩
  have ONA := Lib.hid (one_hdH DA)
  have ONB := Lib.hid (one_hdH DB)
  have HLA := Lib.hid (show (DA.map hdH).length = x1 * 1 by rw [List.length_map, hDAl, hx1]; omega)
  have HLB := Lib.hid (show (DB.map hdH).length = x2 * 1 by rw [List.length_map, hDBl, hx2]; omega)
  have HEA := Lib.hid hDA
  have HEB := Lib.hid hDB
  have HNA := Lib.hid na
  have HNB := Lib.hid nb
  have HXL := Lib.hid (show (X1 ++ X2).length = x1 + x2 by rw [List.length_append, hx1, hx2])
  have HX1 := Lib.hid hx1
  have hk1 := hok.1
  have hk2 := hok2.1
  rw [hx1] at hk1 la
  rw [hx2] at hk2 lb
  have hDL := Lib.hid (show DB.length = x2 by rw [hDBl, hx2])
  have hDM := Lib.hid (show DA.length = x1 by rw [hDAl, hx1])
  clear hA hC hE hN fa fb na nb hV hU hel hnl hcl hok hok2 hDA hDB hDAl hDBl hDAf hDBf hDAt hDBt hx1 hx2
  have HB1 : Hid (Below w.heap.size w (w.alloc (.cells #[.int .i64 5, .int .i64 (i : Int), .int .i64 (j : Int), .int .i64 n, .slice A1 el c1, .slice A2 nl c2] 35))) := (Below.refl _ _).alloc (Nat.le_refl _) _
  have HD0 := Lib.hid (HdO.empty (· ≠ X) (w.alloc (.cells #[.int .i64 5, .int .i64 (i : Int), .int .i64 (j : Int), .int .i64 n, .slice A1 el c1, .slice A2 nl c2] 35)) (B := w.heap.size + 1) (by simp))
  go_enter Tryz.func15, Tryz.ntmps15
  go_wp2_with (first
    | (at_builtin; go_loud (refine wpList_append_nice _ rfl (.tmp 60) (.tmp 65) 27 rfl (w.heap.size + 1) 50 i0 (.slice none 0 0) 1 24 Tryz.underlying27 hinf iz0 iz1 iz2 rfl (by decide) (w.heap.size + 1) 0 0 [] rfl (by have h := HD0.out.own; (try simp only [World.size_alloc] at h); exact h) B1 x1 d1 h1 p1 HNA.out la (DA.map hdH) rfl HLA.out ((HDA.out.alloc _).alloc _) ONA.out (by unfold maxLen; omega) (by omega) (by first | omega | (simp; done) | (simp; omega)) ?_); intro g3 c3 w3 hown hgr hgg; go_loud (have HS3 : Below w.heap.size w ((w.alloc (.cells #[.int .i64 5, .int .i64 (i : Int), .int .i64 (j : Int), .int .i64 n, .slice A1 el c1, .slice A2 nl c2] 35)).alloc (.cells #[] 50)) := HB1.out.alloc HB1.out.size _); go_loud (have HD3 := Lib.hid (HdO.app (D2 := DA) HD0.out (fun d hd => ((HTA.out d hd).move (Same.below HS3) (fun b hb h => ⟨by have := h.1; (try simp); omega, h.2⟩))) (n := 0 + x1) (by rw [hDM.out]; rfl) (by exact hown) (by have h := hgr; (try simp only [World.size_alloc] at h ⊢); exact h) (by have h := hgg; (try simp only [World.size_alloc] at h ⊢); exact h))); go_loud (rw [List.nil_append, List.nil_append, HEA.out] at HD3); go_loud (have HB3 := Lib.hid (Below.grown HS3 hgr (by first | omega | (simp; done) | (simp; omega)) (fun b hb => by obtain rfl := Option.some.inj hb; omega))); go_loud (have q5 := (cellOf (hgr.block w.heap.size (by (try simp); omega) (fun e => by have := Option.some.inj e; omega))).trans (show ((w.alloc (.cells #[.int .i64 5, .int .i64 (i : Int), .int .i64 (j : Int), .int .i64 n, .slice A1 el c1, .slice A2 nl c2] 35)).alloc (.cells #[] 50)).cell? ⟨w.heap.size, 2, none⟩ = some (.int .i64 (j : Int)) from by simp [go_sem])); go_loud (have cb3 := (HB3.out.cell (p := ⟨gA, oA + j, none⟩) hg).trans cb; have hz3 := HB3.out.size; have hlo3 := HD3.out.lo; clear hown hgr hgg))
    | (at_builtin; go_loud (refine wpList_append_nice _ rfl (.tmp 67) (.tmp 72) 27 rfl (w.heap.size + 1) 50 i0 (.slice none 0 0) 1 24 Tryz.underlying27 hinf iz0 iz1 iz2 rfl (by decide) g3 x1 c3 (DA.map hdH) rfl (by have h := HD3.out.own; rw [HX1.out] at h; exact h) B2 x2 d2 h2 p2 HNB.out lb (DB.map hdH) rfl HLB.out (HDB.out.below HB3.out) ONB.out (by unfold maxLen; omega) (by omega) (by first | omega | (simp; done) | (simp; omega)) ?_); intro g4 c4 w4 hown hgr hgg; go_loud (have HD4 := Lib.hid (HdO.app (D2 := DB) HD3.out (fun d hd => ((HTB.out d hd).move (Same.below HB3.out) (fun b _ h => ⟨by have := h.1; omega, h.2⟩))) (n := x1 + x2) (by rw [hDL.out, HX1.out]) hown hgr hgg); rw [HEB.out] at HD4; have HB4 := Lib.hid (Below.grown HB3.out hgr hz3 (fun b hb => by obtain rfl := Option.some.inj hb; omega)); clear hown hgr hgg)))
  go_ret
  exact ⟨_, g4, 0, c4, ⟨by rw [HXL.out]; rfl, HD4.out.rwsQ (by have := HD4.out.lo; omega) (fun _ h => h), .inl rfl, by have := (own_caps HD4.out.own).1; rw [HXL.out] at this ⊢; exact this⟩, HB4.out⟩
set_option maxHeartbeats 8000000 in
theorem srow_6 (AT AC AA : Option Addr) (nT cT gC oC cC gA oA cA X : Nat) (cs : List CT) (ev : List (List RT)) (i : Nat) (b : Int) (n : Int) (A1 A2 : Option Addr) (g1 o1 c1 g2 o2 c2 : Nat) (es : List PT) (ns : List Int) (w : World) (hC : Fl w gC oC AC (flatC cs)) (hlc : cs.length ≤ 4) (hA : R3Q (· ≠ X) w gA oA AA ev) (hXw : X < w.heap.size) (hE : Fl w g1 o1 A1 (flatP es)) (hN : Fl w g2 o2 A2 (ns.map iv)) (hs : OkS1 (6, (i : Int), b, n, es, ns)) (hi : i < ev.length) (hok : Ok2 ev[i]) :
    Calls Tryz.prog 15 #[.slice AT nT cT, .slice AC cs.length cC, .slice AA ev.length cA, .agg #[.int .i64 6, .int .i64 (i : Int), .int .i64 b, .int .i64 n, .slice A1 es.length c1, .slice A2 ns.length c2]] w (RetRws X (onceI ev[i]) w) := by
  obtain ⟨hs1, hs2, hs3⟩ := hs
  simp only at hs1 hs2 hs3
  obtain ⟨rfl, hg, B1, d1, h1, p1, ca, fa, na, la⟩ := hA.at i hi
  have q0 : (0 : Int) ≤ (i : Int) := by omega
  have q1 : (i : Int) < (ev.length : Int) := by omega
  obtain ⟨X1, hV⟩ : ∃ V, ev[i] = V := ⟨_, rfl⟩
  rw [hV] at ca fa la hok ⊢
  have CT := Lib.hid (fun W (hb : Below w.heap.size w W) => rowsOnceI B1 h1 p1 d1 X1 W (fa.rws.below hb) hok)
  unfold RetBag at CT
  obtain ⟨R, hR⟩ : ∃ R, (onceI X1) = R := ⟨_, rfl⟩
  rw [hR] at CT ⊢
  obtain ⟨rl, hrl⟩ : ∃ m, R.length = m := ⟨_, rfl⟩
  have HRL := Lib.hid hrl
  rw [hrl] at CT
  obtain ⟨x1, hx1⟩ : ∃ m, X1.length = m := ⟨_, rfl⟩
  rw [hx1] at ca CT
  obtain ⟨el, hel⟩ : ∃ m, es.length = m := ⟨_, rfl⟩
  obtain ⟨nl, hnl⟩ : ∃ m, ns.length = m := ⟨_, rfl⟩
  obtain ⟨cl, hcl⟩ : ∃ m, cs.length = m := ⟨_, rfl⟩
  rw [hel, hnl, hcl]
  have hg1 : gA < w.heap.size + 1 := by omega
  clear hA hC hE hN fa na la hV hel hnl hcl hok hR hrl hx1
  go_enter Tryz.func15, Tryz.ntmps15
  go_wp2_with (go_at_call 10; (with_reducible refine (CT.out _ ((Below.refl _ _).alloc (Nat.le_refl _) _)).mono ?_); rintro e w2 ⟨g9, c9, T9, rfl, hbg, hbq⟩; have HBG := Lib.hid hbg; have hlo9 := hbg.lo; (try simp at hlo9); have HBL := Lib.hid (((Below.refl w.heap.size w).alloc (Nat.le_refl _) _).trans (hbq.mono (by simp))); clear hbg hbq)
  go_ret
  exact ⟨_, g9, 0, c9, ⟨by rw [HRL.out]; rfl, HBG.out.toQ (fun b hb => by (try simp at hb); omega), .inl rfl, by have := HBG.out.caps.1; rw [HRL.out] at this ⊢; exact this⟩, HBL.out⟩
end Go.Proofs.YtacinjbaebimhaaGreat.Val
namespace Go.Proofs.YtacinjbaebimhaaGreat.Val
open Go.RowKit
set_option linter.unusedVariables false
set_option linter.unusedSimpArgs false
set_option maxRecDepth 8000
set_option maxHeartbeats 2000000 in
theorem srow_1 (AT AC AA : Option Addr) (gT oT cT nC cC nA cA X : Nat) (tb : List TB) (a b : Int) (n : Nat) (A1 A2 : Option Addr) (el c1 nl c2 : Nat) (w : World) (hT : TbQ (· ≠ X) w gT oT AT tb) (hn : n < tb.length) :
    Calls Tryz.prog 15 #[.slice AT tb.length cT, .slice AC nC cC, .slice AA nA cA, .agg #[.int .i64 1, .int .i64 a, .int .i64 b, .int .i64 (n : Int), .slice A1 el c1, .slice A2 nl c2]] w (RetRws X tb[n].2 w) := by
  obtain ⟨rfl, hg, -, -, -, -, B1, d1, h1, p1, -, ca, -, fa, -, la, -, na⟩ := hT.at n hn
  have q0 : (0 : Int) ≤ (n : Int) := by omega
  have q1 : (n : Int) < (tb.length : Int) := by omega
  obtain ⟨X1, hV⟩ : ∃ V, tb[n].2 = V := ⟨_, rfl⟩
  rw [hV] at ca fa la ⊢
  have HFA := Lib.hid fa
  have HNA := Lib.hid na
  obtain ⟨x1, hx1⟩ : ∃ m, X1.length = m := ⟨_, rfl⟩
  have HX1 := Lib.hid hx1
  rw [hx1] at ca la
  have hg1 : gT < w.heap.size + 1 := by omega
  clear hT fa na hV hx1
  go_enter Tryz.func15, Tryz.ntmps15
  go_wp2
  go_ret
  exact ⟨B1, h1, p1, d1, ⟨by rw [HX1.out]; rfl, HFA.out.alloc _, HNA.out, by rw [HX1.out]; exact la⟩, (Below.refl _ _).alloc (Nat.le_refl _) _⟩
theorem join_rows (es : List PT) (ls ms : List RT) : (ls.flatMap fun r => ms.map fun q => r ++ q).filter (yesR es) = ls.flatMap (besideI es ms) := by
  induction ls with
  | nil => rfl
  | cons r ls ih => rw [List.flatMap_cons, List.filter_append, ih, List.flatMap_cons]; rfl
theorem stepRows (AT AC AA : Option Addr) (gT oT cT gC oC cC gA oA cA X : Nat) (tb : List TB) (ev : List (List RT)) (cl : List (List CT)) (s : SP) (c : List CT) (A1 A2 : Option Addr) (g1 o1 c1 g2 o2 c2 : Nat) (w : World) (hT : TbQ (· ≠ X) w gT oT AT tb) (hC : Fl w gC oC AC (flatC c)) (hlc : c.length ≤ 4) (hA : R3Q (· ≠ X) w gA oA AA ev) (hXw : X < w.heap.size) (hln : cl.length = ev.length)
    (he : ∀ j, j < ev.length → rowsB (cl.getD j []) (ev.getD j []) = true ∧ (ev.getD j []).length ≤ 300) (hc : colS tb cl s = some c) (hE : Fl w g1 o1 A1 (flatP s.2.2.2.2.1)) (hN : Fl w g2 o2 A2 (s.2.2.2.2.2.map iv)) (hs : OkS1 s) :
    Calls Tryz.prog 15 #[.slice AT tb.length cT, .slice AC c.length cC, .slice AA ev.length cA, aggS s A1 c1 A2 c2] w (RetRws X (rowS tb ev s) w) := by
  have hin := colS_in hc
  have hrf := colS_refs hc
  obtain ⟨k, a, b, n, es, ns⟩ := s
  have hs9 := hs
  obtain ⟨l1, l2, l3⟩ := hs
  simp only at hE hN l1 l2 l3 hin hrf
  have hcol : colS tb cl (k, a, b, n, es, ns) = if fieldsN k a b n es.length ns.length = false then none else if k = 1 then (if inB n tb.length = true then some (tb.getD n.toNat ([], [])).1 else none) else if inB a cl.length = false ∨ inB b cl.length = false then none
      else if k = 2 then (if kindI (cl.getD a.toNat []) es = 3 then some (cl.getD a.toNat []) else none) else if k = 3 then takeC (cl.getD a.toNat []) ns else if k = 4 then joinC (cl.getD a.toNat []) (cl.getD b.toNat []) es else if k = 5 then bothC (cl.getD a.toNat []) (cl.getD b.toNat []) else if k = 6 then some (cl.getD a.toNat []) else none := rfl
  rw [hcol] at hc
  clear hcol
  have hrow : rowS tb ev (k, a, b, n, es, ns) = if k = 1 then (tb.getD n.toNat ([], [])).2 else if k = 2 then (ev.getD a.toNat []).filter (yesR es) else if k = 3 then (ev.getD a.toNat []).map fun r => ns.map fun t => r.getD t.toNat nilV
      else if k = 4 then (ev.getD a.toNat []).flatMap (besideI es (ev.getD b.toNat [])) else if k = 5 then ev.getD a.toNat [] ++ ev.getD b.toNat [] else if k = 6 then onceI (ev.getD a.toNat []) else [] := rfl
  show Calls Tryz.prog 15 #[.slice AT tb.length cT, .slice AC c.length cC, .slice AA ev.length cA, .agg #[.int .i64 k, .int .i64 a, .int .i64 b, .int .i64 n, .slice A1 es.length c1, .slice A2 ns.length c2]] w (RetRws X (rowS tb ev (k, a, b, n, es, ns)) w)
  rw [hrow]
  clear hrow
  by_cases hf : fieldsN k a b n es.length ns.length = false
  · rw [if_pos hf] at hc; cases hc
  rw [if_neg hf] at hc
  by_cases k1 : k = 1
  · rw [if_pos k1]
    obtain ⟨m, rfl, hm⟩ := inB_nat (hrf.1 k1)
    subst k1
    rw [Int.toNat_natCast, getD_lt hm]
    exact srow_1 AT AC AA gT oT cT c.length cC ev.length cA X tb a b m A1 A2 es.length c1 ns.length c2 w hT hm
  rw [if_neg k1] at hc
  rw [if_neg k1]
  obtain ⟨ha, hb⟩ := hin k1
  rw [if_neg (by rintro (h | h)
                 · rw [ha] at h; cases h
                 · rw [hb] at h; cases h)] at hc
  rw [hln] at ha hb
  obtain ⟨i, rfl, hi⟩ := inB_nat ha
  obtain ⟨j, rfl, hj⟩ := inB_nat hb
  obtain ⟨fa, la⟩ := he i hi
  obtain ⟨fb, lb⟩ := he j hj
  simp only [Int.toNat_natCast] at hc ⊢
  rw [getD_lt hi] at fa la ⊢
  rw [getD_lt hj] at fb lb ⊢
  have oa := ok2_of fa (by omega)
  have ob := ok2_of fb (by omega)
  by_cases k2 : k = 2
  · rw [if_pos k2] at hc
    rw [if_pos k2]
    subst k2
    split at hc
    · rename_i hk
      obtain rfl := Option.some.inj hc
      exact srow_2 AT AC AA tb.length cT gC oC cC gA oA cA X _ ev i j n A1 A2 g1 o1 c1 g2 o2 c2 es ns w hC hlc hA hXw hE hN hs9 hi oa hk (fits_all fa)
    · cases hc
  rw [if_neg k2] at hc
  rw [if_neg k2]
  by_cases k3 : k = 3
  · rw [if_pos k3] at hc
    rw [if_pos k3]
    subst k3
    refine srow_3 AT AC AA tb.length cT gC oC cC gA oA cA X c ev i j n A1 A2 g1 o1 c1 g2 o2 c2 es ns w hC hlc hA hXw hE hN hs9 hi oa ?_
    unfold takeC at hc
    split at hc
    · rename_i h2
      have h3 := List.all_eq_true.1 h2.1
      intro r hr t ht
      have h4 := (fitB_iff.1 (fits_all fa r hr)).2.2.1
      rw [h4]
      exact h3 t ht
    · cases hc
  rw [if_neg k3] at hc
  rw [if_neg k3]
  by_cases k4 : k = 4
  · rw [if_pos k4] at hc
    rw [if_pos k4]
    subst k4
    unfold joinC at hc
    split at hc
    · rename_i h2
      obtain rfl := Option.some.inj hc
      rw [← join_rows]
      refine srow_4 AT AC AA tb.length cT gC oC cC gA oA cA X _ ev i j n A1 A2 g1 o1 c1 g2 o2 c2 es ns w hC hlc hA hXw hE hN hs9 hi oa hj ob h2.2 ?_ la lb
      intro r hr
      obtain ⟨x, hx, hr⟩ := List.mem_flatMap.1 hr
      obtain ⟨y, hy, rfl⟩ := List.mem_map.1 hr
      exact fit_join (fits_all fa x hx) (fits_all fb y hy) h2.1
    · cases hc
  rw [if_neg k4] at hc
  rw [if_neg k4]
  by_cases k5 : k = 5
  · rw [if_pos k5]
    subst k5
    exact srow_5 AT AC AA tb.length cT gC oC cC gA oA cA X c ev i j n A1 A2 g1 o1 c1 g2 o2 c2 es ns w hC hlc hA hXw hE hN hs9 hi oa hj ob
  rw [if_neg k5] at hc
  rw [if_neg k5]
  by_cases k6 : k = 6
  · rw [if_pos k6]
    subst k6
    exact srow_6 AT AC AA tb.length cT gC oC cC gA oA cA X c ev i j n A1 A2 g1 o1 c1 g2 o2 c2 es ns w hC hlc hA hXw hE hN hs9 hi oa
  · rw [if_neg k6] at hc; cases hc
end Go.Proofs.YtacinjbaebimhaaGreat.Val
namespace Go.Proofs.YtacinjbaebimhaaGreat.Val
open Go.RowKit
set_option linter.unusedVariables false
set_option linter.unusedSimpArgs false
set_option maxRecDepth 8000
theorem allF_more {tb : List TB} {q : List SP} : ∀ {st st' : List (List CT) × List Nat}, allF tb q st = some st' → ∃ e, st'.1 = st.1 ++ e := by
  induction q with
  | nil => intro st st' h; obtain rfl := Option.some.inj h; exact ⟨[], by simp⟩
  | cons s q ih =>
    intro st st' h
    unfold allF at h
    rcases hs : stepS tb st s with _ | s1
    · rw [hs] at h; cases h
    · rw [hs, Option.bind_some] at h
      obtain ⟨c, -, -, rfl⟩ := stepS_some hs
      obtain ⟨e, he⟩ := ih h
      exact ⟨[c] ++ e, by rw [he]; simp⟩
theorem step_cols {tb : List TB} {p : List SP} {L : List MT} (ht : tablesB tb = true) (h : allI tb p = some (L.map fun x => x.1, L.map fun x => x.2)) (k : Nat) (hk : k < p.length) : ∃ (cl : List (List CT)) (hl : k < L.length), cl.length = (everyI tb (p.take k)).length ∧ colS tb cl p[k] = some L[k].1 ∧ ∀ j, j < (everyI tb (p.take k)).length → rowsB (cl.getD j []) ((everyI tb (p.take k)).getD j []) = true ∧ ((everyI tb (p.take k)).getD j []).length ≤ 300 := by
  obtain ⟨l1, -⟩ := allI_len h
  simp only [List.length_map] at l1
  have h1 := allI_pre (tb := tb) (p := p) (by rw [h]; rfl) (k + 1)
  obtain ⟨s1, hs1⟩ := Option.isSome_iff_exists.1 h1
  have h2 : allI tb p = (allI tb (p.take (k + 1))).bind (allF tb (p.drop (k + 1))) := by
    conv => lhs; rw [← List.take_append_drop (k + 1) p]
    rw [allI, allF_app]; rfl
  rw [h, hs1, Option.bind_some] at h2
  obtain ⟨e, he⟩ := allF_more h2.symm
  rw [allI_take tb p k hk] at hs1
  rcases hq : allI tb (p.take k) with _ | s0
  · rw [hq] at hs1; cases hs1
  · rw [hq, Option.bind_some] at hs1
    obtain ⟨c, hc, -, rfl⟩ := stepS_some hs1
    have hl0 := (allI_len hq).1
    rw [List.length_take, Nat.min_eq_left (by omega)] at hl0
    have hl : (everyI tb (p.take k)).length = k := by rw [everyI_len, List.length_take]; omega
    refine ⟨s0.1, by omega, by omega, ?_, fun j hj => ?_⟩
    · have hx : (L.map fun x => x.1)[k]? = some c := by
        simp only at he
        rw [he, List.getElem?_append_left (by simp; omega), List.getElem?_append_right (by omega), hl0, Nat.sub_self]; rfl
      rw [List.getElem?_map, List.getElem?_eq_getElem (by omega)] at hx
      rw [hc]
      exact hx.symm
    · have h3 := every_fits ht hq j (by rw [List.length_take]; omega)
      exact ⟨h3.1, by omega⟩
/-- What the loads of a round read. -/
theorem rnKeep {w W W1 : World} {gl q gP p : Nat} {y x0 x1 x2 x3 x4 x5 : Value} (h : W.cell? ⟨gl, q, none⟩ = some y ∧ W.cell? ⟨gP, p, none⟩ = some x0 ∧ W.cell? ⟨gP, p + 1, none⟩ = some x1 ∧ W.cell? ⟨gP, p + 2, none⟩ = some x2 ∧ W.cell? ⟨gP, p + 3, none⟩ = some x3 ∧ W.cell? ⟨gP, p + 4, none⟩ = some x4 ∧ W.cell? ⟨gP, p + 5, none⟩ = some x5 ∧ Below w.heap.size w W ∧ w.heap.size ≤ W.heap.size) (hl : gl < w.heap.size) (hP : gP < w.heap.size) (hq : Below w.heap.size W W1) : W1.cell? ⟨gl, q, none⟩ = some y ∧ W1.cell? ⟨gP, p, none⟩ = some x0 ∧ W1.cell? ⟨gP, p + 1, none⟩ = some x1 ∧ W1.cell? ⟨gP, p + 2, none⟩ = some x2 ∧ W1.cell? ⟨gP, p + 3, none⟩ = some x3 ∧ W1.cell? ⟨gP, p + 4, none⟩ = some x4 ∧ W1.cell? ⟨gP, p + 5, none⟩ = some x5 ∧ Below w.heap.size w W1 ∧ w.heap.size ≤ W1.heap.size := by
  obtain ⟨h0, h1, h2, h3, h4, h5, h6, h7, h8⟩ := h
  have hc := fun b q x (hb : b < w.heap.size) (h : W.cell? ⟨b, q, none⟩ = some x) => (hq.cell (p := ⟨b, q, none⟩) hb).trans h
  exact ⟨hc _ _ _ hl h0, hc _ _ _ hP h1, hc _ _ _ hP h2, hc _ _ _ hP h3, hc _ _ _ hP h4, hc _ _ _ hP h5, hc _ _ _ hP h6, h7.trans hq, Nat.le_trans h8 hq.size⟩
theorem rnSize {w W : World} {gl q gP p : Nat} {y x0 x1 x2 x3 x4 x5 : Value} (h : W.cell? ⟨gl, q, none⟩ = some y ∧ W.cell? ⟨gP, p, none⟩ = some x0 ∧ W.cell? ⟨gP, p + 1, none⟩ = some x1 ∧ W.cell? ⟨gP, p + 2, none⟩ = some x2 ∧ W.cell? ⟨gP, p + 3, none⟩ = some x3 ∧ W.cell? ⟨gP, p + 4, none⟩ = some x4 ∧ W.cell? ⟨gP, p + 5, none⟩ = some x5 ∧ Below w.heap.size w W ∧ w.heap.size ≤ W.heap.size) : w.heap.size ≤ W.heap.size := h.2.2.2.2.2.2.2.2
theorem rnBelow {w W : World} {gl q gP p : Nat} {y x0 x1 x2 x3 x4 x5 : Value} (h : W.cell? ⟨gl, q, none⟩ = some y ∧ W.cell? ⟨gP, p, none⟩ = some x0 ∧ W.cell? ⟨gP, p + 1, none⟩ = some x1 ∧ W.cell? ⟨gP, p + 2, none⟩ = some x2 ∧ W.cell? ⟨gP, p + 3, none⟩ = some x3 ∧ W.cell? ⟨gP, p + 4, none⟩ = some x4 ∧ W.cell? ⟨gP, p + 5, none⟩ = some x5 ∧ Below w.heap.size w W ∧ w.heap.size ≤ W.heap.size) : Below w.heap.size w W := h.2.2.2.2.2.2.2.1
/-- Rows of one's own, or nil. -/
def RetBagN (ls : List RT) (w : World) (e : Ending) (w' : World) : Prop := ((∃ (g c : Nat) (T : List TT), e = .returned (.slice (some ⟨g, 0, none⟩) ls.length c) ∧ Bag w' w.heap.size g c T ls) ∨ (e = .returned (.slice none 0 0) ∧ ls = [])) ∧ Below w.heap.size w w'
set_option maxHeartbeats 4000000 in
theorem planRowsI (AT AP : Option Addr) (gT oT cT gP oP cP : Nat) (tb : List TB) (p : List SP) (w : World) (hT : Tbs w gT oT AT tb) (hok : OkT tb) (hP : Sps w gP oP AP p) (hps : OkS p) :
    Calls Tryz.prog 5 #[.slice AT tb.length cT, .slice AP p.length cP] w (RetBagN (prowsI tb p) w) := by
  obtain ⟨i0, hi, iz0, iz1, iz2⟩ := info_parts infoVSS
  have CM := Lib.hid (planMade AT AP gT oT cT gP oP cP tb p w hT hok hP hps)
  unfold RetPlan at CM
  cases hpb : planB tb p with
  | false =>
    have hz : prowsI tb p = [] := by rw [prowsI, hpb]; rfl
    rw [hz]
    rw [hpb] at CM
    clear hT hok hP hps hpb hz
    go_enter Tryz.func5, Tryz.ntmps5
    go_wp2_with (go_at_call 14; (with_reducible refine CM.out.mono ?_); rintro e w1 ⟨A, g, c, L, ⟨rfl, -, -, hn, -⟩, hb1⟩; go_loud (have HB := Lib.hid hb1; obtain rfl := hn rfl; clear hb1 hn))
    go_ret
    exact ⟨.inr ⟨rfl, rfl⟩, HB.out⟩
  | true =>
    obtain ⟨-, htb, h1, h6⟩ := planB_iff.1 hpb
    have HT := Lib.hid hT
    have HP := Lib.hid hP
    have HS := Lib.hid hps
    have HLAST : Hid (prowsI tb p = (everyI tb p).getD (p.length - 1) []) := (prows_last hpb).symm
    have HSC := Lib.hid (fun (L : List MT) h k hk => step_cols (tb := tb) (p := p) (L := L) htb h k hk)
    have HE6 : Hid (∀ k, k ≤ p.length → (everyI tb (p.take k)).length = k) := fun k hk => by rw [everyI_len, List.length_take]; omega
    have HOKL : Hid (Ok2 (prowsI tb p)) := (prows_small tb p).2.2
    obtain ⟨Z, hZ⟩ : ∃ Z, prowsI tb p = Z := ⟨_, rfl⟩
    rw [hZ] at HLAST HOKL ⊢
    rw [hpb] at CM
    obtain ⟨n, hn⟩ : ∃ n, p.length = n + 1 := ⟨p.length - 1, by omega⟩
    have HPL := Lib.hid hn
    have hn6 : n + 1 ≤ 6 := by omega
    clear hT hP hps hpb hZ h1 h6 hok
    rw [hn] at CM HLAST HE6
    rw [hn]
    clear hn
    go_enter Tryz.func5, Tryz.ntmps5
    go_wp2_with (go_at_call 14; (with_reducible refine CM.out.mono ?_); rintro e w1 ⟨A, gl, c, L, ⟨rfl, hmd, hy, -, hsm⟩, hb1⟩; go_loud (have HB1 := Lib.hid hb1; obtain ⟨hal, hl⟩ := hy rfl; have HAL := Lib.hid hal; have HLL := Lib.hid hl; have HMD := Lib.hid hmd; have HSM := Lib.hid hsm; rw [hl]; clear hb1 hmd hy hsm hal hl))
    have HT1 := Lib.hid (HT.out.below HB1.out)
    have HP1 := Lib.hid (HP.out.below HB1.out)
    clear HT HP CM
    go_loopw [6, 7] (fun ax kx wr => ∃ (k g c : Nat) (D : List AD) (ev : List (List RT)), k ≤ n + 1 ∧ kx = .int .i64 k ∧ ax = .slice (some ⟨g, 0, none⟩) k c ∧ Hid (ev = everyI tb (p.take k)) ∧ Hid (ev.length = k) ∧ Hid (AhO wr w1.heap.size g c D ev) ∧ Hid (Below w1.heap.size w1 wr)) (fun _ kx _ => n + 1 - (intOf kx).toNat)
    case atStart => exact ⟨0, w1.heap.size, 0, [], [], Nat.zero_le _, rfl, rfl, rfl, rfl, AhO.empty _ (Nat.le_refl _), (Below.refl _ _).alloc (Nat.le_refl _) _⟩
    case round =>
      obtain ⟨k, g, c9, D, ev, hk, rfl, rfl, HO, HEL, HAO, HB⟩ := hrel
      have hwz := HB.out.size
      have hglo := HAO.out.lo
      by_cases hlt : k < n + 1
      · have hkp : k < p.length := by rw [HPL.out]; exact hlt
        obtain ⟨cl, hkl, hcl, hcol, hfit⟩ := HSC.out L HAL.out k hkp
        obtain ⟨rfl, hgP, A1, c1, g1, o1, A2, c2, g2, o2, x0, x1, x2, x3, x4, x5, hf1, hf2, -⟩ := HP1.out.at k hkp
        obtain ⟨rfl, hgl, A3, c3, g3, o3, y0, -, hf3, hn3, hl3⟩ := HMD.out.at k hkl
        have hsm := (HSM.out _ (List.getElem_mem hkl)).1
        have hok1 := HS.out.at k hkp
        have HTK := Lib.hid (everyI_take tb p k hkp)
        rw [← HO.out] at hcl hfit HTK
        obtain ⟨S, hS⟩ : ∃ S, p[k] = S := ⟨_, rfl⟩
        rw [hS] at x0 x1 x2 x3 x4 x5 hf1 hf2 hok1 HTK hcol
        obtain ⟨M, hM⟩ : ∃ M, L[k] = M := ⟨_, rfl⟩
        rw [hM] at y0 hf3 hl3 hsm hcol
        obtain ⟨cs, mm⟩ := M
        simp only at y0 hf3 hl3 hsm hcol
        have CR := Lib.hid (fun W hT hA hX (hC : Fl W g3 o3 A3 (flatC cs)) hE hN => stepRows AT A3 (some ⟨g, 0, none⟩) gT oT cT g3 o3 c3 g 0 c9 g tb ev cl S cs A1 A2 g1 o1 c1 g2 o2 c2 W hT hC hsm hA hX hcl hfit hcol hE hN hok1)
        unfold RetRws aggS at CR
        rw [HEL.out] at CR
        obtain ⟨ls, hls⟩ : ∃ ls, rowS tb ev S = ls := ⟨_, rfl⟩
        rw [hls] at CR HTK
        obtain ⟨s1, s2, s3, s4, es, ns⟩ := S
        simp only at x0 x1 x2 x3 x4 x5 hf1 hf2 CR
        have HE := Lib.hid hf1
        have HN := Lib.hid hf2
        have HF3 := Lib.hid hf3.fl
        obtain ⟨el, hel2⟩ : ∃ m, es.length = m := ⟨_, rfl⟩
        rw [hel2] at x4 CR
        obtain ⟨nl, hnl⟩ : ∃ m, ns.length = m := ⟨_, rfl⟩
        rw [hnl] at x5 CR
        obtain ⟨ll, hll⟩ : ∃ m, ls.length = m := ⟨_, rfl⟩
        have HLS := Lib.hid hll
        rw [hll] at CR
        obtain ⟨cl9, hcl9⟩ : ∃ m, cs.length = m := ⟨_, rfl⟩
        rw [hcl9] at y0 CR
        have i0' : (0 : Int) ≤ (k : Int) := by omega
        have i1' : (k : Int) < (n : Int) + 1 := by omega
        have i2' : (k : Int) < ((n + 1 : Nat) : Int) := by omega
        have HN2 : Hid (ev ++ [ls] = everyI tb (p.take (k + 1))) := HTK.out.symm
        have HELN : Hid ((ev ++ [ls]).length = k + 1) := by show _ = _; rw [List.length_append, HEL.out]; rfl
        rw [Nat.zero_add] at y0
        have hHELD : (fun W : World => W.cell? ⟨gl, k * 2, none⟩ = some (.slice A3 cl9 c3) ∧ W.cell? ⟨gP, oP + k * 6, none⟩ = some (.int .i64 s1) ∧ W.cell? ⟨gP, oP + k * 6 + 1, none⟩ = some (.int .i64 s2) ∧ W.cell? ⟨gP, oP + k * 6 + 2, none⟩ = some (.int .i64 s3) ∧ W.cell? ⟨gP, oP + k * 6 + 3, none⟩ = some (.int .i64 s4) ∧ W.cell? ⟨gP, oP + k * 6 + 4, none⟩ = some (.slice A1 el c1) ∧ W.cell? ⟨gP, oP + k * 6 + 5, none⟩ = some (.slice A2 nl c2) ∧ Below w1.heap.size w1 W ∧ w1.heap.size ≤ W.heap.size) wr := rnKeep (w := w1) (W := w1) ⟨y0, x0, x1, x2, x3, x4, x5, Below.refl _ _, Nat.le_refl _⟩ hgl hgP HB.out
        clear hf1 hf2 hf3 hok1 hcl hfit hcol hls hel2 hnl hll hcl9 HTK hS hM hkp hkl y0 x0 x1 x2 x3 x4 x5 hn3 hl3
        have hglD : Hid (g < wr.drew.heap.size) := hglo.2
        go_wp2_with (fail)
        go_region_held_law (fun W : World => W.cell? ⟨gl, k * 2, none⟩ = some (.slice A3 cl9 c3) ∧ W.cell? ⟨gP, oP + k * 6, none⟩ = some (.int .i64 s1) ∧ W.cell? ⟨gP, oP + k * 6 + 1, none⟩ = some (.int .i64 s2) ∧ W.cell? ⟨gP, oP + k * 6 + 2, none⟩ = some (.int .i64 s3) ∧ W.cell? ⟨gP, oP + k * 6 + 3, none⟩ = some (.int .i64 s4) ∧ W.cell? ⟨gP, oP + k * 6 + 4, none⟩ = some (.slice A1 el c1) ∧ W.cell? ⟨gP, oP + k * 6 + 5, none⟩ = some (.slice A2 nl c2) ∧ Below w1.heap.size w1 W ∧ w1.heap.size ≤ W.heap.size) (first | exact rnKeep (by assumption) hgl hgP hbq | exact rnKeep (by assumption) hgl hgP ((Below.refl _ _).drew) | exact rnKeep (by assumption) hgl hgP ((Below.refl _ _).alloc (rnSize (by assumption)) _) | assumption) (first
          | (go_at_call 15; go_loud (with_reducible refine (CR.out _ (HT1.out.toQ (rnBelow (by assumption)) hglo.1) HAO.out.drew.r3 hglD.out (HF3.out.below (rnBelow (by assumption))) (HE.out.below (rnBelow (by assumption))) (HN.out.below (rnBelow (by assumption)))).mono ?_); rintro e w2 ⟨A9, g9, o9, c8, ⟨rfl, hrw, hn9, hl9⟩, hb2⟩; go_loud (have HRW := Lib.hid hrw; have HN9 := Lib.hid hn9; have HL9 := Lib.hid hl9; have HAO2 := Lib.hid (HAO.out.drew.below hb2); have hbq := hb2.mono (show w1.heap.size ≤ wr.drew.heap.size from hwz); have hz2 := hb2.size; (try simp at hz2); clear hrw hn9 hl9 hb2))
          | (refine step_blk rfl (.tmp 21) (.tmp 34) 44 rfl w1.heap.size 27 i0 (.slice none 0 0) 1 24 Tryz.underlying44 hi iz0 iz1 iz2 rfl (by decide) g k c9 (D.map hdA) rfl (by have h := HAO2.out.own; rw [HEL.out] at h; exact h.alloc _) _ 1 1 [.slice A9 ll c8] rfl rfl (news_new (by first | rfl | simp)) (by simp [Value.oneCell']) (by unfold maxLen; omega) (by omega) (by first | omega | (simp; done) | (simp; omega)) ?_; intro g3 c3 w3 hown hgr hgg; go_loud (have HAN := Lib.hid (AhO.push (d := ((A9, c8, g9, o9), ls)) (HAO2.out.alloc _) ⟨HRW.out.alloc _, HN9.out, by rw [HLS.out]; exact HL9.out⟩ (n := k + 1) (by rw [HEL.out]) (by rw [show hdA ((A9, c8, g9, o9), ls) = .slice A9 ll c8 from by rw [← HLS.out]; rfl]; exact hown) hgr hgg); have hbq := Below.grown (Below.refl w1.heap.size _) hgr (by first | omega | (simp; omega)) (fun b hb => by obtain rfl := Option.some.inj hb; exact hglo.1); clear hown hgr hgg)))
        have HBF := Lib.hid (rnBelow (by assumption))
        go_wp2
        exact ⟨⟨k + 1, by omega, by go_num, g3, c3, ⟨rfl, rfl, rfl⟩, _, ev ++ [ls], HN2, HELN, HAN, Lib.hid trivial⟩, by simp [intOf]; omega⟩
      · obtain rfl : k = n + 1 := by omega
        have hnl : n < ev.length := by rw [HEL.out]; omega
        have HEV : Hid (ev[n] = Z) := by
          show _ = _
          rw [HLAST.out, Nat.add_sub_cancel]
          have h := HO.out
          rw [List.take_of_length_le (by rw [HPL.out]; exact Nat.le_refl _)] at h
          rw [← h, getD_lt hnl]
        obtain ⟨-, hgx, A9, c8, g8, o8, y0, hr8, -, -⟩ := HAO.out.r3.at n hnl
        rw [HEV.out] at y0 hr8
        have CC := Lib.hid (rowsCopy A9 g8 o8 c8 Z wr hr8.rws HOKL.out)
        have e9 : (Z.map fun r => r) = Z := by simp
        unfold RetBag at CC
        rw [e9] at CC
        obtain ⟨zl, hzl⟩ : ∃ m, Z.length = m := ⟨_, rfl⟩
        have HZL := Lib.hid hzl
        rw [hzl] at y0 CC
        rw [Nat.zero_add] at y0
        have hWW := Lib.hid (HB1.out.trans (HB.out.mono HB1.out.size))
        clear hr8 e9 hzl HEV hnl
        go_wp2_with (go_at_call 16; (with_reducible refine CC.out.mono ?_); rintro e w2 ⟨g9, c7, T9, rfl, hbg, hb2⟩; go_loud (have HBG := Lib.hid (hbg.lower hWW.out.size); have HBF := Lib.hid (hWW.out.trans (hb2.mono hWW.out.size)); clear hbg hb2))
        go_ret
        exact ⟨.inl ⟨g9, c7, T9, by rw [HZL.out]; rfl, HBG.out⟩, HBF.out⟩
end Go.Proofs.YtacinjbaebimhaaGreat.Val
namespace Go.Proofs.YtacinjbaebimhaaGreat.Val
open Go.RowKit
set_option linter.unusedVariables false
set_option linter.unusedSimpArgs false
set_option maxRecDepth 8000
/-- Rows of one's own, or nil. -/
def BagN (w : World) (B : Nat) (A : Option Addr) (g c : Nat) (T : List TT) (ls : List RT) : Prop := (A = some ⟨g, 0, none⟩ ∧ Bag w B g c T ls) ∨ (A = none ∧ c = 0 ∧ ls = [] ∧ T = [])
theorem BagN.rws {w : World} {B g c : Nat} {A : Option Addr} {T : List TT} {ls : List RT} (h : BagN w B A g c T ls) : Rws w g 0 A ls := by
  rcases h with ⟨rfl, h⟩ | ⟨rfl, -, rfl, -⟩
  · exact h.rws
  · exact ⟨fun h => absurd h (by simp), fun j hj => absurd hj (by simp)⟩
theorem BagN.eq {w : World} {B g c : Nat} {A : Option Addr} {T : List TT} {ls : List RT} (h : BagN w B A g c T ls) : T.map (fun t => t.2.2) = ls := by
  rcases h with ⟨rfl, h⟩ | ⟨rfl, -, rfl, rfl⟩
  · exact h.eq
  · rfl
theorem BagN.below {w w' : World} {B g c : Nat} {A : Option Addr} {T : List TT} {ls : List RT} (h : BagN w B A g c T ls) (hb : Below w.heap.size w w') : BagN w' B A g c T ls := by
  rcases h with ⟨h1, h⟩ | h
  · exact .inl ⟨h1, h.below hb⟩
  · exact .inr h
theorem BagN.alloc {w : World} {B g c : Nat} {A : Option Addr} {T : List TT} {ls : List RT} (h : BagN w B A g c T ls) (ob : Obj) : BagN (w.alloc ob) B A g c T ls := h.below ((Below.refl _ _).alloc (Nat.le_refl _) _)
theorem BagN.drew {w : World} {B g c : Nat} {A : Option Addr} {T : List TT} {ls : List RT} (h : BagN w B A g c T ls) : BagN w.drew B A g c T ls := h.below ((Below.refl _ _).drew)
theorem retBagN {ls : List RT} {w w' : World} {e : Ending} (h : RetBagN ls w e w') : ∃ (A : Option Addr) (g c : Nat) (T : List TT), e = .returned (.slice A ls.length c) ∧ BagN w' w.heap.size A g c T ls ∧ Below w.heap.size w w' := by
  rcases h with ⟨⟨g, c, T, rfl, h⟩ | ⟨rfl, rfl⟩, hb⟩
  · exact ⟨_, g, c, T, rfl, .inl ⟨rfl, h⟩, hb⟩
  · exact ⟨none, 0, 0, [], rfl, .inr ⟨rfl, rfl, rfl, rfl⟩, hb⟩
end Go.Proofs.YtacinjbaebimhaaGreat.Val
