/- What the exact laws of plans need besides: sizes of answers, what marks leave; Which tables a plan asks for, as the program reckons it: plain facts; TablesOk, the program's; The columns of all steps, and how many rows they may have: the program's planMade; PlanOk, PlanColumns: the program's; PlanOk, PlanColumns: the program's; answers that may be nil; The tables that a plan asks for: the program's PlanTables; The tables that a plan asks for: the program's tableNeeded, PlanTables; Rows taken, held, copied: the program's rowTaken, rowsTaken, rowsHeld, rowsCopy; Rows beside rows: the program's rowsBeside; The rows of a step: the program's stepRows; The rows of a step: the program's stepRows, whole; PlanRows: the program's; PlanRows: the program's; The program's own contracts of chapter 6; rows that may be nil: what marks leave of them. -/
import Derived.Test.YtacinjbaebimhaaTabKQ
import Derived.Test.YtacinjbaebimhaaPSpecQ
import Derived.Test.YtacinjbaebimhaaPIAQ
import Derived.Test.YtacinjbaebimhaaPIBQ
import Derived.Test.YtacinjbaebimhaaEKIQ
import Derived.Test.YtacinjbaebimhaaFlPQ
import Derived.Test.YtacinjbaebimhaaEMathAQ
import Derived.Test.YtacinjbaebimhaaTru3Q
import Derived.Test.YtacinjbaebimhaaOwnKQ
import Derived.Test.YtacinjbaebimhaaEStepKQ
import Derived.BigQuiet
import Derived.Deep.RegionWith
import Derived.Deep.RegionLaw
import Derived.Deep.RegionHeldLaw
namespace Go.Proofs.Ytacinjbaebimhaa.Val
open Go.RowKit
set_option linter.unusedVariables false
/-- No block but those from lo on, below hi, turned. -/
structure OnlyI (lo hi : Nat) (w w' : World) : Prop where
  os : w'.os = w.os
  tape : w'.tape = w.tape
  output : w'.output = w.output
  size : w.heap.size ≤ w'.heap.size
  block : ∀ k, k < w.heap.size → (k < lo ∨ hi ≤ k) → w'.heap[k]? = w.heap[k]?
theorem OnlyT.toI {bs : List Nat} {w w' : World} {lo hi : Nat} (h : OnlyT bs w w') (hb : ∀ b ∈ bs, lo ≤ b ∧ b < hi) : OnlyI lo hi w w' :=
  ⟨h.os, h.tape, h.output, h.size, fun k hk ho => h.block k hk (fun e => by have := hb k e; omega)⟩
theorem Only.toI {r : Nat} {w w' : World} {lo hi : Nat} (h : Only r w w') (hb : lo ≤ r ∧ r < hi) : OnlyI lo hi w w' :=
  ⟨h.os, h.tape, h.output, h.size, fun k hk ho => h.block k hk (fun e => by omega)⟩
theorem OnlyI.below {lo hi N : Nat} {w w' : World} (h : OnlyI lo hi w w') (hN : N ≤ lo) (hw : N ≤ w.heap.size) : Below N w w' :=
  ⟨h.os, h.tape, h.output, h.size, fun k hk => h.block k (by omega) (.inl (by omega))⟩
theorem Bag.loI {w w' : World} {B g cap lo hi : Nat} {T : List TT} {ls : List RT} (h : Bag w B g cap T ls) (hu : Under lo g T) (ho : OnlyI lo hi w w') : Bag w' B g cap T ls :=
  h.keep ho.size (ho.block _ h.lo.2 (.inl hu.1)) fun t ht => ho.block _ (h.rows t ht).hi (.inl (hu.2 t ht))
theorem Bag.hiI {w w' : World} {B g cap lo hi : Nat} {T : List TT} {ls : List RT} (h : Bag w B g cap T ls) (hB : hi ≤ B) (ho : OnlyI lo hi w w') : Bag w' B g cap T ls :=
  h.keep ho.size (ho.block _ h.lo.2 (.inr (by have := h.lo.1; omega))) fun t ht => ho.block _ (h.rows t ht).hi (.inr (by have := (h.rows t ht).lo; omega))
theorem FlO.loI {w w' : World} {B g c n lo hi : Nat} {xs : List Value} (h : FlO w B g c n xs) (hg : g < lo) (ho : OnlyI lo hi w w') : FlO w' B g c n xs := h.keep ho.size (ho.block _ h.hi (.inl hg))
theorem FlO.hiI {w w' : World} {B g c n lo hi : Nat} {xs : List Value} (h : FlO w B g c n xs) (hB : hi ≤ B) (ho : OnlyI lo hi w w') : FlO w' B g c n xs := h.keep ho.size (ho.block _ h.hi (.inr (by have := h.lo; omega)))
theorem Stp.hiI {w w' : World} {B g cap lo hi : Nat} {U : List UP} {ps : List SP} (h : Stp w B g cap U ps) (hB : hi ≤ B) (ho : OnlyI lo hi w w') : Stp w' B g cap U ps :=
  h.keep ho.size (ho.block _ h.lo.2 (.inr (by have := h.lo.1; omega))) fun b hb => ho.block _ (h.hi b hb).2 (.inr (by have := (h.hi b hb).1; omega))
theorem FlO.alloc {w : World} {B g c n : Nat} {xs : List Value} (h : FlO w B g c n xs) (ob : Obj) : FlO (w.alloc ob) B g c n xs := h.below ((Below.refl _ _).alloc (Nat.le_refl _) _)
theorem FlO.drew {w : World} {B g c n : Nat} {xs : List Value} (h : FlO w B g c n xs) : FlO w.drew B g c n xs := h.below ((Below.refl _ _).drew)
theorem Stp.leafs {w : World} {B g cap : Nat} {U : List UP} {ps : List SP} (h : Stp w B g cap U ps) : ∀ b ∈ g :: U.flatMap blkS, B ≤ b ∧ b < w.heap.size := by
  intro b hb
  rcases List.mem_cons.1 hb with rfl | hb
  · exact h.lo
  · exact h.hi b hb
end Go.Proofs.Ytacinjbaebimhaa.Val
namespace Go.Proofs.Ytacinjbaebimhaa.Val
open Go.RowKit
set_option linter.unusedVariables false
/-- One step of the program's own reckoning. -/
def needOne (s : SP) (k : Nat) (u : List Bool) : List Bool := if u.getD k false = false then u else if asksI s.1 = 0 then u else if asksI s.1 = 1 then u.set s.2.1.toNat true else (u.set s.2.1.toNat true).set s.2.2.1.toNat true
theorem set_self {l : List Bool} {i : Nat} (h : i < l.length) : l.set i (l.getD i false) = l := by
  rw [getD_lt h]; exact List.set_getElem_self h
theorem needOne_eq {tb : List TB} {p : List SP} (h : planB tb p = true) (k : Nat) (hk : k < p.length) (st : List Bool × List Bool) (hl1 : st.1.length = p.length) : (useOne p[k] k st).1 = needOne p[k] k st.1 := by
  have hr := plan_refs h k hk
  unfold useOne needOne
  by_cases hu : st.1.getD k false = false
  · rw [if_pos hu, if_pos hu]
  rw [if_neg hu, if_neg hu]
  by_cases h1 : p[k].1 = 1
  · rw [if_pos h1, if_pos (by rw [h1]; rfl)]
  rw [if_neg h1]
  obtain ⟨ra, rb⟩ := hr.2 h1
  obtain ⟨a, ha, hla⟩ := inB_nat ra
  obtain ⟨b, hb, hlb⟩ := inB_nat rb
  have hkind : p[k].1 = 2 ∨ p[k].1 = 3 ∨ p[k].1 = 6 ∨ p[k].1 = 4 ∨ p[k].1 = 5 := by
    obtain ⟨⟨st0, hs⟩, -⟩ := planB_iff.1 h
    have hp := allI_pre (tb := tb) (p := p) (by rw [hs]; rfl) (k + 1)
    rw [allI_take tb p k hk] at hp
    rcases hq : allI tb (p.take k) with _ | s0
    · rw [hq] at hp; cases hp
    · rw [hq, Option.bind_some] at hp
      obtain ⟨s1, hs1⟩ := Option.isSome_iff_exists.1 hp
      obtain ⟨c, hc, -, -⟩ := stepS_some hs1
      by_cases k2 : p[k].1 = 2
      · exact .inl k2
      by_cases k3 : p[k].1 = 3
      · exact .inr (.inl k3)
      by_cases k6 : p[k].1 = 6
      · exact .inr (.inr (.inl k6))
      by_cases k4 : p[k].1 = 4
      · exact .inr (.inr (.inr (.inl k4)))
      by_cases k5 : p[k].1 = 5
      · exact .inr (.inr (.inr (.inr k5)))
      · have := col_K (tb := tb) (ah := s0.1) (a := p[k].2.1) (b := p[k].2.2.1) (n := p[k].2.2.2.1) (es := p[k].2.2.2.2.1) (ns := p[k].2.2.2.2.2) h1 k2 k3 k4 k5 k6
        rw [this] at hc; cases hc
  have hbl : b < (st.1.set a true).length := by rw [List.length_set]; omega
  rw [ha, hb, Int.toNat_natCast, Int.toNat_natCast]
  rcases hkind with e | e | e | e | e
  · have e1 : asksI p[k].1 = 1 := by rw [e]; rfl
    rw [e1, if_neg (by decide), if_pos rfl]; simp only [e]; simpa using set_self hbl
  · have e1 : asksI p[k].1 = 1 := by rw [e]; rfl
    rw [e1, if_neg (by decide), if_pos rfl]; simp only [e]; simpa using set_self hbl
  · have e1 : asksI p[k].1 = 1 := by rw [e]; rfl
    rw [e1, if_neg (by decide), if_pos rfl]; simp only [e]; simpa using set_self hbl
  · have e1 : asksI p[k].1 = 2 := by rw [e]; rfl
    rw [e1, if_neg (by decide), if_neg (by decide)]; simp [e]
  · have e1 : asksI p[k].1 = 2 := by rw [e]; rfl
    rw [e1, if_neg (by decide), if_neg (by decide)]; simp [e]
/-- The first step hangs on none. -/
theorem needOne_first {tb : List TB} {p : List SP} (h : planB tb p = true) (h0 : 0 < p.length) (st : List Bool × List Bool) : (useOne p[0] 0 st).1 = st.1 := by
  have hr := plan_refs h 0 h0
  have h1 : p[0].1 = 1 := by
    by_cases h1 : p[0].1 = 1
    · exact h1
    · obtain ⟨a, -, hla⟩ := inB_nat (hr.2 h1).1
      omega
  unfold useOne
  split
  · rfl
  · first | rfl | rw [if_pos h1]
end Go.Proofs.Ytacinjbaebimhaa.Val
namespace Go.Proofs.Ytacinjbaebimhaa.Val
open Go.RowKit
set_option linter.unusedVariables false
set_option maxRecDepth 8000
set_option maxHeartbeats 2000000 in
theorem tablesOkI (A : Option Addr) (g o cap : Nat) (ts : List TB) (w : World) (hA : Tbs w g o A ts) (hok : OkT ts) :
    Calls Try.prog 81 #[.slice A ts.length cap] w fun e w' => e = .returned (.bool (tablesB ts)) ∧ Below w.heap.size w w' := by
  have HA := Lib.hid hA
  have HK := Lib.hid hok
  have hl := hok.1
  clear hA hok
  go_enter Try.func81, Try.ntmps81
  by_cases h3 : ts.length ≤ 3
  rotate_left
  · go_wp2
    go_ret
    refine ⟨retB ?_, Below.refl _ _⟩
    rw [tablesB_eq]; simp; omega
  go_wp2
  go_loopw [3] (fun ix wr => ∃ (k : Nat), k ≤ ts.length ∧ ix = .int .i64 k ∧ Hid ((ts.take k).all tab1B = true) ∧ Hid (Below w.heap.size w wr)) (fun ix _ => ts.length - (intOf ix).toNat)
  case atStart => exact ⟨0, Nat.zero_le _, rfl, rfl, Below.refl _ _⟩
  case round =>
    obtain ⟨k, hk, rfl, HL, HW⟩ := hrel
    by_cases hlt : k < ts.length
    · obtain ⟨rfl, hg, A1, c1, g1, o1, A2, c2, g2, o2, hc0, hc1, hf1, hr1, -, -⟩ := (HA.out.below HW.out).at k hlt
      have HF := Lib.hid hf1
      have HR := Lib.hid hr1
      obtain ⟨hlc, hlr⟩ := HK.out.at k hlt
      have HS := Lib.hid (all_snoc tab1B ts k hlt)
      have HN := Lib.hid (fun hp => all_no (p := tab1B) k hlt hp)
      obtain ⟨K, hK⟩ : ∃ K, ts[k] = K := ⟨_, rfl⟩
      rw [hK] at hc0 hc1 HF HR HS HN hlc hlr
      clear hK hf1 hr1
      obtain ⟨cs, ls⟩ := K
      simp only at hc0 hc1 HF HR hlc hlr
      have CR := Lib.hid (fun W hW hW2 => rowsOkI A1 A2 g1 o1 g2 o2 c1 c2 cs ls W hW hW2 hlc hlr)
      have HT : Hid (tab1B (cs, ls) = (decide (ls.length ≤ 6) && rowsB cs ls)) := rfl
      obtain ⟨B1, hB1⟩ : ∃ b, rowsB cs ls = b := ⟨_, rfl⟩
      rw [hB1] at CR HT
      obtain ⟨kl, hkl⟩ : ∃ n, cs.length = n := ⟨_, rfl⟩
      rw [hkl] at hc0 CR
      obtain ⟨kr, hkr⟩ : ∃ n, ls.length = n := ⟨_, rfl⟩
      rw [hkr] at hc1 CR HT
      have hkr2 : kr ≤ 2000000 := by have := hlr.1; omega
      clear hkl hkr hlc hlr hB1
      have i0' : (0 : Int) ≤ (k : Int) := by omega
      have i1' : (k : Int) < (ts.length : Int) := by omega
      have HS0 : (fun w' => w'.cell? ⟨g, o + k * 2, none⟩ = some (.slice A1 kl c1) ∧ w'.cell? ⟨g, o + k * 2 + 1, none⟩ = some (.slice A2 kr c2) ∧ Fl w' g1 o1 A1 (flatC cs) ∧ Rws w' g2 o2 A2 ls ∧ Below w.heap.size w w' ∧ w.heap.size ≤ w'.heap.size) wr := ⟨hc0, hc1, HF.out, HR.out, HW.out, HW.out.size⟩
      clear HF HR
      by_cases h6 : kr ≤ 6
      · clear hc0 hc1
        have q1 : decide (6 < (kr : Int)) = false := by simp; omega
        go_wp2_with (fail)
        go_region_held_law (fun w' => w'.cell? ⟨g, o + k * 2, none⟩ = some (.slice A1 kl c1) ∧ w'.cell? ⟨g, o + k * 2 + 1, none⟩ = some (.slice A2 kr c2) ∧ Fl w' g1 o1 A1 (flatC cs) ∧ Rws w' g2 o2 A2 ls ∧ Below w.heap.size w w' ∧ w.heap.size ≤ w'.heap.size) (first | exact keepTb (by assumption) hbq | exact keepTbD (by assumption) | assumption) (first | (go_at_call 19; (with_reducible refine (CR.out _ (keepTb1 (by assumption)) (keepTb2 (by assumption))).mono ?_); rintro e w1 ⟨rfl, hbq⟩))
        have HWn := Lib.hid (keepTb3 (by assumption))
        go_wp2
        · go_ret
          refine ⟨retB ?_, HWn.out⟩
          have hb : B1 = false := not_of (by assumption)
          rw [tablesB_eq, HN.out (by rw [HT.out, hb]; simp)]; simp
        · go_round
          case rel =>
            have hb : B1 = true := yes_of (by assumption)
            refine ⟨k + 1, by omega, by go_num, ?_, HWn⟩
            show _ = _
            rw [HS.out, HL.out, HT.out, hb]; simp; omega
          case measure => simp [intOf]; omega
      · have q1 : (6 < (kr : Int)) := by omega
        go_wp2_with (fail)
        go_quiet (fail)
        go_wp2
        go_ret
        refine ⟨retB ?_, below_drewN HW.out _⟩
        rw [tablesB_eq, HN.out (by rw [HT.out]; simp; omega)]; simp
    · obtain rfl : k = ts.length := by omega
      go_wp2
      go_ret
      refine ⟨retB ?_, HW.out⟩
      rw [tablesB_eq, all_end HL, Bool.eq_iff_iff]; simp; try omega
end Go.Proofs.Ytacinjbaebimhaa.Val
namespace Go.Proofs.Ytacinjbaebimhaa.Val
open Go.RowKit
set_option linter.unusedVariables false
set_option linter.unusedSimpArgs false
set_option maxRecDepth 8000
theorem infoM : (Try.prog.info? 80).map (fun i => (i.zero, i.size, i.bytes)) = some (some (.agg #[.slice none 0 0, .int .i64 0]), 2, 32) := by kernel_rfl
theorem stepS_of {tb : List TB} {L : List MT} {s : SP} {cs : List CT} {k : Nat} (h : ((colS tb (L.map fun x => x.1) s).map fun c => (c, madeS (L.map fun x => x.2) s)) = some (cs, k)) : stepS tb (L.map fun x => x.1, L.map fun x => x.2) s = if 300 < k then none else some ((L ++ [(cs, k)]).map fun x => x.1, (L ++ [(cs, k)]).map fun x => x.2) := by
  unfold stepS
  rcases hc : colS tb (L.map fun x => x.1) s with _ | c
  · rw [hc] at h; cases h
  · rw [hc, Option.map_some] at h
    injection h with h
    injection h with h1 h2
    simp only [hc, h1, h2, List.map_append, List.map_cons, List.map_nil]
theorem stepS_none {tb : List TB} {L : List MT} {s : SP} (h : ((colS tb (L.map fun x => x.1) s).map fun c => (c, madeS (L.map fun x => x.2) s)) = none) : stepS tb (L.map fun x => x.1, L.map fun x => x.2) s = none := by
  unfold stepS
  rcases hc : colS tb (L.map fun x => x.1) s with _ | c
  · simp only [hc]
  · rw [hc] at h; cases h
theorem plan_cols {tb : List TB} {p : List SP} {L : List MT} (ht : tablesB tb = true) (h : allI tb p = some (L.map fun x => x.1, L.map fun x => x.2)) : ∀ x ∈ L, x.1.length ≤ 4 ∧ x.2 ≤ 300 := by
  intro x hx
  obtain ⟨j, hj, rfl⟩ := List.mem_iff_getElem.1 hx
  obtain ⟨l1, l2⟩ := allI_len h
  simp only [List.length_map] at l1
  obtain ⟨h1, -, h3⟩ := every_fits ht h j (by omega)
  rw [getD_lt (by rw [List.length_map]; exact hj), List.getElem_map] at h1 h3
  exact ⟨(colB_iff.1 (rowsB_iff.1 h1).1).1, h3⟩
theorem MdQ.any {P : Nat → Prop} {w : World} {g o : Nat} {A : Option Addr} {L : List MT} (h : MdQ P w g o A L) : MdQ (fun _ => True) w g o A L := by
  refine ⟨h.ad, fun j hj => ?_⟩
  obtain ⟨A', c', g', o', h1, h2, h3, h4⟩ := h.hd j hj
  exact ⟨A', c', g', o', h1, h2, ⟨h3.fl, fun _ => trivial⟩, h4⟩
theorem MdQ.nil (P : Nat → Prop) (w : World) : MdQ P w 0 0 none [] := ⟨fun h => absurd h (by simp), fun j hj => absurd hj (by simp)⟩
theorem retStep_none {X : Nat} {w w' : World} {e : Ending} (h : RetStep X none w e w') : ∃ (A : Option Addr) (n c k : Nat), e = .returned (.tuple #[.agg #[.slice A n c, .int .i64 (k : Int)], .bool false]) ∧ Below w.heap.size w w' := by
  obtain ⟨A, g, o, c, cs, k, ok, ⟨rfl, -, h1, -⟩, hb⟩ := h
  cases ok with
  | false => exact ⟨A, cs.length, c, k, rfl, hb⟩
  | true => exact absurd (h1 rfl) (by simp)
theorem retStep_some {X : Nat} {cs : List CT} {k : Nat} {w w' : World} {e : Ending} (h : RetStep X (some (cs, k)) w e w') : ∃ (A : Option Addr) (g o c : Nat), (e = .returned (.tuple #[.agg #[.slice A cs.length c, .int .i64 (k : Int)], .bool true]) ∧ MdAt (· ≠ X) w' ((A, c, g, o), (cs, k))) ∧ Below w.heap.size w w' := by
  obtain ⟨A, g, o, c, cs', k', ok, ⟨rfl, hm, h1, h2⟩, hb⟩ := h
  cases ok with
  | false => exact absurd (h2 rfl) (by simp)
  | true =>
    have h3 := h1 rfl
    injection h3 with h3
    injection h3 with h4 h5
    subst h4 h5
    exact ⟨A, g, o, c, ⟨rfl, hm⟩, hb⟩
/-- What a plan was told: the columns of its steps, if it is one. -/
def RetPlan (tb : List TB) (p : List SP) (w : World) (e : Ending) (w' : World) : Prop := ∃ (A : Option Addr) (g c : Nat) (L : List MT), (e = .returned (.slice A L.length c) ∧ MdQ (fun _ => True) w' g 0 A L ∧ (planB tb p = true → allI tb p = some (L.map fun x => x.1, L.map fun x => x.2) ∧ L.length = p.length) ∧ (planB tb p = false → L = []) ∧ ∀ x ∈ L, x.1.length ≤ 4 ∧ x.2 ≤ 300) ∧ Below w.heap.size w w'
theorem planNone {tb : List TB} {p : List SP} {w w' : World} (h : planB tb p = false) (hb : Below w.heap.size w w') : RetPlan tb p w (.returned (.slice none 0 0)) w' :=
  ⟨none, 0, 0, [], ⟨rfl, MdQ.nil _ _, fun h2 => (by rw [h] at h2; cases h2), fun _ => rfl, fun x hx => absurd hx (by simp)⟩, hb⟩
set_option maxHeartbeats 4000000 in
theorem planMade (AT AP : Option Addr) (gT oT cT gP oP cP : Nat) (tb : List TB) (p : List SP) (w : World) (hT : Tbs w gT oT AT tb) (hok : OkT tb) (hP : Sps w gP oP AP p) (hps : OkS p) :
    Calls Try.prog 46 #[.slice AT tb.length cT, .slice AP p.length cP] w (RetPlan tb p w) := by
  obtain ⟨i0, hi, iz0, iz1, iz2⟩ := info_parts infoM
  have HT := Lib.hid hT
  have HP := Lib.hid hP
  have HS := Lib.hid hps
  have hpl := hps.1
  have CT := Lib.hid (fun W h1 => tablesOkI AT gT oT cT tb W h1 hok)
  cases htb : tablesB tb with
  | false =>
    rw [htb] at CT
    have HN : Hid (planB tb p = false) := by show _ = _; rw [planB, htb]; simp
    clear hT hP hps
    go_enter Try.func46, Try.ntmps46
    go_wp2_with (go_at_call 81; (with_reducible refine (CT.out _ HT.out).mono ?_); rintro e w1 ⟨rfl, hb1⟩; have HB := Lib.hid hb1; clear hb1)
    go_ret
    exact planNone HN.out HB.out
  | true =>
    rw [htb] at CT
    by_cases h6 : p.length ≤ 6
    rotate_left
    · have HN : Hid (planB tb p = false) := by show _ = _; cases hq : planB tb p with
      | false => rfl
      | true => exact absurd (planB_iff.1 hq).2.2.2 h6
      clear hT hP hps
      go_enter Try.func46, Try.ntmps46
      go_wp2_with (go_at_call 81; (with_reducible refine (CT.out _ HT.out).mono ?_); rintro e w1 ⟨rfl, hb1⟩; have HB := Lib.hid hb1; clear hb1)
      go_ret
      exact planNone HN.out HB.out
    have HNO : Hid (∀ k, allI tb (p.take k) = none → planB tb p = false) := fun k h => by rw [planB, show allI tb p = none from (by cases h2 : allI tb p with
      | none => rfl
      | some st => exact absurd (allI_pre (tb := tb) (p := p) (by rw [h2]; rfl) k) (by rw [h]; simp))]; rfl
    have HYES : Hid (allI tb p ≠ none → planB tb p = decide (1 ≤ p.length)) := fun h => by
      obtain ⟨st, hst⟩ := Option.ne_none_iff_exists'.1 h
      rw [planB, htb, hst]; simp [h6]
    have HTB := Lib.hid htb
    clear hT hP hps htb
    go_enter Try.func46, Try.ntmps46
    go_wp2_with (go_at_call 81; (with_reducible refine (CT.out _ HT.out).mono ?_); rintro e w1 ⟨rfl, hb1⟩; have HB1 := Lib.hid hb1; clear hb1)
    go_loopw [5, 6] (fun ox kx wr => ∃ (k g c : Nat) (D : List MD) (L : List MT), k ≤ p.length ∧ kx = .int .i64 k ∧ ox = .slice (some ⟨g, 0, none⟩) k c ∧ Hid (allI tb (p.take k) = some (L.map fun x => x.1, L.map fun x => x.2)) ∧ Hid (MdO wr w.heap.size g c D L) ∧ Hid (L.length = k) ∧ Hid (Below w.heap.size w wr)) (fun _ kx _ => p.length - (intOf kx).toNat)
    case atStart => exact ⟨0, w1.heap.size, 0, [], [], Nat.zero_le _, rfl, rfl, rfl, MdO.empty _ HB1.out.size, rfl, HB1.out.alloc HB1.out.size _⟩
    case round =>
      clear HB1
      obtain ⟨k, g, c, D, L, hk, rfl, rfl, HAL, HMO, HL, HB⟩ := hrel
      have hwz := HB.out.size
      have hglo := HMO.out.lo
      have HSM := Lib.hid (plan_cols HTB.out HAL.out)
      by_cases hlt : k < p.length
      · obtain ⟨rfl, hgP, A1, c1, g1, o1, A2, c2, g2, o2, x0, x1, x2, x3, x4, x5, hf1, hf2, -⟩ := (HP.out.below HB.out).at k hlt
        have hok1 := HS.out.at k hlt
        have HTK := Lib.hid (allI_take tb p k hlt)
        rw [HAL.out, Option.bind_some] at HTK
        obtain ⟨S, hS⟩ : ∃ S, p[k] = S := ⟨_, rfl⟩
        rw [hS] at x0 x1 x2 x3 x4 x5 hf1 hf2 hok1 HTK
        clear hS
        have CR := Lib.hid (fun W hT hA hX hE hN => stepMade AT (some ⟨g, 0, none⟩) gT oT cT g 0 c g tb L S A1 A2 g1 o1 c1 g2 o2 c2 W hT hA hX HSM.out hE hN hok1)
        have HSO := Lib.hid (fun cs k h => stepS_of (tb := tb) (L := L) (s := S) (cs := cs) (k := k) h)
        have HSN := Lib.hid (fun h => stepS_none (tb := tb) (L := L) (s := S) h)
        unfold aggS at CR
        rw [HL.out] at CR
        obtain ⟨r, hr⟩ : ∃ r, ((colS tb (L.map fun x => x.1) S).map fun c => (c, madeS (L.map fun x => x.2) S)) = r := ⟨_, rfl⟩
        rw [hr] at CR HSO HSN
        obtain ⟨st2, hst⟩ : ∃ st2, stepS tb (L.map fun x => x.1, L.map fun x => x.2) S = st2 := ⟨_, rfl⟩
        rw [hst] at HSO HSN HTK
        obtain ⟨s1, s2, s3, s4, es, ns⟩ := S
        simp only at x0 x1 x2 x3 x4 x5 hf1 hf2 CR
        have HE := Lib.hid hf1
        have HN := Lib.hid hf2
        obtain ⟨el, hel2⟩ : ∃ m, es.length = m := ⟨_, rfl⟩
        rw [hel2] at x4 CR
        obtain ⟨nl, hnl⟩ : ∃ m, ns.length = m := ⟨_, rfl⟩
        rw [hnl] at x5 CR
        have i0' : (0 : Int) ≤ (k : Int) := by omega
        have i1' : (k : Int) < (p.length : Int) := by omega
        clear hf1 hf2 hok1 hel2 hnl hr hst
        cases r with
        | none =>
          have CN := Lib.hid (fun W hT hA hX hE hN => (CR.out W hT hA hX hE hN).mono fun e w' h => retStep_none h)
          have HPN := Lib.hid (HNO.out (k + 1) (by rw [HTK.out]; exact HSN.out rfl))
          clear CR HSO HSN HTK
          go_wp2_with (go_at_call 82; (with_reducible refine (CN.out _ (HT.out.toQ HB.out hglo.1) HMO.out.md hglo.2 HE.out HN.out).mono ?_); rintro e w2 ⟨A9, n9, c9, k9, rfl, hb1⟩; have HB2 := Lib.hid (HB.out.trans (hb1.mono hwz)); clear hb1)
          all_goals (go_ret; exact planNone HPN.out (HB2.out.alloc HB2.out.size _))
        | some ck =>
          obtain ⟨cs9, k9⟩ := ck
          have CN := Lib.hid (fun W hT hA hX hE hN => (CR.out W hT hA hX hE hN).mono fun e w' h => retStep_some h)
          have HST := Lib.hid (HSO.out cs9 k9 rfl)
          obtain ⟨l9, hl9⟩ : ∃ m, cs9.length = m := ⟨_, rfl⟩
          have HL9 := Lib.hid hl9
          rw [hl9] at CN
          clear CR HSO HSN hl9
          by_cases h3 : 300 < k9
          · have HPN := Lib.hid (HNO.out (k + 1) (by rw [HTK.out, HST.out, if_pos h3]))
            have h3' : 300 < (k9 : Int) := by omega
            clear HTK HST
            go_wp2_with (go_at_call 82; (with_reducible refine (CN.out _ (HT.out.toQ HB.out hglo.1) HMO.out.md hglo.2 HE.out HN.out).mono ?_); rintro e w2 ⟨A9, g9, o9, c9, ⟨rfl, hmd⟩, hb1⟩; have HB2 := Lib.hid (HB.out.trans (hb1.mono hwz)); clear hb1 hmd)
            all_goals (go_ret; exact planNone HPN.out (HB2.out.alloc HB2.out.size _))
          · rw [if_neg h3] at HST
            have HAN : Hid (allI tb (p.take (k + 1)) = some ((L ++ [(cs9, k9)]).map fun x => x.1, (L ++ [(cs9, k9)]).map fun x => x.2)) := HTK.out.trans HST.out
            have h3' : ¬ 300 < (k9 : Int) := by omega
            have HLN : Hid ((L ++ [(cs9, k9)]).length = k + 1) := by show _ = _; rw [List.length_append, HL.out]; rfl
            clear HTK HST
            go_wp2_with (first
              | (go_at_call 82; (with_reducible refine (CN.out _ (HT.out.toQ HB.out hglo.1) HMO.out.md hglo.2 HE.out HN.out).mono ?_); rintro e w2 ⟨A9, g9, o9, c9, ⟨rfl, hmd⟩, hb1⟩; go_loud (have HMD := Lib.hid hmd; have HMO2 := Lib.hid (HMO.out.below hb1); have HB2 := Lib.hid (HB.out.trans (hb1.mono hwz)); have hz2 := hb1.size; clear hb1 hmd))
              | (at_builtin; go_loud (refine wpList_append_block _ rfl (.tmp 41) (.tmp 43) 69 rfl w.heap.size 80 i0 (.agg #[.slice none 0 0, .int .i64 0]) 2 32 Try.underlying69 hi iz0 iz1 iz2 rfl (by decide) g k c (flatM D) rfl (by have h := HMO2.out.own; rw [HL.out] at h; exact (h.alloc _).alloc _) _ 1 1 [.slice A9 l9 c9, .int .i64 (k9 : Int)] rfl rfl (news_new (by first | rfl | simp)) (by simp [Value.oneCell']) (by unfold maxLen; omega) (by omega) (by first | omega | (simp; done) | (simp; omega)) ?_); intro g3 c3 w3 hown hgr hgg; go_loud (have HM3 := Lib.hid (MdO.push (d := ((A9, c9, g9, o9), (cs9, k9))) ((HMO2.out.alloc _).alloc _) (mdKeep HMD.out (((Below.refl _ _).alloc (Nat.le_refl _) _).alloc (by simp) _) (fun _ _ h => h)) (n := k + 1) (by rw [HL.out]) (by rw [HL9.out]; exact hown) hgr hgg); have HB3 := Lib.hid (Below.grown ((HB2.out.alloc HB2.out.size _).alloc (by have := HB2.out.size; simp; omega) _) hgr (by have := HB2.out.size; simp; omega) (fun k hk => by obtain rfl := Option.some.inj hk; exact hglo.1)); clear hown hgr hgg)))
            exact ⟨⟨k + 1, g3, c3, _, L ++ [(cs9, k9)], by omega, by go_num, rfl, HAN, HM3, HLN, HB3⟩, by simp [intOf]; omega⟩
      · obtain rfl : k = p.length := by omega
        have HAF := HAL.out
        rw [List.take_length] at HAF
        have HA2 := Lib.hid HAF
        have HPL := Lib.hid (HYES.out (by rw [HAF]; simp))
        clear HAF
        go_wp2
        go_ret
        refine ⟨_, g, c, L, ⟨by rw [HL.out]; rfl, HMO.out.md.any, fun _ => ⟨HA2.out, HL.out⟩, fun h => ?_, HSM.out⟩, HB.out⟩
        rw [HPL.out] at h
        have h0 := of_decide_eq_false h
        exact List.eq_nil_of_length_eq_zero (by have := HL.out; omega)
end Go.Proofs.Ytacinjbaebimhaa.Val
namespace Go.Proofs.Ytacinjbaebimhaa.Val
open Go.RowKit
set_option linter.unusedVariables false
set_option linter.unusedSimpArgs false
set_option maxRecDepth 8000
/-- A flat row of one's own, or nil. -/
structure FlN (w : World) (B : Nat) (A : Option Addr) (g n : Nat) (xs : List Value) : Prop where
  fl : Fl w g 0 A xs
  ad : 0 < n → A = some ⟨g, 0, none⟩
  fz : ∀ j, j < xs.length → w.frozen? ⟨g, j, none⟩ = false
  lo : 0 < xs.length → B ≤ g ∧ g < w.heap.size
theorem FlN.nil (w : World) (B : Nat) : FlN w B none 0 0 [] := ⟨⟨fun h => absurd h (by simp), fun j hj => absurd hj (by simp)⟩, fun h => absurd h (by omega), fun j hj => absurd hj (by simp), fun h => absurd h (by simp)⟩
theorem FlN.same {w w' : World} {B g n : Nat} {A : Option Addr} {xs : List Value} (h : FlN w B A g n xs) (hz : w.heap.size ≤ w'.heap.size) (hk : 0 < xs.length → w'.heap[g]? = w.heap[g]?) : FlN w' B A g n xs :=
  ⟨⟨h.fl.ad, fun j hj => (cellOf (hk (by omega))).trans (h.fl.c j hj)⟩, h.ad, fun j hj => (frozenOf (hk (by omega))).trans (h.fz j hj), fun h0 => ⟨(h.lo h0).1, Nat.lt_of_lt_of_le (h.lo h0).2 hz⟩⟩
theorem FlN.below {w w' : World} {B g n : Nat} {A : Option Addr} {xs : List Value} (h : FlN w B A g n xs) (hb : Below w.heap.size w w') : FlN w' B A g n xs := h.same hb.size fun h0 => hb.block g (h.lo h0).2
theorem FlN.alloc {w : World} {B g n : Nat} {A : Option Addr} {xs : List Value} (h : FlN w B A g n xs) (ob : Obj) : FlN (w.alloc ob) B A g n xs := h.below ((Below.refl _ _).alloc (Nat.le_refl _) _)
theorem FlN.drew {w : World} {B g n : Nat} {A : Option Addr} {xs : List Value} (h : FlN w B A g n xs) : FlN w.drew B A g n xs := h.below ((Below.refl _ _).drew)
theorem FlN.hiI {w w' : World} {B g n lo hi : Nat} {A : Option Addr} {xs : List Value} (h : FlN w B A g n xs) (hB : hi ≤ B) (ho : OnlyI lo hi w w') : FlN w' B A g n xs := h.same ho.size fun h0 => ho.block g (h.lo h0).2 (.inr (by have := (h.lo h0).1; omega))
theorem FlN.fill {w : World} {B g n : Nat} {A : Option Addr} {xs ys : List Value} (h : FlN w B A g n xs) (hy : ys.length = xs.length) : Fill w g ys 0 := by
  intro j hj
  have hj2 : j < xs.length := by omega
  exact ⟨⟨_, by have := h.fl.c j hj2; rwa [Nat.zero_add] at this⟩, h.fz j hj2, fun h0 => absurd h0 (by omega)⟩
theorem OnlyI.refl (lo hi : Nat) (w : World) : OnlyI lo hi w w := ⟨rfl, rfl, rfl, Nat.le_refl _, fun _ _ _ => rfl⟩
/-- What a mark leaves of an answer that may be nil. -/
theorem FlN.only {w w' : World} {B g n : Nat} {A : Option Addr} {xs : List Value} (h : FlN w B A g n xs) (hn : n = 0 → w' = w) (hx : 0 < n → 0 < xs.length) (ho : Only g w w') : OnlyI B w.heap.size w w' := by
  by_cases h0 : n = 0
  · rw [hn h0]; exact OnlyI.refl _ _ _
  · exact Only.toI ho (h.lo (hx (by omega)))
theorem FlN.marked {w w' : World} {B g n : Nat} {A : Option Addr} {xs ys : List Value} (h : FlN w B A g n xs) (hy : ys.length = xs.length) (hx : 0 < n ∨ xs.length = 0) (hf : Fill w' g ys ys.length) : Fl w' g 0 A ys := by
  rcases hx with hx | hx
  · rw [h.ad hx]; exact hf.fl
  · exact ⟨fun h0 => absurd h0 (by omega), fun j hj => absurd hj (by omega)⟩
theorem planOkI (AT AP : Option Addr) (gT oT cT gP oP cP : Nat) (tb : List TB) (p : List SP) (w : World) (hT : Tbs w gT oT AT tb) (hok : OkT tb) (hP : Sps w gP oP AP p) (hps : OkS p) :
    Calls Try.prog 12 #[.slice AT tb.length cT, .slice AP p.length cP] w fun e w' => e = .returned (.bool (planB tb p)) ∧ Below w.heap.size w w' := by
  have CM := Lib.hid (planMade AT AP gT oT cT gP oP cP tb p w hT hok hP hps)
  have h1 : planB tb p = true → 1 ≤ p.length := fun h => (planB_iff.1 h).2.2.1
  have hb0 : ∀ (n : Nat), (planB tb p = true → n = p.length) → (planB tb p = false → n = 0) → decide (0 < (n : Int)) = planB tb p := by
    intro n k1 k2
    cases hp : planB tb p with
    | true => have := k1 hp; have := h1 hp; simp; omega
    | false => have := k2 hp; simp; omega
  have HN := Lib.hid hb0
  obtain ⟨b, hb⟩ : ∃ b, planB tb p = b := ⟨_, rfl⟩
  unfold RetPlan at CM
  rw [hb] at CM HN ⊢
  clear hT hok hP hps h1 hb0 hb
  go_enter Try.func12, Try.ntmps12
  go_wp2_with (go_at_call 46; (with_reducible refine CM.out.mono ?_); rintro e w1 ⟨A, g, c, L, ⟨rfl, -, hy, hn, -⟩, hb1⟩; go_loud (have HB := Lib.hid hb1; have HB0 := Lib.hid (HN.out L.length (fun h => (hy h).2) (fun h => by rw [hn h]; rfl)); obtain ⟨l, hl⟩ : ∃ l, L.length = l := ⟨_, rfl⟩; rw [hl] at HB0 ⊢; clear hb1 hy hn hl))
  go_ret
  exact ⟨retB (by rw [← HB0.out]; simp), HB.out⟩
end Go.Proofs.Ytacinjbaebimhaa.Val
namespace Go.Proofs.Ytacinjbaebimhaa.Val
open Go.RowKit
set_option linter.unusedVariables false
set_option linter.unusedSimpArgs false
set_option maxRecDepth 8000
/-- Truths of one's own. -/
def RetNeed (U : List Bool) (w : World) (e : Ending) (w' : World) : Prop := ∃ (g c : Nat), (e = .returned (.slice (some ⟨g, 0, none⟩) U.length c) ∧ w'.ownsRow w.heap.size 4 1 (.slice (some ⟨g, 0, none⟩) U.length c) U.length (U.map bvB)) ∧ Below w.heap.size w w'
theorem asks_three (k : Int) : asksI k = 0 ∨ asksI k = 1 ∨ asksI k = 2 := by
  unfold asksI
  split
  · exact .inr (.inl rfl)
  · split
    · exact .inr (.inr rfl)
    · exact .inl rfl
set_option maxHeartbeats 4000000 in
theorem stepsNeeded (AP : Option Addr) (gP oP cP : Nat) (tb : List TB) (p : List SP) (w : World) (hP : Sps w gP oP AP p) (hpl : p.length ≤ 6) (hpb : planB tb p = true) :
    Calls Try.prog 55 #[.slice AP p.length cP] w (RetNeed (useF p p.length (use0 tb p)).1 w) := by
  obtain ⟨i0, hi, iz0, iz1, iz2⟩ := info_parts infoB
  have HP := Lib.hid hP
  obtain ⟨-, -, h1, h6⟩ := planB_iff.1 hpb
  have j1' : (0 : Int) ≤ (p.length : Int) - 1 := by omega
  have j2' : (p.length : Int) - 1 < (p.length : Int) := by omega
  have HUL : Hid ((useF p p.length (use0 tb p)).1.length = p.length) := by show _ = _; rw [(useF_len _ _ _).1]; simp [use0]
  have HL0 : Hid ((use0 tb p).1.length = p.length) := by show _ = _; simp [use0]
  have HNE := Lib.hid (fun k hk st hl => needOne_eq hpb k hk st hl)
  have HFIRST := Lib.hid (fun st => needOne_first hpb (by omega) st)
  have HREF := Lib.hid (fun k hk => plan_refs hpb k hk)
  obtain ⟨F, hF⟩ : ∃ F, useF p p.length (use0 tb p) = F := ⟨_, rfl⟩
  have HFE := Lib.hid hF
  rw [hF] at HUL ⊢
  clear hP hpb hF
  go_enter Try.func55, Try.ntmps55
  go_wp2_with (at_make; go_loud (refine wpList_make_full w rfl _ _ 86 rfl w.heap.size 4 i0 (.bool false) 1 Try.underlying86 hi iz0 iz1 .i64 .i64 p.length p.length p.length rfl rfl rfl rfl (by rw [iz2]; omega) (by unfold maxLen; omega) (Nat.le_refl _) ?_); intro w2 hown hgr; go_loud (rw [show (madeCells (Value.bool false).cells (p.length * 1)).toList = (List.replicate p.length false).map bvB from by rw [Nat.mul_one, show (Value.bool false).cells = #[.bool false] from rfl, toList_madeCells_one, List.map_replicate]; rfl] at hown; have hst := (hown.stored (p.length - 1) (.bool true)).1; rw [show (.bool true : Value) = bvB true from rfl, ← List.map_set] at hst; have HU := Lib.hid hst; obtain ⟨v0, hv0⟩ : ∃ v, w2.cell? ⟨w.heap.size, p.length - 1, none⟩ = some v := (by rw [hown.cellAt (p.length - 1) (by omega), List.getElem?_eq_getElem (by rw [hown.1]; omega)]; exact ⟨_, rfl⟩); have hf0 := hown.frozenAt (p.length - 1); have HB2 := Lib.hid ((Below.grown (Below.refl w.heap.size w) hgr (Nat.le_refl _) (by intro k hk; cases hk)).setCell (p := ⟨w.heap.size, p.length - 1, none⟩) (Nat.le_refl _) (.bool true)); clear hown hgr hst))
  have HU4 : Hid ((w2.setCell ⟨w.heap.size, p.length - 1, none⟩ (.bool true)).ownsRow w.heap.size 4 1 (.slice (some ⟨w.heap.size, 0, none⟩) p.length p.length) p.length ((use0 tb p).1.map bvB)) := HU
  have HB4 : Hid (Below w.heap.size w (w2.setCell ⟨w.heap.size, p.length - 1, none⟩ (.bool true))) := HB2
  clear HU HB2
  go_loopw [4] (fun kx wr => ∃ (m : Nat) (z : Int) (st : List Bool × List Bool), m + 1 ≤ p.length ∧ kx = .int .i64 z ∧ z = (m : Int) ∧ Hid (useF p (m + 1) st = F) ∧ Hid (st.1.length = p.length) ∧ Hid (wr.ownsRow w.heap.size 4 1 (.slice (some ⟨w.heap.size, 0, none⟩) p.length p.length) p.length (st.1.map bvB)) ∧ Hid (Below w.heap.size w wr)) (fun kx _ => (intOf kx).toNat)
  case atStart => exact ⟨p.length - 1, _, use0 tb p, by omega, rfl, by omega, by show _ = _; rw [Nat.sub_add_cancel (by omega)]; exact HFE.out, HL0, HU4, HB4⟩
  case round =>
    clear HU4 HB4 HL0
    obtain ⟨m, z, st, hm, rfl, rfl, HF, HL, HU, HB⟩ := hrel
    have hgU : w.heap.size < wr.heap.size := (HU.out.lt w.heap.size rfl).2
    cases m with
    | zero =>
      have hF1 : F.1 = st.1 := by
        rw [← HF.out]
        show (useOne (p.getD 0 nilS) 0 st).1 = st.1
        rw [getD_lt (show 0 < p.length by omega)]
        exact HFIRST.out st
      have HO := HU.out
      rw [← hF1] at HO
      have HO2 := Lib.hid HO
      clear HO hF1 HF HL HU
      go_wp2
      go_ret
      exact ⟨w.heap.size, p.length, ⟨by rw [HUL.out]; rfl, by rw [HUL.out]; exact HO2.out⟩, HB.out⟩
    | succ k =>
      have hkp : k + 1 < p.length := by omega
      obtain ⟨rfl, hgP, A1, c1, g1, o1, A2, c2, g2, o2, x0, x1, x2, x3, x4, x5, -, -, -⟩ := (HP.out.below HB.out).at (k + 1) hkp
      have HRF := Lib.hid (HREF.out (k + 1) hkp)
      have HGD : p.getD (k + 1) nilS = p[k + 1] := getD_lt hkp _
      have HN := Lib.hid (HNE.out (k + 1) hkp st HL.out)
      have HF2 := Lib.hid (show useF p (k + 1) (useOne p[k + 1] (k + 1) st) = F from by rw [← HGD]; exact HF.out)
      have HLN : Hid ((useOne p[k + 1] (k + 1) st).1.length = p.length) := (useOne_len _ _ _).1.trans HL.out
      obtain ⟨S, hS⟩ : ∃ S, p[k + 1] = S := ⟨_, rfl⟩
      rw [hS] at x0 x1 x2 x3 x4 x5 HRF HN HF2 HLN
      obtain ⟨ST, hST⟩ : ∃ ST, useOne S (k + 1) st = ST := ⟨_, rfl⟩
      rw [hST] at HN HF2 HLN
      obtain ⟨s1, s2, s3, s4, es, ns⟩ := S
      simp only at x0 x1 x2 x3 x4 x5 HRF
      have hku : k + 1 < st.1.length := by rw [HL.out]; exact hkp
      have hcU := own_cellB HU.out hku
      obtain ⟨uk, huk⟩ : ∃ u, st.1.getD (k + 1) false = u := ⟨_, rfl⟩
      rw [huk] at hcU
      rw [needOne, huk] at HN
      simp only at HN
      have i0' : (0 : Int) ≤ ((k + 1 : Nat) : Int) := by omega
      have i1' : ((k + 1 : Nat) : Int) < (p.length : Int) := by omega
      have CA := Lib.hid (fun W => stepAsks s1 W)
      obtain ⟨q, hq⟩ : ∃ q, asksI s1 = q := ⟨_, rfl⟩
      rw [hq] at CA HN
      have hq3 := asks_three s1
      rw [hq] at hq3
      have HKA : Hid (q ≠ 0 → inB s2 (k + 1) = true ∧ inB s3 (k + 1) = true) := fun h0 => HRF.out.2 (fun e => h0 (by rw [← hq, e]; rfl))
      clear hS hST huk hq HGD HF HRF
      cases uk with
      | false =>
        rw [if_pos rfl] at HN
        have HU2 := HU.out
        rw [← HN.out] at HU2
        have HU3 := Lib.hid HU2
        clear HU2 HU
        go_wp2_with (go_at_call 93; (with_reducible refine (CA.out _).mono ?_); rintro e w3 ⟨rfl, rfl⟩)
        all_goals exact ⟨⟨k, _, ST, by omega, rfl, by omega, HF2, HLN, HU3, HB⟩, by first | (simp [intOf]; done) | (simp [intOf]; omega)⟩
      | true =>
        rw [if_neg (by decide)] at HN
        rcases hq3 with rfl | rfl | rfl
        · rw [if_pos rfl] at HN
          have HU2 := HU.out
          rw [← HN.out] at HU2
          have HU3 := Lib.hid HU2
          clear HU2 HU
          go_wp2_with (go_at_call 93; (with_reducible refine (CA.out _).mono ?_); rintro e w3 ⟨rfl, rfl⟩)
          all_goals exact ⟨⟨k, _, ST, by omega, rfl, by omega, HF2, HLN, HU3, HB⟩, by first | (simp [intOf]; done) | (simp [intOf]; omega)⟩
        · obtain ⟨ha, -⟩ := HKA.out (by decide)
          obtain ⟨a, rfl, hak⟩ := inB_nat ha
          rw [if_neg (by decide), if_pos rfl, Int.toNat_natCast] at HN
          have hal : a < st.1.length := by omega
          have hca := own_cellB HU.out hal
          have hfa := HU.out.frozenAt a
          have a0' : (0 : Int) ≤ (a : Int) := by omega
          have a1' : (a : Int) < (p.length : Int) := by omega
          have hne : ¬ a = k + 1 := by omega
          have hcm := own_cellB (own_setB (j := a) (b := true) HU.out) (show k + 1 < (st.1.set a true).length by rw [List.length_set]; exact hku)
          have hgm : (st.1.set a true).getD (k + 1) false = true := set_true (by
            have := own_cellB HU.out hku
            rw [hcU] at this
            have h9 := Option.some.inj this
            injection h9 with h9
            exact h9.symm)
          rw [hgm] at hcm
          obtain ⟨va, hva⟩ : ∃ v, st.1.getD a false = v := ⟨_, rfl⟩
          rw [hva] at hca
          have HU3 : Hid ((wr.setCell ⟨w.heap.size, a, none⟩ (.bool true)).ownsRow w.heap.size 4 1 (.slice (some ⟨w.heap.size, 0, none⟩) p.length p.length) p.length (ST.1.map bvB)) := by
            show World.ownsRow _ _ _ _ _ _ _
            rw [HN.out]; exact own_setB HU.out
          have HB3 := Lib.hid (HB.out.setCell (p := ⟨w.heap.size, a, none⟩) (Nat.le_refl _) (.bool true))
          clear HU hva hgm
          go_wp2_with (go_at_call 93; (with_reducible refine (CA.out _).mono ?_); rintro e w3 ⟨rfl, rfl⟩)
          all_goals exact ⟨⟨k, _, ST, by omega, rfl, by omega, HF2, HLN, HU3, HB3⟩, by first | (simp [intOf]; done) | (simp [intOf]; omega)⟩
        · obtain ⟨ha, hb⟩ := HKA.out (by decide)
          obtain ⟨a, rfl, hak⟩ := inB_nat ha
          obtain ⟨b, rfl, hbk⟩ := inB_nat hb
          rw [if_neg (by decide), if_neg (by decide), Int.toNat_natCast, Int.toNat_natCast] at HN
          have hal : a < st.1.length := by omega
          have hca := own_cellB HU.out hal
          have hfa := HU.out.frozenAt a
          have a0' : (0 : Int) ≤ (a : Int) := by omega
          have a1' : (a : Int) < (p.length : Int) := by omega
          have b0' : (0 : Int) ≤ (b : Int) := by omega
          have b1' : (b : Int) < (p.length : Int) := by omega
          have hne : ¬ a = k + 1 := by omega
          have hcm := own_cellB (own_setB (j := a) (b := true) HU.out) (show k + 1 < (st.1.set a true).length by rw [List.length_set]; exact hku)
          have hgm : (st.1.set a true).getD (k + 1) false = true := set_true (by
            have := own_cellB HU.out hku
            rw [hcU] at this
            have h9 := Option.some.inj this
            injection h9 with h9
            exact h9.symm)
          rw [hgm] at hcm
          have hcb := own_cellB (own_setB (j := a) (b := true) HU.out) (show b < (st.1.set a true).length by rw [List.length_set]; omega)
          have hfb := (own_setB (j := a) (b := true) HU.out).frozenAt b
          obtain ⟨va, hva⟩ : ∃ v, st.1.getD a false = v := ⟨_, rfl⟩
          rw [hva] at hca
          obtain ⟨vb, hvb⟩ : ∃ v, (st.1.set a true).getD b false = v := ⟨_, rfl⟩
          rw [hvb] at hcb
          have HU3 : Hid (((wr.setCell ⟨w.heap.size, a, none⟩ (.bool true)).setCell ⟨w.heap.size, b, none⟩ (.bool true)).ownsRow w.heap.size 4 1 (.slice (some ⟨w.heap.size, 0, none⟩) p.length p.length) p.length (ST.1.map bvB)) := by
            show World.ownsRow _ _ _ _ _ _ _
            rw [HN.out]; exact own_setB (own_setB HU.out)
          have HB3 := Lib.hid ((HB.out.setCell (p := ⟨w.heap.size, a, none⟩) (Nat.le_refl _) (.bool true)).setCell (p := ⟨w.heap.size, b, none⟩) (Nat.le_refl _) (.bool true))
          clear HU hva hgm hvb
          go_wp2_with (go_at_call 93; (with_reducible refine (CA.out _).mono ?_); rintro e w3 ⟨rfl, rfl⟩)
          all_goals exact ⟨⟨k, _, ST, by omega, rfl, by omega, HF2, HLN, HU3, HB3⟩, by first | (simp [intOf]; done) | (simp [intOf]; omega)⟩
end Go.Proofs.Ytacinjbaebimhaa.Val
namespace Go.Proofs.Ytacinjbaebimhaa.Val
open Go.RowKit
set_option linter.unusedVariables false
set_option linter.unusedSimpArgs false
set_option maxRecDepth 8000
end Go.Proofs.Ytacinjbaebimhaa.Val
namespace Go.Proofs.Ytacinjbaebimhaa.Val
open Go.RowKit
set_option linter.unusedVariables false
set_option maxRecDepth 8000
end Go.Proofs.Ytacinjbaebimhaa.Val
namespace Go.Proofs.Ytacinjbaebimhaa.Val
open Go.RowKit
set_option linter.unusedVariables false
set_option maxRecDepth 8000
end Go.Proofs.Ytacinjbaebimhaa.Val
namespace Go.Proofs.Ytacinjbaebimhaa.Val
open Go.RowKit
set_option linter.unusedVariables false
set_option linter.unusedSimpArgs false
set_option maxRecDepth 8000
end Go.Proofs.Ytacinjbaebimhaa.Val
namespace Go.Proofs.Ytacinjbaebimhaa.Val
open Go.RowKit
set_option linter.unusedVariables false
set_option linter.unusedSimpArgs false
set_option maxRecDepth 8000
end Go.Proofs.Ytacinjbaebimhaa.Val
namespace Go.Proofs.Ytacinjbaebimhaa.Val
open Go.RowKit
set_option linter.unusedVariables false
set_option linter.unusedSimpArgs false
set_option maxRecDepth 8000
end Go.Proofs.Ytacinjbaebimhaa.Val
namespace Go.Proofs.Ytacinjbaebimhaa.Val
open Go.RowKit
set_option linter.unusedVariables false
set_option linter.unusedSimpArgs false
set_option maxRecDepth 8000
/-- Rows of one's own, or nil. -/
def BagN (w : World) (B : Nat) (A : Option Addr) (g c : Nat) (T : List TT) (ls : List RT) : Prop := (A = some ⟨g, 0, none⟩ ∧ Bag w B g c T ls) ∨ (A = none ∧ c = 0 ∧ ls = [] ∧ T = [])
theorem BagN.rws {w : World} {B g c : Nat} {A : Option Addr} {T : List TT} {ls : List RT} (h : BagN w B A g c T ls) : Rws w g 0 A ls := by
  rcases h with ⟨rfl, h⟩ | ⟨rfl, -, rfl, -⟩
  · exact h.rws
  · exact ⟨fun h => absurd h (by simp), fun j hj => absurd hj (by simp)⟩
theorem BagN.eq {w : World} {B g c : Nat} {A : Option Addr} {T : List TT} {ls : List RT} (h : BagN w B A g c T ls) : T.map (fun t => t.2.2) = ls := by
  rcases h with ⟨rfl, h⟩ | ⟨rfl, -, rfl, rfl⟩
  · exact h.eq
  · rfl
theorem BagN.below {w w' : World} {B g c : Nat} {A : Option Addr} {T : List TT} {ls : List RT} (h : BagN w B A g c T ls) (hb : Below w.heap.size w w') : BagN w' B A g c T ls := by
  rcases h with ⟨h1, h⟩ | h
  · exact .inl ⟨h1, h.below hb⟩
  · exact .inr h
theorem BagN.alloc {w : World} {B g c : Nat} {A : Option Addr} {T : List TT} {ls : List RT} (h : BagN w B A g c T ls) (ob : Obj) : BagN (w.alloc ob) B A g c T ls := h.below ((Below.refl _ _).alloc (Nat.le_refl _) _)
theorem BagN.drew {w : World} {B g c : Nat} {A : Option Addr} {T : List TT} {ls : List RT} (h : BagN w B A g c T ls) : BagN w.drew B A g c T ls := h.below ((Below.refl _ _).drew)
theorem BagN.hiI {w w' : World} {B g c lo hi : Nat} {A : Option Addr} {T : List TT} {ls : List RT} (h : BagN w B A g c T ls) (hB : hi ≤ B) (ho : OnlyI lo hi w w') : BagN w' B A g c T ls := by
  rcases h with ⟨h1, h⟩ | h
  · exact .inl ⟨h1, h.hiI hB ho⟩
  · exact .inr h
end Go.Proofs.Ytacinjbaebimhaa.Val
