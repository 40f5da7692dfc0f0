/- TablesOk, the reference's; PlanOk, PlanColumns: the reference's; The rows of all steps; PlanRows: the reference's; The tables that a plan asks for: the reference's PlanTables. -/
import Derived.Test.YtacinjbaebimhaaTabKQ
import Derived.Test.YtacinjbaebimhaaPColKQ
import Derived.Test.YtacinjbaebimhaaPRowKQ
import Derived.BigQuiet
namespace Go.Proofs.Ytacinjbaebimhaa.Val
open Go.RowKit
set_option linter.unusedVariables false
set_option maxRecDepth 8000
def tab1B (t : TB) : Bool := decide (t.2.length ≤ 6) && rowsB t.1 t.2
theorem tablesB_eq (tb : List TB) : tablesB tb = (decide (tb.length ≤ 3) && tb.all tab1B) := rfl
theorem keepTb {w W W1 : World} {g g1 o1 g2 o2 q q2 : Nat} {A1 A2 : Option Addr} {cs : List CT} {ls : List RT} {x y : Value} (h : W.cell? ⟨g, q, none⟩ = some x ∧ W.cell? ⟨g, q2, none⟩ = some y ∧ Fl W g1 o1 A1 (flatC cs) ∧ Rws W g2 o2 A2 ls ∧ Below w.heap.size w W ∧ w.heap.size ≤ W.heap.size) (hb : Below W.heap.size W W1) : W1.cell? ⟨g, q, none⟩ = some x ∧ W1.cell? ⟨g, q2, none⟩ = some y ∧ Fl W1 g1 o1 A1 (flatC cs) ∧ Rws W1 g2 o2 A2 ls ∧ Below w.heap.size w W1 ∧ w.heap.size ≤ W1.heap.size :=
  ⟨(hb.cell (p := ⟨g, q, none⟩) (World.block_lt_of_cell? W ⟨g, q, none⟩ h.1)).trans h.1, (hb.cell (p := ⟨g, q2, none⟩) (World.block_lt_of_cell? W ⟨g, q2, none⟩ h.2.1)).trans h.2.1, h.2.2.1.below hb, h.2.2.2.1.below hb, h.2.2.2.2.1.trans (hb.mono h.2.2.2.2.2), Nat.le_trans h.2.2.2.2.2 hb.size⟩
theorem keepTbD {w W : World} {g g1 o1 g2 o2 q q2 : Nat} {A1 A2 : Option Addr} {cs : List CT} {ls : List RT} {x y : Value} (h : W.cell? ⟨g, q, none⟩ = some x ∧ W.cell? ⟨g, q2, none⟩ = some y ∧ Fl W g1 o1 A1 (flatC cs) ∧ Rws W g2 o2 A2 ls ∧ Below w.heap.size w W ∧ w.heap.size ≤ W.heap.size) : W.drew.cell? ⟨g, q, none⟩ = some x ∧ W.drew.cell? ⟨g, q2, none⟩ = some y ∧ Fl W.drew g1 o1 A1 (flatC cs) ∧ Rws W.drew g2 o2 A2 ls ∧ Below w.heap.size w W.drew ∧ w.heap.size ≤ W.drew.heap.size := keepTb h ((Below.refl _ _).drew)
theorem keepTb1 {w W : World} {g g1 o1 g2 o2 q q2 : Nat} {A1 A2 : Option Addr} {cs : List CT} {ls : List RT} {x y : Value} (h : W.cell? ⟨g, q, none⟩ = some x ∧ W.cell? ⟨g, q2, none⟩ = some y ∧ Fl W g1 o1 A1 (flatC cs) ∧ Rws W g2 o2 A2 ls ∧ Below w.heap.size w W ∧ w.heap.size ≤ W.heap.size) : Fl W g1 o1 A1 (flatC cs) := h.2.2.1
theorem keepTb2 {w W : World} {g g1 o1 g2 o2 q q2 : Nat} {A1 A2 : Option Addr} {cs : List CT} {ls : List RT} {x y : Value} (h : W.cell? ⟨g, q, none⟩ = some x ∧ W.cell? ⟨g, q2, none⟩ = some y ∧ Fl W g1 o1 A1 (flatC cs) ∧ Rws W g2 o2 A2 ls ∧ Below w.heap.size w W ∧ w.heap.size ≤ W.heap.size) : Rws W g2 o2 A2 ls := h.2.2.2.1
theorem keepTb3 {w W : World} {g g1 o1 g2 o2 q q2 : Nat} {A1 A2 : Option Addr} {cs : List CT} {ls : List RT} {x y : Value} (h : W.cell? ⟨g, q, none⟩ = some x ∧ W.cell? ⟨g, q2, none⟩ = some y ∧ Fl W g1 o1 A1 (flatC cs) ∧ Rws W g2 o2 A2 ls ∧ Below w.heap.size w W ∧ w.heap.size ≤ W.heap.size) : Below w.heap.size w W := h.2.2.2.2.1
set_option maxHeartbeats 2000000 in
theorem tablesOkS (A : Option Addr) (g o cap : Nat) (ts : List TB) (w : World) (hA : Tbs w g o A ts) (hok : OkT ts) :
    Calls Try.prog 48 #[.slice A ts.length cap] w fun e w' => e = .returned (.bool (tablesB ts)) ∧ Below w.heap.size w w' := by
  have HA := Lib.hid hA
  have HK := Lib.hid hok
  have hl := hok.1
  clear hA hok
  go_enter Try.func48, Try.ntmps48
  go_wp2
  go_loopw [3] (fun ix wr => ∃ (k : Nat), k ≤ ts.length ∧ ix = .int .i64 k ∧ Hid ((ts.take k).all tab1B = true) ∧ Hid (Below w.heap.size w wr)) (fun ix _ => ts.length - (intOf ix).toNat)
  case atStart => exact ⟨0, Nat.zero_le _, rfl, rfl, Below.refl _ _⟩
  case round =>
    obtain ⟨k, hk, rfl, HL, HW⟩ := hrel
    by_cases hlt : k < ts.length
    · obtain ⟨rfl, hg, A1, c1, g1, o1, A2, c2, g2, o2, hc0, hc1, hf1, hr1, -, -⟩ := (HA.out.below HW.out).at k hlt
      have HF := Lib.hid hf1
      have HR := Lib.hid hr1
      obtain ⟨hlc, hlr⟩ := HK.out.at k hlt
      have HS := Lib.hid (all_snoc tab1B ts k hlt)
      have HN := Lib.hid (fun hp => all_no (p := tab1B) k hlt hp)
      obtain ⟨K, hK⟩ : ∃ K, ts[k] = K := ⟨_, rfl⟩
      rw [hK] at hc0 hc1 HF HR HS HN hlc hlr
      clear hK hf1 hr1
      obtain ⟨cs, ls⟩ := K
      simp only at hc0 hc1 HF HR hlc hlr
      have CR := Lib.hid (fun W hW hW2 => rowsOkS A1 A2 g1 o1 g2 o2 c1 c2 cs ls W hW hW2 hlc hlr)
      have HT : Hid (tab1B (cs, ls) = (decide (ls.length ≤ 6) && rowsB cs ls)) := rfl
      obtain ⟨B1, hB1⟩ : ∃ b, rowsB cs ls = b := ⟨_, rfl⟩
      rw [hB1] at CR HT
      obtain ⟨kl, hkl⟩ : ∃ n, cs.length = n := ⟨_, rfl⟩
      rw [hkl] at hc0 CR
      obtain ⟨kr, hkr⟩ : ∃ n, ls.length = n := ⟨_, rfl⟩
      rw [hkr] at hc1 CR HT
      have hkr2 : kr ≤ 2000000 := by have := hlr.1; omega
      clear hkl hkr hlc hlr hB1
      have i0' : (0 : Int) ≤ (k : Int) := by omega
      have i1' : (k : Int) < (ts.length : Int) := by omega
      have HS0 : (fun w' => w'.cell? ⟨g, o + k * 2, none⟩ = some (.slice A1 kl c1) ∧ w'.cell? ⟨g, o + k * 2 + 1, none⟩ = some (.slice A2 kr c2) ∧ Fl w' g1 o1 A1 (flatC cs) ∧ Rws w' g2 o2 A2 ls ∧ Below w.heap.size w w' ∧ w.heap.size ≤ w'.heap.size) wr := ⟨hc0, hc1, HF.out, HR.out, HW.out, HW.out.size⟩
      clear HF HR
      by_cases h6 : kr ≤ 6
      · clear hc0 hc1
        have q1 : decide (6 < (kr : Int)) = false := by simp; omega
        go_wp2_with (fail)
        go_region_held_law (fun w' => w'.cell? ⟨g, o + k * 2, none⟩ = some (.slice A1 kl c1) ∧ w'.cell? ⟨g, o + k * 2 + 1, none⟩ = some (.slice A2 kr c2) ∧ Fl w' g1 o1 A1 (flatC cs) ∧ Rws w' g2 o2 A2 ls ∧ Below w.heap.size w w' ∧ w.heap.size ≤ w'.heap.size) (first | exact keepTb (by assumption) hbq | exact keepTbD (by assumption) | assumption) (first | (go_at_call 85; (with_reducible refine (CR.out _ (keepTb1 (by assumption)) (keepTb2 (by assumption))).mono ?_); rintro e w1 ⟨rfl, hbq⟩))
        have HWn := Lib.hid (keepTb3 (by assumption))
        go_wp2
        · go_ret
          refine ⟨retB ?_, HWn.out⟩
          have hb : B1 = false := not_of (by assumption)
          rw [tablesB_eq, HN.out (by rw [HT.out, hb]; simp)]; simp
        · go_round
          case rel =>
            have hb : B1 = true := yes_of (by assumption)
            refine ⟨k + 1, by omega, by go_num, ?_, HWn⟩
            show _ = _
            rw [HS.out, HL.out, HT.out, hb]; simp; omega
          case measure => simp [intOf]; omega
      · have q1 : (6 < (kr : Int)) := by omega
        go_wp2_with (fail)
        go_quiet (fail)
        go_wp2
        go_ret
        refine ⟨retB ?_, below_drewN HW.out _⟩
        rw [tablesB_eq, HN.out (by rw [HT.out]; simp; omega)]; simp
    · obtain rfl : k = ts.length := by omega
      go_wp2
      go_ret
      refine ⟨retB ?_, HW.out⟩
      rw [tablesB_eq, all_end HL, Bool.eq_iff_iff]; simp; try omega
end Go.Proofs.Ytacinjbaebimhaa.Val
namespace Go.Proofs.Ytacinjbaebimhaa.Val
open Go.RowKit
set_option linter.unusedVariables false
set_option maxRecDepth 8000
theorem all_ok {r : Option (List (List CT) × List Nat)} {ok : Bool} {cl : List (List CT)} (h : r.map (fun st => st.1) = if ok = true then some cl else none) : ok = r.isSome := by
  cases ok with
  | false => cases r with
    | none => rfl
    | some st => simp at h
  | true => cases r with
    | none => simp at h
    | some st => rfl
theorem all_eq {ok : Bool} {cl : List (List CT)} {st : List (List CT) × List Nat} (h : (some st).map (fun st => st.1) = if ok = true then some cl else none) : cl = st.1 := by
  cases ok with
  | false => simp at h
  | true => simp at h; exact h.symm
theorem planOkS (AT AP : Option Addr) (gT oT cT gP oP cP : Nat) (tb : List TB) (p : List SP) (w : World) (hT : Tbs w gT oT AT tb) (hok : OkT tb) (hP : Sps w gP oP AP p) (hps : OkS p) :
    Calls Try.prog 13 #[.slice AT tb.length cT, .slice AP p.length cP] w fun e w' => e = .returned (.bool (planB tb p)) ∧ Below w.heap.size w w' := by
  have HT := Lib.hid hT
  have HP := Lib.hid hP
  have hpl := hps.1
  have CA := Lib.hid (fun W h1 h2 => l6All AT AP gT oT cT gP oP cP tb p W h1 hok h2 hps)
  have CT := Lib.hid (fun W h1 => tablesOkS AT gT oT cT tb W h1 hok)
  have CI := Lib.hid (fun W => l1In (p.length : Int) 1 6 W)
  unfold RetAll at CA
  have HPB : Hid (planB tb p = ((allI tb p).isSome && tablesB tb && (decide (1 ≤ p.length) && decide (p.length ≤ 6)))) := rfl
  have hl6 : (decide ((1 : Int) ≤ (p.length : Int)) && decide ((p.length : Int) ≤ 6)) = (decide (1 ≤ p.length) && decide (p.length ≤ 6)) := by congr 1 <;> exact decide_eq_decide.2 (by omega)
  rw [hl6] at CI
  obtain ⟨b2, hb2⟩ : ∃ b, tablesB tb = b := ⟨_, rfl⟩
  obtain ⟨b3, hb3⟩ : ∃ b, (decide (1 ≤ p.length) && decide (p.length ≤ 6)) = b := ⟨_, rfl⟩
  rw [hb2] at CT HPB
  rw [hb3] at CI HPB
  obtain ⟨r, hr⟩ : ∃ r, allI tb p = r := ⟨_, rfl⟩
  rw [hr] at CA HPB
  clear hT hok hP hps hl6 hb2 hb3 hr
  have CI2 := Lib.hid (fun W => show Calls Try.prog 49 #[.int .i64 (p.length : Int), .int .i64 1, .int .i64 6] W fun e w' => e = .returned (.bool b3) ∧ Below W.heap.size W w' by
    refine (CI.out W).mono ?_
    rintro e w1 ⟨rfl, rfl⟩
    exact ⟨rfl, Below.refl _ _⟩)
  have HB := Lib.hid (Below.refl w.heap.size w)
  have S0 := True.intro
  go_enter Try.func13, Try.ntmps13
  cases b2 <;> cases b3 <;> cases r
  all_goals go_wp2_with (first
    | ((have _ := S0); (fail_if_success (have _ := S1)); go_at_call 47; (with_reducible refine (CA.out _ (HT.out.below HB.out) (HP.out.below HB.out)).mono ?_); rintro e wn0 ⟨ga, ca, Ta, cl, ok, ⟨rfl, hc, hr⟩, hb1⟩; have HBn : Hid (Below w.heap.size w wn0) := Below.trans (by repeat (with_reducible first | exact HB.out | refine Below.alloc ?_ (by first | omega | (have := HB.out.size; omega) | (simp; done) | (have := HB.out.size; simp; omega)) _ | apply Below.drew)) (Below.mono hb1 (by have := HB.out.size; first | omega | (simp; omega))); clear HB; have HB := HBn; clear HBn; have h9 := all_ok hr; simp only [Option.isSome_none, Option.isSome_some] at h9; subst h9; clear hc hr; clear hb1; have S1 := True.intro)
    | ((have _ := S1); (fail_if_success (have _ := S2)); go_at_call 48; (with_reducible refine (CT.out _ (HT.out.below HB.out)).mono ?_); rintro e wn1 ⟨rfl, hb1⟩; have HBn : Hid (Below w.heap.size w wn1) := Below.trans (by repeat (with_reducible first | exact HB.out | refine Below.alloc ?_ (by first | omega | (have := HB.out.size; omega) | (simp; done) | (have := HB.out.size; simp; omega)) _ | apply Below.drew)) (Below.mono hb1 (by have := HB.out.size; first | omega | (simp; omega))); clear HB; have HB := HBn; clear HBn; clear hb1; have S2 := True.intro)
    | ((have _ := S2); (fail_if_success (have _ := S3)); go_at_call 49; (with_reducible refine (CI2.out _).mono ?_); rintro e wn2 ⟨rfl, hb1⟩; have HBn : Hid (Below w.heap.size w wn2) := Below.trans (by repeat (with_reducible first | exact HB.out | refine Below.alloc ?_ (by first | omega | (have := HB.out.size; omega) | (simp; done) | (have := HB.out.size; simp; omega)) _ | apply Below.drew)) (Below.mono hb1 (by have := HB.out.size; first | omega | (simp; omega))); clear HB; have HB := HBn; clear HBn; clear hb1; have S3 := True.intro)
    | ((have _ := S1); (fail_if_success (have _ := S2)); go_at_call 49; (with_reducible refine (CI2.out _).mono ?_); rintro e wn1 ⟨rfl, hb1⟩; have HBn : Hid (Below w.heap.size w wn1) := Below.trans (by repeat (with_reducible first | exact HB.out | refine Below.alloc ?_ (by first | omega | (have := HB.out.size; omega) | (simp; done) | (have := HB.out.size; simp; omega)) _ | apply Below.drew)) (Below.mono hb1 (by have := HB.out.size; first | omega | (simp; omega))); clear HB; have HB := HBn; clear HBn; clear hb1; have S2 := True.intro))
  all_goals (go_ret; exact ⟨retB (by rw [HPB.out]; first | rfl | simp), HB.out⟩)
/-- A plan that is one has its columns. -/
theorem pcols_some {tb : List TB} {p : List SP} {st : List (List CT) × List Nat} (hp : planB tb p = true) (h : allI tb p = some st) : pcolsI tb p = st.1.getD (p.length - 1) [] := by rw [pcolsI, if_pos hp, h]; rfl
set_option maxHeartbeats 4000000 in
theorem planColumnsS (AT AP : Option Addr) (gT oT cT gP oP cP : Nat) (tb : List TB) (p : List SP) (w : World) (hT : Tbs w gT oT AT tb) (hok : OkT tb) (hP : Sps w gP oP AP p) (hps : OkS p) :
    Calls Try.prog 17 #[.slice AT tb.length cT, .slice AP p.length cP] w (RetFl (pcolsI tb p).length (flatC (pcolsI tb p)) w) := by
  obtain ⟨i0, hi, iz0, iz1, iz2⟩ := info_parts infoC
  have HT := Lib.hid hT
  have HP := Lib.hid hP
  have hpl2 := hps.1
  have CO := Lib.hid (fun W h1 h2 => planOkS AT AP gT oT cT gP oP cP tb p W h1 hok h2 hps)
  have CA := Lib.hid (fun W h1 h2 => l6All AT AP gT oT cT gP oP cP tb p W h1 hok h2 hps)
  unfold RetAll at CA
  have HB := Lib.hid (Below.refl w.heap.size w)
  have S0 := True.intro
  cases hpb : planB tb p with
  | false =>
    have hz : pcolsI tb p = [] := by rw [pcolsI, hpb]; rfl
    rw [hz]
    rw [hpb] at CO
    clear hT hok hP hps
    go_enter Try.func17, Try.ntmps17
    go_wp2_with (((have _ := S0); (fail_if_success (have _ := S1)); go_at_call 13; (with_reducible refine (CO.out _ (HT.out.below HB.out) (HP.out.below HB.out)).mono ?_); rintro e wn0 ⟨rfl, hb1⟩; have HBn : Hid (Below w.heap.size w wn0) := Below.trans (by repeat (with_reducible first | exact HB.out | refine Below.alloc ?_ (by first | omega | (have := HB.out.size; omega) | (simp; done) | (have := HB.out.size; simp; omega)) _ | apply Below.drew)) (Below.mono hb1 (by have := HB.out.size; first | omega | (simp; omega))); clear HB; have HB := HBn; clear HBn; clear hb1; have S1 := True.intro))
    go_ret
    exact ⟨wn0.heap.size, 0, rfl, FlO.of_own (own_empty3 37 2 rfl HB.out.size), HB.out.alloc HB.out.size _⟩
  | true =>
    obtain ⟨⟨st, hst⟩, -, h1, h6⟩ := planB_iff.1 hpb
    obtain ⟨l1, l2⟩ := allI_len hst
    have hsm := (allI_small (p := p) hok p.length (Nat.le_refl _) st (by rw [List.take_length]; exact hst)).1
    have hpl : p.length - 1 < st.1.length := by omega
    have HG : Hid (pcolsI tb p = st.1[p.length - 1]) := by show _ = _; rw [pcols_some hpb hst, getD_lt hpl]
    have hxl := hsm _ (List.getElem_mem hpl)
    rw [HG.out]
    rw [hpb] at CO
    rw [hst] at CA
    obtain ⟨X, hX⟩ : ∃ X, st.1[p.length - 1] = X := ⟨_, rfl⟩
    have HX : Hid (∀ cl : List (List CT), cl = st.1 → ∃ h : p.length - 1 < cl.length, cl[p.length - 1] = X) := fun cl e => by subst e; exact ⟨hpl, hX⟩
    rw [hX] at hxl ⊢
    obtain ⟨xl, hxl2⟩ : ∃ m, X.length = m := ⟨_, rfl⟩
    have HXL := Lib.hid hxl2
    have hxf := Lib.hid (show (flatC X).length = xl * 2 by rw [flatC_len, hxl2])
    rw [hxl2] at hxl
    have HLL := Lib.hid (show st.1.length = p.length from l1)
    obtain ⟨n, hn⟩ : ∃ n, p.length = n + 1 := ⟨p.length - 1, by omega⟩
    have HN := Lib.hid hn
    have j0' : ((p.length : Int) - 1).toNat = n := by omega
    have j1' : (0 : Int) ≤ (p.length : Int) - 1 := by omega
    have j2' : (p.length : Int) - 1 < (p.length : Int) := by omega
    have HN9 := Lib.hid (show p.length - 1 = n by omega)
    clear hT hok hP hps hX hxl2 hst hpb hsm HG hn HN h1 h6 l1 l2 hpl
    go_enter Try.func17, Try.ntmps17
    go_wp2_with (first
      | ((have _ := S0); (fail_if_success (have _ := S1)); go_at_call 13; (with_reducible refine (CO.out _ (HT.out.below HB.out) (HP.out.below HB.out)).mono ?_); rintro e wn0 ⟨rfl, hb1⟩; have HBn : Hid (Below w.heap.size w wn0) := Below.trans (by repeat (with_reducible first | exact HB.out | refine Below.alloc ?_ (by first | omega | (have := HB.out.size; omega) | (simp; done) | (have := HB.out.size; simp; omega)) _ | apply Below.drew)) (Below.mono hb1 (by have := HB.out.size; first | omega | (simp; omega))); clear HB; have HB := HBn; clear HBn; clear hb1; have S1 := True.intro)
      | ((have _ := S1); (fail_if_success (have _ := S2)); go_at_call 47; (with_reducible refine (CA.out _ (HT.out.below HB.out) (HP.out.below HB.out)).mono ?_); rintro e wn1 ⟨ga, ca, Ta, cl, ok, ⟨rfl, hc, hr⟩, hb1⟩; have HBn : Hid (Below w.heap.size w wn1) := Below.trans (by repeat (with_reducible first | exact HB.out | refine Below.alloc ?_ (by first | omega | (have := HB.out.size; omega) | (simp; done) | (have := HB.out.size; simp; omega)) _ | apply Below.drew)) (Below.mono hb1 (by have := HB.out.size; first | omega | (simp; omega))); clear HB; have HB := HBn; clear HBn; have HEQ := all_eq hr; have h9 := all_ok hr; simp only [Option.isSome_some] at h9; subst h9; obtain ⟨hlt9, hel⟩ := HX.out cl HEQ; have HC := Lib.hid hc; obtain ⟨-, hga, cx, gx, ox, hcx, hfx⟩ := hc.cls.at (p.length - 1) hlt9; rw [hel] at hcx hfx; rw [HXL.out, HN9.out] at hcx; (try simp only [Nat.zero_add] at hcx); have HFX := Lib.hid hfx; have hcll : cl.length = p.length := (by rw [HEQ, HLL.out]); rw [hcll]; have OWN := Lib.hid (own_empty3 (w := wn1) (B := w.heap.size) 37 2 rfl (by have := HB.out.size; have := hb1.size; omega)); clear hc hr hfx hlt9 hel HEQ; clear hb1; have S2 := True.intro)
      | (at_builtin; go_loud (refine wpList_append_block _ rfl (.tmp 18) (.tmp 24) 34 rfl w.heap.size 37 i0 (.agg #[.int .i64 0, .bool false]) 2 16 Try.underlying34 hi iz0 iz1 iz2 rfl (by decide) wn1.heap.size 0 0 [] rfl OWN.out _ xl _ (flatC X) rfl hxf.out (news_flo (HFX.out.alloc _)) (one_flatC X) (by unfold maxLen; omega) (by omega) (by have := HB.out.size; first | omega | (simp; done) | (simp; omega)) ?_); intro g2 c3 w2 hown hgr hgg; (try simp only [Nat.zero_add, List.nil_append] at hown); have HO := Lib.hid hown; have HB2 := Lib.hid (Below.grown (HB.out.alloc HB.out.size _) hgr (by have := HB.out.size; simp; omega) (fun k hk => by obtain rfl := Option.some.inj hk; exact HB.out.size)); clear hown hgr hgg))
    go_ret
    exact ⟨g2, c3, by rw [HXL.out]; rfl, by rw [HXL.out]; exact FlO.of_own HO.out, HB2.out⟩
end Go.Proofs.Ytacinjbaebimhaa.Val
namespace Go.Proofs.Ytacinjbaebimhaa.Val
open Go.RowKit
set_option linter.unusedVariables false
set_option maxRecDepth 8000
end Go.Proofs.Ytacinjbaebimhaa.Val
namespace Go.Proofs.Ytacinjbaebimhaa.Val
open Go.RowKit
set_option linter.unusedVariables false
set_option maxRecDepth 8000
def bvB (b : Bool) : Value := .bool b
theorem own_setFar {w : World} {B g n cap size b o : Nat} {e : TypeId} {xs : List Value} {u : Value} (h : w.ownsRow B e size (.slice (some ⟨g, 0, none⟩) n cap) n xs) (hb : g ≠ b) : (w.setCell ⟨b, o, none⟩ u).ownsRow B e size (.slice (some ⟨g, 0, none⟩) n cap) n xs := own_keep h (Below.heap_setCell _ _ _ _ hb)
theorem own_setB {w : World} {B g n cap j : Nat} {e : TypeId} {l : List Bool} {b : Bool} (h : w.ownsRow B e 1 (.slice (some ⟨g, 0, none⟩) n cap) n (l.map bvB)) : (w.setCell ⟨g, j, none⟩ (.bool b)).ownsRow B e 1 (.slice (some ⟨g, 0, none⟩) n cap) n ((l.set j b).map bvB) := by
  have := (h.stored j (.bool b)).1
  rwa [show (.bool b : Value) = bvB b from rfl, ← List.map_set] at this
theorem own_cellB {w : World} {B g n cap j : Nat} {e : TypeId} {l : List Bool} (h : w.ownsRow B e 1 (.slice (some ⟨g, 0, none⟩) n cap) n (l.map bvB)) (hj : j < l.length) : w.cell? ⟨g, j, none⟩ = some (.bool (l.getD j false)) := by
  have hn : n = l.length := by have := h.1; rw [List.length_map] at this; omega
  rw [h.cellAt j (by omega), List.getElem?_map, List.getElem?_eq_getElem hj, getD_lt hj]; rfl
theorem own_drewN {w : World} {B : Nat} {e : TypeId} {size n : Nat} {v : Value} {xs : List Value} (h : w.ownsRow B e size v n xs) (q : Nat) : (w.drewN q).ownsRow B e size v n xs := h
theorem infoB : (Try.prog.info? 4).map (fun i => (i.zero, i.size, i.bytes)) = some (some (.bool false), 1, 1) := by kernel_rfl
set_option maxHeartbeats 4000000 in
theorem planTablesS (AT AP : Option Addr) (gT oT cT gP oP cP : Nat) (tb : List TB) (p : List SP) (w : World) (hT : Tbs w gT oT AT tb) (hok : OkT tb) (hP : Sps w gP oP AP p) (hps : OkS p) :
    Calls Try.prog 24 #[.slice AT tb.length cT, .slice AP p.length cP] w (RetFl (ptabI tb p).length ((ptabI tb p).map nv) w) := by
  obtain ⟨i0, hi, iz0, iz1, iz2⟩ := info_parts infoB
  obtain ⟨j0, hj, jz0, jz1, jz2⟩ := info_parts infoN
  have HT := Lib.hid hT
  have HP := Lib.hid hP
  have hpl2 := hps.1
  have htl2 := hok.1
  have CO := Lib.hid (fun W h1 h2 => planOkS AT AP gT oT cT gP oP cP tb p W h1 hok h2 hps)
  have HB := Lib.hid (((Below.refl w.heap.size w).alloc (Nat.le_refl _) (.cells #[] 3)))
  have S0 := True.intro
  cases hpb : planB tb p with
  | false =>
    have hz : ptabI tb p = [] := by rw [ptabI, hpb]; rfl
    rw [hz]
    rw [hpb] at CO
    have OWN := Lib.hid (own_empty3 (w := w) (B := w.heap.size) 3 1 rfl (Nat.le_refl _))
    clear hT hok hP hps
    go_enter Try.func24, Try.ntmps24
    go_wp2_with (go_at_call 13; (with_reducible refine (CO.out _ (HT.out.alloc _) (HP.out.alloc _)).mono ?_); rintro e w1 ⟨rfl, hb1⟩; have OWN1 := Lib.hid (own_below OWN.out hb1); have HB1 := Lib.hid (HB.out.trans (hb1.mono (by simp))))
    go_ret
    exact ⟨w.heap.size, 0, rfl, FlO.of_own OWN1.out, HB1.out⟩
  | true =>
    rw [hpb] at CO
    obtain ⟨-, -, h1, h6⟩ := planB_iff.1 hpb
    have j1' : (0 : Int) ≤ (p.length : Int) - 1 := by omega
    have j2' : (p.length : Int) - 1 < (p.length : Int) := by omega
    go_enter Try.func24, Try.ntmps24
    have OWN := Lib.hid (own_empty3 (w := w) (B := w.heap.size) 3 1 rfl (Nat.le_refl _))
    go_wp2_with (first
      | (go_at_call 13; (with_reducible refine (CO.out _ (HT.out.alloc _) (HP.out.alloc _)).mono ?_); rintro e w1 ⟨rfl, hb1⟩; go_loud (have HB1 := Lib.hid (HB.out.trans (hb1.mono (by simp))); have OWN1 := Lib.hid (own_below OWN.out hb1); have hz1 := hb1.size; (simp only [World.size_alloc] at hz1); clear hb1))
      | (at_make; go_loud (refine wpList_make_full w1 rfl _ _ 86 rfl w1.heap.size 4 i0 (.bool false) 1 Try.underlying86 hi iz0 iz1 .i64 .i64 p.length p.length p.length rfl rfl rfl rfl (by rw [iz2]; omega) (by unfold maxLen; omega) (Nat.le_refl _) ?_); intro w2 hown hgr; go_loud (rw [show (madeCells (Value.bool false).cells (p.length * 1)).toList = (List.replicate p.length false).map bvB from by rw [Nat.mul_one, show (Value.bool false).cells = #[.bool false] from rfl, toList_madeCells_one, List.map_replicate]; rfl] at hown; have hst := (hown.stored (p.length - 1) (.bool true)).1; rw [show (.bool true : Value) = bvB true from rfl, ← List.map_set] at hst; have HU := Lib.hid hst; obtain ⟨v0, hv0⟩ : ∃ v, w2.cell? ⟨w1.heap.size, p.length - 1, none⟩ = some v := (by rw [hown.cellAt (p.length - 1) (by omega), List.getElem?_eq_getElem (by rw [hown.1]; omega)]; exact ⟨_, rfl⟩); have hf0 := hown.frozenAt (p.length - 1); have HB2 := Lib.hid (Below.grown (Below.refl w1.heap.size w1) hgr (Nat.le_refl _) (by intro k hk; cases hk)); have hz2 := (hown.lt w1.heap.size rfl).2; clear hown hgr hst))
      | (at_make; go_loud (refine wpList_make_full (w2.setCell ⟨w1.heap.size, p.length - 1, none⟩ (.bool true)) rfl _ _ 86 rfl w1.heap.size 4 i0 (.bool false) 1 Try.underlying86 hi iz0 iz1 .i64 .i64 tb.length tb.length tb.length rfl rfl rfl rfl (by rw [iz2]; omega) (by unfold maxLen; omega) (by simp [World.setCell]; omega) ?_); intro w3 hown hgr; go_loud (rw [show (w2.setCell ⟨w1.heap.size, p.length - 1, none⟩ (.bool true)).heap.size = w2.heap.size from by simp [World.setCell]] at hown; rw [show (madeCells (Value.bool false).cells (tb.length * 1)).toList = (List.replicate tb.length false).map bvB from by rw [Nat.mul_one, show (Value.bool false).cells = #[.bool false] from rfl, toList_madeCells_one, List.map_replicate]; rfl] at hown; have HA := Lib.hid hown; have HU3 := Lib.hid (own_keep HU.out (hgr.block _ (by simp [World.setCell]; omega) (by intro e; cases e))); have HB3 := Lib.hid (Below.grown (HB2.out.setCell (Nat.le_refl _) (.bool true)) hgr (by simp [World.setCell]; omega) (by intro k hk; cases hk)); have hz3 := (hown.lt w2.heap.size rfl).2; clear hown hgr)))
    have HST : Hid (∀ k (hk : k < p.length), (p[k].1 = 1 → inB p[k].2.2.2.1 tb.length = true) ∧ (p[k].1 ≠ 1 → inB p[k].2.1 k = true ∧ inB p[k].2.2.1 k = true)) := fun k hk => plan_refs hpb k hk
    have HASK : Hid (ptabI tb p = (List.range tb.length).filter fun k => (useF p p.length (use0 tb p)).2.getD k false) := by show _ = _; rw [ptabI, if_pos hpb]; rfl
    have HL0 : Hid ((use0 tb p).1.length = p.length ∧ (use0 tb p).2.length = tb.length) := by show _ ∧ _; simp [use0]
    have HU4 : Hid (w3.ownsRow w1.heap.size 4 1 (.slice (some ⟨w1.heap.size, 0, none⟩) p.length p.length) p.length ((use0 tb p).1.map bvB)) := HU3
    have HA4 : Hid (w3.ownsRow w1.heap.size 4 1 (.slice (some ⟨w2.heap.size, 0, none⟩) tb.length tb.length) tb.length ((use0 tb p).2.map bvB)) := HA
    clear HU3 HA HU hpb hT hok hP hps
    go_loopw [8] (fun kx wr => ∃ (m : Nat) (z : Int) (st : List Bool × List Bool), m ≤ p.length ∧ kx = .int .i64 z ∧ z + 1 = (m : Int) ∧ Hid (useF p m st = useF p p.length (use0 tb p)) ∧ Hid (st.1.length = p.length ∧ st.2.length = tb.length) ∧ Hid (wr.ownsRow w1.heap.size 4 1 (.slice (some ⟨w1.heap.size, 0, none⟩) p.length p.length) p.length (st.1.map bvB)) ∧ Hid (wr.ownsRow w1.heap.size 4 1 (.slice (some ⟨w2.heap.size, 0, none⟩) tb.length tb.length) tb.length (st.2.map bvB)) ∧ Hid (Below w1.heap.size w1 wr) ∧ w2.heap.size < wr.heap.size) (fun kx _ => (intOf kx + 1).toNat)
    case atStart => exact ⟨p.length, _, use0 tb p, Nat.le_refl _, rfl, by omega, rfl, HL0, HU4, HA4, HB3, hz3⟩
    case round =>
      clear HU4 HA4 HB3 HL0
      obtain ⟨m, z, st, hm, rfl, hzm, HF, HL, HU, HA, HBR, hzr⟩ := hrel
      cases m with
      | zero =>
        obtain rfl : z = -1 := by omega
        have HF0 : Hid (st = useF p p.length (use0 tb p)) := HF
        obtain ⟨hl1, hl2⟩ := HL.out
        have HFA : Hid (ptabI tb p = (List.range tb.length).filter fun k => st.2.getD k false) := by show _ = _; rw [HASK.out, ← HF0.out]
        obtain ⟨q, hq⟩ : ∃ q, st.2 = q := ⟨_, rfl⟩
        rw [hq] at HA HFA hl2
        have HO0 := Lib.hid (own_below OWN1.out HBR.out)
        have HBW := Lib.hid (HB1.out.trans (HBR.out.mono (by omega)))
        have hg0 : w.heap.size < w2.heap.size := by omega
        have HQL := Lib.hid hl2
        clear hq HF HF0 HU HASK HST HL HBR
        go_wp2
        go_loopw [5, 10] (fun ox kx wr => ∃ (k g c : Nat) (o : List Nat), k ≤ tb.length ∧ kx = .int .i64 k ∧ ox = .slice (some ⟨g, 0, none⟩) o.length c ∧ o.length ≤ k ∧ g ≠ w2.heap.size ∧ w2.heap.size < wr.heap.size ∧ Hid (o = (List.range k).filter fun k => q.getD k false) ∧ Hid (wr.ownsRow w.heap.size 3 1 (.slice (some ⟨g, 0, none⟩) o.length c) o.length (o.map nv)) ∧ Hid (wr.ownsRow w1.heap.size 4 1 (.slice (some ⟨w2.heap.size, 0, none⟩) tb.length tb.length) tb.length (q.map bvB)) ∧ Hid (Below w.heap.size w wr)) (fun _ kx _ => tb.length - (intOf kx).toNat)
        case atStart => exact ⟨0, w.heap.size, 0, [], Nat.zero_le _, rfl, rfl, Nat.le_refl _, by omega, hzr, rfl, HO0, HA, HBW⟩
        case round =>
          clear HO0 HA HBW
          obtain ⟨k, g, c, o, hk, rfl, rfl, hok0, hgn, hzr2, HO, HOW, HA, HB5⟩ := hrel
          by_cases hlt : k < tb.length
          · have hca := own_cellB HA.out (show k < q.length by have := HQL.out; omega)
            have hrg : (List.range (k + 1)).filter (fun k => q.getD k false) = o ++ (if q.getD k false = true then [k] else []) := by
              rw [List.range_succ, List.filter_append, ← HO.out]
              by_cases h : q.getD k false = true
              · rw [if_pos h, List.filter_cons_of_pos (p := fun k => q.getD k false) (a := k) h]; rfl
              · rw [if_neg h, List.filter_cons_of_neg (p := fun k => q.getD k false) (a := k) h]; rfl
            have HRG := Lib.hid hrg
            obtain ⟨ol, hol⟩ : ∃ m, o.length = m := ⟨_, rfl⟩
            have HOL := Lib.hid hol
            rw [hol] at hok0
            have i0' : (0 : Int) ≤ (k : Int) := by omega
            have i1' : (k : Int) < (tb.length : Int) := by omega
            have HOW2 := Lib.hid (show World.ownsRow _ _ _ _ (.slice (some ⟨g, 0, none⟩) ol c) ol _ from by have h := HOW.out; rw [hol] at h; exact h)
            rw [hol]
            have hgo := (HOW.out.lt g rfl).1
            obtain ⟨qk, hqk⟩ : ∃ b, q.getD k false = b := ⟨_, rfl⟩
            rw [hqk] at hca HRG
            clear hrg hol hqk HOW HO
            cases qk with
            | false =>
              have HN : Hid (o = (List.range (k + 1)).filter fun k => q.getD k false) := by show _ = _; rw [HRG.out]; simp
              go_wp2
              exact ⟨⟨k + 1, g, c, o, by omega, by go_num, by rw [HOL.out], by rw [HOL.out]; omega, hgn, hzr2, HN, by rw [HOL.out]; exact HOW2, HA, HB5⟩, by simp [intOf]; omega⟩
            | true =>
              have HN : Hid (o ++ [k] = (List.range (k + 1)).filter fun k => q.getD k false) := by show _ = _; rw [HRG.out]; simp
              go_wp2_with (at_builtin; go_loud (refine wpList_append_block _ rfl (.tmp 86) (.tmp 88) 30 rfl w.heap.size 3 j0 (.int .i64 0) 1 8 Try.underlying30 hj jz0 jz1 jz2 rfl (by decide) g ol c (o.map nv) rfl (HOW2.out.alloc _) _ 1 1 [.int .i64 (k : Int)] rfl rfl (news_new (by first | rfl | simp)) (by simp [Value.oneCell']) (by unfold maxLen; omega) (by omega) (by have := HB5.out.size; first | omega | (simp; done) | (simp; omega)) ?_); intro g3 c3 w4 hown hgr hgg; go_loud (have HOW3 := Lib.hid (show World.ownsRow w4 w.heap.size _ 1 (.slice (some ⟨g3, 0, none⟩) (o ++ [k]).length c3) (o ++ [k]).length ((o ++ [k]).map nv) from by rw [List.length_append, HOL.out, List.map_append]; exact hown); have HA3 := Lib.hid (own_keep (HA.out.alloc _) (hgr.block _ (by simp; omega) (fun e => hgn (Option.some.inj e).symm))); have HB6 := Lib.hid (Below.grown (HB5.out.alloc HB5.out.size _) hgr (by have := HB5.out.size; simp; omega) (fun k hk => by obtain rfl := Option.some.inj hk; exact hgo)); have hgn3 : g3 ≠ w2.heap.size := (by rcases hgg with h | h; rw [h]; exact hgn; (simp at h; omega)); have hzr3 : w2.heap.size < w4.heap.size := (by have := hgr.size; simp at this; omega); clear hown hgr hgg))
              exact ⟨⟨k + 1, g3, c3, o ++ [k], by omega, by go_num, by rw [List.length_append, HOL.out]; rfl, by rw [List.length_append, HOL.out]; simp; omega, hgn3, hzr3, HN, HOW3, HA3, HB6⟩, by simp [intOf]; omega⟩
          · obtain rfl : k = tb.length := by omega
            have HO2 : Hid (o = ptabI tb p) := by show _ = _; rw [HO.out, HFA.out]
            have h9 := HOW.out
            have e9 : o.length = (ptabI tb p).length := by rw [HO2.out]
            rw [HO2.out] at h9
            have H9 := Lib.hid h9
            rw [e9]
            clear h9 e9
            go_wp2
            go_ret
            exact ⟨g, c, rfl, FlO.of_own H9.out, HB5.out⟩
      | succ k =>
        obtain rfl : z = (k : Int) := by omega
        obtain ⟨hl1, hl2⟩ := HL.out
        have hku : k < st.1.length := by omega
        have HW := Lib.hid (HB1.out.trans (HBR.out.mono (by omega)))
        obtain ⟨rfl, hgP, A1, c1, g1, o1, A2, c2, g2, o2, x0, x1, x2, x3, x4, x5, -, -, -⟩ := (HP.out.below HW.out).at k (by omega)
        have HRF := Lib.hid (HST.out k (by omega))
        have HGD : Hid (p.getD k nilS = p[k]) := getD_lt (by omega) _
        obtain ⟨S, hS⟩ : ∃ S, p[k] = S := ⟨_, rfl⟩
        rw [hS] at x0 x1 x2 x3 x4 x5 HRF HGD
        clear hS
        have hcU : wr.cell? ⟨w1.heap.size, k, none⟩ = some (bvB st.1[k]) := by rw [HU.out.cellAt k (by omega), List.getElem?_map, List.getElem?_eq_getElem hku]; rfl
        have HGK : Hid (st.1.getD k false = st.1[k]) := getD_lt hku _
        have HF2 : Hid (useF p k (useOne S k st) = useF p p.length (use0 tb p)) := by show _ = _; rw [← HGD.out]; exact HF.out
        obtain ⟨uk, huk⟩ : ∃ u, st.1[k] = u := ⟨_, rfl⟩
        rw [huk] at hcU HGK
        obtain ⟨s1, s2, s3, s4, es, ns⟩ := S
        simp only at x0 x1 x2 x3 x4 x5 HRF
        have i0' : (0 : Int) ≤ (k : Int) := by omega
        have i1' : (k : Int) < (p.length : Int) := by omega
        have hgU : w1.heap.size < wr.heap.size := (HU.out.lt w1.heap.size rfl).2
        obtain ⟨el, hel⟩ : ∃ m, es.length = m := ⟨_, rfl⟩
        rw [hel] at x4
        obtain ⟨nl, hnl⟩ : ∃ m, ns.length = m := ⟨_, rfl⟩
        rw [hnl] at x5
        have hub : bvB uk = .bool uk := rfl
        rw [hub] at hcU
        have hP2 : gP < wr.heap.size := hgP
        clear huk hel hnl hub
        cases uk with
        | false =>
          have HSTE : Hid (useOne (s1, s2, s3, s4, es, ns) k st = st) := by show _ = _; rw [useOne, if_pos HGK.out]
          rw [HSTE.out] at HF2
          go_wp2
          exact ⟨⟨k, _, st, by omega, rfl, by omega, HF2, HL, HU.out.alloc _, HA.out.alloc _, HBR.out.alloc HBR.out.size _, by first | (simp; done) | (simp; omega)⟩, by first | (simp [intOf]; done) | (simp [intOf]; omega)⟩
        | true =>
          by_cases k1 : s1 = 1
          · subst k1
            obtain ⟨n, rfl, hn⟩ := inB_nat (HRF.out.1 (by first | rfl | trivial))
            have HSTE : Hid (useOne (1, s2, s3, (n : Int), es, ns) k st = (st.1, st.2.set n true)) := by show _ = _; rw [useOne, HGK.out]; simp
            rw [HSTE.out] at HF2
            have hca := own_cellB HA.out (show n < st.2.length by omega)
            have hfa := HA.out.frozenAt n
            have j0' : (0 : Int) ≤ (n : Int) := by omega
            have j1' : (n : Int) < (tb.length : Int) := by omega
            have hne : ¬ w1.heap.size = w2.heap.size := by omega
            go_wp2
            exact ⟨⟨k, _, (st.1, st.2.set n true), by omega, rfl, by omega, HF2, ⟨hl1, by rw [List.length_set]; exact hl2⟩, (own_setFar HU.out hne).alloc _, (own_setB HA.out).alloc _, (HBR.out.setCell (p := ⟨w2.heap.size, n, none⟩) (by show w1.heap.size ≤ w2.heap.size; omega) (.bool true)).alloc (by have := HBR.out.size; simp [World.setCell]; omega) _, by first | (simp [World.setCell]; done) | (simp [World.setCell]; omega)⟩, by first | (simp [intOf]; done) | (simp [intOf]; omega)⟩
          · obtain ⟨ha, hb⟩ := HRF.out.2 k1
            obtain ⟨a, rfl, hak⟩ := inB_nat ha
            obtain ⟨b, rfl, hbk⟩ := inB_nat hb
            have HSTE : Hid (useOne (s1, (a : Int), (b : Int), s4, es, ns) k st = ((st.1.set a true).set b ((st.1.set a true).getD b false || (decide (s1 = 4) || decide (s1 = 5))), st.2)) := by show _ = _; rw [useOne, HGK.out]; simp [k1]
            rw [HSTE.out] at HF2
            have hca := own_cellB HU.out (show a < st.1.length by omega)
            have hfa := HU.out.frozenAt a
            have hfb := HU.out.frozenAt b
            have j0' : (0 : Int) ≤ (a : Int) := by omega
            have j1' : (a : Int) < (p.length : Int) := by omega
            have l0' : (0 : Int) ≤ (b : Int) := by omega
            have l1' : (b : Int) < (p.length : Int) := by omega
            have hcb := own_cellB (own_setB (j := a) (b := true) HU.out) (show b < (st.1.set a true).length by rw [List.length_set]; omega)
            obtain ⟨ub, hub2⟩ : ∃ u, (st.1.set a true).getD b false = u := ⟨_, rfl⟩
            rw [hub2] at hcb HF2
            have hne : ¬ w2.heap.size = w1.heap.size := by omega
            have HFX : Hid (∀ v, (ub || (decide (s1 = 4) || decide (s1 = 5))) = v → useF p k ((st.1.set a true).set b v, st.2) = useF p p.length (use0 tb p)) := fun v h => by rw [← h]; exact HF2.out
            cases ub with
            | true =>
              have HF3 := Lib.hid (HFX.out true (by simp))
              go_wp2_with (fail)
              go_region
              all_goals go_wp2
              all_goals exact ⟨⟨k, _, ((st.1.set a true).set b true, st.2), by omega, rfl, by omega, HF3, ⟨by rw [List.length_set, List.length_set]; exact hl1, hl2⟩, (show World.ownsRow _ _ _ _ _ _ _ from by repeat (with_reducible first | exact HU.out | apply own_setB | apply World.ownsRow.alloc | apply own_drew | apply own_drewN)), (show World.ownsRow _ _ _ _ _ _ _ from by repeat (with_reducible first | exact HA.out | refine own_setFar ?_ hne | apply World.ownsRow.alloc | apply own_drew | apply own_drewN)), (show Below _ _ _ from by repeat (with_reducible first | exact HBR.out | refine Below.setCell ?_ (by first | exact Nat.le_refl _ | omega | (simp; done) | (simp; omega)) _ | refine Below.alloc ?_ (by have := HBR.out.size; first | omega | (simp [World.setCell]; done) | (simp [World.setCell]; omega)) _ | apply Below.drew | refine below_drewN ?_ _)), (by first | omega | (simp [World.setCell]; done) | (simp [World.setCell]; omega))⟩, by first | (simp [intOf]; done) | (simp [intOf]; omega)⟩
            | false =>
              by_cases k4 : s1 = 4
              · subst k4
                have HF3 := Lib.hid (HFX.out true (by simp))
                go_wp2_with (fail)
                go_region
                all_goals go_wp2
                all_goals exact ⟨⟨k, _, ((st.1.set a true).set b true, st.2), by omega, rfl, by omega, HF3, ⟨by rw [List.length_set, List.length_set]; exact hl1, hl2⟩, (show World.ownsRow _ _ _ _ _ _ _ from by repeat (with_reducible first | exact HU.out | apply own_setB | apply World.ownsRow.alloc | apply own_drew | apply own_drewN)), (show World.ownsRow _ _ _ _ _ _ _ from by repeat (with_reducible first | exact HA.out | refine own_setFar ?_ hne | apply World.ownsRow.alloc | apply own_drew | apply own_drewN)), (show Below _ _ _ from by repeat (with_reducible first | exact HBR.out | refine Below.setCell ?_ (by first | exact Nat.le_refl _ | omega | (simp; done) | (simp; omega)) _ | refine Below.alloc ?_ (by have := HBR.out.size; first | omega | (simp [World.setCell]; done) | (simp [World.setCell]; omega)) _ | apply Below.drew | refine below_drewN ?_ _)), (by first | omega | (simp [World.setCell]; done) | (simp [World.setCell]; omega))⟩, by first | (simp [intOf]; done) | (simp [intOf]; omega)⟩
              · by_cases k5 : s1 = 5
                · subst k5
                  have HF3 := Lib.hid (HFX.out true (by simp))
                  go_wp2_with (fail)
                  go_region
                  all_goals go_wp2
                  all_goals exact ⟨⟨k, _, ((st.1.set a true).set b true, st.2), by omega, rfl, by omega, HF3, ⟨by rw [List.length_set, List.length_set]; exact hl1, hl2⟩, (show World.ownsRow _ _ _ _ _ _ _ from by repeat (with_reducible first | exact HU.out | apply own_setB | apply World.ownsRow.alloc | apply own_drew | apply own_drewN)), (show World.ownsRow _ _ _ _ _ _ _ from by repeat (with_reducible first | exact HA.out | refine own_setFar ?_ hne | apply World.ownsRow.alloc | apply own_drew | apply own_drewN)), (show Below _ _ _ from by repeat (with_reducible first | exact HBR.out | refine Below.setCell ?_ (by first | exact Nat.le_refl _ | omega | (simp; done) | (simp; omega)) _ | refine Below.alloc ?_ (by have := HBR.out.size; first | omega | (simp [World.setCell]; done) | (simp [World.setCell]; omega)) _ | apply Below.drew | refine below_drewN ?_ _)), (by first | omega | (simp [World.setCell]; done) | (simp [World.setCell]; omega))⟩, by first | (simp [intOf]; done) | (simp [intOf]; omega)⟩
                · have d4 : (s1 == 4) = false := by simp [k4]
                  have d5 : (s1 == 5) = false := by simp [k5]
                  have HF3 := Lib.hid (HFX.out false (by simp [k4, k5]))
                  go_wp2_with (fail)
                  go_region
                  all_goals go_wp2
                  all_goals exact ⟨⟨k, _, ((st.1.set a true).set b false, st.2), by omega, rfl, by omega, HF3, ⟨by rw [List.length_set, List.length_set]; exact hl1, hl2⟩, (show World.ownsRow _ _ _ _ _ _ _ from by repeat (with_reducible first | exact HU.out | apply own_setB | apply World.ownsRow.alloc | apply own_drew | apply own_drewN)), (show World.ownsRow _ _ _ _ _ _ _ from by repeat (with_reducible first | exact HA.out | refine own_setFar ?_ hne | apply World.ownsRow.alloc | apply own_drew | apply own_drewN)), (show Below _ _ _ from by repeat (with_reducible first | exact HBR.out | refine Below.setCell ?_ (by first | exact Nat.le_refl _ | omega | (simp; done) | (simp; omega)) _ | refine Below.alloc ?_ (by have := HBR.out.size; first | omega | (simp [World.setCell]; done) | (simp [World.setCell]; omega)) _ | apply Below.drew | refine below_drewN ?_ _)), (by first | omega | (simp [World.setCell]; done) | (simp [World.setCell]; omega))⟩, by first | (simp [intOf]; done) | (simp [intOf]; omega)⟩
end Go.Proofs.Ytacinjbaebimhaa.Val
