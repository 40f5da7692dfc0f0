/- TablesOk, the reference's; PlanOk, PlanColumns: the reference's; The rows of all steps; PlanRows: the reference's; The tables that a plan asks for: the reference's PlanTables. -/
import Derived.Test.YtacinjbaebimhaaTabKQ
import Derived.Test.YtacinjbaebimhaaPColKQ
import Derived.Test.YtacinjbaebimhaaPRowKQ
import Derived.BigQuiet
namespace Go.Proofs.Ytacinjbaebimhaa.Val
open Go.RowKit
set_option linter.unusedVariables false
set_option maxRecDepth 8000
def tab1B (t : TB) : Bool := decide (t.2.length ≤ 6) && rowsB t.1 t.2
theorem tablesB_eq (tb : List TB) : tablesB tb = (decide (tb.length ≤ 3) && tb.all tab1B) := rfl
theorem keepTb {w W W1 : World} {g g1 o1 g2 o2 q q2 : Nat} {A1 A2 : Option Addr} {cs : List CT} {ls : List RT} {x y : Value} (h : W.cell? ⟨g, q, none⟩ = some x ∧ W.cell? ⟨g, q2, none⟩ = some y ∧ Fl W g1 o1 A1 (flatC cs) ∧ Rws W g2 o2 A2 ls ∧ Below w.heap.size w W ∧ w.heap.size ≤ W.heap.size) (hb : Below W.heap.size W W1) : W1.cell? ⟨g, q, none⟩ = some x ∧ W1.cell? ⟨g, q2, none⟩ = some y ∧ Fl W1 g1 o1 A1 (flatC cs) ∧ Rws W1 g2 o2 A2 ls ∧ Below w.heap.size w W1 ∧ w.heap.size ≤ W1.heap.size :=
  ⟨(hb.cell (p := ⟨g, q, none⟩) (World.block_lt_of_cell? W ⟨g, q, none⟩ h.1)).trans h.1, (hb.cell (p := ⟨g, q2, none⟩) (World.block_lt_of_cell? W ⟨g, q2, none⟩ h.2.1)).trans h.2.1, h.2.2.1.below hb, h.2.2.2.1.below hb, h.2.2.2.2.1.trans (hb.mono h.2.2.2.2.2), Nat.le_trans h.2.2.2.2.2 hb.size⟩
theorem keepTbD {w W : World} {g g1 o1 g2 o2 q q2 : Nat} {A1 A2 : Option Addr} {cs : List CT} {ls : List RT} {x y : Value} (h : W.cell? ⟨g, q, none⟩ = some x ∧ W.cell? ⟨g, q2, none⟩ = some y ∧ Fl W g1 o1 A1 (flatC cs) ∧ Rws W g2 o2 A2 ls ∧ Below w.heap.size w W ∧ w.heap.size ≤ W.heap.size) : W.drew.cell? ⟨g, q, none⟩ = some x ∧ W.drew.cell? ⟨g, q2, none⟩ = some y ∧ Fl W.drew g1 o1 A1 (flatC cs) ∧ Rws W.drew g2 o2 A2 ls ∧ Below w.heap.size w W.drew ∧ w.heap.size ≤ W.drew.heap.size := keepTb h ((Below.refl _ _).drew)
theorem keepTb1 {w W : World} {g g1 o1 g2 o2 q q2 : Nat} {A1 A2 : Option Addr} {cs : List CT} {ls : List RT} {x y : Value} (h : W.cell? ⟨g, q, none⟩ = some x ∧ W.cell? ⟨g, q2, none⟩ = some y ∧ Fl W g1 o1 A1 (flatC cs) ∧ Rws W g2 o2 A2 ls ∧ Below w.heap.size w W ∧ w.heap.size ≤ W.heap.size) : Fl W g1 o1 A1 (flatC cs) := h.2.2.1
theorem keepTb2 {w W : World} {g g1 o1 g2 o2 q q2 : Nat} {A1 A2 : Option Addr} {cs : List CT} {ls : List RT} {x y : Value} (h : W.cell? ⟨g, q, none⟩ = some x ∧ W.cell? ⟨g, q2, none⟩ = some y ∧ Fl W g1 o1 A1 (flatC cs) ∧ Rws W g2 o2 A2 ls ∧ Below w.heap.size w W ∧ w.heap.size ≤ W.heap.size) : Rws W g2 o2 A2 ls := h.2.2.2.1
theorem keepTb3 {w W : World} {g g1 o1 g2 o2 q q2 : Nat} {A1 A2 : Option Addr} {cs : List CT} {ls : List RT} {x y : Value} (h : W.cell? ⟨g, q, none⟩ = some x ∧ W.cell? ⟨g, q2, none⟩ = some y ∧ Fl W g1 o1 A1 (flatC cs) ∧ Rws W g2 o2 A2 ls ∧ Below w.heap.size w W ∧ w.heap.size ≤ W.heap.size) : Below w.heap.size w W := h.2.2.2.2.1
set_option maxHeartbeats 2000000 in
theorem tablesOkS (A : Option Addr) (g o cap : Nat) (ts : List TB) (w : World) (hA : Tbs w g o A ts) (hok : OkT ts) :
    Calls Try.prog 48 #[.slice A ts.length cap] w fun e w' => e = .returned (.bool (tablesB ts)) ∧ Below w.heap.size w w' := by
  have HA := Lib.hid hA
  have HK := Lib.hid hok
  have hl := hok.1
  clear hA hok
  go_enter Try.func48, Try.ntmps48
  go_wp2
  go_loopw [3] (fun ix wr => ∃ (k : Nat), k ≤ ts.length ∧ ix = .int .i64 k ∧ Hid ((ts.take k).all tab1B = true) ∧ Hid (Below w.heap.size w wr)) (fun ix _ => ts.length - (intOf ix).toNat)
  case atStart => exact ⟨0, Nat.zero_le _, rfl, rfl, Below.refl _ _⟩
  case round =>
    obtain ⟨k, hk, rfl, HL, HW⟩ := hrel
    by_cases hlt : k < ts.length
    · obtain ⟨rfl, hg, A1, c1, g1, o1, A2, c2, g2, o2, hc0, hc1, hf1, hr1, -, -⟩ := (HA.out.below HW.out).at k hlt
      have HF := Lib.hid hf1
      have HR := Lib.hid hr1
      obtain ⟨hlc, hlr⟩ := HK.out.at k hlt
      have HS := Lib.hid (all_snoc tab1B ts k hlt)
      have HN := Lib.hid (fun hp => all_no (p := tab1B) k hlt hp)
      obtain ⟨K, hK⟩ : ∃ K, ts[k] = K := ⟨_, rfl⟩
      rw [hK] at hc0 hc1 HF HR HS HN hlc hlr
      clear hK hf1 hr1
      obtain ⟨cs, ls⟩ := K
      simp only at hc0 hc1 HF HR hlc hlr
      have CR := Lib.hid (fun W hW hW2 => rowsOkS A1 A2 g1 o1 g2 o2 c1 c2 cs ls W hW hW2 hlc hlr)
      have HT : Hid (tab1B (cs, ls) = (decide (ls.length ≤ 6) && rowsB cs ls)) := rfl
      obtain ⟨B1, hB1⟩ : ∃ b, rowsB cs ls = b := ⟨_, rfl⟩
      rw [hB1] at CR HT
      obtain ⟨kl, hkl⟩ : ∃ n, cs.length = n := ⟨_, rfl⟩
      rw [hkl] at hc0 CR
      obtain ⟨kr, hkr⟩ : ∃ n, ls.length = n := ⟨_, rfl⟩
      rw [hkr] at hc1 CR HT
      have hkr2 : kr ≤ 2000000 := by have := hlr.1; omega
      clear hkl hkr hlc hlr hB1
      have i0' : (0 : Int) ≤ (k : Int) := by omega
      have i1' : (k : Int) < (ts.length : Int) := by omega
      have HS0 : (fun w' => w'.cell? ⟨g, o + k * 2, none⟩ = some (.slice A1 kl c1) ∧ w'.cell? ⟨g, o + k * 2 + 1, none⟩ = some (.slice A2 kr c2) ∧ Fl w' g1 o1 A1 (flatC cs) ∧ Rws w' g2 o2 A2 ls ∧ Below w.heap.size w w' ∧ w.heap.size ≤ w'.heap.size) wr := ⟨hc0, hc1, HF.out, HR.out, HW.out, HW.out.size⟩
      clear HF HR
      by_cases h6 : kr ≤ 6
      · clear hc0 hc1
        have q1 : decide (6 < (kr : Int)) = false := by simp; omega
        go_wp2_with (fail)
        go_region_held_law (fun w' => w'.cell? ⟨g, o + k * 2, none⟩ = some (.slice A1 kl c1) ∧ w'.cell? ⟨g, o + k * 2 + 1, none⟩ = some (.slice A2 kr c2) ∧ Fl w' g1 o1 A1 (flatC cs) ∧ Rws w' g2 o2 A2 ls ∧ Below w.heap.size w w' ∧ w.heap.size ≤ w'.heap.size) (first | exact keepTb (by assumption) hbq | exact keepTbD (by assumption) | assumption) (first | (go_at_call 85; (with_reducible refine (CR.out _ (keepTb1 (by assumption)) (keepTb2 (by assumption))).mono ?_); rintro e w1 ⟨rfl, hbq⟩))
        have HWn := Lib.hid (keepTb3 (by assumption))
        go_wp2
        · go_ret
          refine ⟨retB ?_, HWn.out⟩
          have hb : B1 = false := not_of (by assumption)
          rw [tablesB_eq, HN.out (by rw [HT.out, hb]; simp)]; simp
        · go_round
          case rel =>
            have hb : B1 = true := yes_of (by assumption)
            refine ⟨k + 1, by omega, by go_num, ?_, HWn⟩
            show _ = _
            rw [HS.out, HL.out, HT.out, hb]; simp; omega
          case measure => simp [intOf]; omega
      · have q1 : (6 < (kr : Int)) := by omega
        go_wp2_with (fail)
        go_quiet (fail)
        go_wp2
        go_ret
        refine ⟨retB ?_, below_drewN HW.out _⟩
        rw [tablesB_eq, HN.out (by rw [HT.out]; simp; omega)]; simp
    · obtain rfl : k = ts.length := by omega
      go_wp2
      go_ret
      refine ⟨retB ?_, HW.out⟩
      rw [tablesB_eq, all_end HL, Bool.eq_iff_iff]; simp; try omega
end Go.Proofs.Ytacinjbaebimhaa.Val
namespace Go.Proofs.Ytacinjbaebimhaa.Val
open Go.RowKit
set_option linter.unusedVariables false
set_option maxRecDepth 8000
theorem all_ok {r : Option (List (List CT) × List Nat)} {ok : Bool} {cl : List (List CT)} (h : r.map (fun st => st.1) = if ok = true then some cl else none) : ok = r.isSome := by
  cases ok with
  | false => cases r with
    | none => rfl
    | some st => simp at h
  | true => cases r with
    | none => simp at h
    | some st => rfl
theorem planOkS (AT AP : Option Addr) (gT oT cT gP oP cP : Nat) (tb : List TB) (p : List SP) (w : World) (hT : Tbs w gT oT AT tb) (hok : OkT tb) (hP : Sps w gP oP AP p) (hps : OkS p) :
    Calls Try.prog 13 #[.slice AT tb.length cT, .slice AP p.length cP] w fun e w' => e = .returned (.bool (planB tb p)) ∧ Below w.heap.size w w' := by
  have HT := Lib.hid hT
  have HP := Lib.hid hP
  have hpl := hps.1
  have CA := Lib.hid (fun W h1 h2 => l6All AT AP gT oT cT gP oP cP tb p W h1 hok h2 hps)
  have CT := Lib.hid (fun W h1 => tablesOkS AT gT oT cT tb W h1 hok)
  have CI := Lib.hid (fun W => l1In (p.length : Int) 1 6 W)
  unfold RetAll at CA
  have HPB : Hid (planB tb p = ((allI tb p).isSome && tablesB tb && (decide (1 ≤ p.length) && decide (p.length ≤ 6)))) := rfl
  have hl6 : (decide ((1 : Int) ≤ (p.length : Int)) && decide ((p.length : Int) ≤ 6)) = (decide (1 ≤ p.length) && decide (p.length ≤ 6)) := by congr 1 <;> exact decide_eq_decide.2 (by omega)
  rw [hl6] at CI
  obtain ⟨b2, hb2⟩ : ∃ b, tablesB tb = b := ⟨_, rfl⟩
  obtain ⟨b3, hb3⟩ : ∃ b, (decide (1 ≤ p.length) && decide (p.length ≤ 6)) = b := ⟨_, rfl⟩
  rw [hb2] at CT HPB
  rw [hb3] at CI HPB
  obtain ⟨r, hr⟩ : ∃ r, allI tb p = r := ⟨_, rfl⟩
  rw [hr] at CA HPB
  clear hT hok hP hps hl6 hb2 hb3 hr
  have CI2 := Lib.hid (fun W => show Calls Try.prog 49 #[.int .i64 (p.length : Int), .int .i64 1, .int .i64 6] W fun e w' => e = .returned (.bool b3) ∧ Below W.heap.size W w' by
    refine (CI.out W).mono ?_
    rintro e w1 ⟨rfl, rfl⟩
    exact ⟨rfl, Below.refl _ _⟩)
  have HB := Lib.hid (Below.refl w.heap.size w)
  have S0 := True.intro
  go_enter Try.func13, Try.ntmps13
  cases b2 <;> cases b3 <;> cases r
  all_goals go_wp2_with (first
    | ((have _ := S0); (fail_if_success (have _ := S1)); go_at_call 47; (with_reducible refine (CA.out _ (HT.out.below HB.out) (HP.out.below HB.out)).mono ?_); rintro e wn0 ⟨ga, ca, Ta, cl, ok, ⟨rfl, hc, hr⟩, hb1⟩; have HBn : Hid (Below w.heap.size w wn0) := Below.trans (by repeat (with_reducible first | exact HB.out | refine Below.alloc ?_ (by first | omega | (have := HB.out.size; omega) | (simp; done) | (have := HB.out.size; simp; omega)) _ | apply Below.drew)) (Below.mono hb1 (by have := HB.out.size; first | omega | (simp; omega))); clear HB; have HB := HBn; clear HBn; have h9 := all_ok hr; simp only [Option.isSome_none, Option.isSome_some] at h9; subst h9; clear hc hr; clear hb1; have S1 := True.intro)
    | ((have _ := S1); (fail_if_success (have _ := S2)); go_at_call 48; (with_reducible refine (CT.out _ (HT.out.below HB.out)).mono ?_); rintro e wn1 ⟨rfl, hb1⟩; have HBn : Hid (Below w.heap.size w wn1) := Below.trans (by repeat (with_reducible first | exact HB.out | refine Below.alloc ?_ (by first | omega | (have := HB.out.size; omega) | (simp; done) | (have := HB.out.size; simp; omega)) _ | apply Below.drew)) (Below.mono hb1 (by have := HB.out.size; first | omega | (simp; omega))); clear HB; have HB := HBn; clear HBn; clear hb1; have S2 := True.intro)
    | ((have _ := S2); (fail_if_success (have _ := S3)); go_at_call 49; (with_reducible refine (CI2.out _).mono ?_); rintro e wn2 ⟨rfl, hb1⟩; have HBn : Hid (Below w.heap.size w wn2) := Below.trans (by repeat (with_reducible first | exact HB.out | refine Below.alloc ?_ (by first | omega | (have := HB.out.size; omega) | (simp; done) | (have := HB.out.size; simp; omega)) _ | apply Below.drew)) (Below.mono hb1 (by have := HB.out.size; first | omega | (simp; omega))); clear HB; have HB := HBn; clear HBn; clear hb1; have S3 := True.intro)
    | ((have _ := S1); (fail_if_success (have _ := S2)); go_at_call 49; (with_reducible refine (CI2.out _).mono ?_); rintro e wn1 ⟨rfl, hb1⟩; have HBn : Hid (Below w.heap.size w wn1) := Below.trans (by repeat (with_reducible first | exact HB.out | refine Below.alloc ?_ (by first | omega | (have := HB.out.size; omega) | (simp; done) | (have := HB.out.size; simp; omega)) _ | apply Below.drew)) (Below.mono hb1 (by have := HB.out.size; first | omega | (simp; omega))); clear HB; have HB := HBn; clear HBn; clear hb1; have S2 := True.intro))
  all_goals (go_ret; exact ⟨retB (by rw [HPB.out]; first | rfl | simp), HB.out⟩)
end Go.Proofs.Ytacinjbaebimhaa.Val
namespace Go.Proofs.Ytacinjbaebimhaa.Val
open Go.RowKit
set_option linter.unusedVariables false
set_option maxRecDepth 8000
end Go.Proofs.Ytacinjbaebimhaa.Val
namespace Go.Proofs.Ytacinjbaebimhaa.Val
open Go.RowKit
set_option linter.unusedVariables false
set_option maxRecDepth 8000
def bvB (b : Bool) : Value := .bool b
theorem own_setB {w : World} {B g n cap j : Nat} {e : TypeId} {l : List Bool} {b : Bool} (h : w.ownsRow B e 1 (.slice (some ⟨g, 0, none⟩) n cap) n (l.map bvB)) : (w.setCell ⟨g, j, none⟩ (.bool b)).ownsRow B e 1 (.slice (some ⟨g, 0, none⟩) n cap) n ((l.set j b).map bvB) := by
  have := (h.stored j (.bool b)).1
  rwa [show (.bool b : Value) = bvB b from rfl, ← List.map_set] at this
theorem own_cellB {w : World} {B g n cap j : Nat} {e : TypeId} {l : List Bool} (h : w.ownsRow B e 1 (.slice (some ⟨g, 0, none⟩) n cap) n (l.map bvB)) (hj : j < l.length) : w.cell? ⟨g, j, none⟩ = some (.bool (l.getD j false)) := by
  have hn : n = l.length := by have := h.1; rw [List.length_map] at this; omega
  rw [h.cellAt j (by omega), List.getElem?_map, List.getElem?_eq_getElem hj, getD_lt hj]; rfl
theorem own_drewN {w : World} {B : Nat} {e : TypeId} {size n : Nat} {v : Value} {xs : List Value} (h : w.ownsRow B e size v n xs) (q : Nat) : (w.drewN q).ownsRow B e size v n xs := h
theorem infoB : (Try.prog.info? 4).map (fun i => (i.zero, i.size, i.bytes)) = some (some (.bool false), 1, 1) := by kernel_rfl
end Go.Proofs.Ytacinjbaebimhaa.Val
