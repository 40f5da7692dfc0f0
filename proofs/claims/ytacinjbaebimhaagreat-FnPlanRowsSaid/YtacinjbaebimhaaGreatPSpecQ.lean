/- TablesOk, the reference's; PlanOk, PlanColumns: the reference's; The rows of all steps; PlanRows: the reference's; The tables that a plan asks for: the reference's PlanTables. -/
import Derived.Test.YtacinjbaebimhaaGreatTabKQ
import Derived.Test.YtacinjbaebimhaaGreatPColKQ
import Derived.Test.YtacinjbaebimhaaGreatPRowKQ
import Derived.BigQuiet
namespace Go.Proofs.YtacinjbaebimhaaGreat.Val
open Go.RowKit
set_option linter.unusedVariables false
set_option maxRecDepth 8000
def tab1B (t : TB) : Bool := decide (t.2.length ≤ 6) && rowsB t.1 t.2
theorem tablesB_eq (tb : List TB) : tablesB tb = (decide (tb.length ≤ 3) && tb.all tab1B) := rfl
theorem keepTb {w W W1 : World} {g g1 o1 g2 o2 q q2 : Nat} {A1 A2 : Option Addr} {cs : List CT} {ls : List RT} {x y : Value} (h : W.cell? ⟨g, q, none⟩ = some x ∧ W.cell? ⟨g, q2, none⟩ = some y ∧ Fl W g1 o1 A1 (flatC cs) ∧ Rws W g2 o2 A2 ls ∧ Below w.heap.size w W ∧ w.heap.size ≤ W.heap.size) (hb : Below W.heap.size W W1) : W1.cell? ⟨g, q, none⟩ = some x ∧ W1.cell? ⟨g, q2, none⟩ = some y ∧ Fl W1 g1 o1 A1 (flatC cs) ∧ Rws W1 g2 o2 A2 ls ∧ Below w.heap.size w W1 ∧ w.heap.size ≤ W1.heap.size :=
  ⟨(hb.cell (p := ⟨g, q, none⟩) (World.block_lt_of_cell? W ⟨g, q, none⟩ h.1)).trans h.1, (hb.cell (p := ⟨g, q2, none⟩) (World.block_lt_of_cell? W ⟨g, q2, none⟩ h.2.1)).trans h.2.1, h.2.2.1.below hb, h.2.2.2.1.below hb, h.2.2.2.2.1.trans (hb.mono h.2.2.2.2.2), Nat.le_trans h.2.2.2.2.2 hb.size⟩
theorem keepTbD {w W : World} {g g1 o1 g2 o2 q q2 : Nat} {A1 A2 : Option Addr} {cs : List CT} {ls : List RT} {x y : Value} (h : W.cell? ⟨g, q, none⟩ = some x ∧ W.cell? ⟨g, q2, none⟩ = some y ∧ Fl W g1 o1 A1 (flatC cs) ∧ Rws W g2 o2 A2 ls ∧ Below w.heap.size w W ∧ w.heap.size ≤ W.heap.size) : W.drew.cell? ⟨g, q, none⟩ = some x ∧ W.drew.cell? ⟨g, q2, none⟩ = some y ∧ Fl W.drew g1 o1 A1 (flatC cs) ∧ Rws W.drew g2 o2 A2 ls ∧ Below w.heap.size w W.drew ∧ w.heap.size ≤ W.drew.heap.size := keepTb h ((Below.refl _ _).drew)
theorem keepTb1 {w W : World} {g g1 o1 g2 o2 q q2 : Nat} {A1 A2 : Option Addr} {cs : List CT} {ls : List RT} {x y : Value} (h : W.cell? ⟨g, q, none⟩ = some x ∧ W.cell? ⟨g, q2, none⟩ = some y ∧ Fl W g1 o1 A1 (flatC cs) ∧ Rws W g2 o2 A2 ls ∧ Below w.heap.size w W ∧ w.heap.size ≤ W.heap.size) : Fl W g1 o1 A1 (flatC cs) := h.2.2.1
theorem keepTb2 {w W : World} {g g1 o1 g2 o2 q q2 : Nat} {A1 A2 : Option Addr} {cs : List CT} {ls : List RT} {x y : Value} (h : W.cell? ⟨g, q, none⟩ = some x ∧ W.cell? ⟨g, q2, none⟩ = some y ∧ Fl W g1 o1 A1 (flatC cs) ∧ Rws W g2 o2 A2 ls ∧ Below w.heap.size w W ∧ w.heap.size ≤ W.heap.size) : Rws W g2 o2 A2 ls := h.2.2.2.1
theorem keepTb3 {w W : World} {g g1 o1 g2 o2 q q2 : Nat} {A1 A2 : Option Addr} {cs : List CT} {ls : List RT} {x y : Value} (h : W.cell? ⟨g, q, none⟩ = some x ∧ W.cell? ⟨g, q2, none⟩ = some y ∧ Fl W g1 o1 A1 (flatC cs) ∧ Rws W g2 o2 A2 ls ∧ Below w.heap.size w W ∧ w.heap.size ≤ W.heap.size) : Below w.heap.size w W := h.2.2.2.2.1
set_option maxHeartbeats 2000000 in
theorem tablesOkS (A : Option Addr) (g o cap : Nat) (ts : List TB) (w : World) (hA : Tbs w g o A ts) (hok : OkT ts) :
    Calls Tryz.prog 33 #[.slice A ts.length cap] w fun e w' => e = .returned (.bool (tablesB ts)) ∧ Below w.heap.size w w' := by
  have HA := Lib.hid hA
  have HK := Lib.hid hok
  have hl := hok.1
  clear hA hok
  go_enter Tryz.func33, Tryz.ntmps33
  go_wp2
  go_loopw [3] (fun ix wr => ∃ (k : Nat), k ≤ ts.length ∧ ix = .int .i64 k ∧ Hid ((ts.take k).all tab1B = true) ∧ Hid (Below w.heap.size w wr)) (fun ix _ => ts.length - (intOf ix).toNat)
  case atStart => exact ⟨0, Nat.zero_le _, rfl, rfl, Below.refl _ _⟩
  case round =>
    obtain ⟨k, hk, rfl, HL, HW⟩ := hrel
    by_cases hlt : k < ts.length
    · obtain ⟨rfl, hg, A1, c1, g1, o1, A2, c2, g2, o2, hc0, hc1, hf1, hr1, -, -⟩ := (HA.out.below HW.out).at k hlt
      have HF := Lib.hid hf1
      have HR := Lib.hid hr1
      obtain ⟨hlc, hlr⟩ := HK.out.at k hlt
      have HS := Lib.hid (all_snoc tab1B ts k hlt)
      have HN := Lib.hid (fun hp => all_no (p := tab1B) k hlt hp)
      obtain ⟨K, hK⟩ : ∃ K, ts[k] = K := ⟨_, rfl⟩
      rw [hK] at hc0 hc1 HF HR HS HN hlc hlr
      clear hK hf1 hr1
      obtain ⟨cs, ls⟩ := K
      simp only at hc0 hc1 HF HR hlc hlr
      have CR := Lib.hid (fun W hW hW2 => rowsOkS A1 A2 g1 o1 g2 o2 c1 c2 cs ls W hW hW2 hlc hlr)
      have HT : Hid (tab1B (cs, ls) = (decide (ls.length ≤ 6) && rowsB cs ls)) := rfl
      obtain ⟨B1, hB1⟩ : ∃ b, rowsB cs ls = b := ⟨_, rfl⟩
      rw [hB1] at CR HT
      obtain ⟨kl, hkl⟩ : ∃ n, cs.length = n := ⟨_, rfl⟩
      rw [hkl] at hc0 CR
      obtain ⟨kr, hkr⟩ : ∃ n, ls.length = n := ⟨_, rfl⟩
      rw [hkr] at hc1 CR HT
      have hkr2 : kr ≤ 2000000 := by have := hlr.1; omega
      clear hkl hkr hlc hlr hB1
      have i0' : (0 : Int) ≤ (k : Int) := by omega
      have i1' : (k : Int) < (ts.length : Int) := by omega
      have HS0 : (fun w' => w'.cell? ⟨g, o + k * 2, none⟩ = some (.slice A1 kl c1) ∧ w'.cell? ⟨g, o + k * 2 + 1, none⟩ = some (.slice A2 kr c2) ∧ Fl w' g1 o1 A1 (flatC cs) ∧ Rws w' g2 o2 A2 ls ∧ Below w.heap.size w w' ∧ w.heap.size ≤ w'.heap.size) wr := ⟨hc0, hc1, HF.out, HR.out, HW.out, HW.out.size⟩
      clear HF HR
      by_cases h6 : kr ≤ 6
      · clear hc0 hc1
        have q1 : decide (6 < (kr : Int)) = false := by simp; omega
        go_wp2_with (fail)
        go_region_held_law (fun w' => w'.cell? ⟨g, o + k * 2, none⟩ = some (.slice A1 kl c1) ∧ w'.cell? ⟨g, o + k * 2 + 1, none⟩ = some (.slice A2 kr c2) ∧ Fl w' g1 o1 A1 (flatC cs) ∧ Rws w' g2 o2 A2 ls ∧ Below w.heap.size w w' ∧ w.heap.size ≤ w'.heap.size) (first | exact keepTb (by assumption) hbq | exact keepTbD (by assumption) | assumption) (first | (go_at_call 52; (with_reducible refine (CR.out _ (keepTb1 (by assumption)) (keepTb2 (by assumption))).mono ?_); rintro e w1 ⟨rfl, hbq⟩))
        have HWn := Lib.hid (keepTb3 (by assumption))
        go_wp2
        · go_ret
          refine ⟨retB ?_, HWn.out⟩
          have hb : B1 = false := not_of (by assumption)
          rw [tablesB_eq, HN.out (by rw [HT.out, hb]; simp)]; simp
        · go_round
          case rel =>
            have hb : B1 = true := yes_of (by assumption)
            refine ⟨k + 1, by omega, by go_num, ?_, HWn⟩
            show _ = _
            rw [HS.out, HL.out, HT.out, hb]; simp; omega
          case measure => simp [intOf]; omega
      · have q1 : (6 < (kr : Int)) := by omega
        go_wp2_with (fail)
        go_quiet (fail)
        go_wp2
        go_ret
        refine ⟨retB ?_, below_drewN HW.out _⟩
        rw [tablesB_eq, HN.out (by rw [HT.out]; simp; omega)]; simp
    · obtain rfl : k = ts.length := by omega
      go_wp2
      go_ret
      refine ⟨retB ?_, HW.out⟩
      rw [tablesB_eq, all_end HL, Bool.eq_iff_iff]; simp; try omega
end Go.Proofs.YtacinjbaebimhaaGreat.Val
namespace Go.Proofs.YtacinjbaebimhaaGreat.Val
open Go.RowKit
set_option linter.unusedVariables false
set_option maxRecDepth 8000
theorem all_ok {r : Option (List (List CT) × List Nat)} {ok : Bool} {cl : List (List CT)} (h : r.map (fun st => st.1) = if ok = true then some cl else none) : ok = r.isSome := by
  cases ok with
  | false => cases r with
    | none => rfl
    | some st => simp at h
  | true => cases r with
    | none => simp at h
    | some st => rfl
theorem planOkS (AT AP : Option Addr) (gT oT cT gP oP cP : Nat) (tb : List TB) (p : List SP) (w : World) (hT : Tbs w gT oT AT tb) (hok : OkT tb) (hP : Sps w gP oP AP p) (hps : OkS p) :
    Calls Tryz.prog 18 #[.slice AT tb.length cT, .slice AP p.length cP] w fun e w' => e = .returned (.bool (planB tb p)) ∧ Below w.heap.size w w' := by
  have HT := Lib.hid hT
  have HP := Lib.hid hP
  have hpl := hps.1
  have CA := Lib.hid (fun W h1 h2 => l6All AT AP gT oT cT gP oP cP tb p W h1 hok h2 hps)
  have CT := Lib.hid (fun W h1 => tablesOkS AT gT oT cT tb W h1 hok)
  have CI := Lib.hid (fun W => l1In (p.length : Int) 1 6 W)
  unfold RetAll at CA
  have HPB : Hid (planB tb p = ((allI tb p).isSome && tablesB tb && (decide (1 ≤ p.length) && decide (p.length ≤ 6)))) := rfl
  have hl6 : (decide ((1 : Int) ≤ (p.length : Int)) && decide ((p.length : Int) ≤ 6)) = (decide (1 ≤ p.length) && decide (p.length ≤ 6)) := by congr 1 <;> exact decide_eq_decide.2 (by omega)
  rw [hl6] at CI
  obtain ⟨b2, hb2⟩ : ∃ b, tablesB tb = b := ⟨_, rfl⟩
  obtain ⟨b3, hb3⟩ : ∃ b, (decide (1 ≤ p.length) && decide (p.length ≤ 6)) = b := ⟨_, rfl⟩
  rw [hb2] at CT HPB
  rw [hb3] at CI HPB
  obtain ⟨r, hr⟩ : ∃ r, allI tb p = r := ⟨_, rfl⟩
  rw [hr] at CA HPB
  clear hT hok hP hps hl6 hb2 hb3 hr
  have CI2 := Lib.hid (fun W => show Calls Tryz.prog 34 #[.int .i64 (p.length : Int), .int .i64 1, .int .i64 6] W fun e w' => e = .returned (.bool b3) ∧ Below W.heap.size W w' by
    refine (CI.out W).mono ?_
    rintro e w1 ⟨rfl, rfl⟩
    exact ⟨rfl, Below.refl _ _⟩)
  have HB := Lib.hid (Below.refl w.heap.size w)
  have S0 := True.intro
  go_enter Tryz.func18, Tryz.ntmps18
  cases b2 <;> cases b3 <;> cases r
  all_goals go_wp2_with (first
    | ((have _ := S0); (fail_if_success (have _ := S1)); go_at_call 32; (with_reducible refine (CA.out _ (HT.out.below HB.out) (HP.out.below HB.out)).mono ?_); rintro e wn0 ⟨ga, ca, Ta, cl, ok, ⟨rfl, hc, hr⟩, hb1⟩; have HBn : Hid (Below w.heap.size w wn0) := Below.trans (by repeat (with_reducible first | exact HB.out | refine Below.alloc ?_ (by first | omega | (have := HB.out.size; omega) | (simp; done) | (have := HB.out.size; simp; omega)) _ | apply Below.drew)) (Below.mono hb1 (by have := HB.out.size; first | omega | (simp; omega))); clear HB; have HB := HBn; clear HBn; have h9 := all_ok hr; simp only [Option.isSome_none, Option.isSome_some] at h9; subst h9; clear hc hr; clear hb1; have S1 := True.intro)
    | ((have _ := S1); (fail_if_success (have _ := S2)); go_at_call 33; (with_reducible refine (CT.out _ (HT.out.below HB.out)).mono ?_); rintro e wn1 ⟨rfl, hb1⟩; have HBn : Hid (Below w.heap.size w wn1) := Below.trans (by repeat (with_reducible first | exact HB.out | refine Below.alloc ?_ (by first | omega | (have := HB.out.size; omega) | (simp; done) | (have := HB.out.size; simp; omega)) _ | apply Below.drew)) (Below.mono hb1 (by have := HB.out.size; first | omega | (simp; omega))); clear HB; have HB := HBn; clear HBn; clear hb1; have S2 := True.intro)
    | ((have _ := S2); (fail_if_success (have _ := S3)); go_at_call 34; (with_reducible refine (CI2.out _).mono ?_); rintro e wn2 ⟨rfl, hb1⟩; have HBn : Hid (Below w.heap.size w wn2) := Below.trans (by repeat (with_reducible first | exact HB.out | refine Below.alloc ?_ (by first | omega | (have := HB.out.size; omega) | (simp; done) | (have := HB.out.size; simp; omega)) _ | apply Below.drew)) (Below.mono hb1 (by have := HB.out.size; first | omega | (simp; omega))); clear HB; have HB := HBn; clear HBn; clear hb1; have S3 := True.intro)
    | ((have _ := S1); (fail_if_success (have _ := S2)); go_at_call 34; (with_reducible refine (CI2.out _).mono ?_); rintro e wn1 ⟨rfl, hb1⟩; have HBn : Hid (Below w.heap.size w wn1) := Below.trans (by repeat (with_reducible first | exact HB.out | refine Below.alloc ?_ (by first | omega | (have := HB.out.size; omega) | (simp; done) | (have := HB.out.size; simp; omega)) _ | apply Below.drew)) (Below.mono hb1 (by have := HB.out.size; first | omega | (simp; omega))); clear HB; have HB := HBn; clear HBn; clear hb1; have S2 := True.intro))
  all_goals (go_ret; exact ⟨retB (by rw [HPB.out]; first | rfl | simp), HB.out⟩)
end Go.Proofs.YtacinjbaebimhaaGreat.Val
namespace Go.Proofs.YtacinjbaebimhaaGreat.Val
open Go.RowKit
set_option linter.unusedVariables false
set_option maxRecDepth 8000
/-- What each step is asked with. -/
theorem step_ready {tb : List TB} {p : List SP} (h : planB tb p = true) (k : Nat) (hk : k < p.length) : ∃ (cl : List (List CT)) (c : List CT), cl.length = (everyI tb (p.take k)).length ∧ colS tb cl p[k] = some c ∧ ∀ j, j < (everyI tb (p.take k)).length → rowsB (cl.getD j []) ((everyI tb (p.take k)).getD j []) = true ∧ ((everyI tb (p.take k)).getD j []).length ≤ 300 := by
  obtain ⟨⟨st, hst⟩, ht, -, -⟩ := planB_iff.1 h
  have h1 := allI_pre (tb := tb) (p := p) (by rw [hst]; rfl) (k + 1)
  rw [allI_take tb p k hk] at h1
  rcases hq : allI tb (p.take k) with _ | s0
  · rw [hq] at h1; cases h1
  · rw [hq] at h1
    obtain ⟨s1, hs1⟩ := Option.isSome_iff_exists.1 h1
    obtain ⟨c, hc, -, -⟩ := stepS_some (st := s0) hs1
    have hl : (everyI tb (p.take k)).length = k := by rw [everyI_len, List.length_take]; omega
    have hl2 := (allI_len hq).1
    rw [List.length_take, Nat.min_eq_left (by omega)] at hl2
    refine ⟨s0.1, c, by omega, hc, fun j hj => ?_⟩
    have h3 := every_fits ht hq j (by rw [List.length_take]; omega)
    exact ⟨h3.1, by omega⟩
def RetBag3 (ev : List (List RT)) (w : World) (e : Ending) (w' : World) : Prop := ∃ (g c : Nat) (L : List T3), e = .returned (.slice (some ⟨g, 0, none⟩) ev.length c) ∧ Bag3 w' w.heap.size g c L ev ∧ Below w.heap.size w w'
set_option maxHeartbeats 4000000 in
theorem l6Every (AT AP : Option Addr) (gT oT cT gP oP cP : Nat) (tb : List TB) (p : List SP) (w : World) (hT : Tbs w gT oT AT tb) (hok : OkT tb) (hP : Sps w gP oP AP p) (hps : OkS p) (hpb : planB tb p = true) :
    Calls Tryz.prog 19 #[.slice AT tb.length cT, .slice AP p.length cP] w (RetBag3 (everyI tb p) w) := by
  obtain ⟨i0, hi, iz0, iz1, iz2⟩ := info_parts infoVSS
  have HT := Lib.hid hT
  have HK := Lib.hid hok
  have HP := Lib.hid hP
  have HS := Lib.hid hps
  have hpl := hps.1
  have HPB := Lib.hid (fun k hk => step_ready hpb k hk)
  clear hT hok hP hps hpb
  go_enter Tryz.func19, Tryz.ntmps19
  go_wp2
  go_loopw [5, 6] (fun ox kx wr => ∃ (k g c : Nat) (L : List T3) (ev : List (List RT)), k ≤ p.length ∧ kx = .int .i64 k ∧ ox = .slice (some ⟨g, 0, none⟩) k c ∧ Hid (ev = everyI tb (p.take k)) ∧ Hid (Bag3 wr w.heap.size g c L ev) ∧ Hid (Below w.heap.size w wr)) (fun _ kx _ => p.length - (intOf kx).toNat)
  case atStart => exact ⟨0, w.heap.size, 0, [], [], Nat.zero_le _, rfl, rfl, rfl, Bag3.empty w (Nat.le_refl _), (Below.refl _ _).alloc (Nat.le_refl _) _⟩
  case round =>
    obtain ⟨k, g, c, L, ev, hk, rfl, rfl, HO, HC, HB⟩ := hrel
    have hwz := HB.out.size
    have hel : ev.length = k := by rw [HO.out, everyI_len, List.length_take]; omega
    by_cases hlt : k < p.length
    · obtain ⟨rfl, hgP, A1, c1, g1, o1, A2, c2, g2, o2, x0, x1, x2, x3, x4, x5, hf1, hf2, -⟩ := (HP.out.below HB.out).at k hlt
      have hok1 := HS.out.at k hlt
      obtain ⟨cl, cc, h1, h2, h3⟩ := HPB.out k hlt
      have HTK := Lib.hid (everyI_take tb p k hlt)
      rw [← HO.out] at h1 h3 HTK
      obtain ⟨S, hS⟩ : ∃ S, p[k] = S := ⟨_, rfl⟩
      rw [hS] at x0 x1 x2 x3 x4 x5 hf1 hf2 hok1 HTK h2
      clear hS
      have CR := Lib.hid (fun W hT hA hE hN => l6Rows AT (some ⟨g, 0, none⟩) gT oT cT g 0 c tb ev cl S cc A1 A2 g1 o1 c1 g2 o2 c2 W hT HK.out hA h1 (by omega) h3 h2 hE hN hok1)
      unfold RetBag aggS at CR
      rw [hel] at CR
      obtain ⟨ls, hls⟩ : ∃ ls, rowS tb ev S = ls := ⟨_, rfl⟩
      rw [hls] at CR HTK
      obtain ⟨s1, s2, s3, s4, es, ns⟩ := S
      simp only at x0 x1 x2 x3 x4 x5 hf1 hf2 CR
      have HE := Lib.hid hf1
      have HN := Lib.hid hf2
      have HEL := Lib.hid hel
      obtain ⟨el, hel2⟩ : ∃ m, es.length = m := ⟨_, rfl⟩
      rw [hel2] at x4 CR
      obtain ⟨nl, hnl⟩ : ∃ m, ns.length = m := ⟨_, rfl⟩
      rw [hnl] at x5 CR
      obtain ⟨ll, hll⟩ : ∃ m, ls.length = m := ⟨_, rfl⟩
      have HLL := Lib.hid hll
      rw [hll] at CR
      have i0' : (0 : Int) ≤ (k : Int) := by omega
      have i1' : (k : Int) < (p.length : Int) := by omega
      have HN2 : Hid (ev ++ [ls] = everyI tb (p.take (k + 1))) := HTK.out.symm
      clear hf1 hf2 hok1 h1 h2 h3 hls hel hel2 hnl hll HTK
      go_wp2_with (first
        | (go_at_call 35; (with_reducible refine (CR.out _ (HT.out.below HB.out) HC.out.r3 HE.out HN.out).mono ?_); rintro e w1 ⟨g9, c9, T9, rfl, hbag, hb1⟩; go_loud (have BG9 := Lib.hid hbag; have HC1 := Lib.hid (HC.out.below hb1); have HB1 := Lib.hid (HB.out.trans (hb1.mono hwz)); have hz1 := hb1.size; have hgl := HC.out.lo.2; clear hb1 hbag))
        | (at_builtin; go_loud (refine wpList_append_block _ rfl (.tmp 14) (.tmp 22) 44 rfl w.heap.size 27 i0 (.slice none 0 0) 1 24 Tryz.underlying44 hi iz0 iz1 iz2 rfl (by decide) g k c (L.map hd3) rfl (by have h := HC1.out.own; rw [HEL.out] at h; exact h.alloc _) _ 1 1 [.slice (some ⟨g9, 0, none⟩) ll c9] rfl rfl (news_new (by first | rfl | simp)) (by simp [Value.oneCell']) (by unfold maxLen; omega) (by omega) (by first | omega | (simp; done) | (simp; omega)) ?_); intro g3 c3 w3 hown hgr hgg; go_loud (have e9 : rows3 (g9, c9, T9) = ls := BG9.out.eq; have hh9 : hd3 (g9, c9, T9) = .slice (some ⟨g9, 0, none⟩) ll c9 := (by rw [hd3, show (g9, c9, T9).2.2.length = ll from by rw [← HLL.out]; exact BG9.out.len]); have hbg : Bag w1 w.heap.size g9 c9 T9 (rows3 (g9, c9, T9)) := (by rw [e9]; exact BG9.out.lower (by omega)); have hne : g ∉ blk3 (g9, c9, T9) := (fun h => by have h9 := Bag.blk (u := (g9, c9, T9)) (w := w1) (B := wr.heap.size) (by rw [e9]; exact BG9.out) _ h; omega); have hp := Bag3.push (u := (g9, c9, T9)) (HC1.out.below ((Below.refl _ _).alloc (Nat.le_refl _) _)) (hbg.below ((Below.refl _ _).alloc (Nat.le_refl _) _)) hne (n := k + 1) (by rw [HEL.out]) (by rw [hh9]; exact hown) hgr hgg; rw [e9] at hp; have HC3 := Lib.hid hp; have HB3 := Lib.hid (Below.grown (HB1.out.alloc HB1.out.size _) hgr (by simp; omega) (fun k hk => by obtain rfl := Option.some.inj hk; exact HC.out.lo.1)); clear hown hgr hgg e9 hh9 hbg hne hp)))
      exact ⟨⟨k + 1, g3, c3, _, ev ++ [ls], by omega, by go_num, rfl, HN2, HC3, HB3⟩, by simp [intOf]; omega⟩
    · obtain rfl : k = p.length := by omega
      have HO2 : Hid (ev = everyI tb p) := by show _ = _; have := HO.out; rwa [List.take_length] at this
      obtain rfl := HO2.out
      go_wp2
      go_ret
      exact ⟨g, c, L, by rw [hel]; rfl, HC.out, HB.out⟩
theorem planRowsS (AT AP : Option Addr) (gT oT cT gP oP cP : Nat) (tb : List TB) (p : List SP) (w : World) (hT : Tbs w gT oT AT tb) (hok : OkT tb) (hP : Sps w gP oP AP p) (hps : OkS p) :
    Calls Tryz.prog 7 #[.slice AT tb.length cT, .slice AP p.length cP] w (RetBag (prowsI tb p) w) := by
  have HT := Lib.hid hT
  have HP := Lib.hid hP
  have hpl2 := hps.1
  have CO := Lib.hid (fun W h1 h2 => planOkS AT AP gT oT cT gP oP cP tb p W h1 hok h2 hps)
  have HB := Lib.hid (Below.refl w.heap.size w)
  have S0 := True.intro
  cases hpb : planB tb p with
  | false =>
    rw [(plan_none hpb).2]
    rw [hpb] at CO
    clear hT hok hP hps
    go_enter Tryz.func7, Tryz.ntmps7
    go_wp2_with (((have _ := S0); (fail_if_success (have _ := S1)); go_at_call 18; (with_reducible refine (CO.out _ (HT.out.below HB.out) (HP.out.below HB.out)).mono ?_); rintro e wn0 ⟨rfl, hb1⟩; have HBn : Hid (Below w.heap.size w wn0) := Below.trans (by repeat (with_reducible first | exact HB.out | refine Below.alloc ?_ (by first | omega | (have := HB.out.size; omega) | (simp; done) | (have := HB.out.size; simp; omega)) _ | apply Below.drew)) (Below.mono hb1 (by have := HB.out.size; first | omega | (simp; omega))); clear HB; have HB := HBn; clear HBn; clear hb1; have S1 := True.intro))
    go_ret
    exact ⟨wn0.heap.size, 0, [], rfl, (Bag.empty wn0).lower HB.out.size, HB.out.alloc HB.out.size _⟩
  | true =>
    obtain ⟨-, -, h1, h6⟩ := planB_iff.1 hpb
    have CA := Lib.hid (fun W h1 h2 => l6Every AT AP gT oT cT gP oP cP tb p W h1 hok h2 hps hpb)
    unfold RetBag3 at CA
    have hel : (everyI tb p).length = p.length := everyI_len tb p
    have HG : Hid (prowsI tb p = (everyI tb p).getD (p.length - 1) []) := (prows_last hpb).symm
    rw [hpb] at CO
    obtain ⟨ev, hev⟩ : ∃ ev, everyI tb p = ev := ⟨_, rfl⟩
    rw [hev] at CA hel HG
    have HEL := Lib.hid hel
    rw [hel] at CA
    rw [HG.out, getD_lt (show p.length - 1 < ev.length by omega)]
    obtain ⟨n, hn⟩ : ∃ n, p.length - 1 = n := ⟨_, rfl⟩
    have hnl : n < ev.length := by omega
    have HR : Hid (ev[p.length - 1]'(by omega) = ev[n]) := by subst hn; rfl
    rw [HR.out]
    have j0' : ((p.length : Int) - 1).toNat = n := by omega
    have j1' : (0 : Int) ≤ (p.length : Int) - 1 := by omega
    have j2' : (p.length : Int) - 1 < (p.length : Int) := by omega
    clear hT hok hP hps hpb HG HR hev hn h1 h6 hel
    obtain ⟨R, hR⟩ : ∃ R, ev[n] = R := ⟨_, rfl⟩
    have HRR := Lib.hid hR
    rw [hR]
    clear hR
    go_enter Tryz.func7, Tryz.ntmps7
    go_wp2_with (first
      | ((have _ := S0); (fail_if_success (have _ := S1)); go_at_call 18; (with_reducible refine (CO.out _ (HT.out.below HB.out) (HP.out.below HB.out)).mono ?_); rintro e wn0 ⟨rfl, hb1⟩; have HBn : Hid (Below w.heap.size w wn0) := Below.trans (by repeat (with_reducible first | exact HB.out | refine Below.alloc ?_ (by first | omega | (have := HB.out.size; omega) | (simp; done) | (have := HB.out.size; simp; omega)) _ | apply Below.drew)) (Below.mono hb1 (by have := HB.out.size; first | omega | (simp; omega))); clear HB; have HB := HBn; clear HBn; have hwz0 := HB.out.size; clear hb1; have S1 := True.intro)
      | ((have _ := S1); (fail_if_success (have _ := S2)); go_at_call 19; (with_reducible refine (CA.out _ (HT.out.below HB.out) (HP.out.below HB.out)).mono ?_); rintro e wn1 ⟨ga, ca, L, rfl, hc, hb1⟩; have HBn : Hid (Below w.heap.size w wn1) := Below.trans (by repeat (with_reducible first | exact HB.out | refine Below.alloc ?_ (by first | omega | (have := HB.out.size; omega) | (simp; done) | (have := HB.out.size; simp; omega)) _ | apply Below.drew)) (Below.mono hb1 (by have := HB.out.size; first | omega | (simp; omega))); clear HB; have HB := HBn; clear HBn; have hcl := hc.len; have hnl2 : n < L.length := (by omega); have hbag := hc.bags L[n] (List.getElem_mem _); have hrw : rows3 L[n] = R := (by have h9 := hc.eq; have h8 : (L.map rows3)[n]? = ev[n]? := (by rw [h9]); rw [List.getElem?_map, List.getElem?_eq_getElem hnl2, List.getElem?_eq_getElem hnl, HRR.out] at h8; exact Option.some.inj h8); have hcx := hc.own.cellAt n (by omega); rw [List.getElem?_map, List.getElem?_eq_getElem hnl2] at hcx; obtain ⟨U, hU⟩ : ∃ U, L[n] = U := ⟨_, rfl⟩; rw [hU] at hbag hrw hcx; obtain ⟨gx, cx, Tx⟩ := U; rw [hrw] at hbag; have hcx2 : wn1.cell? ⟨ga, n, none⟩ = some (.slice (some ⟨gx, 0, none⟩) R.length cx) := (by rw [hcx]; show some (hd3 (gx, cx, Tx)) = _; rw [hd3, show (gx, cx, Tx).2.2.length = R.length from hbag.len]); have HBG := Lib.hid hbag; have hwz1 := HB.out.size; clear hc hbag hcl hrw hcx hU; clear hb1; have S2 := True.intro))
    go_ret
    exact ⟨gx, cx, Tx, rfl, HBG.out.lower (by omega), HB.out⟩
end Go.Proofs.YtacinjbaebimhaaGreat.Val
namespace Go.Proofs.YtacinjbaebimhaaGreat.Val
open Go.RowKit
set_option linter.unusedVariables false
set_option maxRecDepth 8000
end Go.Proofs.YtacinjbaebimhaaGreat.Val
