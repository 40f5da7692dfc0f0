/- The walk of l20Plan. -/
import Derived.Test.YtacinjbaebimhaaGreatDrawPlQ
import Derived.Deep.CutRange
import Derived.Deep.RegionHeldLaw
import Derived.Deep.RegionHeld
import Derived.RegionTactic
import Derived.Orders
namespace Go.Proofs.YtacinjbaebimhaaGreat.Val
open Go.RowKit
set_option linter.unusedSimpArgs false
set_option linter.unusedVariables false
set_option maxRecDepth 20000
theorem CBag.only {w w' : World} {B g cap r : Nat} {T : List CC} {cl : List (List CT)} (h : CBag w B g cap T cl) (hr : r < B) (ho : Only r w w') : CBag w' B g cap T cl :=
  h.keep ho.size (ho.block _ h.lo.2 (by have := h.lo.1; omega)) fun t ht => ho.block _ (h.rows t ht).hi (by have := (h.rows t ht).lo; omega)
theorem CBag.at {w : World} {B g cap : Nat} {T : List CC} {cl : List (List CT)} (h : CBag w B g cap T cl) (j : Nat) (hj : j < cl.length) : ∃ (ga ca : Nat), w.cell? ⟨g, j, none⟩ = some (.slice (some ⟨ga, 0, none⟩) cl[j].length ca) ∧ Fl w ga 0 (some ⟨ga, 0, none⟩) (flatC cl[j]) ∧ B ≤ ga ∧ ga < w.heap.size ∧ cl[j].length ≤ ca ∧ ca ≤ maxLen := by
  have hl := h.len
  have hj2 : j < T.length := by omega
  have hr := h.rows T[j] (List.getElem_mem _)
  have he : cl[j] = T[j].2.2 := by
    have := h.eq
    subst this
    simp
  refine ⟨T[j].1, T[j].2.1, ?_, ?_, hr.lo, hr.hi, ?_⟩
  · rw [h.own.cellAt j (by omega), List.getElem?_map, List.getElem?_eq_getElem hj2, he]; rfl
  · rw [he]; exact hr.fl
  · rw [he]; exact hr.cap
theorem cols4 {tb : List TB} {p : List SP} {st : List (List CT) × List Nat} (ht : tablesB tb = true) (h : allI tb p = some st) (j : Nat) (hj : j < st.1.length) : st.1[j].length ≤ 4 := by
  have h1 := (every_fits ht h j (by rw [← (allI_len h).1]; exact hj)).1
  rw [getD_lt hj] at h1
  exact (colB_iff.1 (rowsB_iff.1 h1).1).1
theorem l6AllEnters (vs : Array Value) (w : World) : (callFunc 32 vs).run Tryz.prog w = .ok (.enter 32 vs) w := by
  go_simp
set_option maxHeartbeats 16000000 in
theorem l20Plan (B r gT cT BT : Nat) (UT2 : List UT) (tb : List TB) (p : Int) (w : World) (h : RdOk B r w p) (hp : p ≤ 40000000) (hT : TabW w BT gT cT UT2 tb) (hrT : r < BT) (h1 : 1 ≤ tb.length) (h3 : tb.length ≤ 3) (hf : TabsFit tb) :
    Calls Tryz.prog 24 #[.pointer (some ⟨r, 0, none⟩), .slice (some ⟨gT, 0, none⟩) tb.length cT] w (DrewPl B r p w) := by
  obtain ⟨i0, hi, iz0, iz1, iz2⟩ := info_parts infoST
  obtain ⟨j0, hj, jz0, jz1, jz2⟩ := info_parts infoN
  obtain ⟨k0, hk, kz0, kz1, kz2⟩ := info_parts infoC
  have hlt := h.lt
  have hge := h.ge
  have hp0 := h.p0
  have HR := Lib.hid h
  have HO := Lib.hid (Only.refl r w)
  have TW := Lib.hid hT
  have TBL := Lib.hid (hf.tables h3)
  have TOK := Lib.hid (hf.ok h3)
  have hgT := hT.lo
  clear h hT hf
  obtain ⟨nt, hnt⟩ : ∃ n, tb.length = n := ⟨_, rfl⟩
  have HNT := Lib.hid hnt
  rw [hnt] at h1 h3 ⊢
  clear hnt
  go_enter Tryz.func24, Tryz.ntmps24
  go_wp2_with (first
    | ((fail_if_success (have _ := PA)); (go_at_call 26; (with_reducible refine (pick B r (nt : Int) p _ (by repeat (with_reducible first | exact HR.out | apply RdOk.alloc | apply RdOk.drew | (refine RdOk.setFar ?_ (by first | omega | (simp; done) | (simp; omega)) _))) (by omega)).mono ?_); rintro e w1 ⟨mN, rfl, hN0, hN1, hN2, ho, hr⟩; have HOn := Lib.hid (Only.trans (by repeat (with_reducible first | exact HO.out | apply Only.alloc | apply Only.drew | (refine Only.setNew ?_ (by first | omega | (simp; done) | (simp; omega)) _))) ho); clear HO HR; have HO := HOn; have HR := Lib.hid hr; clear HOn hr; have PA := True.intro; have hz1 := HO.out.size; have PL := Lib.hid (PlW.one (w := w1) (B := w.heap.size) mN (by omega)); clear ho))
    | (go_at_call 26; (with_reducible refine (pick B r 6 _ _ (by repeat (with_reducible first | exact HR.out | apply RdOk.alloc | apply RdOk.drew | (refine RdOk.setFar ?_ (by first | omega | (simp; done) | (simp; omega)) _))) (by omega)).mono ?_); rintro e w1 ⟨m6, rfl, h60, h61, h62, ho, hr⟩; have HOn := Lib.hid (Only.trans (by repeat (with_reducible first | exact HO.out | apply Only.alloc | apply Only.drew | (refine Only.setNew ?_ (by first | omega | (simp; done) | (simp; omega)) _))) ho); have K0 := Lib.hid (by first | exact PL.out.only (by omega) ho | exact (PL.out.alloc _).only (by omega) ho | exact (PL.out.drew).only (by omega) ho); clear PL; have PL := K0; clear K0; clear HO HR; have HO := HOn; have HR := Lib.hid hr; clear HOn hr; have h61 := h61 (by omega); clear ho))
  go_loopw [5, 6] (fun px kx wr => ∃ (K : Int) (g1 c1 : Nat) (U : List UD) (ps : List SP) (q : Int), kx = .int .i64 K ∧ 0 ≤ K ∧ K ≤ 5 ∧ (ps.length : Int) + K ≤ 6 ∧ 1 ≤ ps.length ∧ px = .slice (some ⟨g1, 0, none⟩) ps.length c1 ∧ q + 3000 * K ≤ p + 16000 ∧ Hid (PlW wr w.heap.size g1 c1 U ps) ∧ Hid (∀ s ∈ ps, StepFit s) ∧ Hid (RdOk B r wr q) ∧ Hid (Only r w wr)) (fun _ kx _ => (intOf kx).toNat)
  case atStart => exact ⟨_, _, _, _, _, _, rfl, by omega, by omega, by simp; omega, by simp, rfl, by omega, PL, fun s hs => by obtain rfl := List.mem_singleton.1 hs; exact stepFit_bare _ _ _ _, HR, HO⟩
  case round =>
    clear PL HR HO
    obtain ⟨K, g1, c1, U, ps, q, rfl, hK0, hK5, hKL, hL1, rfl, hq, PL, SF, HR, HO⟩ := hrel
    have hws := HO.out.size
    have hg1 := PL.out.lo
    have hrl := HR.out.lt
    have hq0 := HR.out.p0
    obtain ⟨n, hn⟩ : ∃ n, ps.length = n := ⟨_, rfl⟩
    have HN := Lib.hid hn
    rw [hn] at hKL hL1 ⊢
    by_cases hK : 0 < K
    · clear hn
      have CA := Lib.hid (fun W h1 h2 => l6All (some ⟨gT, 0, none⟩) (some ⟨g1, 0, none⟩) gT 0 cT g1 0 c1 tb ps W h1 TOK.out h2 (okS_fit (by have := HN.out; omega) SF.out))
      rw [HNT.out, HN.out] at CA
      go_upto_region 6 with (go_at_call 32; (with_reducible refine (CA.out _ (TW.out.only hrT HO.out).tbs PL.out.sps).mono ?_); rintro e w7 ⟨g7, c7, T7, cl, ok, ⟨rfl, hc7, hr7⟩, hb7⟩; have HB7 := Lib.hid hb7; have CB := Lib.hid hc7; have HOK := Lib.hid hr7; clear hb7 hc7 hr7)
      cases ok with
      | false =>
        go_wp2
        go_ret
        exact ⟨g1, c1, U, ps, q, by rw [HN.out]; rfl, PL.out.below HB7.out, by have := HN.out; omega, by have := HN.out; omega, SF.out, by omega, HO.out.trans (onlyBelow HB7.out), rdUnder HR.out HB7.out⟩
      | true =>
        have hex : ∃ st, allI tb ps = some st := by
          have := HOK.out
          cases h : allI tb ps with
          | none => rw [h] at this; simp at this
          | some st => exact ⟨st, rfl⟩
        obtain ⟨st, hst⟩ := hex
        have hcl : cl = st.1 := by have h := HOK.out; rw [hst] at h; simpa using h.symm
        have hcln : cl.length = n := by rw [hcl, (allI_len hst).1, HN.out]
        have HC4 := Lib.hid (fun (j : Nat) (hj : j < cl.length) => (by subst hcl; exact cols4 TBL.out hst j hj : cl[j].length ≤ 4))
        have HCLN := Lib.hid hcln
        have PL7 := Lib.hid (PL.out.below HB7.out)
        have TW7 := Lib.hid ((TW.out.only hrT HO.out).below HB7.out)
        have HR7 := Lib.hid (rdUnder HR.out HB7.out)
        have HO7 := Lib.hid (HO.out.trans (onlyBelow (g := r) HB7.out))
        have hz7 := HB7.out.size
        rw [hcln]
        clear hst hcl hcln PL TW HO HR HB7 HOK CA
        have HR := HR7
        have HO := Lib.hid (Only.refl r w7)
        clear HR7
        go_upto_if 51 with ((go_at_call 26; (with_reducible refine (pick B r 5 q _ (by repeat (with_reducible first | exact HR.out | apply RdOk.alloc | apply RdOk.drew | (refine RdOk.setFar ?_ (by first | omega | (simp; done) | (simp; omega)) _))) (by omega)).mono ?_); rintro e w1 ⟨m5, rfl, h50, h51, h52, ho, hr⟩; have HOn := Lib.hid (Only.trans (by repeat (with_reducible first | exact HO.out | apply Only.alloc | apply Only.drew | (refine Only.setNew ?_ (by first | omega | (simp; done) | (simp; omega)) _))) ho); clear HO HR; have HO := HOn; have HR := Lib.hid hr; clear HOn hr; have h51 := h51 (by omega); clear h52; clear ho))
        go_cut [10] from 29 to 163 (fun ax wx => ∃ a : Nat, a < n ∧ ax = .int .i64 (a : Int) ∧ wx = w1)
        case first =>
          go_wp2
          · go_meet
            exact ⟨0, by omega, rfl, rfl⟩
          · go_meet
            refine ⟨((n : Int) - 1 - m5 / 4).toNat, by omega, ?_, rfl⟩
            rw [Int.toNat_of_nonneg (by omega)]
        case rest =>
          obtain ⟨a, han, rfl, rfl⟩ := hcut
          have HAN := Lib.hid han
          go_upto_block 2 with (first
            | ((fail_if_success (have _ := PB)); (go_at_call 26; (with_reducible refine (pick B r (nt : Int) _ _ (by repeat (with_reducible first | exact HR.out | apply RdOk.alloc | apply RdOk.drew | (refine RdOk.setFar ?_ (by first | omega | (simp; done) | (simp; omega)) _))) (by omega)).mono ?_); rintro e w1 ⟨mP, rfl, hP0, hP1, hP2, ho, hr⟩; have HOn := Lib.hid (Only.trans (by repeat (with_reducible first | exact HO.out | apply Only.alloc | apply Only.drew | (refine Only.setNew ?_ (by first | omega | (simp; done) | (simp; omega)) _))) ho); clear HO HR; have HO := HOn; have HR := Lib.hid hr; clear HOn hr; have PB := True.intro; have hz8 := HO.out.size; have BX := Lib.hid (BoxAt.new (w := w1) (B := w.heap.size) rfl (by omega) (.int .i64 1) (.int .i64 0) (.int .i64 0) (.int .i64 mP) (.slice none 0 0) (.slice none 0 0)); have hbb7 : w7.heap.size ≤ w1.heap.size := (by omega); obtain ⟨wp, rfl⟩ : ∃ x, x = w1 := ⟨_, rfl⟩; clear ho))
            | (go_at_call 26; (with_reducible refine (pick B r 7 _ _ (by repeat (with_reducible first | exact HR.out | apply RdOk.alloc | apply RdOk.drew | (refine RdOk.setFar ?_ (by first | omega | (simp; done) | (simp; omega)) _))) (by omega)).mono ?_); rintro e w1 ⟨m7, rfl, h70, h71, h72, ho, hr⟩; have HOn := Lib.hid (Only.trans (by repeat (with_reducible first | exact HO.out | apply Only.alloc | apply Only.drew | (refine Only.setNew ?_ (by first | omega | (simp; done) | (simp; omega)) _))) ho); have K0 := Lib.hid (by first | exact BX.out.only (by omega) ho | exact (BX.out.alloc _).only (by omega) ho | exact (BX.out.drew).only (by omega) ho); clear BX; have BX := K0; clear K0; clear HO HR; have HO := HOn; have HR := Lib.hid hr; clear HOn hr; have h71 := h71 (by omega); clear h72; clear ho))
          have hrw := HO7.out.size
          have hrw9 : r < w.heap.size := hlt
          have hzz := HO.out.size
          have hbx1 := BX.out.lo
          have hq8 := HR.out.p0
          go_cut [] from 29 to 163 (fun wx => PCut B r wp.heap.size w.heap.size w7.heap.size q w7 wx)
          case first =>
            obtain ⟨ga, ca, ea7, fa7, hga7, hga8, hca7, hca8⟩ := CB.out.at a (by rw [HCLN.out]; exact han)
            have h4 := HC4.out a (by rw [HCLN.out]; exact han)
            obtain ⟨cs, hcs⟩ : ∃ x, cl[a]'(by rw [HCLN.out]; exact han) = x := ⟨_, rfl⟩
            rw [hcs] at ea7 fa7 hca7 h4
            have hg7 := CB.out.lo
            have FA7 := Lib.hid fa7
            have a0' : (0 : Int) ≤ (a : Int) := by omega
            have a1' : (a : Int) < (n : Int) := by omega
            have ea := (HO.out.cell g7 a hg7.2 (by omega)).trans ea7
            have FA := Lib.hid (Fl.only FA7.out HO.out (by omega))
            clear hcs fa7
            obtain ⟨⟨c0, c1, c2, c3, c4, c5⟩, f0, f1, f2, f3, f4, f5⟩ := BX.out.facts
            obtain h | h | h | h | h | h : m7 = 0 ∨ m7 = 1 ∨ (m7 = 2 ∨ m7 = 3) ∨ m7 = 4 ∨ m7 = 5 ∨ m7 = 6 := by omega
            · subst h
              clear c0 c1 c2 c3 c4 c5 f0 f1 f2 f3 f4 f5
              go_wp2_with ((go_at_call 41; (with_reducible refine ((by have h := l20ExprT B r ga 0 ca (some ⟨ga, 0, none⟩) cs (by omega) (by omega) 2 (by omega) 3 2 _ _ (by omega) (by omega) (by repeat (with_reducible first | exact HR.out | apply RdOk.alloc | apply RdOk.drew | (refine RdOk.setFar ?_ (by first | omega | (simp; done) | (simp; omega)) _))) (by rw [show lenE 2 = 7 from rfl]; omega) FA.out (by simp); rw [show lenE 2 = 7 from rfl] at h; exact h : Calls _ _ _ _ _)).mono ?_); rintro e w1 ⟨es, v3, q3, rfl, hp0, hpM, hrun, htp, own3, hq3, ho, hr⟩; have HOn := Lib.hid (Only.trans (by repeat (with_reducible first | exact HO.out | apply Only.alloc | apply Only.drew | (refine Only.setNew ?_ (by first | omega | (simp; done) | (simp; omega)) _))) ho); have K0 := Lib.hid (by first | exact BX.out.only (by omega) ho | exact (BX.out.alloc _).only (by omega) ho | exact (BX.out.drew).only (by omega) ho); clear BX; have BX := K0; clear K0; clear HO HR; have HO := HOn; have HR := Lib.hid hr; clear HOn hr; obtain ⟨A3, k3, hv3, hor⟩ := optR_of_own own3; subst hv3; have OE := Lib.hid hor; have HTP := Lib.hid htp; clear own3 hrun htp hor; clear ho); obtain ⟨⟨c0, c1, c2, c3, c4, c5⟩, f0, f1, f2, f3, f4, f5⟩ := BX.out.facts)
              go_meet
              exact pcut_put ((2, (a : Int), 0, 0, es, []), (A3, k3), (none, 0)) BX.out OE.out .nil (by omega) (by omega) ⟨by simp only; omega, HTP.out, by simp⟩ (by omega) HO.out HR.out (by omega) (by omega)
            · as_aux_lemma =>
              subst h
              clear c0 c1 c2 c3 c4 c5 f0 f1 f2 f3 f4 f5 ea FA
              have BX0 := Lib.hid (BX.out)
              clear BX
              obtain ⟨⟨c0, c1, c2, c3, c4, c5⟩, f0, f1, f2, f3, f4, f5⟩ := BX0.out.facts
              go_upto_region 18 with fail
              have BX := Lib.hid (BX0.out.put (.int .i64 3) (.int .i64 (a : Int)) (.int .i64 0) (.int .i64 0) (.slice none 0 0) (.slice none 0 0))
              have HRn := Lib.hid (HR.out.put6 (b := wp.heap.size) (show r < wp.heap.size by omega) (.int .i64 3) (.int .i64 (a : Int)) (.int .i64 0) (.int .i64 0) (.slice none 0 0) (.slice none 0 0))
              have HOn := Lib.hid (HO.out.put6 (b := wp.heap.size) hbb7 (.int .i64 3) (.int .i64 (a : Int)) (.int .i64 0) (.int .i64 0) (.slice none 0 0) (.slice none 0 0))
              clear HR HO BX0 c0 c1 c2 c3 c4 c5 f0 f1 f2 f3 f4 f5
              have HR := HRn
              have HO := HOn
              clear HRn HOn
              go_wp2_with ((go_at_call 26; (with_reducible refine (pick B r 3 _ _ (by repeat (with_reducible first | exact HR.out | apply RdOk.alloc | apply RdOk.drew | (refine RdOk.setFar ?_ (by first | omega | (simp; done) | (simp; omega)) _))) (by omega)).mono ?_); rintro e w1 ⟨m8, rfl, h80, h81, h82, ho, hr⟩; have HOn := Lib.hid (Only.trans (by repeat (with_reducible first | exact HO.out | apply Only.alloc | apply Only.drew | (refine Only.setNew ?_ (by first | omega | (simp; done) | (simp; omega)) _))) ho); have K0 := Lib.hid (by first | exact BX.out.only (by omega) ho | exact (BX.out.alloc _).only (by omega) ho | exact (BX.out.drew).only (by omega) ho); clear BX; have BX := K0; clear K0; clear HO HR; have HO := HOn; have HR := Lib.hid hr; clear HOn hr; have h81 := h81 (by omega); clear h82; clear ho))
              have hbx2 := BX.out.lo
              go_loopw [12] (fun jx wr => ∃ (J : Int) (L : List Int) (A2 : Option Addr) (k2 : Nat) (q3 : Int), jx = .int .i64 J ∧ -1 ≤ J ∧ J ≤ 2 ∧ (L.length : Int) + J + 1 ≤ 3 ∧ q3 + J ≤ q + 20 ∧ Hid (BoxAt wr w.heap.size wp.heap.size [.int .i64 3, .int .i64 (a : Int), .int .i64 0, .int .i64 0, .slice none 0 0, .slice A2 L.length k2]) ∧ Hid (wr.ownsRow (wp.heap.size + 1) 3 1 (.slice A2 L.length k2) L.length (L.map iv)) ∧ Hid (Only r w7 wr) ∧ Hid (RdOk B r wr q3)) (fun jx _ => (intOf jx + 1).toNat)
              case atStart => exact ⟨m8, [], none, 0, _, rfl, by omega, by omega, by simp; omega, by omega, BX, World.ownsRow_nil _ _ _ _, HO, HR⟩
              case round =>
                clear BX HO HR
                obtain ⟨J, L, A2, k2, q3, rfl, hJ0, hJ1, hJL, hqJ, BX, OWN, HO, HR⟩ := hrel
                have hz9 := HO.out.size
                have hbx3 := BX.out.lo
                have hg7w : g7 < wr.heap.size := by omega
                have ea := (HO.out.cell g7 a hg7.2 (by omega)).trans ea7
                have hrl1 := HR.out.lt
                have hq7 := HR.out.p0
                have hnrb : ¬ (wp.heap.size = r) := by omega
                by_cases hJ : 0 ≤ J
                · by_cases hcs0 : 0 < cs.length
                  · have hcs1 : (0 : Int) < (cs.length : Int) := by omega
                    obtain ⟨⟨c0, c1, c2, c3, c4, c5⟩, f0, f1, f2, f3, f4, f5⟩ := BX.out.facts
                    have hlt1 : (wp.heap.size + 1) ≤ wr.heap.size := by omega
                    go_upto_region 21 with fail
                    go_region_law (first
                      | ((refine step_own rfl (.tmp 88) (.tmp 96) 33 rfl (wp.heap.size + 1) 3 j0 (.int .i64 0) 1 8 Tryz.underlying33 hj jz0 jz1 jz2 rfl (by decide) (.slice A2 L.length k2) L.length (L.map iv) rfl (by repeat (with_reducible first | exact OW1.out | apply World.ownsRow.alloc | apply own_drew)) _ _ _ [.int .i64 mi] rfl rfl (news_new (by first | rfl | simp)) (by simp [Value.oneCell']) (by unfold maxLen; omega) (by omega) (by first | omega | (simp; done) | (simp; omega)) ?_); intro vB wB hown hgr hnn; have hbk := fun k hk => (OW1.out.lt k hk).1; have HO2 := Lib.hid (Only.grown (HO1.out.alloc _) hgr (fun k hk => by have := hbk k hk; omega)); have HR2 := Lib.hid (rd_grown (HR1.out.alloc _) hgr (fun k hk => by have := hbk k hk; omega)); have BX2 := Lib.hid ((BX1.out.alloc _).grown hgr (fun e => by have := hbk _ e.symm; omega)); have OW2 := Lib.hid hown; obtain ⟨A3, k3, hvB, -⟩ := optR_of_own hown; subst hvB; obtain ⟨⟨-, -, -, -, -, e5⟩, -, -, -, -, -, e11⟩ := BX2.out.facts; clear hown hgr hnn)
                      | (go_simp; go_at_call 26; (with_reducible refine (pick B r (cs.length : Int) _ _ (by repeat (with_reducible first | exact HR.out | apply RdOk.alloc | apply RdOk.drew | (refine RdOk.setFar ?_ (by first | omega | (simp; done) | (simp; omega)) _))) (by omega)).mono ?_); rintro e w1 ⟨mi, rfl, hi0, hi1, hi2, ho, hr⟩; have HO1 := Lib.hid (Only.trans (by repeat (with_reducible first | exact HO.out | apply Only.alloc | apply Only.drew | (refine Only.setNew ?_ (by first | omega | (simp; done) | (simp; omega)) _))) ho); have HR1 := Lib.hid hr; have OW1 := Lib.hid (own_only2 (by repeat (with_reducible first | exact OWN.out | apply World.ownsRow.alloc | apply own_drew)) (by omega) ho); have BX1 := Lib.hid (BoxAt.only (by first | exact BX.out.drew | exact BX.out) hrw9 ho); have e5n := BX1.out.facts.1.2.2.2.2.2; have hw12 := BX1.out.lo.2; have hz12 := ho.size; (try simp only [World.size_drew] at hz12); clear ho hr hi2))
                    all_goals go_wp2
                    all_goals (refine ⟨⟨J - 1, L ++ [mi], A3, k3, _, by go_num, by omega, by omega, by simp; omega, ?_, by rw [show (L ++ [mi]).length = L.length + 1 by simp]; exact BX2.out.put5 _, ?_, HO2.out.setNew (by simp only; omega) _, HR2.out.setFar (show r < wp.heap.size by omega) _⟩, by simp [intOf]; omega⟩)
                    all_goals first
                      | omega
                      | (rw [show (L ++ [mi]).length = L.length + 1 by simp, List.map_append]
                         exact OW2.out.kept (World.ownsRow.stored BX2.out 5 _).2 (.inr fun e => by have := (OW2.out.lt _ e).1; omega))
                  · have hcs1 : ¬ ((0 : Int) < (cs.length : Int)) := by omega
                    go_wp2
                    go_meet
                    exact pcut_list (a : Int) BX.out OWN.out (by omega) (by omega) (by omega) HO.out HR.out
                · go_wp2
                  go_meet
                  exact pcut_list (a : Int) BX.out OWN.out (by omega) (by omega) (by omega) HO.out HR.out
            · as_aux_lemma =>
              have s0 : (m7 == 0) = false := by simp; omega
              have s1 : (m7 == 1) = false := by simp; omega
              clear c0 c1 c2 c3 c4 c5 f0 f1 f2 f3 f4 f5 ea FA
              go_upto_if 99 with fail
              go_cut [99] from 29 to 163 (fun vx wx => vx = .bool true ∧ wx = w1)
              case first =>
                rcases h with h | h
                · subst h
                  go_wp2
                  go_meet
                  exact ⟨rfl, rfl⟩
                · subst h
                  go_wp2
                  go_meet
                  exact ⟨rfl, rfl⟩
              case rest =>
              obtain ⟨rfl, rfl⟩ := hcut
              go_upto_region 25 with ((go_at_call 26; (with_reducible refine (pick B r (n : Int) _ _ (by repeat (with_reducible first | exact HR.out | apply RdOk.alloc | apply RdOk.drew | (refine RdOk.setFar ?_ (by first | omega | (simp; done) | (simp; omega)) _))) (by omega)).mono ?_); rintro e w1 ⟨mb, rfl, hb0, hb1, hb2, ho, hr⟩; have HOn := Lib.hid (Only.trans (by repeat (with_reducible first | exact HO.out | apply Only.alloc | apply Only.drew | (refine Only.setNew ?_ (by first | omega | (simp; done) | (simp; omega)) _))) ho); have K0 := Lib.hid (by first | exact BX.out.only (by omega) ho | exact (BX.out.alloc _).only (by omega) ho | exact (BX.out.drew).only (by omega) ho); clear BX; have BX := K0; clear K0; clear HO HR; have HO := HOn; have HR := Lib.hid hr; clear HOn hr; have hb1 := hb1 (by omega); clear hb2; clear ho))
              obtain ⟨b, rfl⟩ : ∃ b : Nat, mb = (b : Int) := ⟨mb.toNat, by omega⟩
              obtain ⟨gb, cb, eb7, fb7, hgb7, hgb8, hcb7, hcb8⟩ := CB.out.at b (by rw [HCLN.out]; omega)
              have h4b := HC4.out b (by rw [HCLN.out]; omega)
              obtain ⟨ds, hds⟩ : ∃ x, cl[b]'(by rw [HCLN.out]; omega) = x := ⟨_, rfl⟩
              rw [hds] at eb7 fb7 hcb7 h4b
              have b0' : (0 : Int) ≤ (b : Int) := by omega
              have b1' : (b : Int) < (n : Int) := by omega
              have ea := (HO.out.cell g7 a hg7.2 (by omega)).trans ea7
              have eb := (HO.out.cell g7 b hg7.2 (by omega)).trans eb7
              have FA := Lib.hid (Fl.only FA7.out HO.out (by omega))
              have FB := Lib.hid (Fl.only fb7 HO.out (by omega))
              have hz9 := HO.out.size
              have hbx2 := BX.out.lo
              have hg7w : g7 < w1.heap.size := by omega
              have hgaw : ga < w1.heap.size := by omega
              have hq7 := HR.out.p0
              have hrl1 := HR.out.lt
              clear hds fb7
              go_cut [14] from 29 to 163 (fun vx wx => ∃ gB cB : Nat, vx = .slice (some ⟨gB, 0, none⟩) (cs.length + ds.length) cB ∧ Fl wx gB 0 (some ⟨gB, 0, none⟩) (flatC (cs ++ ds)) ∧ w1.heap.size ≤ gB ∧ (cs.length + ds.length ≤ cB ∧ cB ≤ maxLen) ∧ Below w1.heap.size w1 wx)
              case first =>
                refine wp_region_held_drew (S := fun w' => Below w1.heap.size w1 w') (by kernel_rfl) ((Below.refl _ _).drew) (fun hS25 => ?_)
                have HB := Lib.hid ((Below.refl w1.heap.size w1).drew)
                refine wpAnyH_take (i := 1) (v := ?_) rfl (by kernel_rfl) (by kernel_rfl) (by kernel_rfl) (fun _ _ _ h => h) (Or.inl ⟨by rfl, ?_⟩) hS25 ?_
                rotate_left 1
                · (intro w hSw; go_simp)
                  all_goals with_reducible rfl
                try go_simp
                refine wpAnyH_take (i := 2) (v := ?_) rfl (by kernel_rfl) (by kernel_rfl) (by kernel_rfl) (fun _ _ _ h => h) (Or.inl ⟨by rfl, ?_⟩) hS25 ?_
                rotate_left 1
                · (intro w hSw; go_simp)
                  all_goals with_reducible rfl
                try go_simp
                refine wpAnyH_take (i := 3) (v := ?_) rfl (by kernel_rfl) (by kernel_rfl) (by kernel_rfl) (fun _ _ _ h => h) (Or.inl ⟨by rfl, ?_⟩) hS25 ?_
                rotate_left 1
                · (intro w hSw; go_simp)
                  all_goals with_reducible rfl
                try go_simp
                refine wpAnyH_take (i := 4) (v := ?_) rfl (by kernel_rfl) (by kernel_rfl) (by kernel_rfl) (fun _ _ _ h => h) (Or.inl ⟨by rfl, ?_⟩) hS25 ?_
                rotate_left 1
                · (intro w hSw; have hSx : Below w1.heap.size w1 w := hSw; have ex := (hSx.cell (p := ⟨g7, a, none⟩) hg7w).trans ea; go_simp)
                  all_goals with_reducible rfl
                try go_simp
                refine wpAnyH_take (i := 6) (v := ?_) rfl (by kernel_rfl) (by kernel_rfl) (by kernel_rfl) (fun _ _ _ h => h) (Or.inl ⟨by rfl, ?_⟩) hS25 ?_
                rotate_left 1
                · (intro w hSw; go_simp)
                  all_goals with_reducible rfl
                try go_simp
                refine wpAnyH_take (i := 7) (v := ?_) rfl (by kernel_rfl) (by kernel_rfl) (by kernel_rfl) (fun _ _ _ h => h) (Or.inl ⟨by rfl, ?_⟩) hS25 ?_
                rotate_left 1
                · (intro w hSw; go_simp)
                  all_goals with_reducible rfl
                try go_simp
                refine wpAnyH_take (i := 8) (v := ?_) rfl (by kernel_rfl) (by kernel_rfl) (by kernel_rfl) (fun _ _ _ h => h) (Or.inl ⟨by rfl, ?_⟩) hS25 ?_
                rotate_left 1
                · (intro w hSw; go_simp)
                  all_goals with_reducible rfl
                try go_simp
                refine wpAnyH_take (i := 9) (v := ?_) rfl (by kernel_rfl) (by kernel_rfl) (by kernel_rfl) (fun _ _ _ h => h) (Or.inl ⟨by rfl, ?_⟩) hS25 ?_
                rotate_left 1
                · (intro w hSw; have hSx : Below w1.heap.size w1 w := hSw; have ex := (hSx.cell (p := ⟨g7, b, none⟩) hg7w).trans eb; go_simp)
                  all_goals with_reducible rfl
                try go_simp
                refine wpAnyH_ready (rs := [0]) (by kernel_rfl) (by simp) ?_
                refine AllReadyH.cons rfl (fun K0 hK0 => ?_) AllReadyH.nil
                go_simp
                have OE := Lib.hid (own_empty3 (w := w1.drew) (B := w1.heap.size) (X := w1.heap.size) 79 2 (by first | rfl | simp) (by first | exact Nat.le_refl _ | omega))
                have HBn := Lib.hid (HB.out.alloc HB.out.size (.cells #[] 79))
                clear HB
                have HB := HBn
                clear HBn
                refine hK0.out _ _ HB.out (fun hS26 => ?_)
                clear hK0 K0
                try go_simp
                refine wpAnyH_ready (rs := [5]) (by kernel_rfl) (by simp) ?_
                refine AllReadyH.cons rfl (fun K0 hK0 => ?_) AllReadyH.nil
                refine step_block rfl (.tmp 105) (.tmp 109) 46 rfl w1.heap.size 79 k0 (.agg #[.int .i64 0, .bool false]) 2 16 Tryz.underlying46 hk kz0 kz1 kz2 rfl (by decide) w1.heap.size 0 0 [] rfl OE.out _ _ _ (flatC cs) rfl (flatC_len cs) (news_flo (FA.out.below HB.out)) (one_flatC cs) (by unfold maxLen; omega) (by omega) HB.out.size ?_
                intro gA cA wA hown hgr hgg
                (try simp only [Nat.zero_add, List.nil_append] at hown ⊢)
                have HBn := Lib.hid (Below.grown HB.out hgr HB.out.size (fun k hk => by obtain rfl := Option.some.inj hk; omega))
                clear HB
                have HB := HBn
                clear HBn
                have hcA := own_caps hown
                have hlA := hown.lt gA rfl
                have OA := Lib.hid hown
                clear hown hgr hgg OE
                refine hK0.out _ _ HB.out (fun hS27 => ?_)
                clear hK0 K0
                try go_simp
                refine wpAnyH_ready (rs := [10]) (by kernel_rfl) (by simp) ?_
                refine AllReadyH.cons rfl (fun K0 hK0 => ?_) AllReadyH.nil
                refine step_block rfl (.tmp 110) (.tmp 114) 46 rfl w1.heap.size 79 k0 (.agg #[.int .i64 0, .bool false]) 2 16 Tryz.underlying46 hk kz0 kz1 kz2 rfl (by decide) gA cs.length cA (flatC cs) rfl OA.out _ _ _ (flatC ds) rfl (flatC_len ds) (news_flo (FB.out.below HB.out)) (one_flatC ds) (by unfold maxLen; omega) (by omega) HB.out.size ?_
                intro gB cB wB hown hgr hgg
                have HBn := Lib.hid (Below.grown HB.out hgr HB.out.size (fun k hk => by obtain rfl := Option.some.inj hk; omega))
                clear HB
                have HB := HBn
                clear HBn
                have hcB := own_caps hown
                have hlB := hown.lt gB rfl
                have OB := Lib.hid hown
                clear hown hgr hgg OA
                refine hK0.out _ _ HB.out (fun hS28 => ?_)
                clear hK0 K0
                try go_simp
                refine wpAnyH_take (i := 11) (v := ?_) rfl (by kernel_rfl) (by kernel_rfl) (by kernel_rfl) (fun _ _ _ h => h) (Or.inl ⟨by rfl, ?_⟩) hS28 ?_
                rotate_left 1
                · (intro w hSw; go_simp)
                  all_goals with_reducible rfl
                try go_simp
                refine wpAnyH_done (by kernel_rfl) ?_ _
                go_wp2
                go_meet
                exact ⟨gB, cB, rfl, by rw [flatC_app]; exact fl_sliceB OB.out, hlB.1, hcB, HB.out⟩
              case rest =>
                obtain ⟨gB, cB, rfl, flB, hgB, hcB, hbB⟩ := hcut
                have FLB := Lib.hid flB
                have BXn := Lib.hid (BX.out.below hbB)
                have HOn := Lib.hid (HO.out.trans (onlyBelow (g := r) hbB))
                have HRn := Lib.hid (rdUnder HR.out hbB)
                have hzB := hbB.size
                clear BX HO HR flB hbB ea eb FA FB
                have BX := BXn
                have HO := HOn
                have HR := HRn
                clear BXn HOn HRn
                go_wp2_with ((go_at_call 41; (with_reducible refine ((by have h := l20ExprT B r gB 0 cB (some ⟨gB, 0, none⟩) (cs ++ ds) (by omega) (by rw [List.length_append]; omega) 2 (by omega) 3 2 _ _ (by omega) (by omega) (by repeat (with_reducible first | exact HR.out | apply RdOk.alloc | apply RdOk.drew | (refine RdOk.setFar ?_ (by first | omega | (simp; done) | (simp; omega)) _))) (by rw [show lenE 2 = 7 from rfl]; omega) FLB.out (by simp); rw [show lenE 2 = 7 from rfl, List.length_append] at h; exact h : Calls _ _ _ _ _)).mono ?_); rintro e w1 ⟨es, v3, q3, rfl, hp0, hpM, hrun, htp, own3, hq3, ho, hr⟩; have HOn := Lib.hid (Only.trans (by repeat (with_reducible first | exact HO.out | apply Only.alloc | apply Only.drew | (refine Only.setNew ?_ (by first | omega | (simp; done) | (simp; omega)) _))) ho); have K0 := Lib.hid (by first | exact BX.out.only (by omega) ho | exact (BX.out.alloc _).only (by omega) ho | exact (BX.out.drew).only (by omega) ho); clear BX; have BX := K0; clear K0; clear HO HR; have HO := HOn; have HR := Lib.hid hr; clear HOn hr; obtain ⟨A3, k3, hv3, hor⟩ := optR_of_own own3; subst hv3; have OE := Lib.hid hor; have HTP := Lib.hid htp; clear own3 hrun htp hor; clear ho); obtain ⟨⟨c0, c1, c2, c3, c4, c5⟩, f0, f1, f2, f3, f4, f5⟩ := BX.out.facts)
                · go_meet
                  exact pcut_put ((4, (a : Int), (b : Int), 0, es, []), (A3, k3), (none, 0)) BX.out OE.out .nil (by omega) (by omega) ⟨by simp only; omega, HTP.out, by simp⟩ (by omega) HO.out HR.out (by omega) (by omega)
                · go_meet
                  exact pcut_at 1 0 0 mP BX.out (by omega) HO.out HR.out
            · subst h
              clear c0 c1 c2 c3 c4 c5 f0 f1 f2 f3 f4 f5 ea FA
              have C6 := Lib.hid (fun W (b : Nat) (h1 : Tbs W gT 0 (some ⟨gT, 0, none⟩) tb) (h2 : Cls W g7 0 (some ⟨g7, 0, none⟩) cl) => show Calls Tryz.prog 42 #[.slice (some ⟨gT, 0, none⟩) tb.length cT, .slice (some ⟨g7, 0, none⟩) cl.length c7, .agg #[.int .i64 5, .int .i64 (a : Int), .int .i64 (b : Int), .int .i64 0, .slice none 0 0, .slice none 0 0]] W (RetCols (colS tb cl (5, (a : Int), (b : Int), 0, [], [])) W) from l6Columns (some ⟨gT, 0, none⟩) (some ⟨g7, 0, none⟩) gT 0 cT g7 0 c7 tb cl (5, (a : Int), (b : Int), 0, [], []) none none 0 0 0 0 0 0 W h1 TOK.out h2 (by rw [HCLN.out]; omega) (fun x hx => by obtain ⟨j, hj, rfl⟩ := List.mem_iff_getElem.1 hx; have := HC4.out j hj; omega) ⟨fun h => absurd h (by simp [flatP]), fun j hj => absurd hj (by simp [flatP])⟩ ⟨fun h => absurd h (by simp), fun j hj => absurd hj (by simp)⟩ ⟨by simp, fun p hp => absurd hp (by simp), by simp⟩)
              rw [HNT.out, HCLN.out] at C6
              go_wp2
              go_loopw [15] (fun bx wr => ∃ (b : Nat) (k9 a9 b9 n9 : Int), b ≤ n ∧ bx = .int .i64 (b : Int) ∧ Hid (BoxAt wr w.heap.size wp.heap.size [.int .i64 k9, .int .i64 a9, .int .i64 b9, .int .i64 n9, .slice none 0 0, .slice none 0 0]) ∧ Hid (Only r w7 wr) ∧ Hid (RdOk B r wr (q + 1 + 1 + 1))) (fun bx _ => n - (intOf bx).toNat)
              case atStart => exact ⟨0, _, _, _, _, by omega, rfl, BX, HO, HR⟩
              case round =>
                clear BX HO HR
                obtain ⟨b, k9, a9, b9, n9, hbn, rfl, BX, HO, HR⟩ := hrel
                have hz9 := HO.out.size
                have hbx3 := BX.out.lo
                by_cases hbl : b < n
                · have b1' : (b : Int) < (n : Int) := by omega
                  go_wp2_with (go_at_call 42; (with_reducible refine (C6.out _ b ((TW7.out.only hrT (HO.out.alloc _)).tbs) ((CB.out.only (by omega) (HO.out.alloc _)).cls)).mono ?_); rintro e w9 ⟨g9, c9, cs9, ok9, ⟨rfl, -, -⟩, hb9⟩; have HB9 := Lib.hid hb9; have BX9 := Lib.hid ((BX.out.alloc _).below hb9); have BT := Lib.hid ((BoxAt.new (w := wr) (B := w.heap.size) rfl (by omega) (.int .i64 5) (.int .i64 (a : Int)) (.int .i64 (b : Int)) (.int .i64 0) (.slice none 0 0) (.slice none 0 0)).below hb9); have hz10 := hb9.size; obtain ⟨⟨c0, c1, c2, c3, c4, c5⟩, f0, f1, f2, f3, f4, f5⟩ := BX9.out.facts; obtain ⟨⟨e0, e1, e2, e3, e4, e5⟩, -⟩ := BT.out.facts; clear hb9)
                  all_goals (have HO9 := Lib.hid ((HO.out.alloc (.cells #[.int .i64 5, .int .i64 (a : Int), .int .i64 (b : Int), .int .i64 0, .slice none 0 0, .slice none 0 0] 35)).trans (onlyBelow (g := r) HB9.out)))
                  all_goals (have HR9 := Lib.hid (rdUnder (HR.out.alloc (.cells #[.int .i64 5, .int .i64 (a : Int), .int .i64 (b : Int), .int .i64 0, .slice none 0 0, .slice none 0 0] 35)) HB9.out))
                  · exact ⟨⟨b + 1, 5, (a : Int), (b : Int), 0, by omega, by go_num, BX9.out.put _ _ _ _ _ _, HO9.out.put6 hbb7 _ _ _ _ _ _, HR9.out.put6 (by omega) _ _ _ _ _ _⟩, by simp [intOf]; omega⟩
                  · exact ⟨⟨b + 1, k9, a9, b9, n9, by omega, by go_num, BX9, HO9, HR9⟩, by simp [intOf]; omega⟩
                · go_wp2
                  go_meet
                  exact pcut_at k9 a9 b9 n9 BX.out (by omega) HO.out HR.out
            · subst h
              go_wp2
              go_meet
              exact pcut_put (BE := w1.heap.size) ((6, (a : Int), 0, 0, [], []), (none, 0), (none, 0)) BX.out .nil .nil (by omega) (by omega) (stepFit_bare _ _ _ _) (by omega) HO.out HR.out (by omega) (by omega)
            · subst h
              go_wp2
              go_meet
              exact pcut_at 1 0 0 mP BX.out (by omega) HO.out HR.out
          case rest =>
            obtain ⟨u, q2, hbx, hst, hsf, hq2, ho2, hr2⟩ := hcut
            clear HO HR BX
            obtain ⟨⟨ku, au, bu, nu, es, ns⟩, ⟨A1, k1⟩, A2, k2⟩ := u
            have BX := Lib.hid (show BoxAt wc w.heap.size wp.heap.size [.int .i64 ku, .int .i64 au, .int .i64 bu, .int .i64 nu, .slice A1 es.length k1, .slice A2 ns.length k2] from hbx)
            have ST := Lib.hid hst
            have SFU := Lib.hid hsf
            have HO := Lib.hid ho2
            have HR := Lib.hid hr2
            have PLc := Lib.hid (PL7.out.only hrw9 ho2)
            have FLP := Lib.hid (fl_sliceB PLc.out.own)
            have TBc := Lib.hid (TW7.out.only hrT ho2).tbs
            have hwz := ho2.size
            have hbl := hbx.lo
            have hgl := PLc.out.lo
            have hq9 := hr2.p0
            have hUn : (U.flatMap hdD).length = n * 6 := by rw [flatD_len, PLc.out.len, HN.out]
            have CA := Lib.hid (fun W X c8 U8 ps8 (h1 : Tbs W gT 0 (some ⟨gT, 0, none⟩) tb) (h2 : PlW W w.heap.size X c8 U8 ps8) (h3 : OkS ps8) => l6All (some ⟨gT, 0, none⟩) (some ⟨X, 0, none⟩) gT 0 cT X 0 c8 tb ps8 W h1 TOK.out h2.sps h3)
            clear hbx hst hsf ho2 hr2
            obtain ⟨⟨d0, d1, d2, d3, d4, d5⟩, -⟩ := BX.out.facts
            go_upto_region 38 with fail
            go_cut [20] from 29 to 163 (fun vx wx => ∃ ok8 : Bool, vx = .bool ok8 ∧ Below wc.heap.size wc wx)
            case first =>
              have hbl2 := hbl.2
              refine wp_region_held_drew (S := fun w' => Below wc.heap.size wc w') (by kernel_rfl) ((Below.refl _ _).drew) (fun hS1 => ?_)
              have HB := Lib.hid ((Below.refl wc.heap.size wc).drew)
              refine wpAnyH_take (i := 0) (v := ?_) rfl (by kernel_rfl) (by kernel_rfl) (by kernel_rfl) (fun _ _ _ h => h) (Or.inl ⟨by rfl, ?_⟩) hS1 ?_
              rotate_left 1
              · (intro w hSw; go_simp)
                all_goals with_reducible rfl
              try go_simp
              refine wpAnyH_take (i := 2) (v := ?_) rfl (by kernel_rfl) (by kernel_rfl) (by kernel_rfl) (fun _ _ _ h => h) (Or.inl ⟨by rfl, ?_⟩) hS1 ?_
              rotate_left 1
              · (intro w hSw; go_simp)
                all_goals with_reducible rfl
              try go_simp
              refine wpAnyH_take (i := 4) (v := ?_) rfl (by kernel_rfl) (by kernel_rfl) (by kernel_rfl) (fun _ _ _ h => h) (Or.inl ⟨by rfl, ?_⟩) hS1 ?_
              rotate_left 1
              · (intro w hSw; have hSx : Below wc.heap.size wc w := hSw; obtain ⟨⟨e0, e1, e2, e3, e4, e5⟩, -⟩ := (BX.out.below hSx).facts; clear hSx hSw; go_simp)
                all_goals with_reducible rfl
              try go_simp
              refine wpAnyH_ready (rs := [1, 5]) (by kernel_rfl) (by simp) ?_
              refine AllReadyH.cons rfl (fun K0 hK0 => ?_) (AllReadyH.cons rfl (fun K0 hK0 => ?_) AllReadyH.nil)
              · skip
                go_simp
                have OE := Lib.hid (own_empty3 (w := wc.drew) (B := wc.heap.size) (X := wc.heap.size) 35 6 (by first | rfl | simp) (by first | exact Nat.le_refl _ | omega))
                have HBn := Lib.hid (HB.out.alloc HB.out.size (.cells #[] 35))
                clear HB
                have HB := HBn
                clear HBn
                refine hK0.out _ _ HB.out (fun hS2 => ?_)
                clear hK0 K0
                try go_simp
                refine wpAnyH_ready (rs := [3, 5]) (by kernel_rfl) (by simp) ?_
                refine AllReadyH.cons rfl (fun K0 hK0 => ?_) (AllReadyH.cons rfl (fun K0 hK0 => ?_) AllReadyH.nil)
                · skip
                  refine step_own rfl (.tmp 150) (.tmp 151) 24 rfl wc.heap.size 35 i0 (.agg #[.int .i64 0, .int .i64 0, .int .i64 0, .int .i64 0, .slice none 0 0, .slice none 0 0]) 6 80 Tryz.underlying24 hi iz0 iz1 iz2 rfl (by decide) (.slice (some ⟨(wc.heap.size), 0, none⟩) 0 0) 0 [] rfl OE.out _ _ _ (U.flatMap hdD) rfl (by rw [hUn]) (news_flo (FLP.out.below HB.out)) (flatD_one U) (by unfold maxLen; omega) (by omega) HB.out.size ?_
                  intro vA wA3 hown hgr hnn
                  (try simp only [Nat.zero_add, List.nil_append] at hown)
                  have HBn := Lib.hid (Below.grown HB.out hgr HB.out.size (fun k hk => by simp [Value.ownBlock] at hk; omega))
                  clear HB
                  have HB := HBn
                  clear HBn
                  obtain ⟨gA, cA, rfl⟩ := own_sliceX hown (by omega)
                  have hcA := own_caps hown
                  have hlA := hown.lt gA rfl
                  have OA := Lib.hid hown
                  have hzA := HB.out.size
                  clear hown hgr hnn OE
                  refine hK0.out _ _ HB.out (fun hS4 => ?_)
                  clear hK0 K0
                  try go_simp
                  refine wpAnyH_ready (rs := [5]) (by kernel_rfl) (by simp) ?_
                  refine AllReadyH.cons rfl (fun K0 hK0 => ?_) AllReadyH.nil
                  go_simp
                  have FL := Lib.hid (lit_fl (W := wA3) (X := wA3.heap.size) (by first | rfl | simp) ((ku, au, bu, nu, es, ns), (A1, k1), (A2, k2)))
                  have HBn := Lib.hid (HB.out.alloc HB.out.size (.cells #[.int .i64 ku, .int .i64 au, .int .i64 bu, .int .i64 nu, .slice A1 es.length k1, .slice A2 ns.length k2] 35))
                  have OAn := Lib.hid (OA.out.alloc (.cells #[.int .i64 ku, .int .i64 au, .int .i64 bu, .int .i64 nu, .slice A1 es.length k1, .slice A2 ns.length k2] 35))
                  clear OA
                  have OA := OAn
                  clear OAn
                  clear HB
                  have HB := HBn
                  clear HBn
                  refine hK0.out _ _ HB.out (fun hS5 => ?_)
                  clear hK0 K0
                  try go_simp
                  refine wpAnyH_ready (rs := [6]) (by kernel_rfl) (by simp) ?_
                  refine AllReadyH.cons rfl (fun K0 hK0 => ?_) AllReadyH.nil
                  refine step_own rfl (.tmp 152) (.tmp 154) 24 rfl wc.heap.size 35 i0 (.agg #[.int .i64 0, .int .i64 0, .int .i64 0, .int .i64 0, .slice none 0 0, .slice none 0 0]) 6 80 Tryz.underlying24 hi iz0 iz1 iz2 rfl (by decide) (.slice (some ⟨gA, 0, none⟩) n cA) n (U.flatMap hdD) rfl OA.out _ _ _ (hdD ((ku, au, bu, nu, es, ns), (A1, k1), (A2, k2))) rfl rfl (news_flo FL.out) (hdD_one _) (by unfold maxLen; omega) (by omega) HB.out.size ?_
                  intro vB wA6 hown hgr hnn
                  have HBn := Lib.hid (Below.grown HB.out hgr HB.out.size (fun k hk => by simp [Value.ownBlock] at hk; omega))
                  clear HB
                  have HB := HBn
                  clear HBn
                  obtain ⟨gB, cB, rfl⟩ := own_sliceX hown (by omega)
                  have hcB := own_caps hown
                  have hlB := hown.lt gB rfl
                  have OB := Lib.hid hown
                  clear hown hgr hnn OA FL
                  refine hK0.out _ _ HB.out (fun hS7 => ?_)
                  clear hK0 K0
                  try go_simp
                  refine wpAnyH_ready (rs := [7]) (by kernel_rfl) (by simp) ?_
                  refine AllReadyH.cons rfl (fun K0 hK0 => ?_) AllReadyH.nil
                  have CALL := Lib.hid (CA.out _ gB cB _ _ (TBc.out.below HB.out) (PlW.copy PLc.out (u := ((ku, au, bu, nu, es, ns), (A1, k1), (A2, k2))) ⟨ST.out.e.lower hrw, ST.out.l.lower hrw⟩ (by rw [HN.out]) HB.out hlB.1 (own_lower2 (B' := w.heap.size) OB.out (by omega))) (okS_fit (by simp [HN.out]; omega) (fits_app SF.out SFU.out)))
                  rw [HNT.out, List.length_append, HN.out, List.length_singleton] at CALL
                  refine step_call rfl 32 _ _ rfl l6AllEnters #[.slice (some ⟨gT, 0, none⟩) nt cT, .slice (some ⟨gB, 0, none⟩) (n + 1) cB] rfl CALL.out ?_
                  rintro e wA8 ⟨g8, c8, T8, cl8, ok8, ⟨rfl, -, -⟩, hb8⟩
                  have HBn := Lib.hid (HB.out.trans (hb8.mono HB.out.size))
                  clear hb8 CALL OB
                  clear HB
                  have HB := HBn
                  clear HBn
                  refine ⟨_, rfl, hK0.out _ _ HB.out (fun hS9 => ?_)⟩
                  clear hK0 K0
                  try go_simp
                  refine wpAnyH_take (i := 8) (v := ?_) rfl (by kernel_rfl) (by kernel_rfl) (by kernel_rfl) (fun _ _ _ h => h) (Or.inl ⟨by rfl, ?_⟩) hS9 ?_
                  rotate_left 1
                  · (intro w hSw; go_simp)
                    all_goals with_reducible rfl
                  try go_simp
                  refine wpAnyH_take (i := 9) (v := ?_) rfl (by kernel_rfl) (by kernel_rfl) (by kernel_rfl) (fun _ _ _ h => h) (Or.inl ⟨by rfl, ?_⟩) hS9 ?_
                  rotate_left 1
                  · (intro w hSw; go_simp)
                    all_goals with_reducible rfl
                  try go_simp
                  refine wpAnyH_take (i := 10) (v := ?_) rfl (by kernel_rfl) (by kernel_rfl) (by kernel_rfl) (fun _ _ _ h => h) (Or.inl ⟨by rfl, ?_⟩) hS9 ?_
                  rotate_left 1
                  · (intro w hSw; go_simp)
                    all_goals with_reducible rfl
                  try go_simp
                  refine wpAnyH_take (i := 11) (v := ?_) rfl (by kernel_rfl) (by kernel_rfl) (by kernel_rfl) (fun _ _ _ h => h) (Or.inl ⟨by rfl, ?_⟩) hS9 ?_
                  rotate_left 1
                  · (intro w hSw; go_simp)
                    all_goals with_reducible rfl
                  try go_simp
                  refine wpAnyH_take (i := 12) (v := ?_) rfl (by kernel_rfl) (by kernel_rfl) (by kernel_rfl) (fun _ _ _ h => h) (Or.inl ⟨by rfl, ?_⟩) hS9 ?_
                  rotate_left 1
                  · (intro w hSw; go_simp)
                    all_goals with_reducible rfl
                  try go_simp
                  refine wpAnyH_done (by kernel_rfl) ?_ _
                  go_wp2
                  go_meet
                  exact ⟨ok8, rfl, HB.out⟩
                · skip
                  go_simp
                  have FL := Lib.hid (lit_fl (W := (wc.drew.alloc (.cells #[] 35))) (X := wc.heap.size + 1) (by first | rfl | simp) ((ku, au, bu, nu, es, ns), (A1, k1), (A2, k2)))
                  have HBn := Lib.hid (HB.out.alloc HB.out.size (.cells #[.int .i64 ku, .int .i64 au, .int .i64 bu, .int .i64 nu, .slice A1 es.length k1, .slice A2 ns.length k2] 35))
                  have OEn := Lib.hid (OE.out.alloc (.cells #[.int .i64 ku, .int .i64 au, .int .i64 bu, .int .i64 nu, .slice A1 es.length k1, .slice A2 ns.length k2] 35))
                  clear OE
                  have OE := OEn
                  clear OEn
                  clear HB
                  have HB := HBn
                  clear HBn
                  refine hK0.out _ _ HB.out (fun hS10 => ?_)
                  clear hK0 K0
                  try go_simp
                  refine wpAnyH_ready (rs := [3]) (by kernel_rfl) (by simp) ?_
                  refine AllReadyH.cons rfl (fun K0 hK0 => ?_) AllReadyH.nil
                  refine step_own rfl (.tmp 150) (.tmp 151) 24 rfl wc.heap.size 35 i0 (.agg #[.int .i64 0, .int .i64 0, .int .i64 0, .int .i64 0, .slice none 0 0, .slice none 0 0]) 6 80 Tryz.underlying24 hi iz0 iz1 iz2 rfl (by decide) (.slice (some ⟨(wc.heap.size), 0, none⟩) 0 0) 0 [] rfl OE.out _ _ _ (U.flatMap hdD) rfl (by rw [hUn]) (news_flo (FLP.out.below HB.out)) (flatD_one U) (by unfold maxLen; omega) (by omega) HB.out.size ?_
                  intro vA wA11 hown hgr hnn
                  (try simp only [Nat.zero_add, List.nil_append] at hown)
                  have HBn := Lib.hid (Below.grown HB.out hgr HB.out.size (fun k hk => by simp [Value.ownBlock] at hk; omega))
                  have FLn := Lib.hid (Fl.grownN FL.out hgr (by first | (simp [Value.ownBlock]; done) | (simp [Value.ownBlock]; omega)) (by simp [hdD]))
                  clear FL
                  have FL := FLn
                  clear FLn
                  clear HB
                  have HB := HBn
                  clear HBn
                  obtain ⟨gA, cA, rfl⟩ := own_sliceX hown (by omega)
                  have hcA := own_caps hown
                  have hlA := hown.lt gA rfl
                  have OA := Lib.hid hown
                  have hzA := HB.out.size
                  clear hown hgr hnn OE
                  refine hK0.out _ _ HB.out (fun hS12 => ?_)
                  clear hK0 K0
                  try go_simp
                  refine wpAnyH_ready (rs := [6]) (by kernel_rfl) (by simp) ?_
                  refine AllReadyH.cons rfl (fun K0 hK0 => ?_) AllReadyH.nil
                  refine step_own rfl (.tmp 152) (.tmp 154) 24 rfl wc.heap.size 35 i0 (.agg #[.int .i64 0, .int .i64 0, .int .i64 0, .int .i64 0, .slice none 0 0, .slice none 0 0]) 6 80 Tryz.underlying24 hi iz0 iz1 iz2 rfl (by decide) (.slice (some ⟨gA, 0, none⟩) n cA) n (U.flatMap hdD) rfl OA.out _ _ _ (hdD ((ku, au, bu, nu, es, ns), (A1, k1), (A2, k2))) rfl rfl (news_flo FL.out) (hdD_one _) (by unfold maxLen; omega) (by omega) HB.out.size ?_
                  intro vB wA13 hown hgr hnn
                  have HBn := Lib.hid (Below.grown HB.out hgr HB.out.size (fun k hk => by simp [Value.ownBlock] at hk; omega))
                  clear HB
                  have HB := HBn
                  clear HBn
                  obtain ⟨gB, cB, rfl⟩ := own_sliceX hown (by omega)
                  have hcB := own_caps hown
                  have hlB := hown.lt gB rfl
                  have OB := Lib.hid hown
                  clear hown hgr hnn OA FL
                  refine hK0.out _ _ HB.out (fun hS14 => ?_)
                  clear hK0 K0
                  try go_simp
                  refine wpAnyH_ready (rs := [7]) (by kernel_rfl) (by simp) ?_
                  refine AllReadyH.cons rfl (fun K0 hK0 => ?_) AllReadyH.nil
                  have CALL := Lib.hid (CA.out _ gB cB _ _ (TBc.out.below HB.out) (PlW.copy PLc.out (u := ((ku, au, bu, nu, es, ns), (A1, k1), (A2, k2))) ⟨ST.out.e.lower hrw, ST.out.l.lower hrw⟩ (by rw [HN.out]) HB.out hlB.1 (own_lower2 (B' := w.heap.size) OB.out (by omega))) (okS_fit (by simp [HN.out]; omega) (fits_app SF.out SFU.out)))
                  rw [HNT.out, List.length_append, HN.out, List.length_singleton] at CALL
                  refine step_call rfl 32 _ _ rfl l6AllEnters #[.slice (some ⟨gT, 0, none⟩) nt cT, .slice (some ⟨gB, 0, none⟩) (n + 1) cB] rfl CALL.out ?_
                  rintro e wA15 ⟨g8, c8, T8, cl8, ok8, ⟨rfl, -, -⟩, hb8⟩
                  have HBn := Lib.hid (HB.out.trans (hb8.mono HB.out.size))
                  clear hb8 CALL OB
                  clear HB
                  have HB := HBn
                  clear HBn
                  refine ⟨_, rfl, hK0.out _ _ HB.out (fun hS16 => ?_)⟩
                  clear hK0 K0
                  try go_simp
                  refine wpAnyH_take (i := 8) (v := ?_) rfl (by kernel_rfl) (by kernel_rfl) (by kernel_rfl) (fun _ _ _ h => h) (Or.inl ⟨by rfl, ?_⟩) hS16 ?_
                  rotate_left 1
                  · (intro w hSw; go_simp)
                    all_goals with_reducible rfl
                  try go_simp
                  refine wpAnyH_take (i := 9) (v := ?_) rfl (by kernel_rfl) (by kernel_rfl) (by kernel_rfl) (fun _ _ _ h => h) (Or.inl ⟨by rfl, ?_⟩) hS16 ?_
                  rotate_left 1
                  · (intro w hSw; go_simp)
                    all_goals with_reducible rfl
                  try go_simp
                  refine wpAnyH_take (i := 10) (v := ?_) rfl (by kernel_rfl) (by kernel_rfl) (by kernel_rfl) (fun _ _ _ h => h) (Or.inl ⟨by rfl, ?_⟩) hS16 ?_
                  rotate_left 1
                  · (intro w hSw; go_simp)
                    all_goals with_reducible rfl
                  try go_simp
                  refine wpAnyH_take (i := 11) (v := ?_) rfl (by kernel_rfl) (by kernel_rfl) (by kernel_rfl) (fun _ _ _ h => h) (Or.inl ⟨by rfl, ?_⟩) hS16 ?_
                  rotate_left 1
                  · (intro w hSw; go_simp)
                    all_goals with_reducible rfl
                  try go_simp
                  refine wpAnyH_take (i := 12) (v := ?_) rfl (by kernel_rfl) (by kernel_rfl) (by kernel_rfl) (fun _ _ _ h => h) (Or.inl ⟨by rfl, ?_⟩) hS16 ?_
                  rotate_left 1
                  · (intro w hSw; go_simp)
                    all_goals with_reducible rfl
                  try go_simp
                  refine wpAnyH_done (by kernel_rfl) ?_ _
                  go_wp2
                  go_meet
                  exact ⟨ok8, rfl, HB.out⟩
              · skip
                go_simp
                have FL := Lib.hid (lit_fl (W := wc.drew) (X := wc.heap.size) (by first | rfl | simp) ((ku, au, bu, nu, es, ns), (A1, k1), (A2, k2)))
                have HBn := Lib.hid (HB.out.alloc HB.out.size (.cells #[.int .i64 ku, .int .i64 au, .int .i64 bu, .int .i64 nu, .slice A1 es.length k1, .slice A2 ns.length k2] 35))
                clear HB
                have HB := HBn
                clear HBn
                refine hK0.out _ _ HB.out (fun hS17 => ?_)
                clear hK0 K0
                try go_simp
                refine wpAnyH_ready (rs := [1]) (by kernel_rfl) (by simp) ?_
                refine AllReadyH.cons rfl (fun K0 hK0 => ?_) AllReadyH.nil
                go_simp
                have OE := Lib.hid (own_empty3 (w := (wc.drew.alloc (.cells #[.int .i64 ku, .int .i64 au, .int .i64 bu, .int .i64 nu, .slice A1 es.length k1, .slice A2 ns.length k2] 35))) (B := wc.heap.size) (X := wc.heap.size + 1) 35 6 (by first | rfl | simp) (by first | exact Nat.le_refl _ | omega))
                have HBn := Lib.hid (HB.out.alloc HB.out.size (.cells #[] 35))
                have FLn := Lib.hid (FL.out.alloc (.cells #[] 35))
                clear FL
                have FL := FLn
                clear FLn
                clear HB
                have HB := HBn
                clear HBn
                refine hK0.out _ _ HB.out (fun hS18 => ?_)
                clear hK0 K0
                try go_simp
                refine wpAnyH_ready (rs := [3]) (by kernel_rfl) (by simp) ?_
                refine AllReadyH.cons rfl (fun K0 hK0 => ?_) AllReadyH.nil
                refine step_own rfl (.tmp 150) (.tmp 151) 24 rfl wc.heap.size 35 i0 (.agg #[.int .i64 0, .int .i64 0, .int .i64 0, .int .i64 0, .slice none 0 0, .slice none 0 0]) 6 80 Tryz.underlying24 hi iz0 iz1 iz2 rfl (by decide) (.slice (some ⟨(wc.heap.size + 1), 0, none⟩) 0 0) 0 [] rfl OE.out _ _ _ (U.flatMap hdD) rfl (by rw [hUn]) (news_flo (FLP.out.below HB.out)) (flatD_one U) (by unfold maxLen; omega) (by omega) HB.out.size ?_
                intro vA wA19 hown hgr hnn
                (try simp only [Nat.zero_add, List.nil_append] at hown)
                have HBn := Lib.hid (Below.grown HB.out hgr HB.out.size (fun k hk => by simp [Value.ownBlock] at hk; omega))
                have FLn := Lib.hid (Fl.grownN FL.out hgr (by first | (simp [Value.ownBlock]; done) | (simp [Value.ownBlock]; omega)) (by simp [hdD]))
                clear FL
                have FL := FLn
                clear FLn
                clear HB
                have HB := HBn
                clear HBn
                obtain ⟨gA, cA, rfl⟩ := own_sliceX hown (by omega)
                have hcA := own_caps hown
                have hlA := hown.lt gA rfl
                have OA := Lib.hid hown
                have hzA := HB.out.size
                clear hown hgr hnn OE
                refine hK0.out _ _ HB.out (fun hS20 => ?_)
                clear hK0 K0
                try go_simp
                refine wpAnyH_ready (rs := [6]) (by kernel_rfl) (by simp) ?_
                refine AllReadyH.cons rfl (fun K0 hK0 => ?_) AllReadyH.nil
                refine step_own rfl (.tmp 152) (.tmp 154) 24 rfl wc.heap.size 35 i0 (.agg #[.int .i64 0, .int .i64 0, .int .i64 0, .int .i64 0, .slice none 0 0, .slice none 0 0]) 6 80 Tryz.underlying24 hi iz0 iz1 iz2 rfl (by decide) (.slice (some ⟨gA, 0, none⟩) n cA) n (U.flatMap hdD) rfl OA.out _ _ _ (hdD ((ku, au, bu, nu, es, ns), (A1, k1), (A2, k2))) rfl rfl (news_flo FL.out) (hdD_one _) (by unfold maxLen; omega) (by omega) HB.out.size ?_
                intro vB wA21 hown hgr hnn
                have HBn := Lib.hid (Below.grown HB.out hgr HB.out.size (fun k hk => by simp [Value.ownBlock] at hk; omega))
                clear HB
                have HB := HBn
                clear HBn
                obtain ⟨gB, cB, rfl⟩ := own_sliceX hown (by omega)
                have hcB := own_caps hown
                have hlB := hown.lt gB rfl
                have OB := Lib.hid hown
                clear hown hgr hnn OA FL
                refine hK0.out _ _ HB.out (fun hS22 => ?_)
                clear hK0 K0
                try go_simp
                refine wpAnyH_ready (rs := [7]) (by kernel_rfl) (by simp) ?_
                refine AllReadyH.cons rfl (fun K0 hK0 => ?_) AllReadyH.nil
                have CALL := Lib.hid (CA.out _ gB cB _ _ (TBc.out.below HB.out) (PlW.copy PLc.out (u := ((ku, au, bu, nu, es, ns), (A1, k1), (A2, k2))) ⟨ST.out.e.lower hrw, ST.out.l.lower hrw⟩ (by rw [HN.out]) HB.out hlB.1 (own_lower2 (B' := w.heap.size) OB.out (by omega))) (okS_fit (by simp [HN.out]; omega) (fits_app SF.out SFU.out)))
                rw [HNT.out, List.length_append, HN.out, List.length_singleton] at CALL
                refine step_call rfl 32 _ _ rfl l6AllEnters #[.slice (some ⟨gT, 0, none⟩) nt cT, .slice (some ⟨gB, 0, none⟩) (n + 1) cB] rfl CALL.out ?_
                rintro e wA23 ⟨g8, c8, T8, cl8, ok8, ⟨rfl, -, -⟩, hb8⟩
                have HBn := Lib.hid (HB.out.trans (hb8.mono HB.out.size))
                clear hb8 CALL OB
                clear HB
                have HB := HBn
                clear HBn
                refine ⟨_, rfl, hK0.out _ _ HB.out (fun hS24 => ?_)⟩
                clear hK0 K0
                try go_simp
                refine wpAnyH_take (i := 8) (v := ?_) rfl (by kernel_rfl) (by kernel_rfl) (by kernel_rfl) (fun _ _ _ h => h) (Or.inl ⟨by rfl, ?_⟩) hS24 ?_
                rotate_left 1
                · (intro w hSw; go_simp)
                  all_goals with_reducible rfl
                try go_simp
                refine wpAnyH_take (i := 9) (v := ?_) rfl (by kernel_rfl) (by kernel_rfl) (by kernel_rfl) (fun _ _ _ h => h) (Or.inl ⟨by rfl, ?_⟩) hS24 ?_
                rotate_left 1
                · (intro w hSw; go_simp)
                  all_goals with_reducible rfl
                try go_simp
                refine wpAnyH_take (i := 10) (v := ?_) rfl (by kernel_rfl) (by kernel_rfl) (by kernel_rfl) (fun _ _ _ h => h) (Or.inl ⟨by rfl, ?_⟩) hS24 ?_
                rotate_left 1
                · (intro w hSw; go_simp)
                  all_goals with_reducible rfl
                try go_simp
                refine wpAnyH_take (i := 11) (v := ?_) rfl (by kernel_rfl) (by kernel_rfl) (by kernel_rfl) (fun _ _ _ h => h) (Or.inl ⟨by rfl, ?_⟩) hS24 ?_
                rotate_left 1
                · (intro w hSw; go_simp)
                  all_goals with_reducible rfl
                try go_simp
                refine wpAnyH_take (i := 12) (v := ?_) rfl (by kernel_rfl) (by kernel_rfl) (by kernel_rfl) (fun _ _ _ h => h) (Or.inl ⟨by rfl, ?_⟩) hS24 ?_
                rotate_left 1
                · (intro w hSw; go_simp)
                  all_goals with_reducible rfl
                try go_simp
                refine wpAnyH_done (by kernel_rfl) ?_ _
                go_wp2
                go_meet
                exact ⟨ok8, rfl, HB.out⟩
            case rest =>
              obtain ⟨ok8, rfl, hb8⟩ := hcut
              have HB8 := Lib.hid hb8
              have HO8 := Lib.hid (HO.out.trans (onlyBelow (g := r) hb8))
              have HR8 := Lib.hid (rdUnder HR.out hb8)
              have PL8 := Lib.hid (PLc.out.below hb8)
              have BX8 := Lib.hid (BX.out.below hb8)
              have ST8 := Lib.hid (ST.out.below hb8)
              have hz8 := hb8.size
              clear HO HR PLc BX ST hb8 FLP TBc CA d0 d1 d2 d3 d4 d5
              obtain ⟨⟨d0, d1, d2, d3, d4, d5⟩, -⟩ := BX8.out.facts
              go_wp2_with ((at_builtin; refine wpList_append_block _ rfl (.tmp 160) (.tmp 162) 24 rfl w.heap.size 35 i0 (.agg #[.int .i64 0, .int .i64 0, .int .i64 0, .int .i64 0, .slice none 0 0, .slice none 0 0]) 6 80 Tryz.underlying24 hi iz0 iz1 iz2 rfl (by decide) g1 n c1 (U.flatMap hdD) rfl (by have h := PL8.out.own; rw [HN.out] at h; exact h.alloc _) _ 1 1 (hdD ((ku, au, bu, nu, es, ns), (A1, k1), (A2, k2))) rfl rfl (news_new (by first | rfl | simp)) (hdD_one _) (by unfold maxLen; omega) (by omega) (by first | omega | (simp; omega)) ?_; intro g3 c3 w3 hown hgr3 hgg; have HOWN := Lib.hid hown; have HGR := Lib.hid hgr3; have HGG := Lib.hid hgg; clear hown hgr3 hgg))
              · have hni : NotIn g1 ((ku, au, bu, nu, es, ns), (A1, k1), (A2, k2)) := Classical.byContradiction fun hn => by have := (ST8.out.hi hn).1; omega
                have hst9 : StpD wc w.heap.size ((ku, au, bu, nu, es, ns), (A1, k1), (A2, k2)) := ⟨ST8.out.e.lower hrw, ST8.out.l.lower hrw⟩
                exact ⟨⟨K - 1, g3, c3, U ++ [((ku, au, bu, nu, es, ns), (A1, k1), (A2, k2))], ps ++ [(ku, au, bu, nu, es, ns)], q2, by go_num, by omega, by omega, by simp [HN.out]; omega, by simp, by simp [HN.out], by omega, PlW.push (PL8.out.alloc _) (hst9.alloc _) hni (by rw [HN.out]) HOWN.out HGR.out HGG.out, fits_app SF.out SFU.out, rd_grown (HR8.out.alloc _) HGR.out (fun k hk => by obtain rfl := Option.some.inj hk; omega), Only.grown ((HO7.out.trans HO8.out).alloc _) HGR.out (fun k hk => by obtain rfl := Option.some.inj hk; omega)⟩, by simp [intOf]; omega⟩
              · exact ⟨⟨K - 1, g1, c1, U, ps, q2, by go_num, by omega, by omega, by simp [HN.out]; omega, by simp [HN.out]; omega, by rw [HN.out], by omega, PL8, SF, HR8, HO7.out.trans HO8.out⟩, by simp [intOf]; omega⟩
    · clear hn
      go_wp2
      go_ret
      exact ⟨g1, c1, U, ps, q, by rw [HN.out]; rfl, PL.out, by have := HN.out; omega, by have := HN.out; omega, SF.out, by omega, HO.out, HR.out⟩
end Go.Proofs.YtacinjbaebimhaaGreat.Val
