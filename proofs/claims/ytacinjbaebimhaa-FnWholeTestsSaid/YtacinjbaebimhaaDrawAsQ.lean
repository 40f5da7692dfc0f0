/- What drawing tables and a plan leaves (l20Asks, l20Short). -/
import Derived.Test.YtacinjbaebimhaaDrawPmQ
namespace Go.Proofs.Ytacinjbaebimhaa.Val
open Go.RowKit
set_option linter.unusedSimpArgs false
set_option linter.unusedVariables false
set_option maxRecDepth 20000
/-- Tables and a plan were drawn. -/
def DrewAs (B r : Nat) (p : Int) (w : World) (e : Ending) (w' : World) : Prop := ∃ (gt ct gp cp : Nat) (ts : List TB) (ps : List SP) (q : Int), e = .returned (.tuple #[.slice (some ⟨gt, 0, none⟩) ts.length ct, .slice (some ⟨gp, 0, none⟩) ps.length cp]) ∧ Tbs w' gt 0 (some ⟨gt, 0, none⟩) ts ∧ OkT ts ∧ (1 ≤ ts.length ∧ ts.length ≤ 6) ∧ (ts.length ≤ ct ∧ ct ≤ maxLen) ∧ Sps w' gp 0 (some ⟨gp, 0, none⟩) ps ∧ (∀ s ∈ ps, StepFit s) ∧ ps.length ≤ 6 ∧ (ps.length ≤ cp ∧ cp ≤ maxLen) ∧ Only r w w' ∧ RdOk B r w' q
theorem Sps.only {w w' : World} {B g cap r : Nat} {U : List UD} {ps : List SP} (h : PlW w B g cap U ps) (hr : r < B) (ho : Only r w w') : Sps w' g 0 (some ⟨g, 0, none⟩) ps := (h.only hr ho).sps
set_option maxHeartbeats 8000000 in
theorem l20Asks (n : Int) (hn0 : 0 ≤ n) (hn9 : n ≤ 1000) (B r : Nat) (w : World) (h : RdOk B r w 0) : Calls Try.prog 44 #[.pointer (some ⟨r, 0, none⟩), .int .i64 n] w (DrewAs B r 0 w) := by
  have hlt := h.lt
  have hge := h.ge
  have HR := Lib.hid h
  have HO := Lib.hid (Only.refl r w)
  clear h
  go_enter Try.func44, Try.ntmps44
  go_upto_region 2 with ((go_at_call 77; (with_reducible refine (l20TablesG B r 0 _ (by repeat (with_reducible first | exact HR.out | apply RdOk.alloc | apply RdOk.drew | (refine RdOk.setFar ?_ (by first | omega | (simp; done) | (simp; omega)) _))) (by omega)).mono ?_); rintro e w1 ⟨gt, ct, UT, ts, q, rfl, htw, ht1, ht3, htf, hcu, hq, ho, hr⟩; have HOn := Lib.hid (Only.trans (by repeat (with_reducible first | exact HO.out | apply Only.alloc | apply Only.drew | (refine Only.setNew ?_ (by first | omega | (simp; done) | (simp; omega)) _))) ho); clear HO HR; have HO := HOn; have HR := Lib.hid hr; clear HOn hr; have TW := Lib.hid htw; have TF := Lib.hid htf; clear htw htf hcu; clear ho))
  have hzt := HO.out.size
  have hq0 := HR.out.p0
  have htc := TW.out.caps
  have HLT := Lib.hid TW.out.hi
  have hgt0 := TW.out.lo.2
  go_upto_region 3 with ((go_at_call 78; (with_reducible refine (l20Plan B r gt ct _ UT ts _ _ (by repeat (with_reducible first | exact HR.out | apply RdOk.alloc | apply RdOk.drew | (refine RdOk.setFar ?_ (by first | omega | (simp; done) | (simp; omega)) _))) (by omega) TW.out hlt ht1 ht3 TF.out).mono ?_); rintro e w1 ⟨gp, cp, UP, ps, q2, rfl, hpl, hp1, hp6, hsf, hq2, ho, hr⟩; have HOn := Lib.hid (Only.trans (by repeat (with_reducible first | exact HO.out | apply Only.alloc | apply Only.drew | (refine Only.setNew ?_ (by first | omega | (simp; done) | (simp; omega)) _))) ho); have K0 := Lib.hid (by first | exact TW.out.only (by omega) ho | exact (TW.out.alloc _).only (by omega) ho | exact (TW.out.drew).only (by omega) ho); clear TW; have TW := K0; clear K0; clear HO HR; have HO := HOn; have HR := Lib.hid hr; clear HOn hr; have hgp := hpl.lo.1; have PL := Lib.hid (hpl.lower (B' := w.heap.size) hzt); have SF := Lib.hid hsf; clear hpl hsf; clear ho))
  have hzp := HO.out.size
  have hq20 := HR.out.p0
  have hpc := PL.out.caps
  obtain ⟨m, hm⟩ : ∃ m, ps.length = m := ⟨_, rfl⟩
  have HM := Lib.hid hm
  rw [hm] at hp1 hp6 hpc ⊢
  clear hm
  go_wp2_with ((go_at_call 79; (with_reducible refine (odd B r n _ _ (by repeat (with_reducible first | exact HR.out | apply RdOk.alloc | apply RdOk.drew | (refine RdOk.setFar ?_ (by first | omega | (simp; done) | (simp; omega)) _))) (by omega) hn9).mono ?_); rintro e w1 ⟨v, q3, rfl, hq3, ho, hr⟩; have HOn := Lib.hid (Only.trans (by repeat (with_reducible first | exact HO.out | apply Only.alloc | apply Only.drew | (refine Only.setNew ?_ (by first | omega | (simp; done) | (simp; omega)) _))) ho); have K0 := Lib.hid (by first | exact TW.out.only (by omega) ho | exact (TW.out.alloc _).only (by omega) ho | exact (TW.out.drew).only (by omega) ho); clear TW; have TW := K0; clear K0; have K0 := Lib.hid (by first | exact PL.out.only (by omega) ho | exact (PL.out.alloc _).only (by omega) ho | exact (PL.out.drew).only (by omega) ho); clear PL; have PL := K0; clear K0; clear HO HR; have HO := HOn; have HR := Lib.hid hr; clear HOn hr; skip; clear ho))
  · go_upto_region 6 with ((go_at_call 80; (with_reducible refine (pick B r 4 _ _ (by repeat (with_reducible first | exact HR.out | apply RdOk.alloc | apply RdOk.drew | (refine RdOk.setFar ?_ (by first | omega | (simp; done) | (simp; omega)) _))) (by omega)).mono ?_); rintro e w1 ⟨m4, rfl, h40, h41, h42, ho, hr⟩; have HOn := Lib.hid (Only.trans (by repeat (with_reducible first | exact HO.out | apply Only.alloc | apply Only.drew | (refine Only.setNew ?_ (by first | omega | (simp; done) | (simp; omega)) _))) ho); have K0 := Lib.hid (by first | exact TW.out.only (by omega) ho | exact (TW.out.alloc _).only (by omega) ho | exact (TW.out.drew).only (by omega) ho); clear TW; have TW := K0; clear K0; have K0 := Lib.hid (by first | exact PL.out.only (by omega) ho | exact (PL.out.alloc _).only (by omega) ho | exact (PL.out.drew).only (by omega) ho); clear PL; have PL := K0; clear K0; clear HO HR; have HO := HOn; have HR := Lib.hid hr; clear HOn hr; have h41 := h41 (by omega); clear h42; clear ho))
    have hzp := HO.out.size
    obtain h | h | h | h : m4 = 0 ∨ m4 = 1 ∨ m4 = 2 ∨ m4 = 3 := by omega
    · subst h
      go_wp2
      exact bodyPost_ret (v := .tuple #[.slice (some ⟨gt, 0, none⟩) ts.length ct, .slice (some ⟨w1.heap.size, 0, none⟩) 0 0]) (by simp [results, Try.results44, go_sem]) rfl ⟨gt, ct, w1.heap.size, 0, ts, [], _, rfl, (TW.out.alloc _).tbs, TF.out.ok ht3, ⟨ht1, by omega⟩, htc, ⟨fun h => absurd h (by simp), fun j hj => absurd hj (by simp)⟩, fun s hs => absurd hs (by simp), by simp, ⟨Nat.le_refl _, by decide⟩, HO.out.alloc _, HR.out.alloc _⟩
    · subst h
      go_wp2_with (first
        | (go_at_call 80; (with_reducible refine (pick B r (m : Int) _ _ (by repeat (with_reducible first | exact HR.out | apply RdOk.alloc | apply RdOk.drew | (refine RdOk.setFar ?_ (by first | omega | (simp; done) | (simp; omega)) _))) (by omega)).mono ?_); rintro e w1 ⟨mi, rfl, hi0, hi1, hi2, ho, hr⟩; have HOn := Lib.hid (Only.trans (by repeat (with_reducible first | exact HO.out | apply Only.alloc | apply Only.drew | (refine Only.setNew ?_ (by first | omega | (simp; done) | (simp; omega)) _))) ho); have K0 := Lib.hid (by first | exact TW.out.only (by omega) ho | exact (TW.out.alloc _).only (by omega) ho | exact (TW.out.drew).only (by omega) ho); clear TW; have TW := K0; clear K0; have K0 := Lib.hid (by first | exact PL.out.only (by omega) ho | exact (PL.out.alloc _).only (by omega) ho | exact (PL.out.drew).only (by omega) ho); clear PL; have PL := K0; clear K0; clear HO HR; have HO := HOn; have HR := Lib.hid hr; clear HOn hr; have hi1 := hi1 (by omega); clear hi2; obtain ⟨i, rfl⟩ : ∃ i : Nat, mi = (i : Int) := ⟨mi.toNat, by omega⟩; clear ho)
        | (go_at_call 80; (with_reducible refine (pick B r 8 _ _ (by repeat (with_reducible first | exact HR.out | apply RdOk.alloc | apply RdOk.drew | (refine RdOk.setFar ?_ (by first | omega | (simp; done) | (simp; omega)) _))) (by omega)).mono ?_); rintro e w1 ⟨mv, rfl, hv0, hv1, hv2, ho, hr⟩; have HOn := Lib.hid (Only.trans (by repeat (with_reducible first | exact HO.out | apply Only.alloc | apply Only.drew | (refine Only.setNew ?_ (by first | omega | (simp; done) | (simp; omega)) _))) ho); have K0 := Lib.hid (by first | exact TW.out.only (by omega) ho | exact (TW.out.alloc _).only (by omega) ho | exact (TW.out.drew).only (by omega) ho); clear TW; have TW := K0; clear K0; have K0 := Lib.hid (by first | exact PL.out.only (by omega) ho | exact (PL.out.alloc _).only (by omega) ho | exact (PL.out.drew).only (by omega) ho); clear PL; have PL := K0; clear K0; clear HO HR; have HO := HOn; have HR := Lib.hid hr; clear HOn hr; clear hv2; obtain ⟨⟨v9, e9⟩, f9⟩ := PL.out.cellQ i 1 (by have := HM.out; omega) (by decide); (try simp only [Nat.add_zero] at e9 f9); clear ho))
      have hil : i < ps.length := by have := HM.out; omega
      have hgpl := PL.out.lo
      have hsi := SF.out ps[i] (List.getElem_mem hil)
      exact bodyPost_ret (v := .tuple #[.slice (some ⟨gt, 0, none⟩) ts.length ct, .slice (some ⟨gp, 0, none⟩) m cp]) (by simp [results, Try.results44, go_sem]) rfl ⟨gt, ct, gp, cp, ts, ps.set i (ps[i].1, mv - 1, ps[i].2.2), _, by rw [List.length_set, HM.out], (TW.out.keep (by simp [World.setCell]) (far_set (by omega)) fun b hb => far_set (by have := (HLT.out b hb).2; omega)).tbs, TF.out.ok ht3, ⟨ht1, by omega⟩, htc, PL.out.store (q := 1) (x := mv - 1) (s' := (ps[i].1, mv - 1, ps[i].2.2)) hil (by decide) (fun u hu => by rw [← hu]; rfl) rfl rfl, fits_set SF.out (by exact hsi), by rw [List.length_set, HM.out]; exact hp6, by rw [List.length_set, HM.out]; exact hpc, HO.out.setNew (by simp only; omega) _, HR.out.setFar (show r < gp by omega) _⟩
    · subst h
      go_wp2_with (first
        | (go_at_call 80; (with_reducible refine (pick B r (m : Int) _ _ (by repeat (with_reducible first | exact HR.out | apply RdOk.alloc | apply RdOk.drew | (refine RdOk.setFar ?_ (by first | omega | (simp; done) | (simp; omega)) _))) (by omega)).mono ?_); rintro e w1 ⟨mi, rfl, hi0, hi1, hi2, ho, hr⟩; have HOn := Lib.hid (Only.trans (by repeat (with_reducible first | exact HO.out | apply Only.alloc | apply Only.drew | (refine Only.setNew ?_ (by first | omega | (simp; done) | (simp; omega)) _))) ho); have K0 := Lib.hid (by first | exact TW.out.only (by omega) ho | exact (TW.out.alloc _).only (by omega) ho | exact (TW.out.drew).only (by omega) ho); clear TW; have TW := K0; clear K0; have K0 := Lib.hid (by first | exact PL.out.only (by omega) ho | exact (PL.out.alloc _).only (by omega) ho | exact (PL.out.drew).only (by omega) ho); clear PL; have PL := K0; clear K0; clear HO HR; have HO := HOn; have HR := Lib.hid hr; clear HOn hr; have hi1 := hi1 (by omega); clear hi2; obtain ⟨i, rfl⟩ : ∃ i : Nat, mi = (i : Int) := ⟨mi.toNat, by omega⟩; clear ho)
        | (go_at_call 80; (with_reducible refine (pick B r 8 _ _ (by repeat (with_reducible first | exact HR.out | apply RdOk.alloc | apply RdOk.drew | (refine RdOk.setFar ?_ (by first | omega | (simp; done) | (simp; omega)) _))) (by omega)).mono ?_); rintro e w1 ⟨mv, rfl, hv0, hv1, hv2, ho, hr⟩; have HOn := Lib.hid (Only.trans (by repeat (with_reducible first | exact HO.out | apply Only.alloc | apply Only.drew | (refine Only.setNew ?_ (by first | omega | (simp; done) | (simp; omega)) _))) ho); have K0 := Lib.hid (by first | exact TW.out.only (by omega) ho | exact (TW.out.alloc _).only (by omega) ho | exact (TW.out.drew).only (by omega) ho); clear TW; have TW := K0; clear K0; have K0 := Lib.hid (by first | exact PL.out.only (by omega) ho | exact (PL.out.alloc _).only (by omega) ho | exact (PL.out.drew).only (by omega) ho); clear PL; have PL := K0; clear K0; clear HO HR; have HO := HOn; have HR := Lib.hid hr; clear HOn hr; clear hv2; obtain ⟨⟨v9, e9⟩, f9⟩ := PL.out.cellQ i 0 (by have := HM.out; omega) (by decide); (try simp only [Nat.add_zero] at e9 f9); clear ho))
      have hil : i < ps.length := by have := HM.out; omega
      have hgpl := PL.out.lo
      have hsi := SF.out ps[i] (List.getElem_mem hil)
      exact bodyPost_ret (v := .tuple #[.slice (some ⟨gt, 0, none⟩) ts.length ct, .slice (some ⟨gp, 0, none⟩) m cp]) (by simp [results, Try.results44, go_sem]) rfl ⟨gt, ct, gp, cp, ts, ps.set i (mv, ps[i].2), _, by rw [List.length_set, HM.out], (TW.out.keep (by simp [World.setCell]) (far_set (by omega)) fun b hb => far_set (by have := (HLT.out b hb).2; omega)).tbs, TF.out.ok ht3, ⟨ht1, by omega⟩, htc, PL.out.store (q := 0) (x := mv) (s' := (mv, ps[i].2)) hil (by decide) (fun u hu => by rw [← hu]; rfl) rfl rfl, fits_set SF.out (by exact hsi), by rw [List.length_set, HM.out]; exact hp6, by rw [List.length_set, HM.out]; exact hpc, HO.out.setNew (by simp only; omega) _, HR.out.setFar (show r < gp by omega) _⟩
    · subst h
      go_wp2_with (go_at_call 77; (with_reducible refine (l20TablesA 1 (by decide) (by decide) B r _ _ HR.out (by omega)).mono ?_); rintro e w2 ⟨g2, c2, ts2, q4, rfl, htb2, hok2, h12, h62, hcap2, hq4, ho2, hr2, -⟩; have TB2 := Lib.hid htb2; have OKT2 := Lib.hid hok2; have HO2 := Lib.hid ho2; have HR2 := Lib.hid hr2; clear htb2 hok2 ho2 hr2)
      exact bodyPost_ret (v := .tuple #[.slice (some ⟨g2, 0, none⟩) ts2.length c2, .slice (some ⟨gp, 0, none⟩) m cp]) (by simp [results, Try.results44, go_sem]) rfl ⟨g2, c2, gp, cp, ts2, ps, _, by rw [HM.out], TB2.out, OKT2.out, ⟨h12, h62⟩, hcap2, (PL.out.only hlt HO2.out).sps, SF.out, by rw [HM.out]; exact hp6, by rw [HM.out]; exact hpc, HO.out.trans HO2.out, HR2.out⟩
  · exact bodyPost_ret (v := .tuple #[.slice (some ⟨gt, 0, none⟩) ts.length ct, .slice (some ⟨gp, 0, none⟩) m cp]) (by simp [results, Try.results44, go_sem]) rfl ⟨gt, ct, gp, cp, ts, ps, _, by rw [HM.out], TW.out.tbs, TF.out.ok ht3, ⟨ht1, by omega⟩, htc, PL.out.sps, SF.out, by rw [HM.out]; exact hp6, by rw [HM.out]; exact hpc, HO.out, HR.out⟩
/-- Tables and a plan, for a law. -/
def DrewAsk (w : World) (e : Ending) (w' : World) : Prop := ∃ (gt ct gp cp : Nat) (ts : List TB) (ps : List SP), e = .returned (.tuple #[.slice (some ⟨gt, 0, none⟩) ts.length ct, .slice (some ⟨gp, 0, none⟩) ps.length cp]) ∧ Tbs w' gt 0 (some ⟨gt, 0, none⟩) ts ∧ OkT ts ∧ (1 ≤ ts.length ∧ ts.length ≤ 6) ∧ (ts.length ≤ ct ∧ ct ≤ maxLen) ∧ Sps w' gp 0 (some ⟨gp, 0, none⟩) ps ∧ (∀ s ∈ ps, StepFit s) ∧ ps.length ≤ 6 ∧ (ps.length ≤ cp ∧ cp ≤ maxLen) ∧ Below w.heap.size w w'
theorem drawPlanOk (a : Option Addr) (len cap : Nat) (zs : List Int) (w : World) (h : IsRow .u8 w a len cap zs) : Calls Try.prog 11 #[.slice a len cap] w (DrewAsk w) := by
  have HI := Lib.hid h
  clear h
  go_enter Try.func11, Try.ntmps11
  go_wp2_with (go_at_call 45; (with_reducible refine (l20Open _ _ _ zs _ HI.out).mono ?_); rintro e wo ⟨r, rfl, hr, hb⟩; have HBo := Lib.hid hb; have HR := Lib.hid hr; have hrge := hr.ge; have hrlt := hr.lt; clear hb hr)
  have hzo := HBo.out.size
  go_wp2_with (go_at_call 44; (with_reducible refine (l20Asks 3 (by decide) (by decide) w.heap.size r _ HR.out).mono ?_); rintro e w1 ⟨gt, ct, gp, cp, ts, ps, q, rfl, htb, hok, hts, hct, hsp, hsf, hpl, hcp, ho, hr⟩; have TBW := Lib.hid htb; have OKT := Lib.hid hok; have SPW := Lib.hid hsp; have SF := Lib.hid hsf; have HBB := Lib.hid (HBo.out.trans (ho.below hrge hzo)); clear htb hok hsp hsf ho hr)
  exact bodyPost_ret (v := .tuple #[.slice (some ⟨gt, 0, none⟩) ts.length ct, .slice (some ⟨gp, 0, none⟩) ps.length cp]) (by simp [results, Try.results11, go_sem]) rfl ⟨gt, ct, gp, cp, ts, ps, rfl, TBW.out, OKT.out, hts, hct, SPW.out, SF.out, hpl, hcp, HBB.out⟩
theorem drawPlanColumns (a : Option Addr) (len cap : Nat) (zs : List Int) (w : World) (h : IsRow .u8 w a len cap zs) : Calls Try.prog 15 #[.slice a len cap] w (DrewAsk w) := by
  have HI := Lib.hid h
  clear h
  go_enter Try.func15, Try.ntmps15
  go_wp2_with (go_at_call 45; (with_reducible refine (l20Open _ _ _ zs _ HI.out).mono ?_); rintro e wo ⟨r, rfl, hr, hb⟩; have HBo := Lib.hid hb; have HR := Lib.hid hr; have hrge := hr.ge; have hrlt := hr.lt; clear hb hr)
  have hzo := HBo.out.size
  go_wp2_with (go_at_call 44; (with_reducible refine (l20Asks 9 (by decide) (by decide) w.heap.size r _ HR.out).mono ?_); rintro e w1 ⟨gt, ct, gp, cp, ts, ps, q, rfl, htb, hok, hts, hct, hsp, hsf, hpl, hcp, ho, hr⟩; have TBW := Lib.hid htb; have OKT := Lib.hid hok; have SPW := Lib.hid hsp; have SF := Lib.hid hsf; have HBB := Lib.hid (HBo.out.trans (ho.below hrge hzo)); clear htb hok hsp hsf ho hr)
  exact bodyPost_ret (v := .tuple #[.slice (some ⟨gt, 0, none⟩) ts.length ct, .slice (some ⟨gp, 0, none⟩) ps.length cp]) (by simp [results, Try.results15, go_sem]) rfl ⟨gt, ct, gp, cp, ts, ps, rfl, TBW.out, OKT.out, hts, hct, SPW.out, SF.out, hpl, hcp, HBB.out⟩
theorem drawPlanTables (a : Option Addr) (len cap : Nat) (zs : List Int) (w : World) (h : IsRow .u8 w a len cap zs) : Calls Try.prog 21 #[.slice a len cap] w (DrewAsk w) := by
  have HI := Lib.hid h
  clear h
  go_enter Try.func21, Try.ntmps21
  go_wp2_with (go_at_call 45; (with_reducible refine (l20Open _ _ _ zs _ HI.out).mono ?_); rintro e wo ⟨r, rfl, hr, hb⟩; have HBo := Lib.hid hb; have HR := Lib.hid hr; have hrge := hr.ge; have hrlt := hr.lt; clear hb hr)
  have hzo := HBo.out.size
  go_wp2_with (go_at_call 44; (with_reducible refine (l20Asks 12 (by decide) (by decide) w.heap.size r _ HR.out).mono ?_); rintro e w1 ⟨gt, ct, gp, cp, ts, ps, q, rfl, htb, hok, hts, hct, hsp, hsf, hpl, hcp, ho, hr⟩; have TBW := Lib.hid htb; have OKT := Lib.hid hok; have SPW := Lib.hid hsp; have SF := Lib.hid hsf; have HBB := Lib.hid (HBo.out.trans (ho.below hrge hzo)); clear htb hok hsp hsf ho hr)
  exact bodyPost_ret (v := .tuple #[.slice (some ⟨gt, 0, none⟩) ts.length ct, .slice (some ⟨gp, 0, none⟩) ps.length cp]) (by simp [results, Try.results21, go_sem]) rfl ⟨gt, ct, gp, cp, ts, ps, rfl, TBW.out, OKT.out, hts, hct, SPW.out, SF.out, hpl, hcp, HBB.out⟩
end Go.Proofs.Ytacinjbaebimhaa.Val
