/- What drawing tables, a short plan and two tests leaves (l20Short, DrawTested). -/
import Derived.Test.YtacinjbaebimhaaDrawAsQ
import Derived.Test.YtacinjbaebimhaaPSpecQ
namespace Go.Proofs.Ytacinjbaebimhaa.Val
open Go.RowKit
set_option linter.unusedSimpArgs false
set_option linter.unusedVariables false
set_option maxRecDepth 20000
/-- Tables and a plan of one to four steps. -/
def DrewSh (B r : Nat) (w : World) (e : Ending) (w' : World) : Prop := ∃ (gt ct gp cp : Nat) (UT : List UT) (ts : List TB) (UP : List UD) (ps : List SP) (q : Int), e = .returned (.tuple #[.slice (some ⟨gt, 0, none⟩) ts.length ct, .slice (some ⟨gp, 0, none⟩) ps.length cp]) ∧ TabW w' w.heap.size gt ct UT ts ∧ (1 ≤ ts.length ∧ ts.length ≤ 3) ∧ TabsFit ts ∧ PlW w' w.heap.size gp cp UP ps ∧ (1 ≤ ps.length ∧ ps.length ≤ 4) ∧ (∀ s ∈ ps, StepFit s) ∧ q ≤ 200000 ∧ Only r w w' ∧ RdOk B r w' q
set_option maxHeartbeats 8000000 in
theorem l20Short (B r : Nat) (w : World) (h : RdOk B r w 0) : Calls Try.prog 58 #[.pointer (some ⟨r, 0, none⟩)] w (DrewSh B r w) := by
  have hlt := h.lt
  have hge := h.ge
  have HR := Lib.hid h
  have HO := Lib.hid (Only.refl r w)
  clear h
  go_enter Try.func58, Try.ntmps58
  go_upto_region 2 with ((go_at_call 77; (with_reducible refine (l20TablesG B r 0 _ (by repeat (with_reducible first | exact HR.out | apply RdOk.alloc | apply RdOk.drew | (refine RdOk.setFar ?_ (by first | omega | (simp; done) | (simp; omega)) _))) (by omega)).mono ?_); rintro e w1 ⟨gt, ct, UT, ts, q, rfl, htw, ht1, ht3, htf, hcu, hq, ho, hr⟩; have HOn := Lib.hid (Only.trans (by repeat (with_reducible first | exact HO.out | apply Only.alloc | apply Only.drew | (refine Only.setNew ?_ (by first | omega | (simp; done) | (simp; omega)) _))) ho); clear HO HR; have HO := HOn; have HR := Lib.hid hr; clear HOn hr; have TW := Lib.hid htw; have TF := Lib.hid htf; clear htw htf hcu; clear ho))
  have hzt := HO.out.size
  have hq0 := HR.out.p0
  have htc := TW.out.caps
  go_upto_region 3 with ((go_at_call 78; (with_reducible refine (l20Plan B r gt ct _ UT ts _ _ (by repeat (with_reducible first | exact HR.out | apply RdOk.alloc | apply RdOk.drew | (refine RdOk.setFar ?_ (by first | omega | (simp; done) | (simp; omega)) _))) (by omega) TW.out hlt ht1 ht3 TF.out).mono ?_); rintro e w1 ⟨gp, cp, UP, ps, q2, rfl, hpl, hp1, hp6, hsf, hq2, ho, hr⟩; have HOn := Lib.hid (Only.trans (by repeat (with_reducible first | exact HO.out | apply Only.alloc | apply Only.drew | (refine Only.setNew ?_ (by first | omega | (simp; done) | (simp; omega)) _))) ho); have K0 := Lib.hid (by first | exact TW.out.only (by omega) ho | exact (TW.out.alloc _).only (by omega) ho | exact (TW.out.drew).only (by omega) ho); clear TW; have TW := K0; clear K0; clear HO HR; have HO := HOn; have HR := Lib.hid hr; clear HOn hr; have PL := Lib.hid (hpl.lower (B' := w.heap.size) hzt); have SF := Lib.hid hsf; clear hpl hsf; clear ho))
  have hzp := HO.out.size
  have hq20 := HR.out.p0
  have hpc := PL.out.caps
  obtain ⟨m, hm⟩ : ∃ m, ps.length = m := ⟨_, rfl⟩
  have HM := Lib.hid hm
  rw [hm] at hp1 hp6 hpc ⊢
  clear hm
  go_region_law (first
    | (go_simp; go_at_call 80; (with_reducible refine (pick B r (if (4 : Int) < (m : Int) then 4 else (m : Int)) _ _ (by repeat (with_reducible first | exact HR.out | apply RdOk.alloc | apply RdOk.drew | (refine RdOk.setFar ?_ (by first | omega | (simp; done) | (simp; omega)) _))) (by omega)).mono ?_); rintro e w1 ⟨mi, rfl, hi0, hi1, hi2, ho, hr⟩; have hi1 := hi1 (by split <;> omega); have hi4 : mi < 4 := (by split at hi1 <;> omega); have him : mi < (m : Int) := (by split at hi1 <;> omega); clear hi1; obtain ⟨i, rfl⟩ : ∃ i : Nat, mi = (i : Int) := ⟨mi.toNat, by omega⟩; have hmt : (1 + (i : Int)).toNat = i + 1 := (by omega); have hwr : IntKind.i64.wrap (1 + (i : Int)) = 1 + (i : Int) := IntWalk.i64_in _ (by omega); have hs1 : (0 : Int) ≤ 1 + (i : Int) := (by omega); have hs2 : 1 + (i : Int) ≤ (cp : Int) := (by omega); have HO1 := Lib.hid (Only.trans (by repeat (with_reducible first | exact HO.out | apply Only.alloc | apply Only.drew | (refine Only.setNew ?_ (by first | omega | (simp; done) | (simp; omega)) _))) ho); have HR1 := Lib.hid hr; have TW1 := Lib.hid (TabW.only (by first | exact TW.out.drew | exact TW.out) hlt ho); have PL1 := Lib.hid (PlW.only (by first | exact PL.out.drew | exact PL.out) hlt ho); clear ho hr hi2))
  all_goals go_wp2
  all_goals exact bodyPost_ret (v := .tuple #[.slice (some ⟨gt, 0, none⟩) ts.length ct, .slice (some ⟨gp, 0, none⟩) (i + 1) cp]) (by simp [results, Try.results58, go_sem]) rfl ⟨gt, ct, gp, cp, UT, ts, UP.take (i + 1), ps.take (i + 1), _, by rw [List.length_take, HM.out, Nat.min_eq_left (by omega)], TW1.out, ⟨ht1, ht3⟩, TF.out, PL1.out.take _, ⟨by rw [List.length_take, HM.out]; omega, by rw [List.length_take, HM.out]; omega⟩, fun s hs => SF.out s (List.mem_of_mem_take hs), by omega, HO1.out, HR1.out⟩
theorem pcols_four (tb : List TB) (p : List SP) : (pcolsI tb p).length ≤ 4 := by
  cases h : planB tb p with
  | true => exact (colB_iff.1 (rowsB_iff.1 (plan_fits h).1).1).1
  | false => rw [(plan_none h).1]; simp
/-- What DrawTested leaves: tables, a plan of one to three steps, two tests over its columns. -/
def DrewTd (w : World) (e : Ending) (w' : World) : Prop := ∃ (gt ct gp cp ga ca gb cb : Nat) (ts : List TB) (ps : List SP) (ea eb : List PT), e = .returned (.tuple #[.slice (some ⟨gt, 0, none⟩) ts.length ct, .slice (some ⟨gp, 0, none⟩) ps.length cp, .slice (some ⟨ga, 0, none⟩) ea.length ca, .slice (some ⟨gb, 0, none⟩) eb.length cb]) ∧ Tbs w' gt 0 (some ⟨gt, 0, none⟩) ts ∧ (1 ≤ ts.length ∧ ts.length ≤ 3) ∧ TabsFit ts ∧ (ts.length ≤ ct ∧ ct ≤ maxLen) ∧ Sps w' gp 0 (some ⟨gp, 0, none⟩) ps ∧ (1 ≤ ps.length ∧ ps.length ≤ 3) ∧ (∀ s ∈ ps, StepFit s) ∧ (ps.length ≤ cp ∧ cp ≤ maxLen) ∧
  (Fl w' ga 0 (some ⟨ga, 0, none⟩) (flatP ea) ∧ (1 ≤ ea.length ∧ ea.length ≤ 3) ∧ TextsP ea ∧ (∀ st, runK (pcolsI ts ps) ea st = some (3 :: st)) ∧ (ea.length ≤ ca ∧ ca ≤ maxLen)) ∧ (Fl w' gb 0 (some ⟨gb, 0, none⟩) (flatP eb) ∧ (1 ≤ eb.length ∧ eb.length ≤ 3) ∧ TextsP eb ∧ (∀ st, runK (pcolsI ts ps) eb st = some (3 :: st)) ∧ (eb.length ≤ cb ∧ cb ≤ maxLen)) ∧ Below w.heap.size w w'
set_option maxHeartbeats 8000000 in
theorem drawTested (a : Option Addr) (len cap : Nat) (zs : List Int) (w : World) (h : IsRow .u8 w a len cap zs) : Calls Try.prog 27 #[.slice a len cap] w (DrewTd w) := by
  have HI := Lib.hid h
  clear h
  go_enter Try.func27, Try.ntmps27
  go_wp2_with (first
    | (go_at_call 45; (with_reducible refine (l20Open _ _ _ zs _ HI.out).mono ?_); rintro e wo ⟨r, rfl, hr, hb⟩; have HBo := Lib.hid hb; have HR := Lib.hid hr; have hrge := hr.ge; have hrlt := hr.lt; clear hb hr)
    | (go_at_call 58; (with_reducible refine (l20Short w.heap.size r _ HR.out).mono ?_); rintro e w1 ⟨gt, ct, gp, cp, UT, ts, UP, ps, q, rfl, htw, hts, htf, hpl, hps, hsf, hq, ho, hr⟩; have TW := Lib.hid htw; have TF := Lib.hid htf; have PL := Lib.hid hpl; have SF := Lib.hid hsf; have HO := Lib.hid ho; have HRn := Lib.hid hr; clear htw htf hpl hsf ho hr HR; have HR := HRn; clear HRn))
  have hzo := HBo.out.size
  have hz1 := HO.out.size
  obtain ⟨mp, hmp⟩ : ∃ n, ps.length = n := ⟨_, rfl⟩
  have HMP := Lib.hid hmp
  rw [hmp] at hps ⊢
  clear hmp
  have hpc := PL.out.caps
  rw [HMP.out] at hpc
  go_loopw [8] (fun px wr => ∃ (m : Nat), 1 ≤ m ∧ m ≤ mp ∧ px = .slice (some ⟨gp, 0, none⟩) m cp ∧ wr = w1) (fun px _ => match px with | .slice _ n _ => n | _ => 0)
  case atStart => exact ⟨mp, by omega, Nat.le_refl _, rfl, rfl⟩
  case round =>
    obtain ⟨m, hm1, hm2, rfl, rfl⟩ := hrel
    by_cases hm : 3 < m
    · have hm3 : (3 : Int) < (m : Int) := by omega
      have hwr : IntKind.i64.wrap ((m : Int) - 1) = (m : Int) - 1 := IntWalk.i64_in _ (by omega)
      have hs1 : (0 : Int) ≤ (m : Int) - 1 := by omega
      have hs2 : (m : Int) - 1 ≤ (cp : Int) := by omega
      have hmt : ((m : Int) - 1).toNat = m - 1 := by omega
      go_wp2
      exact ⟨⟨m - 1, by omega, by omega, rfl, trivial⟩, by simp; omega⟩
    · have hm3 : ¬ (3 : Int) < (m : Int) := by omega
      have PT := Lib.hid (PL.out.take m)
      have hql : (ps.take m).length = m := by rw [List.length_take, HMP.out]; omega
      have SFT := Lib.hid (fun (s : SP) (hs : s ∈ ps.take m) => SF.out s (List.mem_of_mem_take hs))
      obtain ⟨qs, hqs⟩ : ∃ q, ps.take m = q := ⟨_, rfl⟩
      rw [hqs] at PT hql SFT
      clear hqs PL SF HMP
      have HQL := Lib.hid hql
      have hm6 : qs.length ≤ 6 := by omega
      have CC := Lib.hid (fun W h1 h2 => planColumnsS (some ⟨gt, 0, none⟩) (some ⟨gp, 0, none⟩) gt 0 ct gp 0 cp ts qs W h1 (TF.out.ok hts.2) h2 (okS_fit (by omega) SFT.out))
      rw [hql] at CC
      have h4 := pcols_four ts qs
      obtain ⟨cs, hcs⟩ : ∃ c, pcolsI ts qs = c := ⟨_, rfl⟩
      have HCS := Lib.hid hcs
      rw [hcs] at CC h4
      clear hcs hql
      unfold RetFl at CC
      have hq0 := HR.out.p0
      have hrl := HR.out.lt
      go_upto_region 6 with (go_at_call 17; (with_reducible refine (CC.out _ TW.out.tbs PT.out.sps).mono ?_); rintro e w2 ⟨gc, cc, rfl, hfc, hb⟩; have FC := Lib.hid hfc.fl; have HRn := Lib.hid (rdUnder HR.out hb); have HOn := Lib.hid (HO.out.trans (onlyBelow (g := r) hb)); have TWn := Lib.hid (TW.out.below hb); have PTn := Lib.hid (PT.out.below hb); have hgc := hfc.lo; clear HR HO TW PT hb hfc; have HR := HRn; have HO := HOn; have TW := TWn; have PT := PTn; clear HRn HOn TWn PTn)
      have hrl2 := HR.out.lt
      have hq02 := HR.out.p0
      go_wp2_with (first
        | ((fail_if_success (have _ := PA)); (go_at_call 59; (with_reducible refine ((by have h := l20ExprT w.heap.size r gc 0 cc (some ⟨gc, 0, none⟩) cs (by omega) (by omega) 1 (by omega) 3 1 _ _ (by omega) (by omega) (by repeat (with_reducible first | exact HR.out | apply RdOk.alloc | apply RdOk.drew | (refine RdOk.setFar ?_ (by first | omega | (simp; done) | (simp; omega)) _))) (by rw [show lenE 1 = 3 from rfl]; omega) FC.out (by simp); rw [show lenE 1 = 3 from rfl] at h; exact h : Calls _ _ _ _ _)).mono ?_); rintro e w1 ⟨ea, va, qa, rfl, ha0, haM, hra, hta, owa, hqa, ho, hr⟩; have HOn := Lib.hid (Only.trans (by repeat (with_reducible first | exact HO.out | apply Only.alloc | apply Only.drew | (refine Only.setNew ?_ (by first | omega | (simp; done) | (simp; omega)) _))) ho); have K0 := Lib.hid (Fl.only (by (repeat (with_reducible first | exact FC.out | apply Fl.alloc | apply Fl.drew))) ho (by omega)); clear FC; have FC := K0; clear K0; have K0 := Lib.hid (by first | exact TW.out.only (by omega) ho | exact (TW.out.alloc _).only (by omega) ho | exact (TW.out.drew).only (by omega) ho); clear TW; have TW := K0; clear K0; have K0 := Lib.hid (by first | exact PT.out.only (by omega) ho | exact (PT.out.alloc _).only (by omega) ho | exact (PT.out.drew).only (by omega) ho); clear PT; have PT := K0; clear K0; clear HO HR; have HO := HOn; have HR := Lib.hid hr; clear HOn hr; obtain ⟨ga, ka, rfl⟩ := own_sliceX owa (by omega); have hla := owa.lt ga rfl; have PA := True.intro; have Ra := Lib.hid hra; have Ta := Lib.hid hta; have Oa := Lib.hid owa; clear hra hta owa; clear ho))
        | ((go_at_call 59; (with_reducible refine ((by have h := l20ExprT w.heap.size r gc 0 cc (some ⟨gc, 0, none⟩) cs (by omega) (by omega) 1 (by omega) 3 1 _ _ (by omega) (by omega) (by repeat (with_reducible first | exact HR.out | apply RdOk.alloc | apply RdOk.drew | (refine RdOk.setFar ?_ (by first | omega | (simp; done) | (simp; omega)) _))) (by rw [show lenE 1 = 3 from rfl]; omega) FC.out (by simp); rw [show lenE 1 = 3 from rfl] at h; exact h : Calls _ _ _ _ _)).mono ?_); rintro e w1 ⟨eb, vb, qb, rfl, hb0, hbM, hrb, htb, owb, hqb, ho, hr⟩; have HOn := Lib.hid (Only.trans (by repeat (with_reducible first | exact HO.out | apply Only.alloc | apply Only.drew | (refine Only.setNew ?_ (by first | omega | (simp; done) | (simp; omega)) _))) ho); have K0 := Lib.hid (own_only2 (by repeat (with_reducible first | exact Oa.out | apply World.ownsRow.alloc | apply own_drew)) (by omega) ho); clear Oa; have Oa := K0; clear K0; have K0 := Lib.hid (Fl.only (by (repeat (with_reducible first | exact FC.out | apply Fl.alloc | apply Fl.drew))) ho (by omega)); clear FC; have FC := K0; clear K0; have K0 := Lib.hid (by first | exact TW.out.only (by omega) ho | exact (TW.out.alloc _).only (by omega) ho | exact (TW.out.drew).only (by omega) ho); clear TW; have TW := K0; clear K0; have K0 := Lib.hid (by first | exact PT.out.only (by omega) ho | exact (PT.out.alloc _).only (by omega) ho | exact (PT.out.drew).only (by omega) ho); clear PT; have PT := K0; clear K0; clear HO HR; have HO := HOn; have HR := Lib.hid hr; clear HOn hr; obtain ⟨gb, kb, rfl⟩ := own_sliceX owb (by omega); have hlb := owb.lt gb rfl; have Rb := Lib.hid hrb; have Tb := Lib.hid htb; have Ob := Lib.hid owb; clear hrb htb owb; clear ho)))
      exact bodyPost_ret (v := .tuple #[.slice (some ⟨gt, 0, none⟩) ts.length ct, .slice (some ⟨gp, 0, none⟩) m cp, .slice (some ⟨ga, 0, none⟩) ea.length ka, .slice (some ⟨gb, 0, none⟩) eb.length kb]) (by simp [results, Try.results27, go_sem]) rfl ⟨gt, ct, gp, cp, ga, ka, gb, kb, ts, qs, ea, eb, by rw [HQL.out], TW.out.tbs, hts, TF.out, TW.out.caps, PT.out.sps, ⟨by rw [HQL.out]; omega, by rw [HQL.out]; omega⟩, SFT.out, PT.out.caps, ⟨fl_sliceB Oa.out, ⟨by omega, by omega⟩, Ta.out, by rw [HCS.out]; exact Ra.out, own_caps Oa.out⟩, ⟨fl_sliceB Ob.out, ⟨by omega, by omega⟩, Tb.out, by rw [HCS.out]; exact Rb.out, own_caps Ob.out⟩, HBo.out.trans (HO.out.below hrge hzo)⟩
end Go.Proofs.Ytacinjbaebimhaa.Val
