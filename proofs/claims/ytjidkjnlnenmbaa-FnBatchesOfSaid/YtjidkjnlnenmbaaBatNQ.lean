/- Batches are all rows: plain facts; laws.sameBatch on equal batches; the draw. -/
import Derived.Test.YtjidkjnlnenmbaaBatQQ
import Derived.Test.YtjidkjnlnenmbaaLSameQ
import Derived.Test.YtjidkjnlnenmbaaDrawBgQ
namespace Go.Proofs.Ytjidkjnlnenmbaa.Val
open Go.RowKit
set_option linter.unusedVariables false
set_option linter.unusedSimpArgs false
set_option maxRecDepth 8000
theorem rowsB_ok {cs : List CT} {ls : List RT} (h : rowsB cs ls = true) : ∀ r ∈ ls, r.all okV = true := by
  intro r hr
  simp only [rowsB, Bool.and_eq_true, List.all_eq_true] at h
  have := h.2 r hr
  simp only [fitB, Bool.and_eq_true] at this
  exact rowB_all this.1.1.2
theorem getD_mem {r : RT} {j : Nat} (h : j < r.length) : r.getD j nilV ∈ r := by rw [getD_lt h]; exact List.getElem_mem h
/-- The batch of rows is one; its rows are these. -/
theorem batR_rows {m : Nat} {ch : List RT} (hm : m ≤ 4) (hl : ∀ r ∈ ch, r.length = m) (hok : ∀ r ∈ ch, r.all okV = true) (hq : ch.length ≤ 4) :
    batB ((List.range m).map (acr ch)) (List.replicate ch.length true).length = true ∧ batR ((List.range m).map (acr ch)) (List.replicate ch.length true) = ch := by
  have hB : batB ((List.range m).map (acr ch)) (List.replicate ch.length true).length = true := by
    rw [List.length_replicate, batB_all (by simpa using hm) hq]
    rw [List.all_eq_true]
    intro c hc
    simp only [List.mem_map, List.mem_range] at hc
    obtain ⟨j, hj, rfl⟩ := hc
    rw [colN_same (acr_len _ _), List.all_eq_true]
    intro v hv
    simp only [acr, List.mem_map] at hv
    obtain ⟨r, hr, rfl⟩ := hv
    exact List.all_eq_true.1 (hok r hr) _ (getD_mem (by rw [hl r hr]; exact hj))
  refine ⟨hB, ?_⟩
  unfold batR
  rw [if_pos hB, List.length_replicate]
  unfold pckN
  have hf : (List.range ch.length).filter (fun j => (List.replicate ch.length true).getD j false) = List.range ch.length := by
    rw [List.filter_eq_self]
    intro j hj
    have hj2 : j < ch.length := by simpa using hj
    rw [getD_lt (by simpa using hj2)]; simp
  rw [hf]
  refine List.ext_getElem (by simp) fun k h1 h2 => ?_
  simp only [List.getElem_map, List.getElem_range]
  have hk := hl _ (List.getElem_mem h2)
  refine List.ext_getElem (by simp [acr, hk]) fun j h3 h4 => ?_
  simp only [acr, List.getElem_map, List.getElem_range]
  rw [getD_lt (by simpa using h2), List.getElem_map, getD_lt h4]
theorem take_chk (s : Nat) (ls : List RT) (k : Nat) : ls.take (k * s) ++ chk s ls k = ls.take ((k + 1) * s) := by
  unfold chk; rw [Nat.add_mul, Nat.one_mul, List.take_add]
theorem sameBatchL (A1 A2 B1 B2 : Option Addr) (g1 o1 c1 g2 o2 c2 h1 p1 d1 h2 p2 d2 : Nat) (ls : List RT) (bs : List Bool) (w : World) (ha : BatR w A1 g1 o1 A2 g2 o2 ls bs) (hb : BatR w B1 h1 p1 B2 h2 p2 ls bs) (hok : Ok2 ls) (hl : bs.length ≤ 2000000) :
    Calls Try.prog 48 #[.agg #[.slice A1 ls.length c1, .slice A2 bs.length c2], .agg #[.slice B1 ls.length d1, .slice B2 bs.length d2]] w fun e w' => e = .returned (.bool true) ∧ Below w.heap.size w w' := by
  have CR := Lib.hid (fun W hA hB => sameRowsL A1 B1 g1 h1 o1 p1 c1 d1 ls ls W hA hB hok hok)
  rw [decide_eq_true (rfl : ls = ls)] at CR
  have hw0 : Below w.heap.size w ((w.alloc (.cells #[.slice A1 ls.length c1, .slice A2 bs.length c2] 30)).alloc (.cells #[.slice B1 ls.length d1, .slice B2 bs.length d2] 30)) := ((Below.refl _ _).alloc (Nat.le_refl _) _).alloc (by simp) _
  have HW0 := Lib.hid hw0
  have HA := Lib.hid (ha.below hw0)
  have HC := Lib.hid (hb.below hw0)
  have BX := Lib.hid ((show Box2 w.heap.size (.slice A1 ls.length c1) (.slice A2 bs.length c2) (w.alloc (.cells #[.slice A1 ls.length c1, .slice A2 bs.length c2] 30)) from ⟨by simp [go_sem], by simp [go_sem]⟩).alloc (.cells #[.slice B1 ls.length d1, .slice B2 bs.length d2] 30))
  have BY := Lib.hid (show Box2 (w.heap.size + 1) (.slice B1 ls.length d1) (.slice B2 bs.length d2) ((w.alloc (.cells #[.slice A1 ls.length c1, .slice A2 bs.length c2] 30)).alloc (.cells #[.slice B1 ls.length d1, .slice B2 bs.length d2] 30)) from ⟨by simp [go_sem], by simp [go_sem]⟩)
  obtain ⟨n, hn⟩ : ∃ n, bs.length = n := ⟨_, rfl⟩
  have HNL := Lib.hid hn
  rw [hn] at BX BY HW0 HA HC hl
  rw [hn]
  clear ha hb hok hw0 hn
  have e0 : ((n : Int) != (n : Int)) = false := by simp
  go_enter Try.func48, Try.ntmps48
  go_wp2_with (go_at_call 46; (with_reducible refine (CR.out _ HA.out.cs HC.out.cs).mono ?_); rintro e w1 ⟨rfl, hb1⟩; go_loud (have HX := Lib.hid (BX.out.below hb1); have HY := Lib.hid (BY.out.below hb1); have HB := Lib.hid (HW0.out.trans (hb1.mono HW0.out.size)); have HP := Lib.hid (HA.out.below hb1).pk; have HQ := Lib.hid (HC.out.below hb1).pk; clear hb1; obtain ⟨x0, x1⟩ := HX.out; obtain ⟨y0, y1⟩ := HY.out))
  go_loopw [5] (fun ix wr => ∃ (k : Nat), k ≤ n ∧ ix = .int .i64 k ∧ Hid (Below w1.heap.size w1 wr)) (fun ix _ => n - (intOf ix).toNat)
  case atStart => exact ⟨0, by omega, rfl, Below.refl _ _⟩
  case round =>
    obtain ⟨k, hk, rfl, HW⟩ := hrel
    clear x0 x1 y0 y1
    obtain ⟨x0, x1⟩ := HX.out.below HW.out
    obtain ⟨y0, y1⟩ := HY.out.below HW.out
    by_cases hlt : k < n
    · have hkb : k < bs.length := by rw [HNL.out]; exact hlt
      obtain ⟨rfl, hg2, c0⟩ := (HP.out.below HW.out).b k hkb
      obtain ⟨rfl, hg2', d0⟩ := (HQ.out.below HW.out).b k hkb
      obtain ⟨K, hK⟩ : ∃ K, bs[k] = K := ⟨_, rfl⟩
      rw [hK] at c0 d0
      clear hK hkb
      have e1 : (K != K) = false := by simp
      have i0' : (0 : Int) ≤ (k : Int) := by omega
      have i1' : (k : Int) < (n : Int) := by omega
      go_wp2
      go_quiet (fail)
      go_wp2
      exact ⟨⟨k + 1, by omega, by go_num, below_drewB HW.out⟩, by simp [intOf]; omega⟩
    · obtain rfl : k = n := by omega
      go_wp2
      go_ret
      exact ⟨rfl, HB.out.trans (HW.out.mono HB.out.size)⟩
def DrewCRn (w : World) (e : Ending) (w' : World) : Prop := ∃ (g c g2 c2 : Nat) (cs : List CT) (ls : List RT) (n : Int), e = .returned (.tuple #[.slice (some ⟨g, 0, none⟩) cs.length c, .slice (some ⟨g2, 0, none⟩) ls.length c2, .int .i64 n]) ∧ (0 ≤ n ∧ n ≤ 5) ∧ cs.length ≤ 6 ∧ Fl w' g 0 (some ⟨g, 0, none⟩) (flatC cs) ∧ SeesR w' g2 c2 ls ∧ Below w.heap.size w w'
theorem drawBatchesOf (a : Option Addr) (len cap : Nat) (zs : List Int) (w : World) (h : IsRow .u8 w a len cap zs) : Calls Try.prog 47 #[.slice a len cap] w (DrewCRn w) := by
  have HI := Lib.hid h
  clear h
  go_enter Try.func47, Try.ntmps47
  go_upto_region 3 with (first
    | (go_at_call 89; (with_reducible refine (l20Open _ _ _ zs _ HI.out).mono ?_); rintro e wo ⟨r, rfl, hr, hb⟩; have HB0 := Lib.hid hb; have HO := Lib.hid (Only.refl r wo); have HR := Lib.hid hr; have hrge := hr.ge; have hrlt := hr.lt; clear hb hr)
    | (go_at_call 91; (with_reducible refine (l20Columns w.heap.size r 12 0 _ (by repeat (with_reducible first | exact HR.out | apply RdOk.alloc | apply RdOk.drew | (refine RdOk.setFar ?_ (by first | omega | (simp; done) | (simp; omega)) _))) (by omega) (by omega)).mono ?_); rintro e w1 ⟨cs, g, c, q, rfl, h0, h6, hc1', hc2', hg, hf, hq, ho, hr⟩; have HOn := Lib.hid (Only.trans (by repeat (with_reducible first | exact HO.out | apply Only.alloc | apply Only.drew | (refine Only.setNew ?_ (by first | omega | (simp; done) | (simp; omega)) _))) ho); clear HO HR; have HO := HOn; have HR := Lib.hid hr; clear HOn hr; have HF := Lib.hid hf; have hrl := HR.out.lt; have hq0 := HR.out.p0; have hgr : g ≠ r := (by have := ho.size; omega); clear hf; clear ho))
  have CB := Lib.hid (fun (q : Int) (W : World) (hR : RdOk w.heap.size r W q) (hq : q ≤ 50000000) (hF : Fl W g 0 (some ⟨g, 0, none⟩) (flatC cs)) => l20Bag w.heap.size r g c cs 30 q W hR hq (by omega) hF hgr h0 (by omega))
  go_wp2_with (first
    | (go_at_call 92; (with_reducible refine (CB.out _ _ (by repeat (with_reducible first | exact HR.out | apply RdOk.alloc | apply RdOk.drew | (refine RdOk.setFar ?_ (by first | omega | (simp; done) | (simp; omega)) _))) (by omega) HF.out).mono ?_); rintro e w1 ⟨ga, ca, Ta, la, qa, rfl, hba, hsa, hqa, ho, hr⟩; have HOn := Lib.hid (Only.trans (by repeat (with_reducible first | exact HO.out | apply Only.alloc | apply Only.drew | (refine Only.setNew ?_ (by first | omega | (simp; done) | (simp; omega)) _))) ho); have K0 := Lib.hid (Fl.only (by (repeat (with_reducible first | exact HF.out | apply Fl.alloc | apply Fl.drew))) ho (by omega)); clear HF; have HF := K0; clear K0; clear HO HR; have HO := HOn; have HR := Lib.hid hr; clear HOn hr; have BW := Lib.hid hba; have SA := Lib.hid hsa; clear hba hsa; clear ho)
    | (go_at_call 93; (with_reducible refine (pick w.heap.size r 6 _ _ (by repeat (with_reducible first | exact HR.out | apply RdOk.alloc | apply RdOk.drew | (refine RdOk.setFar ?_ (by first | omega | (simp; done) | (simp; omega)) _))) (by omega)).mono ?_); rintro e w1 ⟨m6, rfl, hm0, hm1, -, ho, hr⟩; have HOn := Lib.hid (Only.trans (by repeat (with_reducible first | exact HO.out | apply Only.alloc | apply Only.drew | (refine Only.setNew ?_ (by first | omega | (simp; done) | (simp; omega)) _))) ho); have K0 := Lib.hid (Fl.only (by (repeat (with_reducible first | exact HF.out | apply Fl.alloc | apply Fl.drew))) ho (by omega)); clear HF; have HF := K0; clear K0; have K0 := Lib.hid (by first | exact BW.out.only (by omega) ho | exact (BW.out.alloc _).only (by omega) ho | exact (BW.out.drew).only (by omega) ho); clear BW; have BW := K0; clear K0; clear HO HR; have HO := HOn; have HR := Lib.hid hr; clear HOn hr; have hm5 := hm1 (by omega); clear hm1; clear ho))
  exact bodyPost_ret (v := .tuple #[.slice (some ⟨g, 0, none⟩) cs.length c, .slice (some ⟨ga, 0, none⟩) la.length ca, .int .i64 m6]) (by simp [results, Try.results47, go_sem]) rfl ⟨g, c, ga, ca, cs, la, m6, rfl, ⟨hm0, by omega⟩, h6, HF.out, BW.out.sees SA.out, HB0.out.trans (HO.out.below hrge HB0.out.size)⟩
end Go.Proofs.Ytjidkjnlnenmbaa.Val
