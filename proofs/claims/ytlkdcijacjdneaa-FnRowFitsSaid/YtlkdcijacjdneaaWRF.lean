/- The walk of the law FnRowFits. -/
import Derived.Test.YtlkdcijacjdneaaRowF
import Derived.Test.YtlkdcijacjdneaaWCO
import Derived.Test.YtlkdcijacjdneaaOpenS
import Derived.OwnWalk
namespace Go.Proofs.Ytlkdcijacjdneaa.Val
open Go.RowKit
set_option linter.unusedVariables false
theorem make_guarded {P : Program} (w : World) {ops : Array Oper} {rest : List Oper} {o : Oper} {a : Act} {Q : Exit → Act → World → Prop}
    (hw : Region.wanted o (yielded ops a.tmps) = true) (l c : Operand) (t : TypeId) (hop : o.op = Op.makeSlice t l c)
    (base : Nat) (e : TypeId) (i : TypeInfo) (z : Value) (size : Nat) (h1 : P.underlying t = some (.slice e)) (h2 : P.info? e = some i) (h3 : i.zero = some z) (h4 : i.size = size)
    (kl kc : IntKind) (L C : Int) (n : Nat) (hl : a.eval l = .int kl L) (hc : a.eval c = .int kc C) (hL : L = (n : Int)) (hC : C = (n : Int)) (b2 : i.bytes * n ≤ 281474976710656) (b3 : n ≤ maxLen) (b4 : base ≤ w.heap.size)
    (hK : ∀ w', w'.ownsRow base e size (.slice (some ⟨w.heap.size, 0, none⟩) n n) n (madeCells z.cells (n * size)).toList → w.grownBy w' none → wpList P ops Q rest (a.put o.dst (.slice (some ⟨w.heap.size, 0, none⟩) n n)) w') :
    wpList P ops Q (o :: rest) a w := by
  refine wpList_step fun K hK' => ?_
  rw [if_pos hw]
  obtain ⟨w', hrun, r1, r2⟩ := run_make_full (P := P) w base t e i z size h1 h2 h3 h4 kl kc n b2 b3 b4
  subst hL
  subst hC
  unfold Oper.wp
  simp [execOp, hop, hl, hc, hrun, Result.andThen]
  exact hK' _ _ (hK w' r1 r2)
theorem fl_of_some {w : World} {B size n g cap : Nat} {e : TypeId} {xs : List Value} (h : w.ownsRow B e size (.slice (some ⟨g, 0, none⟩) n cap) n xs) : Fl w g 0 (some ⟨g, 0, none⟩) xs :=
  ⟨fun _ => rfl, fun j hj => by rw [Nat.zero_add, h.cellAt j (by rw [← h.1]; exact hj), List.getElem?_eq_getElem hj]⟩
def zeroV : VT := (0, 0, ⟨#[]⟩)
theorem made_zero (n : Nat) : (madeCells (Value.agg #[.int .i64 0, .int .i64 0, .string ⟨#[]⟩]).cells (n * 3)).toList = flatV (List.replicate n zeroV) := by
  apply List.ext_getElem?
  intro j
  by_cases hj : j < n * 3
  · have hi : j / 3 < (List.replicate n zeroV).length := by simp; omega
    have hg := flatV_get (List.replicate n zeroV) (j / 3) hi
    simp only [List.getElem_replicate] at hg
    rcases (by omega : j = j / 3 * 3 ∨ j = j / 3 * 3 + 1 ∨ j = j / 3 * 3 + 2) with e | e | e
    · rw [← e] at hg
      rw [hg.1]
      have hm : j % 3 = 0 := by omega
      simp [madeCells, hj, Value.cells, hm, zeroV]
    · rw [← e] at hg
      rw [hg.2.1]
      have hm : j % 3 = 1 := by omega
      simp [madeCells, hj, Value.cells, hm, zeroV]
    · rw [← e] at hg
      rw [hg.2.2]
      have hm : j % 3 = 2 := by omega
      simp [madeCells, hj, Value.cells, hm, zeroV]
  · rw [List.getElem?_eq_none (by simp [madeCells]; omega), List.getElem?_eq_none (by rw [flatV_len]; simp; omega)]
/-- The columns, each of which may be empty. -/
def wideL (cs : List CT) : List CT := cs.map fun c => (c.1, true)
theorem wide_len (cs : List CT) : (wideL cs).length = cs.length := by simp [wideL]
theorem wide_col (cs : List CT) : colB (wideL cs) = colB cs := by
  simp only [colB, wideL, List.length_map, List.all_map]; rfl
theorem wide_snoc (cs : List CT) (k : Nat) (h : k < cs.length) : wideL (cs.take (k + 1)) = wideL (cs.take k) ++ [(cs[k].1, true)] := by
  rw [wideL, List.take_succ_eq_append_getElem h, List.map_append]; rfl
theorem wide_fit (cs : List CT) (vs : List VT) (h : fitB cs vs = true) : fitB (wideL cs) vs = true := by
  simp only [fitB, Bool.and_eq_true, decide_eq_true_eq] at h ⊢
  refine ⟨⟨⟨by rw [wide_col]; exact h.1.1.1, h.1.1.2⟩, by rw [wide_len]; exact h.1.2⟩, ?_⟩
  have h4 := h.2
  rw [List.all_eq_true] at h4 ⊢
  intro p hp
  obtain ⟨i, hi, rfl⟩ := List.mem_iff_getElem.1 hp
  simp only [List.length_zip, wide_len] at hi
  have hz : i < (cs.zip vs).length := by simp; omega
  have := h4 ((cs.zip vs)[i]'hz) (List.getElem_mem hz)
  simp only [List.getElem_zip, wideL, List.getElem_map, takeB, Bool.or_eq_true, Bool.and_eq_true, decide_eq_true_eq] at this ⊢
  rcases this with h | h
  · exact .inl h
  · exact .inr ⟨trivial, h.2⟩
theorem zero_fit (cs : List CT) : fitB (wideL cs) (List.replicate cs.length zeroV) = colB cs := by
  have ho : okV zeroV = true := by simp [okV, zeroV, okB, ByteArray.toList_eq]
  cases hc : colB cs
  · simp [fitB, wide_col, hc]
  · have h4 : cs.length ≤ 4 := by simp only [colB, Bool.and_eq_true, decide_eq_true_eq] at hc; exact hc.1
    have h1 : rowB (List.replicate cs.length zeroV) = true := by
      simp only [rowB, List.length_replicate, Bool.and_eq_true, decide_eq_true_eq, List.all_eq_true]
      exact ⟨h4, fun v hv => by rw [List.eq_of_mem_replicate hv]; exact ho⟩
    have h2 : ((wideL cs).zip (List.replicate cs.length zeroV)).all (fun p => takeB p.1 p.2) = true := by
      rw [List.all_eq_true]
      intro p hp
      obtain ⟨i, hi, rfl⟩ := List.mem_iff_getElem.1 hp
      simp [wideL, takeB, zeroV]
    rw [fitB, wide_col, hc, h1, h2]
    simp [wide_len]
theorem zero_short (n : Nat) : Short (List.replicate n zeroV) := fun i hi => by rw [List.getElem_replicate]; exact Nat.zero_le _
theorem fit_row {cs : List CT} {vs : List VT} (h : fitB cs vs = true) : rowB vs = true ∧ vs.length = cs.length := by
  simp only [fitB, Bool.and_eq_true, decide_eq_true_eq] at h
  exact ⟨h.1.1.2, h.1.2⟩
set_option maxHeartbeats 4000000 in
theorem walk_FnRowFits (a : Option Addr) (len cap : Nat) (zs : List Int) (w : World) (h : IsRow .u8 w a len cap zs) :
    Calls Try.prog 5 #[.slice a len cap] w fun e w' => e = .returned (.bool true) ∧ Below w.heap.size w w' := by
  by_cases hl : 1048576 < len
  · clear h
    go_enter Try.func5, Try.ntmps5
    go_wp2
    go_ret
    exact ⟨rfl, Below.refl _ _⟩
  · have HI := Lib.hid h
    clear h
    obtain ⟨i0, hi, iz0, iz1, iz2⟩ := info_parts infoC
    obtain ⟨j0, hj, jz0, jz1, jz2⟩ := info_parts infoV
    go_enter Try.func5, Try.ntmps5
    go_wp2_with (go_at_call 24; refine (drawRowFits _ _ _ zs _ HI.out).mono ?_; rintro e wd ⟨cs, vs, gc, cc, gv, cv, rfl, hc0, hc6, hv9, htv, hfc, hfv, hbd⟩; have HB := Lib.hid hbd; have FC := Lib.hid hfc; have FV := Lib.hid hfv; have HTB := Lib.hid htv.short; clear hbd hfc hfv htv)
    have S0 := True.intro
    have C1 := Lib.hid (fun W hA hB => rowFitsI (some ⟨gc, 0, none⟩) (some ⟨gv, 0, none⟩) gc 0 gv 0 cc cv cs vs W hA hB (by omega) (by omega) HTB.out)
    have C1s := Lib.hid (fun W hA hB => rowFitsS (some ⟨gc, 0, none⟩) (some ⟨gv, 0, none⟩) gc 0 gv 0 cc cv cs vs W hA hB (by omega) (by omega) HTB.out)
    have R2 := Lib.hid (fun W hA => rowOkI (some ⟨gv, 0, none⟩) gv 0 cv vs W hA (by omega) HTB.out)
    have wl := wide_len cs
    have C2 := Lib.hid (fun W A g c hA hB => rowFitsI A (some ⟨gv, 0, none⟩) g 0 gv 0 c cv (wideL cs) vs W hA hB (by omega) (by omega) HTB.out)
    have C3 := Lib.hid (fun W A g c B g' c' hA hB => rowFitsI A B g 0 g' 0 c c' (wideL cs) (List.replicate cs.length zeroV) W hA hB (by omega) (by simp; omega) (zero_short _))
    have CC := Lib.hid (fun W hA => columnsOkI (some ⟨gc, 0, none⟩) gc 0 cc cs W hA (by omega))
    rw [zero_fit, wl, List.length_replicate] at C3
    rw [wl] at C2
    have HE := Lib.hid (fun h => wide_fit cs vs h)
    have HE2 := Lib.hid (fun h => fit_row (cs := cs) (vs := vs) h)
    obtain ⟨E, hE⟩ : ∃ E, fitB cs vs = E := ⟨_, rfl⟩
    rw [hE] at C1 C1s HE HE2
    obtain ⟨G, hG⟩ : ∃ G, colB cs = G := ⟨_, rfl⟩
    rw [hG] at C3 CC
    clear hE wl hG
    go_wp2_with (first
      | ((have _ := S0); (fail_if_success (have _ := S1)); go_at_call 25; (with_reducible refine (C1.out _ FC.out FV.out).mono ?_); rintro e wn0 ⟨rfl, hb1⟩; have HBn : Hid (Below w.heap.size w wn0) := Below.trans (by repeat (with_reducible first | exact HB.out | refine Below.alloc ?_ (by first | omega | (have := HB.out.size; omega) | (have := HB.out.size; simp; omega)) _ | apply Below.drew)) (Below.mono hb1 (by have := HB.out.size; first | omega | (simp; omega))); have K0 := Lib.hid (Fl.below (by (repeat (with_reducible first | exact FC.out | apply Fl.alloc | apply Fl.drew))) hb1); clear FC; have FC := K0; clear K0; have K0 := Lib.hid (Fl.below (by (repeat (with_reducible first | exact FV.out | apply Fl.alloc | apply Fl.drew))) hb1); clear FV; have FV := K0; clear K0; clear HB; have HB := HBn; clear HBn; clear hb1; have S1 := True.intro)
      | ((have _ := S1); (fail_if_success (have _ := S2)); go_at_call 26; (with_reducible refine (C1s.out _ FC.out FV.out).mono ?_); rintro e wn1 ⟨rfl, hb1⟩; have HBn : Hid (Below w.heap.size w wn1) := Below.trans (by repeat (with_reducible first | exact HB.out | refine Below.alloc ?_ (by first | omega | (have := HB.out.size; omega) | (have := HB.out.size; simp; omega)) _ | apply Below.drew)) (Below.mono hb1 (by have := HB.out.size; first | omega | (simp; omega))); have K0 := Lib.hid (Fl.below (by (repeat (with_reducible first | exact FC.out | apply Fl.alloc | apply Fl.drew))) hb1); clear FC; have FC := K0; clear K0; have K0 := Lib.hid (Fl.below (by (repeat (with_reducible first | exact FV.out | apply Fl.alloc | apply Fl.drew))) hb1); clear FV; have FV := K0; clear K0; clear HB; have HB := HBn; clear HBn; clear hb1; have S2 := True.intro))
    have hB0 := HB.out.size
    go_loopw [6, 7] (fun vx kx wr => ∃ k : Nat, k ≤ cs.length ∧ kx = .int .i64 k ∧ Hid (Below w.heap.size w wr) ∧ Hid (Fl wr gc 0 (some ⟨gc, 0, none⟩) (flatC cs)) ∧ Hid (Fl wr gv 0 (some ⟨gv, 0, none⟩) (flatV vs)) ∧ wn1.heap.size ≤ wr.heap.size ∧ Hid (wr.ownsRow wn1.heap.size 36 2 vx k (flatC (wideL (cs.take k))))) (fun _ kx _ => cs.length - (intOf kx).toNat)
    case atStart => exact ⟨0, Nat.zero_le _, rfl, HB.out.alloc hB0 _, FC.out.alloc _, FV.out.alloc _, by simp, own_empty3 36 2 rfl (Nat.le_refl _)⟩
    case round =>
      obtain ⟨k, hk, rfl, HW, GC, GV, hws, OWN⟩ := hrel
      have hgc : gc < wn1.heap.size := FC.out.lt (by rw [flatC_len]; omega)
      by_cases hlt : k < cs.length
      · obtain ⟨-, hg2, c0, c1⟩ := GC.out.cl k hlt
        obtain ⟨C, hC⟩ : ∃ C, cs[k]'hlt = C := ⟨_, rfl⟩
        have hsn := wide_snoc cs k hlt
        rw [hC] at c0 c1 hsn
        obtain ⟨c, b⟩ := C
        simp only [Nat.zero_add] at c0 c1 hsn
        have HSN := Lib.hid hsn
        have hgv : gv < wn1.heap.size ∨ vs.length = 0 := by
          by_cases h0 : vs.length = 0
          · exact .inr h0
          · exact .inl (FV.out.lt (by rw [flatV_len]; omega))
        have HGV := Lib.hid hgv
        clear hC hsn hgv
        have hB1 := HW.out.size
        have i0' : (0 : Int) ≤ (k : Int) := by omega
        have i1' : (k : Int) < (cs.length : Int) := by omega
        go_wp2_with (at_builtin; refine wpList_append_own _ rfl (.tmp 31) (.tmp 38) 23 rfl wn1.heap.size 36 i0 (.agg #[.int .i64 0, .bool false]) 2 16 Try.underlying23 hi iz0 iz1 iz2 rfl (by decide) u6 k (flatC (wideL (cs.take k))) rfl (OWN.out.alloc _) _ _ _ (flatC [(c, true)]) rfl rfl (news_new (by first | rfl | simp)) (ones_c _) (by unfold maxLen; omega) (by omega) (by simp; omega) ?_; intro v2 w2 hown2 hgr2 _; have OWN2 := Lib.hid hown2; have HB2 := Lib.hid (Below.grown (HW.out.alloc hB1 (.cells #[.int .i64 c, .bool true] 36)) hgr2 (by simp; omega) (fun b hb => by have := (OWN.out.lt b hb).1; omega)); have GC2 := Lib.hid ((GC.out.alloc (.cells #[.int .i64 c, .bool true] 36)).keep fun hg j => World.cell?_of_block (hgr2.block gc hg (fun e => by have := (OWN.out.lt gc e.symm).1; omega))); have GV2 := Lib.hid (show Fl w2 gv 0 (some ⟨gv, 0, none⟩) (flatV vs) from ⟨(GV.out).ad, fun j hj => (World.cell?_of_block (hgr2.block gv ((GV.out.alloc (.cells #[.int .i64 c, .bool true] 36)).lt (by omega)) (fun e => by have := (OWN.out.lt gv e.symm).1; have hjj := hj; rw [flatV_len] at hjj; have := HGV.out; omega))).trans ((GV.out.alloc (.cells #[.int .i64 c, .bool true] 36)).c j hj)⟩); have hz2 := hgr2.size; (try simp at hz2); clear hown2 hgr2)
        refine ⟨⟨k + 1, by omega, by go_num, HB2, GC2, GV2, by omega, ?_⟩, by simp [intOf]; omega⟩
        rw [HSN.out, flatC_app]
        exact OWN2.out
      · obtain rfl : k = cs.length := by omega
        have hzr : wr.heap.size ≤ wr.heap.size := Nat.le_refl _
        have hown := OWN.out
        rw [List.take_length] at hown
        obtain ⟨gw, Aw, cw, rfl, hfw, -, -, -, -⟩ := fl_of_own hown
        have FW := Lib.hid hfw
        clear HB hown hfw OWN FC FV
        have HB := HW
        clear HW
        cases E
        · clear HE HE2 C1 C1s R2 C2
          cases G
          all_goals go_wp2_with (first
            | (at_make; refine make_guarded wr (by first | rfl | (simp [Region.wanted, yielded]; done)) _ _ 28 rfl wr.heap.size 59 j0 (.agg #[.int .i64 0, .int .i64 0, .string ⟨#[]⟩]) 3 Try.underlying28 hj jz0 jz1 .i64 .i64 cs.length cs.length cs.length rfl rfl rfl rfl (by rw [jz2]; omega) (by unfold maxLen; omega) (Nat.le_refl _) ?_; intro w9 hown hgr; rw [made_zero] at hown; have FZ := Lib.hid (fl_of_some hown); have HBn := Lib.hid (Below.grown HB.out hgr HB.out.size (by intro b hb; cases hb)); have GCn := Lib.hid (GC.out.keep fun hg j => World.cell?_of_block (hgr.block gc hg (by simp))); have FWn := Lib.hid (FW.out.keep fun hg j => World.cell?_of_block (hgr.block gw hg (by simp))); clear HB GC FW; have HB := HBn; have GC := GCn; have FW := FWn; clear HBn GCn FWn hown hgr)
            | ((have _ := S2); (fail_if_success (have _ := S3)); go_at_call 25; (with_reducible refine (C3.out _ _ _ _ _ _ _ FW.out FZ.out).mono ?_); rintro e wn2 ⟨rfl, hb1⟩; have HBn : Hid (Below w.heap.size w wn2) := Below.trans (by repeat (with_reducible first | exact HB.out | refine Below.alloc ?_ (by first | omega | (have := HB.out.size; omega) | (have := HB.out.size; simp; omega)) _ | apply Below.drew)) (Below.mono hb1 (by have := HB.out.size; first | omega | (simp; omega))); have K0 := Lib.hid (Fl.below (by (repeat (with_reducible first | exact GC.out | apply Fl.alloc | apply Fl.drew))) hb1); clear GC; have GC := K0; clear K0; clear HB; have HB := HBn; clear HBn; clear hb1; have S3 := True.intro))
          all_goals (refine (CC.out _ GC.out).mono ?_)
          all_goals (rintro e w1 ⟨rfl, rfl⟩)
          all_goals go_wp2_with (go_at_call 19; (with_reducible refine (alive _).mono ?_); rintro e w2 ⟨rfl, hb2⟩; have HB2 := Lib.hid (HB.out.trans (hb2.mono HB.out.size)); clear hb2)
          all_goals (go_ret; exact ⟨retB (by first | rfl | simp), HB2.out⟩)
        · have hw1 := HE.out rfl
          obtain ⟨hw2, hw3⟩ := HE2.out rfl
          have e0 : ((vs.length : Int) == cs.length) = true := by rw [beq_iff_eq]; omega
          rw [hw1] at C2
          rw [hw2] at R2
          clear HE HE2 C1 C1s hw1 hw2 hw3
          cases G
          all_goals go_wp2_with (first
            | ((have _ := S2); (fail_if_success (have _ := S3)); go_at_call 21; (with_reducible refine (R2.out _ GV.out).mono ?_); rintro e wn2 ⟨rfl, hb1⟩; have HBn : Hid (Below w.heap.size w wn2) := Below.trans (by repeat (with_reducible first | exact HB.out | refine Below.alloc ?_ (by first | omega | (have := HB.out.size; omega) | (have := HB.out.size; simp; omega)) _ | apply Below.drew)) (Below.mono hb1 (by have := HB.out.size; first | omega | (simp; omega))); have K0 := Lib.hid (Fl.below (by (repeat (with_reducible first | exact GC.out | apply Fl.alloc | apply Fl.drew))) hb1); clear GC; have GC := K0; clear K0; have K0 := Lib.hid (Fl.below (by (repeat (with_reducible first | exact GV.out | apply Fl.alloc | apply Fl.drew))) hb1); clear GV; have GV := K0; clear K0; have K0 := Lib.hid (Fl.below (by (repeat (with_reducible first | exact FW.out | apply Fl.alloc | apply Fl.drew))) hb1); clear FW; have FW := K0; clear K0; clear HB; have HB := HBn; clear HBn; clear hb1; have S3 := True.intro)
            | ((have _ := S3); (fail_if_success (have _ := S4)); go_at_call 25; (with_reducible refine (C2.out _ _ _ _ FW.out GV.out).mono ?_); rintro e wn3 ⟨rfl, hb1⟩; have HBn : Hid (Below w.heap.size w wn3) := Below.trans (by repeat (with_reducible first | exact HB.out | refine Below.alloc ?_ (by first | omega | (have := HB.out.size; omega) | (have := HB.out.size; simp; omega)) _ | apply Below.drew)) (Below.mono hb1 (by have := HB.out.size; first | omega | (simp; omega))); have K0 := Lib.hid (Fl.below (by (repeat (with_reducible first | exact GC.out | apply Fl.alloc | apply Fl.drew))) hb1); clear GC; have GC := K0; clear K0; have K0 := Lib.hid (Fl.below (by (repeat (with_reducible first | exact FW.out | apply Fl.alloc | apply Fl.drew))) hb1); clear FW; have FW := K0; clear K0; clear HB; have HB := HBn; clear HBn; clear hb1; have S4 := True.intro)
            | (at_make; refine make_guarded wn3 (by first | rfl | (simp [Region.wanted, yielded]; done)) _ _ 28 rfl wn3.heap.size 59 j0 (.agg #[.int .i64 0, .int .i64 0, .string ⟨#[]⟩]) 3 Try.underlying28 hj jz0 jz1 .i64 .i64 cs.length cs.length cs.length rfl rfl rfl rfl (by rw [jz2]; omega) (by unfold maxLen; omega) (Nat.le_refl _) ?_; intro w9 hown hgr; rw [made_zero] at hown; have FZ := Lib.hid (fl_of_some hown); have HBn := Lib.hid (Below.grown HB.out hgr HB.out.size (by intro b hb; cases hb)); have GCn := Lib.hid (GC.out.keep fun hg j => World.cell?_of_block (hgr.block gc hg (by simp))); have FWn := Lib.hid (FW.out.keep fun hg j => World.cell?_of_block (hgr.block gw hg (by simp))); clear HB GC FW; have HB := HBn; have GC := GCn; have FW := FWn; clear HBn GCn FWn hown hgr)
            | ((have _ := S4); (fail_if_success (have _ := S5)); go_at_call 25; (with_reducible refine (C3.out _ _ _ _ _ _ _ FW.out FZ.out).mono ?_); rintro e wn4 ⟨rfl, hb1⟩; have HBn : Hid (Below w.heap.size w wn4) := Below.trans (by repeat (with_reducible first | exact HB.out | refine Below.alloc ?_ (by first | omega | (have := HB.out.size; omega) | (have := HB.out.size; simp; omega)) _ | apply Below.drew)) (Below.mono hb1 (by have := HB.out.size; first | omega | (simp; omega))); have K0 := Lib.hid (Fl.below (by (repeat (with_reducible first | exact GC.out | apply Fl.alloc | apply Fl.drew))) hb1); clear GC; have GC := K0; clear K0; clear HB; have HB := HBn; clear HBn; clear hb1; have S5 := True.intro))
          all_goals (refine (CC.out _ GC.out).mono ?_)
          all_goals (rintro e w1 ⟨rfl, rfl⟩)
          all_goals go_wp2_with (go_at_call 19; (with_reducible refine (alive _).mono ?_); rintro e w2 ⟨rfl, hb2⟩; have HB2 := Lib.hid (HB.out.trans (hb2.mono HB.out.size)); clear hb2)
          all_goals (go_ret; exact ⟨retB (by first | rfl | simp), HB2.out⟩)
end Go.Proofs.Ytlkdcijacjdneaa.Val
