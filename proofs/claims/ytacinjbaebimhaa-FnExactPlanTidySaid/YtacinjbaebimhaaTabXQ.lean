/- Copies of rows of columns, parts, numbers: rows of one's own; Tables and plans: measured, copied, compared (the exact laws' helpers); Tables and plans: compared, measured; Marks laid in columns, tables, plans. -/
import Derived.Test.YtacinjbaebimhaaTabKQ
import Derived.Test.YtacinjbaebimhaaPartSQ
namespace Go.Proofs.Ytacinjbaebimhaa.Val
open Go.RowKit
set_option linter.unusedVariables false
theorem toColumnSO (A : Option Addr) (g0 o cap : Nat) (cs : List CT) (w : World) (h : Fl w g0 o A (flatC cs)) (hl : cs.length ≤ 1048576) : Calls Try.prog 101 #[.slice A cs.length cap] w (RetFl cs.length (flatC cs) w) := by
  obtain ⟨i0, hi, hz0, hz1', hz2⟩ := info_parts infoC
  have HA := Lib.hid h
  clear h
  have hfl := flatC_len cs
  go_enter Try.func101, Try.ntmps101
  go_wp2_with (at_make; refine wpList_make_full w rfl _ _ 34 rfl w.heap.size 37 i0 (.agg #[.int .i64 0, .bool false]) 2 Try.underlying34 hi hz0 hz1' .i64 .i64 cs.length cs.length cs.length rfl rfl rfl rfl (by rw [hz2]; omega) (by unfold maxLen; omega) (Nat.le_refl _) ?_; intro w0 hown hgr)
  have HB0 : Hid (Below w.heap.size w w0) := Below.grown (Below.refl _ _) hgr (Nat.le_refl _) (by intro k hk; cases hk)
  have HC0 : Hid (Fill w0 w.heap.size (flatC cs) 0) := Fill.made hown hfl
  have hz0s := hgr.size
  have hsz0 := (hown.lt w.heap.size rfl).2
  clear hown hgr
  go_wp2
  go_loopw [4] (fun ix wr => ∃ k : Nat, k ≤ cs.length ∧ ix = .int .i64 k ∧ w.heap.size < wr.heap.size ∧ Hid (Below w.heap.size w wr) ∧ Hid (Fill wr w.heap.size (flatC cs) (k * 2))) (fun ix _ => cs.length - (intOf ix).toNat)
  case atStart => exact ⟨0, by omega, rfl, hsz0, HB0, HC0⟩
  case round =>
    obtain ⟨k, hk, rfl, hsz, HB, HF⟩ := hrel
    clear HB0 HC0 hz0s
    by_cases hlt : k < cs.length
    · obtain ⟨rfl, hg, -, -⟩ := HA.out.cl k hlt
      obtain ⟨-, hg2, c0, c1⟩ := (HA.out.below HB.out).cl k hlt
      obtain ⟨u0, u1⟩ := flatC_get cs k hlt
      obtain ⟨K, hK⟩ : ∃ K, cs[k].1 = K := ⟨_, rfl⟩
      obtain ⟨B, hB⟩ : ∃ B, cs[k].2 = B := ⟨_, rfl⟩
      rw [hK] at c0 u0
      rw [hB] at c1 u1
      have U0 := Lib.hid u0
      have U1 := Lib.hid u1
      clear hK hB u0 u1
      have i0' : (0 : Int) ≤ (k : Int) := by omega
      have i1' : (k : Int) < (cs.length : Int) := by omega
      go_wp2_with (go_at_call 130; (with_reducible refine (toColumn _ _ _).mono ?_); rintro e w1 ⟨rfl, hb1⟩; have HF1 := Lib.hid (Fill.below HF.out hb1); obtain ⟨⟨v0, hv0⟩, hf0, -⟩ := HF1.out (k * 2) (by omega); obtain ⟨⟨v1, hv1⟩, hf1, -⟩ := HF1.out (k * 2 + 1) (by omega); have HB1 := Lib.hid (HB.out.trans (hb1.mono HB.out.size)); have hsz1 : w.heap.size < w1.heap.size := Nat.lt_of_lt_of_le hsz hb1.size; clear hb1 HF HB)
      exact ⟨⟨k + 1, by omega, by go_num, (by simp [World.setCell]; exact hsz1), (HB1.out.setCell (Nat.le_refl _) _).setCell (Nat.le_refl _) _, by have := (HF1.out.set U0.out).set U1.out; rwa [show (k + 1) * 2 = k * 2 + 1 + 1 by omega]⟩, by simp [intOf]; omega⟩
    · obtain rfl : k = cs.length := by omega
      go_wp2
      go_ret
      rw [← hfl] at HF
      exact ⟨w.heap.size, cs.length, rfl, ⟨HF.out.fl, HF.out.fz, Nat.le_refl _, hsz, Nat.le_refl _, by unfold maxLen; omega⟩, HB.out⟩
set_option maxHeartbeats 1000000 in
theorem toPartSO (A : Option Addr) (g0 o cap : Nat) (ps : List PT) (w : World) (h : Fl w g0 o A (flatP ps)) (hl : ps.length ≤ 1048576) : Calls Try.prog 103 #[.slice A ps.length cap] w (RetFl ps.length (flatP ps) w) := by
  obtain ⟨i0, hi, hz0, hz1', hz2⟩ := info_parts infoP
  have HA := Lib.hid h
  clear h
  have hfl := flatP_len ps
  go_enter Try.func103, Try.ntmps103
  go_wp2_with (at_make; refine wpList_make_full w rfl _ _ 29 rfl w.heap.size 93 i0 (.agg #[.int .i64 0, .int .i64 0, .int .i64 0, .int .i64 0, .string ⟨#[]⟩]) 5 Try.underlying29 hi hz0 hz1' .i64 .i64 ps.length ps.length ps.length rfl rfl rfl rfl (by rw [hz2]; omega) (by unfold maxLen; omega) (Nat.le_refl _) ?_; intro w0 hown hgr)
  have HB0 : Hid (Below w.heap.size w w0) := Below.grown (Below.refl _ _) hgr (Nat.le_refl _) (by intro k hk; cases hk)
  have HC0 : Hid (Fill w0 w.heap.size (flatP ps) 0) := Fill.made hown hfl
  have hsz0 := (hown.lt w.heap.size rfl).2
  clear hown hgr
  go_wp2
  go_loopw [4] (fun ix wr => ∃ k : Nat, k ≤ ps.length ∧ ix = .int .i64 k ∧ w.heap.size < wr.heap.size ∧ Hid (Below w.heap.size w wr) ∧ Hid (Fill wr w.heap.size (flatP ps) (k * 5))) (fun ix _ => ps.length - (intOf ix).toNat)
  case atStart => exact ⟨0, by omega, rfl, hsz0, HB0, HC0⟩
  case round =>
    obtain ⟨k, hk, rfl, hsz, HB, HF⟩ := hrel
    clear HB0 HC0
    by_cases hlt : k < ps.length
    · obtain ⟨rfl, hg, -, -, -, -, -⟩ := HA.out.pt k hlt
      obtain ⟨-, hg2, c0, c1, c2, c3, c4⟩ := (HA.out.below HB.out).pt k hlt
      obtain ⟨u0, u1, u2, u3, u4⟩ := flatP_get ps k hlt
      obtain ⟨K, hK⟩ : ∃ K, ps[k] = K := ⟨_, rfl⟩
      rw [hK] at c0 c1 c2 c3 c4 u0 u1 u2 u3 u4
      obtain ⟨x, n, vx, vn, s⟩ := K
      simp only at c0 c1 c2 c3 c4 u0 u1 u2 u3 u4
      have U0 := Lib.hid u0
      have U1 := Lib.hid u1
      have U2 := Lib.hid u2
      have U3 := Lib.hid u3
      have U4 := Lib.hid u4
      clear hK u0 u1 u2 u3 u4
      have i0' : (0 : Int) ≤ (k : Int) := by omega
      have i1' : (k : Int) < (ps.length : Int) := by omega
      go_wp2_with (go_at_call 132; (with_reducible refine (toPart _ _ _ _ _ _).mono ?_); rintro e w1 ⟨rfl, hb1⟩; have HF1 := Lib.hid (Fill.below HF.out hb1); obtain ⟨⟨v0, hv0⟩, hf0, -⟩ := HF1.out (k * 5) (by omega); obtain ⟨⟨v1, hv1⟩, hf1, -⟩ := HF1.out (k * 5 + 1) (by omega); obtain ⟨⟨v2, hv2⟩, hf2, -⟩ := HF1.out (k * 5 + 2) (by omega); obtain ⟨⟨v3, hv3⟩, hf3, -⟩ := HF1.out (k * 5 + 3) (by omega); obtain ⟨⟨v4, hv4⟩, hf4, -⟩ := HF1.out (k * 5 + 4) (by omega); have HB1 := Lib.hid (HB.out.trans (hb1.mono HB.out.size)); have hsz1 : w.heap.size < w1.heap.size := Nat.lt_of_lt_of_le hsz hb1.size; clear hb1 HF HB)
      exact ⟨⟨k + 1, by omega, by go_num, (by simp [World.setCell]; exact hsz1), ((((HB1.out.setCell (Nat.le_refl _) _).setCell (Nat.le_refl _) _).setCell (Nat.le_refl _) _).setCell (Nat.le_refl _) _).setCell (Nat.le_refl _) _, by have := ((((HF1.out.set U0.out).set U1.out).set U2.out).set U3.out).set U4.out; rwa [show (k + 1) * 5 = k * 5 + 1 + 1 + 1 + 1 + 1 by omega]⟩, by simp [intOf]; omega⟩
    · obtain rfl : k = ps.length := by omega
      go_wp2
      go_ret
      rw [← hfl] at HF
      exact ⟨w.heap.size, ps.length, rfl, ⟨HF.out.fl, HF.out.fz, Nat.le_refl _, hsz, Nat.le_refl _, by unfold maxLen; omega⟩, HB.out⟩
theorem toIntSO (A : Option Addr) (g0 o cap : Nat) (l : List Int) (w : World) (h : Fl w g0 o A (l.map iv)) (hl : l.length ≤ 1048576) : Calls Try.prog 104 #[.slice A l.length cap] w (RetFl l.length (l.map iv) w) := by
  obtain ⟨i0, hi, hz0, hz1', hz2⟩ := info_parts infoN
  have HA := Lib.hid h
  clear h
  have hfl : (l.map iv).length = l.length := List.length_map _
  have hfl1 : (l.map iv).length = l.length * 1 := by omega
  go_enter Try.func104, Try.ntmps104
  go_wp2_with (at_make; refine wpList_make_full w rfl _ _ 30 rfl w.heap.size 3 i0 (.int .i64 0) 1 Try.underlying30 hi hz0 hz1' .i64 .i64 l.length l.length l.length rfl rfl rfl rfl (by rw [hz2]; omega) (by unfold maxLen; omega) (Nat.le_refl _) ?_; intro w0 hown hgr)
  have HB0 : Hid (Below w.heap.size w w0) := Below.grown (Below.refl _ _) hgr (Nat.le_refl _) (by intro k hk; cases hk)
  have HC0 : Hid (Fill w0 w.heap.size (l.map iv) 0) := Fill.made hown hfl1
  have hsz0 := (hown.lt w.heap.size rfl).2
  clear hown hgr
  go_wp2
  go_loopw [4] (fun ix wr => ∃ k : Nat, k ≤ l.length ∧ ix = .int .i64 k ∧ w.heap.size < wr.heap.size ∧ Hid (Below w.heap.size w wr) ∧ Hid (Fill wr w.heap.size (l.map iv) k)) (fun ix _ => l.length - (intOf ix).toNat)
  case atStart => exact ⟨0, by omega, rfl, hsz0, HB0, HC0⟩
  case round =>
    obtain ⟨k, hk, rfl, hsz, HB, HF⟩ := hrel
    clear HB0 HC0
    by_cases hlt : k < l.length
    · obtain ⟨rfl, hg, -⟩ := HA.out.n k hlt
      obtain ⟨-, hg2, c0⟩ := (HA.out.below HB.out).n k hlt
      have u0 : (l.map iv)[k]? = some (.int .i64 l[k]) := by rw [List.getElem?_map, List.getElem?_eq_getElem hlt]; rfl
      obtain ⟨K, hK⟩ : ∃ K, l[k] = K := ⟨_, rfl⟩
      rw [hK] at c0 u0
      have U0 := Lib.hid u0
      obtain ⟨⟨v0, hv0⟩, hf0, -⟩ := HF.out k (by omega)
      clear hK u0
      have i0' : (0 : Int) ≤ (k : Int) := by omega
      have i1' : (k : Int) < (l.length : Int) := by omega
      go_wp2
      exact ⟨⟨k + 1, by omega, by go_num, (by simp [World.setCell]; exact hsz), HB.out.setCell (Nat.le_refl _) _, HF.out.set U0.out⟩, by simp [intOf]; omega⟩
    · obtain rfl : k = l.length := by omega
      go_wp2
      go_ret
      rw [← hfl] at HF
      exact ⟨w.heap.size, l.length, rfl, ⟨HF.out.fl, HF.out.fz, Nat.le_refl _, hsz, Nat.le_refl _, by unfold maxLen; omega⟩, HB.out⟩
end Go.Proofs.Ytacinjbaebimhaa.Val
namespace Go.Proofs.Ytacinjbaebimhaa.Val
open Go.RowKit
set_option linter.unusedVariables false
set_option maxRecDepth 8000
/-- A table of an argument. -/
def TabAtA (w : World) (g p : Nat) (t : TB) : Prop := ∃ (A1 : Option Addr) (c1 g1 o1 : Nat) (A2 : Option Addr) (c2 g2 o2 : Nat),
  w.cell? ⟨g, p, none⟩ = some (.slice A1 t.1.length c1) ∧ w.cell? ⟨g, p + 1, none⟩ = some (.slice A2 t.2.length c2) ∧ Fl w g1 o1 A1 (flatC t.1) ∧ RwsA w g2 o2 A2 t.2
structure TbsA (w : World) (g o : Nat) (A : Option Addr) (ts : List TB) : Prop where
  ad : 0 < ts.length → A = some ⟨g, o, none⟩
  hd : ∀ j (h : j < ts.length), TabAtA w g (o + j * 2) ts[j]
theorem TbsA.below {w w' : World} {g o : Nat} {A : Option Addr} {ts : List TB} (h : TbsA w g o A ts) (hb : Below w.heap.size w w') : TbsA w' g o A ts := by
  refine ⟨h.ad, fun j hj => ?_⟩
  obtain ⟨A1, c1, g1, o1, A2, c2, g2, o2, h1, h2, h3, h4⟩ := h.hd j hj
  have hg := World.block_lt_of_cell? w ⟨g, o + j * 2, none⟩ h1
  exact ⟨A1, c1, g1, o1, A2, c2, g2, o2, (hb.cell (p := ⟨g, o + j * 2, none⟩) hg).trans h1, (hb.cell (p := ⟨g, o + j * 2 + 1, none⟩) hg).trans h2, h3.below hb, h4.below hb⟩
theorem TbsA.at {w : World} {g o : Nat} {A : Option Addr} {ts : List TB} (h : TbsA w g o A ts) (j : Nat) (hj : j < ts.length) : A = some ⟨g, o, none⟩ ∧ g < w.heap.size ∧ ∃ (A1 : Option Addr) (c1 g1 o1 : Nat) (A2 : Option Addr) (c2 g2 o2 : Nat),
    w.cell? ⟨g, o + j * 2, none⟩ = some (.slice A1 ts[j].1.length c1) ∧ w.cell? ⟨g, o + j * 2 + 1, none⟩ = some (.slice A2 ts[j].2.length c2) ∧ Fl w g1 o1 A1 (flatC ts[j].1) ∧ RwsA w g2 o2 A2 ts[j].2 := by
  obtain ⟨A1, c1, g1, o1, A2, c2, g2, o2, h1, h2⟩ := h.hd j hj
  exact ⟨h.ad (by omega), World.block_lt_of_cell? w ⟨g, o + j * 2, none⟩ h1, A1, c1, g1, o1, A2, c2, g2, o2, h1, h2⟩
/-- A step of an argument. -/
def StepAtA (w : World) (g p : Nat) (s : SP) : Prop := ∃ (A1 : Option Addr) (c1 g1 o1 : Nat) (A2 : Option Addr) (c2 g2 o2 : Nat),
  w.cell? ⟨g, p, none⟩ = some (.int .i64 s.1) ∧ w.cell? ⟨g, p + 1, none⟩ = some (.int .i64 s.2.1) ∧ w.cell? ⟨g, p + 2, none⟩ = some (.int .i64 s.2.2.1) ∧ w.cell? ⟨g, p + 3, none⟩ = some (.int .i64 s.2.2.2.1) ∧
  w.cell? ⟨g, p + 4, none⟩ = some (.slice A1 s.2.2.2.2.1.length c1) ∧ w.cell? ⟨g, p + 5, none⟩ = some (.slice A2 s.2.2.2.2.2.length c2) ∧ Fl w g1 o1 A1 (flatP s.2.2.2.2.1) ∧ Fl w g2 o2 A2 (s.2.2.2.2.2.map iv)
theorem StepAtA.below {w w' : World} {g p : Nat} {s : SP} (h : StepAtA w g p s) (hb : Below w.heap.size w w') : StepAtA w' g p s := by
  obtain ⟨A1, c1, g1, o1, A2, c2, g2, o2, h0, h1, h2, h3, h4, h5, h6, h7⟩ := h
  have hg := World.block_lt_of_cell? w ⟨g, p, none⟩ h0
  have hc := fun q => hb.cell (p := ⟨g, q, none⟩) hg
  exact ⟨A1, c1, g1, o1, A2, c2, g2, o2, (hc _).trans h0, (hc _).trans h1, (hc _).trans h2, (hc _).trans h3, (hc _).trans h4, (hc _).trans h5, h6.below hb, h7.below hb⟩
structure SpsA (w : World) (g o : Nat) (A : Option Addr) (ps : List SP) : Prop where
  ad : 0 < ps.length → A = some ⟨g, o, none⟩
  hd : ∀ j (h : j < ps.length), StepAtA w g (o + j * 6) ps[j]
theorem SpsA.below {w w' : World} {g o : Nat} {A : Option Addr} {ps : List SP} (h : SpsA w g o A ps) (hb : Below w.heap.size w w') : SpsA w' g o A ps := ⟨h.ad, fun j hj => (h.hd j hj).below hb⟩
theorem SpsA.at {w : World} {g o : Nat} {A : Option Addr} {ps : List SP} (h : SpsA w g o A ps) (j : Nat) (hj : j < ps.length) : A = some ⟨g, o, none⟩ ∧ g < w.heap.size ∧ StepAtA w g (o + j * 6) ps[j] := by
  have hs := h.hd j hj
  have hs2 := hs
  obtain ⟨A1, c1, g1, o1, A2, c2, g2, o2, h0, -⟩ := hs
  exact ⟨h.ad (by omega), World.block_lt_of_cell? w ⟨g, o + j * 6, none⟩ h0, hs2⟩
theorem FlO.set {w : World} {B g c n : Nat} {xs : List Value} (h : FlO w B g c n xs) {b : Nat} (hb : g ≠ b) (j : Nat) (v : Value) : FlO (w.setCell ⟨b, j, none⟩ v) B g c n xs := h.keep (by simp [World.setCell]) (Below.heap_setCell _ _ _ _ hb)
theorem hsetNe {w : World} {b j k : Nat} {v : Value} (h : k ≠ b) : (w.setCell ⟨b, j, none⟩ v).heap[k]? = w.heap[k]? := Below.heap_setCell _ _ _ _ h
theorem Bag.setFar {w : World} {B g cap : Nat} {T : List TT} {ls : List RT} (h : Bag w B g cap T ls) {b : Nat} (hb : b < B) (j : Nat) (v : Value) : Bag (w.setCell ⟨b, j, none⟩ v) B g cap T ls :=
  h.keep (by simp [World.setCell]) (hsetNe (by have := h.lo.1; omega)) fun t ht => hsetNe (by have := (h.rows t ht).lo; omega)
theorem TabO.setFar {w : World} {B : Nat} {u : UT} (h : TabO w B u) {b : Nat} (hb : b < B) (j : Nat) (v : Value) : TabO (w.setCell ⟨b, j, none⟩ v) B u :=
  h.keep (by simp [World.setCell]) fun k hk => hsetNe (by have := (h.hi k hk).1; omega)
theorem toTable (A1 A2 : Option Addr) (g1 o1 c1 g2 o2 c2 : Nat) (cs : List CT) (ls : List RT) (w : World) (h1 : Fl w g1 o1 A1 (flatC cs)) (h2 : RwsA w g2 o2 A2 ls) (hl1 : cs.length ≤ 1048576) (hl2 : ls.length ≤ 1048576) (ht : total ls ≤ 1048576) :
    Calls Try.prog 66 #[.agg #[.slice A1 cs.length c1, .slice A2 ls.length c2]] w fun e w' => ∃ u : UT, (e = .returned (.agg #[hdC u, hdR u]) ∧ tbOf u = (cs, ls) ∧ TabO w' w.heap.size u ∧ (blkU u).Nodup) ∧ Below w.heap.size w w' := by
  have H1 := Lib.hid h1
  have H2 := Lib.hid h2
  have C1 := Lib.hid (fun W hW => toColumnSO A1 g1 o1 c1 cs W hW hl1)
  have C2 := Lib.hid (fun W hW => toValueSS A2 g2 o2 c2 ls W hW hl2 ht)
  unfold RetFl at C1
  unfold RetBag at C2
  clear h1 h2 ht
  go_enter Try.func66, Try.ntmps66
  go_wp2_with (first
    | ((go_at_call 101; ((with_reducible refine (C1.out _ (by first | exact (((H1.out.alloc _).alloc _).alloc _) | exact H1.out)).mono ?_); (try (have hc10 := hc9; have hf10 := hf9; have hz10 := hz9; have hb10 := hb9; have hya_10 := hya_9; have hyb_10 := hyb_9; have hyc_10 := hyc_9; clear hc9 hf9 hz9 hb9 hya_9 hyb_9 hyc_9)); (try (have hc9 := hc8; have hf9 := hf8; have hz9 := hz8; have hb9 := hb8; have hya_9 := hya_8; have hyb_9 := hyb_8; have hyc_9 := hyc_8; clear hc8 hf8 hz8 hb8 hya_8 hyb_8 hyc_8)); (try (have hc8 := hc7; have hf8 := hf7; have hz8 := hz7; have hb8 := hb7; have hya_8 := hya_7; have hyb_8 := hyb_7; have hyc_8 := hyc_7; clear hc7 hf7 hz7 hb7 hya_7 hyb_7 hyc_7)); (try (have hc7 := hc6; have hf7 := hf6; have hz7 := hz6; have hb7 := hb6; have hya_7 := hya_6; have hyb_7 := hyb_6; have hyc_7 := hyc_6; clear hc6 hf6 hz6 hb6 hya_6 hyb_6 hyc_6)); (try (have hc6 := hc5; have hf6 := hf5; have hz6 := hz5; have hb6 := hb5; have hya_6 := hya_5; have hyb_6 := hyb_5; have hyc_6 := hyc_5; clear hc5 hf5 hz5 hb5 hya_5 hyb_5 hyc_5)); (try (have hc5 := hc4; have hf5 := hf4; have hz5 := hz4; have hb5 := hb4; have hya_5 := hya_4; have hyb_5 := hyb_4; have hyc_5 := hyc_4; clear hc4 hf4 hz4 hb4 hya_4 hyb_4 hyc_4)); (try (have hc4 := hc3; have hf4 := hf3; have hz4 := hz3; have hb4 := hb3; have hya_4 := hya_3; have hyb_4 := hyb_3; have hyc_4 := hyc_3; clear hc3 hf3 hz3 hb3 hya_3 hyb_3 hyc_3)); (try (have hc3 := hc2; have hf3 := hf2; have hz3 := hz2; have hb3 := hb2; have hya_3 := hya_2; have hyb_3 := hyb_2; have hyc_3 := hyc_2; clear hc2 hf2 hz2 hb2 hya_2 hyb_2 hyc_2)); (try (have hc2 := hc1; have hf2 := hf1; have hz2 := hz1; have hb2 := hb1; have hya_2 := hya_1; have hyb_2 := hyb_1; have hyc_2 := hyc_1; clear hc1 hf1 hz1 hb1 hya_1 hyb_1 hyc_1)); rintro e w1 ⟨gc, cc, rfl, hcf, hb1⟩; obtain ⟨hc1, hf1⟩ := bcell hb1; (try simp only [World.size_drew, World.cell?_drew, World.frozen?_drew] at hc1 hf1); have hz1 := hb1.size; (try simp at hz1); have hya_1 : w.heap.size < w1.heap.size := (by omega); have hyb_1 : w.heap.size + 1 < w1.heap.size := (by omega); have hyc_1 : w.heap.size + 1 + 1 < w1.heap.size := (by omega); have FC := Lib.hid (hcf.lower (B' := w.heap.size + 3) (by simp)); have HB1 : Hid (Below w.heap.size w w1) := ((((Below.refl _ _).alloc (Nat.le_refl _) _).alloc (by simp) _).alloc (by simp; omega) _).trans (hb1.mono (by simp; omega)); clear hcf)))
    | ((go_at_call 102; ((with_reducible refine (C2.out _ (H2.out.below (HB1.out.setCell (by first | omega | (simp; done) | (simp; omega)) _))).mono ?_); (try (have hc10 := hc9; have hf10 := hf9; have hz10 := hz9; have hb10 := hb9; have hya_10 := hya_9; have hyb_10 := hyb_9; have hyc_10 := hyc_9; clear hc9 hf9 hz9 hb9 hya_9 hyb_9 hyc_9)); (try (have hc9 := hc8; have hf9 := hf8; have hz9 := hz8; have hb9 := hb8; have hya_9 := hya_8; have hyb_9 := hyb_8; have hyc_9 := hyc_8; clear hc8 hf8 hz8 hb8 hya_8 hyb_8 hyc_8)); (try (have hc8 := hc7; have hf8 := hf7; have hz8 := hz7; have hb8 := hb7; have hya_8 := hya_7; have hyb_8 := hyb_7; have hyc_8 := hyc_7; clear hc7 hf7 hz7 hb7 hya_7 hyb_7 hyc_7)); (try (have hc7 := hc6; have hf7 := hf6; have hz7 := hz6; have hb7 := hb6; have hya_7 := hya_6; have hyb_7 := hyb_6; have hyc_7 := hyc_6; clear hc6 hf6 hz6 hb6 hya_6 hyb_6 hyc_6)); (try (have hc6 := hc5; have hf6 := hf5; have hz6 := hz5; have hb6 := hb5; have hya_6 := hya_5; have hyb_6 := hyb_5; have hyc_6 := hyc_5; clear hc5 hf5 hz5 hb5 hya_5 hyb_5 hyc_5)); (try (have hc5 := hc4; have hf5 := hf4; have hz5 := hz4; have hb5 := hb4; have hya_5 := hya_4; have hyb_5 := hyb_4; have hyc_5 := hyc_4; clear hc4 hf4 hz4 hb4 hya_4 hyb_4 hyc_4)); (try (have hc4 := hc3; have hf4 := hf3; have hz4 := hz3; have hb4 := hb3; have hya_4 := hya_3; have hyb_4 := hyb_3; have hyc_4 := hyc_3; clear hc3 hf3 hz3 hb3 hya_3 hyb_3 hyc_3)); (try (have hc3 := hc2; have hf3 := hf2; have hz3 := hz2; have hb3 := hb2; have hya_3 := hya_2; have hyb_3 := hyb_2; have hyc_3 := hyc_2; clear hc2 hf2 hz2 hb2 hya_2 hyb_2 hyc_2)); (try (have hc2 := hc1; have hf2 := hf1; have hz2 := hz1; have hb2 := hb1; have hya_2 := hya_1; have hyb_2 := hyb_1; have hyc_2 := hyc_1; clear hc1 hf1 hz1 hb1 hya_1 hyb_1 hyc_1)); rintro e w1 ⟨gr, cr, T, rfl, hbag, hb1⟩; obtain ⟨hc1, hf1⟩ := bcell hb1; (try simp only [World.size_drew, World.cell?_drew, World.frozen?_drew] at hc1 hf1); have hz1 := hb1.size; (try simp at hz1); have hya_1 : w.heap.size < w1.heap.size := (by omega); have hyb_1 : w.heap.size + 1 < w1.heap.size := (by omega); have hyc_1 : w.heap.size + 1 + 1 < w1.heap.size := (by omega); have FC2 := Lib.hid ((FC.out.set (b := w.heap.size + 1 + 1) (by have := FC.out.lo; omega) 0 (.slice (some ⟨gc, 0, none⟩) cs.length cc)).below hb1); have HB2 := Lib.hid ((HB1.out.setCell (p := ⟨w.heap.size + 1 + 1, 0, none⟩) (by show w.heap.size ≤ w.heap.size + 1 + 1; omega) (.slice (some ⟨gc, 0, none⟩) cs.length cc)).trans (hb1.mono (by have := HB1.out.size; simp [World.setCell]; omega))); have hgc := FC.out.hi; have BG := Lib.hid (hbag.lower (B' := w.heap.size + 3) (by simp [World.setCell]; omega)); have BN := Lib.hid (hbag.lower (B' := gc + 1) (by simp [World.setCell]; omega))))))
  obtain ⟨Wx, hWx⟩ : ∃ W, ((w1.setCell ⟨w.heap.size + 1 + 1, 1, none⟩ (.slice (some ⟨gr, 0, none⟩) ls.length cr)).setCell ⟨w.heap.size + 1, 0, none⟩ (.slice (some ⟨gc, 0, none⟩) cs.length cc)).setCell ⟨w.heap.size + 1, 1, none⟩ (.slice (some ⟨gr, 0, none⟩) ls.length cr) = W := ⟨_, rfl⟩
  have x0 : Wx.cell? ⟨w.heap.size + 1, 0, none⟩ = some (.slice (some ⟨gc, 0, none⟩) cs.length cc) := by subst hWx; simp [go_sem, *]
  have x1 : Wx.cell? ⟨w.heap.size + 1, 1, none⟩ = some (.slice (some ⟨gr, 0, none⟩) ls.length cr) := by subst hWx; simp [go_sem, *]
  have FC3 := Lib.hid (((FC2.out.set (b := w.heap.size + 1 + 1) (by have := FC2.out.lo; omega) 1 (.slice (some ⟨gr, 0, none⟩) ls.length cr)).set (b := w.heap.size + 1) (by have := FC2.out.lo; omega) 0 (.slice (some ⟨gc, 0, none⟩) cs.length cc)).set (b := w.heap.size + 1) (by have := FC2.out.lo; omega) 1 (.slice (some ⟨gr, 0, none⟩) ls.length cr))
  have BG3 := Lib.hid (((BG.out.setFar (b := w.heap.size + 1 + 1) (by omega) 1 (.slice (some ⟨gr, 0, none⟩) ls.length cr)).setFar (b := w.heap.size + 1) (by omega) 0 (.slice (some ⟨gc, 0, none⟩) cs.length cc)).setFar (b := w.heap.size + 1) (by omega) 1 (.slice (some ⟨gr, 0, none⟩) ls.length cr))
  have HB3 := Lib.hid (((HB2.out.setCell (p := ⟨w.heap.size + 1 + 1, 1, none⟩) (by show w.heap.size ≤ w.heap.size + 1 + 1; omega) (.slice (some ⟨gr, 0, none⟩) ls.length cr)).setCell (p := ⟨w.heap.size + 1, 0, none⟩) (by show w.heap.size ≤ w.heap.size + 1; omega) (.slice (some ⟨gc, 0, none⟩) cs.length cc)).setCell (p := ⟨w.heap.size + 1, 1, none⟩) (by show w.heap.size ≤ w.heap.size + 1; omega) (.slice (some ⟨gr, 0, none⟩) ls.length cr))
  rw [hWx] at FC3 BG3 HB3
  have hTl := BG.out.len
  have heq := BG.out.eq
  have hlo := BN.out
  refine bodyPost_ret (v := .agg #[.slice (some ⟨gc, 0, none⟩) cs.length cc, .slice (some ⟨gr, 0, none⟩) ls.length cr]) (by rw [hWx]; simp [results, Try.results66, go_sem, x0, x1]) rfl ?_
  rw [hWx]
  refine ⟨((gc, cc, cs), (gr, cr, T)), ⟨?_, ?_, ⟨FC3.out.lower (by omega), ?_⟩, ?_⟩, HB3.out⟩
  · simp only [hdC, hdR, hdF, hTl]
  · simp only [tbOf, rowsU, heq]
  · simp only [rowsU, heq]; exact BG3.out.lower (by omega)
  · simp only [blkU, List.nodup_cons, List.mem_cons, List.mem_map]
    refine ⟨?_, ?_, BN.out.nd⟩
    · rintro (e | ⟨t, ht, e⟩)
      · have := hlo.lo.1; omega
      · have := (hlo.rows t ht).lo; omega
    · rintro ⟨t, ht, e⟩
      exact hlo.ng t ht e
theorem infoT : (Try.prog.info? 45).map (fun i => (i.zero, i.size, i.bytes)) = some (some (.agg #[.slice none 0 0, .slice none 0 0]), 2, 48) := by kernel_rfl
theorem infoS : (Try.prog.info? 32).map (fun i => (i.zero, i.size, i.bytes)) = some (some (.agg #[.int .i64 0, .int .i64 0, .int .i64 0, .int .i64 0, .slice none 0 0, .slice none 0 0]), 6, 80) := by kernel_rfl
theorem flat_snoc {α β : Type} (f : α → List β) (U : List α) (u : α) : (U ++ [u]).flatMap f = U.flatMap f ++ f u := by simp
def Fit3 (ts : List TB) : Prop := ∀ t ∈ ts, t.1.length ≤ 1048576 ∧ t.2.length ≤ 1048576 ∧ total t.2 ≤ 1048576
theorem toTableS (A : Option Addr) (g0 o cap : Nat) (ts : List TB) (w : World) (h : TbsA w g0 o A ts) (hl : ts.length ≤ 1048576) (hf : Fit3 ts) : Calls Try.prog 36 #[.slice A ts.length cap] w (RetTab ts w) := by
  obtain ⟨i0, hi, hz0, hz1', hz2⟩ := info_parts infoT
  have HA := Lib.hid h
  have HT := Lib.hid hf
  clear h hf
  go_enter Try.func36, Try.ntmps36
  go_wp2_with (at_make; refine wpList_make_full w rfl _ _ 23 rfl w.heap.size 45 i0 (.agg #[.slice none 0 0, .slice none 0 0]) 2 Try.underlying23 hi hz0 hz1' .i64 .i64 ts.length ts.length ts.length rfl rfl rfl rfl (by rw [hz2]; omega) (by unfold maxLen; omega) (Nat.le_refl _) ?_; intro w0 hown hgr)
  have HB0 : Hid (Below w.heap.size w w0) := Below.grown (Below.refl _ _) hgr (Nat.le_refl _) (by intro k hk; cases hk)
  obtain ⟨zs, hzs⟩ : ∃ zs, w0.ownsRow w.heap.size 45 2 (.slice (some ⟨w.heap.size, 0, none⟩) ts.length ts.length) ts.length zs := ⟨_, hown⟩
  have HO0 := Lib.hid hzs
  have hzl : zs.length = ts.length * 2 := hzs.1
  have HZL := Lib.hid hzl
  have hsz0 := (hown.lt w.heap.size rfl).2
  clear hown hgr hzs hzl
  go_wp2
  go_loopw [4] (fun ix wr => ∃ (k : Nat) (U : List UT), k ≤ ts.length ∧ ix = .int .i64 k ∧ Hid (U.length = k) ∧ Hid (U.map tbOf = ts.take k) ∧ Hid (wr.ownsRow w.heap.size 45 2 (.slice (some ⟨w.heap.size, 0, none⟩) ts.length ts.length) ts.length (U.flatMap hdT ++ zs.drop (k * 2))) ∧ Hid (∀ u ∈ U, TabO wr (w.heap.size + 1) u) ∧ Hid ((U.flatMap blkU).Nodup) ∧ w.heap.size < wr.heap.size ∧ Hid (Below w.heap.size w wr)) (fun ix _ => ts.length - (intOf ix).toNat)
  case atStart => exact ⟨0, [], by omega, rfl, rfl, rfl, by show World.ownsRow _ _ _ _ _ _ _; simpa using HO0.out, fun t ht => absurd ht (by simp), List.nodup_nil, hsz0, HB0⟩
  case round =>
    obtain ⟨k, U, hk, rfl, HUL, HE, HO, HR, HN, hsz, HB⟩ := hrel
    clear HB0 HO0
    by_cases hlt : k < ts.length
    · obtain ⟨rfl, hg, A1, c1, g1, o1, A2, c2, g2, o2, hc0, hc1, hf1, hf2⟩ := (HA.out.below HB.out).at k hlt
      have HF1 := Lib.hid hf1
      have HF2 := Lib.hid hf2
      obtain ⟨l1, l2, l3⟩ := HT.out _ (List.getElem_mem hlt)
      have HS := Lib.hid (List.take_succ_eq_append_getElem hlt)
      obtain ⟨K, hK⟩ : ∃ K, ts[k] = K := ⟨_, rfl⟩
      rw [hK] at hc0 hc1 HF1 HF2 l1 l2 l3 HS
      clear hK hf1 hf2
      obtain ⟨cs, ls⟩ := K
      simp only at hc0 hc1 HF1 HF2 l1 l2 l3
      have C := Lib.hid (fun W hW hW2 => toTable A1 A2 g1 o1 c1 g2 o2 c2 cs ls W hW hW2 l1 l2 l3)
      obtain ⟨kl, hkl⟩ : ∃ n, cs.length = n := ⟨_, rfl⟩
      obtain ⟨kr, hkr⟩ : ∃ n, ls.length = n := ⟨_, rfl⟩
      rw [hkl] at hc0 C
      rw [hkr] at hc1 C
      clear hkl hkr l1 l2 l3
      have i0' : (0 : Int) ≤ (k : Int) := by omega
      have i1' : (k : Int) < (ts.length : Int) := by omega
      go_wp2_with (go_at_call 66; (with_reducible refine (C.out _ HF1.out HF2.out).mono ?_); rintro e w1 ⟨⟨⟨gc, cc, us⟩, gr, cr, T⟩, ⟨he, hu1, hu2, hu3⟩, hb1⟩; (obtain rfl : e = .returned (.agg #[.slice (some ⟨gc, 0, none⟩) us.length cc, .slice (some ⟨gr, 0, none⟩) T.length cr]) := he); have HU1 := Lib.hid hu1; have HU2 := Lib.hid hu2; have HU3 := Lib.hid hu3; have HBB := Lib.hid hb1; have HO1 := Lib.hid (own_keep HO.out (hb1.block _ hsz)); obtain ⟨v0, hv0⟩ : ∃ v, w1.cell? ⟨w.heap.size, k * 2, none⟩ = some v := (by rw [HO1.out.cellAt (k * 2) (by omega), List.getElem?_eq_getElem (by rw [HO1.out.1]; omega)]; exact ⟨_, rfl⟩); have hf0 := HO1.out.frozenAt (k * 2); obtain ⟨v1, hv1⟩ : ∃ v, w1.cell? ⟨w.heap.size, k * 2 + 1, none⟩ = some v := (by rw [HO1.out.cellAt (k * 2 + 1) (by omega), List.getElem?_eq_getElem (by rw [HO1.out.1]; omega)]; exact ⟨_, rfl⟩); have hf1 := HO1.out.frozenAt (k * 2 + 1); have HB1 := Lib.hid (HB.out.trans (hb1.mono HB.out.size)); have hsz1 : w.heap.size < w1.heap.size := Nat.lt_of_lt_of_le hsz hb1.size; clear hb1 hu1 hu2 hu3)
      have hst := HO1.out.stored (k * 2) (hdC ((gc, cc, us), gr, cr, T))
      have hst2 := hst.1.stored (k * 2 + 1) (hdR ((gc, cc, us), gr, cr, T))
      have hn2 : ∀ b ∈ blkU ((gc, cc, us), gr, cr, T), b ≠ w.heap.size := fun b hb => by have := (HU2.out.hi b hb).1; omega
      have hkeep : ∀ b, b ≠ w.heap.size → ((w1.setCell ⟨w.heap.size, k * 2, none⟩ (hdC ((gc, cc, us), gr, cr, T))).setCell ⟨w.heap.size, k * 2 + 1, none⟩ (hdR ((gc, cc, us), gr, cr, T))).heap[b]? = w1.heap[b]? := fun b hb => (hsetNe hb).trans (hsetNe hb)
      refine ⟨⟨k + 1, U ++ [((gc, cc, us), gr, cr, T)], by omega, by go_num, by show _ = _; rw [List.length_append, HUL.out]; rfl, ?_, ?_, ?_, ?_, by simp [World.setCell]; exact hsz1, (HB1.out.setCell (Nat.le_refl _) _).setCell (Nat.le_refl _) _⟩, by simp [intOf]; omega⟩
      · show _ = _
        rw [List.map_append, HE.out, HS.out, ← HU1.out]; rfl
      · show World.ownsRow _ _ _ _ _ _ _
        have h3 := hst2.1
        have hul : (U.flatMap hdT).length = k * 2 := by rw [flatU_len, HUL.out]
        rw [setX _ _ _ _ hul (by have := HZL.out; omega), setX _ _ _ (k * 2 + 1) (by rw [List.length_append, hul]; rfl) (by have := HZL.out; omega)] at h3
        rw [flat_snoc, show (k + 1) * 2 = k * 2 + 1 + 1 by omega, show U.flatMap hdT ++ hdT ((gc, cc, us), gr, cr, T) = U.flatMap hdT ++ [hdC ((gc, cc, us), gr, cr, T)] ++ [hdR ((gc, cc, us), gr, cr, T)] by simp [hdT]]
        exact h3
      · intro t ht
        rcases List.mem_append.1 ht with ht | ht
        · have h4 := (HR.out t ht).below HBB.out
          exact h4.keep (by simp [World.setCell]) fun b hb => hkeep b (by have := (h4.hi b hb).1; omega)
        · obtain rfl := List.mem_singleton.1 ht
          exact (HU2.out.lower (by omega)).keep (by simp [World.setCell]) fun b hb => hkeep b (hn2 b hb)
      · show List.Nodup _
        rw [flat_snoc, List.nodup_append]
        refine ⟨HN.out, HU3.out, fun a ha b hb e => ?_⟩
        obtain ⟨v, hv, ha⟩ := List.mem_flatMap.1 ha
        have h1 := ((HR.out v hv).hi a ha).2
        have h2 := (HU2.out.hi b hb).1
        omega
    · obtain rfl : k = ts.length := by omega
      go_wp2
      go_ret
      refine ⟨w.heap.size, ts.length, U, rfl, ⟨by have := HE.out; rwa [List.take_length] at this, ?_, fun t ht => (HR.out t ht).lower (by omega), HN.out, fun t ht e => by have := ((HR.out t ht).hi _ e).1; omega⟩, HB.out⟩
      have h5 := HO.out
      rwa [List.drop_eq_nil_of_le (by have := HZL.out; omega), List.append_nil] at h5
set_option maxHeartbeats 1000000 in
theorem toStep (s1 s2 s3 s4 : Int) (A1 A2 : Option Addr) (g1 o1 c1 g2 o2 c2 : Nat) (es : List PT) (ns : List Int) (w : World) (h1 : Fl w g1 o1 A1 (flatP es)) (h2 : Fl w g2 o2 A2 (ns.map iv)) (hl1 : es.length ≤ 1048576) (hl2 : ns.length ≤ 1048576) :
    Calls Try.prog 67 #[.agg #[.int .i64 s1, .int .i64 s2, .int .i64 s3, .int .i64 s4, .slice A1 es.length c1, .slice A2 ns.length c2]] w fun e w' => ∃ u : UP, (e = .returned (.agg #[.int .i64 u.1.1, .int .i64 u.1.2.1, .int .i64 u.1.2.2.1, .int .i64 u.1.2.2.2, hdE u, hdL u]) ∧ spOf u = (s1, s2, s3, s4, es, ns) ∧ StpO w' w.heap.size u ∧ (blkS u).Nodup) ∧ Below w.heap.size w w' := by
  have H1 := Lib.hid h1
  have H2 := Lib.hid h2
  have C1 := Lib.hid (fun W hW => toPartSO A1 g1 o1 c1 es W hW hl1)
  have C2 := Lib.hid (fun W hW => toIntSO A2 g2 o2 c2 ns W hW hl2)
  unfold RetFl at C1 C2
  clear h1 h2
  go_enter Try.func67, Try.ntmps67
  go_wp2_with (first
    | ((go_at_call 103; ((with_reducible refine (C1.out _ (H1.out.below (by repeat (with_reducible first | exact Below.refl _ _ | refine Below.setCell ?_ (by first | omega | (simp; done) | (simp; omega)) _ | refine Below.alloc ?_ (by first | omega | (simp; done) | (simp; omega)) _)))).mono ?_); (try (have hc10 := hc9; have hf10 := hf9; have hz10 := hz9; have hb10 := hb9; have hya_10 := hya_9; have hyb_10 := hyb_9; have hyc_10 := hyc_9; clear hc9 hf9 hz9 hb9 hya_9 hyb_9 hyc_9)); (try (have hc9 := hc8; have hf9 := hf8; have hz9 := hz8; have hb9 := hb8; have hya_9 := hya_8; have hyb_9 := hyb_8; have hyc_9 := hyc_8; clear hc8 hf8 hz8 hb8 hya_8 hyb_8 hyc_8)); (try (have hc8 := hc7; have hf8 := hf7; have hz8 := hz7; have hb8 := hb7; have hya_8 := hya_7; have hyb_8 := hyb_7; have hyc_8 := hyc_7; clear hc7 hf7 hz7 hb7 hya_7 hyb_7 hyc_7)); (try (have hc7 := hc6; have hf7 := hf6; have hz7 := hz6; have hb7 := hb6; have hya_7 := hya_6; have hyb_7 := hyb_6; have hyc_7 := hyc_6; clear hc6 hf6 hz6 hb6 hya_6 hyb_6 hyc_6)); (try (have hc6 := hc5; have hf6 := hf5; have hz6 := hz5; have hb6 := hb5; have hya_6 := hya_5; have hyb_6 := hyb_5; have hyc_6 := hyc_5; clear hc5 hf5 hz5 hb5 hya_5 hyb_5 hyc_5)); (try (have hc5 := hc4; have hf5 := hf4; have hz5 := hz4; have hb5 := hb4; have hya_5 := hya_4; have hyb_5 := hyb_4; have hyc_5 := hyc_4; clear hc4 hf4 hz4 hb4 hya_4 hyb_4 hyc_4)); (try (have hc4 := hc3; have hf4 := hf3; have hz4 := hz3; have hb4 := hb3; have hya_4 := hya_3; have hyb_4 := hyb_3; have hyc_4 := hyc_3; clear hc3 hf3 hz3 hb3 hya_3 hyb_3 hyc_3)); (try (have hc3 := hc2; have hf3 := hf2; have hz3 := hz2; have hb3 := hb2; have hya_3 := hya_2; have hyb_3 := hyb_2; have hyc_3 := hyc_2; clear hc2 hf2 hz2 hb2 hya_2 hyb_2 hyc_2)); (try (have hc2 := hc1; have hf2 := hf1; have hz2 := hz1; have hb2 := hb1; have hya_2 := hya_1; have hyb_2 := hyb_1; have hyc_2 := hyc_1; clear hc1 hf1 hz1 hb1 hya_1 hyb_1 hyc_1)); rintro e w1 ⟨gc, cc, rfl, hcf, hb1⟩; obtain ⟨hc1, hf1⟩ := bcell hb1; (try simp only [World.size_drew, World.cell?_drew, World.frozen?_drew] at hc1 hf1); have hz1 := hb1.size; (try simp at hz1); have hya_1 : w.heap.size < w1.heap.size := (by omega); have hyb_1 : w.heap.size + 1 < w1.heap.size := (by omega); have hyc_1 : w.heap.size + 1 + 1 < w1.heap.size := (by omega); have FC := Lib.hid (hcf.lower (B' := w.heap.size + 3) (by simp)); have HB1 : Hid (Below w.heap.size w w1) := (show Below _ _ _ by (refine Below.trans ?_ (hb1.mono (by simp; omega))); repeat (with_reducible first | exact Below.refl _ _ | refine Below.setCell ?_ (by first | omega | (simp; done) | (simp; omega)) _ | refine Below.alloc ?_ (by first | omega | (simp; done) | (simp; omega)) _)); clear hcf)))
    | ((go_at_call 104; ((with_reducible refine (C2.out _ (H2.out.below (HB1.out.setCell (by first | omega | (simp; done) | (simp; omega)) _))).mono ?_); (try (have hc10 := hc9; have hf10 := hf9; have hz10 := hz9; have hb10 := hb9; have hya_10 := hya_9; have hyb_10 := hyb_9; have hyc_10 := hyc_9; clear hc9 hf9 hz9 hb9 hya_9 hyb_9 hyc_9)); (try (have hc9 := hc8; have hf9 := hf8; have hz9 := hz8; have hb9 := hb8; have hya_9 := hya_8; have hyb_9 := hyb_8; have hyc_9 := hyc_8; clear hc8 hf8 hz8 hb8 hya_8 hyb_8 hyc_8)); (try (have hc8 := hc7; have hf8 := hf7; have hz8 := hz7; have hb8 := hb7; have hya_8 := hya_7; have hyb_8 := hyb_7; have hyc_8 := hyc_7; clear hc7 hf7 hz7 hb7 hya_7 hyb_7 hyc_7)); (try (have hc7 := hc6; have hf7 := hf6; have hz7 := hz6; have hb7 := hb6; have hya_7 := hya_6; have hyb_7 := hyb_6; have hyc_7 := hyc_6; clear hc6 hf6 hz6 hb6 hya_6 hyb_6 hyc_6)); (try (have hc6 := hc5; have hf6 := hf5; have hz6 := hz5; have hb6 := hb5; have hya_6 := hya_5; have hyb_6 := hyb_5; have hyc_6 := hyc_5; clear hc5 hf5 hz5 hb5 hya_5 hyb_5 hyc_5)); (try (have hc5 := hc4; have hf5 := hf4; have hz5 := hz4; have hb5 := hb4; have hya_5 := hya_4; have hyb_5 := hyb_4; have hyc_5 := hyc_4; clear hc4 hf4 hz4 hb4 hya_4 hyb_4 hyc_4)); (try (have hc4 := hc3; have hf4 := hf3; have hz4 := hz3; have hb4 := hb3; have hya_4 := hya_3; have hyb_4 := hyb_3; have hyc_4 := hyc_3; clear hc3 hf3 hz3 hb3 hya_3 hyb_3 hyc_3)); (try (have hc3 := hc2; have hf3 := hf2; have hz3 := hz2; have hb3 := hb2; have hya_3 := hya_2; have hyb_3 := hyb_2; have hyc_3 := hyc_2; clear hc2 hf2 hz2 hb2 hya_2 hyb_2 hyc_2)); (try (have hc2 := hc1; have hf2 := hf1; have hz2 := hz1; have hb2 := hb1; have hya_2 := hya_1; have hyb_2 := hyb_1; have hyc_2 := hyc_1; clear hc1 hf1 hz1 hb1 hya_1 hyb_1 hyc_1)); rintro e w1 ⟨gr, cr, rfl, hci, hb1⟩; obtain ⟨hc1, hf1⟩ := bcell hb1; (try simp only [World.size_drew, World.cell?_drew, World.frozen?_drew] at hc1 hf1); have hz1 := hb1.size; (try simp at hz1); have hya_1 : w.heap.size < w1.heap.size := (by omega); have hyb_1 : w.heap.size + 1 < w1.heap.size := (by omega); have hyc_1 : w.heap.size + 1 + 1 < w1.heap.size := (by omega); have FC2 := Lib.hid ((FC.out.set (b := w.heap.size + 1 + 1) (by have := FC.out.lo; omega) 4 (.slice (some ⟨gc, 0, none⟩) es.length cc)).below hb1); have HB2 := Lib.hid ((HB1.out.setCell (p := ⟨w.heap.size + 1 + 1, 4, none⟩) (by show w.heap.size ≤ w.heap.size + 1 + 1; omega) (.slice (some ⟨gc, 0, none⟩) es.length cc)).trans (hb1.mono (by have := HB1.out.size; simp [World.setCell]; omega))); have hgc := FC.out.hi; have BG := Lib.hid (hci.lower (B' := w.heap.size + 3) (by simp [World.setCell]; omega)); have BN := Lib.hid (hci.lower (B' := gc + 1) (by simp [World.setCell]; omega)); clear hci))))
  have q := fun j => hc1 (w.heap.size + 1) j (by simp [World.setCell]; omega)
  have q2 := fun j => hc2 (w.heap.size + 1) j (by simp)
  clear hc1 hc2 hf1 hf2
  refine bodyPost_ret (v := .agg #[.int .i64 s1, .int .i64 s2, .int .i64 s3, .int .i64 s4, .slice (some ⟨gc, 0, none⟩) es.length cc, .slice (some ⟨gr, 0, none⟩) ns.length cr]) (by simp [results, Try.results67, go_sem, q, q2]) rfl ?_
  refine ⟨((s1, s2, s3, s4), (gc, cc, es), (gr, cr, ns)), ⟨rfl, rfl, ⟨?_, ?_⟩, ?_⟩, ?_⟩
  · refine FlO.lower (B := w.heap.size + 3) ?_ (by omega)
    dsimp only
    repeat (with_reducible first | exact FC2.out | refine FlO.set ?_ (by have := FC2.out.lo; omega) _ _)
  · refine FlO.lower (B := w.heap.size + 3) ?_ (by omega)
    dsimp only
    repeat (with_reducible first | exact BG.out | refine FlO.set ?_ (by have := BG.out.lo; omega) _ _)
  · have := BN.out.lo
    simp only [blkS, List.nodup_cons, List.mem_cons, List.not_mem_nil, or_false, not_false_eq_true, List.nodup_nil, and_true]
    omega
  · repeat (with_reducible first | exact HB2.out | refine Below.setCell ?_ (by first | omega | (simp; done) | (simp; omega)) _)
theorem StpO.setFar {w : World} {B : Nat} {u : UP} (h : StpO w B u) {b : Nat} (hb : b < B) (j : Nat) (v : Value) : StpO (w.setCell ⟨b, j, none⟩ v) B u :=
  h.keep (by simp [World.setCell]) fun k hk => hsetNe (by have := (h.hi k hk).1; omega)
def FitS (ps : List SP) : Prop := ∀ s ∈ ps, s.2.2.2.2.1.length ≤ 1048576 ∧ s.2.2.2.2.2.length ≤ 1048576
set_option maxHeartbeats 1000000 in
theorem toStepS (A : Option Addr) (g0 o cap : Nat) (ps : List SP) (w : World) (h : SpsA w g0 o A ps) (hl : ps.length ≤ 1048576) (hf : FitS ps) : Calls Try.prog 37 #[.slice A ps.length cap] w (RetStp ps w) := by
  obtain ⟨i0, hi, hz0, hz1', hz2⟩ := info_parts infoS
  have HA := Lib.hid h
  have HT := Lib.hid hf
  clear h hf
  go_enter Try.func37, Try.ntmps37
  go_wp2_with (at_make; refine wpList_make_full w rfl _ _ 24 rfl w.heap.size 32 i0 (.agg #[.int .i64 0, .int .i64 0, .int .i64 0, .int .i64 0, .slice none 0 0, .slice none 0 0]) 6 Try.underlying24 hi hz0 hz1' .i64 .i64 ps.length ps.length ps.length rfl rfl rfl rfl (by rw [hz2]; omega) (by unfold maxLen; omega) (Nat.le_refl _) ?_; intro w0 hown hgr)
  have HB0 : Hid (Below w.heap.size w w0) := Below.grown (Below.refl _ _) hgr (Nat.le_refl _) (by intro k hk; cases hk)
  obtain ⟨zs, hzs⟩ : ∃ zs, w0.ownsRow w.heap.size 32 6 (.slice (some ⟨w.heap.size, 0, none⟩) ps.length ps.length) ps.length zs := ⟨_, hown⟩
  have HO0 := Lib.hid hzs
  have hzl : zs.length = ps.length * 6 := hzs.1
  have HZL := Lib.hid hzl
  have hsz0 := (hown.lt w.heap.size rfl).2
  clear hown hgr hzs hzl
  go_wp2
  go_loopw [4] (fun ix wr => ∃ (k : Nat) (U : List UP), k ≤ ps.length ∧ ix = .int .i64 k ∧ Hid (U.length = k) ∧ Hid (U.map spOf = ps.take k) ∧ Hid (wr.ownsRow w.heap.size 32 6 (.slice (some ⟨w.heap.size, 0, none⟩) ps.length ps.length) ps.length (U.flatMap hdS ++ zs.drop (k * 6))) ∧ Hid (∀ u ∈ U, StpO wr (w.heap.size + 1) u) ∧ Hid ((U.flatMap blkS).Nodup) ∧ w.heap.size < wr.heap.size ∧ Hid (Below w.heap.size w wr)) (fun ix _ => ps.length - (intOf ix).toNat)
  case atStart => exact ⟨0, [], by omega, rfl, rfl, rfl, by show World.ownsRow _ _ _ _ _ _ _; simpa using HO0.out, fun t ht => absurd ht (by simp), List.nodup_nil, hsz0, HB0⟩
  case round =>
    obtain ⟨k, U, hk, rfl, HUL, HE, HO, HR, HN, hsz, HB⟩ := hrel
    clear HB0 HO0
    by_cases hlt : k < ps.length
    · obtain ⟨rfl, hg, A1, c1, g1, o1, A2, c2, g2, o2, hc0, hc1, hc2, hc3, hc4, hc5, hf1, hf2⟩ := (HA.out.below HB.out).at k hlt
      have HF1 := Lib.hid hf1
      have HF2 := Lib.hid hf2
      obtain ⟨l1, l2⟩ := HT.out _ (List.getElem_mem hlt)
      have HS := Lib.hid (List.take_succ_eq_append_getElem hlt)
      obtain ⟨K, hK⟩ : ∃ K, ps[k] = K := ⟨_, rfl⟩
      rw [hK] at hc0 hc1 hc2 hc3 hc4 hc5 HF1 HF2 l1 l2 HS
      clear hK hf1 hf2
      obtain ⟨s1, s2, s3, s4, es, ns⟩ := K
      simp only at hc0 hc1 hc2 hc3 hc4 hc5 HF1 HF2 l1 l2
      have C := Lib.hid (fun W hW hW2 => toStep s1 s2 s3 s4 A1 A2 g1 o1 c1 g2 o2 c2 es ns W hW hW2 l1 l2)
      obtain ⟨kl, hkl⟩ : ∃ n, es.length = n := ⟨_, rfl⟩
      obtain ⟨kr, hkr⟩ : ∃ n, ns.length = n := ⟨_, rfl⟩
      rw [hkl] at hc4 C
      rw [hkr] at hc5 C
      clear hkl hkr l1 l2
      have i0' : (0 : Int) ≤ (k : Int) := by omega
      have i1' : (k : Int) < (ps.length : Int) := by omega
      go_wp2_with (go_at_call 67; (with_reducible refine (C.out _ HF1.out HF2.out).mono ?_); rintro e w1 ⟨⟨⟨n1, n2, n3, n4⟩, ⟨gc, cc, us⟩, gr, cr, T⟩, ⟨he, hu1, hu2, hu3⟩, hb1⟩; (obtain rfl : e = .returned (.agg #[.int .i64 n1, .int .i64 n2, .int .i64 n3, .int .i64 n4, .slice (some ⟨gc, 0, none⟩) us.length cc, .slice (some ⟨gr, 0, none⟩) T.length cr]) := he); have HU1 := Lib.hid hu1; have HU2 := Lib.hid hu2; have HU3 := Lib.hid hu3; have HBB := Lib.hid hb1; have HO1 := Lib.hid (own_keep HO.out (hb1.block _ hsz)); have hcl : ∀ j, j < ps.length * 6 → ∃ v, w1.cell? ⟨w.heap.size, j, none⟩ = some v := (fun j hj => by rw [HO1.out.cellAt j hj, List.getElem?_eq_getElem (by rw [HO1.out.1]; omega)]; exact ⟨_, rfl⟩); obtain ⟨v0, hv0⟩ := hcl (k * 6) (by omega); obtain ⟨v1, hv1⟩ := hcl (k * 6 + 1) (by omega); obtain ⟨v2, hv2⟩ := hcl (k * 6 + 2) (by omega); obtain ⟨v3, hv3⟩ := hcl (k * 6 + 3) (by omega); obtain ⟨v4, hv4⟩ := hcl (k * 6 + 4) (by omega); obtain ⟨v5, hv5⟩ := hcl (k * 6 + 5) (by omega); have hf0 := HO1.out.frozenAt (k * 6); have hf1 := HO1.out.frozenAt (k * 6 + 1); have hf2 := HO1.out.frozenAt (k * 6 + 2); have hf3 := HO1.out.frozenAt (k * 6 + 3); have hf4 := HO1.out.frozenAt (k * 6 + 4); have hf5 := HO1.out.frozenAt (k * 6 + 5); have HB1 := Lib.hid (HB.out.trans (hb1.mono HB.out.size)); have hsz1 : w.heap.size < w1.heap.size := Nat.lt_of_lt_of_le hsz hb1.size; clear hcl hb1 hu1 hu2 hu3)
      have hst0 := HO1.out.stored (k * 6) (.int .i64 n1)
      have hst1 := hst0.1.stored (k * 6 + 1) (.int .i64 n2)
      have hst2 := hst1.1.stored (k * 6 + 2) (.int .i64 n3)
      have hst3 := hst2.1.stored (k * 6 + 3) (.int .i64 n4)
      have hst4 := hst3.1.stored (k * 6 + 4) (hdE ((n1, n2, n3, n4), (gc, cc, us), gr, cr, T))
      have hst5 := hst4.1.stored (k * 6 + 5) (hdL ((n1, n2, n3, n4), (gc, cc, us), gr, cr, T))
      have hn2 : ∀ b ∈ blkS ((n1, n2, n3, n4), (gc, cc, us), gr, cr, T), b ≠ w.heap.size := fun b hb => by have := (HU2.out.hi b hb).1; omega
      have hkeep : ∀ b, b ≠ w.heap.size → ((((((w1.setCell ⟨w.heap.size, k * 6, none⟩ (.int .i64 n1)).setCell ⟨w.heap.size, k * 6 + 1, none⟩ (.int .i64 n2)).setCell ⟨w.heap.size, k * 6 + 2, none⟩ (.int .i64 n3)).setCell ⟨w.heap.size, k * 6 + 3, none⟩ (.int .i64 n4)).setCell ⟨w.heap.size, k * 6 + 4, none⟩ (hdE ((n1, n2, n3, n4), (gc, cc, us), gr, cr, T))).setCell ⟨w.heap.size, k * 6 + 5, none⟩ (hdL ((n1, n2, n3, n4), (gc, cc, us), gr, cr, T))).heap[b]? = w1.heap[b]? := fun b hb => (hsetNe hb).trans ((hsetNe hb).trans ((hsetNe hb).trans ((hsetNe hb).trans ((hsetNe hb).trans (hsetNe hb)))))
      refine ⟨⟨k + 1, U ++ [((n1, n2, n3, n4), (gc, cc, us), gr, cr, T)], by omega, by go_num, by show _ = _; rw [List.length_append, HUL.out]; rfl, ?_, ?_, ?_, ?_, by simp [World.setCell]; exact hsz1, (((((HB1.out.setCell (Nat.le_refl _) _).setCell (Nat.le_refl _) _).setCell (Nat.le_refl _) _).setCell (Nat.le_refl _) _).setCell (Nat.le_refl _) _).setCell (Nat.le_refl _) _⟩, by simp [intOf]; omega⟩
      · show _ = _
        rw [List.map_append, HE.out, HS.out, ← HU1.out]; rfl
      · show World.ownsRow _ _ _ _ _ _ _
        have h3 := hst5.1
        have hul : (U.flatMap hdS).length = k * 6 := by rw [flatS_len, HUL.out]
        rw [setX _ _ _ _ hul (by have := HZL.out; omega), setX _ _ _ (k * 6 + 1) (by simp only [List.length_append, hul, List.length_singleton]) (by have := HZL.out; omega), setX _ _ _ (k * 6 + 2) (by simp only [List.length_append, hul, List.length_singleton]) (by have := HZL.out; omega), setX _ _ _ (k * 6 + 3) (by simp only [List.length_append, hul, List.length_singleton]) (by have := HZL.out; omega), setX _ _ _ (k * 6 + 4) (by simp only [List.length_append, hul, List.length_singleton]) (by have := HZL.out; omega), setX _ _ _ (k * 6 + 5) (by simp only [List.length_append, hul, List.length_singleton]) (by have := HZL.out; omega)] at h3
        rw [flat_snoc, show (k + 1) * 6 = k * 6 + 5 + 1 by omega, show U.flatMap hdS ++ hdS ((n1, n2, n3, n4), (gc, cc, us), gr, cr, T) = U.flatMap hdS ++ [.int .i64 n1] ++ [.int .i64 n2] ++ [.int .i64 n3] ++ [.int .i64 n4] ++ [hdE ((n1, n2, n3, n4), (gc, cc, us), gr, cr, T)] ++ [hdL ((n1, n2, n3, n4), (gc, cc, us), gr, cr, T)] by simp [hdS]]
        exact h3
      · intro t ht
        rcases List.mem_append.1 ht with ht | ht
        · have h4 := (HR.out t ht).below HBB.out
          exact h4.keep (by simp [World.setCell]) fun b hb => hkeep b (by have := (h4.hi b hb).1; omega)
        · obtain rfl := List.mem_singleton.1 ht
          exact (HU2.out.lower (by omega)).keep (by simp [World.setCell]) fun b hb => hkeep b (hn2 b hb)
      · show List.Nodup _
        rw [flat_snoc, List.nodup_append]
        refine ⟨HN.out, HU3.out, fun a ha b hb e => ?_⟩
        obtain ⟨v, hv, ha⟩ := List.mem_flatMap.1 ha
        have h1 := ((HR.out v hv).hi a ha).2
        have h2 := (HU2.out.hi b hb).1
        omega
    · obtain rfl : k = ps.length := by omega
      go_wp2
      go_ret
      refine ⟨w.heap.size, ps.length, U, rfl, ⟨by have := HE.out; rwa [List.take_length] at this, ?_, fun t ht => (HR.out t ht).lower (by omega), HN.out, fun t ht e => by have := ((HR.out t ht).hi _ e).1; omega⟩, HB.out⟩
      have h5 := HO.out
      rwa [List.drop_eq_nil_of_le (by have := HZL.out; omega), List.append_nil] at h5
end Go.Proofs.Ytacinjbaebimhaa.Val
namespace Go.Proofs.Ytacinjbaebimhaa.Val
open Go.RowKit
set_option linter.unusedVariables false
set_option maxRecDepth 8000
theorem eqTable (A1 A2 B1 B2 : Option Addr) (g1 o1 c1 g2 o2 c2 h1 p1 d1 h2 p2 d2 : Nat) (cs : List CT) (ls : List RT) (w : World) (ha1 : Fl w g1 o1 A1 (flatC cs)) (ha2 : Rws w g2 o2 A2 ls) (hb1 : Fl w h1 p1 B1 (flatC cs)) (hb2 : Rws w h2 p2 B2 ls) (hl : cs.length ≤ 2000000) (hok : Ok2 ls) :
    Calls Try.prog 70 #[.agg #[.slice A1 cs.length c1, .slice A2 ls.length c2], .agg #[.slice B1 cs.length d1, .slice B2 ls.length d2]] w fun e w' => e = .returned (.bool true) ∧ Below w.heap.size w w' := by
  have HA1 := Lib.hid ha1
  have HA2 := Lib.hid ha2
  have HB1 := Lib.hid hb1
  have HB2 := Lib.hid hb2
  have CE := Lib.hid (fun W hA hB => eqColumnS A1 B1 g1 h1 o1 p1 c1 d1 cs cs W hA hB hl hl)
  simp only [beq_self_eq_true] at CE
  have CR := Lib.hid (fun W hA hB => eqValueSS A2 B2 g2 h2 o2 p2 c2 d2 ls W hA hB hok)
  clear ha1 ha2 hb1 hb2 hok hl
  have HB := Lib.hid (Below.refl w.heap.size w)
  have S0 := True.intro
  go_enter Try.func70, Try.ntmps70
  go_wp2_with (first
    | ((go_at_call 108; ((with_reducible refine (CE.out _ (HA1.out.below (by repeat (with_reducible first | exact HB.out | refine Below.alloc ?_ (by first | omega | (have := HB.out.size; omega) | (simp; done) | (have := HB.out.size; simp; omega)) _ | apply Below.drew))) (HB1.out.below (by repeat (with_reducible first | exact HB.out | refine Below.alloc ?_ (by first | omega | (have := HB.out.size; omega) | (simp; done) | (have := HB.out.size; simp; omega)) _ | apply Below.drew)))).mono ?_); (try (have hc10 := hc9; have hf10 := hf9; have hz10 := hz9; have hb10 := hb9; have hya_10 := hya_9; have hyb_10 := hyb_9; clear hc9 hf9 hz9 hb9 hya_9 hyb_9)); (try (have hc9 := hc8; have hf9 := hf8; have hz9 := hz8; have hb9 := hb8; have hya_9 := hya_8; have hyb_9 := hyb_8; clear hc8 hf8 hz8 hb8 hya_8 hyb_8)); (try (have hc8 := hc7; have hf8 := hf7; have hz8 := hz7; have hb8 := hb7; have hya_8 := hya_7; have hyb_8 := hyb_7; clear hc7 hf7 hz7 hb7 hya_7 hyb_7)); (try (have hc7 := hc6; have hf7 := hf6; have hz7 := hz6; have hb7 := hb6; have hya_7 := hya_6; have hyb_7 := hyb_6; clear hc6 hf6 hz6 hb6 hya_6 hyb_6)); (try (have hc6 := hc5; have hf6 := hf5; have hz6 := hz5; have hb6 := hb5; have hya_6 := hya_5; have hyb_6 := hyb_5; clear hc5 hf5 hz5 hb5 hya_5 hyb_5)); (try (have hc5 := hc4; have hf5 := hf4; have hz5 := hz4; have hb5 := hb4; have hya_5 := hya_4; have hyb_5 := hyb_4; clear hc4 hf4 hz4 hb4 hya_4 hyb_4)); (try (have hc4 := hc3; have hf4 := hf3; have hz4 := hz3; have hb4 := hb3; have hya_4 := hya_3; have hyb_4 := hyb_3; clear hc3 hf3 hz3 hb3 hya_3 hyb_3)); (try (have hc3 := hc2; have hf3 := hf2; have hz3 := hz2; have hb3 := hb2; have hya_3 := hya_2; have hyb_3 := hyb_2; clear hc2 hf2 hz2 hb2 hya_2 hyb_2)); (try (have hc2 := hc1; have hf2 := hf1; have hz2 := hz1; have hb2 := hb1; have hya_2 := hya_1; have hyb_2 := hyb_1; clear hc1 hf1 hz1 hb1 hya_1 hyb_1)); rintro e w1 ⟨rfl, hb1⟩; obtain ⟨hc1, hf1⟩ := bcell hb1; (try simp only [World.size_drew, World.cell?_drew, World.frozen?_drew] at hc1 hf1); have hz1 := hb1.size; (try simp at hz1); have hya_1 : w.heap.size < w1.heap.size := (by omega); have hyb_1 : w.heap.size + 1 < w1.heap.size := (by omega); have HBn : Hid (Below w.heap.size w w1) := Below.trans (by repeat (with_reducible first | exact HB.out | refine Below.alloc ?_ (by first | omega | (have := HB.out.size; omega) | (simp; done) | (have := HB.out.size; simp; omega)) _ | apply Below.drew)) (Below.mono hb1 (by have := HB.out.size; first | omega | (simp; done) | (simp; omega))); clear HB; have HB := HBn; clear HBn)))
    | ((go_at_call 109; ((with_reducible refine (CR.out _ (HA2.out.below (by repeat (with_reducible first | exact HB.out | refine Below.alloc ?_ (by first | omega | (have := HB.out.size; omega) | (simp; done) | (have := HB.out.size; simp; omega)) _ | apply Below.drew))) (HB2.out.below (by repeat (with_reducible first | exact HB.out | refine Below.alloc ?_ (by first | omega | (have := HB.out.size; omega) | (simp; done) | (have := HB.out.size; simp; omega)) _ | apply Below.drew)))).mono ?_); (try (have hc10 := hc9; have hf10 := hf9; have hz10 := hz9; have hb10 := hb9; have hya_10 := hya_9; have hyb_10 := hyb_9; clear hc9 hf9 hz9 hb9 hya_9 hyb_9)); (try (have hc9 := hc8; have hf9 := hf8; have hz9 := hz8; have hb9 := hb8; have hya_9 := hya_8; have hyb_9 := hyb_8; clear hc8 hf8 hz8 hb8 hya_8 hyb_8)); (try (have hc8 := hc7; have hf8 := hf7; have hz8 := hz7; have hb8 := hb7; have hya_8 := hya_7; have hyb_8 := hyb_7; clear hc7 hf7 hz7 hb7 hya_7 hyb_7)); (try (have hc7 := hc6; have hf7 := hf6; have hz7 := hz6; have hb7 := hb6; have hya_7 := hya_6; have hyb_7 := hyb_6; clear hc6 hf6 hz6 hb6 hya_6 hyb_6)); (try (have hc6 := hc5; have hf6 := hf5; have hz6 := hz5; have hb6 := hb5; have hya_6 := hya_5; have hyb_6 := hyb_5; clear hc5 hf5 hz5 hb5 hya_5 hyb_5)); (try (have hc5 := hc4; have hf5 := hf4; have hz5 := hz4; have hb5 := hb4; have hya_5 := hya_4; have hyb_5 := hyb_4; clear hc4 hf4 hz4 hb4 hya_4 hyb_4)); (try (have hc4 := hc3; have hf4 := hf3; have hz4 := hz3; have hb4 := hb3; have hya_4 := hya_3; have hyb_4 := hyb_3; clear hc3 hf3 hz3 hb3 hya_3 hyb_3)); (try (have hc3 := hc2; have hf3 := hf2; have hz3 := hz2; have hb3 := hb2; have hya_3 := hya_2; have hyb_3 := hyb_2; clear hc2 hf2 hz2 hb2 hya_2 hyb_2)); (try (have hc2 := hc1; have hf2 := hf1; have hz2 := hz1; have hb2 := hb1; have hya_2 := hya_1; have hyb_2 := hyb_1; clear hc1 hf1 hz1 hb1 hya_1 hyb_1)); rintro e w1 ⟨rfl, hb1⟩; obtain ⟨hc1, hf1⟩ := bcell hb1; (try simp only [World.size_drew, World.cell?_drew, World.frozen?_drew] at hc1 hf1); have hz1 := hb1.size; (try simp at hz1); have hya_1 : w.heap.size < w1.heap.size := (by omega); have hyb_1 : w.heap.size + 1 < w1.heap.size := (by omega); have HBn : Hid (Below w.heap.size w w1) := Below.trans (by repeat (with_reducible first | exact HB.out | refine Below.alloc ?_ (by first | omega | (have := HB.out.size; omega) | (simp; done) | (have := HB.out.size; simp; omega)) _ | apply Below.drew)) (Below.mono hb1 (by have := HB.out.size; first | omega | (simp; done) | (simp; omega))); clear HB; have HB := HBn; clear HBn))))
  all_goals (go_ret; exact ⟨retB (by first | rfl | simp), HB.out⟩)
/-- Two lists of the same tables. -/
theorem eqTableS (A B : Option Addr) (g g' o o' cA cB : Nat) (ts : List TB) (w : World) (hA : Tbs w g o A ts) (hB : Tbs w g' o' B ts) (hok : OkT ts) :
    Calls Try.prog 40 #[.slice A ts.length cA, .slice B ts.length cB] w fun e w' => e = .returned (.bool true) ∧ Below w.heap.size w w' := by
  have HA := Lib.hid hA
  have HB := Lib.hid hB
  have HK := Lib.hid hok
  have hl := hok.1
  clear hA hB hok
  have e0 : ((ts.length : Int) != ts.length) = false := by simp
  go_enter Try.func40, Try.ntmps40
  go_wp2
  go_loopw [5] (fun ix wr => ∃ (k : Nat), k ≤ ts.length ∧ ix = .int .i64 k ∧ Hid (Below w.heap.size w wr)) (fun ix _ => ts.length - (intOf ix).toNat)
  case atStart => exact ⟨0, by omega, rfl, Below.refl _ _⟩
  case round =>
    obtain ⟨k, hk, rfl, HW⟩ := hrel
    by_cases hlt : k < ts.length
    · obtain ⟨rfl, hg, A1, c1, g1, o1, A2, c2, g2, o2, hc0, hc1, hf1, hr1, -, -⟩ := (HA.out.below HW.out).at k hlt
      obtain ⟨rfl, hg', B1, d1, h1, p1, B2, d2, h2, p2, hd0, hd1, hf2, hr2, -, -⟩ := (HB.out.below HW.out).at k hlt
      have HF1 := Lib.hid hf1
      have HF2 := Lib.hid hf2
      have HR1 := Lib.hid hr1
      have HR2 := Lib.hid hr2
      obtain ⟨hlc, hlr⟩ := HK.out.at k hlt
      obtain ⟨K, hK⟩ : ∃ K, ts[k] = K := ⟨_, rfl⟩
      rw [hK] at hc0 hc1 hd0 hd1 HF1 HF2 HR1 HR2 hlc hlr
      clear hK hf1 hf2 hr1 hr2
      obtain ⟨cs, ls⟩ := K
      simp only at hc0 hc1 hd0 hd1 HF1 HF2 HR1 HR2 hlc hlr
      have CE := Lib.hid (fun W a b c d => eqTable A1 A2 B1 B2 g1 o1 c1 g2 o2 c2 h1 p1 d1 h2 p2 d2 cs ls W a b c d hlc hlr)
      obtain ⟨kl, hkl⟩ : ∃ n, cs.length = n := ⟨_, rfl⟩
      rw [hkl] at hc0 hd0 CE
      obtain ⟨kr, hkr⟩ : ∃ n, ls.length = n := ⟨_, rfl⟩
      rw [hkr] at hc1 hd1 CE
      clear hkl hkr hlc hlr
      have i0' : (0 : Int) ≤ (k : Int) := by omega
      have i1' : (k : Int) < (ts.length : Int) := by omega
      go_wp2
      go_region_with (go_at_call 70; (with_reducible refine (CE.out _ (by repeat (with_reducible first | exact HF1.out | apply Fl.drew)) (by repeat (with_reducible first | exact HR1.out | apply Rws.drew)) (by repeat (with_reducible first | exact HF2.out | apply Fl.drew)) (by repeat (with_reducible first | exact HR2.out | apply Rws.drew))).mono ?_); rintro e w1 ⟨rfl, hb1⟩; have HW1 := Lib.hid (HW.out.drew.trans (hb1.mono HW.out.size)); clear hb1 HW)
      all_goals go_wp2
      all_goals exact ⟨⟨k + 1, by omega, by go_num, HW1⟩, by simp [intOf]; omega⟩
    · obtain rfl : k = ts.length := by omega
      go_wp2
      go_ret
      exact ⟨rfl, HW.out⟩
theorem eqStep (s1 s2 s3 s4 : Int) (A1 A2 B1 B2 : Option Addr) (g1 o1 c1 g2 o2 c2 h1 p1 d1 h2 p2 d2 : Nat) (es : List PT) (ns : List Int) (w : World) (ha1 : Fl w g1 o1 A1 (flatP es)) (ha2 : Fl w g2 o2 A2 (ns.map iv)) (hb1 : Fl w h1 p1 B1 (flatP es)) (hb2 : Fl w h2 p2 B2 (ns.map iv)) (hl : es.length ≤ 2000000) (hl2 : ns.length ≤ 2000000) :
    Calls Try.prog 69 #[.agg #[.int .i64 s1, .int .i64 s2, .int .i64 s3, .int .i64 s4, .slice A1 es.length c1, .slice A2 ns.length c2], .agg #[.int .i64 s1, .int .i64 s2, .int .i64 s3, .int .i64 s4, .slice B1 es.length d1, .slice B2 ns.length d2]] w fun e w' => e = .returned (.bool true) ∧ Below w.heap.size w w' := by
  have HA1 := Lib.hid ha1
  have HA2 := Lib.hid ha2
  have HB1 := Lib.hid hb1
  have HB2 := Lib.hid hb2
  have CE := Lib.hid (fun W hA hB => eqPartS A1 B1 g1 h1 o1 p1 c1 d1 es W hA hB hl)
  have CR := Lib.hid (fun W hA hB => eqIntS A2 B2 g2 h2 o2 p2 c2 d2 ns W hA hB hl2)
  clear ha1 ha2 hb1 hb2 hl hl2
  have HB := Lib.hid (Below.refl w.heap.size w)
  have S0 := True.intro
  have e1 : (s1 != s1) = false := by simp
  have e2 : (s2 != s2) = false := by simp
  have e3 : (s3 != s3) = false := by simp
  have e4 : (s4 != s4) = false := by simp
  go_enter Try.func69, Try.ntmps69
  go_wp2_with (first
    | ((go_at_call 106; ((with_reducible refine (CE.out _ (HA1.out.below (by repeat (with_reducible first | exact HB.out | refine Below.alloc ?_ (by first | omega | (have := HB.out.size; omega) | (simp; done) | (have := HB.out.size; simp; omega)) _ | apply Below.drew))) (HB1.out.below (by repeat (with_reducible first | exact HB.out | refine Below.alloc ?_ (by first | omega | (have := HB.out.size; omega) | (simp; done) | (have := HB.out.size; simp; omega)) _ | apply Below.drew)))).mono ?_); (try (have hc10 := hc9; have hf10 := hf9; have hz10 := hz9; have hb10 := hb9; have hya_10 := hya_9; have hyb_10 := hyb_9; clear hc9 hf9 hz9 hb9 hya_9 hyb_9)); (try (have hc9 := hc8; have hf9 := hf8; have hz9 := hz8; have hb9 := hb8; have hya_9 := hya_8; have hyb_9 := hyb_8; clear hc8 hf8 hz8 hb8 hya_8 hyb_8)); (try (have hc8 := hc7; have hf8 := hf7; have hz8 := hz7; have hb8 := hb7; have hya_8 := hya_7; have hyb_8 := hyb_7; clear hc7 hf7 hz7 hb7 hya_7 hyb_7)); (try (have hc7 := hc6; have hf7 := hf6; have hz7 := hz6; have hb7 := hb6; have hya_7 := hya_6; have hyb_7 := hyb_6; clear hc6 hf6 hz6 hb6 hya_6 hyb_6)); (try (have hc6 := hc5; have hf6 := hf5; have hz6 := hz5; have hb6 := hb5; have hya_6 := hya_5; have hyb_6 := hyb_5; clear hc5 hf5 hz5 hb5 hya_5 hyb_5)); (try (have hc5 := hc4; have hf5 := hf4; have hz5 := hz4; have hb5 := hb4; have hya_5 := hya_4; have hyb_5 := hyb_4; clear hc4 hf4 hz4 hb4 hya_4 hyb_4)); (try (have hc4 := hc3; have hf4 := hf3; have hz4 := hz3; have hb4 := hb3; have hya_4 := hya_3; have hyb_4 := hyb_3; clear hc3 hf3 hz3 hb3 hya_3 hyb_3)); (try (have hc3 := hc2; have hf3 := hf2; have hz3 := hz2; have hb3 := hb2; have hya_3 := hya_2; have hyb_3 := hyb_2; clear hc2 hf2 hz2 hb2 hya_2 hyb_2)); (try (have hc2 := hc1; have hf2 := hf1; have hz2 := hz1; have hb2 := hb1; have hya_2 := hya_1; have hyb_2 := hyb_1; clear hc1 hf1 hz1 hb1 hya_1 hyb_1)); rintro e w1 ⟨rfl, hb1⟩; obtain ⟨hc1, hf1⟩ := bcell hb1; (try simp only [World.size_drew, World.cell?_drew, World.frozen?_drew] at hc1 hf1); have hz1 := hb1.size; (try simp at hz1); have hya_1 : w.heap.size < w1.heap.size := (by omega); have hyb_1 : w.heap.size + 1 < w1.heap.size := (by omega); have HBn : Hid (Below w.heap.size w w1) := Below.trans (by repeat (with_reducible first | exact HB.out | refine Below.alloc ?_ (by first | omega | (have := HB.out.size; omega) | (simp; done) | (have := HB.out.size; simp; omega)) _ | apply Below.drew)) (Below.mono hb1 (by have := HB.out.size; first | omega | (simp; done) | (simp; omega))); clear HB; have HB := HBn; clear HBn)))
    | ((go_at_call 107; ((with_reducible refine (CR.out _ (HA2.out.below (by repeat (with_reducible first | exact HB.out | refine Below.alloc ?_ (by first | omega | (have := HB.out.size; omega) | (simp; done) | (have := HB.out.size; simp; omega)) _ | apply Below.drew))) (HB2.out.below (by repeat (with_reducible first | exact HB.out | refine Below.alloc ?_ (by first | omega | (have := HB.out.size; omega) | (simp; done) | (have := HB.out.size; simp; omega)) _ | apply Below.drew)))).mono ?_); (try (have hc10 := hc9; have hf10 := hf9; have hz10 := hz9; have hb10 := hb9; have hya_10 := hya_9; have hyb_10 := hyb_9; clear hc9 hf9 hz9 hb9 hya_9 hyb_9)); (try (have hc9 := hc8; have hf9 := hf8; have hz9 := hz8; have hb9 := hb8; have hya_9 := hya_8; have hyb_9 := hyb_8; clear hc8 hf8 hz8 hb8 hya_8 hyb_8)); (try (have hc8 := hc7; have hf8 := hf7; have hz8 := hz7; have hb8 := hb7; have hya_8 := hya_7; have hyb_8 := hyb_7; clear hc7 hf7 hz7 hb7 hya_7 hyb_7)); (try (have hc7 := hc6; have hf7 := hf6; have hz7 := hz6; have hb7 := hb6; have hya_7 := hya_6; have hyb_7 := hyb_6; clear hc6 hf6 hz6 hb6 hya_6 hyb_6)); (try (have hc6 := hc5; have hf6 := hf5; have hz6 := hz5; have hb6 := hb5; have hya_6 := hya_5; have hyb_6 := hyb_5; clear hc5 hf5 hz5 hb5 hya_5 hyb_5)); (try (have hc5 := hc4; have hf5 := hf4; have hz5 := hz4; have hb5 := hb4; have hya_5 := hya_4; have hyb_5 := hyb_4; clear hc4 hf4 hz4 hb4 hya_4 hyb_4)); (try (have hc4 := hc3; have hf4 := hf3; have hz4 := hz3; have hb4 := hb3; have hya_4 := hya_3; have hyb_4 := hyb_3; clear hc3 hf3 hz3 hb3 hya_3 hyb_3)); (try (have hc3 := hc2; have hf3 := hf2; have hz3 := hz2; have hb3 := hb2; have hya_3 := hya_2; have hyb_3 := hyb_2; clear hc2 hf2 hz2 hb2 hya_2 hyb_2)); (try (have hc2 := hc1; have hf2 := hf1; have hz2 := hz1; have hb2 := hb1; have hya_2 := hya_1; have hyb_2 := hyb_1; clear hc1 hf1 hz1 hb1 hya_1 hyb_1)); rintro e w1 ⟨rfl, hb1⟩; obtain ⟨hc1, hf1⟩ := bcell hb1; (try simp only [World.size_drew, World.cell?_drew, World.frozen?_drew] at hc1 hf1); have hz1 := hb1.size; (try simp at hz1); have hya_1 : w.heap.size < w1.heap.size := (by omega); have hyb_1 : w.heap.size + 1 < w1.heap.size := (by omega); have HBn : Hid (Below w.heap.size w w1) := Below.trans (by repeat (with_reducible first | exact HB.out | refine Below.alloc ?_ (by first | omega | (have := HB.out.size; omega) | (simp; done) | (have := HB.out.size; simp; omega)) _ | apply Below.drew)) (Below.mono hb1 (by have := HB.out.size; first | omega | (simp; done) | (simp; omega))); clear HB; have HB := HBn; clear HBn))))
  all_goals (go_ret; exact ⟨retB (by first | rfl | simp), HB.out⟩)
/-- Two plans of the same steps. -/
theorem eqStepS (A B : Option Addr) (g g' o o' cA cB : Nat) (ps : List SP) (w : World) (hA : Sps w g o A ps) (hB : Sps w g' o' B ps) (hok : OkS ps) :
    Calls Try.prog 39 #[.slice A ps.length cA, .slice B ps.length cB] w fun e w' => e = .returned (.bool true) ∧ Below w.heap.size w w' := by
  have HA := Lib.hid hA
  have HB := Lib.hid hB
  have HK := Lib.hid hok
  have hl := hok.1
  clear hA hB hok
  have e0 : ((ps.length : Int) != ps.length) = false := by simp
  go_enter Try.func39, Try.ntmps39
  go_wp2
  go_loopw [5] (fun ix wr => ∃ (k : Nat), k ≤ ps.length ∧ ix = .int .i64 k ∧ Hid (Below w.heap.size w wr)) (fun ix _ => ps.length - (intOf ix).toNat)
  case atStart => exact ⟨0, by omega, rfl, Below.refl _ _⟩
  case round =>
    obtain ⟨k, hk, rfl, HW⟩ := hrel
    by_cases hlt : k < ps.length
    · obtain ⟨rfl, hg, A1, c1, g1, o1, A2, c2, g2, o2, hc0, hc1, hc2, hc3, hc4, hc5, hf1, hr1, -, -⟩ := (HA.out.below HW.out).at k hlt
      obtain ⟨rfl, hg', B1, d1, h1, p1, B2, d2, h2, p2, hd0, hd1, hd2, hd3, hd4, hd5, hf2, hr2, -, -⟩ := (HB.out.below HW.out).at k hlt
      have HF1 := Lib.hid hf1
      have HF2 := Lib.hid hf2
      have HR1 := Lib.hid hr1
      have HR2 := Lib.hid hr2
      obtain ⟨hlc, -, hlr⟩ := HK.out.at k hlt
      obtain ⟨K, hK⟩ : ∃ K, ps[k] = K := ⟨_, rfl⟩
      rw [hK] at hc0 hc1 hc2 hc3 hc4 hc5 hd0 hd1 hd2 hd3 hd4 hd5 HF1 HF2 HR1 HR2 hlc hlr
      clear hK hf1 hf2 hr1 hr2
      obtain ⟨s1, s2, s3, s4, es, ns⟩ := K
      simp only at hc0 hc1 hc2 hc3 hc4 hc5 hd0 hd1 hd2 hd3 hd4 hd5 HF1 HF2 HR1 HR2 hlc hlr
      have CE := Lib.hid (fun W a b c d => eqStep s1 s2 s3 s4 A1 A2 B1 B2 g1 o1 c1 g2 o2 c2 h1 p1 d1 h2 p2 d2 es ns W a b c d hlc hlr)
      obtain ⟨kl, hkl⟩ : ∃ n, es.length = n := ⟨_, rfl⟩
      rw [hkl] at hc4 hd4 CE
      obtain ⟨kr, hkr⟩ : ∃ n, ns.length = n := ⟨_, rfl⟩
      rw [hkr] at hc5 hd5 CE
      clear hkl hkr hlc hlr
      have i0' : (0 : Int) ≤ (k : Int) := by omega
      have i1' : (k : Int) < (ps.length : Int) := by omega
      go_wp2
      go_region_with (go_at_call 69; (with_reducible refine (CE.out _ (by repeat (with_reducible first | exact HF1.out | apply Fl.drew)) (by repeat (with_reducible first | exact HR1.out | apply Fl.drew)) (by repeat (with_reducible first | exact HF2.out | apply Fl.drew)) (by repeat (with_reducible first | exact HR2.out | apply Fl.drew))).mono ?_); rintro e w1 ⟨rfl, hb1⟩; have HW1 := Lib.hid (HW.out.drew.trans (hb1.mono HW.out.size)); clear hb1 HW)
      all_goals go_wp2
      all_goals exact ⟨⟨k + 1, by omega, by go_num, HW1⟩, by simp [intOf]; omega⟩
    · obtain rfl : k = ps.length := by omega
      go_wp2
      go_ret
      exact ⟨rfl, HW.out⟩
/-- How much tables, plans hold. -/
def cnt1 (t : TB) : Nat := t.1.length + t.2.length + total t.2
def cntT (ts : List TB) : Nat := (ts.map cnt1).sum
def cnt2 (s : SP) : Nat := s.2.2.2.2.1.length + s.2.2.2.2.2.length
def cntS (ps : List SP) : Nat := (ps.map cnt2).sum
theorem sum_snoc {α : Type} (f : α → Nat) (l : List α) (k : Nat) (h : k < l.length) : ((l.take (k + 1)).map f).sum = ((l.take k).map f).sum + f l[k] := by
  rw [List.take_succ_eq_append_getElem h, List.map_append, List.sum_append]; simp
theorem sum_at {α : Type} (f : α → Nat) (l : List α) (x : α) (h : x ∈ l) : f x ≤ (l.map f).sum := by
  induction l with
  | nil => simp at h
  | cons y l ih =>
    rw [List.map_cons, List.sum_cons]
    rcases List.mem_cons.1 h with rfl | h
    · omega
    · have := ih h; omega
def FitT (ts : List TB) : Prop := ∀ t ∈ ts, t.1.length ≤ maxLen ∧ t.2.length ≤ maxLen ∧ Fit2 t.2
def FitP (ps : List SP) : Prop := ∀ s ∈ ps, s.2.2.2.2.1.length ≤ maxLen ∧ ShortP s.2.2.2.2.1 ∧ s.2.2.2.2.2.length ≤ maxLen
theorem FitT.ok {ts : List TB} (h : FitT ts) (hl : ts.length + cntT ts ≤ 1048576) : OkT ts ∧ Fit3 ts := by
  have hx : ∀ t ∈ ts, cnt1 t ≤ 1048576 := fun t ht => by have := sum_at cnt1 ts t ht; rw [cntT] at hl; omega
  refine ⟨⟨by omega, fun t ht => ?_⟩, fun t ht => ?_⟩
  · have := hx t ht
    unfold cnt1 at this
    exact ⟨by omega, (h t ht).2.2.ok (by omega) (by omega)⟩
  · have := hx t ht
    unfold cnt1 at this
    omega
theorem FitP.ok {ps : List SP} (h : FitP ps) (hl : ps.length + cntS ps ≤ 1048576) : OkS ps ∧ FitS ps := by
  have hx : ∀ t ∈ ps, cnt2 t ≤ 1048576 := fun t ht => by have := sum_at cnt2 ps t ht; rw [cntS] at hl; omega
  refine ⟨⟨by omega, fun t ht => ?_⟩, fun t ht => ?_⟩
  · have := hx t ht
    unfold cnt2 at this
    exact ⟨by omega, (h t ht).2.1, by omega⟩
  · have := hx t ht
    unfold cnt2 at this
    omega
theorem szColR (A : Option Addr) (n cap : Nat) (left : Int) (w : World) (h0 : 0 ≤ left) (h1 : left ≤ 1048576) (hn : n ≤ maxLen) : Calls Try.prog 97 #[.slice A n cap, .int .i64 left] w fun e w' => ∃ r : Int, (e = .returned (.int .i64 r) ∧ r ≤ left ∧ (0 ≤ r → r + (n : Int) ≤ left)) ∧ Below w.heap.size w w' := by
  refine (szColumnS A n cap left w h0 h1 hn).mono ?_
  rintro e w1 ⟨rfl, rfl⟩
  refine ⟨_, ⟨rfl, ?_⟩, Below.refl _ _⟩
  split <;> omega
theorem szIntR (A : Option Addr) (n cap : Nat) (left : Int) (w : World) (h0 : 0 ≤ left) (h1 : left ≤ 1048576) (hn : n ≤ maxLen) : Calls Try.prog 100 #[.slice A n cap, .int .i64 left] w fun e w' => ∃ r : Int, (e = .returned (.int .i64 r) ∧ r ≤ left ∧ (0 ≤ r → r + (n : Int) ≤ left)) ∧ Below w.heap.size w w' := by
  unfold maxLen at hn
  go_enter Try.func100, Try.ntmps100
  go_wp2
  all_goals go_ret
  · exact ⟨-1, ⟨rfl, by omega, fun h => absurd h (by omega)⟩, Below.refl _ _⟩
  · exact ⟨_, ⟨rfl, by omega, by omega⟩, Below.refl _ _⟩
theorem szPartS2 (A : Option Addr) (g o cap : Nat) (ps : List PT) (left : Int) (w : World) (h : Fl w g o A (flatP ps)) (h0 : 0 ≤ left) (h1 : left ≤ 1048576) (hn : ps.length ≤ maxLen) (hs : ShortP ps) : Calls Try.prog 99 #[.slice A ps.length cap, .int .i64 left] w fun e w' => ∃ r : Int, e = .returned (.int .i64 r) ∧ r ≤ left ∧ (0 ≤ r → r + (ps.length : Int) ≤ left) ∧ Below w.heap.size w w' := by
  have H := Lib.hid h
  have HSH := Lib.hid hs
  clear h hs
  unfold maxLen at hn
  go_enter Try.func99, Try.ntmps99
  go_wp2
  · go_ret
    exact ⟨-1, rfl, by omega, fun h => absurd h (by omega), Below.refl _ _⟩
  · go_loopw [1, 5] (fun lx ix wr => ∃ (k : Nat) (r : Int), k ≤ ps.length ∧ ix = .int .i64 k ∧ lx = .int .i64 r ∧ 0 ≤ r ∧ r + (ps.length : Int) ≤ left ∧ Hid (Below w.heap.size w wr)) (fun _ ix _ => ps.length - (intOf ix).toNat)
    case atStart => exact ⟨0, _, Nat.zero_le _, rfl, rfl, by omega, by omega, Below.refl _ _⟩
    case round =>
      obtain ⟨k, r, hk, rfl, rfl, hr0, hr1, HW⟩ := hrel
      by_cases hlt : k < ps.length
      · obtain ⟨rfl, -, -, -, -, -, -⟩ := H.out.pt k hlt
        obtain ⟨-, hg, c0, c1, c2, c3, c4⟩ := (H.out.below HW.out).pt k hlt
        have hsz := HSH.out k hlt
        obtain ⟨K, hK⟩ : ∃ K, ps[k] = K := ⟨_, rfl⟩
        rw [hK] at c0 c1 c2 c3 c4 hsz
        obtain ⟨x, n, vx, vn, s⟩ := K
        simp only at c0 c1 c2 c3 c4 hsz
        clear hK
        have C := Lib.hid (fun w => szPart x n vx vn r s w hr0 (by omega) hsz)
        have i0' : (0 : Int) ≤ (k : Int) := by omega
        have i1' : (k : Int) < (ps.length : Int) := by omega
        go_wp2_with (go_at_call 129; (with_reducible refine (C.out _).mono ?_); rintro e w1 ⟨r2, rfl, hr2, hb1⟩; have HW1 := Lib.hid (HW.out.trans (hb1.mono HW.out.size)); clear hb1 HW)
        · go_ret
          exact ⟨-1, rfl, by omega, fun h => absurd h (by omega), HW1.out⟩
        · go_round
          case rel => exact ⟨k + 1, r2, by omega, by go_num, rfl, by omega, by omega, HW1⟩
          case measure => simp [intOf]; omega
      · obtain rfl : k = ps.length := by omega
        go_wp2
        go_ret
        exact ⟨r, rfl, by omega, fun _ => by omega, HW.out⟩
theorem szTable (A1 A2 : Option Addr) (c1 g2 o2 c2 : Nat) (cs : List CT) (ls : List RT) (left : Int) (w : World) (h2 : RwsA w g2 o2 A2 ls) (h0 : 0 ≤ left) (h1 : left ≤ 1048576) (hn : cs.length ≤ maxLen) (hm : ls.length ≤ maxLen) (hs : Fit2 ls) :
    Calls Try.prog 63 #[.agg #[.slice A1 cs.length c1, .slice A2 ls.length c2], .int .i64 left] w fun e w' => ∃ r : Int, (e = .returned (.int .i64 r) ∧ r ≤ left ∧ (0 ≤ r → r + (cnt1 (cs, ls) : Int) ≤ left)) ∧ Below w.heap.size w w' := by
  have H2 := Lib.hid h2
  have C1 := Lib.hid (fun W => szColR A1 cs.length c1 left W h0 h1 hn)
  have C2 := Lib.hid (fun r W (hr : 0 ≤ r) (hr1 : r ≤ 1048576) hW => szValueSS A2 g2 o2 c2 ls r W hW hr hr1 hm hs)
  have HC : Hid (cnt1 (cs, ls) = cs.length + ls.length + total ls) := rfl
  clear h2 hs
  have HB := Lib.hid (Below.refl w.heap.size w)
  have S0 := True.intro
  go_enter Try.func63, Try.ntmps63
  go_wp2_with (first
    | ((go_at_call 97; ((with_reducible refine (C1.out _).mono ?_); (try (have hc10 := hc9; have hf10 := hf9; have hz10 := hz9; have hb10 := hb9; have hya_10 := hya_9; clear hc9 hf9 hz9 hb9 hya_9)); (try (have hc9 := hc8; have hf9 := hf8; have hz9 := hz8; have hb9 := hb8; have hya_9 := hya_8; clear hc8 hf8 hz8 hb8 hya_8)); (try (have hc8 := hc7; have hf8 := hf7; have hz8 := hz7; have hb8 := hb7; have hya_8 := hya_7; clear hc7 hf7 hz7 hb7 hya_7)); (try (have hc7 := hc6; have hf7 := hf6; have hz7 := hz6; have hb7 := hb6; have hya_7 := hya_6; clear hc6 hf6 hz6 hb6 hya_6)); (try (have hc6 := hc5; have hf6 := hf5; have hz6 := hz5; have hb6 := hb5; have hya_6 := hya_5; clear hc5 hf5 hz5 hb5 hya_5)); (try (have hc5 := hc4; have hf5 := hf4; have hz5 := hz4; have hb5 := hb4; have hya_5 := hya_4; clear hc4 hf4 hz4 hb4 hya_4)); (try (have hc4 := hc3; have hf4 := hf3; have hz4 := hz3; have hb4 := hb3; have hya_4 := hya_3; clear hc3 hf3 hz3 hb3 hya_3)); (try (have hc3 := hc2; have hf3 := hf2; have hz3 := hz2; have hb3 := hb2; have hya_3 := hya_2; clear hc2 hf2 hz2 hb2 hya_2)); (try (have hc2 := hc1; have hf2 := hf1; have hz2 := hz1; have hb2 := hb1; have hya_2 := hya_1; clear hc1 hf1 hz1 hb1 hya_1)); rintro e w1 ⟨r1, ⟨rfl, hr1, hr2⟩, hb1⟩; obtain ⟨hc1, hf1⟩ := bcell hb1; (try simp only [World.size_drew, World.cell?_drew, World.frozen?_drew] at hc1 hf1); have hz1 := hb1.size; (try simp at hz1); have hya_1 : w.heap.size < w1.heap.size := (by omega); have HBn : Hid (Below w.heap.size w w1) := Below.trans (by repeat (with_reducible first | exact HB.out | refine Below.alloc ?_ (by first | omega | (have := HB.out.size; omega) | (simp; done) | (have := HB.out.size; simp; omega)) _ | apply Below.drew)) (Below.mono hb1 (by have := HB.out.size; first | omega | (simp; done) | (simp; omega))); clear HB; have HB := HBn; clear HBn)))
    | ((go_at_call 98; ((with_reducible refine (C2.out _ _ (by omega) (by omega) (H2.out.below (by repeat (with_reducible first | exact HB.out | refine Below.alloc ?_ (by first | omega | (have := HB.out.size; omega) | (simp; done) | (have := HB.out.size; simp; omega)) _ | apply Below.drew)))).mono ?_); (try (have hc10 := hc9; have hf10 := hf9; have hz10 := hz9; have hb10 := hb9; have hya_10 := hya_9; clear hc9 hf9 hz9 hb9 hya_9)); (try (have hc9 := hc8; have hf9 := hf8; have hz9 := hz8; have hb9 := hb8; have hya_9 := hya_8; clear hc8 hf8 hz8 hb8 hya_8)); (try (have hc8 := hc7; have hf8 := hf7; have hz8 := hz7; have hb8 := hb7; have hya_8 := hya_7; clear hc7 hf7 hz7 hb7 hya_7)); (try (have hc7 := hc6; have hf7 := hf6; have hz7 := hz6; have hb7 := hb6; have hya_7 := hya_6; clear hc6 hf6 hz6 hb6 hya_6)); (try (have hc6 := hc5; have hf6 := hf5; have hz6 := hz5; have hb6 := hb5; have hya_6 := hya_5; clear hc5 hf5 hz5 hb5 hya_5)); (try (have hc5 := hc4; have hf5 := hf4; have hz5 := hz4; have hb5 := hb4; have hya_5 := hya_4; clear hc4 hf4 hz4 hb4 hya_4)); (try (have hc4 := hc3; have hf4 := hf3; have hz4 := hz3; have hb4 := hb3; have hya_4 := hya_3; clear hc3 hf3 hz3 hb3 hya_3)); (try (have hc3 := hc2; have hf3 := hf2; have hz3 := hz2; have hb3 := hb2; have hya_3 := hya_2; clear hc2 hf2 hz2 hb2 hya_2)); (try (have hc2 := hc1; have hf2 := hf1; have hz2 := hz1; have hb2 := hb1; have hya_2 := hya_1; clear hc1 hf1 hz1 hb1 hya_1)); rintro e w1 ⟨r2, rfl, hr3, hr4, hb1⟩; obtain ⟨hc1, hf1⟩ := bcell hb1; (try simp only [World.size_drew, World.cell?_drew, World.frozen?_drew] at hc1 hf1); have hz1 := hb1.size; (try simp at hz1); have hya_1 : w.heap.size < w1.heap.size := (by omega); have HBn : Hid (Below w.heap.size w w1) := Below.trans (by repeat (with_reducible first | exact HB.out | refine Below.alloc ?_ (by first | omega | (have := HB.out.size; omega) | (simp; done) | (have := HB.out.size; simp; omega)) _ | apply Below.drew)) (Below.mono hb1 (by have := HB.out.size; first | omega | (simp; done) | (simp; omega))); clear HB; have HB := HBn; clear HBn))))
  all_goals go_ret
  · exact ⟨-1, ⟨rfl, by omega, fun h => absurd h (by omega)⟩, HB.out⟩
  · exact ⟨-1, ⟨rfl, by omega, fun h => absurd h (by omega)⟩, HB.out⟩
  · exact ⟨r2, ⟨rfl, by omega, fun h => by have := hr4 h; have := hr2 (by omega); rw [HC.out]; omega⟩, HB.out⟩
theorem szTableS (A : Option Addr) (g o cap : Nat) (ts : List TB) (left : Int) (w : World) (h : TbsA w g o A ts) (h0 : 0 ≤ left) (h1 : left ≤ 1048576) (hn : ts.length ≤ maxLen) (hs : FitT ts) : Calls Try.prog 33 #[.slice A ts.length cap, .int .i64 left] w fun e w' => ∃ r : Int, e = .returned (.int .i64 r) ∧ r ≤ left ∧ (0 ≤ r → r + (ts.length : Int) + (cntT ts : Int) ≤ left) ∧ Below w.heap.size w w' := by
  have H := Lib.hid h
  have HSH := Lib.hid hs
  clear h hs
  unfold maxLen at hn
  go_enter Try.func33, Try.ntmps33
  go_wp2
  · go_ret
    exact ⟨-1, rfl, by omega, fun h => absurd h (by omega), Below.refl _ _⟩
  · go_loopw [1, 5] (fun lx ix wr => ∃ (k : Nat) (r : Int) (t : Nat), k ≤ ts.length ∧ ix = .int .i64 k ∧ lx = .int .i64 r ∧ 0 ≤ r ∧ r + (ts.length : Int) + (t : Int) ≤ left ∧ Hid (cntT (ts.take k) = t) ∧ Hid (Below w.heap.size w wr)) (fun _ ix _ => ts.length - (intOf ix).toNat)
    case atStart => exact ⟨0, _, 0, Nat.zero_le _, rfl, rfl, by omega, by omega, rfl, Below.refl _ _⟩
    case round =>
      obtain ⟨k, r, t, hk, rfl, rfl, hr0, hr1, HT, HW⟩ := hrel
      by_cases hlt : k < ts.length
      · obtain ⟨rfl, hg, A1, c1, g1, o1, A2, c2, g2, o2, hc0, hc1, -, hf2⟩ := (H.out.below HW.out).at k hlt
        have HF := Lib.hid hf2
        obtain ⟨hrl, hrm, hrs⟩ := HSH.out _ (List.getElem_mem hlt)
        have HS := Lib.hid (sum_snoc cnt1 ts k hlt)
        obtain ⟨K, hK⟩ : ∃ K, ts[k] = K := ⟨_, rfl⟩
        rw [hK] at hc0 hc1 HF HS hrl hrm hrs
        clear hK hf2
        obtain ⟨cs, ls⟩ := K
        simp only at hc0 hc1 HF hrl hrm hrs
        have C := Lib.hid (fun W hW => szTable A1 A2 c1 g2 o2 c2 cs ls r W hW hr0 (by omega) hrl hrm hrs)
        obtain ⟨n1, hn1⟩ : ∃ n, cnt1 (cs, ls) = n := ⟨_, rfl⟩
        rw [hn1] at C HS
        obtain ⟨kl, hkl⟩ : ∃ n, cs.length = n := ⟨_, rfl⟩
        rw [hkl] at hc0 C
        obtain ⟨kr, hkr⟩ : ∃ n, ls.length = n := ⟨_, rfl⟩
        rw [hkr] at hc1 C
        clear hkl hkr hrl hrm hrs hn1
        have i0' : (0 : Int) ≤ (k : Int) := by omega
        have i1' : (k : Int) < (ts.length : Int) := by omega
        go_wp2_with (go_at_call 63; (with_reducible refine (C.out _ HF.out).mono ?_); rintro e w1 ⟨r2, ⟨rfl, hr2, hr3⟩, hb1⟩; have HW1 := Lib.hid (HW.out.trans (hb1.mono HW.out.size)); clear hb1 HW)
        · go_ret
          exact ⟨-1, rfl, by omega, fun h => absurd h (by omega), HW1.out⟩
        · go_round
          case rel => exact ⟨k + 1, r2, t + n1, by omega, by go_num, rfl, by omega, by have := hr3 (by omega); omega, by show _ = _; have h1 := HS.out; have h2 := HT.out; unfold cntT at h2 ⊢; rw [h1, h2], HW1⟩
          case measure => simp [intOf]; omega
      · obtain rfl : k = ts.length := by omega
        have HT2 : cntT ts = t := by have := HT.out; rwa [List.take_length] at this
        go_wp2
        go_ret
        exact ⟨r, rfl, by omega, fun _ => by omega, HW.out⟩
theorem szStep (s1 s2 s3 s4 : Int) (A1 A2 : Option Addr) (g1 o1 c1 c2 : Nat) (es : List PT) (ns : List Int) (left : Int) (w : World) (h2 : Fl w g1 o1 A1 (flatP es)) (h0 : 0 ≤ left) (h1 : left ≤ 1048576) (hn : es.length ≤ maxLen) (hm : ns.length ≤ maxLen) (hs : ShortP es) :
    Calls Try.prog 64 #[.agg #[.int .i64 s1, .int .i64 s2, .int .i64 s3, .int .i64 s4, .slice A1 es.length c1, .slice A2 ns.length c2], .int .i64 left] w fun e w' => ∃ r : Int, (e = .returned (.int .i64 r) ∧ r ≤ left ∧ (0 ≤ r → r + (cnt2 (s1, s2, s3, s4, es, ns) : Int) ≤ left)) ∧ Below w.heap.size w w' := by
  have H2 := Lib.hid h2
  have C1 := Lib.hid (fun W hW => szPartS2 A1 g1 o1 c1 es left W hW h0 h1 hn hs)
  have C2 := Lib.hid (fun r W (hr : 0 ≤ r) (hr1 : r ≤ 1048576) => szIntR A2 ns.length c2 r W hr hr1 hm)
  have HC : Hid (cnt2 (s1, s2, s3, s4, es, ns) = es.length + ns.length) := rfl
  clear h2 hs
  have HB := Lib.hid (Below.refl w.heap.size w)
  have S0 := True.intro
  go_enter Try.func64, Try.ntmps64
  go_wp2_with (first
    | ((go_at_call 99; ((with_reducible refine (C1.out _ (H2.out.below (by repeat (with_reducible first | exact HB.out | refine Below.alloc ?_ (by first | omega | (have := HB.out.size; omega) | (simp; done) | (have := HB.out.size; simp; omega)) _ | apply Below.drew)))).mono ?_); (try (have hc10 := hc9; have hf10 := hf9; have hz10 := hz9; have hb10 := hb9; have hya_10 := hya_9; clear hc9 hf9 hz9 hb9 hya_9)); (try (have hc9 := hc8; have hf9 := hf8; have hz9 := hz8; have hb9 := hb8; have hya_9 := hya_8; clear hc8 hf8 hz8 hb8 hya_8)); (try (have hc8 := hc7; have hf8 := hf7; have hz8 := hz7; have hb8 := hb7; have hya_8 := hya_7; clear hc7 hf7 hz7 hb7 hya_7)); (try (have hc7 := hc6; have hf7 := hf6; have hz7 := hz6; have hb7 := hb6; have hya_7 := hya_6; clear hc6 hf6 hz6 hb6 hya_6)); (try (have hc6 := hc5; have hf6 := hf5; have hz6 := hz5; have hb6 := hb5; have hya_6 := hya_5; clear hc5 hf5 hz5 hb5 hya_5)); (try (have hc5 := hc4; have hf5 := hf4; have hz5 := hz4; have hb5 := hb4; have hya_5 := hya_4; clear hc4 hf4 hz4 hb4 hya_4)); (try (have hc4 := hc3; have hf4 := hf3; have hz4 := hz3; have hb4 := hb3; have hya_4 := hya_3; clear hc3 hf3 hz3 hb3 hya_3)); (try (have hc3 := hc2; have hf3 := hf2; have hz3 := hz2; have hb3 := hb2; have hya_3 := hya_2; clear hc2 hf2 hz2 hb2 hya_2)); (try (have hc2 := hc1; have hf2 := hf1; have hz2 := hz1; have hb2 := hb1; have hya_2 := hya_1; clear hc1 hf1 hz1 hb1 hya_1)); rintro e w1 ⟨r1, rfl, hr1, hr2, hb1⟩; obtain ⟨hc1, hf1⟩ := bcell hb1; (try simp only [World.size_drew, World.cell?_drew, World.frozen?_drew] at hc1 hf1); have hz1 := hb1.size; (try simp at hz1); have hya_1 : w.heap.size < w1.heap.size := (by omega); have HBn : Hid (Below w.heap.size w w1) := Below.trans (by repeat (with_reducible first | exact HB.out | refine Below.alloc ?_ (by first | omega | (have := HB.out.size; omega) | (simp; done) | (have := HB.out.size; simp; omega)) _ | apply Below.drew)) (Below.mono hb1 (by have := HB.out.size; first | omega | (simp; done) | (simp; omega))); clear HB; have HB := HBn; clear HBn)))
    | ((go_at_call 100; ((with_reducible refine (C2.out _ _ (by omega) (by omega)).mono ?_); (try (have hc10 := hc9; have hf10 := hf9; have hz10 := hz9; have hb10 := hb9; have hya_10 := hya_9; clear hc9 hf9 hz9 hb9 hya_9)); (try (have hc9 := hc8; have hf9 := hf8; have hz9 := hz8; have hb9 := hb8; have hya_9 := hya_8; clear hc8 hf8 hz8 hb8 hya_8)); (try (have hc8 := hc7; have hf8 := hf7; have hz8 := hz7; have hb8 := hb7; have hya_8 := hya_7; clear hc7 hf7 hz7 hb7 hya_7)); (try (have hc7 := hc6; have hf7 := hf6; have hz7 := hz6; have hb7 := hb6; have hya_7 := hya_6; clear hc6 hf6 hz6 hb6 hya_6)); (try (have hc6 := hc5; have hf6 := hf5; have hz6 := hz5; have hb6 := hb5; have hya_6 := hya_5; clear hc5 hf5 hz5 hb5 hya_5)); (try (have hc5 := hc4; have hf5 := hf4; have hz5 := hz4; have hb5 := hb4; have hya_5 := hya_4; clear hc4 hf4 hz4 hb4 hya_4)); (try (have hc4 := hc3; have hf4 := hf3; have hz4 := hz3; have hb4 := hb3; have hya_4 := hya_3; clear hc3 hf3 hz3 hb3 hya_3)); (try (have hc3 := hc2; have hf3 := hf2; have hz3 := hz2; have hb3 := hb2; have hya_3 := hya_2; clear hc2 hf2 hz2 hb2 hya_2)); (try (have hc2 := hc1; have hf2 := hf1; have hz2 := hz1; have hb2 := hb1; have hya_2 := hya_1; clear hc1 hf1 hz1 hb1 hya_1)); rintro e w1 ⟨r2, ⟨rfl, hr3, hr4⟩, hb1⟩; obtain ⟨hc1, hf1⟩ := bcell hb1; (try simp only [World.size_drew, World.cell?_drew, World.frozen?_drew] at hc1 hf1); have hz1 := hb1.size; (try simp at hz1); have hya_1 : w.heap.size < w1.heap.size := (by omega); have HBn : Hid (Below w.heap.size w w1) := Below.trans (by repeat (with_reducible first | exact HB.out | refine Below.alloc ?_ (by first | omega | (have := HB.out.size; omega) | (simp; done) | (have := HB.out.size; simp; omega)) _ | apply Below.drew)) (Below.mono hb1 (by have := HB.out.size; first | omega | (simp; done) | (simp; omega))); clear HB; have HB := HBn; clear HBn))))
  all_goals go_ret
  · exact ⟨-1, ⟨rfl, by omega, fun h => absurd h (by omega)⟩, HB.out⟩
  · exact ⟨-1, ⟨rfl, by omega, fun h => absurd h (by omega)⟩, HB.out⟩
  · exact ⟨r2, ⟨rfl, by omega, fun h => by have := hr4 h; have := hr2 (by omega); rw [HC.out]; omega⟩, HB.out⟩
theorem szStepS (A : Option Addr) (g o cap : Nat) (ps : List SP) (left : Int) (w : World) (h : SpsA w g o A ps) (h0 : 0 ≤ left) (h1 : left ≤ 1048576) (hn : ps.length ≤ maxLen) (hs : FitP ps) : Calls Try.prog 34 #[.slice A ps.length cap, .int .i64 left] w fun e w' => ∃ r : Int, e = .returned (.int .i64 r) ∧ r ≤ left ∧ (0 ≤ r → r + (ps.length : Int) + (cntS ps : Int) ≤ left) ∧ Below w.heap.size w w' := by
  have H := Lib.hid h
  have HSH := Lib.hid hs
  clear h hs
  unfold maxLen at hn
  go_enter Try.func34, Try.ntmps34
  go_wp2
  · go_ret
    exact ⟨-1, rfl, by omega, fun h => absurd h (by omega), Below.refl _ _⟩
  · go_loopw [1, 5] (fun lx ix wr => ∃ (k : Nat) (r : Int) (t : Nat), k ≤ ps.length ∧ ix = .int .i64 k ∧ lx = .int .i64 r ∧ 0 ≤ r ∧ r + (ps.length : Int) + (t : Int) ≤ left ∧ Hid (cntS (ps.take k) = t) ∧ Hid (Below w.heap.size w wr)) (fun _ ix _ => ps.length - (intOf ix).toNat)
    case atStart => exact ⟨0, _, 0, Nat.zero_le _, rfl, rfl, by omega, by omega, rfl, Below.refl _ _⟩
    case round =>
      obtain ⟨k, r, t, hk, rfl, rfl, hr0, hr1, HT, HW⟩ := hrel
      by_cases hlt : k < ps.length
      · obtain ⟨rfl, hg, A1, c1, g1, o1, A2, c2, g2, o2, hc0, hc1, hc2, hc3, hc4, hc5, hf1, -⟩ := (H.out.below HW.out).at k hlt
        have HF := Lib.hid hf1
        obtain ⟨hrl, hrs, hrm⟩ := HSH.out _ (List.getElem_mem hlt)
        have HS := Lib.hid (sum_snoc cnt2 ps k hlt)
        obtain ⟨K, hK⟩ : ∃ K, ps[k] = K := ⟨_, rfl⟩
        rw [hK] at hc0 hc1 hc2 hc3 hc4 hc5 HF HS hrl hrm hrs
        clear hK hf1
        obtain ⟨s1, s2, s3, s4, es, ns⟩ := K
        simp only at hc0 hc1 hc2 hc3 hc4 hc5 HF hrl hrm hrs
        have C := Lib.hid (fun W hW => szStep s1 s2 s3 s4 A1 A2 g1 o1 c1 c2 es ns r W hW hr0 (by omega) hrl hrm hrs)
        obtain ⟨n1, hn1⟩ : ∃ n, cnt2 (s1, s2, s3, s4, es, ns) = n := ⟨_, rfl⟩
        rw [hn1] at C HS
        obtain ⟨kl, hkl⟩ : ∃ n, es.length = n := ⟨_, rfl⟩
        rw [hkl] at hc4 C
        obtain ⟨kr, hkr⟩ : ∃ n, ns.length = n := ⟨_, rfl⟩
        rw [hkr] at hc5 C
        clear hkl hkr hrl hrm hrs hn1
        have i0' : (0 : Int) ≤ (k : Int) := by omega
        have i1' : (k : Int) < (ps.length : Int) := by omega
        go_wp2_with (go_at_call 64; (with_reducible refine (C.out _ HF.out).mono ?_); rintro e w1 ⟨r2, ⟨rfl, hr2, hr3⟩, hb1⟩; have HW1 := Lib.hid (HW.out.trans (hb1.mono HW.out.size)); clear hb1 HW)
        · go_ret
          exact ⟨-1, rfl, by omega, fun h => absurd h (by omega), HW1.out⟩
        · go_round
          case rel => exact ⟨k + 1, r2, t + n1, by omega, by go_num, rfl, by omega, by have := hr3 (by omega); omega, by show _ = _; have h1 := HS.out; have h2 := HT.out; unfold cntS at h2 ⊢; rw [h1, h2], HW1⟩
          case measure => simp [intOf]; omega
      · obtain rfl : k = ps.length := by omega
        have HT2 : cntS ps = t := by have := HT.out; rwa [List.take_length] at this
        go_wp2
        go_ret
        exact ⟨r, rfl, by omega, fun _ => by omega, HW.out⟩
end Go.Proofs.Ytacinjbaebimhaa.Val
namespace Go.Proofs.Ytacinjbaebimhaa.Val
open Go.RowKit
set_option linter.unusedVariables false
set_option maxRecDepth 8000
/-- The marks of n columns. -/
def marksC (N n : Nat) : List CT := (List.range n).map fun (i : Nat) => ((N : Int) + 2 * (i : Int), (((N : Int) + 2 * (i : Int) + 1) % 3 == 0))
theorem marksC_len (N n : Nat) : (marksC N n).length = n := by simp [marksC]
theorem marksC_get (N n i : Nat) (h : i < n) : (flatC (marksC N n))[i * 2]? = some (.int .i64 ((N : Int) + 2 * i)) ∧ (flatC (marksC N n))[i * 2 + 1]? = some (.bool ((((N : Int) + 2 * (i : Int) + 1) % 3 == 0))) := by
  have hg := flatC_get (marksC N n) i (by rw [marksC_len]; exact h)
  have e : (marksC N n)[i]'(by rw [marksC_len]; exact h) = ((N : Int) + 2 * i, (((N : Int) + 2 * (i : Int) + 1) % 3 == 0)) := by simp [marksC]
  rw [e] at hg
  exact hg
set_option maxHeartbeats 1000000 in
theorem markColumnSK (N : Nat) (A : Option Addr) (g cap n : Nat) (w : World) (hl : N + 2 * n ≤ 7000000) (hA : 0 < n → A = some ⟨g, 0, none⟩) (hF : Fill w g (flatC (marksC N n)) 0) : Calls Try.prog 71 #[.slice A n cap, .int .i64 (N : Int)] w fun e w' => e = .returned (.int .i64 ((N : Int) + 2 * n)) ∧ (n = 0 → w' = w) ∧ Only g w w' ∧ Fill w' g (flatC (marksC N n)) (n * 2) := by
  have HA := Lib.hid hF
  have HAD := Lib.hid hA
  clear hF hA
  go_enter Try.func71, Try.ntmps71
  go_wp2
  go_loopw [1, 5] (fun kx ix wr => ∃ (k : Nat), k ≤ n ∧ ix = .int .i64 k ∧ kx = .int .i64 ((N : Int) + 2 * k) ∧ Hid (Fill wr g (flatC (marksC N n)) (k * 2)) ∧ Hid (k = 0 → wr = w) ∧ Hid (Only g w wr)) (fun _ ix _ => n - (intOf ix).toNat)
  case atStart => exact ⟨0, Nat.zero_le _, rfl, rfl, HA, fun _ => rfl, Only.refl _ _⟩
  case round =>
    obtain ⟨k, hk, rfl, rfl, HF, HZ, HO⟩ := hrel
    by_cases hlt : k < n
    · obtain rfl := HAD.out (by omega)
      obtain ⟨u0, u1⟩ := marksC_get N n k hlt
      have hlen : (flatC (marksC N n)).length = n * 2 := by rw [flatC_len, marksC_len]
      have F1 := Lib.hid (HF.out.set u0)
      have F2 := Lib.hid (F1.out.set u1)
      have O1 := Lib.hid (HO.out.trans (Only.set wr (k * 2) (.int .i64 ((N : Int) + 2 * k))))
      have O2 := Lib.hid (fun u => O1.out.trans (Only.set _ (k * 2 + 1) u))
      obtain ⟨⟨v0, hv0⟩, f0, -⟩ := HF.out (k * 2) (by omega)
      obtain ⟨⟨v1, hv1⟩, f1, -⟩ := F1.out (k * 2 + 1) (by omega)
      have e1 : Int.tmod ((N : Int) + 2 * k + 1) 3 = ((N : Int) + 2 * k + 1) % 3 := Int.tmod_eq_emod_of_nonneg (by omega)
      have i0' : (0 : Int) ≤ (k : Int) := by omega
      have i1' : (k : Int) < (n : Int) := by omega
      clear u0 u1 hlen
      go_wp2
      exact ⟨⟨k + 1, by omega, by go_num, by go_num, by rw [show (k + 1) * 2 = k * 2 + 1 + 1 by omega]; exact F2.out, fun h => absurd h (by omega), O2.out _⟩, by simp [intOf]; omega⟩
    · obtain rfl : k = n := by omega
      go_wp2
      go_ret
      exact ⟨rfl, HZ.out, HO.out, HF.out⟩
set_option maxHeartbeats 2000000 in
theorem markPartW (A : Option Addr) (g cap n : Nat) (z : Int) (w : World) (hz0 : 0 ≤ z) (hl : z + 5 * n ≤ 7900000) (hA : 0 < n → A = some ⟨g, 0, none⟩) (hF : Free w g (n * 5)) : Calls Try.prog 73 #[.slice A n cap, .int .i64 z] w fun e w' => ∃ r : Int, (e = .returned (.int .i64 r) ∧ 0 ≤ r ∧ r ≤ z + 5 * n) ∧ (n = 0 → w' = w) ∧ Only g w w' := by
  have HA := Lib.hid hF
  have HAD := Lib.hid hA
  clear hF hA
  go_enter Try.func73, Try.ntmps73
  go_wp2
  go_loopw [1, 5] (fun kx ix wr => ∃ (k : Nat) (r : Int), k ≤ n ∧ ix = .int .i64 k ∧ kx = .int .i64 r ∧ 0 ≤ r ∧ r ≤ z + 5 * k ∧ Hid (Free wr g (n * 5)) ∧ Hid (k = 0 → wr = w) ∧ Hid (Only g w wr)) (fun _ ix _ => n - (intOf ix).toNat)
  case atStart => exact ⟨0, z, Nat.zero_le _, rfl, rfl, hz0, by omega, HA, fun _ => rfl, Only.refl _ _⟩
  case round =>
    obtain ⟨k, r, hk, rfl, rfl, hr0, hr1, HF, HZ, HO⟩ := hrel
    by_cases hlt : k < n
    · obtain rfl := HAD.out (by omega)
      have F1 := Lib.hid (HF.out.set (k * 5) (.int .i64 r))
      have F2 := Lib.hid (F1.out.set (k * 5 + 1) (.int .i64 (r + 1)))
      have F3 := Lib.hid (F2.out.set (k * 5 + 2) (.int .i64 (r + 1 + 1)))
      have F4 := Lib.hid (F3.out.set (k * 5 + 3) (.int .i64 (r + 1 + 1 + 1)))
      have O1 := Lib.hid (HO.out.trans (Only.set wr (k * 5) (.int .i64 r)))
      have O2 := Lib.hid (O1.out.trans (Only.set _ (k * 5 + 1) (.int .i64 (r + 1))))
      have O3 := Lib.hid (O2.out.trans (Only.set _ (k * 5 + 2) (.int .i64 (r + 1 + 1))))
      have O4 := Lib.hid (O3.out.trans (Only.set _ (k * 5 + 3) (.int .i64 (r + 1 + 1 + 1))))
      obtain ⟨⟨v0, hv0⟩, f0⟩ := HF.out (k * 5) (by omega)
      obtain ⟨⟨v1, hv1⟩, f1⟩ := F1.out (k * 5 + 1) (by omega)
      obtain ⟨⟨v2, hv2⟩, f2⟩ := F2.out (k * 5 + 2) (by omega)
      obtain ⟨⟨v3, hv3⟩, f3⟩ := F3.out (k * 5 + 3) (by omega)
      have i0' : (0 : Int) ≤ (k : Int) := by omega
      have i1' : (k : Int) < (n : Int) := by omega
      go_wp2_with (go_at_call 111; (with_reducible refine (markTextZ _ _ (by omega) (by omega)).mono ?_); rintro e w3 ⟨s, rfl, hb3⟩; have F5 := Lib.hid (F4.out.below hb3); have O5 := Lib.hid (O4.out.trans (only_of_below hb3)); obtain ⟨⟨v4, hv4⟩, f4⟩ := F5.out (k * 5 + 4) (by omega); clear hb3)
      exact ⟨⟨k + 1, r + 1 + 1 + 1 + 1 + 1, by omega, by go_num, by go_num, by omega, by omega, F5.out.set _ _, fun h => absurd h (by omega), O5.out.trans (Only.set _ _ _)⟩, by simp [intOf]; omega⟩
    · obtain rfl : k = n := by omega
      go_wp2
      go_ret
      exact ⟨r, ⟨rfl, hr0, hr1⟩, HZ.out, HO.out⟩
def leafU (u : UT) : List Nat := u.1.1 :: u.2.2.2.map fun t => t.1
theorem leaf_blk {u : UT} {b : Nat} (h : b ∈ leafU u) : b ∈ blkU u := by
  simp only [leafU, blkU, List.mem_cons] at h ⊢
  rcases h with h | h
  · exact .inl h
  · exact .inr (.inr h)
theorem nodup_at {α : Type} {f : α → List Nat} {l : List α} (h : (l.flatMap f).Nodup) {i j : Nat} (hi : i < l.length) (hj : j < l.length) (hij : i ≠ j) {b : Nat} (hb : b ∈ f l[i]) : b ∉ f l[j] := by
  induction l generalizing i j with
  | nil => simp at hi
  | cons x l ih =>
    rw [List.flatMap_cons, List.nodup_append] at h
    intro hc
    cases i with
    | zero =>
      cases j with
      | zero => exact hij rfl
      | succ j => exact h.2.2 b hb b (List.mem_flatMap.2 ⟨_, List.getElem_mem (by simpa using hj), hc⟩) rfl
    | succ i =>
      cases j with
      | zero => exact h.2.2 b hc b (List.mem_flatMap.2 ⟨_, List.getElem_mem (by simpa using hi), hb⟩) rfl
      | succ j => exact ih h.2.1 (by simpa using hi) (by simpa using hj) (by omega) hb hc
theorem nodup_one {α : Type} {f : α → List Nat} {l : List α} (h : (l.flatMap f).Nodup) {x : α} (hx : x ∈ l) : (f x).Nodup := by
  induction l with
  | nil => simp at hx
  | cons y l ih =>
    rw [List.flatMap_cons, List.nodup_append] at h
    rcases List.mem_cons.1 hx with rfl | hx
    · exact h.1
    · exact ih h.2.1 hx
theorem OnlyT.trans {bs cs : List Nat} {w w1 w2 : World} (h : OnlyT bs w w1) (k : OnlyT cs w1 w2) (hs : ∀ b ∈ cs, b ∈ bs) : OnlyT bs w w2 :=
  ⟨k.os.trans h.os, k.tape.trans h.tape, k.output.trans h.output, Nat.le_trans h.size k.size, fun b hb hbb => (k.block b (Nat.lt_of_lt_of_le hb h.size) (fun e => hbb (hs b e))).trans (h.block b hb hbb)⟩
theorem TabO.onlyT {w w' : World} {B : Nat} {u : UT} {bs : List Nat} (h : TabO w B u) (ho : OnlyT bs w w') (hb : ∀ b ∈ blkU u, b ∉ bs) : TabO w' B u := h.keep ho.size fun b hm => ho.block b (h.hi b hm).2 (hb b hm)
theorem bag_only {w w' : World} {B g cap r : Nat} {T : List TT} {ls : List RT} (h : Bag w B g cap T ls) (ho : Only r w w') (hg : g ≠ r) (ht : ∀ t ∈ T, t.1 ≠ r) : Bag w' B g cap T ls :=
  h.keep ho.size (ho.block _ h.lo.2 hg) fun t hm => ho.block _ (h.rows t hm).hi (ht t hm)
theorem cntT_get (ts : List TB) (k : Nat) (h : k < ts.length) : cntT (ts.take k) + cnt1 ts[k] ≤ cntT ts := by
  have h1 := sum_snoc cnt1 ts k h
  have h2 : cntT (ts.take (k + 1)) + cntT (ts.drop (k + 1)) = cntT ts := by
    rw [cntT, cntT, cntT, ← List.sum_append, ← List.map_append, List.take_append_drop]
  unfold cntT at h2 ⊢
  omega
set_option maxHeartbeats 1000000 in
theorem markTableS (N B g cap n : Nat) (U : List UT) (ts : List TB) (w : World) (hN : 0 < N) (h : Tab w B g cap U ts) (hn : n = ts.length) (hl : N + 3 * cntT ts ≤ 7000000) (hl2 : ts.length ≤ 2000000) (hl3 : cntT ts ≤ 2000000) :
    Calls Try.prog 41 #[.slice (some ⟨g, 0, none⟩) n cap, .int .i64 (N : Int)] w fun e w' => ∃ M : Nat, (e = .returned (.int .i64 (M : Int)) ∧ 0 < M ∧ M ≤ N + 3 * cntT ts) ∧ OnlyT (U.flatMap leafU) w w' := by
  subst hn
  have HT := Lib.hid h
  have HUL := Lib.hid h.len
  have HEQ := Lib.hid h.eq
  have HND := Lib.hid h.nd
  have HNG := Lib.hid h.ng
  have hgs := h.lo.2
  have HOW := Lib.hid h.own
  have HTS : Hid (∀ j (hj : j < U.length), TabO w B U[j]) := fun j hj => h.tabs _ (List.getElem_mem hj)
  clear h HT
  go_enter Try.func41, Try.ntmps41
  go_wp2
  go_loopw [1, 5] (fun kx ix wr => ∃ (k K : Nat), k ≤ ts.length ∧ ix = .int .i64 k ∧ kx = .int .i64 (K : Int) ∧ 0 < K ∧ Hid (K ≤ N + 3 * cntT (ts.take k)) ∧ Hid (∀ j (hj : j < U.length), k ≤ j → TabO wr B U[j]) ∧ Hid (OnlyT (U.flatMap leafU) w wr)) (fun _ ix _ => ts.length - (intOf ix).toNat)
  case atStart => exact ⟨0, N, Nat.zero_le _, rfl, rfl, hN, Nat.le_add_right _ _, fun j hj _ => HTS.out j hj, OnlyT.refl _ _⟩
  case round =>
    clear HTS
    obtain ⟨k, K, hk, rfl, rfl, hK0, HK, HTB, HO⟩ := hrel
    by_cases hlt : k < ts.length
    · have hku : k < U.length := by rw [HUL.out]; exact hlt
      have hu := HTB.out k hku (Nat.le_refl _)
      have hng := HNG.out _ (List.getElem_mem hku)
      have hnn := nodup_one HND.out (List.getElem_mem hku)
      have hsub : ∀ b ∈ leafU U[k], b ∈ U.flatMap leafU := fun b hb => List.mem_flatMap.2 ⟨_, List.getElem_mem hku, hb⟩
      have hdis : ∀ j (hj : j < U.length), k + 1 ≤ j → ∀ b ∈ leafU U[k], b ∉ blkU U[j] := fun j hj hkj b hb => nodup_at HND.out hku hj (by omega) (leaf_blk hb)
      have hown := own_keep HOW.out (HO.out.block g hgs (fun e => by obtain ⟨v, hv, e⟩ := List.mem_flatMap.1 e; exact HNG.out v hv (leaf_blk e)))
      obtain ⟨q0, q1⟩ := flatU_get U k hku
      have hc0 : wr.cell? ⟨g, k * 2, none⟩ = some (hdC U[k]) := by rw [hown.cellAt _ (by omega), q0]
      have hc1 : wr.cell? ⟨g, k * 2 + 1, none⟩ = some (hdR U[k]) := by rw [hown.cellAt _ (by omega), q1]
      have hgr : g < wr.heap.size := World.block_lt_of_cell? wr ⟨g, k * 2, none⟩ hc0
      have hcnt := cntT_get ts k hlt
      have hsn := sum_snoc cnt1 ts k hlt
      have he : ts[k] = tbOf U[k] := by
        have h9 := HEQ.out
        have h8 : (U.map tbOf)[k]? = ts[k]? := by rw [h9]
        rw [List.getElem?_map, List.getElem?_eq_getElem hku, List.getElem?_eq_getElem hlt] at h8
        exact (Option.some.inj h8).symm
      rw [he] at hcnt hsn
      obtain ⟨V, hV⟩ : ∃ V, U[k] = V := ⟨_, rfl⟩
      rw [hV] at hu hng hnn hsub hdis hc0 hc1 hcnt hsn
      clear hV q0 q1 hown he
      obtain ⟨⟨gc, cc, cs⟩, gr, cr, T⟩ := V
      have hHK := HK.out
      have htot : total (rowsU ((gc, cc, cs), gr, cr, T)) = tot T := rfl
      have hc1t : cnt1 (tbOf ((gc, cc, cs), gr, cr, T)) = cs.length + T.length + tot T := by simp only [cnt1, tbOf, htot]; simp [rowsU]
      have hKb : K + 2 * cs.length ≤ 7000000 := by omega
      have hKc : K + 2 * cs.length + 3 * tot T ≤ 7000000 := by omega
      have HU := Lib.hid hu
      have FL := Lib.hid (hu.col.fill (ys := flatC (marksC K cs.length)) (by simp [flatC_len, marksC_len]))
      have C1 := Lib.hid (fun W hW => markColumnSK K (some ⟨gc, 0, none⟩) gc cc cs.length W hKb (fun _ => rfl) hW)
      obtain ⟨K1, hK1⟩ : ∃ K1 : Nat, K1 = K + 2 * cs.length := ⟨_, rfl⟩
      obtain ⟨K2, hK2⟩ : ∃ K2 : Nat, K2 = K1 + 3 * tot T := ⟨_, rfl⟩
      have C2 := Lib.hid (fun W ls (hW : Bag W B gr cr T ls) => markValueSS K1 B gr cr T.length T ls W (by omega) hW rfl (by omega) (by omega))
      have hk1 : (K : Int) + 2 * (cs.length : Int) = (K1 : Int) := by omega
      rw [hk1] at C1
      rw [← hK2] at C2
      have hd0 : hdC ((gc, cc, cs), gr, cr, T) = .slice (some ⟨gc, 0, none⟩) cs.length cc := rfl
      have hd1 : hdR ((gc, cc, cs), gr, cr, T) = .slice (some ⟨gr, 0, none⟩) T.length cr := rfl
      rw [hd0] at hc0
      rw [hd1] at hc1
      have hne1 : g ≠ gc := fun e => hng (by simp [blkU, e])
      have hne2 : gr ≠ gc := fun e => by simp [blkU, e] at hnn
      have hne3 : ∀ t ∈ T, t.1 ≠ gc := fun t ht e => by
        simp only [blkU, List.nodup_cons, List.mem_cons, List.mem_map] at hnn
        exact hnn.1 (.inr ⟨t, ht, e⟩)
      have hm1 : gc ∈ U.flatMap leafU := hsub _ (by simp [leafU])
      have hm2 : ∀ b ∈ T.map (fun t => t.1), b ∈ U.flatMap leafU := fun b hb => hsub _ (by simp only [leafU, List.mem_cons]; exact .inr hb)
      have HD := Lib.hid hdis
      have HSN := Lib.hid hsn
      have HC := Lib.hid hc1t
      clear hd0 hd1 hdis hsn hc1t hu hnn hng hsub htot
      obtain ⟨cl, hcl⟩ : ∃ n, cs.length = n := ⟨_, rfl⟩
      have HCL := Lib.hid hcl
      rw [hcl] at hc0 C1 FL
      obtain ⟨tl, htl⟩ : ∃ n, T.length = n := ⟨_, rfl⟩
      have HTL := Lib.hid htl
      rw [htl] at hc1 C2
      have hKK : 0 < K2 := by omega
      have i0' : (0 : Int) ≤ (k : Int) := by omega
      have i1' : (k : Int) < (ts.length : Int) := by omega
      have HKK : Hid (K2 ≤ N + 3 * cntT (ts.take (k + 1))) := by show _ ≤ _; have h1 := HSN.out; have h2 := HC.out; unfold cntT at hHK h1 ⊢; omega
      clear hcl htl hHK hcnt hKb hKc hK1 hK2 hk1
      go_wp2_with (first
        | (go_at_call 71; (with_reducible refine (C1.out _ FL.out).mono ?_); rintro e w1 ⟨rfl, hz, ho, hf⟩; have hc2 : w1.cell? ⟨g, k * 2 + 1, none⟩ = some (.slice (some ⟨gr, 0, none⟩) tl cr) := (ho.cell _ _ hgr hne1).trans hc1; have HBG := Lib.hid (bag_only HU.out.bag ho hne2 hne3); have HW1 := Lib.hid ho; clear hz ho hf)
        | (go_at_call 72; (with_reducible refine (C2.out _ _ HBG.out).mono ?_); rintro e w2 ⟨rfl, hbm, ho2⟩; have HW2 := Lib.hid ho2; clear hbm ho2))
      refine ⟨⟨k + 1, K2, by omega, by go_num, rfl, hKK, HKK, ?_, (HO.out.only HW1.out hm1).trans HW2.out hm2⟩, by simp [intOf]; omega⟩
      intro j hj hkj
      have h1 := HTB.out j hj (by omega)
      have h2 := h1.keep HW1.out.size fun b hb => HW1.out.block b (h1.hi b hb).2 (fun e => HD.out j hj hkj b (by rw [e]; simp [leafU]) hb)
      exact h2.onlyT HW2.out fun b hb hc => HD.out j hj hkj b (by simp only [leafU, List.mem_cons]; exact .inr hc) hb
    · obtain rfl : k = ts.length := by omega
      have HK2 := HK.out
      rw [List.take_length] at HK2
      go_wp2
      go_ret
      exact ⟨K, ⟨rfl, hK0, HK2⟩, HO.out⟩
theorem Free.far {w : World} {g n b : Nat} (h : Free w g n) (hb : g ≠ b) (j : Nat) (v : Value) : Free (w.setCell ⟨b, j, none⟩ v) g n :=
  fun i hi => ⟨⟨_, (cellOf (hsetNe hb)).trans (h i hi).1.choose_spec⟩, (frozenOf (hsetNe hb)).trans (h i hi).2⟩
theorem Free.onlyF {w w' : World} {g n r : Nat} (h : Free w g n) (ho : Only r w w') (hr : g ≠ r) : Free w' g n :=
  fun i hi => by
    obtain ⟨⟨v, hv⟩, hf⟩ := h i hi
    have hg := World.block_lt_of_cell? w ⟨g, i, none⟩ hv
    exact ⟨⟨v, (cellOf (ho.block g hg hr)).trans hv⟩, (frozenOf (ho.block g hg hr)).trans hf⟩
theorem cntS_get (ps : List SP) (k : Nat) (h : k < ps.length) : cntS (ps.take k) + cnt2 ps[k] ≤ cntS ps := by
  have h1 := sum_snoc cnt2 ps k h
  have h2 : cntS (ps.take (k + 1)) + cntS (ps.drop (k + 1)) = cntS ps := by
    rw [cntS, cntS, cntS, ← List.sum_append, ← List.map_append, List.take_append_drop]
  unfold cntS at h2 ⊢
  omega
/-- The headers of steps that can still be read. -/
def Heads (w : World) (g n : Nat) (U : List UP) : Prop := Free w g (n * 6) ∧ ∀ j (h : j < U.length), w.cell? ⟨g, j * 6 + 4, none⟩ = some (hdE U[j]) ∧ w.cell? ⟨g, j * 6 + 5, none⟩ = some (hdL U[j])
theorem Heads.keep {w w' : World} {g n : Nat} {U : List UP} (h : Heads w g n U) (hk : w'.heap[g]? = w.heap[g]?) : Heads w' g n U :=
  ⟨fun j hj => ⟨⟨_, (cellOf hk).trans (h.1 j hj).1.choose_spec⟩, (frozenOf hk).trans (h.1 j hj).2⟩, fun j hj => ⟨(cellOf hk).trans (h.2 j hj).1, (cellOf hk).trans (h.2 j hj).2⟩⟩
theorem Heads.set {w : World} {g n : Nat} {U : List UP} (h : Heads w g n U) (k m : Nat) (hm : m < 4) (v : Value) : Heads (w.setCell ⟨g, k * 6 + m, none⟩ v) g n U :=
  ⟨h.1.set _ v, fun j hj => ⟨(World.cell?_setCell_other _ _ _ _ (offNe (.inl (by omega)))).trans (h.2 j hj).1, (World.cell?_setCell_other _ _ _ _ (offNe (.inl (by omega)))).trans (h.2 j hj).2⟩⟩
theorem OnlyT.set {bs : List Nat} {w w1 : World} (h : OnlyT bs w w1) {g j : Nat} {v : Value} (hg : g ∈ bs) : OnlyT bs w (w1.setCell ⟨g, j, none⟩ v) := h.only (Only.set _ _ _) hg
set_option maxHeartbeats 4000000 in
theorem markStepS (z : Int) (B g cap n : Nat) (U : List UP) (ps : List SP) (w : World) (hz0 : 0 ≤ z) (h : Stp w B g cap U ps) (hn : n = ps.length) (hl : z + 5 * (ps.length + cntS ps : Nat) ≤ 7000000) (hl2 : ps.length + cntS ps ≤ 1048576) :
    Calls Try.prog 42 #[.slice (some ⟨g, 0, none⟩) n cap, .int .i64 z] w fun e w' => ∃ r : Int, (e = .returned (.int .i64 r) ∧ 0 ≤ r ∧ r ≤ z + 5 * (ps.length + cntS ps : Nat)) ∧ OnlyT (g :: U.flatMap blkS) w w' := by
  subst hn
  have HUL := Lib.hid h.len
  have HEQ := Lib.hid h.eq
  have HND := Lib.hid h.nd
  have HNG := Lib.hid h.ng
  have hgs := h.lo.2
  have HTS : Hid (∀ j (hj : j < U.length), StpO w B U[j]) := fun j hj => h.stps _ (List.getElem_mem hj)
  have HH0 : Hid (Heads w g ps.length U) := by
    have hul := h.len
    refine ⟨fun j hj => ⟨?_, h.own.frozenAt j⟩, fun j hj => ?_⟩
    · rw [h.own.cellAt j hj, List.getElem?_eq_getElem (by rw [flatS_len]; omega)]; exact ⟨_, rfl⟩
    · obtain ⟨-, -, -, -, q4, q5⟩ := flatS_get U j hj
      exact ⟨by rw [h.own.cellAt _ (by omega), q4], by rw [h.own.cellAt _ (by omega), q5]⟩
  clear h
  go_enter Try.func42, Try.ntmps42
  go_wp2
  go_loopw [1, 5] (fun kx ix wr => ∃ (k : Nat) (r : Int), k ≤ ps.length ∧ ix = .int .i64 k ∧ kx = .int .i64 r ∧ 0 ≤ r ∧ Hid (r ≤ z + 5 * (k + cntS (ps.take k) : Nat)) ∧ Hid (Heads wr g ps.length U) ∧ Hid (∀ j (hj : j < U.length), k ≤ j → StpO wr B U[j]) ∧ Hid (OnlyT (g :: U.flatMap blkS) w wr)) (fun _ ix _ => ps.length - (intOf ix).toNat)
  case atStart => exact ⟨0, z, Nat.zero_le _, rfl, rfl, hz0, by show _ ≤ _; simp [cntS], HH0, fun j hj _ => HTS.out j hj, OnlyT.refl _ _⟩
  case round =>
    clear HTS HH0
    obtain ⟨k, r, hk, rfl, rfl, hr0, HK, HH, HTB, HO⟩ := hrel
    by_cases hlt : k < ps.length
    · have hku : k < U.length := by rw [HUL.out]; exact hlt
      have hu := HTB.out k hku (Nat.le_refl _)
      have hng := HNG.out _ (List.getElem_mem hku)
      have hnn := nodup_one HND.out (List.getElem_mem hku)
      have hsub : ∀ b ∈ blkS U[k], b ∈ g :: U.flatMap blkS := fun b hb => List.mem_cons_of_mem _ (List.mem_flatMap.2 ⟨_, List.getElem_mem hku, hb⟩)
      have hdis : ∀ j (hj : j < U.length), k + 1 ≤ j → ∀ b ∈ blkS U[k], b ∉ blkS U[j] := fun j hj hkj b hb => nodup_at HND.out hku hj (by omega) hb
      have hcnt := cntS_get ps k hlt
      have hsn := sum_snoc cnt2 ps k hlt
      have he : ps[k] = spOf U[k] := by
        have h9 := HEQ.out
        have h8 : (U.map spOf)[k]? = ps[k]? := by rw [h9]
        rw [List.getElem?_map, List.getElem?_eq_getElem hku, List.getElem?_eq_getElem hlt] at h8
        exact (Option.some.inj h8).symm
      rw [he] at hcnt hsn
      have hhd := fun W (hW : Heads W g ps.length U) => hW.2 k hku
      have HG : Hid (∀ j (hj : j < U.length), g ∉ blkS U[j]) := fun j hj => HNG.out _ (List.getElem_mem hj)
      obtain ⟨V, hV⟩ : ∃ V, U[k] = V := ⟨_, rfl⟩
      rw [hV] at hu hng hnn hsub hdis hcnt hsn hhd
      clear hV he
      obtain ⟨⟨n1, n2, n3, n4⟩, ⟨ge, ce, es⟩, gl, cl, ns⟩ := V
      have hHK := HK.out
      have hc1t : cnt2 (spOf ((n1, n2, n3, n4), (ge, ce, es), gl, cl, ns)) = es.length + ns.length := rfl
      have hb1 : r + 5 * es.length + 100 ≤ 7900000 := by omega
      have hb2 : ns.length ≤ 1048576 := by omega
      have FE := Lib.hid (show Free wr ge (es.length * 5) from by have := hu.e.free; rwa [flatP_len] at this)
      have FN := Lib.hid (show Free wr gl ns.length from by have := hu.l.free; rwa [List.length_map] at this)
      have hne1 : ge ≠ g := fun e => hng (by simp [blkS, e])
      have hne2 : gl ≠ g := fun e => hng (by simp [blkS, e])
      have hne3 : gl ≠ ge := fun e => by simp [blkS, e] at hnn
      have hd0 : hdE ((n1, n2, n3, n4), (ge, ce, es), gl, cl, ns) = .slice (some ⟨ge, 0, none⟩) es.length ce := rfl
      have hd1 : hdL ((n1, n2, n3, n4), (ge, ce, es), gl, cl, ns) = .slice (some ⟨gl, 0, none⟩) ns.length cl := rfl
      rw [hd0, hd1] at hhd
      have HHD := Lib.hid hhd
      have C1 := Lib.hid (fun (r2 : Int) W (h2 : 0 ≤ r2) (h3 : r2 + 5 * es.length ≤ 7900000) hW => markPartW (some ⟨ge, 0, none⟩) ge ce es.length r2 W h2 h3 (fun _ => rfl) hW)
      have C2 := Lib.hid (fun (r2 : Int) W (h2 : 0 ≤ r2) (h3 : r2 ≤ 900000000) hW => markIntF (some ⟨gl, 0, none⟩) gl cl ns.length r2 W h2 h3 hb2 (fun _ => rfl) hW)
      have hm0 : g ∈ g :: U.flatMap blkS := by simp
      have hm1 : ge ∈ g :: U.flatMap blkS := hsub _ (by simp [blkS])
      have hm2 : gl ∈ g :: U.flatMap blkS := hsub _ (by simp [blkS])
      have HD := Lib.hid hdis
      have HSN := Lib.hid hsn
      have HC := Lib.hid hc1t
      clear hd0 hd1 hdis hsn hc1t hu hnn hng hsub hhd
      obtain ⟨el, hel⟩ : ∃ n, es.length = n := ⟨_, rfl⟩
      have HEL := Lib.hid hel
      rw [hel] at FE C1 HHD hb1
      obtain ⟨nl, hnl⟩ : ∃ n, ns.length = n := ⟨_, rfl⟩
      have HNL := Lib.hid hnl
      rw [hnl] at FN C2 HHD hb2
      have i0' : (0 : Int) ≤ (k : Int) := by omega
      have i1' : (k : Int) < (ps.length : Int) := by omega
      have hgr : g < wr.heap.size := by have := HO.out.size; omega
      obtain ⟨⟨v0, hv0⟩, f0⟩ := HH.out.1 (k * 6) (by omega)
      obtain ⟨⟨v1, hv1⟩, f1⟩ := HH.out.1 (k * 6 + 1) (by omega)
      obtain ⟨⟨v2, hv2⟩, f2⟩ := HH.out.1 (k * 6 + 2) (by omega)
      obtain ⟨⟨v3, hv3⟩, f3⟩ := HH.out.1 (k * 6 + 3) (by omega)
      obtain ⟨x4, x5⟩ := HHD.out _ HH.out
      clear hel hnl hHK hcnt
      go_wp2_with (first
        | (go_at_call 73; (with_reducible refine (C1.out _ _ (by omega) (by omega) (by repeat (with_reducible first | exact FE.out | refine Free.far ?_ hne1 _ _))).mono ?_); rintro e w1 ⟨r1, ⟨rfl, hr1, hr2⟩, hz, ho⟩; have H1 : Hid (Heads w1 g ps.length U) := Heads.keep ((((HH.out.set k 0 (by omega) (.int .i64 r)).set k 1 (by omega) (.int .i64 (r + 1))).set k 2 (by omega) (.int .i64 (r + 1 + 1))).set k 3 (by omega) (.int .i64 (r + 1 + 1 + 1))) (ho.block g (by simp [World.setCell]; exact hgr) (Ne.symm hne1)); obtain ⟨y4, y5⟩ := HHD.out _ H1.out; have FN1 := Lib.hid (Free.onlyF ((((FN.out.far hne2 (k * 6) (.int .i64 r)).far hne2 (k * 6 + 1) (.int .i64 (r + 1))).far hne2 (k * 6 + 2) (.int .i64 (r + 1 + 1))).far hne2 (k * 6 + 3) (.int .i64 (r + 1 + 1 + 1))) ho hne3); have HW1 := Lib.hid ho; clear hz ho)
        | (go_at_call 74; (with_reducible refine (C2.out _ _ (by omega) (by omega) FN1.out).mono ?_); rintro e w2 ⟨r2, ⟨rfl, hr3, hr4⟩, hz2, ho2⟩; have HW2 := Lib.hid ho2; clear hz2 ho2))
      have hs1 := HW1.out.size
      have hs2 := HW2.out.size
      simp [World.setCell] at hs1
      have HO4 := (((HO.out.set (j := k * 6) (v := .int .i64 r) hm0).set (j := k * 6 + 1) (v := .int .i64 (r + 1)) hm0).set (j := k * 6 + 2) (v := .int .i64 (r + 1 + 1)) hm0).set (j := k * 6 + 3) (v := .int .i64 (r + 1 + 1 + 1)) hm0
      refine ⟨⟨k + 1, r2, by omega, by go_num, rfl, hr3, ?_, H1.out.keep (HW2.out.block g (by omega) (Ne.symm hne2)), ?_, (HO4.only HW1.out hm1).only HW2.out hm2⟩, by simp [intOf]; omega⟩
      · show _ ≤ _
        have h1 := HSN.out
        have h2 := HC.out
        have h3 := HK.out
        have h4 := HEL.out
        have h5 := HNL.out
        unfold cntS at h3 ⊢
        omega
      · intro j hj hkj
        have h1 := HTB.out j hj (by omega)
        refine h1.keep (by omega) fun b hb => ?_
        have hlt2 := (h1.hi b hb).2
        have hbg : b ≠ g := fun e => HG.out j hj (by rw [← e]; exact hb)
        have h2 := HW1.out.block b (by simp [World.setCell]; exact hlt2) (fun e => HD.out j hj hkj b (by rw [e]; simp [blkS]) hb)
        have h3 := HW2.out.block b (by omega) (fun e => HD.out j hj hkj b (by rw [e]; simp [blkS]) hb)
        exact h3.trans (h2.trans ((hsetNe hbg).trans ((hsetNe hbg).trans ((hsetNe hbg).trans (hsetNe hbg)))))
    · obtain rfl : k = ps.length := by omega
      have HK2 := HK.out
      rw [List.take_length] at HK2
      go_wp2
      go_ret
      exact ⟨r, ⟨rfl, hr0, HK2⟩, HO.out⟩
end Go.Proofs.Ytacinjbaebimhaa.Val
