/- What drawing a batch leaves (l20Batch). -/
import Derived.Test.YtjidkjnlnenmbaaDrawGG
import Derived.Test.YtjidkjnlnenmbaaBatC
import Derived.Deep.RegionLaw
import Derived.BigRegion
namespace Go.Proofs.Ytjidkjnlnenmbaa.Val
open Go.RowKit
set_option linter.unusedVariables false
set_option linter.unusedSimpArgs false
set_option maxRecDepth 20000
theorem BoxW.only {x r : Nat} {u v : Value} {w w' : World} (h : BoxW x u v w) (hr : x ≠ r) (ho : Only r w w') : BoxW x u v w' := h.keep (ho.block _ h.lt hr)
theorem BoxW.drew {x : Nat} {u v : Value} {w : World} (h : BoxW x u v w) : BoxW x u v w.drew := h.below ((Below.refl _ _).drew)
theorem BagV.only {w w' : World} {B r : Nat} {v : Value} {T : List TT} {ls : List RT} (h : BagV w B v T ls) (hr : r < B) (ho : Only r w w') : BagV w' B v T ls :=
  h.keep ho.size fun b hb => ho.block _ (h.hi b hb).2 (by have := (h.hi b hb).1; omega)
/-- A batch that lies, behind its headers. -/
def FinB (w : World) (cols : List RT) (bs : List Bool) (v v2 : Value) : Prop := ∃ (A1 : Option Addr) (c1 g1 : Nat) (A2 : Option Addr) (c2 g2 : Nat), v = .slice A1 cols.length c1 ∧ v2 = .slice A2 bs.length c2 ∧ BatR w A1 g1 0 A2 g2 0 cols bs
theorem rws_of_own {w : World} {B : Nat} {v : Value} {T : List TT} {n : Nat} (h : w.ownsRow B 53 1 v n (T.map hdr)) (hn : n = T.length) (hr : ∀ t ∈ T, Fl w t.1 0 (some ⟨t.1, 0, none⟩) (flatV t.2.2)) : ∃ (A : Option Addr) (c g : Nat), v = .slice A n c ∧ Rws w g 0 A (T.map fun t => t.2.2) := by
  have hh := h
  rcases h.2 with ⟨hv, h0⟩ | ⟨g, cap, cur, rfl, -⟩
  · have hT : T = [] := List.eq_nil_of_length_eq_zero (by omega)
    subst hT
    exact ⟨none, 0, 0, by rw [hv, h0], ⟨fun h => absurd h (by simp), fun j hj => absurd hj (by simp)⟩⟩
  · refine ⟨_, cap, g, rfl, ⟨fun _ => rfl, fun j hj => ?_⟩⟩
    have hj2 : j < T.length := by simpa using hj
    refine ⟨T[j].2.1, T[j].1, 0, ?_, ?_⟩
    · rw [Nat.zero_add, hh.cellAt j (by omega), List.getElem?_map, List.getElem?_eq_getElem hj2]
      simp [hdr]
    · simp only [List.getElem_map]; exact hr _ (List.getElem_mem hj2)
theorem finB_of {w : World} {B B2 : Nat} {v v2 : Value} {T : List TT} {n : Nat} {bs : List Bool} (h : w.ownsRow B 53 1 v n (T.map hdr)) (hn : n = T.length) (hr : ∀ t ∈ T, Fl w t.1 0 (some ⟨t.1, 0, none⟩) (flatV t.2.2)) (h2 : w.ownsRow B2 4 1 v2 bs.length (bs.map tv)) : FinB w (T.map fun t => t.2.2) bs v v2 := by
  obtain ⟨A, c, g, rfl, hrw⟩ := rws_of_own h hn hr
  obtain ⟨g2, A2, c2, rfl, hf, -⟩ := fl_of_own h2
  exact ⟨A, c, g, A2, c2, g2, by rw [List.length_map, hn], rfl, hrw, hf⟩
theorem Small9.app {m : Nat} {ls : List RT} {x : RT} (h : ∀ x ∈ ls, x.length = m ∧ Texts x) (hx : x.length = m ∧ Texts x) : ∀ y ∈ ls ++ [x], y.length = m ∧ Texts y := fun y hy => by
  rcases List.mem_append.1 hy with hy | hy
  · exact h y hy
  · obtain rfl := List.mem_singleton.1 hy; exact hx
theorem own_someB {w : World} {B n c size : Nat} {e : TypeId} {A : Option Addr} {xs : List Value} (h : w.ownsRow B e size (.slice A n c) n xs) (hn : 0 < n) : ∃ g, A = some ⟨g, 0, none⟩ := by
  rcases h.2 with ⟨hv, h0⟩ | ⟨g, cap, cur, hv, -⟩
  · omega
  · injection hv with h1 h2 h3
    exact ⟨g, h1⟩
theorem own_at {w : World} {B n c g : Nat} {e : TypeId} {xs : List Value} (h : w.ownsRow B e 1 (.slice (some ⟨g, 0, none⟩) n c) n xs) (k : Nat) (hk : k < n) : ∃ v, w.cell? ⟨g, k, none⟩ = some v :=
  ⟨xs[k]'(by rw [h.1]; omega), by rw [h.cellAt k (by omega), List.getElem?_eq_getElem]⟩
/-- A batch's rows at the draw's end: from block N on. -/
structure EndB (w : World) (N : Nat) (va vb : Value) (T : List TT) (bs : List Bool) : Prop where
  own : w.ownsRow N 53 1 va T.length (T.map hdr)
  fl : ∀ t ∈ T, Fl w t.1 0 (some ⟨t.1, 0, none⟩) (flatV t.2.2) ∧ N ≤ t.1
  pk : w.ownsRow N 4 1 vb bs.length (bs.map tv)
theorem EndB.setFar {w : World} {N b : Nat} {va vb : Value} {T : List TT} {bs : List Bool} (h : EndB w N va vb T bs) (hb : b < N) (j : Nat) (u : Value) : EndB (w.setCell ⟨b, j, none⟩ u) N va vb T bs :=
  ⟨own_setFar h.own hb, fun t ht => ⟨(h.fl t ht).1.keep fun _ i => cellOf (hsetNe (by have := (h.fl t ht).2; omega)), (h.fl t ht).2⟩, own_setFar h.pk hb⟩
theorem BagV.fls {w : World} {B : Nat} {v : Value} {T : List TT} {ls : List RT} (h : BagV w B v T ls) : ∀ t ∈ T, Fl w t.1 0 (some ⟨t.1, 0, none⟩) (flatV t.2.2) ∧ B ≤ t.1 := fun t ht => ⟨(h.rows t ht).fl, (h.rows t ht).lo⟩
theorem EndB.setNe {w : World} {N b : Nat} {va vb : Value} {T : List TT} {bs : List Bool} (h : EndB w N va vb T bs) (h1 : va.ownBlock ≠ some b) (h2 : vb.ownBlock ≠ some b) (h3 : ∀ t ∈ T, t.1 ≠ b) (j : Nat) (u : Value) : EndB (w.setCell ⟨b, j, none⟩ u) N va vb T bs :=
  ⟨own_block h.own fun k hk => hsetNe (fun e => h1 (by rw [hk, e])), fun t ht => ⟨(h.fl t ht).1.keep fun _ i => cellOf (hsetNe (h3 t ht)), (h.fl t ht).2⟩, own_block h.pk fun k hk => hsetNe (fun e => h2 (by rw [hk, e]))⟩
theorem EndB.grownV {w w' : World} {N g' c' m n : Nat} {v vb : Value} {T T2 : List TT} {ls : List RT} {bs : List Bool} (h : BagV w N v T ls) (h2 : w.ownsRow N 4 1 vb m (bs.map tv)) (hm : bs.length = m) (hs : ∀ b ∈ blkV v T, vb.ownBlock ≠ some b) (hgr : w.grownBy w' v.ownBlock) (hn : n = (T ++ T2).length)
    (hown : w'.ownsRow N 53 1 (.slice (some ⟨g', 0, none⟩) n c') n (T.map hdr ++ T2.map hdr)) (hT2 : ∀ t ∈ T2, Fl w' t.1 0 (some ⟨t.1, 0, none⟩) (flatV t.2.2) ∧ N ≤ t.1) : EndB w' N (.slice (some ⟨g', 0, none⟩) n c') vb (T ++ T2) bs := by
  subst hn
  refine ⟨by rw [List.map_append]; exact hown, fun t ht => ?_, ?_⟩
  · rcases List.mem_append.1 ht with ht | ht
    · have hr := h.rows t ht
      exact ⟨hr.fl.keep fun _ i => cellOf (hgr.block _ hr.hi (fun e => h.ng t ht e.symm)), hr.lo⟩
    · exact hT2 t ht
  · rw [hm]
    exact own_block h2 fun k hk => hgr.block k (own_hi h2 k hk).2 (fun e => hs k (List.mem_append.2 (.inl (by simp [← e]))) hk)
theorem EndB.grownP {w w' : World} {N g' c' n : Nat} {v vb : Value} {T : List TT} {ls : List RT} {bs : List Bool} (h : BagV w N v T ls) (hs : ∀ b ∈ blkV v T, vb.ownBlock ≠ some b) (hgr : w.grownBy w' vb.ownBlock) (hn : n = bs.length)
    (hown : w'.ownsRow N 4 1 (.slice (some ⟨g', 0, none⟩) n c') n (bs.map tv)) : EndB w' N v (.slice (some ⟨g', 0, none⟩) n c') T bs := by
  subst hn
  have h2 : BagV w' N v T ls := h.keep hgr.size fun b hb => hgr.block b (h.hi b hb).2 (fun e => hs b hb e.symm)
  exact ⟨by have := h2.own; rwa [← h2.len] at this, h2.fls, hown⟩
theorem EndB.fin {w : World} {N : Nat} {va vb : Value} {T : List TT} {bs : List Bool} (h : EndB w N va vb T bs) : FinB w (T.map fun t => t.2.2) bs va vb := finB_of h.own rfl (fun t ht => (h.fl t ht).1) h.pk
theorem endB_of {w : World} {N : Nat} {va vb : Value} {T : List TT} {ls : List RT} {bs : List Bool} {m : Nat} (h : BagV w N va T ls) (h2 : w.ownsRow N 4 1 vb m (bs.map tv)) (hm : bs.length = m) : EndB w N va vb T bs :=
  ⟨by have := h.own; rwa [← h.len] at this, h.fls, by rw [hm]; exact h2⟩
theorem EndB.drew {w : World} {N : Nat} {va vb : Value} {T : List TT} {bs : List Bool} (h : EndB w N va vb T bs) : EndB w.drew N va vb T bs := ⟨h.own, fun t ht => ⟨(h.fl t ht).1.drew, (h.fl t ht).2⟩, h.pk⟩
theorem EndB.keepN {w w' : World} {N : Nat} {va vb : Value} {T : List TT} {bs : List Bool} (h : EndB w N va vb T bs) (hk : ∀ k, N ≤ k → k < w.heap.size → w'.heap[k]? = w.heap[k]?) : EndB w' N va vb T bs :=
  ⟨own_block h.own fun k hv => hk k (own_hi h.own k hv).1 (own_hi h.own k hv).2, fun t ht => ⟨(h.fl t ht).1.keep fun hg _ => cellOf (hk _ (h.fl t ht).2 hg), (h.fl t ht).2⟩, own_block h.pk fun k hv => hk k (own_hi h.pk k hv).1 (own_hi h.pk k hv).2⟩
theorem fl_zero {W : World} {t : TypeId} : Fl (W.alloc (.cells #[.int .i64 0, .int .i64 0, .string ⟨#[]⟩] t)) W.heap.size 0 (some ⟨W.heap.size, 0, none⟩) (flatV [nilV]) := by
  refine ⟨fun _ => rfl, fun j hj => ?_⟩
  rw [Nat.zero_add]
  have hj3 : j < 3 := hj
  rcases (by omega : j = 0 ∨ j = 1 ∨ j = 2) with rfl | rfl | rfl <;> exact cell_newX rfl
theorem fl_set3 {w : World} {g : Nat} {A : Option Addr} {v : VT} {vs : List VT} (h : Fl w g 0 A (flatV (v :: vs))) (k n : Int) (s : ByteArray) :
    Fl (((w.setCell ⟨g, 0, none⟩ (.int .i64 k)).setCell ⟨g, 1, none⟩ (.int .i64 n)).setCell ⟨g, 2, none⟩ (.string s)) g 0 A (flatV ((k, n, s) :: vs)) := by
  have hl := flatV_len (v :: vs)
  have hl2 := flatV_len ((k, n, s) :: vs)
  simp only [List.length_cons] at hl hl2
  have hc := fun j (hj : j < (flatV (v :: vs)).length) => (by have := h.c j hj; rwa [Nat.zero_add] at this : w.cell? ⟨g, j, none⟩ = some (flatV (v :: vs))[j])
  have c0 := hc 0 (by omega)
  have c1 := hc 1 (by omega)
  have c2 := hc 2 (by omega)
  refine ⟨fun _ => h.ad (by omega), fun j hj => ?_⟩
  rw [Nat.zero_add]
  match j, hj with
  | 0, hj => rw [World.cell?_setCell_other _ _ _ _ (offNe (by omega)), World.cell?_setCell_other _ _ _ _ (offNe (by omega)), World.cell?_setCell_same _ _ _ c0]; rfl
  | 1, hj => rw [World.cell?_setCell_other _ _ _ _ (offNe (by omega)), World.cell?_setCell_same _ _ _ (by rw [World.cell?_setCell_other _ _ _ _ (offNe (by omega))]; exact c1)]; rfl
  | 2, hj => rw [World.cell?_setCell_same _ _ _ (by rw [World.cell?_setCell_other _ _ _ _ (offNe (by omega)), World.cell?_setCell_other _ _ _ _ (offNe (by omega))]; exact c2)]; rfl
  | j + 3, hj =>
    rw [World.cell?_setCell_other _ _ _ _ (offNe (by omega)), World.cell?_setCell_other _ _ _ _ (offNe (by omega)), World.cell?_setCell_other _ _ _ _ (offNe (by omega))]
    rw [hc (j + 3) (by omega)]
    simp [flatV_cons]
theorem endB_put {w : World} {N tb tc m : Nat} {va vb : Value} {v9 : VT} {vs9 : List VT} {T0 : List TT} {ls : List RT} {bs : List Bool} (h : BagV w N va ((tb, tc, v9 :: vs9) :: T0) ls) (h2 : w.ownsRow N 4 1 vb m (bs.map tv)) (hm : bs.length = m) (hs : ∀ b ∈ blkV va ((tb, tc, v9 :: vs9) :: T0), vb.ownBlock ≠ some b) (xk xn : Int) (xs : ByteArray) :
    EndB (((w.setCell ⟨tb, 0, none⟩ (.int .i64 xk)).setCell ⟨tb, 1, none⟩ (.int .i64 xn)).setCell ⟨tb, 2, none⟩ (.string xs)) N va vb ((tb, tc, (xk, xn, xs) :: vs9) :: T0) bs := by
  have hk : ∀ b, b ≠ tb → (((w.setCell ⟨tb, 0, none⟩ (.int .i64 xk)).setCell ⟨tb, 1, none⟩ (.int .i64 xn)).setCell ⟨tb, 2, none⟩ (.string xs)).heap[b]? = w.heap[b]? := fun b hb => ((hsetNe hb).trans (hsetNe hb)).trans (hsetNe hb)
  have hnd := h.nd
  rw [List.map_cons, List.nodup_cons] at hnd
  refine ⟨?_, fun t ht => ?_, ?_⟩
  · have h1 := h.own
    rw [← h.len] at h1
    exact own_block h1 fun k hv => hk k (fun e => h.ng _ (List.mem_cons_self ..) (by rw [hv, e]))
  · rcases List.mem_cons.1 ht with rfl | ht
    · exact ⟨fl_set3 (h.rows _ (List.mem_cons_self ..)).fl xk xn xs, (h.rows _ (List.mem_cons_self ..)).lo⟩
    · have hr := h.rows t (List.mem_cons_of_mem _ ht)
      exact ⟨hr.fl.keep fun _ i => cellOf (hk _ (fun e => hnd.1 (List.mem_map.2 ⟨t, ht, e⟩))), hr.lo⟩
  · rw [hm]
    exact own_block h2 fun k hv => hk k (fun e => hs tb (List.mem_append.2 (.inr (by simp))) (by rw [hv, e]))
theorem short_set {v9 v : VT} {vs9 : List VT} (h : Short (v9 :: vs9)) (hv : v.2.2.size ≤ maxLen) : Short (v :: vs9) := by
  intro i hi
  match i, hi with
  | 0, _ => exact hv
  | i + 1, hi => exact h (i + 1) hi
theorem short_nil : Short [nilV] := by
  intro i hi
  have h0 : i = 0 := by simp at hi; omega
  subst h0
  show (0 : Nat) ≤ maxLen
  exact Nat.zero_le _
theorem l20ValueEnters (vs : Array Value) (w : World) : (callFunc 118 vs).run Try.prog w = .ok (.enter 118 vs) w := by
  go_simp
/-- A batch was drawn. -/
def DrewCB (B r : Nat) (p : Int) (w : World) (e : Ending) (w' : World) : Prop := ∃ (g c : Nat) (cs : List CT) (cols : List RT) (bs : List Bool) (v v2 : Value) (q : Int), e = .returned (.tuple #[.slice (some ⟨g, 0, none⟩) cs.length c, .agg #[v, v2]]) ∧ cs.length ≤ 3 ∧ Fl w' g 0 (some ⟨g, 0, none⟩) (flatC cs) ∧ (∀ W', (∀ k, w.heap.size ≤ k → k < w'.heap.size → W'.heap[k]? = w'.heap[k]?) → FinB W' cols bs v v2) ∧ Ok2 cols ∧ cols.length ≤ 6 ∧ bs.length ≤ 5 ∧ q ≤ p + 20000 ∧ Only r w w' ∧ RdOk B r w' q
theorem drewCB_of {B r N Y g c : Nat} {p q : Int} {w W : World} {cs : List CT} {va vb : Value} {T : List TT} {bs : List Bool} (hE : EndB W N va vb T bs) (hYN : Y < N) (hO : Only r w W) (hYw : w.heap.size ≤ Y) (hR : RdOk B r W q) (hrY : r < Y) (hF : Fl W g 0 (some ⟨g, 0, none⟩) (flatC cs)) (hgY : g ≠ Y) (h3 : cs.length ≤ 3) (hT : ∀ t ∈ T, t.2.2.length ≤ 10 ∧ Short t.2.2) (hTl : T.length ≤ 6) (hb : bs.length ≤ 5) (hq : q ≤ p + 20000) :
    DrewCB B r p w (.returned (.tuple #[.slice (some ⟨g, 0, none⟩) cs.length c, .agg #[va, vb]])) ((W.setCell ⟨Y, 0, none⟩ va).setCell ⟨Y, 1, none⟩ vb).drew :=
  ⟨g, c, cs, T.map (fun t => t.2.2), bs, va, vb, q, rfl, h3, ((hF.keep fun _ j => cellOf (hsetNe hgY)).keep fun _ j => cellOf (hsetNe hgY)).drew, fun W' hk => (((hE.setFar hYN 0 va).setFar hYN 1 vb).drew.keepN (fun k h1 h2 => hk k (by omega) h2)).fin,
    ⟨by rw [List.length_map]; omega, fun r hr => by obtain ⟨t, ht, rfl⟩ := List.mem_map.1 hr; exact ⟨by have := (hT t ht).1; omega, (hT t ht).2⟩⟩, by rw [List.length_map]; exact hTl, hb, hq, ((hO.setNew (p := ⟨Y, 0, none⟩) hYw _).setNew (p := ⟨Y, 1, none⟩) hYw _).drew, ((hR.setFar (a := ⟨Y, 0, none⟩) hrY _).setFar (a := ⟨Y, 1, none⟩) hrY _).drew⟩
set_option maxHeartbeats 8000000 in
theorem l20Batch (B r : Nat) (n p : Int) (w : World) (h : RdOk B r w p) (hp : p ≤ 1000000) (hn : n ≤ 1000) : Calls Try.prog 88 #[.pointer (some ⟨r, 0, none⟩), .int .i64 n] w (DrewCB B r p w) := by
  obtain ⟨i0, hi, iz0, iz1, iz2⟩ := info_parts infoVS
  obtain ⟨i2, hpp, pz0, pz1, pz2⟩ := info_parts infoTv
  have hlt := h.lt
  have hge := h.ge
  have hp0 := h.p0
  have HR := Lib.hid (h.alloc (.cells #[.slice none 0 0, .slice none 0 0] 30))
  have HO := Lib.hid ((Only.refl r w).alloc (.cells #[.slice none 0 0, .slice none 0 0] 30))
  have HY : Hid (BoxW w.heap.size (.slice none 0 0) (.slice none 0 0) (w.alloc (.cells #[.slice none 0 0, .slice none 0 0] 30))) := ⟨⟨by simp [go_sem], by simp [go_sem]⟩, by simp [go_sem], by simp [go_sem]⟩
  clear h
  go_enter Try.func88, Try.ntmps88
  go_wp2_with (first
    | (go_at_call 91; (with_reducible refine (l20ColumnsG B r p _ (by repeat (with_reducible first | exact HR.out | apply RdOk.alloc | apply RdOk.drew | (refine RdOk.setFar ?_ (by first | omega | (simp; done) | (simp; omega)) _))) (by omega)).mono ?_); rintro e w1 ⟨cs, g, c, q, rfl, h0, h3, hkc, -, -, hg, hf, -, hq, ho, hr⟩; have HOn := Lib.hid (Only.trans (by repeat (with_reducible first | exact HO.out | apply Only.alloc | apply Only.drew | (refine Only.setNew ?_ (by first | omega | (simp; done) | (simp; omega)) _))) ho); have K0 := Lib.hid (by first | exact HY.out.only (by omega) ho | exact (HY.out.alloc _).only (by omega) ho | exact (HY.out.drew).only (by omega) ho); clear HY; have HY := K0; clear K0; clear HO HR; have HO := HOn; have HR := Lib.hid hr; clear HOn hr; have HF := Lib.hid hf; have hgr : g ≠ r := (by simp at hg; omega); have hgY : w.heap.size < g := (by simp at hg; omega); have hyg := HY.out.lt; have BW : Hid (BagW (w1.alloc (.cells #[] 53)) w1.heap.size w1.heap.size 0 [] []) := ⟨rfl, own_empty3 53 1 rfl (Nat.le_refl _), fun t ht => absurd ht (by simp), fun t ht => absurd ht (by simp)⟩; obtain ⟨B1, hB1⟩ : ∃ n, w1.heap.size = n := ⟨_, rfl⟩; rw [hB1] at BW hyg; have hgB := hf.lt (by rw [flatC_len]; omega); rw [hB1] at hgB; clear hf; clear ho)
    | (go_at_call 93; (with_reducible refine (pick B r 5 q _ (by repeat (with_reducible first | exact HR.out | apply RdOk.alloc | apply RdOk.drew | (refine RdOk.setFar ?_ (by first | omega | (simp; done) | (simp; omega)) _))) (by omega)).mono ?_); rintro e w1 ⟨m, rfl, hm0, hm1, hm2, ho, hr⟩; have HOn := Lib.hid (Only.trans (by repeat (with_reducible first | exact HO.out | apply Only.alloc | apply Only.drew | (refine Only.setNew ?_ (by first | omega | (simp; done) | (simp; omega)) _))) ho); have K0 := Lib.hid (Fl.only (by (repeat (with_reducible first | exact HF.out | apply Fl.alloc | apply Fl.drew))) ho (by omega)); clear HF; have HF := K0; clear K0; have K0 := Lib.hid (by first | exact BW.out.only (by omega) ho | exact (BW.out.alloc _).only (by omega) ho | exact (BW.out.drew).only (by omega) ho); clear BW; have BW := K0; clear K0; have K0 := Lib.hid (by first | exact HY.out.only (by omega) ho | exact (HY.out.alloc _).only (by omega) ho | exact (HY.out.drew).only (by omega) ho); clear HY; have HY := K0; clear K0; clear HO HR; have HO := HOn; have HR := Lib.hid hr; clear HOn hr; have hm1 := hm1 (by omega); clear hm2; clear ho))
  have hB1r : r < B1 := by omega
  go_loopw [7, 8] (fun ox kx wr => ∃ (K : Int) (g1 c1 : Nat) (T : List TT) (o : List RT) (q1 : Int), kx = .int .i64 K ∧ 0 ≤ K ∧ K ≤ 4 ∧ (o.length : Int) + K ≤ 4 ∧ ox = .slice (some ⟨g1, 0, none⟩) o.length c1 ∧ q1 ≤ q + 1 + 3000 * (o.length : Int) ∧ Hid (BagW wr B1 g1 c1 T o) ∧ Hid (∀ x ∈ o, x.length = cs.length ∧ Texts x) ∧ Hid (BoxW w.heap.size (.slice none 0 0) (.slice none 0 0) wr) ∧ Hid (Fl wr g 0 (some ⟨g, 0, none⟩) (flatC cs)) ∧ Hid (RdOk B r wr q1) ∧ Hid (Only r w wr)) (fun _ kx _ => (intOf kx).toNat)
  case atStart => exact ⟨_, B1, 0, [], [], _, rfl, by omega, by omega, by simp; omega, rfl, by simp, BW, fun x hx => absurd hx (by simp), HY, HF, HR, HO⟩
  case round =>
    clear BW HR HO HY HF
    obtain ⟨K, g1, c1, T, o, q1, rfl, hK0, hK1, hKO, rfl, hq1, BW, SM, HY, HF, HR, HO⟩ := hrel
    have hq0 := HR.out.p0
    have hws := HO.out.size
    have hb1 := BW.out.lo
    have hyl := HY.out.lt
    obtain ⟨ol, hol⟩ : ∃ n, o.length = n := ⟨_, rfl⟩
    have HOL := Lib.hid hol
    rw [hol] at hKO hq1 ⊢
    by_cases hK : 0 < K
    · clear hol
      go_wp2_with (first
        | (go_at_call 116; (with_reducible refine (l20FitG B r g c cs _ _ (by repeat (with_reducible first | exact HR.out | apply RdOk.alloc | apply RdOk.drew | (refine RdOk.setFar ?_ (by first | omega | (simp; done) | (simp; omega)) _))) (by omega) hkc HF.out hgr h0 (by omega)).mono ?_); rintro e w1 ⟨vs, g2, c2, q2, rfl, k1, kft, kt, kc, kc2, kg, kf, kq, ho, hr⟩; have HOn := Lib.hid (Only.trans (by repeat (with_reducible first | exact HO.out | apply Only.alloc | apply Only.drew | (refine Only.setNew ?_ (by first | omega | (simp; done) | (simp; omega)) _))) ho); have K0 := Lib.hid (Fl.only (by (repeat (with_reducible first | exact HF.out | apply Fl.alloc | apply Fl.drew))) ho (by omega)); clear HF; have HF := K0; clear K0; have K0 := Lib.hid (by first | exact BW.out.only (by omega) ho | exact (BW.out.alloc _).only (by omega) ho | exact (BW.out.drew).only (by omega) ho); clear BW; have BW := K0; clear K0; have K0 := Lib.hid (by first | exact HY.out.only (by omega) ho | exact (HY.out.alloc _).only (by omega) ho | exact (HY.out.drew).only (by omega) ho); clear HY; have HY := K0; clear K0; clear HO HR; have HO := HOn; have HR := Lib.hid hr; clear HOn hr; have k0 : 0 < vs.length := (by omega); have k1u : vs.length ≤ cs.length := (by omega); clear kft; have HK1 := Lib.hid k1; clear k1; have KF := Lib.hid (RowF.of (c := c2) (B := B1) kf k0 (by omega)); have KG := kg; have KT := Lib.hid kt; clear kf kt; clear ho)
        | (at_builtin; go_loud (refine wpList_append_block _ rfl (.tmp 20) (.tmp 24) 28 rfl B1 53 i0 (.slice none 0 0) 1 24 Try.underlying28 hi iz0 iz1 iz2 rfl (by decide) g1 ol c1 (T.map hdr) rfl (by have h := BW.out.own; rw [HOL.out] at h; exact h.alloc _) _ 1 1 [.slice (some ⟨g2, 0, none⟩) vs.length c2] rfl rfl (news_new (by first | rfl | simp)) (by simp [Value.oneCell']) (by unfold maxLen; omega) (by omega) (by have := BW.out.lo; first | omega | (simp; omega)) ?_); intro g3 c3 w3 hown hgr3 hgg; have HOWN := Lib.hid hown; have HGR := Lib.hid hgr3; have HGG := Lib.hid hgg; clear hown hgr3 hgg))
      have hb2 := BW.out.lo
      have BW3 := Lib.hid (BagW.push (t := (g2, c2, vs)) (BW.out.alloc _) (KF.out.alloc _) (by simp only; omega) (by rw [HOL.out]) HOWN.out HGR.out HGG.out)
      have HR3 := Lib.hid (rd_grown (HR.out.alloc _) HGR.out (fun k hk => by obtain rfl := Option.some.inj hk; omega))
      have HO3 := Lib.hid (Only.grown (HO.out.alloc _) HGR.out (fun k hk => by obtain rfl := Option.some.inj hk; omega))
      have HY3 := Lib.hid ((HY.out.alloc (.cells #[.slice (some ⟨g2, 0, none⟩) vs.length c2] 53)).grown HGR.out (fun e => by have := Option.some.inj e; omega))
      have HF3 := Lib.hid ((HF.out.alloc (.cells #[.slice (some ⟨g2, 0, none⟩) vs.length c2] 53)).keep (fun hg9 j => World.cell?_of_block (a := ⟨g, j, none⟩) (HGR.out.block _ hg9 (fun e => by have h9 := Option.some.inj e; simp only at h9; omega))))
      exact ⟨⟨K - 1, g3, c3, _, o ++ [vs], _, by go_num, by omega, by omega, by simp [HOL.out]; omega, by simp [HOL.out], by simp [HOL.out]; omega, BW3, Small9.app SM.out ⟨HK1.out, KT.out⟩, HY3, HF3, HR3, HO3⟩, by simp [intOf]; omega⟩
    · have hcol : cs.length ≤ 3 := h3
      have OKO : Ok2 o := ⟨by omega, fun x hx => ⟨by have := (SM.out x hx).1; omega, (SM.out x hx).2.short⟩⟩
      have C9 := Lib.hid (fun W hW => l9Batch (some ⟨g1, 0, none⟩) g1 0 c1 o cs.length W hW OKO (by omega) (fun x hx => by have := (SM.out x hx).1; omega))
      unfold RetB9 at C9
      rw [hol] at C9
      have HSC := Lib.hid (fun j => short_acr (ls := o) (fun x hx => (SM.out x hx).2.short) j)
      clear hol
      have hwb := BW.out.lo
      go_wp2_with (first
        | (go_at_call 108; go_loud (with_reducible refine (C9.out _ BW.out.rws).mono ?_); rintro e w9 ⟨v, v2, T9, ⟨rfl, hbv, hown2, hsep⟩, hb9⟩; go_loud (obtain ⟨A1, d1, hv1⟩ := own_form hbv.own; rw [List.length_map, List.length_range] at hv1; subst hv1; obtain ⟨A2, d2, hv2⟩ := own_form hown2; rw [List.length_replicate] at hv2; subst hv2; have HV9 := Lib.hid hbv; have HO9 := Lib.hid hown2; have HSP := Lib.hid hsep; have HY9 := Lib.hid (HY.out.below hb9); have HF9 := Lib.hid (HF.out.below hb9); have HR9 := Lib.hid (rdUnder HR.out hb9); have HN9 := Lib.hid (HO.out.trans (onlyBelow hb9)); have hw9 := hb9.size; clear hbv hown2 hsep hb9)))
      obtain ⟨N0, hN0⟩ : ∃ n, wr.heap.size = n := ⟨_, rfl⟩
      rw [hN0] at HV9 HO9 hw9 hws hyl hwb
      have HBX := Lib.hid (own_hi HO9.out)
      have HVX := Lib.hid (show ∀ b ∈ blkV (.slice A1 cs.length d1) T9, b < w9.heap.size from fun b hb => (HV9.out.hi b hb).2)
      have hrN : r < N0 := by omega
      have hXN : N0 ≤ w9.heap.size := hw9
      have HX0 : Hid (BoxW w9.heap.size (.slice A1 cs.length d1) (.slice A2 ol d2) (w9.alloc (.cells #[.slice A1 cs.length d1, .slice A2 ol d2] 30))) := ⟨⟨by simp [go_sem], by simp [go_sem]⟩, by simp [go_sem], by simp [go_sem]⟩
      have HY0 := Lib.hid (HY9.out.alloc (.cells #[.slice A1 cs.length d1, .slice A2 ol d2] 30))
      have HV0 := Lib.hid (HV9.out.alloc (.cells #[.slice A1 cs.length d1, .slice A2 ol d2] 30))
      have HO0 := Lib.hid (own_below HO9.out ((Below.refl w9.heap.size w9).alloc (Nat.le_refl _) (.cells #[.slice A1 cs.length d1, .slice A2 ol d2] 30)))
      rw [List.length_replicate] at HO0
      have HF0 := Lib.hid (HF9.out.alloc (.cells #[.slice A1 cs.length d1, .slice A2 ol d2] 30))
      have HR0 := Lib.hid (HR9.out.alloc (.cells #[.slice A1 cs.length d1, .slice A2 ol d2] 30))
      have HN1 := Lib.hid (HN9.out.alloc (.cells #[.slice A1 cs.length d1, .slice A2 ol d2] 30))
      obtain ⟨X, hX⟩ : ∃ n, w9.heap.size = n := ⟨_, rfl⟩
      rw [hX] at HX0 hXN HBX HVX ⊢
      clear hX
      clear HY9 HV9 HO9 HF9 HR9 HN9 C9 BW hK
      go_loopw [10] (fun ix wr => ∃ (k : Nat) (q2 : Int) (bs : List Bool), ix = .int .i64 k ∧ k ≤ ol ∧ q2 ≤ q1 + (k : Int) ∧ Hid (bs.length = ol) ∧ Hid (BoxW w.heap.size (.slice none 0 0) (.slice none 0 0) wr) ∧ Hid (BoxW X (.slice A1 cs.length d1) (.slice A2 ol d2) wr) ∧ Hid (BagV wr N0 (.slice A1 cs.length d1) T9 ((List.range cs.length).map (acr o))) ∧ Hid (wr.ownsRow N0 4 1 (.slice A2 ol d2) ol (bs.map tv)) ∧ Hid (Fl wr g 0 (some ⟨g, 0, none⟩) (flatC cs)) ∧ Hid (RdOk B r wr q2) ∧ Hid (Only r w wr)) (fun ix _ => ol - (intOf ix).toNat)
      case atStart => exact ⟨0, q1, List.replicate ol true, by first | rfl | exact congrArg (Value.int .i64) rfl, Nat.zero_le _, by simp, List.length_replicate, HY0, HX0, HV0, HO0, HF0, HR0, HN1⟩
      case round =>
        clear HY HF HR HO HY0 HX0 HV0 HO0 HF0 HR0 HN1
        obtain ⟨k, q2, bs, rfl, hk, hq2, HBL, HY, HX, HV, HP, HF, HR, HO⟩ := hrel
        have hq20 := HR.out.p0
        by_cases hlt : k < ol
        · obtain ⟨gp, rfl⟩ := own_someB HP.out (by omega)
          have hgp := own_hi HP.out gp rfl
          obtain ⟨⟨b0, b1⟩, f0, f1⟩ := HX.out
          have hxl := HX.out.lt
          have i0' : (0 : Int) ≤ (k : Int) := by omega
          have i1' : (k : Int) < (ol : Int) := by omega
          have hd : Only r wr wr.drew := (Only.refl r wr).drew
          have HRd := Lib.hid (HR.out.drew)
          have HOd := Lib.hid (HO.out.drew)
          go_wp2_with (fail)
          go_region_law (first | (refine step_call rfl 93 _ _ rfl pickEnters #[.pointer (some ⟨r, 0, none⟩), .int .i64 3] rfl (pick B r 3 _ _ HRd.out (by omega)) ?_; rintro e w1 ⟨m3, rfl, h30, h31, -, ho, hr⟩; go_loud (have h31 := h31 (by omega); have hor := hd.trans ho; have HYn := Lib.hid (HY.out.only (by omega) hor); have HXn := Lib.hid (HX.out.only (by omega) hor); have HVn := Lib.hid (HV.out.only hrN hor); have HPn := Lib.hid (own_only2 HP.out hrN hor); have HFn := Lib.hid (HF.out.only hor (fun _ => hgr)); have HRn := Lib.hid hr; have HOn := Lib.hid (HO.out.trans hor); have hsz1 := hor.size; obtain ⟨y9, hy9⟩ := own_at HPn.out k (by omega); have hz9 := HPn.out.frozenAt k; clear ho hr hor b0 b1 f0 f1; obtain ⟨⟨b0, b1⟩, f0, f1⟩ := HXn.out); refine ⟨_, rfl, ?_⟩))
          all_goals go_wp2
          all_goals (have hgX := (HBX.out gp rfl).2; have hgr2 : g ≠ gp := by omega)
          all_goals (refine ⟨⟨k + 1, q2 + 1, bs.set k (decide (0 < m3)), by go_num, by omega, by omega, (by show _ = _; rw [List.length_set]; exact HBL.out), HYn.out.keep (hsetNe (by omega)), HXn.out.keep (hsetNe (by omega)), HVn.out.keep (by simp [World.setCell]) (fun b hb => hsetNe (fun e => HSP.out b hb (by simp [Value.ownBlock, e]))), (by show World.ownsRow _ _ _ _ _ _ _; rw [List.map_set]; exact (HPn.out.stored k (.bool _)).1), HFn.out.keep (fun _ j => cellOf (hsetNe hgr2)), HRn.out.setFar (by show r < gp; omega) _, HOn.out.setNew (by show w.heap.size ≤ gp; omega) _⟩, by simp [intOf]; omega⟩)
        · obtain rfl : k = ol := by omega
          have hXl := HX.out.lt
          have hyr : w.heap.size ≠ r := by omega
          have hxr : X ≠ r := by omega
          have hYN : w.heap.size < N0 := by omega
          obtain ⟨⟨b0, b1⟩, f0, f1⟩ := HX.out
          obtain ⟨gv, rfl⟩ := own_someB (show wr.ownsRow N0 53 1 (.slice A1 cs.length d1) cs.length (T9.map hdr) from by have h := HV.out.own; rwa [List.length_map, List.length_range] at h) h0
          have HTX := Lib.hid (show ∀ t ∈ T9, t.1 < X from fun t ht => HVX.out _ (List.mem_append.2 (.inr (List.mem_map_of_mem ht))))
          have OBV := Lib.hid (show ∀ b, (Value.slice (some ⟨gv, 0, none⟩) cs.length d1).ownBlock = some b → N0 ≤ b ∧ b < X from fun b hb => ⟨(own_hi HV.out.own b hb).1, HVX.out b (List.mem_append.2 (.inl (by simp [hb])))⟩)
          have HTL := Lib.hid (show T9.length = cs.length from by rw [HV.out.len, List.length_map, List.length_range])
          have HTQ := Lib.hid (show ∀ t ∈ T9, t.2.2.length = k from fun t ht => by
            have h1 : t.2.2 ∈ (List.range cs.length).map (acr o) := by rw [← HV.out.eq]; exact List.mem_map_of_mem (f := fun t : TT => t.2.2) ht
            obtain ⟨j, -, h2⟩ := List.mem_map.1 h1
            rw [← h2, acr_len, HOL.out])
          have HTS := Lib.hid (show ∀ t ∈ T9, t.2.2.length ≤ 10 ∧ Short t.2.2 from fun t ht => by
            have h1 : t.2.2 ∈ (List.range cs.length).map (acr o) := by rw [← HV.out.eq]; exact List.mem_map_of_mem (f := fun t : TT => t.2.2) ht
            obtain ⟨j, -, h2⟩ := List.mem_map.1 h1
            rw [← h2]
            exact ⟨by rw [acr_len, HOL.out]; omega, HSC.out j⟩)
          go_wp2_with (first
            | (go_at_call 117; (with_reducible refine (oddA B r n _ _ (by repeat (with_reducible first | exact HR.out | apply RdOk.alloc | apply RdOk.drew | (refine RdOk.setFar ?_ (by first | omega | (simp; done) | (simp; omega)) _))) (by omega) hn).mono ?_); rintro e w1 ⟨vo, qo, rfl, hqo, -, ho, hr⟩; have HOn := Lib.hid (Only.trans (by repeat (with_reducible first | exact HO.out | apply Only.alloc | apply Only.drew | (refine Only.setNew ?_ (by first | omega | (simp; done) | (simp; omega)) _))) ho); have K0 := Lib.hid (own_only2 (by repeat (with_reducible first | exact HP.out | apply World.ownsRow.alloc | apply own_drew)) (by omega) ho); clear HP; have HP := K0; clear K0; have K0 := Lib.hid (Fl.only (by (repeat (with_reducible first | exact HF.out | apply Fl.alloc | apply Fl.drew))) ho (by omega)); clear HF; have HF := K0; clear K0; have K0 := Lib.hid (by first | exact HX.out.only (by omega) ho | exact (HX.out.alloc _).only (by omega) ho | exact (HX.out.drew).only (by omega) ho); clear HX; have HX := K0; clear K0; have K0 := Lib.hid (by first | exact HY.out.only (by omega) ho | exact (HY.out.alloc _).only (by omega) ho | exact (HY.out.drew).only (by omega) ho); clear HY; have HY := K0; clear K0; have K0 := Lib.hid (by first | exact HV.out.only (by omega) ho | exact (HV.out.alloc _).only (by omega) ho | exact (HV.out.drew).only (by omega) ho); clear HV; have HV := K0; clear K0; clear HO HR; have HO := HOn; have HR := Lib.hid hr; clear HOn hr; (try clear b0 b1 f0 f1); obtain ⟨⟨b0, b1⟩, f0, f1⟩ := HX.out; have hxl1 := HX.out.lt; have hqo0 := HR.out.p0; clear ho)
            | (go_at_call 93; (with_reducible refine (pick B r 4 _ _ (by repeat (with_reducible first | exact HR.out | apply RdOk.alloc | apply RdOk.drew | (refine RdOk.setFar ?_ (by first | omega | (simp; done) | (simp; omega)) _))) (by omega)).mono ?_); rintro e w1 ⟨m4, rfl, h40, h41, -, ho, hr⟩; have HOn := Lib.hid (Only.trans (by repeat (with_reducible first | exact HO.out | apply Only.alloc | apply Only.drew | (refine Only.setNew ?_ (by first | omega | (simp; done) | (simp; omega)) _))) ho); have K0 := Lib.hid (own_only2 (by repeat (with_reducible first | exact HP.out | apply World.ownsRow.alloc | apply own_drew)) (by omega) ho); clear HP; have HP := K0; clear K0; have K0 := Lib.hid (Fl.only (by (repeat (with_reducible first | exact HF.out | apply Fl.alloc | apply Fl.drew))) ho (by omega)); clear HF; have HF := K0; clear K0; have K0 := Lib.hid (by first | exact HX.out.only (by omega) ho | exact (HX.out.alloc _).only (by omega) ho | exact (HX.out.drew).only (by omega) ho); clear HX; have HX := K0; clear K0; have K0 := Lib.hid (by first | exact HY.out.only (by omega) ho | exact (HY.out.alloc _).only (by omega) ho | exact (HY.out.drew).only (by omega) ho); clear HY; have HY := K0; clear K0; have K0 := Lib.hid (by first | exact HV.out.only (by omega) ho | exact (HV.out.alloc _).only (by omega) ho | exact (HV.out.drew).only (by omega) ho); clear HV; have HV := K0; clear K0; clear HO HR; have HO := HOn; have HR := Lib.hid hr; clear HOn hr; have h41 := h41 (by omega); (try clear b0 b1 f0 f1); obtain ⟨⟨b0, b1⟩, f0, f1⟩ := HX.out; have hxl1 := HX.out.lt; clear ho)
            | (at_builtin; refine wpList_append_any _ rfl (.tmp 58) (.tmp 59) 23 rfl N0 4 i2 (.bool false) 1 1 Try.underlying23 hpp pz0 pz1 pz2 rfl (by decide) (.slice A2 k d2) k (bs.map tv) rfl (HP.out.alloc _) _ 1 1 [.bool true] rfl (by decide) rfl (news_new (by first | rfl | simp)) (by simp [Value.oneCell']) (by unfold maxLen; omega) (by omega) (by first | omega | (simp; done) | (simp; omega)) ?_; intro g4 c4 w4 hown hgr4 hgg; go_loud (have hvb : (Value.slice A2 k d2).ownBlock ≠ some X := (fun e => by have := (HBX.out X e).2; omega); have hvb0 : (Value.slice A2 k d2).ownBlock ≠ some w.heap.size := (fun e => by have := (HBX.out _ e).1; omega); have HX4 := Lib.hid (((HX.out.alloc _)).grown hgr4 hvb); have HR4 := Lib.hid (rd_grown ((HR.out.alloc _)) hgr4 (fun b hb => by have := (HBX.out b hb).1; omega)); have HO4 := Lib.hid (Only.grown ((HO.out.alloc _)) hgr4 (fun b hb => by have := (HBX.out b hb).1; omega)); have HY4 := Lib.hid (((HY.out.alloc _)).grown hgr4 hvb0); have HF4 := Lib.hid (((HF.out.alloc _)).keep (fun hg9 j => World.cell?_of_block (a := ⟨g, j, none⟩) (hgr4.block _ hg9 (fun e => by have h9 := (HBX.out g e.symm).1; omega)))); have ED := Lib.hid (EndB.grownP (bs := bs ++ [true]) (HV.out.alloc (.cells #[.bool true] 4)) HSP.out hgr4 (n := k + 1) (by rw [List.length_append, HBL.out]; rfl) (by rw [List.map_append]; exact hown)); have hgX : g4 ≠ X := (hgg.elim (fun h => by have := (HBX.out g4 h).2; omega) (fun h => by simp at h; omega)); clear hown hgr4 hgg b0 b1 f0 f1; obtain ⟨⟨b0, b1⟩, f0, f1⟩ := HX4.out; have hxl4 := HX4.out.lt))
            | (at_builtin; refine wpList_append_any _ rfl (.tmp 65) (.tmp 68) 28 rfl N0 53 i0 (.slice none 0 0) 1 24 Try.underlying28 hi iz0 iz1 iz2 rfl (by decide) (.slice (some ⟨gv, 0, none⟩) cs.length d1) cs.length (T9.map hdr) rfl (by have h := HV.out.own; rw [List.length_map, List.length_range] at h; exact (h.alloc _).alloc _) _ 1 1 [.slice (some ⟨w1.heap.size, 0, none⟩) 1 1] rfl (by decide) rfl (news_new (by first | rfl | simp)) (by simp [Value.oneCell']) (by unfold maxLen; omega) (by omega) (by first | omega | (simp; done) | (simp; omega)) ?_; intro g4 c4 w4 hown hgr4 hgg; go_loud (have hvb : (Value.slice (some ⟨gv, 0, none⟩) cs.length d1).ownBlock ≠ some X := (fun e => by have := (OBV.out X e).2; omega); have hvb0 : (Value.slice (some ⟨gv, 0, none⟩) cs.length d1).ownBlock ≠ some w.heap.size := (fun e => by have := (OBV.out _ e).1; omega); have HX4 := Lib.hid ((((HX.out.alloc _).alloc _)).grown hgr4 hvb); have HR4 := Lib.hid (rd_grown (((HR.out.alloc _).alloc _)) hgr4 (fun b hb => by have := (OBV.out b hb).1; omega)); have HO4 := Lib.hid (Only.grown (((HO.out.alloc _).alloc _)) hgr4 (fun b hb => by have := (OBV.out b hb).1; omega)); have HY4 := Lib.hid ((((HY.out.alloc _).alloc _)).grown hgr4 hvb0); have HF4 := Lib.hid ((((HF.out.alloc _).alloc _)).keep (fun hg9 j => World.cell?_of_block (a := ⟨g, j, none⟩) (hgr4.block _ hg9 (fun e => by have h9 := (OBV.out g e.symm).1; omega)))); have hsz4 := hgr4.size; (try simp at hsz4); have hgX : g4 ≠ X := (hgg.elim (fun h => by have := (OBV.out g4 h).2; omega) (fun h => by simp at h; omega)); have ED := Lib.hid (EndB.grownV (T2 := [(w1.heap.size, 1, [nilV])]) ((HV.out.alloc (.cells #[.int .i64 0, .int .i64 0, .string ⟨#[]⟩] 73)).alloc (.cells #[.slice (some ⟨w1.heap.size, 0, none⟩) 1 1] 53)) ((HP.out.alloc _).alloc _) HBL.out HSP.out hgr4 (n := cs.length + 1) (by rw [List.length_append, HTL.out]; rfl) hown (fun t ht => by obtain rfl := List.mem_singleton.1 ht; exact ⟨(fl_zero.alloc _).keep (fun hg9 j => World.cell?_of_block (a := ⟨w1.heap.size, j, none⟩) (hgr4.block _ hg9 (fun e => by have h9 := (OBV.out _ e.symm).2; simp only at h9; omega))), by simp only; omega⟩)); have J2 : w1.heap.size ≠ X := (by omega); have HNW := Lib.hid J2; clear hown hgr4 hgg b0 b1 f0 f1; obtain ⟨⟨b0, b1⟩, f0, f1⟩ := HX4.out; have hxl4 := HX4.out.lt))
            | (at_builtin; refine wpList_append_any _ rfl (.tmp 50) (.tmp 52) 28 rfl N0 53 i0 (.slice none 0 0) 1 24 Try.underlying28 hi iz0 iz1 iz2 rfl (by decide) (.slice (some ⟨gv, 0, none⟩) cs.length d1) cs.length (T9.map hdr) rfl (by have h := HV.out.own; rw [List.length_map, List.length_range] at h; exact h) ⟨gv, 0, none⟩ cs.length d1 (T9.map hdr) rfl h0 (by rw [List.length_map, HTL.out]; omega) (World.ownsRow.cells (by have h := HV.out.own; rw [List.length_map, List.length_range] at h; exact h) rfl) (hdr_one T9) (by unfold maxLen; omega) (by omega) (by first | omega | (simp; done) | (simp; omega)) ?_; intro g4 c4 w4 hown hgr4 hgg; go_loud (have hvb : (Value.slice (some ⟨gv, 0, none⟩) cs.length d1).ownBlock ≠ some X := (fun e => by have := (OBV.out X e).2; omega); have hvb0 : (Value.slice (some ⟨gv, 0, none⟩) cs.length d1).ownBlock ≠ some w.heap.size := (fun e => by have := (OBV.out _ e).1; omega); have HX4 := Lib.hid ((HX.out).grown hgr4 hvb); have HR4 := Lib.hid (rd_grown (HR.out) hgr4 (fun b hb => by have := (OBV.out b hb).1; omega)); have HO4 := Lib.hid (Only.grown (HO.out) hgr4 (fun b hb => by have := (OBV.out b hb).1; omega)); have HY4 := Lib.hid ((HY.out).grown hgr4 hvb0); have HF4 := Lib.hid ((HF.out).keep (fun hg9 j => World.cell?_of_block (a := ⟨g, j, none⟩) (hgr4.block _ hg9 (fun e => by have h9 := (OBV.out g e.symm).1; omega)))); have hsz4 := hgr4.size; have hgX : g4 ≠ X := (hgg.elim (fun h => by have := (OBV.out g4 h).2; omega) (fun h => by omega)); have ED := Lib.hid (EndB.grownV (T2 := T9) HV.out HP.out HBL.out HSP.out hgr4 (n := cs.length + cs.length) (by rw [List.length_append, HTL.out]) hown (fun t ht => ⟨((HV.out.rows t ht).fl).keep fun _ i => cellOf (hgr4.block _ (HV.out.rows t ht).hi (fun e => HV.out.ng t ht e.symm)), (HV.out.rows t ht).lo⟩)); clear hown hgr4 hgg b0 b1 f0 f1; obtain ⟨⟨b0, b1⟩, f0, f1⟩ := HX4.out; have hxl4 := HX4.out.lt)))
          · skip
            have EW := Lib.hid (show EndB (w4.setCell ⟨X, 1, none⟩ (.slice (some ⟨g4, 0, none⟩) (k + 1) c4)) N0 (.slice (some ⟨gv, 0, none⟩) cs.length d1) (.slice (some ⟨g4, 0, none⟩) (k + 1) c4) (T9) (bs ++ [true]) from ED.out.setNe (fun e => by have := (OBV.out X e).2; omega) (fun e => hgX (by simpa [Value.ownBlock] using e)) (fun t ht e => by have := HTX.out t ht; omega) 1 _)
            have HYW := Lib.hid (show BoxW w.heap.size (.slice none 0 0) (.slice none 0 0) (w4.setCell ⟨X, 1, none⟩ (.slice (some ⟨g4, 0, none⟩) (k + 1) c4)) from HY4.out.keep (hsetNe (by omega)))
            have FW := Lib.hid (show Fl (w4.setCell ⟨X, 1, none⟩ (.slice (some ⟨g4, 0, none⟩) (k + 1) c4)) g 0 (some ⟨g, 0, none⟩) (flatC cs) from HF4.out.keep fun _ j => cellOf (hsetNe (by omega)))
            have RW := Lib.hid (HR4.out.setFar (a := ⟨X, 1, none⟩) (show r < X by omega) (.slice (some ⟨g4, 0, none⟩) (k + 1) c4))
            have OW := Lib.hid (HO4.out.setNew (p := ⟨X, 1, none⟩) (show w.heap.size ≤ X by omega) (.slice (some ⟨g4, 0, none⟩) (k + 1) c4))
            obtain ⟨⟨yy0, yy1⟩, yf0, yf1⟩ := HYW.out
            go_region
            all_goals go_wp2
            all_goals (have YF := Lib.hid ((HYW.out.set0 (.slice (some ⟨gv, 0, none⟩) cs.length d1)).set1 (.slice (some ⟨g4, 0, none⟩) (k + 1) c4)))
            all_goals (obtain ⟨Wx, hWx⟩ : ∃ Z, ((((w4.setCell ⟨X, 1, none⟩ (.slice (some ⟨g4, 0, none⟩) (k + 1) c4)).setCell ⟨w.heap.size, 0, none⟩ (.slice (some ⟨gv, 0, none⟩) cs.length d1)).setCell ⟨w.heap.size, 1, none⟩ (.slice (some ⟨g4, 0, none⟩) (k + 1) c4)).drew) = Z := ⟨_, rfl⟩)
            all_goals (have x0 : Wx.cell? ⟨w.heap.size, 0, none⟩ = some (.slice (some ⟨gv, 0, none⟩) cs.length d1) := by rw [← hWx]; exact YF.out.1.1)
            all_goals (have x1 : Wx.cell? ⟨w.heap.size, 1, none⟩ = some (.slice (some ⟨g4, 0, none⟩) (k + 1) c4) := by rw [← hWx]; exact YF.out.1.2)
            all_goals (refine bodyPost_ret (v := .tuple #[.slice (some ⟨g, 0, none⟩) cs.length c, .agg #[.slice (some ⟨gv, 0, none⟩) cs.length d1, .slice (some ⟨g4, 0, none⟩) (k + 1) c4]]) (by rw [hWx]; simp [results, Try.results88, go_sem, x0, x1]) rfl ?_)
            all_goals exact drewCB_of EW.out hYN OW.out (Nat.le_refl _) RW.out (by omega) FW.out (by omega) h3 (HTS.out) (by have := HTL.out; omega) (by rw [List.length_append, HBL.out]; simp; omega) (by omega)
          · skip
            have EW := Lib.hid (show EndB (w4.setCell ⟨X, 0, none⟩ (.slice (some ⟨g4, 0, none⟩) (cs.length + 1) c4)) N0 (.slice (some ⟨g4, 0, none⟩) (cs.length + 1) c4) (.slice A2 k d2) (T9 ++ [(w1.heap.size, 1, [nilV])]) (bs) from ED.out.setNe (fun e => hgX (by simpa [Value.ownBlock] using e)) (fun e => by have := (HBX.out X e).2; omega) (fun t ht e => by exact (List.mem_append.1 ht).elim (fun ht => by have := HTX.out t ht; omega) (fun ht => by obtain rfl := List.mem_singleton.1 ht; exact HNW.out e)) 0 _)
            have HYW := Lib.hid (show BoxW w.heap.size (.slice none 0 0) (.slice none 0 0) (w4.setCell ⟨X, 0, none⟩ (.slice (some ⟨g4, 0, none⟩) (cs.length + 1) c4)) from HY4.out.keep (hsetNe (by omega)))
            have FW := Lib.hid (show Fl (w4.setCell ⟨X, 0, none⟩ (.slice (some ⟨g4, 0, none⟩) (cs.length + 1) c4)) g 0 (some ⟨g, 0, none⟩) (flatC cs) from HF4.out.keep fun _ j => cellOf (hsetNe (by omega)))
            have RW := Lib.hid (HR4.out.setFar (a := ⟨X, 0, none⟩) (show r < X by omega) (.slice (some ⟨g4, 0, none⟩) (cs.length + 1) c4))
            have OW := Lib.hid (HO4.out.setNew (p := ⟨X, 0, none⟩) (show w.heap.size ≤ X by omega) (.slice (some ⟨g4, 0, none⟩) (cs.length + 1) c4))
            obtain ⟨⟨yy0, yy1⟩, yf0, yf1⟩ := HYW.out
            go_region
            all_goals go_wp2
            all_goals (have YF := Lib.hid ((HYW.out.set0 (.slice (some ⟨g4, 0, none⟩) (cs.length + 1) c4)).set1 (.slice A2 k d2)))
            all_goals (obtain ⟨Wx, hWx⟩ : ∃ Z, ((((w4.setCell ⟨X, 0, none⟩ (.slice (some ⟨g4, 0, none⟩) (cs.length + 1) c4)).setCell ⟨w.heap.size, 0, none⟩ (.slice (some ⟨g4, 0, none⟩) (cs.length + 1) c4)).setCell ⟨w.heap.size, 1, none⟩ (.slice A2 k d2)).drew) = Z := ⟨_, rfl⟩)
            all_goals (have x0 : Wx.cell? ⟨w.heap.size, 0, none⟩ = some (.slice (some ⟨g4, 0, none⟩) (cs.length + 1) c4) := by rw [← hWx]; exact YF.out.1.1)
            all_goals (have x1 : Wx.cell? ⟨w.heap.size, 1, none⟩ = some (.slice A2 k d2) := by rw [← hWx]; exact YF.out.1.2)
            all_goals (refine bodyPost_ret (v := .tuple #[.slice (some ⟨g, 0, none⟩) cs.length c, .agg #[.slice (some ⟨g4, 0, none⟩) (cs.length + 1) c4, .slice A2 k d2]]) (by rw [hWx]; simp [results, Try.results88, go_sem, x0, x1]) rfl ?_)
            all_goals exact drewCB_of EW.out hYN OW.out (Nat.le_refl _) RW.out (by omega) FW.out (by omega) h3 (fun t ht => (List.mem_append.1 ht).elim (fun ht => HTS.out t ht) (fun ht => by obtain rfl := List.mem_singleton.1 ht; exact ⟨by simp, short_nil⟩)) (by have := HTL.out; rw [List.length_append]; simp; omega) (by rw [HBL.out]; omega) (by omega)
          · obtain ⟨t0, T0, rfl⟩ : ∃ t T, T9 = t :: T := (by cases T9 with | nil => have h := HTL.out; simp at h; omega | cons t T => exact ⟨t, T, rfl⟩)
            obtain ⟨tb, tc, tl⟩ := t0
            obtain ⟨v9, vs9, rfl⟩ : ∃ v vs, tl = v :: vs := (by have h := HTQ.out _ (List.mem_cons_self ..); simp only at h; cases tl with | nil => simp at h; omega | cons v vs => exact ⟨v, vs, rfl⟩)
            have hk9 : vs9.length + 1 = k := (by have h := HTQ.out _ (List.mem_cons_self ..); simpa using h)
            have HK9 := Lib.hid hk9
            have hlo := (HV.out.rows _ (List.mem_cons_self ..)).lo
            simp only at hlo
            have htb := HTX.out _ (List.mem_cons_self ..)
            simp only at htb
            have hgvb := OBV.out gv rfl
            have CY : ∀ W, BagV W N0 (.slice (some ⟨gv, 0, none⟩) cs.length d1) ((tb, tc, v9 :: vs9) :: T0) ((List.range cs.length).map (acr o)) → W.cell? ⟨gv, 0, none⟩ = some (.slice (some ⟨tb, 0, none⟩) k tc) := fun W h => by
              have h2 := h.own
              rw [List.length_map, List.length_range] at h2
              rw [h2.cellAt 0 (by omega)]
              simp [hdr, HK9.out]
            have CZ : ∀ W, BagV W N0 (.slice (some ⟨gv, 0, none⟩) cs.length d1) ((tb, tc, v9 :: vs9) :: T0) ((List.range cs.length).map (acr o)) → ∀ j, j < 3 → (∃ u, W.cell? ⟨tb, j, none⟩ = some u) ∧ W.frozen? ⟨tb, j, none⟩ = false := fun W h j hj => by
              have hr := h.rows _ (List.mem_cons_self ..)
              have hl : j < (flatV (v9 :: vs9)).length := by rw [flatV_len]; simp; omega
              exact ⟨⟨_, by have := hr.fl.c j hl; rwa [Nat.zero_add] at this⟩, hr.fz j hl⟩
            have hy := CY _ HV.out
            have hd : Only r w1 w1.drew := (Only.refl r w1).drew
            have HRd := Lib.hid (HR.out.drew)
            clear hk9
            go_region_law (first | (refine step_call rfl 118 _ _ rfl l20ValueEnters #[.pointer (some ⟨r, 0, none⟩), .int .i64 2] rfl (l20Value B r 2 _ _ HRd.out (by omega) (by omega)) ?_; rintro e w2 ⟨xk, xn, xs, qv, rfl, xk0, xk1, xn0, xn1, xs0, hqv, ho, hr⟩; go_loud (have hor := hd.trans ho; have HYn := Lib.hid (HY.out.only (by omega) hor); have HXn := Lib.hid (HX.out.only (by omega) hor); have HVn := Lib.hid (HV.out.only hrN hor); have HPn := Lib.hid (own_only2 HP.out hrN hor); have HFn := Lib.hid (HF.out.only hor (fun _ => hgr)); have HRn := Lib.hid hr; have HOn := Lib.hid (HO.out.trans hor); clear ho hr hor b0 b1 f0 f1 hy; obtain ⟨⟨b0, b1⟩, f0, f1⟩ := HXn.out; have hy := CY _ HVn.out; obtain ⟨⟨z0, hz0⟩, y0⟩ := CZ _ HVn.out 0 (by omega); obtain ⟨⟨z1, hz1⟩, y1⟩ := CZ _ HVn.out 1 (by omega); obtain ⟨⟨z2, hz2⟩, y2⟩ := CZ _ HVn.out 2 (by omega)); refine ⟨_, rfl, ?_⟩))
            all_goals go_wp2
            all_goals (have hrb : r < tb := by omega)
            all_goals (have hyb : w.heap.size ≠ tb := by omega)
            all_goals (have hgb : g ≠ tb := by omega)
            all_goals (have EW0 := endB_put HVn.out HPn.out HBL.out HSP.out xk xn xs)
            all_goals (have HY0 := ((HYn.out.keep (hsetNe (v := .int .i64 xk) (j := 0) hyb)).keep (hsetNe (v := .int .i64 xn) (j := 1) hyb)).keep (hsetNe (v := .string xs) (j := 2) hyb))
            all_goals (have FW0 := ((HFn.out.keep fun _ j => cellOf (hsetNe (v := .int .i64 xk) (j := 0) hgb)).keep fun _ j => cellOf (hsetNe (v := .int .i64 xn) (j := 1) hgb)).keep fun _ j => cellOf (hsetNe (v := .string xs) (j := 2) hgb))
            all_goals (have RW0 := ((HRn.out.setFar (a := ⟨tb, 0, none⟩) hrb (.int .i64 xk)).setFar (a := ⟨tb, 1, none⟩) hrb (.int .i64 xn)).setFar (a := ⟨tb, 2, none⟩) hrb (.string xs))
            all_goals (have OW0 := ((HOn.out.setNew (p := ⟨tb, 0, none⟩) (show w.heap.size ≤ tb by omega) (.int .i64 xk)).setNew (p := ⟨tb, 1, none⟩) (show w.heap.size ≤ tb by omega) (.int .i64 xn)).setNew (p := ⟨tb, 2, none⟩) (show w.heap.size ≤ tb by omega) (.string xs))
            all_goals (have HX0 := ((HXn.out.keep (hsetNe (v := .int .i64 xk) (j := 0) (show X ≠ tb by omega))).keep (hsetNe (v := .int .i64 xn) (j := 1) (show X ≠ tb by omega))).keep (hsetNe (v := .string xs) (j := 2) (show X ≠ tb by omega)))
            all_goals (clear b0 b1 f0 f1 hy y0 hz0 y1 hz1 y2 hz2)
            all_goals (obtain ⟨W5, hW5⟩ : ∃ Z, (((w2.setCell ⟨tb, 0, none⟩ (.int .i64 xk)).setCell ⟨tb, 1, none⟩ (.int .i64 xn)).setCell ⟨tb, 2, none⟩ (.string xs)) = Z := ⟨_, rfl⟩)
            all_goals (rw [hW5] at EW0 HY0 FW0 RW0 OW0 HX0 ⊢)
            all_goals (have EW := Lib.hid EW0; have HYW := Lib.hid HY0; have FW := Lib.hid FW0; have RW := Lib.hid RW0; have OW := Lib.hid OW0; have HXW := Lib.hid HX0; clear EW0 HY0 FW0 RW0 OW0 HX0 hW5)
            all_goals (obtain ⟨⟨b0, b1⟩, f0, f1⟩ := HXW.out)
            all_goals (obtain ⟨⟨yy0, yy1⟩, yf0, yf1⟩ := HYW.out)
            all_goals go_region
            all_goals go_wp2
            all_goals (have YF := Lib.hid ((HYW.out.set0 (.slice (some ⟨gv, 0, none⟩) cs.length d1)).set1 (.slice A2 k d2)))
            all_goals (obtain ⟨Wx, hWx⟩ : ∃ Z, (((W5.setCell ⟨w.heap.size, 0, none⟩ (.slice (some ⟨gv, 0, none⟩) cs.length d1)).setCell ⟨w.heap.size, 1, none⟩ (.slice A2 k d2)).drew) = Z := ⟨_, rfl⟩)
            all_goals (have x0 : Wx.cell? ⟨w.heap.size, 0, none⟩ = some (.slice (some ⟨gv, 0, none⟩) cs.length d1) := by rw [← hWx]; exact YF.out.1.1)
            all_goals (have x1 : Wx.cell? ⟨w.heap.size, 1, none⟩ = some (.slice A2 k d2) := by rw [← hWx]; exact YF.out.1.2)
            all_goals (refine bodyPost_ret (v := .tuple #[.slice (some ⟨g, 0, none⟩) cs.length c, .agg #[.slice (some ⟨gv, 0, none⟩) cs.length d1, .slice A2 k d2]]) (by rw [hWx]; simp [results, Try.results88, go_sem, x0, x1]) rfl ?_)
            all_goals exact drewCB_of EW.out hYN OW.out (Nat.le_refl _) RW.out (by omega) FW.out (by omega) h3 (fun t ht => (List.mem_cons.1 ht).elim (fun e => by subst e; have h := HTS.out _ (List.mem_cons_self ..); exact ⟨h.1, short_set h.2 (by simp only; unfold maxLen; omega)⟩) (fun ht => HTS.out t (List.mem_cons_of_mem _ ht))) (by have := HTL.out; simp only [List.length_cons] at this ⊢; omega) (by rw [HBL.out]; omega) (by omega)
          · skip
            have EW := Lib.hid (show EndB (w1) N0 (.slice (some ⟨gv, 0, none⟩) cs.length d1) (.slice A2 k d2) (T9) (bs) from endB_of HV.out HP.out HBL.out)
            have HYW := Lib.hid (show BoxW w.heap.size (.slice none 0 0) (.slice none 0 0) (w1) from HY.out)
            have FW := Lib.hid (show Fl (w1) g 0 (some ⟨g, 0, none⟩) (flatC cs) from HF.out)
            have RW := Lib.hid (HR.out)
            have OW := Lib.hid (HO.out)
            obtain ⟨⟨yy0, yy1⟩, yf0, yf1⟩ := HYW.out
            go_region
            all_goals go_wp2
            all_goals (have YF := Lib.hid ((HYW.out.set0 (.slice (some ⟨gv, 0, none⟩) cs.length d1)).set1 (.slice A2 k d2)))
            all_goals (obtain ⟨Wx, hWx⟩ : ∃ Z, ((((w1).setCell ⟨w.heap.size, 0, none⟩ (.slice (some ⟨gv, 0, none⟩) cs.length d1)).setCell ⟨w.heap.size, 1, none⟩ (.slice A2 k d2)).drew) = Z := ⟨_, rfl⟩)
            all_goals (have x0 : Wx.cell? ⟨w.heap.size, 0, none⟩ = some (.slice (some ⟨gv, 0, none⟩) cs.length d1) := by rw [← hWx]; exact YF.out.1.1)
            all_goals (have x1 : Wx.cell? ⟨w.heap.size, 1, none⟩ = some (.slice A2 k d2) := by rw [← hWx]; exact YF.out.1.2)
            all_goals (refine bodyPost_ret (v := .tuple #[.slice (some ⟨g, 0, none⟩) cs.length c, .agg #[.slice (some ⟨gv, 0, none⟩) cs.length d1, .slice A2 k d2]]) (by rw [hWx]; simp [results, Try.results88, go_sem, x0, x1]) rfl ?_)
            all_goals exact drewCB_of EW.out hYN OW.out (Nat.le_refl _) RW.out (by omega) FW.out (by omega) h3 (HTS.out) (by have := HTL.out; omega) (by rw [HBL.out]; omega) (by omega)
          · skip
            have EW := Lib.hid (show EndB (w4.setCell ⟨X, 0, none⟩ (.slice (some ⟨g4, 0, none⟩) (cs.length + cs.length) c4)) N0 (.slice (some ⟨g4, 0, none⟩) (cs.length + cs.length) c4) (.slice A2 k d2) (T9 ++ T9) (bs) from ED.out.setNe (fun e => hgX (by simpa [Value.ownBlock] using e)) (fun e => by have := (HBX.out X e).2; omega) (fun t ht e => by have := HTX.out t ((List.mem_append.1 ht).elim id id); omega) 0 _)
            have HYW := Lib.hid (show BoxW w.heap.size (.slice none 0 0) (.slice none 0 0) (w4.setCell ⟨X, 0, none⟩ (.slice (some ⟨g4, 0, none⟩) (cs.length + cs.length) c4)) from HY4.out.keep (hsetNe (by omega)))
            have FW := Lib.hid (show Fl (w4.setCell ⟨X, 0, none⟩ (.slice (some ⟨g4, 0, none⟩) (cs.length + cs.length) c4)) g 0 (some ⟨g, 0, none⟩) (flatC cs) from HF4.out.keep fun _ j => cellOf (hsetNe (by omega)))
            have RW := Lib.hid (HR4.out.setFar (a := ⟨X, 0, none⟩) (show r < X by omega) (.slice (some ⟨g4, 0, none⟩) (cs.length + cs.length) c4))
            have OW := Lib.hid (HO4.out.setNew (p := ⟨X, 0, none⟩) (show w.heap.size ≤ X by omega) (.slice (some ⟨g4, 0, none⟩) (cs.length + cs.length) c4))
            obtain ⟨⟨yy0, yy1⟩, yf0, yf1⟩ := HYW.out
            go_region
            all_goals go_wp2
            all_goals (have YF := Lib.hid ((HYW.out.set0 (.slice (some ⟨g4, 0, none⟩) (cs.length + cs.length) c4)).set1 (.slice A2 k d2)))
            all_goals (obtain ⟨Wx, hWx⟩ : ∃ Z, ((((w4.setCell ⟨X, 0, none⟩ (.slice (some ⟨g4, 0, none⟩) (cs.length + cs.length) c4)).setCell ⟨w.heap.size, 0, none⟩ (.slice (some ⟨g4, 0, none⟩) (cs.length + cs.length) c4)).setCell ⟨w.heap.size, 1, none⟩ (.slice A2 k d2)).drew) = Z := ⟨_, rfl⟩)
            all_goals (have x0 : Wx.cell? ⟨w.heap.size, 0, none⟩ = some (.slice (some ⟨g4, 0, none⟩) (cs.length + cs.length) c4) := by rw [← hWx]; exact YF.out.1.1)
            all_goals (have x1 : Wx.cell? ⟨w.heap.size, 1, none⟩ = some (.slice A2 k d2) := by rw [← hWx]; exact YF.out.1.2)
            all_goals (refine bodyPost_ret (v := .tuple #[.slice (some ⟨g, 0, none⟩) cs.length c, .agg #[.slice (some ⟨g4, 0, none⟩) (cs.length + cs.length) c4, .slice A2 k d2]]) (by rw [hWx]; simp [results, Try.results88, go_sem, x0, x1]) rfl ?_)
            all_goals exact drewCB_of EW.out hYN OW.out (Nat.le_refl _) RW.out (by omega) FW.out (by omega) h3 (fun t ht => HTS.out t ((List.mem_append.1 ht).elim id id)) (by have := HTL.out; rw [List.length_append]; omega) (by rw [HBL.out]; omega) (by omega)
          · skip
            have EW := Lib.hid (show EndB (w1) N0 (.slice (some ⟨gv, 0, none⟩) cs.length d1) (.slice A2 k d2) (T9) (bs) from endB_of HV.out HP.out HBL.out)
            have HYW := Lib.hid (show BoxW w.heap.size (.slice none 0 0) (.slice none 0 0) (w1) from HY.out)
            have FW := Lib.hid (show Fl (w1) g 0 (some ⟨g, 0, none⟩) (flatC cs) from HF.out)
            have RW := Lib.hid (HR.out)
            have OW := Lib.hid (HO.out)
            obtain ⟨⟨yy0, yy1⟩, yf0, yf1⟩ := HYW.out
            go_region
            all_goals go_wp2
            all_goals (have YF := Lib.hid ((HYW.out.set0 (.slice (some ⟨gv, 0, none⟩) cs.length d1)).set1 (.slice A2 k d2)))
            all_goals (obtain ⟨Wx, hWx⟩ : ∃ Z, ((((w1).setCell ⟨w.heap.size, 0, none⟩ (.slice (some ⟨gv, 0, none⟩) cs.length d1)).setCell ⟨w.heap.size, 1, none⟩ (.slice A2 k d2)).drew) = Z := ⟨_, rfl⟩)
            all_goals (have x0 : Wx.cell? ⟨w.heap.size, 0, none⟩ = some (.slice (some ⟨gv, 0, none⟩) cs.length d1) := by rw [← hWx]; exact YF.out.1.1)
            all_goals (have x1 : Wx.cell? ⟨w.heap.size, 1, none⟩ = some (.slice A2 k d2) := by rw [← hWx]; exact YF.out.1.2)
            all_goals (refine bodyPost_ret (v := .tuple #[.slice (some ⟨g, 0, none⟩) cs.length c, .agg #[.slice (some ⟨gv, 0, none⟩) cs.length d1, .slice A2 k d2]]) (by rw [hWx]; simp [results, Try.results88, go_sem, x0, x1]) rfl ?_)
            all_goals exact drewCB_of EW.out hYN OW.out (Nat.le_refl _) RW.out (by omega) FW.out (by omega) h3 (HTS.out) (by have := HTL.out; omega) (by rw [HBL.out]; omega) (by omega)
end Go.Proofs.Ytjidkjnlnenmbaa.Val
