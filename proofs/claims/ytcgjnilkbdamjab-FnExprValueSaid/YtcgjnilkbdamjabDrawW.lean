/- What drawing an expression that may be none leaves (l20Wild), and columns, a row and an expression (l20Asked). -/
import Derived.Test.YtcgjnilkbdamjabDrawX
namespace Go.Proofs.Ytcgjnilkbdamjab.Val
open Go.RowKit
set_option linter.unusedVariables false
set_option linter.unusedSimpArgs false
set_option maxRecDepth 4000
def kind4 (m : Int) : Int := if m = 2 then 1 else if m = 3 then 2 else 3
theorem kind4_in (m : Int) : kind4 m = 1 ∨ kind4 m = 2 ∨ kind4 m = 3 := by
  unfold kind4
  split
  · exact .inl rfl
  · split
    · exact .inr (.inl rfl)
    · exact .inr (.inr rfl)
theorem kind4_at (W : World) (t : TypeId) (m : Int) (h0 : 0 ≤ m) (h6 : m < 4) : (W.alloc (.cells #[.int .i64 3, .int .i64 3, .int .i64 1, .int .i64 2] t)).cell? ⟨W.heap.size, m.toNat, none⟩ = some (.int .i64 (kind4 m)) := by
  rw [World.cell?_alloc_mark]
  have hm : m = 0 ∨ m = 1 ∨ m = 2 ∨ m = 3 := by omega
  rcases hm with rfl | rfl | rfl | rfl <;> rfl
theorem kind4_cells {r : Nat} {W0 w1 : World} {m : Int} {t : TypeId} (ho : Only r (W0.alloc (.cells #[.int .i64 3, .int .i64 3, .int .i64 1, .int .i64 2] t)) w1) (hr : r < W0.heap.size) (h0 : 0 ≤ m) (h4 : m < 4) : w1.cell? ⟨W0.heap.size, m.toNat, none⟩ = some (.int .i64 (kind4 m)) := by
  rw [ho.cell W0.heap.size m.toNat (by simp) (by omega)]
  exact kind4_at W0 t m h0 h4
theorem flatP_takeE (ps : List PT) (k : Nat) : (flatP ps).take (k * 5) = flatP (ps.take k) := by
  induction ps generalizing k with
  | nil => simp [flatP]
  | cons p ps ih =>
    cases k with
    | zero => simp [flatP]
    | succ k =>
      rw [flatP_cons, List.take_succ_cons, flatP_cons, ← ih k, show (k + 1) * 5 = k * 5 + 1 + 1 + 1 + 1 + 1 by omega]
      rfl
theorem flatP_set (ps : List PT) (i : Nat) (p : PT) : (((((flatP ps).set (i * 5) (.int .i64 p.1)).set (i * 5 + 1) (.int .i64 p.2.1)).set (i * 5 + 2) (.int .i64 p.2.2.1)).set (i * 5 + 3) (.int .i64 p.2.2.2.1)).set (i * 5 + 4) (.string p.2.2.2.2) = flatP (ps.set i p) := by
  induction ps generalizing i with
  | nil => simp [flatP]
  | cons x ps ih =>
    cases i with
    | zero => rfl
    | succ i =>
      rw [List.set_cons_succ, flatP_cons, flatP_cons, ← ih i, show (i + 1) * 5 = i * 5 + 1 + 1 + 1 + 1 + 1 by omega]
      rfl
theorem own_setP {w : World} {B g n cap i : Nat} {e : TypeId} {ps : List PT} (h : w.ownsRow B e 5 (.slice (some ⟨g, 0, none⟩) n cap) n (flatP ps)) (p : PT) : (((((w.setCell ⟨g, i * 5, none⟩ (.int .i64 p.1)).setCell ⟨g, i * 5 + 1, none⟩ (.int .i64 p.2.1)).setCell ⟨g, i * 5 + 2, none⟩ (.int .i64 p.2.2.1)).setCell ⟨g, i * 5 + 3, none⟩ (.int .i64 p.2.2.2.1)).setCell ⟨g, i * 5 + 4, none⟩ (.string p.2.2.2.2)).ownsRow B e 5 (.slice (some ⟨g, 0, none⟩) n cap) n (flatP (ps.set i p)) := by
  rw [← flatP_set]
  exact (((((h.stored _ _).1.stored _ _).1.stored _ _).1.stored _ _).1.stored _ _).1
theorem own_cellsP {w : World} {B g n cap : Nat} {e : TypeId} {xs : List Value} (h : w.ownsRow B e 5 (.slice (some ⟨g, 0, none⟩) n cap) n xs) (i : Nat) (hi : i < n) : ((∃ v, w.cell? ⟨g, i * 5, none⟩ = some v) ∧ (∃ v, w.cell? ⟨g, i * 5 + 1, none⟩ = some v) ∧ (∃ v, w.cell? ⟨g, i * 5 + 2, none⟩ = some v) ∧ (∃ v, w.cell? ⟨g, i * 5 + 3, none⟩ = some v) ∧ (∃ v, w.cell? ⟨g, i * 5 + 4, none⟩ = some v)) ∧ w.frozen? ⟨g, i * 5, none⟩ = false ∧ w.frozen? ⟨g, i * 5 + 1, none⟩ = false ∧ w.frozen? ⟨g, i * 5 + 2, none⟩ = false ∧ w.frozen? ⟨g, i * 5 + 3, none⟩ = false ∧ w.frozen? ⟨g, i * 5 + 4, none⟩ = false := by
  have c := fun (j : Nat) (hj : j < n * 5) => (by
    rw [h.cellAt j hj, List.getElem?_eq_getElem (show j < xs.length by rw [h.1]; exact hj)]
    exact ⟨_, rfl⟩ : ∃ v, w.cell? ⟨g, j, none⟩ = some v)
  exact ⟨⟨c _ (by omega), c _ (by omega), c _ (by omega), c _ (by omega), c _ (by omega)⟩, h.frozenAt _, h.frozenAt _, h.frozenAt _, h.frozenAt _, h.frozenAt _⟩
theorem TextsP.take {a : List PT} (h : TextsP a) (i : Nat) : TextsP (a.take i) := fun v hv => h v (List.mem_of_mem_take hv)
theorem TextsP.set {a : List PT} (h : TextsP a) (i : Nat) (v : PT) (hv : v.2.2.2.2.size ≤ 20) : TextsP (a.set i v) := fun u hu => by
  rcases List.mem_or_eq_of_mem_set hu with hu | rfl
  · exact h u hu
  · exact hv
/-- An expression, or none, was drawn: a row of its own. -/
def WildP (B r : Nat) (p : Int) (w : World) (e : Ending) (w' : World) : Prop := ∃ (ps : List PT) (g c : Nat) (q : Int), e = .returned (.slice (some ⟨g, 0, none⟩) ps.length c) ∧ ps.length ≤ 65 ∧ TextsP ps ∧ w'.ownsRow w.heap.size 53 5 (.slice (some ⟨g, 0, none⟩) ps.length c) ps.length (flatP ps) ∧ q ≤ p + 26000 ∧ Only r w w' ∧ RdOk B r w' q
set_option maxHeartbeats 8000000 in
theorem l20Wild (B r g o cap : Nat) (A : Option Addr) (cs : List CT) (n p : Int) (w : World) (h : RdOk B r w p) (hp : p ≤ 600000000) (hn : n ≤ 1000) (hA : Fl w g o A (flatC cs)) (hgr : g ≠ r) (h6 : cs.length ≤ 100) : Calls Try.prog 74 #[.pointer (some ⟨r, 0, none⟩), .slice A cs.length cap, .int .i64 n] w (WildP B r p w) := by
  have hlt := h.lt
  have hge := h.ge
  have hp0 := h.p0
  have HA := Lib.hid hA
  have HR := Lib.hid h
  have HO := Lib.hid (Only.refl r w)
  have EX := Lib.hid (l20ExprD B r g o cap A cs hgr h6 3 (by omega))
  clear h hA
  obtain ⟨i0, hi, iz0, iz1, iz2⟩ := info_parts infoP
  go_enter Try.func74, Try.ntmps74
  go_wp2_with (first
    | (go_at_call 42; (with_reducible refine (pick B r 4 _ _ (by repeat (with_reducible first | exact HR.out | apply RdOk.alloc | apply RdOk.drew | (refine RdOk.setFar ?_ (by first | omega | (simp; done) | (simp; omega)) _))) (by omega)).mono ?_); rintro e w1 ⟨m4, rfl, h40, h41, h42, ho, hr⟩; have HOn := Lib.hid (Only.trans (by repeat (with_reducible first | exact HO.out | apply Only.alloc | apply Only.drew | (refine Only.setNew ?_ (by first | omega | (simp; done) | (simp; omega)) _))) ho); have K0 := Lib.hid (Fl.only (by (repeat (with_reducible first | exact HA.out | apply Fl.alloc | apply Fl.drew))) ho (by omega)); clear HA; have HA := K0; clear K0; clear HO HR; have HO := HOn; have HR := Lib.hid hr; clear HOn hr; have h41 := h41 (by omega); clear h42; have hK := kind4_cells ho (by first | omega | (simp; done) | (simp; omega)) h40 h41; have hk4 := kind4_in m4; obtain ⟨K, hK4⟩ : ∃ K, kind4 m4 = K := ⟨_, rfl⟩; rw [hK4] at hK hk4; have hws := HO.out.size; clear ho)
    | (go_at_call 29; (with_reducible refine (EX.out _ _ _ _ (by omega) (by omega) (by repeat (with_reducible first | exact HR.out | apply RdOk.alloc | apply RdOk.drew | (refine RdOk.setFar ?_ (by first | omega | (simp; done) | (simp; omega)) _))) (by simp; omega) (by repeat (with_reducible first | exact HA.out | apply Fl.alloc | apply Fl.drew)) (by omega)).mono ?_); rintro e w1 ⟨xa, vxa, qxa, rfl, hxa0, hxaM, hxar, hxat, hxao, hxaq, ho, hr⟩; have HOn := Lib.hid (Only.trans (by repeat (with_reducible first | exact HO.out | apply Only.alloc | apply Only.drew | (refine Only.setNew ?_ (by first | omega | (simp; done) | (simp; omega)) _))) ho); clear HO HR; have HO := HOn; have HR := Lib.hid hr; clear HOn hr; have OA := Lib.hid (own_lower (B := w.heap.size) hxao (by first | omega | (simp; omega))); have hws := HO.out.size; obtain ⟨gxa, cxa, rfl⟩ := own_sliceX OA.out hxa0; have OAT := Lib.hid hxat; rw [show (4 ^ 3 : Nat) = 64 from rfl] at hxaM hxaq; clear hxao hxar hxat; clear ho)
    | (go_at_call 72; (with_reducible refine (odd B r n _ _ (by repeat (with_reducible first | exact HR.out | apply RdOk.alloc | apply RdOk.drew | (refine RdOk.setFar ?_ (by first | omega | (simp; done) | (simp; omega)) _))) (by omega) hn).mono ?_); rintro e w1 ⟨v, q1, rfl, hq1, ho, hr⟩; have HOn := Lib.hid (Only.trans (by repeat (with_reducible first | exact HO.out | apply Only.alloc | apply Only.drew | (refine Only.setNew ?_ (by first | omega | (simp; done) | (simp; omega)) _))) ho); have K0 := Lib.hid (own_only2 (by repeat (with_reducible first | exact OA.out | apply World.ownsRow.alloc | apply own_drew)) (by omega) ho); clear OA; have OA := K0; clear K0; clear HO HR; have HO := HOn; have HR := Lib.hid hr; clear HOn hr; have hws := HO.out.size; clear ho))
  · go_upto_region 5 with ((go_at_call 42; (with_reducible refine (pick B r 3 _ _ (by repeat (with_reducible first | exact HR.out | apply RdOk.alloc | apply RdOk.drew | (refine RdOk.setFar ?_ (by first | omega | (simp; done) | (simp; omega)) _))) (by omega)).mono ?_); rintro e w1 ⟨m3, rfl, h30, h31, h32, ho, hr⟩; have HOn := Lib.hid (Only.trans (by repeat (with_reducible first | exact HO.out | apply Only.alloc | apply Only.drew | (refine Only.setNew ?_ (by first | omega | (simp; done) | (simp; omega)) _))) ho); have K0 := Lib.hid (own_only2 (by repeat (with_reducible first | exact OA.out | apply World.ownsRow.alloc | apply own_drew)) (by omega) ho); clear OA; have OA := K0; clear K0; clear HO HR; have HO := HOn; have HR := Lib.hid hr; clear HOn hr; have h31 := h31 (by omega); clear h32; have hws := HO.out.size; clear ho))
    have hcap := (own_cap OA.out).2.2.1
    have hgB := (own_cap OA.out).1
    obtain h | h | h : m3 = 0 ∨ m3 = 1 ∨ m3 = 2 := by omega
    · subst h
      go_wp2_with ((go_at_call 42; (with_reducible refine (pick B r (xa.length : Int) _ _ (by repeat (with_reducible first | exact HR.out | apply RdOk.alloc | apply RdOk.drew | (refine RdOk.setFar ?_ (by first | omega | (simp; done) | (simp; omega)) _))) (by omega)).mono ?_); rintro e w1 ⟨mi, rfl, hi0, hi1, hi2, ho, hr⟩; have HOn := Lib.hid (Only.trans (by repeat (with_reducible first | exact HO.out | apply Only.alloc | apply Only.drew | (refine Only.setNew ?_ (by first | omega | (simp; done) | (simp; omega)) _))) ho); have K0 := Lib.hid (own_only2 (by repeat (with_reducible first | exact OA.out | apply World.ownsRow.alloc | apply own_drew)) (by omega) ho); clear OA; have OA := K0; clear K0; clear HO HR; have HO := HOn; have HR := Lib.hid hr; clear HOn hr; have hi1 := hi1 (by omega); clear hi2; obtain ⟨ix, rfl⟩ : ∃ i : Nat, mi = (i : Int) := ⟨mi.toNat, by omega⟩; have hic : (ix : Int) ≤ (cxa : Int) := (by omega); have hin : (0 : Int) ≤ (ix : Int) := (by omega); have hix : ix ≤ xa.length := (by omega); clear ho))
      all_goals go_ret
      all_goals (have htl : (xa.take ix).length = ix := by rw [List.length_take, Nat.min_eq_left hix])
      all_goals (refine ⟨xa.take ix, gxa, cxa, _, by (first | (rw [htl]; done) | (rw [htl]; rfl)), by rw [htl]; omega, OAT.out.take _, ?_, by omega, HO.out, HR.out⟩)
      all_goals (have := own_take OA.out hix; rw [flatP_takeE] at this; rwa [htl])
    · subst h
      go_wp2_with (first
        | (go_at_call 42; (with_reducible refine (pick B r (xa.length : Int) _ _ (by repeat (with_reducible first | exact HR.out | apply RdOk.alloc | apply RdOk.drew | (refine RdOk.setFar ?_ (by first | omega | (simp; done) | (simp; omega)) _))) (by omega)).mono ?_); rintro e w1 ⟨mi, rfl, hi0, hi1, hi2, ho, hr⟩; have HOn := Lib.hid (Only.trans (by repeat (with_reducible first | exact HO.out | apply Only.alloc | apply Only.drew | (refine Only.setNew ?_ (by first | omega | (simp; done) | (simp; omega)) _))) ho); have K0 := Lib.hid (own_only2 (by repeat (with_reducible first | exact OA.out | apply World.ownsRow.alloc | apply own_drew)) (by omega) ho); clear OA; have OA := K0; clear K0; clear HO HR; have HO := HOn; have HR := Lib.hid hr; clear HOn hr; have hi1 := hi1 (by omega); clear hi2; obtain ⟨ix, rfl⟩ : ∃ i : Nat, mi = (i : Int) := ⟨mi.toNat, by omega⟩; clear ho)
        | (go_at_call 42; (with_reducible refine (pick B r 10 _ _ (by repeat (with_reducible first | exact HR.out | apply RdOk.alloc | apply RdOk.drew | (refine RdOk.setFar ?_ (by first | omega | (simp; done) | (simp; omega)) _))) (by omega)).mono ?_); rintro e w1 ⟨m10, rfl, hx0, hx1, hx2, ho, hr⟩; have HOn := Lib.hid (Only.trans (by repeat (with_reducible first | exact HO.out | apply Only.alloc | apply Only.drew | (refine Only.setNew ?_ (by first | omega | (simp; done) | (simp; omega)) _))) ho); have K0 := Lib.hid (own_only2 (by repeat (with_reducible first | exact OA.out | apply World.ownsRow.alloc | apply own_drew)) (by omega) ho); clear OA; have OA := K0; clear K0; clear HO HR; have HO := HOn; have HR := Lib.hid hr; clear HOn hr; clear hx2; clear ho)
        | (go_at_call 42; (with_reducible refine (pick B r 5 _ _ (by repeat (with_reducible first | exact HR.out | apply RdOk.alloc | apply RdOk.drew | (refine RdOk.setFar ?_ (by first | omega | (simp; done) | (simp; omega)) _))) (by omega)).mono ?_); rintro e w1 ⟨m5, rfl, hy0, hy1, hy2, ho, hr⟩; have HOn := Lib.hid (Only.trans (by repeat (with_reducible first | exact HO.out | apply Only.alloc | apply Only.drew | (refine Only.setNew ?_ (by first | omega | (simp; done) | (simp; omega)) _))) ho); have K0 := Lib.hid (own_only2 (by repeat (with_reducible first | exact OA.out | apply World.ownsRow.alloc | apply own_drew)) (by omega) ho); clear OA; have OA := K0; clear K0; clear HO HR; have HO := HOn; have HR := Lib.hid hr; clear HOn hr; clear hy2; obtain ⟨⟨⟨y0, e0⟩, ⟨y1, e1⟩, ⟨y2, e2⟩, ⟨y3, e3⟩, ⟨y4, e4⟩⟩, z0, z1, z2, z3, z4⟩ := own_cellsP OA.out ix (by omega); clear ho))
      go_ret
      refine ⟨xa.set ix (m10, m5, nilV), gxa, cxa, q1 + 1 + 1 + 1 + 1, by (first | (rw [List.length_set]; done) | (rw [List.length_set]; rfl)), by simp; omega, OAT.out.set _ _ (by show (0 : Nat) ≤ 20; omega), ?_, ?_, by (repeat (with_reducible first | exact HO.out | (refine Only.setNew ?_ hgB _))), by (repeat (with_reducible first | exact HR.out | (refine RdOk.setFar ?_ (by show r < gxa; omega) _)))⟩
      · rw [List.length_set]
        exact own_setP OA.out (m10, m5, nilV)
      · omega
    · subst h
      go_wp2_with (first
        | (go_at_call 102; (with_reducible refine (l20Value B r 2 _ _ (by repeat (with_reducible first | exact HR.out | apply RdOk.alloc | apply RdOk.drew | (refine RdOk.setFar ?_ (by first | omega | (simp; done) | (simp; omega)) _))) (by omega) (by omega)).mono ?_); rintro e w1 ⟨xb, nb, sb, qb, rfl, -, -, -, -, hsb, hqb, ho, hr⟩; have HOn := Lib.hid (Only.trans (by repeat (with_reducible first | exact HO.out | apply Only.alloc | apply Only.drew | (refine Only.setNew ?_ (by first | omega | (simp; done) | (simp; omega)) _))) ho); have K0 := Lib.hid (own_only2 (by repeat (with_reducible first | exact OA.out | apply World.ownsRow.alloc | apply own_drew)) (by omega) ho); clear OA; have OA := K0; clear K0; clear HO HR; have HO := HOn; have HR := Lib.hid hr; clear HOn hr; have hws := HO.out.size; clear ho)
        | (at_builtin; refine wpList_append_own _ rfl (.tmp 21) (.tmp 25) 25 rfl w.heap.size 53 i0 (.agg #[.int .i64 0, .int .i64 0, .int .i64 0, .int .i64 0, .string ⟨#[]⟩]) 5 48 Try.underlying25 hi iz0 iz1 iz2 rfl (by decide) (.slice (some ⟨gxa, 0, none⟩) xa.length cxa) xa.length (flatP xa) rfl (by repeat (with_reducible first | exact OA.out | apply World.ownsRow.alloc | apply own_drew)) _ 1 1 [.int .i64 1, .int .i64 0, .int .i64 xb, .int .i64 nb, .string sb] rfl rfl (news_new (by first | rfl | simp)) (by simp [Value.oneCell']) (by unfold maxLen; omega) (by omega) (by first | omega | (simp; done) | (simp; omega)) ?_; intro v2 w2 hown2 hgr2 _; have HRn := Lib.hid (rd_grown (by repeat (with_reducible first | exact HR.out | apply RdOk.alloc | apply RdOk.drew)) hgr2 (fun k hk => by have := (OA.out.lt k hk).1; omega)); have HOn := Lib.hid (Only.grown (by repeat (with_reducible first | exact HO.out | apply Only.alloc | apply Only.drew)) hgr2 (fun k hk => (OA.out.lt k hk).1)); clear HR HO; have HR := HRn; have HO := HOn; clear HRn HOn hgr2; have OD := Lib.hid hown2; clear hown2))
      all_goals (obtain ⟨gz, cz, rfl⟩ := own_sliceX OD.out (by omega))
      all_goals (go_ret; exact ⟨xa ++ [(1, 0, (xb, nb, sb))], gz, cz, qb, by rw [List.length_append]; rfl, by simp; omega, OAT.out.app (TextsP.one hsb), by simpa [flatP_app, flatP_cons, flatP_nil] using OD.out, by omega, HO.out, HR.out⟩)
  · go_ret
    exact ⟨xa, gxa, cxa, q1, rfl, by omega, OAT.out, OA.out, by omega, HO.out, HR.out⟩
/-- Columns, a row and an expression were drawn. -/
def AskedP (B r : Nat) (p : Int) (w : World) (e : Ending) (w' : World) : Prop := ∃ (cs : List CT) (g c : Nat) (vs : List VT) (g2 c2 : Nat) (ps : List PT) (g3 c3 : Nat) (q : Int), e = .returned (.tuple #[.slice (some ⟨g, 0, none⟩) cs.length c, .slice (some ⟨g2, 0, none⟩) vs.length c2, .slice (some ⟨g3, 0, none⟩) ps.length c3]) ∧ (0 < cs.length ∧ cs.length ≤ 6) ∧ (0 < vs.length ∧ vs.length ≤ 20) ∧ ps.length ≤ 65 ∧ Texts vs ∧ TextsP ps ∧ (w.heap.size ≤ g ∧ w.heap.size ≤ g2) ∧ Fl w' g 0 (some ⟨g, 0, none⟩) (flatC cs) ∧ Fl w' g2 0 (some ⟨g2, 0, none⟩) (flatV vs) ∧ w'.ownsRow w.heap.size 53 5 (.slice (some ⟨g3, 0, none⟩) ps.length c3) ps.length (flatP ps) ∧ q ≤ p + 30000 ∧ Only r w w' ∧ RdOk B r w' q
set_option maxHeartbeats 8000000 in
theorem l20Asked (B r : Nat) (n p : Int) (w : World) (h : RdOk B r w p) (hp : p ≤ 50000000) (hn : 0 ≤ n) (hn2 : n ≤ 300) : Calls Try.prog 44 #[.pointer (some ⟨r, 0, none⟩), .int .i64 n] w (AskedP B r p w) := by
  have hlt := h.lt
  have hge := h.ge
  have hp0 := h.p0
  have HR := Lib.hid h
  have HO := Lib.hid (Only.refl r w)
  clear h
  have hw3 : IntKind.i64.wrap (3 * n) = 3 * n := IntWalk.i64_in _ (by omega)
  go_enter Try.func44, Try.ntmps44
  go_wp2_with ((go_at_call 70; (with_reducible refine (l20Columns B r (3 * n) p _ (by repeat (with_reducible first | exact HR.out | apply RdOk.alloc | apply RdOk.drew | (refine RdOk.setFar ?_ (by first | omega | (simp; done) | (simp; omega)) _))) (by omega) (by omega)).mono ?_); rintro e w1 ⟨cs, g, c, q, rfl, h0, h6, hc1', hc2', hg, hf, hq, ho, hr⟩; have HOn := Lib.hid (Only.trans (by repeat (with_reducible first | exact HO.out | apply Only.alloc | apply Only.drew | (refine Only.setNew ?_ (by first | omega | (simp; done) | (simp; omega)) _))) ho); clear HO HR; have HO := HOn; have HR := Lib.hid hr; clear HOn hr; have HF := Lib.hid hf; have hws := HO.out.size; clear hf; clear ho))
  have hgr : g ≠ r := by omega
  go_wp2_with (first
    | (go_at_call 73; (with_reducible refine (l20Fit B r g c cs (3 * n) _ _ (by repeat (with_reducible first | exact HR.out | apply RdOk.alloc | apply RdOk.drew | (refine RdOk.setFar ?_ (by first | omega | (simp; done) | (simp; omega)) _))) (by omega) (by omega) HF.out hgr h0 (by omega)).mono ?_); rintro e w1 ⟨vs, g2, c2, q2, rfl, k0, k1, kt, kc, kc2, kg, kf, kq, ho, hr⟩; have HOn := Lib.hid (Only.trans (by repeat (with_reducible first | exact HO.out | apply Only.alloc | apply Only.drew | (refine Only.setNew ?_ (by first | omega | (simp; done) | (simp; omega)) _))) ho); have K0 := Lib.hid (Fl.only (by (repeat (with_reducible first | exact HF.out | apply Fl.alloc | apply Fl.drew))) ho (by omega)); clear HF; have HF := K0; clear K0; clear HO HR; have HO := HOn; have HR := Lib.hid hr; clear HOn hr; have KF := Lib.hid kf; have KT := Lib.hid kt; have hws2 := HO.out.size; clear kf kt; clear ho)
    | (go_at_call 74; (with_reducible refine (l20Wild B r g 0 c _ cs n _ _ (by repeat (with_reducible first | exact HR.out | apply RdOk.alloc | apply RdOk.drew | (refine RdOk.setFar ?_ (by first | omega | (simp; done) | (simp; omega)) _))) (by omega) (by omega) HF.out hgr (by omega)).mono ?_); rintro e w1 ⟨ps, g3, c3, q3, rfl, hps, htx, hown, hq3, ho, hr⟩; have HOn := Lib.hid (Only.trans (by repeat (with_reducible first | exact HO.out | apply Only.alloc | apply Only.drew | (refine Only.setNew ?_ (by first | omega | (simp; done) | (simp; omega)) _))) ho); have K0 := Lib.hid (Fl.only (by (repeat (with_reducible first | exact HF.out | apply Fl.alloc | apply Fl.drew))) ho (by omega)); clear HF; have HF := K0; clear K0; have K0 := Lib.hid (Fl.only (by (repeat (with_reducible first | exact KF.out | apply Fl.alloc | apply Fl.drew))) ho (by omega)); clear KF; have KF := K0; clear K0; clear HO HR; have HO := HOn; have HR := Lib.hid hr; clear HOn hr; have OA := Lib.hid (own_lower (B := w.heap.size) hown (by omega)); have OT := Lib.hid htx; clear hown htx; clear ho))
  refine bodyPost_ret (v := .tuple #[.slice (some ⟨g, 0, none⟩) cs.length c, .slice (some ⟨g2, 0, none⟩) vs.length c2, .slice (some ⟨g3, 0, none⟩) ps.length c3]) (by simp [results, Try.results44, go_sem]) rfl ?_
  exact ⟨cs, g, c, vs, g2, c2, ps, g3, c3, q3, rfl, ⟨h0, h6⟩, ⟨k0, by omega⟩, hps, KT.out, OT.out, ⟨hg, by omega⟩, HF.out, KF.out, OA.out, by omega, HO.out, HR.out⟩
end Go.Proofs.Ytcgjnilkbdamjab.Val
