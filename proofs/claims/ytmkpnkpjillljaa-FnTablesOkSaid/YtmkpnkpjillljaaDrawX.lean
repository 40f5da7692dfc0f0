/- What drawing an expression leaves (l20Expr). -/
import Derived.Test.YtmkpnkpjillljaaDrawE
import Derived.Test.YtmkpnkpjillljaaEDoK
import Derived.Deep.RegionWith
namespace Go.Proofs.Ytmkpnkpjillljaa.Val
open Go.RowKit
set_option linter.unusedVariables false
set_option linter.unusedSimpArgs false
set_option maxRecDepth 4000
def TextsP (ps : List PT) : Prop := ∀ p ∈ ps, p.2.2.2.2.size ≤ 20
theorem TextsP.app {a b : List PT} (h : TextsP a) (h2 : TextsP b) : TextsP (a ++ b) := fun v hv => by
  rcases List.mem_append.1 hv with hv | hv
  · exact h v hv
  · exact h2 v hv
theorem TextsP.one {x : PT} (h : x.2.2.2.2.size ≤ 20) : TextsP [x] := fun v hv => by simp at hv; subst hv; exact h
theorem TextsP.short {a : List PT} (h : TextsP a) : ShortP a := fun i hi => by have := h a[i] (List.getElem_mem _); unfold maxLen; omega
theorem own_madeP {w : World} {B : Nat} (e : TypeId) (size n : Nat) (C : Array Value) {X : Nat} (hX : w.heap.size = X) (hB : B ≤ X) (hC : C.size = n * size) (hn : n ≤ maxLen) : (w.alloc (.cells C e)).ownsRow B e size (.slice (some ⟨X, 0, none⟩) n n) n C.toList := by
  subst hX
  exact ⟨hC, .inr ⟨w.heap.size, n, C, rfl, hB, heap_alloc_new w _, Nat.le_refl _, hn, hC, by rw [← hC, ← Array.length_toList, List.take_length]⟩⟩
/-- An expression of the kind was drawn, of at most M parts: a row of its own. -/
def ExprP (cs : List CT) (kind : Int) (M B r : Nat) (p : Int) (w : World) (e : Ending) (w' : World) : Prop := ∃ (ps : List PT) (v : Value) (q : Int), e = .returned v ∧ 0 < ps.length ∧ ps.length ≤ M ∧ (∀ st, runK cs ps st = some (kind :: st)) ∧ TextsP ps ∧ w'.ownsRow w.heap.size 78 5 v ps.length (flatP ps) ∧ q ≤ p + 400 * M ∧ Only r w w' ∧ RdOk B r w' q
theorem run_one {cs : List CT} {x : PT} {st st' : List Int} (h : stepK cs x st = some st') : runK cs [x] st = some st' := by simp [runK, h]
theorem run_two {cs : List CT} {a b : List PT} {st s1 s2 : List Int} (h1 : runK cs a st = some s1) (h2 : runK cs b s1 = some s2) : runK cs (a ++ b) st = some s2 := by rw [run_cat, h1]; exact h2
set_option maxHeartbeats 4000000 in
theorem l20Expr0 (B r g o cap : Nat) (A : Option Addr) (cs : List CT) (kind d p : Int) (M : Nat) (w : World) (h : RdOk B r w p) (hp : p ≤ 700000000) (hA : Fl w g o A (flatC cs)) (hgr : g ≠ r) (hk : kind = 1 ∨ kind = 2 ∨ kind = 3) (h6 : cs.length ≤ 100) (hd : d < 1) (hM : 1 ≤ M) : Calls Try.prog 47 #[.pointer (some ⟨r, 0, none⟩), .slice A cs.length cap, .int .i64 kind, .int .i64 d] w (ExprP cs kind M B r p w) := by
  have hlt := h.lt
  have hge := h.ge
  have hp0 := h.p0
  have HA := Lib.hid hA
  have HR := Lib.hid h
  have HO := Lib.hid (Only.refl r w)
  clear h hA
  go_enter Try.func47, Try.ntmps47
  go_wp2_with ((go_at_call 82; (with_reducible refine (l20Leaf B r g o cap A cs kind _ _ (by repeat (with_reducible first | exact HR.out | apply RdOk.alloc | apply RdOk.drew | (refine RdOk.setFar ?_ (by first | omega | (simp; done) | (simp; omega)) _))) (by omega) HA.out hgr hk h6).mono ?_); rintro e w1 ⟨x, q1, rfl, hst, hsz, hq1, ho, hr⟩; have HOn := Lib.hid (Only.trans (by repeat (with_reducible first | exact HO.out | apply Only.alloc | apply Only.drew | (refine Only.setNew ?_ (by first | omega | (simp; done) | (simp; omega)) _))) ho); clear HO HR; have HO := HOn; have HR := Lib.hid hr; clear HOn hr; obtain ⟨x0, x1, x2, x3, x4⟩ := x; unfold aggP; simp only; have hws := HO.out.size; clear ho))
  all_goals (refine bodyPost_ret (v := .slice (some ⟨w1.heap.size, 0, none⟩) 1 1) (by simp [results, Try.results47, go_sem]) rfl ⟨[(x0, x1, x2, x3, x4)], _, q1, rfl, by simp, by simpa using hM, fun st => run_one (hst st), TextsP.one hsz, own_madeP 78 5 1 _ (by first | rfl | simp) (by omega) (by first | rfl | simp) (by decide), by omega, HO.out.alloc _, HR.out.alloc _⟩)
theorem own_lower {w : World} {B B' size n : Nat} {e : TypeId} {v : Value} {xs : List Value} (h : w.ownsRow B' e size v n xs) (hB : B ≤ B') : w.ownsRow B e size v n xs := by
  refine ⟨h.1, ?_⟩
  rcases h.2 with h0 | ⟨g, cap, cur, h1, h2, h3⟩
  · exact .inl h0
  · exact .inr ⟨g, cap, cur, h1, Nat.le_trans hB h2, h3⟩
/-- The contract that a call of less depth keeps. -/
abbrev Deeper (cs : List CT) (A : Option Addr) (g o cap : Nat) (d : Int) (M B r : Nat) : Prop := ∀ (kind d' p : Int) (w : World), d' < d → -10 ≤ d' → RdOk B r w p → p + 400 * M ≤ 700000000 → Fl w g o A (flatC cs) → (kind = 1 ∨ kind = 2 ∨ kind = 3) → Calls Try.prog 47 #[.pointer (some ⟨r, 0, none⟩), .slice A cs.length cap, .int .i64 kind, .int .i64 d'] w (ExprP cs kind M B r p w)
/-- Steps of the parts that take values. -/
theorem own_sliceX {W : World} {B size n : Nat} {ty : TypeId} {v : Value} {xs : List Value} (h : W.ownsRow B ty size v n xs) (h0 : 0 < n) : ∃ g cap, v = .slice (some ⟨g, 0, none⟩) n cap := by
  rcases h.2 with ⟨-, hz⟩ | ⟨g, cap, cur, hv, -⟩
  · omega
  · exact ⟨g, cap, hv⟩
theorem news_own {W : World} {B g cap n size : Nat} {e : TypeId} {xs : List Value} (h : W.ownsRow B e size (.slice (some ⟨g, 0, none⟩) n cap) n xs) : ∀ j u, xs[j]? = some u → W.cell? ((⟨g, 0, none⟩ : Addr).add j) = some u := by
  intro j u hj
  obtain ⟨hl, rfl⟩ := List.getElem?_eq_some_iff.1 hj
  have := (fl_slice h).c j hl
  rw [Nat.zero_add] at this
  have ha : (⟨g, 0, none⟩ : Addr).add j = ⟨g, j, none⟩ := by unfold Addr.add; split <;> simp_all
  rw [ha]
  exact this
theorem one_flatX (ps : List PT) : ∀ u ∈ flatP ps, u.oneCell' = true := by
  induction ps with
  | nil => intro u hu; cases hu
  | cons p ps ih =>
    intro u hu
    rw [flatP_cons] at hu
    simp only [List.mem_cons] at hu
    rcases hu with rfl | rfl | rfl | rfl | rfl | hu
    · rfl
    · rfl
    · rfl
    · rfl
    · rfl
    · exact ih u hu
theorem step_three {cs : List CT} (st : List Int) : stepK cs (3, 0, nilV) (1 :: 1 :: st) = some (1 :: st) := by simp [stepK, partBad, isNil, nilV]
theorem step_four {cs : List CT} {k n : Int} (h0 : 1 ≤ n) (h4 : n ≤ 4) (st : List Int) : stepK cs (4, n, nilV) (k :: k :: st) = some (3 :: st) := by simp [stepK, partBad, isNil, nilV, h0, h4]
theorem step_and {cs : List CT} {k : Int} (h : k = 5 ∨ k = 6) (st : List Int) : stepK cs (k, 0, nilV) (3 :: 3 :: st) = some (3 :: st) := by rcases h with rfl | rfl <;> simp [stepK, partBad, isNil, nilV]
theorem step_seven {cs : List CT} (st : List Int) : stepK cs (7, 0, nilV) (3 :: st) = some (3 :: st) := by simp [stepK, partBad, isNil, nilV]
theorem step_eight {cs : List CT} (k : Int) (st : List Int) : stepK cs (8, 0, nilV) (k :: st) = some (3 :: st) := by simp [stepK, partBad, isNil, nilV]
theorem texts_nil {k n : Int} : TextsP [(k, n, nilV)] := TextsP.one (by show (0 : Nat) ≤ 20; omega)
set_option maxHeartbeats 8000000 in
theorem l20Expr1 (B r g o cap : Nat) (A : Option Addr) (cs : List CT) (d p : Int) (M : Nat) (w : World) (h : RdOk B r w p) (hp : p + 400 * (2 * M + 1) ≤ 700000000) (hA : Fl w g o A (flatC cs)) (hgr : g ≠ r) (h6 : cs.length ≤ 100) (hd : 1 ≤ d) (hd2 : d ≤ 100) (hM : 1 ≤ M) (IH : Deeper cs A g o cap d M B r) : Calls Try.prog 47 #[.pointer (some ⟨r, 0, none⟩), .slice A cs.length cap, .int .i64 1, .int .i64 d] w (ExprP cs 1 (2 * M + 1) B r p w) := by
  have hlt := h.lt
  have hge := h.ge
  have hp0 := h.p0
  have HA := Lib.hid hA
  have HR := Lib.hid h
  have HO := Lib.hid (Only.refl r w)
  have HI := Lib.hid IH
  clear h hA IH
  have hdn : ¬ d < 1 := by omega
  have hw1 : IntKind.i64.wrap (d - 1) = d - 1 := IntWalk.i64_in _ (by omega)
  have hw2 : IntKind.i64.wrap (d - 2) = d - 2 := IntWalk.i64_in _ (by omega)
  obtain ⟨i0, hi, iz0, iz1, iz2⟩ := info_parts infoP
  go_enter Try.func47, Try.ntmps47
  go_wp2_with (first
    | ((go_at_call 46; (with_reducible refine (pick B r 4 _ _ (by repeat (with_reducible first | exact HR.out | apply RdOk.alloc | apply RdOk.drew | (refine RdOk.setFar ?_ (by first | omega | (simp; done) | (simp; omega)) _))) (by omega)).mono ?_); rintro e w1 ⟨m4, rfl, hm40, hm41, hm42, ho, hr⟩; have HOn := Lib.hid (Only.trans (by repeat (with_reducible first | exact HO.out | apply Only.alloc | apply Only.drew | (refine Only.setNew ?_ (by first | omega | (simp; done) | (simp; omega)) _))) ho); have K0 := Lib.hid (Fl.only (by (repeat (with_reducible first | exact HA.out | apply Fl.alloc | apply Fl.drew))) ho (by omega)); clear HA; have HA := K0; clear K0; clear HO HR; have HO := HOn; have HR := Lib.hid hr; clear HOn hr; have hm41 := hm41 (by omega); clear hm42; have hws := HO.out.size; clear ho))
    | ((go_at_call 47; (with_reducible refine (HI.out _ _ _ _ (by omega) (by omega) (by repeat (with_reducible first | exact HR.out | apply RdOk.alloc | apply RdOk.drew | (refine RdOk.setFar ?_ (by first | omega | (simp; done) | (simp; omega)) _))) (by omega) (by repeat (with_reducible first | exact HA.out | apply Fl.alloc | apply Fl.drew)) (by omega)).mono ?_); rintro e w1 ⟨xa, vxa, qxa, rfl, hxa0, hxaM, hxar, hxat, hxao, hxaq, ho, hr⟩; have HOn := Lib.hid (Only.trans (by repeat (with_reducible first | exact HO.out | apply Only.alloc | apply Only.drew | (refine Only.setNew ?_ (by first | omega | (simp; done) | (simp; omega)) _))) ho); have K0 := Lib.hid (Fl.only (by (repeat (with_reducible first | exact HA.out | apply Fl.alloc | apply Fl.drew))) ho (by omega)); clear HA; have HA := K0; clear K0; clear HO HR; have HO := HOn; have HR := Lib.hid hr; clear HOn hr; have OA := Lib.hid (own_lower (B := w.heap.size) hxao (by first | omega | (simp; omega))); have hws := HO.out.size; obtain ⟨gxa, cxa, rfl⟩ := own_sliceX OA.out hxa0; have OAR := Lib.hid hxar; have OAT := Lib.hid hxat; clear hxao hxar hxat; clear ho))
    | (have _ := OA; (go_at_call 82; (with_reducible refine (l20Leaf B r g o cap A cs (1) _ _ (by repeat (with_reducible first | exact HR.out | apply RdOk.alloc | apply RdOk.drew | (refine RdOk.setFar ?_ (by first | omega | (simp; done) | (simp; omega)) _))) (by omega) HA.out hgr (by omega) h6).mono ?_); rintro e w1 ⟨x, q1, rfl, hst, hsz, hq1, ho, hr⟩; have HOn := Lib.hid (Only.trans (by repeat (with_reducible first | exact HO.out | apply Only.alloc | apply Only.drew | (refine Only.setNew ?_ (by first | omega | (simp; done) | (simp; omega)) _))) ho); have K0 := Lib.hid (own_only2 (by repeat (with_reducible first | exact OA.out | apply World.ownsRow.alloc | apply own_drew)) (by omega) ho); clear OA; have OA := K0; clear K0; have K0 := Lib.hid (Fl.only (by (repeat (with_reducible first | exact HA.out | apply Fl.alloc | apply Fl.drew))) ho (by omega)); clear HA; have HA := K0; clear K0; clear HO HR; have HO := HOn; have HR := Lib.hid hr; clear HOn hr; obtain ⟨x0, x1, x2, x3, x4⟩ := x; unfold aggP; simp only; have hws := HO.out.size; have HST := Lib.hid hst; clear hst; clear ho))
    | ((fail_if_success (have _ := OA)); (go_at_call 82; (with_reducible refine (l20Leaf B r g o cap A cs (1) _ _ (by repeat (with_reducible first | exact HR.out | apply RdOk.alloc | apply RdOk.drew | (refine RdOk.setFar ?_ (by first | omega | (simp; done) | (simp; omega)) _))) (by omega) HA.out hgr (by omega) h6).mono ?_); rintro e w1 ⟨x, q1, rfl, hst, hsz, hq1, ho, hr⟩; have HOn := Lib.hid (Only.trans (by repeat (with_reducible first | exact HO.out | apply Only.alloc | apply Only.drew | (refine Only.setNew ?_ (by first | omega | (simp; done) | (simp; omega)) _))) ho); have K0 := Lib.hid (Fl.only (by (repeat (with_reducible first | exact HA.out | apply Fl.alloc | apply Fl.drew))) ho (by omega)); clear HA; have HA := K0; clear K0; clear HO HR; have HO := HOn; have HR := Lib.hid hr; clear HOn hr; obtain ⟨x0, x1, x2, x3, x4⟩ := x; unfold aggP; simp only; have hws := HO.out.size; have HST := Lib.hid hst; clear hst; clear ho))
    | ((fail_if_success (have _ := OB)); at_builtin; refine wpList_append_own _ rfl (.tmp 29) (.tmp 34) 24 rfl w.heap.size 78 i0 (.agg #[.int .i64 0, .int .i64 0, .int .i64 0, .int .i64 0, .string ⟨#[]⟩]) 5 48 Try.underlying24 hi iz0 iz1 iz2 rfl (by decide) (.slice (some ⟨gxa, 0, none⟩) xa.length cxa) (xa.length) (flatP xa) rfl (by repeat (with_reducible first | exact OA.out | apply World.ownsRow.alloc | apply own_drew)) _ (1) (1) ([.int .i64 x0, .int .i64 x1, .int .i64 x2, .int .i64 x3, .string x4]) rfl rfl (news_new (by first | rfl | simp)) (by simp [Value.oneCell']) (by unfold maxLen; omega) (by omega) (by first | omega | (simp; done) | (simp; omega)) ?_; intro v2 w2 hown2 hgr2 _; have HRn := Lib.hid (rd_grown (by repeat (with_reducible first | exact HR.out | apply RdOk.alloc | apply RdOk.drew)) hgr2 (fun k hk => by have := (OA.out.lt k hk).1; omega)); have HOn := Lib.hid (Only.grown (by repeat (with_reducible first | exact HO.out | apply Only.alloc | apply Only.drew)) hgr2 (fun k hk => (OA.out.lt k hk).1)); clear HR HO; have HR := HRn; have HO := HOn; clear HRn HOn hgr2; have OB := Lib.hid hown2; clear hown2; have hws := HO.out.size)
    | (have _ := OB; at_builtin; refine wpList_append_own _ rfl (.tmp 35) (.tmp 37) 24 rfl w.heap.size 78 i0 (.agg #[.int .i64 0, .int .i64 0, .int .i64 0, .int .i64 0, .string ⟨#[]⟩]) 5 48 Try.underlying24 hi iz0 iz1 iz2 rfl (by decide) (v2) (xa.length + 1) (flatP xa ++ [.int .i64 x0, .int .i64 x1, .int .i64 x2, .int .i64 x3, .string x4]) rfl (by repeat (with_reducible first | exact OB.out | apply World.ownsRow.alloc | apply own_drew)) _ (1) (1) ([.int .i64 3, .int .i64 0, .int .i64 0, .int .i64 0, .string ⟨#[]⟩]) rfl rfl (news_new (by first | rfl | simp)) (by simp [Value.oneCell']) (by unfold maxLen; omega) (by omega) (by first | omega | (simp; done) | (simp; omega)) ?_; intro v2 w2 hown2 hgr2 _; have HRn := Lib.hid (rd_grown (by repeat (with_reducible first | exact HR.out | apply RdOk.alloc | apply RdOk.drew)) hgr2 (fun k hk => by have := (OB.out.lt k hk).1; omega)); have HOn := Lib.hid (Only.grown (by repeat (with_reducible first | exact HO.out | apply Only.alloc | apply Only.drew)) hgr2 (fun k hk => (OB.out.lt k hk).1)); clear HR HO; have HR := HRn; have HO := HOn; clear HRn HOn hgr2; have OD := Lib.hid hown2; clear hown2; have hws := HO.out.size))
  all_goals first
    | (refine bodyPost_ret (v := .slice (some ⟨w1.heap.size, 0, none⟩) 1 1) (by simp [results, Try.results47, go_sem]) rfl ⟨[(x0, x1, x2, x3, x4)], _, q1, rfl, by simp, (by simp <;> omega), fun st => run_one (HST.out st), TextsP.one hsz, own_madeP 78 5 1 _ (by first | rfl | simp) (by omega) (by first | rfl | simp) (by decide), by omega, HO.out.alloc _, HR.out.alloc _⟩)
    | (go_ret; exact ⟨xa ++ [(x0, x1, x2, x3, x4)] ++ [(3, 0, nilV)], _, q1, rfl, (by simp <;> omega), (by simp; omega), fun st => run_two (run_two (OAR.out st) (run_one (HST.out _))) (run_one (step_three st)), (OAT.out.app (TextsP.one hsz)).app texts_nil, by simpa [flatP_app, flatP_cons, flatP_nil, nilV, Nat.add_assoc] using OD.out, by omega, HO.out, HR.out⟩)
set_option maxHeartbeats 8000000 in
theorem l20Expr2 (B r g o cap : Nat) (A : Option Addr) (cs : List CT) (d p : Int) (M : Nat) (w : World) (h : RdOk B r w p) (hp : p + 400 * (2 * M + 1) ≤ 700000000) (hA : Fl w g o A (flatC cs)) (hgr : g ≠ r) (h6 : cs.length ≤ 100) (hd : 1 ≤ d) (hd2 : d ≤ 100) (hM : 1 ≤ M) (IH : Deeper cs A g o cap d M B r) : Calls Try.prog 47 #[.pointer (some ⟨r, 0, none⟩), .slice A cs.length cap, .int .i64 2, .int .i64 d] w (ExprP cs 2 (2 * M + 1) B r p w) := by
  have hlt := h.lt
  have hge := h.ge
  have hp0 := h.p0
  have HA := Lib.hid hA
  have HR := Lib.hid h
  have HO := Lib.hid (Only.refl r w)
  have HI := Lib.hid IH
  clear h hA IH
  have hdn : ¬ d < 1 := by omega
  have hw1 : IntKind.i64.wrap (d - 1) = d - 1 := IntWalk.i64_in _ (by omega)
  have hw2 : IntKind.i64.wrap (d - 2) = d - 2 := IntWalk.i64_in _ (by omega)
  obtain ⟨i0, hi, iz0, iz1, iz2⟩ := info_parts infoP
  go_enter Try.func47, Try.ntmps47
  go_wp2_with (first
    | ((go_at_call 46; (with_reducible refine (pick B r 4 _ _ (by repeat (with_reducible first | exact HR.out | apply RdOk.alloc | apply RdOk.drew | (refine RdOk.setFar ?_ (by first | omega | (simp; done) | (simp; omega)) _))) (by omega)).mono ?_); rintro e w1 ⟨m4, rfl, hm40, hm41, hm42, ho, hr⟩; have HOn := Lib.hid (Only.trans (by repeat (with_reducible first | exact HO.out | apply Only.alloc | apply Only.drew | (refine Only.setNew ?_ (by first | omega | (simp; done) | (simp; omega)) _))) ho); have K0 := Lib.hid (Fl.only (by (repeat (with_reducible first | exact HA.out | apply Fl.alloc | apply Fl.drew))) ho (by omega)); clear HA; have HA := K0; clear K0; clear HO HR; have HO := HOn; have HR := Lib.hid hr; clear HOn hr; have hm41 := hm41 (by omega); clear hm42; have hws := HO.out.size; clear ho))
    | ((go_at_call 82; (with_reducible refine (l20Leaf B r g o cap A cs (2) _ _ (by repeat (with_reducible first | exact HR.out | apply RdOk.alloc | apply RdOk.drew | (refine RdOk.setFar ?_ (by first | omega | (simp; done) | (simp; omega)) _))) (by omega) HA.out hgr (by omega) h6).mono ?_); rintro e w1 ⟨x, q1, rfl, hst, hsz, hq1, ho, hr⟩; have HOn := Lib.hid (Only.trans (by repeat (with_reducible first | exact HO.out | apply Only.alloc | apply Only.drew | (refine Only.setNew ?_ (by first | omega | (simp; done) | (simp; omega)) _))) ho); have K0 := Lib.hid (Fl.only (by (repeat (with_reducible first | exact HA.out | apply Fl.alloc | apply Fl.drew))) ho (by omega)); clear HA; have HA := K0; clear K0; clear HO HR; have HO := HOn; have HR := Lib.hid hr; clear HOn hr; obtain ⟨x0, x1, x2, x3, x4⟩ := x; unfold aggP; simp only; have hws := HO.out.size; have HST := Lib.hid hst; clear hst; clear ho)))
  all_goals (refine bodyPost_ret (v := .slice (some ⟨w1.heap.size, 0, none⟩) 1 1) (by simp [results, Try.results47, go_sem]) rfl ⟨[(x0, x1, x2, x3, x4)], _, q1, rfl, by simp, (by simp <;> omega), fun st => run_one (HST.out st), TextsP.one hsz, own_madeP 78 5 1 _ (by first | rfl | simp) (by omega) (by first | rfl | simp) (by decide), by omega, HO.out.alloc _, HR.out.alloc _⟩)
set_option maxHeartbeats 8000000 in
theorem l20Expr3 (B r g o cap : Nat) (A : Option Addr) (cs : List CT) (d p : Int) (M : Nat) (w : World) (h : RdOk B r w p) (hp : p + 400 * (2 * M + 1) ≤ 700000000) (hA : Fl w g o A (flatC cs)) (hgr : g ≠ r) (h6 : cs.length ≤ 100) (hd : 1 ≤ d) (hd2 : d ≤ 100) (hM : 1 ≤ M) (IH : Deeper cs A g o cap d M B r) : Calls Try.prog 47 #[.pointer (some ⟨r, 0, none⟩), .slice A cs.length cap, .int .i64 3, .int .i64 d] w (ExprP cs 3 (2 * M + 1) B r p w) := by
  have hlt := h.lt
  have hge := h.ge
  have hp0 := h.p0
  have HA := Lib.hid hA
  have HR := Lib.hid h
  have HO := Lib.hid (Only.refl r w)
  have HI := Lib.hid IH
  clear h hA IH
  have hdn : ¬ d < 1 := by omega
  have hw1 : IntKind.i64.wrap (d - 1) = d - 1 := IntWalk.i64_in _ (by omega)
  have hw2 : IntKind.i64.wrap (d - 2) = d - 2 := IntWalk.i64_in _ (by omega)
  obtain ⟨i0, hi, iz0, iz1, iz2⟩ := info_parts infoP
  go_enter Try.func47, Try.ntmps47
  go_wp2_with (first
    | ((fail_if_success (have _ := T4)); (go_at_call 46; (with_reducible refine (pick B r 4 _ _ (by repeat (with_reducible first | exact HR.out | apply RdOk.alloc | apply RdOk.drew | (refine RdOk.setFar ?_ (by first | omega | (simp; done) | (simp; omega)) _))) (by omega)).mono ?_); rintro e w1 ⟨m4, rfl, hm40, hm41, hm42, ho, hr⟩; have HOn := Lib.hid (Only.trans (by repeat (with_reducible first | exact HO.out | apply Only.alloc | apply Only.drew | (refine Only.setNew ?_ (by first | omega | (simp; done) | (simp; omega)) _))) ho); have K0 := Lib.hid (Fl.only (by (repeat (with_reducible first | exact HA.out | apply Fl.alloc | apply Fl.drew))) ho (by omega)); clear HA; have HA := K0; clear K0; clear HO HR; have HO := HOn; have HR := Lib.hid hr; clear HOn hr; have hm41 := hm41 (by omega); clear hm42; have hws := HO.out.size; have T4 := True.intro; clear ho))
    | ((go_at_call 46; (with_reducible refine (pick B r 6 _ _ (by repeat (with_reducible first | exact HR.out | apply RdOk.alloc | apply RdOk.drew | (refine RdOk.setFar ?_ (by first | omega | (simp; done) | (simp; omega)) _))) (by omega)).mono ?_); rintro e w1 ⟨m6, rfl, hm60, hm61, hm62, ho, hr⟩; have HOn := Lib.hid (Only.trans (by repeat (with_reducible first | exact HO.out | apply Only.alloc | apply Only.drew | (refine Only.setNew ?_ (by first | omega | (simp; done) | (simp; omega)) _))) ho); have K0 := Lib.hid (Fl.only (by (repeat (with_reducible first | exact HA.out | apply Fl.alloc | apply Fl.drew))) ho (by omega)); clear HA; have HA := K0; clear K0; clear HO HR; have HO := HOn; have HR := Lib.hid hr; clear HOn hr; have hm61 := hm61 (by omega); clear hm62; have hws := HO.out.size; clear ho))
    | ((go_at_call 46; (with_reducible refine (pick B r 3 _ _ (by repeat (with_reducible first | exact HR.out | apply RdOk.alloc | apply RdOk.drew | (refine RdOk.setFar ?_ (by first | omega | (simp; done) | (simp; omega)) _))) (by omega)).mono ?_); rintro e w1 ⟨m3, rfl, hm30, hm31, hm32, ho, hr⟩; have HOn := Lib.hid (Only.trans (by repeat (with_reducible first | exact HO.out | apply Only.alloc | apply Only.drew | (refine Only.setNew ?_ (by first | omega | (simp; done) | (simp; omega)) _))) ho); have K0 := Lib.hid (Fl.only (by (repeat (with_reducible first | exact HA.out | apply Fl.alloc | apply Fl.drew))) ho (by omega)); clear HA; have HA := K0; clear K0; clear HO HR; have HO := HOn; have HR := Lib.hid hr; clear HOn hr; have hm31 := hm31 (by omega); clear hm32; have hws := HO.out.size; have hw3 : IntKind.i64.wrap (1 + m3) = 1 + m3 := IntWalk.i64_in _ (by omega); clear ho))
    | ((fail_if_success (have _ := OA)); (go_at_call 82; (with_reducible refine (l20Leaf B r g o cap A cs (3) _ _ (by repeat (with_reducible first | exact HR.out | apply RdOk.alloc | apply RdOk.drew | (refine RdOk.setFar ?_ (by first | omega | (simp; done) | (simp; omega)) _))) (by omega) HA.out hgr (by omega) h6).mono ?_); rintro e w1 ⟨x, q1, rfl, hst, hsz, hq1, ho, hr⟩; have HOn := Lib.hid (Only.trans (by repeat (with_reducible first | exact HO.out | apply Only.alloc | apply Only.drew | (refine Only.setNew ?_ (by first | omega | (simp; done) | (simp; omega)) _))) ho); have K0 := Lib.hid (Fl.only (by (repeat (with_reducible first | exact HA.out | apply Fl.alloc | apply Fl.drew))) ho (by omega)); clear HA; have HA := K0; clear K0; clear HO HR; have HO := HOn; have HR := Lib.hid hr; clear HOn hr; obtain ⟨x0, x1, x2, x3, x4⟩ := x; unfold aggP; simp only; have hws := HO.out.size; have HST := Lib.hid hst; clear hst; clear ho))
    | ((fail_if_success (have _ := OA)); (go_at_call 47; (with_reducible refine (HI.out _ _ _ _ (by omega) (by omega) (by repeat (with_reducible first | exact HR.out | apply RdOk.alloc | apply RdOk.drew | (refine RdOk.setFar ?_ (by first | omega | (simp; done) | (simp; omega)) _))) (by omega) (by repeat (with_reducible first | exact HA.out | apply Fl.alloc | apply Fl.drew)) (by omega)).mono ?_); rintro e w1 ⟨xa, vxa, qxa, rfl, hxa0, hxaM, hxar, hxat, hxao, hxaq, ho, hr⟩; have HOn := Lib.hid (Only.trans (by repeat (with_reducible first | exact HO.out | apply Only.alloc | apply Only.drew | (refine Only.setNew ?_ (by first | omega | (simp; done) | (simp; omega)) _))) ho); have K0 := Lib.hid (Fl.only (by (repeat (with_reducible first | exact HA.out | apply Fl.alloc | apply Fl.drew))) ho (by omega)); clear HA; have HA := K0; clear K0; clear HO HR; have HO := HOn; have HR := Lib.hid hr; clear HOn hr; have OA := Lib.hid (own_lower (B := w.heap.size) hxao (by first | omega | (simp; omega))); have hws := HO.out.size; obtain ⟨gxa, cxa, rfl⟩ := own_sliceX OA.out hxa0; have OAR := Lib.hid hxar; have OAT := Lib.hid hxat; clear hxao hxar hxat; clear ho))
    | (have _ := OA; (fail_if_success (have _ := OC)); (go_at_call 47; (with_reducible refine (HI.out _ _ _ _ (by omega) (by omega) (by repeat (with_reducible first | exact HR.out | apply RdOk.alloc | apply RdOk.drew | (refine RdOk.setFar ?_ (by first | omega | (simp; done) | (simp; omega)) _))) (by omega) (by repeat (with_reducible first | exact HA.out | apply Fl.alloc | apply Fl.drew)) (by omega)).mono ?_); rintro e w1 ⟨xc, vxc, qxc, rfl, hxc0, hxcM, hxcr, hxct, hxco, hxcq, ho, hr⟩; have HOn := Lib.hid (Only.trans (by repeat (with_reducible first | exact HO.out | apply Only.alloc | apply Only.drew | (refine Only.setNew ?_ (by first | omega | (simp; done) | (simp; omega)) _))) ho); have K0 := Lib.hid (own_only2 (by repeat (with_reducible first | exact OA.out | apply World.ownsRow.alloc | apply own_drew)) (by omega) ho); clear OA; have OA := K0; clear K0; have K0 := Lib.hid (Fl.only (by (repeat (with_reducible first | exact HA.out | apply Fl.alloc | apply Fl.drew))) ho (by omega)); clear HA; have HA := K0; clear K0; clear HO HR; have HO := HOn; have HR := Lib.hid hr; clear HOn hr; have OC := Lib.hid (own_lower (B := w.heap.size) hxco (by first | omega | (simp; omega))); have hws := HO.out.size; obtain ⟨gxc, cxc, rfl⟩ := own_sliceX OC.out hxc0; have OCR := Lib.hid hxcr; have OCT := Lib.hid hxct; clear hxco hxcr hxct; clear ho))
    | (have _ := OA; (go_at_call 82; (with_reducible refine (l20Leaf B r g o cap A cs (1 + m3) _ _ (by repeat (with_reducible first | exact HR.out | apply RdOk.alloc | apply RdOk.drew | (refine RdOk.setFar ?_ (by first | omega | (simp; done) | (simp; omega)) _))) (by omega) HA.out hgr (by omega) h6).mono ?_); rintro e w1 ⟨x, q1, rfl, hst, hsz, hq1, ho, hr⟩; have HOn := Lib.hid (Only.trans (by repeat (with_reducible first | exact HO.out | apply Only.alloc | apply Only.drew | (refine Only.setNew ?_ (by first | omega | (simp; done) | (simp; omega)) _))) ho); have K0 := Lib.hid (own_only2 (by repeat (with_reducible first | exact OA.out | apply World.ownsRow.alloc | apply own_drew)) (by omega) ho); clear OA; have OA := K0; clear K0; have K0 := Lib.hid (Fl.only (by (repeat (with_reducible first | exact HA.out | apply Fl.alloc | apply Fl.drew))) ho (by omega)); clear HA; have HA := K0; clear K0; clear HO HR; have HO := HOn; have HR := Lib.hid hr; clear HOn hr; obtain ⟨x0, x1, x2, x3, x4⟩ := x; unfold aggP; simp only; have hws := HO.out.size; have HST := Lib.hid hst; clear hst; clear ho))
    | (have _ := OC; (fail_if_success (have _ := OB)); at_builtin; refine wpList_append_own _ rfl (.tmp 54) (.tmp 59) 24 rfl w.heap.size 78 i0 (.agg #[.int .i64 0, .int .i64 0, .int .i64 0, .int .i64 0, .string ⟨#[]⟩]) 5 48 Try.underlying24 hi iz0 iz1 iz2 rfl (by decide) (.slice (some ⟨gxa, 0, none⟩) xa.length cxa) (xa.length) (flatP xa) rfl (by repeat (with_reducible first | exact OA.out | apply World.ownsRow.alloc | apply own_drew)) _ (xc.length) (cxc) (flatP xc) rfl (flatP_len xc) (news_own (by repeat (with_reducible first | exact OC.out | apply World.ownsRow.alloc | apply own_drew))) (one_flatX xc) (by unfold maxLen; omega) (by omega) (by first | omega | (simp; done) | (simp; omega)) ?_; intro v2 w2 hown2 hgr2 _; have HRn := Lib.hid (rd_grown (by repeat (with_reducible first | exact HR.out | apply RdOk.alloc | apply RdOk.drew)) hgr2 (fun k hk => by have := (OA.out.lt k hk).1; omega)); have HOn := Lib.hid (Only.grown (by repeat (with_reducible first | exact HO.out | apply Only.alloc | apply Only.drew)) hgr2 (fun k hk => (OA.out.lt k hk).1)); clear HR HO; have HR := HRn; have HO := HOn; clear HRn HOn hgr2; have OB := Lib.hid hown2; clear hown2; have hws := HO.out.size)
    | ((fail_if_success (have _ := OB)); at_builtin; refine wpList_append_own _ rfl (.tmp 98) (.tmp 103) 24 rfl w.heap.size 78 i0 (.agg #[.int .i64 0, .int .i64 0, .int .i64 0, .int .i64 0, .string ⟨#[]⟩]) 5 48 Try.underlying24 hi iz0 iz1 iz2 rfl (by decide) (.slice (some ⟨gxa, 0, none⟩) xa.length cxa) (xa.length) (flatP xa) rfl (by repeat (with_reducible first | exact OA.out | apply World.ownsRow.alloc | apply own_drew)) _ (1) (1) ([.int .i64 x0, .int .i64 x1, .int .i64 x2, .int .i64 x3, .string x4]) rfl rfl (news_new (by first | rfl | simp)) (by simp [Value.oneCell']) (by unfold maxLen; omega) (by omega) (by first | omega | (simp; done) | (simp; omega)) ?_; intro v2 w2 hown2 hgr2 _; have HRn := Lib.hid (rd_grown (by repeat (with_reducible first | exact HR.out | apply RdOk.alloc | apply RdOk.drew)) hgr2 (fun k hk => by have := (OA.out.lt k hk).1; omega)); have HOn := Lib.hid (Only.grown (by repeat (with_reducible first | exact HO.out | apply Only.alloc | apply Only.drew)) hgr2 (fun k hk => (OA.out.lt k hk).1)); clear HR HO; have HR := HRn; have HO := HOn; clear HRn HOn hgr2; have OB := Lib.hid hown2; clear hown2; have hws := HO.out.size)
    | ((fail_if_success (have _ := OB)); at_builtin; refine wpList_append_own _ rfl (.tmp 73) (.tmp 75) 24 rfl w.heap.size 78 i0 (.agg #[.int .i64 0, .int .i64 0, .int .i64 0, .int .i64 0, .string ⟨#[]⟩]) 5 48 Try.underlying24 hi iz0 iz1 iz2 rfl (by decide) (.slice (some ⟨gxa, 0, none⟩) xa.length cxa) (xa.length) (flatP xa) rfl (by repeat (with_reducible first | exact OA.out | apply World.ownsRow.alloc | apply own_drew)) _ (1) (1) ([.int .i64 (7), .int .i64 (0), .int .i64 0, .int .i64 0, .string ⟨#[]⟩]) rfl rfl (news_new (by first | rfl | simp)) (by simp [Value.oneCell']) (by unfold maxLen; omega) (by omega) (by first | omega | (simp; done) | (simp; omega)) ?_; intro v2 w2 hown2 hgr2 _; have HRn := Lib.hid (rd_grown (by repeat (with_reducible first | exact HR.out | apply RdOk.alloc | apply RdOk.drew)) hgr2 (fun k hk => by have := (OA.out.lt k hk).1; omega)); have HOn := Lib.hid (Only.grown (by repeat (with_reducible first | exact HO.out | apply Only.alloc | apply Only.drew)) hgr2 (fun k hk => (OA.out.lt k hk).1)); clear HR HO; have HR := HRn; have HO := HOn; clear HRn HOn hgr2; have OD := Lib.hid hown2; clear hown2; have hws := HO.out.size)
    | ((fail_if_success (have _ := OB)); at_builtin; refine wpList_append_own _ rfl (.tmp 86) (.tmp 88) 24 rfl w.heap.size 78 i0 (.agg #[.int .i64 0, .int .i64 0, .int .i64 0, .int .i64 0, .string ⟨#[]⟩]) 5 48 Try.underlying24 hi iz0 iz1 iz2 rfl (by decide) (.slice (some ⟨gxa, 0, none⟩) xa.length cxa) (xa.length) (flatP xa) rfl (by repeat (with_reducible first | exact OA.out | apply World.ownsRow.alloc | apply own_drew)) _ (1) (1) ([.int .i64 (8), .int .i64 (0), .int .i64 0, .int .i64 0, .string ⟨#[]⟩]) rfl rfl (news_new (by first | rfl | simp)) (by simp [Value.oneCell']) (by unfold maxLen; omega) (by omega) (by first | omega | (simp; done) | (simp; omega)) ?_; intro v2 w2 hown2 hgr2 _; have HRn := Lib.hid (rd_grown (by repeat (with_reducible first | exact HR.out | apply RdOk.alloc | apply RdOk.drew)) hgr2 (fun k hk => by have := (OA.out.lt k hk).1; omega)); have HOn := Lib.hid (Only.grown (by repeat (with_reducible first | exact HO.out | apply Only.alloc | apply Only.drew)) hgr2 (fun k hk => (OA.out.lt k hk).1)); clear HR HO; have HR := HRn; have HO := HOn; clear HRn HOn hgr2; have OD := Lib.hid hown2; clear hown2; have hws := HO.out.size)
    | (have _ := OB; (go_at_call 46; (with_reducible refine (pick B r 2 _ _ (by repeat (with_reducible first | exact HR.out | apply RdOk.alloc | apply RdOk.drew | (refine RdOk.setFar ?_ (by first | omega | (simp; done) | (simp; omega)) _))) (by omega)).mono ?_); rintro e w1 ⟨m2, rfl, hm20, hm21, hm22, ho, hr⟩; have HOn := Lib.hid (Only.trans (by repeat (with_reducible first | exact HO.out | apply Only.alloc | apply Only.drew | (refine Only.setNew ?_ (by first | omega | (simp; done) | (simp; omega)) _))) ho); have K0 := Lib.hid (own_only2 (by repeat (with_reducible first | exact OB.out | apply World.ownsRow.alloc | apply own_drew)) (by omega) ho); clear OB; have OB := K0; clear K0; clear HO HR; have HO := HOn; have HR := Lib.hid hr; clear HOn hr; have hm21 := hm21 (by omega); clear hm22; have hws := HO.out.size; have hw5 : IntKind.i64.wrap (5 + m2) = 5 + m2 := IntWalk.i64_in _ (by omega); clear ho))
    | (have _ := OB; (go_at_call 46; (with_reducible refine (pick B r 4 _ _ (by repeat (with_reducible first | exact HR.out | apply RdOk.alloc | apply RdOk.drew | (refine RdOk.setFar ?_ (by first | omega | (simp; done) | (simp; omega)) _))) (by omega)).mono ?_); rintro e w1 ⟨n4, rfl, hn40, hn41, hn42, ho, hr⟩; have HOn := Lib.hid (Only.trans (by repeat (with_reducible first | exact HO.out | apply Only.alloc | apply Only.drew | (refine Only.setNew ?_ (by first | omega | (simp; done) | (simp; omega)) _))) ho); have K0 := Lib.hid (own_only2 (by repeat (with_reducible first | exact OB.out | apply World.ownsRow.alloc | apply own_drew)) (by omega) ho); clear OB; have OB := K0; clear K0; clear HO HR; have HO := HOn; have HR := Lib.hid hr; clear HOn hr; have hn41 := hn41 (by omega); clear hn42; have hws := HO.out.size; have hw4 : IntKind.i64.wrap (1 + n4) = 1 + n4 := IntWalk.i64_in _ (by omega); clear ho))
    | (have _ := OB; at_builtin; refine wpList_append_own _ rfl (.tmp 60) (.tmp 65) 24 rfl w.heap.size 78 i0 (.agg #[.int .i64 0, .int .i64 0, .int .i64 0, .int .i64 0, .string ⟨#[]⟩]) 5 48 Try.underlying24 hi iz0 iz1 iz2 rfl (by decide) (v2) (xa.length + xc.length) (flatP xa ++ flatP xc) rfl (by repeat (with_reducible first | exact OB.out | apply World.ownsRow.alloc | apply own_drew)) _ (1) (1) ([.int .i64 (5 + m2), .int .i64 (0), .int .i64 0, .int .i64 0, .string ⟨#[]⟩]) rfl rfl (news_new (by first | rfl | simp)) (by simp [Value.oneCell']) (by unfold maxLen; omega) (by omega) (by first | omega | (simp; done) | (simp; omega)) ?_; intro v2 w2 hown2 hgr2 _; have HRn := Lib.hid (rd_grown (by repeat (with_reducible first | exact HR.out | apply RdOk.alloc | apply RdOk.drew)) hgr2 (fun k hk => by have := (OB.out.lt k hk).1; omega)); have HOn := Lib.hid (Only.grown (by repeat (with_reducible first | exact HO.out | apply Only.alloc | apply Only.drew)) hgr2 (fun k hk => (OB.out.lt k hk).1)); clear HR HO; have HR := HRn; have HO := HOn; clear HRn HOn hgr2; have OD := Lib.hid hown2; clear hown2; have hws := HO.out.size)
    | (have _ := OB; at_builtin; refine wpList_append_own _ rfl (.tmp 104) (.tmp 109) 24 rfl w.heap.size 78 i0 (.agg #[.int .i64 0, .int .i64 0, .int .i64 0, .int .i64 0, .string ⟨#[]⟩]) 5 48 Try.underlying24 hi iz0 iz1 iz2 rfl (by decide) (v2) (xa.length + 1) (flatP xa ++ [.int .i64 x0, .int .i64 x1, .int .i64 x2, .int .i64 x3, .string x4]) rfl (by repeat (with_reducible first | exact OB.out | apply World.ownsRow.alloc | apply own_drew)) _ (1) (1) ([.int .i64 (4), .int .i64 (1 + n4), .int .i64 0, .int .i64 0, .string ⟨#[]⟩]) rfl rfl (news_new (by first | rfl | simp)) (by simp [Value.oneCell']) (by unfold maxLen; omega) (by omega) (by first | omega | (simp; done) | (simp; omega)) ?_; intro v2 w2 hown2 hgr2 _; have HRn := Lib.hid (rd_grown (by repeat (with_reducible first | exact HR.out | apply RdOk.alloc | apply RdOk.drew)) hgr2 (fun k hk => by have := (OB.out.lt k hk).1; omega)); have HOn := Lib.hid (Only.grown (by repeat (with_reducible first | exact HO.out | apply Only.alloc | apply Only.drew)) hgr2 (fun k hk => (OB.out.lt k hk).1)); clear HR HO; have HR := HRn; have HO := HOn; clear HRn HOn hgr2; have OD := Lib.hid hown2; clear hown2; have hws := HO.out.size))
  all_goals first
    | (refine bodyPost_ret (v := .slice (some ⟨w1.heap.size, 0, none⟩) 1 1) (by simp [results, Try.results47, go_sem]) rfl ⟨[(x0, x1, x2, x3, x4)], _, q1, rfl, by simp, (by simp <;> omega), fun st => run_one (HST.out st), TextsP.one hsz, own_madeP 78 5 1 _ (by first | rfl | simp) (by omega) (by first | rfl | simp) (by decide), by omega, HO.out.alloc _, HR.out.alloc _⟩)
    | (go_ret; exact ⟨xa ++ xc ++ [(5 + m2, 0, nilV)], _, _, rfl, (by simp <;> omega), (by simp; omega), fun st => run_two (run_two (OAR.out st) (OCR.out _)) (run_one (step_and (by omega) st)), (OAT.out.app OCT.out).app texts_nil, by simpa [flatP_app, flatP_cons, flatP_nil, nilV, Nat.add_assoc] using OD.out, by omega, HO.out, HR.out⟩)
    | (go_ret; exact ⟨xa ++ [(x0, x1, x2, x3, x4)] ++ [(4, 1 + n4, nilV)], _, _, rfl, (by simp <;> omega), (by simp; omega), fun st => run_two (run_two (OAR.out st) (run_one (HST.out _))) (run_one (step_four (by omega) (by omega) st)), (OAT.out.app (TextsP.one hsz)).app texts_nil, by simpa [flatP_app, flatP_cons, flatP_nil, nilV, Nat.add_assoc] using OD.out, by omega, HO.out, HR.out⟩)
    | (go_ret; exact ⟨xa ++ [(7, 0, nilV)], _, _, rfl, (by simp <;> omega), (by simp; omega), fun st => run_two (OAR.out st) (run_one (step_seven st)), OAT.out.app texts_nil, by simpa [flatP_app, flatP_cons, flatP_nil, nilV, Nat.add_assoc] using OD.out, by omega, HO.out, HR.out⟩)
    | (go_ret; exact ⟨xa ++ [(8, 0, nilV)], _, _, rfl, (by simp <;> omega), (by simp; omega), fun st => run_two (OAR.out st) (run_one (step_eight _ st)), OAT.out.app texts_nil, by simpa [flatP_app, flatP_cons, flatP_nil, nilV, Nat.add_assoc] using OD.out, by omega, HO.out, HR.out⟩)
theorem ExprP.mono {cs : List CT} {kind p : Int} {M M' B r : Nat} {w w' : World} {e : Ending} (h : ExprP cs kind M B r p w e w') (hM : M ≤ M') : ExprP cs kind M' B r p w e w' := by
  obtain ⟨ps, v, q, h1, h2, h3, h4, h5, h6, h7, h8⟩ := h
  exact ⟨ps, v, q, h1, h2, by omega, h4, h5, h6, by omega, h8⟩
/-- The greatest length of an expression of depth D. -/
def lenE : Nat → Nat
  | 0 => 1
  | D + 1 => 2 * lenE D + 1
theorem l20ExprT (B r g o cap : Nat) (A : Option Addr) (cs : List CT) (hgr : g ≠ r) (h6 : cs.length ≤ 100) : ∀ (D : Nat), D ≤ 10 → ∀ (kind d p : Int) (w : World), d ≤ D → -10 ≤ d → RdOk B r w p → p + 400 * lenE D ≤ 700000000 → Fl w g o A (flatC cs) → (kind = 1 ∨ kind = 2 ∨ kind = 3) → Calls Try.prog 47 #[.pointer (some ⟨r, 0, none⟩), .slice A cs.length cap, .int .i64 kind, .int .i64 d] w (ExprP cs kind (lenE D) B r p w) := by
  intro D
  induction D with
  | zero =>
    intro _ kind d p w hd hd2 h hp hA hk
    exact l20Expr0 B r g o cap A cs kind d p 1 w h (by have := h.p0; simp [lenE] at hp; omega) hA hgr hk h6 (by simp at hd; omega) (Nat.le_refl _)
  | succ D ih =>
    intro hD kind d p w hd hd2 h hp hA hk
    have hM : 1 ≤ lenE D := by cases D <;> simp [lenE]
    have IH : Deeper cs A g o cap d (lenE D) B r := fun kind' d' p' w' h1 h2 h3 h4 h5 h7 => ih (by omega) kind' d' p' w' (by omega) h2 h3 h4 h5 h7
    rw [show lenE (D + 1) = 2 * lenE D + 1 from rfl] at hp ⊢
    generalize lenE D = M at *
    by_cases hd1 : d < 1
    · exact l20Expr0 B r g o cap A cs kind d p (2 * M + 1) w h (by omega) hA hgr hk h6 hd1 (by omega)
    · rcases hk with rfl | rfl | rfl
      · exact l20Expr1 B r g o cap A cs d p M w h (by omega) hA hgr h6 (by omega) (by omega) hM IH
      · exact l20Expr2 B r g o cap A cs d p M w h (by omega) hA hgr h6 (by omega) (by omega) hM IH
      · exact l20Expr3 B r g o cap A cs d p M w h (by omega) hA hgr h6 (by omega) (by omega) hM IH
/-- Whatever the depth, up to D: at most 4 ^ D parts. -/
theorem l20ExprD (B r g o cap : Nat) (A : Option Addr) (cs : List CT) (hgr : g ≠ r) (h6 : cs.length ≤ 100) : ∀ (D : Nat), D ≤ 10 → ∀ (kind d p : Int) (w : World), d ≤ D → -10 ≤ d → RdOk B r w p → p + 400 * (4 ^ D : Nat) ≤ 700000000 → Fl w g o A (flatC cs) → (kind = 1 ∨ kind = 2 ∨ kind = 3) → Calls Try.prog 47 #[.pointer (some ⟨r, 0, none⟩), .slice A cs.length cap, .int .i64 kind, .int .i64 d] w (ExprP cs kind (4 ^ D) B r p w) := by
  intro D
  induction D with
  | zero =>
    intro _ kind d p w hd hd2 h hp hA hk
    exact l20Expr0 B r g o cap A cs kind d p 1 w h (by have := h.p0; simp at hp; omega) hA hgr hk h6 (by simp at hd; omega) (Nat.le_refl _)
  | succ D ih =>
    intro hD kind d p w hd hd2 h hp hA hk
    have hM : 1 ≤ 4 ^ D := Nat.one_le_pow _ _ (by decide)
    rw [Nat.pow_succ, Nat.mul_comm] at hp ⊢
    have IH : Deeper cs A g o cap d (4 ^ D) B r := fun kind' d' p' w' h1 h2 h3 h4 h5 h7 => ih (by omega) kind' d' p' w' (by omega) h2 h3 h4 h5 h7
    generalize 4 ^ D = M at *
    by_cases hd1 : d < 1
    · exact l20Expr0 B r g o cap A cs kind d p (4 * M) w h (by omega) hA hgr hk h6 hd1 (by omega)
    · rcases hk with rfl | rfl | rfl
      · exact (l20Expr1 B r g o cap A cs d p M w h (by omega) hA hgr h6 (by omega) (by omega) hM IH).mono fun e w2 h => h.mono (by omega)
      · exact (l20Expr2 B r g o cap A cs d p M w h (by omega) hA hgr h6 (by omega) (by omega) hM IH).mono fun e w2 h => h.mono (by omega)
      · exact (l20Expr3 B r g o cap A cs d p M w h (by omega) hA hgr h6 (by omega) (by omega) hM IH).mono fun e w2 h => h.mono (by omega)
end Go.Proofs.Ytmkpnkpjillljaa.Val
