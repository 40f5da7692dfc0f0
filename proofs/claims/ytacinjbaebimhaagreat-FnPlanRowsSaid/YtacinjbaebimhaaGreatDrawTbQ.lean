/- What drawing columns, rows and lists of rows leaves where nothing odd is asked for (l20Columns, l20Like, l20Fit, l20Bag with none that does not fit): columns that are columns, rows that fit them. Written by /work/steering/wip/tools/mk_drawg.py out of DrawS, DrawL, DrawS2, DrawBg; Tables that were drawn: blocks from B on, read and stored into, none of them the reader's; What drawing tables leaves (l20Tables, none of them odd): tables whose rows fit; Storing shorter headers into drawn tables; What DrawBeginnings leaves: tables of one column each, two places, a test over two columns; The walk of DrawBeginnings. -/
import Derived.Test.YtacinjbaebimhaaGreatDrawBgQ
import Derived.Test.YtacinjbaebimhaaGreatDrawEQ
import Derived.Test.YtacinjbaebimhaaGreatRowFQ
import Derived.Test.YtacinjbaebimhaaGreatTabKQ
import Derived.Test.YtacinjbaebimhaaGreatDrawXQ
import Derived.BigRegion
namespace Go.Proofs.YtacinjbaebimhaaGreat.Val
open Go.RowKit
set_option linter.unusedSimpArgs false
set_option linter.unusedVariables false
set_option maxRecDepth 20000
theorem odd0 (B r : Nat) (p : Int) (w : World) (h : RdOk B r w p) : Calls Tryz.prog 25 #[.pointer (some ⟨r, 0, none⟩), .int .i64 0] w fun e w' => e = .returned (.bool false) ∧ Only r w w' ∧ RdOk B r w' p := by
  have H := Lib.hid h
  clear h
  go_enter Tryz.func25, Tryz.ntmps25
  go_wp2
  go_ret
  exact ⟨rfl, ⟨rfl, rfl, rfl, Nat.le_refl _, fun _ _ _ => rfl⟩, H.out⟩
theorem oddA (B r : Nat) (n p : Int) (w : World) (h : RdOk B r w p) (hp : p ≤ 1000000000) (hn : n ≤ 1000) : Calls Tryz.prog 25 #[.pointer (some ⟨r, 0, none⟩), .int .i64 n] w fun e w' => ∃ (v : Bool) (q : Int), e = .returned (.bool v) ∧ q ≤ p + 1 ∧ (n = 0 → v = false) ∧ Only r w w' ∧ RdOk B r w' q := by
  by_cases hn0 : n = 0
  · subst hn0
    refine (odd0 B r p w h).mono ?_
    rintro e w' ⟨rfl, ho, hr⟩
    exact ⟨false, p, rfl, by omega, fun _ => rfl, ho, hr⟩
  · refine (odd B r n p w h hp hn).mono ?_
    rintro e w' ⟨v, q, rfl, hq, ho, hr⟩
    exact ⟨v, q, rfl, hq, fun h => absurd h hn0, ho, hr⟩
def KindsC (cs : List CT) : Prop := ∀ c ∈ cs, c.1 = 1 ∨ c.1 = 2 ∨ c.1 = 3
theorem four_kind (m : Int) : four m = 1 ∨ four m = 2 ∨ four m = 3 := by unfold four; split <;> (try split) <;> simp
theorem KindsC.app {cs : List CT} (h : KindsC cs) (m : Int) (b : Bool) : KindsC (cs ++ [(four m, b)]) := fun c hc => by
  rcases List.mem_append.1 hc with hc | hc
  · exact h c hc
  · obtain rfl := List.mem_singleton.1 hc; exact four_kind m
/-- Columns were drawn that are columns. -/
def DrewCG (B r : Nat) (p : Int) (w : World) (e : Ending) (w' : World) : Prop := ∃ (cs : List CT) (g cap : Nat) (q : Int), e = .returned (.slice (some ⟨g, 0, none⟩) cs.length cap) ∧ 0 < cs.length ∧ cs.length ≤ 3 ∧ KindsC cs ∧ cs.length ≤ cap ∧ cap ≤ maxLen ∧ w.heap.size ≤ g ∧ Fl w' g 0 (some ⟨g, 0, none⟩) (flatC cs) ∧ w'.ownsRow w.heap.size 79 2 (.slice (some ⟨g, 0, none⟩) cs.length cap) cs.length (flatC cs) ∧ q ≤ p + 20 ∧ Only r w w' ∧ RdOk B r w' q
theorem drewCG_of {B r : Nat} {p q : Int} {w w' : World} {v : Value} {cs : List CT} (h : w'.ownsRow w.heap.size 79 2 v cs.length (flatC cs)) (h0 : 0 < cs.length) (hl : cs.length ≤ 3) (hk : KindsC cs) (hq : q ≤ p + 20) (ho : Only r w w') (hr : RdOk B r w' q) : DrewCG B r p w (.returned v) w' := by
  obtain ⟨g, A, cap, rfl, hf, hB, h1, h2, -⟩ := fl_of_own h
  have hfl := flatC_len cs
  obtain rfl := hf.ad (by omega)
  exact ⟨cs, g, cap, q, rfl, h0, hl, hk, h1, h2, hB (by omega), hf, h, hq, ho, hr⟩
set_option maxHeartbeats 4000000 in
theorem l20ColumnsG (B r : Nat) (p : Int) (w : World) (h : RdOk B r w p) (hp : p ≤ 900000000) : Calls Tryz.prog 39 #[.pointer (some ⟨r, 0, none⟩), .int .i64 0] w (DrewCG B r p w) := by
  obtain ⟨i0, hi, iz0, iz1, iz2⟩ := info_parts infoC
  have hlt := h.lt
  have hge := h.ge
  have hp0 := h.p0
  have HR := Lib.hid h
  have HO := Lib.hid (Only.refl r w)
  clear h
  go_enter Tryz.func39, Tryz.ntmps39
  go_wp2_with ((go_at_call 26; (with_reducible refine (pick B r 3 p _ (by repeat (with_reducible first | exact HR.out | apply RdOk.alloc | apply RdOk.drew | (refine RdOk.setFar ?_ (by first | omega | (simp; done) | (simp; omega)) _))) (by omega)).mono ?_); rintro e w1 ⟨m, rfl, hm0, hm1, hm2, ho, hr⟩; have HOn := Lib.hid (Only.trans (by repeat (with_reducible first | exact HO.out | apply Only.alloc | apply Only.drew | (refine Only.setNew ?_ (by first | omega | (simp; done) | (simp; omega)) _))) ho); clear HO HR; have HO := HOn; have HR := Lib.hid hr; clear HOn hr; have hm1 := hm1 (by omega); clear hm2; have OWN := Lib.hid (own_only2 (own_empty3 (B := w.heap.size) 79 2 rfl (Nat.le_refl _)) (by omega) ho); clear ho))
  go_loopw [5, 6] (fun vx kx wr => ∃ (K : Int) (cs : List CT) (q : Int), kx = .int .i64 K ∧ 0 ≤ K ∧ K ≤ 3 ∧ (cs.length : Int) + K ≤ 3 ∧ 1 ≤ (cs.length : Int) + K ∧ q + 2 * K ≤ p + 7 ∧ Hid (wr.ownsRow w.heap.size 79 2 vx cs.length (flatC cs)) ∧ Hid (KindsC cs) ∧ Hid (RdOk B r wr q) ∧ Hid (Only r w wr)) (fun _ kx _ => (intOf kx).toNat)
  case atStart => exact ⟨_, [], _, rfl, by omega, by omega, by simp; omega, by simp; omega, by omega, OWN, fun c hc => absurd hc (by simp), HR, HO⟩
  case round =>
    clear OWN HR HO
    obtain ⟨K, cs, q, rfl, hK0, hK1, hLK, hLM, hqK, OWN, HKC, HR, HO⟩ := hrel
    have hrl := HR.out.lt
    have hq0 := HR.out.p0
    have hws := HO.out.size
    by_cases hK : 0 < K
    · have K4 := fun (W : World) (m : Int) => four_at W 3 m
      have hnr : ¬ (wr.heap.size = r) := by omega
      go_wp2
      go_region_law (first | (refine step_call rfl 26 _ _ rfl pickEnters #[.pointer (some ⟨r, 0, none⟩), .int .i64 4] rfl (pick B r 4 _ _ (by repeat (with_reducible first | exact HR.out | apply RdOk.alloc | apply RdOk.drew | (refine RdOk.setFar ?_ (by first | omega | (simp; done) | (simp; omega)) _))) (by omega)) ?_; rintro e w1 ⟨m4, rfl, h40, h41, -, ho, hr⟩; have h41 := h41 (by omega); have HOn := Lib.hid (Only.trans (by repeat (with_reducible first | exact HO.out | apply Only.alloc | apply Only.drew | (refine Only.setNew ?_ (by first | omega | (simp; done) | (simp; omega)) _))) ho); have K0 := Lib.hid (own_only2 (by repeat (with_reducible first | exact OWN.out | apply World.ownsRow.alloc | apply own_drew)) (by omega) ho); clear OWN; have OWN := K0; clear K0; clear HO HR; have HO := HOn; have HR := Lib.hid hr; clear HOn hr; have hc4 := ho.cell; (try simp only [World.size_drew, World.cell?_drew] at hc4); (try (have hx4 : wr.heap.size < w1.heap.size := (by have := ho.size; simp at this; omega))); have hl4 := HR.out.lt; have hnr4 : ¬ (w1.heap.size = r) := (by omega); clear ho; refine ⟨_, rfl, ?_⟩) | (refine step_call rfl 26 _ _ rfl pickEnters #[.pointer (some ⟨r, 0, none⟩), .int .i64 3] rfl (pick B r 3 _ _ (by repeat (with_reducible first | exact HR.out | apply RdOk.alloc | apply RdOk.drew | (refine RdOk.setFar ?_ (by first | omega | (simp; done) | (simp; omega)) _))) (by omega)) ?_; rintro e w1 ⟨m3, rfl, h30, h31, -, ho, hr⟩; have h31 := h31 (by omega); have HOn := Lib.hid (Only.trans (by repeat (with_reducible first | exact HO.out | apply Only.alloc | apply Only.drew | (refine Only.setNew ?_ (by first | omega | (simp; done) | (simp; omega)) _))) ho); have K0 := Lib.hid (own_only2 (by repeat (with_reducible first | exact OWN.out | apply World.ownsRow.alloc | apply own_drew)) (by omega) ho); clear OWN; have OWN := K0; clear K0; clear HO HR; have HO := HOn; have HR := Lib.hid hr; clear HOn hr; have hc3 := ho.cell; clear ho; refine ⟨_, rfl, ?_⟩) | (refine step_own rfl (.tmp 15) (.tmp 25) 46 rfl w.heap.size 79 i0 (.agg #[.int .i64 0, .bool false]) 2 16 Tryz.underlying46 hi iz0 iz1 iz2 rfl (by decide) u5 cs.length (flatC cs) rfl (by repeat (with_reducible first | exact OWN.out | apply World.ownsRow.alloc | apply own_drew)) _ _ _ (flatC [(four m4, decide (0 < m3))]) rfl rfl (news_new (by first | rfl | simp)) (by simp [flatC, Value.oneCell']) (by unfold maxLen; omega) (by omega) (by have := HO.out.size; first | omega | (simp; omega)) ?_; intro v2 w2 hown2 hgr2 _; have OWN2 := Lib.hid hown2; have HR2 := Lib.hid (rd_grown (by repeat (with_reducible first | exact HR.out | apply RdOk.alloc | apply RdOk.drew | (refine RdOk.setFar ?_ (by first | omega | (simp; done) | (simp; omega)) _))) hgr2 (fun k hk => by have := (OWN.out.lt k hk).1; omega)); have HO2 := Lib.hid (Only.grown (by repeat (with_reducible first | exact HO.out | apply Only.alloc | apply Only.drew | (refine Only.setNew ?_ (by first | omega | (simp; done) | (simp; omega)) _))) hgr2 (fun k hk => (OWN.out.lt k hk).1)); clear hown2 hgr2) | fail)
      all_goals go_wp2
      all_goals (refine ⟨⟨K - 1, cs ++ [(four m4, decide (0 < m3))], _, by go_num, by omega, by omega, by simp; omega, by simp; omega, ?_, ?_, HKC.out.app _ _, HR2, HO2⟩, by simp [intOf]; omega⟩)
      all_goals first
        | omega
        | (have := OWN2.out
           rw [flatC_app, List.length_append]
           exact this)
    · have hl3 : cs.length ≤ 3 := by omega
      go_wp2_with ((go_at_call 25; (with_reducible refine (odd0 B r q _ (by repeat (with_reducible first | exact HR.out | apply RdOk.alloc | apply RdOk.drew | (refine RdOk.setFar ?_ (by first | omega | (simp; done) | (simp; omega)) _)))).mono ?_); rintro e w1 ⟨rfl, ho, hr⟩; have HOn := Lib.hid (Only.trans (by repeat (with_reducible first | exact HO.out | apply Only.alloc | apply Only.drew | (refine Only.setNew ?_ (by first | omega | (simp; done) | (simp; omega)) _))) ho); have K0 := Lib.hid (own_only2 (by repeat (with_reducible first | exact OWN.out | apply World.ownsRow.alloc | apply own_drew)) (by omega) ho); clear OWN; have OWN := K0; clear K0; clear HO HR; have HO := HOn; have HR := Lib.hid hr; clear HOn hr; skip; clear ho))
      all_goals
        go_ret
        exact drewCG_of OWN.out (by omega) (by omega) HKC.out (by omega) HO.out HR.out
/-- A value was drawn that the column takes. -/
def LikeG (B r : Nat) (c : CT) (p : Int) (w : World) (e : Ending) (w' : World) : Prop := ∃ (k n : Int) (s : ByteArray) (q : Int), e = .returned (.agg #[.int .i64 k, .int .i64 n, .string s]) ∧ okB k n s = true ∧ takeB c (k, n, s) = true ∧ s.size ≤ 20 ∧ q ≤ p + 20 ∧ Only r w w' ∧ RdOk B r w' q
theorem likeG_mk {B r : Nat} {c : CT} {p q k n : Int} {s : ByteArray} {w w' : World} (ho : Only r w w') (hr : RdOk B r w' q) (hq : q ≤ p + 20) (h1 : okB k n s = true) (h2 : takeB c (k, n, s) = true) (h3 : s.size ≤ 20) : LikeG B r c p w (.returned (.agg #[.int .i64 k, .int .i64 n, .string s])) w' :=
  ⟨k, n, s, q, rfl, h1, h2, h3, hq, ho, hr⟩
theorem likeG_end {B r : Nat} {c : CT} {p q k n : Int} {s : ByteArray} {x y z : Value} {w W : World} (ho : Only r w W) (hr : RdOk B r W q) (hl : r < w.heap.size) (hq : q ≤ p + 20) (h1 : okB k n s = true) (h2 : takeB c (k, n, s) = true) (h3 : s.size ≤ 20) :
    LikeG B r c p w (.returned (.agg #[.int .i64 k, .int .i64 n, .string s])) (((W.setCell ⟨w.heap.size + 1, 0, none⟩ x).setCell ⟨w.heap.size + 1, 1, none⟩ y).setCell ⟨w.heap.size + 1, 2, none⟩ z) :=
  likeG_mk (q := q) (((ho.setNew (Nat.le_succ _) _).setNew (Nat.le_succ _) _).setNew (Nat.le_succ _) _) (((hr.setFar (Nat.lt_succ_of_lt hl) _).setFar (Nat.lt_succ_of_lt hl) _).setFar (Nat.lt_succ_of_lt hl) _) hq h1 h2 h3
theorem nil_ok : okB 0 0 ⟨#[]⟩ = true := by decide +kernel
set_option maxHeartbeats 4000000 in
theorem l20LikeG (B r : Nat) (c : Int) (b : Bool) (p : Int) (w : World) (h : RdOk B r w p) (hp : p ≤ 900000000) (hc : c = 1 ∨ c = 2 ∨ c = 3) : Calls Tryz.prog 74 #[.pointer (some ⟨r, 0, none⟩), .agg #[.int .i64 c, .bool b]] w (LikeG B r (c, b) p w) := by
  have hlt := h.lt
  have hge := h.ge
  have hp0 := h.p0
  have n0 : ¬ (w.heap.size = r) := by omega
  have n1 : ¬ (w.heap.size + 1 = r) := by omega
  have n2 : ¬ (w.heap.size + 1 + 1 = r) := by omega
  cases b
  · refine (l20LikeK B r c p w h hp hc).mono ?_
    rintro e w' ⟨n, s, q, rfl, h1, h2, h3, h4, h5⟩
    exact ⟨c, n, s, q, rfl, h1, by simp [takeB], h2, h3, h4, h5⟩
  · have HR := Lib.hid h
    have HO := Lib.hid (Only.refl r w)
    clear h
    rcases hc with rfl | rfl | rfl
    · go_enter Tryz.func74, Tryz.ntmps74
      have HL := Lib.hid (LK.new w 1 true 79 54)
      go_wp2_with ((go_at_call 26; (with_reducible refine (pick B r _ _ _ (by repeat (with_reducible first | exact HR.out | apply RdOk.alloc | apply RdOk.drew | (refine RdOk.setFar ?_ (by first | omega | (simp; done) | (simp; omega)) _))) (by omega)).mono ?_); rintro e w1 ⟨m, rfl, hm0, hm1, hm2, ho, hr⟩; have HOn := Lib.hid (Only.trans (by repeat (with_reducible first | exact HO.out | apply Only.alloc | apply Only.drew | (refine Only.setNew ?_ (by first | omega | (simp; done) | (simp; omega)) _))) ho); clear HO HR; have HO := HOn; have HR := Lib.hid hr; clear HOn hr; have hm1 := hm1 (by omega); clear hm2; (try (have hN := fourT_cells ho (by first | omega | (simp; done) | (simp; omega)) hm0 hm1; (try simp only [World.size_alloc] at hN))); have HLn := Lib.hid (LK.only (w := w) (c := 1) (by (repeat (with_reducible first | exact HL.out | apply LK.alloc))) hlt ho); clear HL; have HL := HLn; clear HLn; obtain ⟨e0, e1, e2, e3, e4, e5, e6, e7, e8⟩ := HL.out; clear ho))
      all_goals first
        | (refine bodyPost_ret (v := .agg #[.int .i64 0, .int .i64 0, .string (⟨#[]⟩)]) ?_ rfl ?_
           · (simp [results, Tryz.results74, go_sem, *]; done)
           · exact likeG_end HO.out HR.out hlt (by omega) nil_ok (by simp [takeB]) (by decide))
        | (refine bodyPost_ret (v := .agg #[.int .i64 1, .int .i64 m, .string (⟨#[]⟩)]) ?_ rfl ?_
           · (simp [results, Tryz.results74, go_sem, *]; done)
           · exact likeG_end HO.out HR.out hlt (by omega) (ok_four m hm0 hm1) (by simp [takeB]) (by decide))
    · go_enter Tryz.func74, Tryz.ntmps74
      have HL := Lib.hid (LK.new w 2 true 79 54)
      go_wp2_with ((go_at_call 26; (with_reducible refine (pick B r _ _ _ (by repeat (with_reducible first | exact HR.out | apply RdOk.alloc | apply RdOk.drew | (refine RdOk.setFar ?_ (by first | omega | (simp; done) | (simp; omega)) _))) (by omega)).mono ?_); rintro e w1 ⟨m, rfl, hm0, hm1, hm2, ho, hr⟩; have HOn := Lib.hid (Only.trans (by repeat (with_reducible first | exact HO.out | apply Only.alloc | apply Only.drew | (refine Only.setNew ?_ (by first | omega | (simp; done) | (simp; omega)) _))) ho); clear HO HR; have HO := HOn; have HR := Lib.hid hr; clear HOn hr; have hm1 := hm1 (by omega); clear hm2; (try (have hN := fourT_cells ho (by first | omega | (simp; done) | (simp; omega)) hm0 hm1; (try simp only [World.size_alloc] at hN))); have HLn := Lib.hid (LK.only (w := w) (c := 2) (by (repeat (with_reducible first | exact HL.out | apply LK.alloc))) hlt ho); clear HL; have HL := HLn; clear HLn; obtain ⟨e0, e1, e2, e3, e4, e5, e6, e7, e8⟩ := HL.out; clear ho))
      all_goals first
        | (refine bodyPost_ret (v := .agg #[.int .i64 0, .int .i64 0, .string (⟨#[]⟩)]) ?_ rfl ?_
           · (simp [results, Tryz.results74, go_sem, *]; done)
           · exact likeG_end HO.out HR.out hlt (by omega) nil_ok (by simp [takeB]) (by decide))
        | (refine bodyPost_ret (v := .agg #[.int .i64 2, .int .i64 0, .string (fourT m)]) ?_ rfl ?_
           · (simp [results, Tryz.results74, go_sem, *]; done)
           · exact likeG_end HO.out HR.out hlt (by omega) (ok_fourT m) (by simp [takeB]) (fourT_size m))
    · go_enter Tryz.func74, Tryz.ntmps74
      have HL := Lib.hid (LK.new w 3 true 79 54)
      go_wp2_with ((go_at_call 26; (with_reducible refine (pick B r _ _ _ (by repeat (with_reducible first | exact HR.out | apply RdOk.alloc | apply RdOk.drew | (refine RdOk.setFar ?_ (by first | omega | (simp; done) | (simp; omega)) _))) (by omega)).mono ?_); rintro e w1 ⟨m, rfl, hm0, hm1, hm2, ho, hr⟩; have HOn := Lib.hid (Only.trans (by repeat (with_reducible first | exact HO.out | apply Only.alloc | apply Only.drew | (refine Only.setNew ?_ (by first | omega | (simp; done) | (simp; omega)) _))) ho); clear HO HR; have HO := HOn; have HR := Lib.hid hr; clear HOn hr; have hm1 := hm1 (by omega); clear hm2; (try (have hN := fourT_cells ho (by first | omega | (simp; done) | (simp; omega)) hm0 hm1; (try simp only [World.size_alloc] at hN))); have HLn := Lib.hid (LK.only (w := w) (c := 3) (by (repeat (with_reducible first | exact HL.out | apply LK.alloc))) hlt ho); clear HL; have HL := HLn; clear HLn; obtain ⟨e0, e1, e2, e3, e4, e5, e6, e7, e8⟩ := HL.out; clear ho))
      all_goals first
        | (refine bodyPost_ret (v := .agg #[.int .i64 0, .int .i64 0, .string (⟨#[]⟩)]) ?_ rfl ?_
           · (simp [results, Tryz.results74, go_sem, *]; done)
           · exact likeG_end HO.out HR.out hlt (by omega) nil_ok (by simp [takeB]) (by decide))
        | (refine bodyPost_ret (v := .agg #[.int .i64 3, .int .i64 m, .string (⟨#[]⟩)]) ?_ rfl ?_
           · (simp [results, Tryz.results74, go_sem, *]; done)
           · exact likeG_end HO.out HR.out hlt (by omega) (ok_two m hm0 hm1) (by simp [takeB]) (by decide))
/-- A row that its columns take was drawn, value by value. -/
def FitsUp (cs : List CT) (vs : List VT) : Prop := vs.length ≤ cs.length ∧ ∀ i (h : i < vs.length) (h2 : i < cs.length), okV vs[i] = true ∧ takeB cs[i] vs[i] = true
theorem FitsUp.push {cs : List CT} {vs : List VT} (h : FitsUp cs vs) {k : Nat} (hk : vs.length = k) (hl : k < cs.length) {c : CT} (hc : cs[k]'hl = c) {v : VT} (h1 : okV v = true) (h2 : takeB c v = true) : FitsUp cs (vs ++ [v]) := by
  subst hk
  refine ⟨by simp; omega, fun i hi hi2 => ?_⟩
  by_cases hlt : i < vs.length
  · rw [List.getElem_append_left hlt]
    exact h.2 i hlt hi2
  · have : i = vs.length := by simp at hi; omega
    subst this
    simp only [List.getElem_append_right (Nat.le_refl _), Nat.sub_self, List.getElem_cons_zero]
    exact ⟨h1, by rw [hc]; exact h2⟩
theorem FitsUp.fit {cs : List CT} {vs : List VT} (h : FitsUp cs vs) (hl : vs.length = cs.length) (hk : KindsC cs) (h3 : cs.length ≤ 4) : fitB cs vs = true := by
  have hc : colB cs = true := by
    simp only [colB, Bool.and_eq_true, decide_eq_true_eq, List.all_eq_true]
    refine ⟨h3, fun c hc => ?_⟩
    have := hk c hc
    rcases this with h | h | h <;> simp [kindB, h]
  simp only [fitB, rowB, hc, hl, h3, Bool.and_eq_true, decide_eq_true_eq, List.all_eq_true, true_and, and_true, decide_true]
  constructor
  · intro v hv
    obtain ⟨i, hi, rfl⟩ := List.mem_iff_getElem.1 hv
    exact (h.2 i hi (by omega)).1
  · intro p hp
    obtain ⟨i, hi, rfl⟩ := List.mem_iff_getElem.1 hp
    rw [List.getElem_zip]
    rw [List.length_zip] at hi
    exact (h.2 i (by omega) (by omega)).2
def DrewRG (B r : Nat) (p : Int) (cs : List CT) (w : World) (e : Ending) (w' : World) : Prop := ∃ (vs : List VT) (g cap : Nat) (q : Int), e = .returned (.slice (some ⟨g, 0, none⟩) vs.length cap) ∧ vs.length = cs.length ∧ FitsUp cs vs ∧ Texts vs ∧ vs.length ≤ cap ∧ cap ≤ maxLen ∧ w.heap.size ≤ g ∧ Fl w' g 0 (some ⟨g, 0, none⟩) (flatV vs) ∧ q ≤ p + 20 * cs.length + 100 ∧ Only r w w' ∧ RdOk B r w' q
theorem drewRG_of {B r : Nat} {cs : List CT} {p q : Int} {w w' : World} {v : Value} {vs : List VT} (h : w'.ownsRow w.heap.size 54 3 v vs.length (flatV vs)) (h0 : 0 < vs.length) (hl : vs.length = cs.length) (hf2 : FitsUp cs vs) (ht : Texts vs) (hq : q ≤ p + 20 * cs.length + 100) (ho : Only r w w') (hr : RdOk B r w' q) : DrewRG B r p cs w (.returned v) w' := by
  obtain ⟨g, A, cap, rfl, hf, hB, h1, h2, -⟩ := fl_of_own h
  have hfl := flatV_len vs
  obtain rfl := hf.ad (by omega)
  exact ⟨vs, g, cap, q, rfl, hl, hf2, ht, h1, h2, hB (by omega), hf, hq, ho, hr⟩
set_option maxHeartbeats 4000000 in
theorem l20FitG (B r g cap : Nat) (cs : List CT) (p : Int) (w : World) (h : RdOk B r w p) (hp : p ≤ 100000000) (hkc : KindsC cs) (hA : Fl w g 0 (some ⟨g, 0, none⟩) (flatC cs)) (hgr : g ≠ r) (h0 : 0 < cs.length) (h6 : cs.length ≤ 100) : Calls Tryz.prog 58 #[.pointer (some ⟨r, 0, none⟩), .slice (some ⟨g, 0, none⟩) cs.length cap, .int .i64 0] w (DrewRG B r p cs w) := by
  obtain ⟨i0, hi, iz0, iz1, iz2⟩ := info_parts infoV
  have hlt := h.lt
  have hge := h.ge
  have hp0 := h.p0
  have HA := Lib.hid hA
  have HR0 := Lib.hid (h.alloc (.cells #[] 54))
  have HO0 := Lib.hid ((Only.refl r w).alloc (.cells #[] 54))
  have OWN0 := Lib.hid (own_empty3 (w := w) (B := w.heap.size) 54 3 rfl (Nat.le_refl _))
  clear h hA
  go_enter Tryz.func58, Tryz.ntmps58
  go_wp2
  go_loopw [7, 8] (fun vx kx wr => ∃ (k : Nat) (vs : List VT) (q : Int), k ≤ cs.length ∧ kx = .int .i64 k ∧ vs.length = k ∧ q ≤ p + 20 * k ∧ Hid (wr.ownsRow w.heap.size 54 3 vx vs.length (flatV vs)) ∧ Hid (Texts vs) ∧ Hid (FitsUp cs vs) ∧ Hid (RdOk B r wr q) ∧ Hid (Only r w wr)) (fun _ kx _ => cs.length - (intOf kx).toNat)
  case atStart => exact ⟨0, [], p, Nat.zero_le _, rfl, rfl, by omega, OWN0, fun v hv => absurd hv (by simp), ⟨Nat.zero_le _, fun i hi => absurd hi (by simp)⟩, HR0, HO0⟩
  case round =>
    clear OWN0 HR0 HO0
    obtain ⟨k, vs, q, hk, rfl, hlv, hqk, OWN, HT, HF, HR, HO⟩ := hrel
    have hq0 := HR.out.p0
    have HLV := Lib.hid hlv
    have hv100 : vs.length ≤ 100 := by omega
    clear hlv
    by_cases hk2 : k < cs.length
    · obtain ⟨-, hg2, c0, c1⟩ := (HA.out.only HO.out (fun _ => hgr)).cl k hk2
      obtain ⟨C, hC⟩ : ∃ C, cs[k]'hk2 = C := ⟨_, rfl⟩
      rw [hC] at c0 c1
      obtain ⟨c, b⟩ := C
      have hkk : c = 1 ∨ c = 2 ∨ c = 3 := by have := hkc _ (List.getElem_mem hk2); rw [hC] at this; exact this
      have HFP := Lib.hid (fun (v : VT) (h1 : okV v = true) (h2 : takeB (c, b) v = true) => HF.out.push HLV.out hk2 hC h1 h2)
      simp only at c0 c1
      clear hC HF
      simp only [Nat.zero_add] at c0 c1
      have i0' : (0 : Int) ≤ (k : Int) := by omega
      have i1' : (k : Int) < (cs.length : Int) := by omega
      go_wp2_with (first
        | (go_at_call 74; (with_reducible refine (l20LikeG B r c b q _ (by repeat (with_reducible first | exact HR.out | apply RdOk.alloc | apply RdOk.drew | (refine RdOk.setFar ?_ (by first | omega | (simp; done) | (simp; omega)) _))) (by omega) hkk).mono ?_); rintro e w1 ⟨x, n1, s, q2, rfl, hok, htk, hs, hq2, ho, hr⟩; have HOn := Lib.hid (Only.trans (by repeat (with_reducible first | exact HO.out | apply Only.alloc | apply Only.drew | (refine Only.setNew ?_ (by first | omega | (simp; done) | (simp; omega)) _))) ho); have K0 := Lib.hid (own_only2 (by repeat (with_reducible first | exact OWN.out | apply World.ownsRow.alloc | apply own_drew)) (by omega) ho); clear OWN; have OWN := K0; clear K0; clear HO HR; have HO := HOn; have HR := Lib.hid hr; clear HOn hr; have HF2 := Lib.hid (HFP.out (x, n1, s) hok htk); clear hok htk; clear ho)
        | (at_builtin; refine wpList_append_own _ rfl (.tmp 16) (.tmp 23) 50 rfl w.heap.size 54 i0 (.agg #[.int .i64 0, .int .i64 0, .string ⟨#[]⟩]) 3 32 Tryz.underlying50 hi iz0 iz1 iz2 rfl (by decide) u7 vs.length (flatV vs) rfl (by repeat (with_reducible first | exact OWN.out | apply World.ownsRow.alloc | apply own_drew)) _ _ _ (flatV [(x, n1, s)]) rfl rfl (news_new (by first | rfl | simp)) (by simp [flatV, Value.oneCell']) (by unfold maxLen; omega) (by omega) (by have := HO.out.size; first | omega | (simp; omega)) ?_; intro v2 w2 hown2 hgr2 _; have OWN2 := Lib.hid hown2; have HR2 := Lib.hid (rd_grown (by repeat (with_reducible first | exact HR.out | apply RdOk.alloc | apply RdOk.drew | (refine RdOk.setFar ?_ (by first | omega | (simp; done) | (simp; omega)) _))) hgr2 (fun k hk => by have := (OWN.out.lt k hk).1; omega)); have HO2 := Lib.hid (Only.grown (by repeat (with_reducible first | exact HO.out | apply Only.alloc | apply Only.drew | (refine Only.setNew ?_ (by first | omega | (simp; done) | (simp; omega)) _))) hgr2 (fun k hk => (OWN.out.lt k hk).1)); clear hown2 hgr2))
      refine ⟨⟨k + 1, vs ++ [(x, n1, s)], _, by omega, by go_num, ?_, ?_, ?_, HT.out.app (fun v hv => by simp at hv; subst hv; exact hs), HF2, HR2, HO2⟩, by simp [intOf]; omega⟩
      · have := HLV.out; simp; omega
      · omega
      · have := OWN2.out
        rw [flatV_app, List.length_append]
        exact this
    · have hvl : vs.length = cs.length := by have := HLV.out; omega
      have hv0 : 0 < vs.length := by omega
      obtain ⟨g2, cap2, rfl, hg2, hg3⟩ := OWN.out.form hv0
      have HVL := Lib.hid hvl
      have hgr2 : r < g2 := by omega
      clear hvl
      have hq00 := HR.out.p0
      go_wp2_with ((go_at_call 25; (with_reducible refine (odd0 B r q _ (by repeat (with_reducible first | exact HR.out | apply RdOk.alloc | apply RdOk.drew | (refine RdOk.setFar ?_ (by first | omega | (simp; done) | (simp; omega)) _)))).mono ?_); rintro e w1 ⟨rfl, ho, hr⟩; have HOn := Lib.hid (Only.trans (by repeat (with_reducible first | exact HO.out | apply Only.alloc | apply Only.drew | (refine Only.setNew ?_ (by first | omega | (simp; done) | (simp; omega)) _))) ho); have K0 := Lib.hid (own_only2 (by repeat (with_reducible first | exact OWN.out | apply World.ownsRow.alloc | apply own_drew)) (by omega) ho); clear OWN; have OWN := K0; clear K0; clear HO HR; have HO := HOn; have HR := Lib.hid hr; clear HOn hr; skip; clear ho))
      all_goals
        go_ret
        exact drewRG_of OWN.out hv0 HVL.out HF.out HT.out (by have := HVL.out; omega) HO.out HR.out
/-- Rows whose capacity holds them. -/
def CapT (T : List TT) : Prop := ∀ t ∈ T, t.2.2.length ≤ t.2.1
theorem CapT.app {T : List TT} {t : TT} (h : CapT T) (ht : t.2.2.length ≤ t.2.1) : CapT (T ++ [t]) := fun u hu => by
  rcases List.mem_append.1 hu with hu | hu
  · exact h u hu
  · obtain rfl := List.mem_singleton.1 hu; exact ht
set_option maxHeartbeats 4000000 in
theorem l3OwnC (g o c : Nat) (l : List VT) (w : World) (h : Fl w g o (some ⟨g, o, none⟩) (flatV l)) (hl : l.length ≤ 2000000) :
    Calls Tryz.prog 53 #[.slice (some ⟨g, o, none⟩) l.length c] w fun e w' => ∃ (g2 c2 : Nat), e = .returned (.slice (some ⟨g2, 0, none⟩) l.length c2) ∧ RowO w' w.heap.size (g2, c2, l) ∧ l.length ≤ c2 ∧ Below w.heap.size w w' := by
  obtain ⟨i0, hi, iz0, iz1, iz2⟩ := info_parts infoVc
  have HA := Lib.hid h
  clear h
  have hfl := Lib.hid (flatV_len l)
  have OWN := Lib.hid (own_empty3 (w := w) (B := w.heap.size) 54 3 rfl (Nat.le_refl _))
  go_enter Tryz.func53, Tryz.ntmps53
  go_wp2_with (at_builtin; refine wpList_append_block _ rfl (.tmp 3) (.tmp 4) 50 rfl w.heap.size 54 i0 (.agg #[.int .i64 0, .int .i64 0, .string ⟨#[]⟩]) 3 32 Tryz.underlying50 hi iz0 iz1 iz2 rfl (by decide) w.heap.size 0 0 [] rfl OWN.out _ _ _ (flatV l) rfl hfl.out (news_flo (HA.out.alloc _)) (one_flatV l) (by unfold maxLen; omega) (by omega) (by first | omega | (simp; done) | (simp; omega)) ?_; intro g2 c2 w2 hown hgr hgg; (try simp only [Nat.zero_add, List.nil_append] at hown); have HO := Lib.hid hown; have HB := Lib.hid (Below.grown ((Below.refl _ _).alloc (Nat.le_refl _) _) hgr (by simp) (fun k hk => by obtain rfl := Option.some.inj hk; exact Nat.le_refl _)); clear hown hgr hgg)
  go_ret
  exact ⟨g2, c2, by simp, RowO.of_own HO.out, (own_caps HO.out).1, HB.out⟩
/-- Rows that fit. -/
def FitsAll (cs : List CT) (ls : List RT) : Prop := ∀ x ∈ ls, x.length = cs.length ∧ FitsUp cs x
theorem FitsAll.app {cs : List CT} {ls : List RT} {x : RT} (h : FitsAll cs ls) (hx : x.length = cs.length ∧ FitsUp cs x) : FitsAll cs (ls ++ [x]) := fun y hy => by
  rcases List.mem_append.1 hy with hy | hy
  · exact h y hy
  · obtain rfl := List.mem_singleton.1 hy; exact hx
def DrewBagG (B r : Nat) (p : Int) (cs : List CT) (w : World) (e : Ending) (w' : World) : Prop := ∃ (g c : Nat) (T : List TT) (ls : List RT) (q : Int), e = .returned (.slice (some ⟨g, 0, none⟩) ls.length c) ∧ BagW w' w.heap.size g c T ls ∧ Small ls ∧ FitsAll cs ls ∧ CapT T ∧ q ≤ p + 20000 ∧ Only r w w' ∧ RdOk B r w' q
set_option maxHeartbeats 4000000 in
theorem l20BagG (B r g cap : Nat) (cs : List CT) (p : Int) (w : World) (h : RdOk B r w p) (hp : p ≤ 50000000) (hkc : KindsC cs) (hA : Fl w g 0 (some ⟨g, 0, none⟩) (flatC cs)) (hgr : g ≠ r) (h0 : 0 < cs.length) (h6 : cs.length ≤ 100) : Calls Tryz.prog 40 #[.pointer (some ⟨r, 0, none⟩), .slice (some ⟨g, 0, none⟩) cs.length cap, .int .i64 0] w (DrewBagG B r p cs w) := by
  obtain ⟨i0, hi, iz0, iz1, iz2⟩ := info_parts infoVS
  have hlt := h.lt
  have hge := h.ge
  have hp0 := h.p0
  have HA := Lib.hid hA
  have HR := Lib.hid (h.alloc (.cells #[] 50))
  have HO := Lib.hid ((Only.refl r w).alloc (.cells #[] 50))
  have BW : Hid (BagW (w.alloc (.cells #[] 50)) w.heap.size w.heap.size 0 [] []) := ⟨rfl, own_empty3 50 1 rfl (Nat.le_refl _), fun t ht => absurd ht (by simp), fun t ht => absurd ht (by simp)⟩
  clear h hA
  go_enter Tryz.func40, Tryz.ntmps40
  go_wp2_with ((go_at_call 26; (with_reducible refine (pick B r 7 p _ (by repeat (with_reducible first | exact HR.out | apply RdOk.alloc | apply RdOk.drew | (refine RdOk.setFar ?_ (by first | omega | (simp; done) | (simp; omega)) _))) (by omega)).mono ?_); rintro e w1 ⟨m, rfl, hm0, hm1, hm2, ho, hr⟩; have HOn := Lib.hid (Only.trans (by repeat (with_reducible first | exact HO.out | apply Only.alloc | apply Only.drew | (refine Only.setNew ?_ (by first | omega | (simp; done) | (simp; omega)) _))) ho); have K0 := Lib.hid (by first | exact BW.out.only (by omega) ho | exact (BW.out.alloc _).only (by omega) ho | exact (BW.out.drew).only (by omega) ho); clear BW; have BW := K0; clear K0; clear HO HR; have HO := HOn; have HR := Lib.hid hr; clear HOn hr; have hm1 := hm1 (by omega); clear hm2; clear ho))
  go_loopw [7, 8] (fun ox kx wr => ∃ (K : Int) (g1 c1 : Nat) (T : List TT) (o : List RT) (q : Int), kx = .int .i64 K ∧ 0 ≤ K ∧ K ≤ 6 ∧ (o.length : Int) + K ≤ 6 ∧ ox = .slice (some ⟨g1, 0, none⟩) o.length c1 ∧ q ≤ p + 1 + 3000 * (o.length : Int) ∧ Hid (BagW wr w.heap.size g1 c1 T o) ∧ Hid (∀ x ∈ o, x.length ≤ 110 ∧ Texts x) ∧ Hid (FitsAll cs o) ∧ Hid (CapT T) ∧ Hid (RdOk B r wr q) ∧ Hid (Only r w wr)) (fun _ kx _ => (intOf kx).toNat)
  case atStart => exact ⟨_, w.heap.size, 0, [], [], _, rfl, by omega, by omega, by simp; omega, rfl, by simp, BW, fun x hx => absurd hx (by simp), fun x hx => absurd hx (by simp), fun x hx => absurd hx (by simp), HR, HO⟩
  case round =>
    clear BW HR HO
    obtain ⟨K, g1, c1, T, o, q, rfl, hK0, hK1, hKO, rfl, hq, BW, SM, FA, CP, HR, HO⟩ := hrel
    have hq0 := HR.out.p0
    have hws := HO.out.size
    have hb1 := BW.out.lo
    obtain ⟨ol, hol⟩ : ∃ n, o.length = n := ⟨_, rfl⟩
    have HOL := Lib.hid hol
    rw [hol] at hKO hq ⊢
    by_cases hK : 0 < K
    · by_cases hz : ol = 0
      · subst hz
        clear hol
        go_wp2_with (first
          | (go_at_call 58; (with_reducible refine (l20FitG B r g cap cs _ _ (by repeat (with_reducible first | exact HR.out | apply RdOk.alloc | apply RdOk.drew | (refine RdOk.setFar ?_ (by first | omega | (simp; done) | (simp; omega)) _))) (by omega) hkc (HA.out.only (by repeat (with_reducible first | exact HO.out | apply Only.alloc | apply Only.drew | (refine Only.setNew ?_ (by first | omega | (simp; done) | (simp; omega)) _))) (fun _ => hgr)) hgr h0 h6).mono ?_); rintro e w1 ⟨vs, g2, c2, q2, rfl, k1, kft, kt, kc, kc2, kg, kf, kq, ho, hr⟩; have HOn := Lib.hid (Only.trans (by repeat (with_reducible first | exact HO.out | apply Only.alloc | apply Only.drew | (refine Only.setNew ?_ (by first | omega | (simp; done) | (simp; omega)) _))) ho); have K0 := Lib.hid (by first | exact BW.out.only (by omega) ho | exact (BW.out.alloc _).only (by omega) ho | exact (BW.out.drew).only (by omega) ho); clear BW; have BW := K0; clear K0; clear HO HR; have HO := HOn; have HR := Lib.hid hr; clear HOn hr; have k0 : 0 < vs.length := (by omega); have HKF := Lib.hid (And.intro k1 kft); have k1u : vs.length ≤ cs.length := (by omega); clear kft k1; have KF := Lib.hid (RowF.of (c := c2) (B := w.heap.size) kf k0 (Nat.le_trans hws kg)); have KG := kg; have KT := Lib.hid kt; clear kf kt; clear ho)
          | (at_builtin; refine wpList_append_block _ rfl (.tmp 35) (.tmp 40) 27 rfl w.heap.size 50 i0 (.slice none 0 0) 1 24 Tryz.underlying27 hi iz0 iz1 iz2 rfl (by decide) g1 0 c1 (T.map hdr) rfl (by have h := BW.out.own; rw [HOL.out] at h; exact h.alloc _) _ 1 1 [.slice (some ⟨g2, 0, none⟩) vs.length c2] rfl rfl (news_new (by first | rfl | simp)) (by simp [Value.oneCell']) (by unfold maxLen; omega) (by omega) (by have := HO.out.size; first | omega | (simp; omega)) ?_; intro g3 c3 w3 hown hgr3 hgg; have HOWN := Lib.hid hown; have HGR := Lib.hid hgr3; have HGG := Lib.hid hgg; clear hown hgr3 hgg))
        have hb2 := BW.out.lo
        have BW3 := Lib.hid (BagW.push (t := (g2, c2, vs)) (BW.out.alloc _) (KF.out.alloc _) (by simp only; omega) (by rw [HOL.out]) HOWN.out HGR.out HGG.out)
        have HR3 := Lib.hid (rd_grown (HR.out.alloc _) HGR.out (fun k hk => by obtain rfl := Option.some.inj hk; omega))
        have HO3 := Lib.hid (Only.grown (HO.out.alloc _) HGR.out (fun k hk => by obtain rfl := Option.some.inj hk; omega))
        exact ⟨⟨K - 1, g3, c3, _, o ++ [vs], _, by go_num, by omega, by omega, by simp [HOL.out]; omega, by simp [HOL.out], by simp [HOL.out]; omega, BW3, Small.app SM.out ⟨by omega, KT.out⟩, FA.out.app HKF.out, CP.out.app kc, HR3, HO3⟩, by simp [intOf]; omega⟩
      · have hz2 : (0 : Int) < (ol : Int) := by omega
        clear hol
        go_wp2_with (first
          | ((fail_if_success (have _ := P3)); (go_at_call 26; (with_reducible refine (pick B r 3 q _ (by repeat (with_reducible first | exact HR.out | apply RdOk.alloc | apply RdOk.drew | (refine RdOk.setFar ?_ (by first | omega | (simp; done) | (simp; omega)) _))) (by omega)).mono ?_); rintro e w1 ⟨m3, rfl, h30, h31, h32, ho, hr⟩; have HOn := Lib.hid (Only.trans (by repeat (with_reducible first | exact HO.out | apply Only.alloc | apply Only.drew | (refine Only.setNew ?_ (by first | omega | (simp; done) | (simp; omega)) _))) ho); have K0 := Lib.hid (by first | exact BW.out.only (by omega) ho | exact (BW.out.alloc _).only (by omega) ho | exact (BW.out.drew).only (by omega) ho); clear BW; have BW := K0; clear K0; clear HO HR; have HO := HOn; have HR := Lib.hid hr; clear HOn hr; have h31 := h31 (by omega); clear h32; have P3 := True.intro; have hws2 := HO.out.size; have hwr := ho.size; clear ho))
          | (go_at_call 26; (with_reducible refine (pick B r (ol : Int) _ _ (by repeat (with_reducible first | exact HR.out | apply RdOk.alloc | apply RdOk.drew | (refine RdOk.setFar ?_ (by first | omega | (simp; done) | (simp; omega)) _))) (by omega)).mono ?_); rintro e w1 ⟨mi, rfl, hi0, hi1, hi2, ho, hr⟩; have HOn := Lib.hid (Only.trans (by repeat (with_reducible first | exact HO.out | apply Only.alloc | apply Only.drew | (refine Only.setNew ?_ (by first | omega | (simp; done) | (simp; omega)) _))) ho); have K0 := Lib.hid (by first | exact BW.out.only (by omega) ho | exact (BW.out.alloc _).only (by omega) ho | exact (BW.out.drew).only (by omega) ho); clear BW; have BW := K0; clear K0; clear HO HR; have HO := HOn; have HR := Lib.hid hr; clear HOn hr; have hi1 := hi1 (by omega); clear hi2; obtain ⟨ix, rfl⟩ : ∃ i : Nat, mi = (i : Int) := ⟨mi.toNat, by omega⟩; have hix : ix < o.length := (by rw [HOL.out]; omega); obtain ⟨-, hgz, cu, gu, ou, hcu, hfu⟩ := BW.out.rws.at ix hix; (simp only [Nat.zero_add] at hcu); have HFU := Lib.hid hfu; have hux := Lib.hid (SM.out _ (List.getElem_mem hix)); have huf := Lib.hid (FA.out _ (List.getElem_mem hix)); clear hfu; obtain ⟨U, hU⟩ : ∃ U, o[ix] = U := ⟨_, rfl⟩; rw [hU] at hcu HFU hux huf; clear hU hix; obtain ⟨ul, hul⟩ : ∃ n, U.length = n := ⟨_, rfl⟩; have HUL := Lib.hid hul; rw [hul] at hcu; clear hul; clear ho)
          | (go_at_call 53; (with_reducible refine (by have := l3OwnC gu ou cu U _ HFU.out (by have := hux.out.1; omega); rw [HUL.out] at this; exact this : Calls _ _ _ _ _).mono ?_); rintro e w2 ⟨g2, c2, rfl, hr2, hcp2, hb2⟩; have HR2 := Lib.hid hr2; have HBB := Lib.hid hb2; clear hb2 hr2)
          | (at_builtin; refine wpList_append_block _ rfl (.tmp 24) (.tmp 33) 27 rfl w.heap.size 50 i0 (.slice none 0 0) 1 24 Tryz.underlying27 hi iz0 iz1 iz2 rfl (by decide) g1 ol c1 (T.map hdr) rfl (by have h := (BW.out.below HBB.out).own; rw [HOL.out] at h; exact h.alloc _) _ 1 1 [.slice (some ⟨g2, 0, none⟩) ul c2] rfl rfl (news_new (by first | rfl | simp)) (by simp [Value.oneCell']) (by unfold maxLen; omega) (by omega) (by have := HO.out.size; have := HBB.out.size; first | omega | (simp; omega)) ?_; intro g3 c3 w3 hown hgr3 hgg; have HOWN := Lib.hid hown; have HGR := Lib.hid hgr3; have HGG := Lib.hid hgg; clear hown hgr3 hgg)
          | (go_at_call 58; (with_reducible refine (l20FitG B r g cap cs _ _ (by repeat (with_reducible first | exact HR.out | apply RdOk.alloc | apply RdOk.drew | (refine RdOk.setFar ?_ (by first | omega | (simp; done) | (simp; omega)) _))) (by omega) hkc (HA.out.only (by repeat (with_reducible first | exact HO.out | apply Only.alloc | apply Only.drew | (refine Only.setNew ?_ (by first | omega | (simp; done) | (simp; omega)) _))) (fun _ => hgr)) hgr h0 h6).mono ?_); rintro e w1 ⟨vs, g2, c2, q2, rfl, k1, kft, kt, kc, kc2, kg, kf, kq, ho, hr⟩; have HOn := Lib.hid (Only.trans (by repeat (with_reducible first | exact HO.out | apply Only.alloc | apply Only.drew | (refine Only.setNew ?_ (by first | omega | (simp; done) | (simp; omega)) _))) ho); have K0 := Lib.hid (by first | exact BW.out.only (by omega) ho | exact (BW.out.alloc _).only (by omega) ho | exact (BW.out.drew).only (by omega) ho); clear BW; have BW := K0; clear K0; clear HO HR; have HO := HOn; have HR := Lib.hid hr; clear HOn hr; have k0 : 0 < vs.length := (by omega); have HKF := Lib.hid (And.intro k1 kft); have k1u : vs.length ≤ cs.length := (by omega); clear kft k1; have KF := Lib.hid (RowF.of (c := c2) (B := w.heap.size) kf k0 (Nat.le_trans (by omega) kg)); have KG := kg; have KT := Lib.hid kt; clear kf kt; clear ho)
          | (at_builtin; refine wpList_append_block _ rfl (.tmp 35) (.tmp 40) 27 rfl w.heap.size 50 i0 (.slice none 0 0) 1 24 Tryz.underlying27 hi iz0 iz1 iz2 rfl (by decide) g1 ol c1 (T.map hdr) rfl (by have h := BW.out.own; rw [HOL.out] at h; exact h.alloc _) _ 1 1 [.slice (some ⟨g2, 0, none⟩) vs.length c2] rfl rfl (news_new (by first | rfl | simp)) (by simp [Value.oneCell']) (by unfold maxLen; omega) (by omega) (by have := HO.out.size; first | omega | (simp; omega)) ?_; intro g3 c3 w3 hown hgr3 hgg; have HOWN := Lib.hid hown; have HGR := Lib.hid hgr3; have HGG := Lib.hid hgg; clear hown hgr3 hgg))
        · have hb2 := BW.out.lo
          have hlo2 := HR2.out.lo
          have hwo := HO.out.size
          have hbz := HBB.out.size
          have BW3 := Lib.hid (BagW.push (t := (g2, c2, U)) ((BW.out.below HBB.out).alloc _) ((RowO.rowF (HR2.out.lower (by omega))).alloc _) (by simp only at hlo2 ⊢; omega) (by rw [HOL.out]) (by have h := HOWN.out; rw [← HUL.out] at h; exact h) HGR.out HGG.out)
          have HR3 := Lib.hid (rd_grown ((rdUnder HR.out HBB.out).alloc _) HGR.out (fun k hk => by obtain rfl := Option.some.inj hk; omega))
          have HO3 := Lib.hid (Only.grown (r := r) ((HO.out.trans (onlyBelow HBB.out)).alloc _) HGR.out (fun k hk => by obtain rfl := Option.some.inj hk; omega))
          exact ⟨⟨K - 1, g3, c3, _, o ++ [U], _, by go_num, by omega, by omega, by simp [HOL.out]; omega, by simp [HOL.out], by simp [HOL.out]; omega, BW3, Small.app SM.out hux.out, FA.out.app huf.out, CP.out.app (by have := HUL.out; simp only; omega), HR3, HO3⟩, by simp [intOf]; omega⟩
        · have hb2 := BW.out.lo
          have BW3 := Lib.hid (BagW.push (t := (g2, c2, vs)) (BW.out.alloc _) (KF.out.alloc _) (by simp only; omega) (by rw [HOL.out]) HOWN.out HGR.out HGG.out)
          have HR3 := Lib.hid (rd_grown (HR.out.alloc _) HGR.out (fun k hk => by obtain rfl := Option.some.inj hk; omega))
          have HO3 := Lib.hid (Only.grown (HO.out.alloc _) HGR.out (fun k hk => by obtain rfl := Option.some.inj hk; omega))
          exact ⟨⟨K - 1, g3, c3, _, o ++ [vs], _, by go_num, by omega, by omega, by simp [HOL.out]; omega, by simp [HOL.out], by simp [HOL.out]; omega, BW3, Small.app SM.out ⟨by omega, KT.out⟩, FA.out.app HKF.out, CP.out.app kc, HR3, HO3⟩, by simp [intOf]; omega⟩
    · clear hol
      go_wp2
      go_ret
      exact ⟨g1, c1, T, o, q, by rw [HOL.out]; rfl, BW.out, ⟨by rw [HOL.out]; omega, SM.out⟩, FA.out, CP.out, by omega, HO.out, HR.out⟩
end Go.Proofs.YtacinjbaebimhaaGreat.Val
namespace Go.Proofs.YtacinjbaebimhaaGreat.Val
open Go.RowKit
set_option linter.unusedSimpArgs false
set_option linter.unusedVariables false
/-- A drawn table: its columns, its rows. -/
structure TabD (w : World) (B : Nat) (u : UT) : Prop where
  own : w.ownsRow B 79 2 (.slice (some ⟨u.1.1, 0, none⟩) u.1.2.2.length u.1.2.1) u.1.2.2.length (flatC u.1.2.2)
  sp : u.1.1 ≠ u.2.1
  sr : ∀ t ∈ u.2.2.2, t.1 ≠ u.1.1
  bag : BagW w B u.2.1 u.2.2.1 u.2.2.2 (rowsU u)
theorem fl_sliceB {W : World} {B g n cap size : Nat} {ty : TypeId} {xs : List Value} (h : W.ownsRow B ty size (.slice (some ⟨g, 0, none⟩) n cap) n xs) : Fl W g 0 (some ⟨g, 0, none⟩) xs := by
  refine ⟨fun _ => rfl, fun j hj => ?_⟩
  rw [Nat.zero_add, h.cellAt j (by rw [← h.1]; exact hj), List.getElem?_eq_getElem hj]
theorem TabD.col {w : World} {B : Nat} {u : UT} (h : TabD w B u) : Fl w u.1.1 0 (some ⟨u.1.1, 0, none⟩) (flatC u.1.2.2) := fl_sliceB h.own
theorem TabD.cap {w : World} {B : Nat} {u : UT} (h : TabD w B u) : u.1.2.2.length ≤ u.1.2.1 ∧ u.1.2.1 ≤ maxLen := own_caps h.own
theorem TabD.lo {w : World} {B : Nat} {u : UT} (h : TabD w B u) : B ≤ u.1.1 := (h.own.lt _ rfl).1
theorem TabD.hi {w : World} {B : Nat} {u : UT} (h : TabD w B u) : u.1.1 < w.heap.size := (h.own.lt _ rfl).2
theorem own_cols {w : World} {B g cap m : Nat} {cs : List CT} (h : w.ownsRow B 79 2 (.slice (some ⟨g, 0, none⟩) cs.length cap) cs.length (flatC cs)) : w.ownsRow B 79 2 (.slice (some ⟨g, 0, none⟩) (cs.take m).length cap) (cs.take m).length (flatC (cs.take m)) := by
  have := own_take (m := (cs.take m).length) h (by rw [List.length_take]; omega)
  rw [List.prefix_iff_eq_take.1 (flatC_take cs m), flatC_len]
  exact this
theorem TabD.keep {w w' : World} {B : Nat} {u : UT} (h : TabD w B u) (hz : w.heap.size ≤ w'.heap.size) (hk : ∀ b ∈ blkU u, w'.heap[b]? = w.heap[b]?) : TabD w' B u :=
  ⟨own_keep h.own (hk _ (by simp [blkU])), h.sp, h.sr, h.bag.keep hz (hk _ (by simp [blkU])) fun t ht => hk _ (by simp only [blkU, List.mem_cons, List.mem_map]; exact .inr (.inr ⟨t, ht, rfl⟩))⟩
theorem TabD.blk {w : World} {B : Nat} {u : UT} (h : TabD w B u) : ∀ b ∈ blkU u, B ≤ b ∧ b < w.heap.size := by
  intro b hb
  simp only [blkU, List.mem_cons, List.mem_map] at hb
  rcases hb with rfl | rfl | ⟨t, ht, rfl⟩
  · exact ⟨h.lo, h.hi⟩
  · exact h.bag.lo
  · exact ⟨(h.bag.rows t ht).lo, (h.bag.rows t ht).hi⟩
theorem TabD.at {w : World} {B : Nat} {u : UT} {g p : Nat} (h : TabD w B u) (h0 : w.cell? ⟨g, p, none⟩ = some (hdC u)) (h1 : w.cell? ⟨g, p + 1, none⟩ = some (hdR u)) : TabAt w g p (tbOf u) := by
  refine ⟨_, u.1.2.1, u.1.1, 0, _, u.2.2.1, u.2.1, 0, h0, ?_, h.col, h.bag.rws, h.cap.1, h.bag.caps.1, .inl rfl, .inl rfl⟩
  rw [h1]
  simp [hdR, hdF, tbOf, rowsU]
structure TabW (w : World) (B g cap : Nat) (U : List UT) (ts : List TB) : Prop where
  eq : U.map tbOf = ts
  own : w.ownsRow B 67 2 (.slice (some ⟨g, 0, none⟩) ts.length cap) ts.length (U.flatMap hdT)
  tabs : ∀ u ∈ U, TabD w B u
  ng : ∀ u ∈ U, g ∉ blkU u
  sep : U.Pairwise fun u v => ∀ b ∈ blkU u, ∀ c ∈ blkU v, b < c
theorem TabW.len {w : World} {B g cap : Nat} {U : List UT} {ts : List TB} (h : TabW w B g cap U ts) : U.length = ts.length := by rw [← h.eq, List.length_map]
theorem TabW.lo {w : World} {B g cap : Nat} {U : List UT} {ts : List TB} (h : TabW w B g cap U ts) : B ≤ g ∧ g < w.heap.size := h.own.lt g rfl
theorem TabW.caps {w : World} {B g cap : Nat} {U : List UT} {ts : List TB} (h : TabW w B g cap U ts) : ts.length ≤ cap ∧ cap ≤ maxLen := own_caps h.own
theorem TabW.keep {w w' : World} {B g cap : Nat} {U : List UT} {ts : List TB} (h : TabW w B g cap U ts) (hz : w.heap.size ≤ w'.heap.size) (hg : w'.heap[g]? = w.heap[g]?) (hk : ∀ b ∈ U.flatMap blkU, w'.heap[b]? = w.heap[b]?) : TabW w' B g cap U ts :=
  ⟨h.eq, own_keep h.own hg, fun u hu => (h.tabs u hu).keep hz fun b hb => hk b (List.mem_flatMap.2 ⟨u, hu, hb⟩), h.ng, h.sep⟩
theorem TabW.hi {w : World} {B g cap : Nat} {U : List UT} {ts : List TB} (h : TabW w B g cap U ts) : ∀ b ∈ U.flatMap blkU, B ≤ b ∧ b < w.heap.size := by
  intro b hb
  obtain ⟨u, hu, hb⟩ := List.mem_flatMap.1 hb
  exact (h.tabs u hu).blk b hb
theorem TabW.below {w w' : World} {B g cap : Nat} {U : List UT} {ts : List TB} (h : TabW w B g cap U ts) (hb : Below w.heap.size w w') : TabW w' B g cap U ts :=
  h.keep hb.size (hb.block _ h.lo.2) fun b hm => hb.block _ (h.hi b hm).2
theorem TabW.alloc {w : World} {B g cap : Nat} {U : List UT} {ts : List TB} (h : TabW w B g cap U ts) (ob : Obj) : TabW (w.alloc ob) B g cap U ts := h.below ((Below.refl _ _).alloc (Nat.le_refl _) _)
theorem TabW.drew {w : World} {B g cap : Nat} {U : List UT} {ts : List TB} (h : TabW w B g cap U ts) : TabW w.drew B g cap U ts := h.below ((Below.refl _ _).drew)
theorem TabW.only {w w' : World} {B g cap r : Nat} {U : List UT} {ts : List TB} (h : TabW w B g cap U ts) (hr : r < B) (ho : Only r w w') : TabW w' B g cap U ts :=
  h.keep ho.size (ho.block _ h.lo.2 (by have := h.lo.1; omega)) fun b hm => ho.block _ (h.hi b hm).2 (by have := (h.hi b hm).1; omega)
theorem TabW.tbs {w : World} {B g cap : Nat} {U : List UT} {ts : List TB} (h : TabW w B g cap U ts) : Tbs w g 0 (some ⟨g, 0, none⟩) ts := by
  have hl := h.len
  refine ⟨fun _ => rfl, fun j hj => ?_⟩
  have hj2 : j < U.length := by omega
  have he : ts[j] = tbOf U[j] := by
    have := h.eq
    subst this
    simp
  obtain ⟨g0, g1⟩ := flatU_get U j hj2
  rw [he, Nat.zero_add]
  refine (h.tabs U[j] (List.getElem_mem _)).at ?_ ?_
  · rw [h.own.cellAt _ (by omega), g0]
  · rw [h.own.cellAt _ (by omega), g1]
/-- One more table. -/
theorem TabW.push {w w' : World} {B g cap g' cap' n : Nat} {U : List UT} {ts : List TB} {u : UT} (h : TabW w B g cap U ts) (hu : TabD w B u) (hg : g ∉ blkU u) (hs : ∀ v ∈ U, ∀ b ∈ blkU v, ∀ c ∈ blkU u, b < c) (hnl : n = ts.length + 1)
    (hown : w'.ownsRow B 67 2 (.slice (some ⟨g', 0, none⟩) n cap') n (U.flatMap hdT ++ hdT u)) (hgr : w.grownBy w' (some g)) (hgg : g' = g ∨ w.heap.size ≤ g') : TabW w' B g' cap' (U ++ [u]) (ts ++ [tbOf u]) := by
  subst hnl
  have hk : ∀ v, TabD w B v → g ∉ blkU v → TabD w' B v := fun v hv hne => hv.keep hgr.size fun b hb => hgr.block _ (hv.blk b hb).2 (fun e => hne (Option.some.inj e ▸ hb))
  have hmem : ∀ v ∈ U ++ [u], TabD w B v ∧ g ∉ blkU v := by
    intro v hv
    rcases List.mem_append.1 hv with hv | hv
    · exact ⟨h.tabs v hv, h.ng v hv⟩
    · obtain rfl := List.mem_singleton.1 hv
      exact ⟨hu, hg⟩
  refine ⟨by rw [List.map_append, h.eq]; rfl, ?_, fun v hv => hk v (hmem v hv).1 (hmem v hv).2, fun v hv e => ?_, List.pairwise_append.2 ⟨h.sep, List.pairwise_singleton _ _, fun v hv x hx => by obtain rfl := List.mem_singleton.1 hx; exact hs v hv⟩⟩
  · rw [List.flatMap_append, List.length_append]
    simpa using hown
  · rcases hgg with hgg | hgg
    · exact (hmem v hv).2 (hgg ▸ e)
    · have := ((hmem v hv).1.blk g' e).2
      omega
end Go.Proofs.YtacinjbaebimhaaGreat.Val
namespace Go.Proofs.YtacinjbaebimhaaGreat.Val
open Go.RowKit
set_option linter.unusedSimpArgs false
set_option linter.unusedVariables false
set_option maxRecDepth 20000
theorem infoTW : (Tryz.prog.info? 67).map (fun i => (i.zero, i.size, i.bytes)) = some (some (.agg #[.slice none 0 0, .slice none 0 0]), 2, 48) := by kernel_rfl
/-- A table whose rows fit. -/
def TabFit (t : TB) : Prop := 0 < t.1.length ∧ t.1.length ≤ 3 ∧ KindsC t.1 ∧ Small t.2 ∧ FitsAll t.1 t.2
def TabsFit (ts : List TB) : Prop := ∀ t ∈ ts, TabFit t
theorem TabsFit.app {ts : List TB} {t : TB} (h : TabsFit ts) (ht : TabFit t) : TabsFit (ts ++ [t]) := fun u hu => by
  rcases List.mem_append.1 hu with hu | hu
  · exact h u hu
  · obtain rfl := List.mem_singleton.1 hu; exact ht
theorem TabFit.rows {t : TB} (h : TabFit t) : rowsB t.1 t.2 = true := by
  obtain ⟨h0, h3, hk, hs, hf⟩ := h
  refine rowsB_iff.2 ⟨?_, fun r hr => (hf r hr).2.fit (hf r hr).1 hk (by omega)⟩
  refine colB_iff.2 ⟨by omega, fun c hc => ?_⟩
  rcases hk c hc with h | h | h <;> simp [kindB, h]
theorem TabsFit.tables {ts : List TB} (h : TabsFit ts) (h3 : ts.length ≤ 3) : tablesB ts = true :=
  tablesB_iff.2 ⟨h3, fun t ht => ⟨(h t ht).2.2.2.1.1, (h t ht).rows⟩⟩
theorem TabsFit.ok {ts : List TB} (h : TabsFit ts) (h3 : ts.length ≤ 3) : OkT ts :=
  ⟨by omega, fun t ht => ⟨by have := (h t ht).2.1; omega, (h t ht).2.2.2.1.ok⟩⟩
/-- Tables whose rows' capacities hold them. -/
def CapU (U : List UT) : Prop := ∀ u ∈ U, CapT u.2.2.2
theorem CapU.app {U : List UT} {u : UT} (h : CapU U) (hu : CapT u.2.2.2) : CapU (U ++ [u]) := fun v hv => by
  rcases List.mem_append.1 hv with hv | hv
  · exact h v hv
  · obtain rfl := List.mem_singleton.1 hv; exact hu
def DrewTG (B r : Nat) (p : Int) (w : World) (e : Ending) (w' : World) : Prop := ∃ (g cap : Nat) (U : List UT) (ts : List TB) (q : Int), e = .returned (.slice (some ⟨g, 0, none⟩) ts.length cap) ∧ TabW w' w.heap.size g cap U ts ∧ 1 ≤ ts.length ∧ ts.length ≤ 3 ∧ TabsFit ts ∧ CapU U ∧ q ≤ p + 70000 ∧ Only r w w' ∧ RdOk B r w' q
theorem cut_cols {w : World} {g : Nat} {cs : List CT} (m : Nat) (h : Fl w g 0 (some ⟨g, 0, none⟩) (flatC cs)) : Fl w g 0 (some ⟨g, 0, none⟩) (flatC (cs.take m)) := by
  have e := flatC_take cs m
  refine ⟨fun _ => rfl, fun j hj => ?_⟩
  rw [h.c j (by have := e.length_le; omega)]
  exact congrArg some (e.getElem hj).symm
theorem KindsC.take {cs : List CT} (h : KindsC cs) (m : Nat) : KindsC (cs.take m) := fun c hc => h c (List.mem_of_mem_take hc)
theorem own_lower2 {w : World} {B B' n size : Nat} {e : TypeId} {v : Value} {xs : List Value} (h : w.ownsRow B e size v n xs) (hB : B' ≤ B) : w.ownsRow B' e size v n xs := by
  refine ⟨h.1, ?_⟩
  rcases h.2 with h0 | ⟨g2, cap2, cur, h1, h2, h3⟩
  · exact .inl h0
  · exact .inr ⟨g2, cap2, cur, h1, Nat.le_trans hB h2, h3⟩
theorem BagW.lower {w : World} {B B' g cap : Nat} {T : List TT} {ls : List RT} (h : BagW w B g cap T ls) (hB : B' ≤ B) : BagW w B' g cap T ls :=
  ⟨h.eq, own_lower2 h.own hB, fun t ht => ⟨(h.rows t ht).fl, Nat.le_trans hB (h.rows t ht).lo, (h.rows t ht).hi⟩, h.ng⟩
theorem TabD.alloc {w : World} {B : Nat} {u : UT} (h : TabD w B u) (ob : Obj) : TabD (w.alloc ob) B u := h.keep (by simp) fun b hb => Below.heap_alloc _ _ _ (h.blk b hb).2
/-- A drawn table out of its columns and its rows. -/
theorem tabD_of {w : World} {B gc cc gb cb m : Nat} {cs : List CT} {T : List TT} {ls : List RT} (hf : w.ownsRow B 79 2 (.slice (some ⟨gc, 0, none⟩) cs.length cc) cs.length (flatC cs)) (hs : gc ≠ gb) (hsr : ∀ t ∈ T, t.1 ≠ gc) (hb : BagW w B gb cb T ls) : TabD w B ((gc, cc, cs.take m), (gb, cb, T)) := by
  refine ⟨own_cols hf, hs, hsr, ?_⟩
  have e : rowsU ((gc, cc, cs.take m), (gb, cb, T)) = ls := hb.eq
  rw [e]; exact hb
theorem hdT_of {gc cc gb cb n : Nat} {cs : List CT} {T : List TT} {ls : List RT} (h : cs.length = n) (ht : T.length = ls.length) : hdT ((gc, cc, cs), (gb, cb, T)) = [.slice (some ⟨gc, 0, none⟩) n cc, .slice (some ⟨gb, 0, none⟩) ls.length cb] := by
  simp [hdT, hdC, hdR, hdF, h, ht]
theorem tb_of {gc cc gb cb : Nat} {cs : List CT} {T : List TT} {ls : List RT} (h : T.map (fun t => t.2.2) = ls) : tbOf ((gc, cc, cs), (gb, cb, T)) = (cs, ls) := by
  subst h; rfl
theorem mod_small {m : Int} {n : Nat} (hn : 0 < n) (h0 : 0 ≤ m) (h1 : m < 2) : ∃ k : Nat, m % (n : Int) = (k : Int) ∧ k < n ∧ k ≤ 1 := by
  by_cases h : n = 1
  · subst h
    exact ⟨0, by simp, by omega, by omega⟩
  · exact ⟨m.toNat, by rw [Int.emod_eq_of_lt h0 (by omega)]; omega, by omega, by omega⟩
theorem far_set {w : World} {g p b : Nat} {v : Value} (h : b ≠ g) : (w.setCell ⟨g, p, none⟩ v).heap[b]? = w.heap[b]? := Below.heap_setCell w ⟨g, p, none⟩ v b h
theorem TabW.othersNe {w : World} {B g cap : Nat} {U : List UT} {ts : List TB} (h : TabW w B g cap U ts) (h0 : 0 < U.length) {b0 : Nat} (hb : b0 ∈ blkU U[0]) (j : Nat) (hj : j < U.length) (hj0 : 0 < j) : ∀ c ∈ blkU U[j], c ≠ b0 := fun c hc e => by
  have := List.pairwise_iff_getElem.1 h.sep 0 j h0 hj hj0 b0 hb c hc
  omega
/-- The first table turned. -/
theorem tbs_first {w w' : World} {B g cap n b0 : Nat} {U : List UT} {ts : List TB} {xs : List Value} {t0 : TB} (h : TabW w B g cap U ts) (h0 : 0 < U.length) (hb : b0 ∈ blkU U[0])
    (hown : w'.ownsRow B 67 2 (.slice (some ⟨g, 0, none⟩) n cap) n xs) (hn : n = ts.length) (hx : ∀ i, 2 ≤ i → xs[i]? = (U.flatMap hdT)[i]?) (hz : w.heap.size ≤ w'.heap.size) (hk : ∀ b, b < w.heap.size → b ≠ b0 → b ≠ g → w'.heap[b]? = w.heap[b]?) (ht : TabAt w' g 0 t0) :
    Tbs w' g 0 (some ⟨g, 0, none⟩) (ts.set 0 t0) := by
  have hl := h.len
  subst hn
  refine ⟨fun _ => rfl, fun j hj => ?_⟩
  rw [List.length_set] at hj
  rw [List.getElem_set, Nat.zero_add]
  split
  · rename_i e; subst e; exact ht
  · rename_i e
    have hj2 : j < U.length := by omega
    have he : ts[j] = tbOf U[j] := by
      have := h.eq
      subst this
      simp
    obtain ⟨g0, g1⟩ := flatU_get U j hj2
    rw [he]
    have hd : TabD w' B U[j] := (h.tabs _ (List.getElem_mem hj2)).keep hz fun b hb2 => hk b (((h.tabs _ (List.getElem_mem hj2)).blk b hb2).2) (h.othersNe h0 hb j hj2 (by omega) b hb2) (fun e => h.ng _ (List.getElem_mem hj2) (e ▸ hb2))
    refine hd.at ?_ ?_
    · rw [hown.cellAt _ (by omega), hx _ (by omega), g0]
    · rw [hown.cellAt _ (by omega), hx _ (by omega), g1]
theorem setL_far {xs : List Value} {p i : Nat} {v : Value} (h : p < i) : (xs.set p v)[i]? = xs[i]? := List.getElem?_set_ne (by omega)
/-- A row more in the first table. -/
theorem TabW.rowMore {w w' : World} {B g cap gb' cb' n : Nat} {U : List UT} {ts : List TB} {t : TT} (h : TabW w B g cap U ts) (h0 : 0 < U.length) (h1 : 0 < ts.length) (ht : RowF w B t) (hne : t.1 ≠ U[0].2.1) (hgt : t.1 ≠ g) (hn : n = ts[0].2.length + 1)
    (hown : w'.ownsRow B 50 1 (.slice (some ⟨gb', 0, none⟩) n cb') n (U[0].2.2.2.map hdr ++ [hdr t])) (hgr : w.grownBy w' (some U[0].2.1)) (hgg : gb' = U[0].2.1 ∨ w.heap.size ≤ gb') :
    Tbs (w'.setCell ⟨g, 1, none⟩ (.slice (some ⟨gb', 0, none⟩) n cb')) g 0 (some ⟨g, 0, none⟩) (ts.set 0 (ts[0].1, ts[0].2 ++ [t.2.2])) := by
  have hl := h.len
  have hd := h.tabs _ (List.getElem_mem h0)
  have hng := h.ng _ (List.getElem_mem h0)
  have he : ts[0] = tbOf U[0] := by
    have := h.eq
    subst this
    simp
  have hgb : U[0].2.1 ∈ blkU U[0] := by simp [blkU]
  have hgc : U[0].1.1 ∈ blkU U[0] := by simp [blkU]
  have hgne : g ≠ U[0].2.1 := fun e => hng (e ▸ hgb)
  have hro : rowsU U[0] = ts[0].2 := by rw [he]; rfl
  have hpu := hd.bag.push ht hne (by rw [hro]; exact hn) hown hgr hgg
  have hgb' : gb' ≠ g := by
    rcases hgg with rfl | hgg
    · exact fun e => hgne e.symm
    · have := h.lo.2; omega
  have ho1 : w'.ownsRow B 67 2 (.slice (some ⟨g, 0, none⟩) ts.length cap) ts.length (U.flatMap hdT) := own_keep h.own (hgr.block g h.lo.2 (fun e => hgne (Option.some.inj e)))
  have ho2 := (ho1.stored 1 (.slice (some ⟨gb', 0, none⟩) n cb')).1
  have hbs : BagW (w'.setCell ⟨g, 1, none⟩ (.slice (some ⟨gb', 0, none⟩) n cb')) B gb' cb' (U[0].2.2.2 ++ [t]) (rowsU U[0] ++ [t.2.2]) := hpu.keep (by simp [World.setCell]) (far_set hgb') fun x hx => far_set (by
    rcases List.mem_append.1 hx with hx | hx
    · exact fun e => hng (by simp only [blkU, List.mem_cons, List.mem_map]; exact .inr (.inr ⟨x, hx, e⟩))
    · obtain rfl := List.mem_singleton.1 hx; exact hgt)
  refine tbs_first h h0 hgb ho2 rfl (fun i hi => setL_far (by omega)) (by simpa [World.setCell] using hgr.size) (fun b hb hbb hbg => (far_set hbg).trans (hgr.block b hb (fun e => hbb (Option.some.inj e)))) ?_
  have hcap := hbs.caps
  rw [hro, List.length_append, List.length_singleton, ← hn] at hcap
  have hw1 : (w'.setCell ⟨g, 1, none⟩ (.slice (some ⟨gb', 0, none⟩) n cb')).heap[U[0].1.1]? = w.heap[U[0].1.1]? := (far_set (fun e => hng (by rw [← e]; exact hgc))).trans (hgr.block _ hd.hi (fun e => hd.sp (Option.some.inj e)))
  refine ⟨_, U[0].1.2.1, U[0].1.1, 0, _, cb', gb', 0, ?_, ?_, ?_, ?_, ?_, ?_, .inl rfl, .inl rfl⟩
  · rw [ho2.cellAt 0 (by omega), List.getElem?_set_ne (by omega), (flatU_get U 0 h0).1, he]; rfl
  · rw [ho2.cellAt 1 (by omega), List.getElem?_set_self (by rw [flatU_len]; omega), List.length_append, List.length_singleton, ← hn]
  · rw [he]; exact hd.col.keep fun _ j => cellOf hw1
  · rw [← hro]; exact hbs.rws
  · rw [he]; exact hd.cap.1
  · rw [List.length_append, List.length_singleton, ← hn]; exact hcap.1
/-- A column more in the first table. -/
theorem TabW.colMore {w w' : World} {B g cap gc' cc' n : Nat} {U : List UT} {ts : List TB} {x : CT} (h : TabW w B g cap U ts) (h0 : 0 < U.length) (h1 : 0 < ts.length) (hn : n = ts[0].1.length + 1)
    (hown : w'.ownsRow B 79 2 (.slice (some ⟨gc', 0, none⟩) n cc') n (flatC U[0].1.2.2 ++ flatC [x])) (hgr : w.grownBy w' (some U[0].1.1)) (hgg : gc' = U[0].1.1 ∨ w.heap.size ≤ gc') :
    Tbs (w'.setCell ⟨g, 0, none⟩ (.slice (some ⟨gc', 0, none⟩) n cc')) g 0 (some ⟨g, 0, none⟩) (ts.set 0 (ts[0].1 ++ [x], ts[0].2)) := by
  have hl := h.len
  have hd := h.tabs _ (List.getElem_mem h0)
  have hng := h.ng _ (List.getElem_mem h0)
  have he : ts[0] = tbOf U[0] := by
    have := h.eq
    subst this
    simp
  have hgb : U[0].2.1 ∈ blkU U[0] := by simp [blkU]
  have hgc : U[0].1.1 ∈ blkU U[0] := by simp [blkU]
  have hgne : g ≠ U[0].1.1 := fun e => hng (e ▸ hgc)
  have hro : rowsU U[0] = ts[0].2 := by rw [he]; rfl
  have hgc' : gc' ≠ g := by
    rcases hgg with rfl | hgg
    · exact fun e => hgne e.symm
    · have := h.lo.2; omega
  have ho1 : w'.ownsRow B 67 2 (.slice (some ⟨g, 0, none⟩) ts.length cap) ts.length (U.flatMap hdT) := own_keep h.own (hgr.block g h.lo.2 (fun e => hgne (Option.some.inj e)))
  have ho2 := (ho1.stored 0 (.slice (some ⟨gc', 0, none⟩) n cc')).1
  have hk2 : ∀ b, b < w.heap.size → b ≠ U[0].1.1 → b ≠ g → (w'.setCell ⟨g, 0, none⟩ (.slice (some ⟨gc', 0, none⟩) n cc')).heap[b]? = w.heap[b]? := fun b hb hbb hbg => (far_set hbg).trans (hgr.block b hb (fun e => hbb (Option.some.inj e)))
  have hz2 : w.heap.size ≤ (w'.setCell ⟨g, 0, none⟩ (.slice (some ⟨gc', 0, none⟩) n cc')).heap.size := by simpa [World.setCell] using hgr.size
  have hbs : BagW (w'.setCell ⟨g, 0, none⟩ (.slice (some ⟨gc', 0, none⟩) n cc')) B U[0].2.1 U[0].2.2.1 U[0].2.2.2 (rowsU U[0]) := hd.bag.keep hz2 (hk2 _ hd.bag.lo.2 (fun e => hd.sp e.symm) (fun e => hng (e ▸ hgb))) fun t ht => hk2 _ (hd.bag.rows t ht).hi (hd.sr t ht) (fun e => hng (by simp only [blkU, List.mem_cons, List.mem_map]; exact .inr (.inr ⟨t, ht, e⟩)))
  refine tbs_first h h0 hgc ho2 rfl (fun i hi => setL_far (by omega)) hz2 hk2 ?_
  have hcap := own_caps hown
  refine ⟨_, cc', gc', 0, _, U[0].2.2.1, U[0].2.1, 0, ?_, ?_, ?_, ?_, ?_, ?_, .inl rfl, .inl rfl⟩
  · rw [ho2.cellAt 0 (by omega), List.getElem?_set_self (by rw [flatU_len]; omega), List.length_append, List.length_singleton, ← hn]
  · rw [ho2.cellAt 1 (by omega), List.getElem?_set_ne (by omega), (flatU_get U 0 h0).2, ← hro]
    simp [hdR, hdF, rowsU]
  · rw [he, flatC_app]; exact (fl_sliceB hown).keep fun _ j => cellOf (far_set hgc')
  · rw [← hro]; exact hbs.rws
  · rw [List.length_append, List.length_singleton, ← hn]; exact hcap.1
  · rw [← hro]; exact hbs.caps.1
/-- Three tables more, which have nothing. -/
theorem TabW.more3 {w w' : World} {B g cap g' cap' n : Nat} {U : List UT} {ts : List TB} (h : TabW w B g cap U ts) (hn : n = ts.length + 3)
    (hown : w'.ownsRow B 67 2 (.slice (some ⟨g', 0, none⟩) n cap') n (U.flatMap hdT ++ [.slice none 0 0, .slice none 0 0, .slice none 0 0, .slice none 0 0, .slice none 0 0, .slice none 0 0])) (hgr : w.grownBy w' (some g)) :
    Tbs w' g' 0 (some ⟨g', 0, none⟩) (ts ++ [([], []), ([], []), ([], [])]) := by
  have hl := h.len
  subst hn
  have hfl := flatU_len U
  refine ⟨fun _ => rfl, fun j hj => ?_⟩
  have hj3 : j < ts.length + 3 := by simpa using hj
  rw [Nat.zero_add]
  by_cases hj2 : j < ts.length
  · have hj4 : j < U.length := by omega
    have he : ts[j] = tbOf U[j] := by
      have := h.eq
      subst this
      simp
    rw [List.getElem_append_left hj2, he]
    obtain ⟨g0, g1⟩ := flatU_get U j hj4
    have hd : TabD w' B U[j] := (h.tabs _ (List.getElem_mem hj4)).keep hgr.size fun b hb2 => hgr.block b (((h.tabs _ (List.getElem_mem hj4)).blk b hb2).2) (fun e => h.ng _ (List.getElem_mem hj4) (Option.some.inj e ▸ hb2))
    refine hd.at ?_ ?_
    · rw [hown.cellAt _ (by omega), List.getElem?_append_left (by omega), g0]
    · rw [hown.cellAt _ (by omega), List.getElem?_append_left (by omega), g1]
  · have e6 : ∀ i, i < 6 → ([.slice none 0 0, .slice none 0 0, .slice none 0 0, .slice none 0 0, .slice none 0 0, .slice none 0 0] : List Value)[i]? = some (.slice none 0 0) := fun i hi => by
      obtain rfl | rfl | rfl | rfl | rfl | rfl : i = 0 ∨ i = 1 ∨ i = 2 ∨ i = 3 ∨ i = 4 ∨ i = 5 := by omega
      all_goals rfl
    have c0 : ∀ i, U.length * 2 ≤ i → i < U.length * 2 + 6 → w'.cell? ⟨g', i, none⟩ = some (.slice none 0 0) := fun i h1 h2 => by
      rw [hown.cellAt _ (by omega), List.getElem?_append_right (by omega), e6 _ (by omega)]
    have ht : (ts ++ [([], []), ([], []), ([], [])])[j] = (([], []) : TB) := by
      rw [List.getElem_append_right (by omega)]
      obtain h | h | h : j - ts.length = 0 ∨ j - ts.length = 1 ∨ j - ts.length = 2 := by omega
      all_goals simp [h]
    rw [ht]
    refine ⟨none, 0, g', 0, none, 0, g', 0, c0 _ (by omega) (by omega), c0 _ (by omega) (by omega), ⟨fun h => absurd h (by simp [flatC]), fun j hj => absurd hj (by simp [flatC])⟩, ⟨fun h => absurd h (by simp), fun j hj => absurd hj (by simp)⟩, Nat.le_refl _, Nat.le_refl _, .inr ⟨rfl, rfl⟩, .inr ⟨rfl, rfl⟩⟩
theorem head_eq {w : World} {B g cap : Nat} {U : List UT} {ts : List TB} {gc cc gb cb : Nat} {cs0 : List CT} {T0 : List TT} (h : TabW w B g cap U ts) (h0 : 0 < U.length) (h1 : 0 < ts.length) (hu : U[0] = ((gc, cc, cs0), (gb, cb, T0))) : ts[0] = (cs0, T0.map fun t => t.2.2) := by
  have he : ts[0] = tbOf U[0] := by
    have := h.eq
    subst this
    simp
  rw [he, hu]; rfl
theorem TabW.rowMore2 {w w' : World} {B g cap gb' cb' n : Nat} {U : List UT} {ts : List TB} {t : TT} {gc cc gb cb : Nat} {cs0 : List CT} {T0 : List TT} (h : TabW w B g cap U ts) (h0 : 0 < U.length) (h1 : 0 < ts.length) (hu : U[0] = ((gc, cc, cs0), (gb, cb, T0))) (ht : RowF w B t) (hne : t.1 ≠ gb) (hgt : t.1 ≠ g) (hn : n = T0.length + 1)
    (hown : w'.ownsRow B 50 1 (.slice (some ⟨gb', 0, none⟩) n cb') n (T0.map hdr ++ [hdr t])) (hgr : w.grownBy w' (some gb)) (hgg : gb' = gb ∨ w.heap.size ≤ gb') :
    Tbs (w'.setCell ⟨g, 1, none⟩ (.slice (some ⟨gb', 0, none⟩) n cb')) g 0 (some ⟨g, 0, none⟩) (ts.set 0 (cs0, (T0.map fun t => t.2.2) ++ [t.2.2])) := by
  have he := head_eq h h0 h1 hu
  have := h.rowMore h0 h1 (t := t) ht (by rw [hu]; exact hne) hgt (n := n) (by rw [he]; simp [hn]) (by rw [hu]; exact hown) (by rw [hu]; exact hgr) (by rw [hu]; exact hgg)
  rw [he] at this
  exact this
theorem TabW.colMore2 {w w' : World} {B g cap gc' cc' n : Nat} {U : List UT} {ts : List TB} {x : CT} {gc cc gb cb : Nat} {cs0 : List CT} {T0 : List TT} (h : TabW w B g cap U ts) (h0 : 0 < U.length) (h1 : 0 < ts.length) (hu : U[0] = ((gc, cc, cs0), (gb, cb, T0))) (hn : n = cs0.length + 1)
    (hown : w'.ownsRow B 79 2 (.slice (some ⟨gc', 0, none⟩) n cc') n (flatC cs0 ++ flatC [x])) (hgr : w.grownBy w' (some gc)) (hgg : gc' = gc ∨ w.heap.size ≤ gc') :
    Tbs (w'.setCell ⟨g, 0, none⟩ (.slice (some ⟨gc', 0, none⟩) n cc')) g 0 (some ⟨g, 0, none⟩) (ts.set 0 (cs0 ++ [x], T0.map fun t => t.2.2)) := by
  have he := head_eq h h0 h1 hu
  have := h.colMore h0 h1 (x := x) (n := n) (by rw [he]; simp [hn]) (by rw [hu]; exact hown) (by rw [hu]; exact hgr) (by rw [hu]; exact hgg)
  rw [he] at this
  exact this
/-- What is read of the first table. -/
theorem TabW.head {w : World} {B g cap : Nat} {U : List UT} {ts : List TB} {gc cc gb cb : Nat} {cs0 : List CT} {T0 : List TT} (h : TabW w B g cap U ts) (h0 : 0 < U.length) (hu : U[0] = ((gc, cc, cs0), (gb, cb, T0))) :
    (w.cell? ⟨g, 0, none⟩ = some (.slice (some ⟨gc, 0, none⟩) cs0.length cc) ∧ w.cell? ⟨g, 1, none⟩ = some (.slice (some ⟨gb, 0, none⟩) T0.length cb) ∧ w.frozen? ⟨g, 0, none⟩ = false ∧ w.frozen? ⟨g, 1, none⟩ = false) ∧ (w.ownsRow B 79 2 (.slice (some ⟨gc, 0, none⟩) cs0.length cc) cs0.length (flatC cs0) ∧ w.ownsRow B 50 1 (.slice (some ⟨gb, 0, none⟩) T0.length cb) T0.length (T0.map hdr)) ∧ (B ≤ gc ∧ gc < w.heap.size ∧ gc ≠ g) ∧ B ≤ gb ∧ gb < w.heap.size ∧ gb ≠ g := by
  have hl := h.len
  have hd := h.tabs _ (List.getElem_mem h0)
  have hng := h.ng _ (List.getElem_mem h0)
  obtain ⟨g0, g1⟩ := flatU_get U 0 h0
  rw [hu] at hd hng g0 g1
  have hgc : gc ≠ g := fun e => hng (by rw [← e]; simp [blkU])
  have hgb : gb ≠ g := fun e => hng (by rw [← e]; simp [blkU])
  have hbo := hd.bag.own
  have hbl := hd.bag.len
  simp only at hbo hbl
  rw [← hbl] at hbo
  refine ⟨⟨?_, ?_, h.own.frozenAt 0, h.own.frozenAt 1⟩, ⟨hd.own, hbo⟩, ⟨hd.lo, hd.hi, hgc⟩, hd.bag.lo.1, hd.bag.lo.2, hgb⟩
  · rw [h.own.cellAt 0 (by omega), g0]; rfl
  · rw [h.own.cellAt 1 (by omega), g1]; rfl
theorem okT_app {ts us : List TB} (h : OkT ts) (hu : ∀ t ∈ us, t.1.length ≤ 2000000 ∧ Ok2 t.2) (hl : ts.length + us.length ≤ 2000000) : OkT (ts ++ us) := ⟨by rw [List.length_append]; exact hl, fun t ht => by
  rcases List.mem_append.1 ht with ht | ht
  · exact h.2 t ht
  · exact hu t ht⟩
theorem okT_set {ts : List TB} {t0 : TB} (h : OkT ts) (hu : t0.1.length ≤ 2000000 ∧ Ok2 t0.2) : OkT (ts.set 0 t0) := ⟨by rw [List.length_set]; exact h.1, fun t ht => by
  rcases List.mem_or_eq_of_mem_set ht with ht | rfl
  · exact h.2 t ht
  · exact hu⟩
theorem ok2_snoc {ls : List RT} {x : RT} (h : Ok2 ls) (hl : ls.length < 2000000) (hx : x.length ≤ 2000000 ∧ Short x) : Ok2 (ls ++ [x]) := ⟨by rw [List.length_append, List.length_singleton]; omega, fun r hr => by
  rcases List.mem_append.1 hr with hr | hr
  · exact h.2 r hr
  · obtain rfl := List.mem_singleton.1 hr; exact hx⟩
theorem own_lit {w : World} {B size : Nat} {e : TypeId} {xs : Array Value} (hB : B ≤ w.heap.size) (hs : xs.size = size) : (w.alloc (.cells xs e)).ownsRow B e size (.slice (some ⟨w.heap.size, 0, none⟩) 1 1) 1 xs.toList :=
  ⟨by rw [Array.length_toList, hs, Nat.one_mul], .inr ⟨w.heap.size, 1, xs, rfl, hB, heap_alloc_new w _, Nat.le_refl _, by decide, by rw [hs, Nat.one_mul], by rw [Nat.one_mul, ← hs, ← Array.length_toList, List.take_length]⟩⟩
theorem nine_row {w : World} {B : Nat} (hB : B ≤ w.heap.size) (t : TypeId) : RowF (w.alloc (.cells #[.int .i64 9, .int .i64 0, .string ⟨#[]⟩] t)) B (w.heap.size, 1, [(9, 0, ⟨#[]⟩)]) :=
  ⟨fl_sliceB (own_lit (size := 3) (Nat.le_refl _) rfl), hB, by simp⟩
/-- Tables were drawn, odd ones too. -/
def DrewTA (n : Int) (B r : Nat) (p : Int) (w : World) (e : Ending) (w' : World) : Prop := ∃ (g cap : Nat) (ts : List TB) (q : Int), e = .returned (.slice (some ⟨g, 0, none⟩) ts.length cap) ∧ Tbs w' g 0 (some ⟨g, 0, none⟩) ts ∧ OkT ts ∧ 1 ≤ ts.length ∧ ts.length ≤ 6 ∧ (ts.length ≤ cap ∧ cap ≤ maxLen) ∧ q ≤ p + 70000 ∧ Only r w w' ∧ RdOk B r w' q ∧ (n = 0 → ts.length ≤ 3 ∧ TabsFit ts ∧ ∃ U : List UT, TabW w' w.heap.size g cap U ts ∧ CapU U)
set_option maxHeartbeats 8000000 in
theorem l20TablesA (n : Int) (hn0 : 0 ≤ n) (hn9 : n ≤ 1000) (B r : Nat) (p : Int) (w : World) (h : RdOk B r w p) (hp : p ≤ 40000000) : Calls Tryz.prog 23 #[.pointer (some ⟨r, 0, none⟩), .int .i64 n] w (DrewTA n B r p w) := by
  obtain ⟨i0, hi, iz0, iz1, iz2⟩ := info_parts infoTW
  obtain ⟨x0, hx, xz0, xz1, xz2⟩ := info_parts infoC
  obtain ⟨y0, hy, yz0, yz1, yz2⟩ := info_parts infoVS
  have hlt := h.lt
  have hge := h.ge
  have hp0 := h.p0
  have HR := Lib.hid (h.alloc (.cells #[] 67))
  have HO := Lib.hid ((Only.refl r w).alloc (.cells #[] 67))
  have TW : Hid (TabW (w.alloc (.cells #[] 67)) w.heap.size w.heap.size 0 [] []) := ⟨rfl, own_empty3 67 2 rfl (Nat.le_refl _), fun t ht => absurd ht (by simp), fun t ht => absurd ht (by simp), List.Pairwise.nil⟩
  clear h
  go_enter Tryz.func23, Tryz.ntmps23
  go_wp2_with ((go_at_call 26; (with_reducible refine (pick B r 3 p _ (by repeat (with_reducible first | exact HR.out | apply RdOk.alloc | apply RdOk.drew | (refine RdOk.setFar ?_ (by first | omega | (simp; done) | (simp; omega)) _))) (by omega)).mono ?_); rintro e w1 ⟨m, rfl, hm0, hm1, hm2, ho, hr⟩; have HOn := Lib.hid (Only.trans (by repeat (with_reducible first | exact HO.out | apply Only.alloc | apply Only.drew | (refine Only.setNew ?_ (by first | omega | (simp; done) | (simp; omega)) _))) ho); have K0 := Lib.hid (by first | exact TW.out.only (by omega) ho | exact (TW.out.alloc _).only (by omega) ho | exact (TW.out.drew).only (by omega) ho); clear TW; have TW := K0; clear K0; clear HO HR; have HO := HOn; have HR := Lib.hid hr; clear HOn hr; have hm1 := hm1 (by omega); clear hm2; clear ho))
  go_loopw [5, 6] (fun ox kx wr => ∃ (K : Int) (g1 c1 : Nat) (U : List UT) (ts : List TB) (q : Int), kx = .int .i64 K ∧ 0 ≤ K ∧ K ≤ 3 ∧ (ts.length : Int) + K ≤ 3 ∧ 1 ≤ (ts.length : Int) + K ∧ ox = .slice (some ⟨g1, 0, none⟩) ts.length c1 ∧ q ≤ p + 1 + 21000 * (ts.length : Int) ∧ Hid (TabW wr w.heap.size g1 c1 U ts) ∧ Hid (TabsFit ts) ∧ Hid (CapU U) ∧ Hid (RdOk B r wr q) ∧ Hid (Only r w wr)) (fun _ kx _ => (intOf kx).toNat)
  case atStart => exact ⟨_, w.heap.size, 0, [], [], _, rfl, by omega, by omega, by simp; omega, by simp; omega, rfl, by simp, TW, fun x hx => absurd hx (by simp), fun x hx => absurd hx (by simp), HR, HO⟩
  case round =>
    clear TW HR HO
    obtain ⟨K, g1, c1, U, ts, q, rfl, hK0, hK1, hKO, hKM, rfl, hq, TW, TF, CU, HR, HO⟩ := hrel
    have hq0 := HR.out.p0
    have hws := HO.out.size
    have hb1 := TW.out.lo
    have HLOW := Lib.hid (fun (v : UT) (hv : v ∈ U) (b : Nat) (hb : b ∈ blkU v) => ((TW.out.tabs v hv).blk b hb).2)
    obtain ⟨tl, htl⟩ : ∃ n, ts.length = n := ⟨_, rfl⟩
    have HTL := Lib.hid htl
    rw [htl] at hKO hKM hq ⊢
    by_cases hK : 0 < K
    · clear htl
      go_wp2_with (first
        | (go_at_call 39; (with_reducible refine (l20ColumnsG B r q _ (by repeat (with_reducible first | exact HR.out | apply RdOk.alloc | apply RdOk.drew | (refine RdOk.setFar ?_ (by first | omega | (simp; done) | (simp; omega)) _))) (by omega)).mono ?_); rintro e w1 ⟨cs, gc, cc, q1, rfl, n0, n3, nk, nc, nc2, ng, nf, nown, nq, ho, hr⟩; have HOn := Lib.hid (Only.trans (by repeat (with_reducible first | exact HO.out | apply Only.alloc | apply Only.drew | (refine Only.setNew ?_ (by first | omega | (simp; done) | (simp; omega)) _))) ho); have K0 := Lib.hid (by first | exact TW.out.only (by omega) ho | exact (TW.out.alloc _).only (by omega) ho | exact (TW.out.drew).only (by omega) ho); clear TW; have TW := K0; clear K0; clear HO HR; have HO := HOn; have HR := Lib.hid hr; clear HOn hr; have FC := Lib.hid nf; have OC := Lib.hid (own_lower2 (B' := w.heap.size) nown (by omega)); clear nown; have HNK := Lib.hid nk; have hz1 := ho.size; have hzc := nf.lt (by rw [flatC_len]; omega); clear nf nk; clear ho)
        | (go_at_call 26; (with_reducible refine (pick B r 2 q1 _ (by repeat (with_reducible first | exact HR.out | apply RdOk.alloc | apply RdOk.drew | (refine RdOk.setFar ?_ (by first | omega | (simp; done) | (simp; omega)) _))) (by omega)).mono ?_); rintro e w1 ⟨m2, rfl, h20, h21, h22, ho, hr⟩; have HOn := Lib.hid (Only.trans (by repeat (with_reducible first | exact HO.out | apply Only.alloc | apply Only.drew | (refine Only.setNew ?_ (by first | omega | (simp; done) | (simp; omega)) _))) ho); have K0 := Lib.hid (own_only2 (by repeat (with_reducible first | exact OC.out | apply World.ownsRow.alloc | apply own_drew)) (by omega) ho); clear OC; have OC := K0; clear K0; have K0 := Lib.hid (Fl.only (by (repeat (with_reducible first | exact FC.out | apply Fl.alloc | apply Fl.drew))) ho (by omega)); clear FC; have FC := K0; clear K0; have K0 := Lib.hid (by first | exact TW.out.only (by omega) ho | exact (TW.out.alloc _).only (by omega) ho | exact (TW.out.drew).only (by omega) ho); clear TW; have TW := K0; clear K0; clear HO HR; have HO := HOn; have HR := Lib.hid hr; clear HOn hr; have h21 := h21 (by omega); clear h22; obtain ⟨mm, hmm, hml, hm1u⟩ := mod_small n0 h20 h21; have hmt : (1 + (mm : Int)).toNat = mm + 1 := (by omega); have hz2 := ho.size; clear ho)
        | (go_at_call 40; (with_reducible refine ((by have h := l20BagG B r gc cc (cs.take (mm + 1)) _ _ (by repeat (with_reducible first | exact HR.out | apply RdOk.alloc | apply RdOk.drew | (refine RdOk.setFar ?_ (by first | omega | (simp; done) | (simp; omega)) _))) (by omega) (HNK.out.take _) (cut_cols _ FC.out) (by omega) (by rw [List.length_take]; omega) (by rw [List.length_take]; omega); rw [show (cs.take (mm + 1)).length = mm + 1 by rw [List.length_take]; omega] at h; exact h : Calls _ _ _ _ _)).mono ?_); rintro e w1 ⟨gb, cb, T, ls, q3, rfl, bw, bs, bf, bcp, bq, ho, hr⟩; have HOn := Lib.hid (Only.trans (by repeat (with_reducible first | exact HO.out | apply Only.alloc | apply Only.drew | (refine Only.setNew ?_ (by first | omega | (simp; done) | (simp; omega)) _))) ho); have K0 := Lib.hid (own_only2 (by repeat (with_reducible first | exact OC.out | apply World.ownsRow.alloc | apply own_drew)) (by omega) ho); clear OC; have OC := K0; clear K0; have K0 := Lib.hid (Fl.only (by (repeat (with_reducible first | exact FC.out | apply Fl.alloc | apply Fl.drew))) ho (by omega)); clear FC; have FC := K0; clear K0; have K0 := Lib.hid (by first | exact TW.out.only (by omega) ho | exact (TW.out.alloc _).only (by omega) ho | exact (TW.out.drew).only (by omega) ho); clear TW; have TW := K0; clear K0; clear HO HR; have HO := HOn; have HR := Lib.hid hr; clear HOn hr; have hz3 := ho.size; have hbl := bw.lo; have HRL := Lib.hid (fun (t : TT) (ht : t ∈ T) => (bw.rows t ht).lo); have BB := Lib.hid (bw.lower (B' := w.heap.size) (by omega)); have HBS := Lib.hid bs; have HBF := Lib.hid bf; have HBC := Lib.hid bcp; clear bw bs bf bcp; clear ho)
        | (at_builtin; refine wpList_append_block _ rfl (.tmp 32) (.tmp 34) 23 rfl w.heap.size 67 i0 (.agg #[.slice none 0 0, .slice none 0 0]) 2 48 Tryz.underlying23 hi iz0 iz1 iz2 rfl (by decide) g1 tl c1 (U.flatMap hdT) rfl (by have h := TW.out.own; rw [HTL.out] at h; exact (h.alloc _).alloc _) _ 1 1 [.slice (some ⟨gc, 0, none⟩) (mm + 1) cc, .slice (some ⟨gb, 0, none⟩) ls.length cb] rfl rfl (news_new (by first | rfl | simp)) (by simp [Value.oneCell']) (by unfold maxLen; omega) (by omega) (by have := HO.out.size; first | omega | (simp; omega)) ?_; intro g3 c3 w3 hown hgr3 hgg; have HOWN := Lib.hid hown; have HGR := Lib.hid hgr3; have HGG := Lib.hid hgg; clear hown hgr3 hgg))
      have hln : (cs.take (mm + 1)).length = mm + 1 := by rw [List.length_take]; omega
      have hdt := hdT_of (gc := gc) (cc := cc) (gb := gb) (cb := cb) (T := T) hln BB.out.len
      have htb := tb_of (gc := gc) (cc := cc) (gb := gb) (cb := cb) (cs := cs.take (mm + 1)) BB.out.eq
      have hTD := tabD_of (m := mm + 1) OC.out (by omega) (fun t ht => by have := HRL.out t ht; omega) BB.out
      have hng : g1 ∉ blkU ((gc, cc, cs.take (mm + 1)), (gb, cb, T)) := by
        simp only [blkU, List.mem_cons, List.mem_map, not_or, not_exists, not_and]
        exact ⟨by omega, by omega, fun t ht => by have := HRL.out t ht; omega⟩
      have hsep : ∀ v ∈ U, ∀ b ∈ blkU v, ∀ c ∈ blkU ((gc, cc, cs.take (mm + 1)), (gb, cb, T)), b < c := by
        intro v hv b hb c hc
        have h1 := HLOW.out v hv b hb
        simp only [blkU, List.mem_cons, List.mem_map] at hc
        rcases hc with rfl | rfl | ⟨t, ht, rfl⟩
        · omega
        · omega
        · have := HRL.out t ht; omega
      have TW3 := Lib.hid (TabW.push (u := ((gc, cc, cs.take (mm + 1)), (gb, cb, T))) ((TW.out.alloc _).alloc _) ((hTD.alloc _).alloc _) hng hsep (by rw [HTL.out]) (by rw [hdt]; exact HOWN.out) HGR.out HGG.out)
      rw [htb] at TW3
      have HR3 := Lib.hid (rd_grown ((HR.out.alloc _).alloc _) HGR.out (fun k hk => by obtain rfl := Option.some.inj hk; omega))
      have HO3 := Lib.hid (Only.grown ((HO.out.alloc _).alloc _) HGR.out (fun k hk => by obtain rfl := Option.some.inj hk; omega))
      exact ⟨⟨K - 1, g3, c3, _, ts ++ [(cs.take (mm + 1), ls)], _, by go_num, by omega, by omega, by simp [HTL.out]; omega, by simp [HTL.out]; omega, by simp [HTL.out], by simp [HTL.out]; omega, TW3, TF.out.app ⟨by simp only; omega, by simp only; omega, HNK.out.take _, HBS.out, HBF.out⟩, CU.out.app HBC.out, HR3, HO3⟩, by simp [intOf]; omega⟩
    · clear htl
      have hUL : 0 < U.length := by have := TW.out.len; have := HTL.out; omega
      have hT0 : 0 < ts.length := by have := HTL.out; omega
      go_wp2_with ((go_at_call 25; (with_reducible refine (oddA B r n q _ (by repeat (with_reducible first | exact HR.out | apply RdOk.alloc | apply RdOk.drew | (refine RdOk.setFar ?_ (by first | omega | (simp; done) | (simp; omega)) _))) (by omega) hn9).mono ?_); rintro e w1 ⟨v, q1, rfl, hq1, hv0, ho, hr⟩; have HOn := Lib.hid (Only.trans (by repeat (with_reducible first | exact HO.out | apply Only.alloc | apply Only.drew | (refine Only.setNew ?_ (by first | omega | (simp; done) | (simp; omega)) _))) ho); have K0 := Lib.hid (by first | exact TW.out.only (by omega) ho | exact (TW.out.alloc _).only (by omega) ho | exact (TW.out.drew).only (by omega) ho); clear TW; have TW := K0; clear K0; clear HO HR; have HO := HOn; have HR := Lib.hid hr; clear HOn hr; skip; clear ho))
      · have hnn : n ≠ 0 := fun e => by have := hv0 e; simp_all
        go_upto_region 12 with ((go_at_call 26; (with_reducible refine (pick B r 3 q1 _ (by repeat (with_reducible first | exact HR.out | apply RdOk.alloc | apply RdOk.drew | (refine RdOk.setFar ?_ (by first | omega | (simp; done) | (simp; omega)) _))) (by omega)).mono ?_); rintro e w1 ⟨m3, rfl, h30, h31, h32, ho, hr⟩; have HOn := Lib.hid (Only.trans (by repeat (with_reducible first | exact HO.out | apply Only.alloc | apply Only.drew | (refine Only.setNew ?_ (by first | omega | (simp; done) | (simp; omega)) _))) ho); have K0 := Lib.hid (by first | exact TW.out.only (by omega) ho | exact (TW.out.alloc _).only (by omega) ho | exact (TW.out.drew).only (by omega) ho); clear TW; have TW := K0; clear K0; clear HO HR; have HO := HOn; have HR := Lib.hid hr; clear HOn hr; have h31 := h31 (by omega); clear h32; clear ho))
        obtain ⟨u0, hu0⟩ : ∃ u, U[0] = u := ⟨_, rfl⟩
        obtain ⟨⟨gc, cc, cs0⟩, gb, cb, T0⟩ := u0
        have HU := Lib.hid hu0
        have HT0 := Lib.hid hT0
        have HTS := Lib.hid (head_eq TW.out hUL hT0 hu0)
        have hfit := TF.out _ (List.getElem_mem hT0)
        rw [HTS.out] at hfit
        have hc3 : cs0.length ≤ 3 := hfit.2.1
        have hr6 : T0.length ≤ 6 := by have := hfit.2.2.2.1.1; simpa using this
        have HSM := Lib.hid hfit.2.2.2.1
        have hgl := TW.out.lo
        have hwz := HO.out.size
        have htl1 : 0 < (tl : Int) := by have := HTL.out; omega
        have hu1 : (1 : Nat) ≤ tl := by have := HTL.out; omega
        obtain ⟨⟨e0, e1, f0, f1⟩, ⟨oc, ob⟩, ⟨hcB, hch, hcn⟩, hbB, hbh, hbn⟩ := TW.out.head hUL hu0
        have OC := Lib.hid oc
        have OB := Lib.hid ob
        clear hu0 oc ob hfit
        obtain h | h | h : m3 = 0 ∨ m3 = 1 ∨ m3 = 2 := by omega
        · subst h
          go_wp2_with ((at_builtin; refine wpList_append_block _ rfl (.tmp 53) (.tmp 57) 23 rfl w.heap.size 67 i0 (.agg #[.slice none 0 0, .slice none 0 0]) 2 48 Tryz.underlying23 hi iz0 iz1 iz2 rfl (by decide) g1 tl c1 (U.flatMap hdT) rfl (by have h := TW.out.own; rw [HTL.out] at h; exact h.alloc _) _ 3 3 [.slice none 0 0, .slice none 0 0, .slice none 0 0, .slice none 0 0, .slice none 0 0, .slice none 0 0] rfl rfl (news_new (by first | rfl | simp)) (by simp [Value.oneCell']) (by unfold maxLen; omega) (by omega) (by first | omega | (simp; omega)) ?_; intro g3 c3 w3 hown hgr3 hgg; have HOWN := Lib.hid hown; have HGR := Lib.hid hgr3; clear hown hgr3 hgg))
          go_ret
          have hcap := own_caps HOWN.out
          exact ⟨g3, c3, ts ++ [([], []), ([], []), ([], [])], _, by simp [HTL.out], (TW.out.alloc _).more3 (by rw [HTL.out]) HOWN.out HGR.out, okT_app (TF.out.ok (by have := HTL.out; omega)) (by intro t ht; simp at ht; subst ht; exact ⟨by simp, by simp, by simp⟩) (by have := HTL.out; simp; omega), by simp, by have := HTL.out; simp; omega, by simpa [HTL.out] using hcap, by omega, Only.grown (HO.out.alloc _) HGR.out (fun k hk => by obtain rfl := Option.some.inj hk; omega), rd_grown (HR.out.alloc _) HGR.out (fun k hk => by obtain rfl := Option.some.inj hk; omega), fun e => absurd e hnn⟩
        · subst h
          go_wp2_with ((at_builtin; refine wpList_append_block _ rfl (.tmp 65) (.tmp 68) 27 rfl w.heap.size 50 y0 (.slice none 0 0) 1 24 Tryz.underlying27 hy yz0 yz1 yz2 rfl (by decide) gb T0.length cb (T0.map hdr) rfl ((OB.out.alloc _).alloc _) _ 1 1 [.slice (some ⟨w1.heap.size, 0, none⟩) 1 1] rfl rfl (news_new (by first | rfl | simp)) (by simp [Value.oneCell']) (by unfold maxLen; omega) (by omega) (by first | omega | (simp; omega)) ?_; intro g3 c3 w3 hown hgr3 hgg; have e3 := hgr3.cell (a := ⟨g1, 1, none⟩) (((TW.out.alloc _).alloc _).head hUL HU.out).1.2.1 (fun e => hbn (Option.some.inj e).symm); have f3 := (World.frozen?_of_block (a := ⟨g1, 1, none⟩) (hgr3.block g1 (by simp; omega) (fun e => hbn (Option.some.inj e).symm))).trans (((TW.out.alloc _).alloc _).head hUL HU.out).1.2.2.2; have HOWN := Lib.hid hown; have HGR := Lib.hid hgr3; have HGG := Lib.hid hgg; clear hown hgr3 hgg))
          go_ret
          have hcap := TW.out.caps
          rw [HTL.out] at hcap
          exact ⟨g1, c1, ts.set 0 (cs0, (T0.map fun t => t.2.2) ++ [[(9, 0, ⟨#[]⟩)]]), _, by simp [HTL.out], ((TW.out.alloc _).alloc _).rowMore2 (t := (w1.heap.size, 1, [(9, 0, ⟨#[]⟩)])) hUL hT0 HU.out (RowF.alloc (nine_row hwz _) _) (by simp only; omega) (by simp only; omega) rfl HOWN.out HGR.out HGG.out, okT_set (TF.out.ok (by have := HTL.out; omega)) ⟨by simp only; omega, ok2_snoc HSM.out.ok (by simp; omega) ⟨by simp, (show Texts [(9, 0, ⟨#[]⟩)] from fun v hv => by simp at hv; subst hv; exact Nat.zero_le _).short⟩⟩, by rw [List.length_set, HTL.out]; omega, by rw [List.length_set, HTL.out]; omega, by rw [List.length_set, HTL.out]; exact hcap, by omega, (Only.grown ((HO.out.alloc _).alloc _) HGR.out (fun k hk => by obtain rfl := Option.some.inj hk; omega)).setNew (by simp only; omega) _, (rd_grown ((HR.out.alloc _).alloc _) HGR.out (fun k hk => by obtain rfl := Option.some.inj hk; omega)).setFar (show r < g1 by omega) _, fun e => absurd e hnn⟩
        · subst h
          go_wp2_with ((at_builtin; refine wpList_append_block _ rfl (.tmp 45) (.tmp 47) 46 rfl w.heap.size 79 x0 (.agg #[.int .i64 0, .bool false]) 2 16 Tryz.underlying46 hx xz0 xz1 xz2 rfl (by decide) gc cs0.length cc (flatC cs0) rfl (OC.out.alloc _) _ 1 1 (flatC [(1, false)]) rfl rfl (news_new (by first | rfl | simp)) (by simp [flatC, Value.oneCell']) (by unfold maxLen; omega) (by omega) (by first | omega | (simp; omega)) ?_; intro g3 c3 w3 hown hgr3 hgg; have e3 := hgr3.cell (a := ⟨g1, 0, none⟩) ((TW.out.alloc _).head hUL HU.out).1.1 (fun e => hcn (Option.some.inj e).symm); have f3 := (World.frozen?_of_block (a := ⟨g1, 0, none⟩) (hgr3.block g1 (by simp; omega) (fun e => hcn (Option.some.inj e).symm))).trans ((TW.out.alloc _).head hUL HU.out).1.2.2.1; have HOWN := Lib.hid hown; have HGR := Lib.hid hgr3; have HGG := Lib.hid hgg; clear hown hgr3 hgg))
          go_ret
          have hcap := TW.out.caps
          rw [HTL.out] at hcap
          exact ⟨g1, c1, ts.set 0 (cs0 ++ [(1, false)], T0.map fun t => t.2.2), _, by simp [HTL.out], (TW.out.alloc _).colMore2 hUL hT0 HU.out rfl HOWN.out HGR.out HGG.out, okT_set (TF.out.ok (by have := HTL.out; omega)) ⟨by simp; omega, HSM.out.ok⟩, by rw [List.length_set, HTL.out]; omega, by rw [List.length_set, HTL.out]; omega, by rw [List.length_set, HTL.out]; exact hcap, by omega, (Only.grown (HO.out.alloc _) HGR.out (fun k hk => by obtain rfl := Option.some.inj hk; omega)).setNew (by simp only; omega) _, (rd_grown (HR.out.alloc _) HGR.out (fun k hk => by obtain rfl := Option.some.inj hk; omega)).setFar (show r < g1 by omega) _, fun e => absurd e hnn⟩
      · go_ret
        exact ⟨g1, c1, ts, q1, by rw [HTL.out]; rfl, TW.out.tbs, TF.out.ok (by have := HTL.out; omega), by have := HTL.out; omega, by have := HTL.out; omega, TW.out.caps, by omega, HO.out, HR.out, fun _ => ⟨by have := HTL.out; omega, TF.out, U, TW.out, CU.out⟩⟩
theorem l20TablesG (B r : Nat) (p : Int) (w : World) (h : RdOk B r w p) (hp : p ≤ 40000000) : Calls Tryz.prog 23 #[.pointer (some ⟨r, 0, none⟩), .int .i64 0] w (DrewTG B r p w) := by
  refine (l20TablesA 0 (Int.le_refl _) (by decide) B r p w h hp).mono ?_
  rintro e w' ⟨g, cap, ts, q, rfl, -, -, h1, -, -, hq, ho, hr, hx⟩
  obtain ⟨h3, hf, U, ht, hc⟩ := hx rfl
  exact ⟨g, cap, U, ts, q, rfl, ht, h1, h3, hf, hc, hq, ho, hr⟩
end Go.Proofs.YtacinjbaebimhaaGreat.Val
namespace Go.Proofs.YtacinjbaebimhaaGreat.Val
open Go.RowKit
set_option linter.unusedSimpArgs false
set_option linter.unusedVariables false
theorem flatU_set (U : List UT) (k : Nat) (u : UT) (h : k < U.length) : (U.set k u).flatMap hdT = ((U.flatMap hdT).set (k * 2) (hdC u)).set (k * 2 + 1) (hdR u) := by
  induction U generalizing k with
  | nil => simp at h
  | cons v U ih =>
    cases k with
    | zero => rfl
    | succ k =>
      have := ih k (by simpa using h)
      rw [List.set_cons_succ, List.flatMap_cons, this, List.flatMap_cons, show (k + 1) * 2 = k * 2 + 2 by omega]
      rfl
/-- The columns of table k are cut. -/
theorem TabW.cutC {w : World} {B g cap k m : Nat} {U : List UT} {ts : List TB} (h : TabW w B g cap U ts) (hk : k < U.length) (hm : m ≤ U[k].1.2.2.length) :
    TabW (w.setCell ⟨g, k * 2, none⟩ (.slice (some ⟨U[k].1.1, 0, none⟩) m U[k].1.2.1)) B g cap (U.set k ((U[k].1.1, U[k].1.2.1, U[k].1.2.2.take m), U[k].2)) (ts.set k ((U[k].1.2.2.take m), rowsU U[k])) := by
  have hu := h.tabs U[k] (List.getElem_mem hk)
  have hbk : ∀ v ∈ U.set k ((U[k].1.1, U[k].1.2.1, U[k].1.2.2.take m), U[k].2), ∃ v0 ∈ U, blkU v = blkU v0 := by
    intro v hv
    rcases List.mem_or_eq_of_mem_set hv with hv | rfl
    · exact ⟨v, hv, rfl⟩
    · exact ⟨U[k], List.getElem_mem hk, rfl⟩
  refine ⟨by rw [List.map_set, h.eq]; rfl, ?_, fun v hv => ?_, fun v hv => ?_, ?_⟩
  · rw [List.length_set, flatU_set U k _ hk]
    have e1 : hdC ((U[k].1.1, U[k].1.2.1, U[k].1.2.2.take m), U[k].2) = .slice (some ⟨U[k].1.1, 0, none⟩) m U[k].1.2.1 := by simp [hdC, hdF, Nat.min_eq_left hm]
    have e2 : hdR ((U[k].1.1, U[k].1.2.1, U[k].1.2.2.take m), U[k].2) = hdR U[k] := rfl
    have e3 : ((U.flatMap hdT).set (k * 2) (hdC ((U[k].1.1, U[k].1.2.1, U[k].1.2.2.take m), U[k].2))).set (k * 2 + 1) (hdR U[k]) = (U.flatMap hdT).set (k * 2) (hdC ((U[k].1.1, U[k].1.2.1, U[k].1.2.2.take m), U[k].2)) := by
      apply List.ext_getElem?
      intro i
      rw [List.getElem?_set]
      split
      · rename_i hi
        subst hi
        have hl : k * 2 + 1 < (U.flatMap hdT).length := by rw [flatU_len]; omega
        rw [List.getElem?_set_ne (by omega), (flatU_get U k hk).2, if_pos (by simpa using hl)]
      · rfl
    rw [e2, e3, e1]
    exact (h.own.stored _ _).1
  · have hv0 : TabD w B v := by
      rcases List.mem_or_eq_of_mem_set hv with hv | rfl
      · exact h.tabs v hv
      · exact ⟨own_cols hu.own, hu.sp, hu.sr, hu.bag⟩
    refine hv0.keep (by simp [World.setCell]) fun b hb => far_set ?_
    obtain ⟨v0, h0, e0⟩ := hbk v hv
    intro e
    exact h.ng v0 h0 (by rw [← e0, ← e]; exact hb)
  · obtain ⟨v0, h0, e0⟩ := hbk v hv
    rw [e0]; exact h.ng v0 h0
  · have hs := h.sep
    rw [List.pairwise_iff_getElem] at hs ⊢
    intro i j hi hj hij
    rw [List.length_set] at hi hj
    have e : ∀ (x : Nat) (hx : x < U.length), blkU ((U.set k ((U[k].1.1, U[k].1.2.1, U[k].1.2.2.take m), U[k].2))[x]'(by rw [List.length_set]; exact hx)) = blkU U[x] := by
      intro x hx
      rw [List.getElem_set]
      split
      · rename_i hkx; subst hkx; rfl
      · rfl
    rw [e i hi, e j hj]
    exact hs i j hi hj hij
theorem cut_vals {w : World} {g : Nat} {vs : List VT} (m : Nat) (h : Fl w g 0 (some ⟨g, 0, none⟩) (flatV vs)) : Fl w g 0 (some ⟨g, 0, none⟩) (flatV (vs.take m)) := by
  have e := flatV_take vs m
  refine ⟨fun _ => rfl, fun j hj => ?_⟩
  rw [h.c j (by have := e.length_le; omega)]
  exact congrArg some (e.getElem hj).symm
/-- A row of a list is cut. -/
theorem BagW.cut {w : World} {B g cap j m : Nat} {T : List TT} {ls : List RT} (h : BagW w B g cap T ls) (hj : j < T.length) (hm : m ≤ T[j].2.2.length) :
    BagW (w.setCell ⟨g, j, none⟩ (.slice (some ⟨T[j].1, 0, none⟩) m T[j].2.1)) B g cap (T.set j (T[j].1, T[j].2.1, T[j].2.2.take m)) (ls.set j (T[j].2.2.take m)) := by
  have hu := h.rows T[j] (List.getElem_mem hj)
  refine ⟨by rw [List.map_set, h.eq], ?_, fun t ht => ?_, fun t ht => ?_⟩
  · rw [List.length_set, List.map_set]
    have e1 : hdr (T[j].1, T[j].2.1, T[j].2.2.take m) = .slice (some ⟨T[j].1, 0, none⟩) m T[j].2.1 := by simp [hdr, Nat.min_eq_left hm]
    rw [e1]
    exact (h.own.stored _ _).1
  · have ht0 : RowF w B t ∧ t.1 ≠ g := by
      rcases List.mem_or_eq_of_mem_set ht with ht | rfl
      · exact ⟨h.rows t ht, h.ng t ht⟩
      · exact ⟨⟨cut_vals _ hu.fl, hu.lo, hu.hi⟩, h.ng T[j] (List.getElem_mem hj)⟩
    exact ht0.1.keep (by simp [World.setCell]) (far_set ht0.2)
  · rcases List.mem_or_eq_of_mem_set ht with ht | rfl
    · exact h.ng t ht
    · exact h.ng T[j] (List.getElem_mem hj)
/-- A row of table k is cut. -/
theorem TabW.cutR {w : World} {B g cap k j m : Nat} {U : List UT} {ts : List TB} (h : TabW w B g cap U ts) (hk : k < U.length) (hj : j < U[k].2.2.2.length) (hm : m ≤ (U[k].2.2.2[j]).2.2.length) :
    TabW (w.setCell ⟨U[k].2.1, j, none⟩ (.slice (some ⟨(U[k].2.2.2[j]).1, 0, none⟩) m (U[k].2.2.2[j]).2.1)) B g cap (U.set k (U[k].1, U[k].2.1, U[k].2.2.1, U[k].2.2.2.set j ((U[k].2.2.2[j]).1, (U[k].2.2.2[j]).2.1, (U[k].2.2.2[j]).2.2.take m))) (ts.set k (U[k].1.2.2, (rowsU U[k]).set j ((U[k].2.2.2[j]).2.2.take m))) := by
  have hu := h.tabs U[k] (List.getElem_mem hk)
  have hgb : U[k].2.1 ∈ blkU U[k] := by simp [blkU]
  have hrow : rowsU (U[k].1, U[k].2.1, U[k].2.2.1, U[k].2.2.2.set j ((U[k].2.2.2[j]).1, (U[k].2.2.2[j]).2.1, (U[k].2.2.2[j]).2.2.take m)) = (rowsU U[k]).set j ((U[k].2.2.2[j]).2.2.take m) := by
    simp only [rowsU, List.map_set]
  have hbl : blkU (U[k].1, U[k].2.1, U[k].2.2.1, U[k].2.2.2.set j ((U[k].2.2.2[j]).1, (U[k].2.2.2[j]).2.1, (U[k].2.2.2[j]).2.2.take m)) = blkU U[k] := by
    have e : ∀ (L : List Nat) (i : Nat) (hi : i < L.length), L.set i L[i] = L := fun L i hi => List.set_getElem_self hi
    have := e (U[k].2.2.2.map fun t => t.1) j (by simpa using hj)
    simp only [List.getElem_map] at this
    simp only [blkU, List.map_set]
    rw [this]
  have hne : ∀ (x : Nat) (hx : x < U.length), x ≠ k → ∀ b ∈ blkU U[x], b ≠ U[k].2.1 := by
    intro x hx hxk b hb e
    have hs := h.sep
    rw [List.pairwise_iff_getElem] at hs
    subst e
    rcases Nat.lt_or_gt_of_ne hxk with hl | hl
    · exact Nat.lt_irrefl _ (hs x k hx hk hl _ hb _ hgb)
    · exact Nat.lt_irrefl _ (hs k x hk hx hl _ hgb _ hb)
  refine ⟨?_, ?_, fun v hv => ?_, fun v hv => ?_, ?_⟩
  · rw [List.map_set, h.eq]
    congr 1
    rw [tbOf, hrow]
  · rw [List.length_set]
    have e : (U.set k (U[k].1, U[k].2.1, U[k].2.2.1, U[k].2.2.2.set j ((U[k].2.2.2[j]).1, (U[k].2.2.2[j]).2.1, (U[k].2.2.2[j]).2.2.take m))).flatMap hdT = U.flatMap hdT := by
      rw [flatU_set U k _ hk]
      have e1 : hdC (U[k].1, U[k].2.1, U[k].2.2.1, U[k].2.2.2.set j ((U[k].2.2.2[j]).1, (U[k].2.2.2[j]).2.1, (U[k].2.2.2[j]).2.2.take m)) = hdC U[k] := rfl
      have e2 : hdR (U[k].1, U[k].2.1, U[k].2.2.1, U[k].2.2.2.set j ((U[k].2.2.2[j]).1, (U[k].2.2.2[j]).2.1, (U[k].2.2.2[j]).2.2.take m)) = hdR U[k] := by simp [hdR, hdF]
      rw [e1, e2]
      obtain ⟨g0, g1⟩ := flatU_get U k hk
      have hl : k * 2 + 1 < (U.flatMap hdT).length := by rw [flatU_len]; omega
      have s0 : (U.flatMap hdT).set (k * 2) (hdC U[k]) = U.flatMap hdT := by
        rw [List.getElem?_eq_getElem (by omega)] at g0
        rw [← Option.some.inj g0]; exact List.set_getElem_self _
      rw [s0]
      rw [List.getElem?_eq_getElem hl] at g1
      rw [← Option.some.inj g1]; exact List.set_getElem_self _
    rw [e]
    exact own_keep h.own (far_set (fun e => h.ng U[k] (List.getElem_mem hk) (by rw [e]; exact hgb)))
  · obtain ⟨x, hx, rfl⟩ := List.mem_iff_getElem.1 hv
    rw [List.length_set] at hx
    rw [List.getElem_set]
    split
    · refine ⟨own_keep hu.own (far_set hu.sp), hu.sp, fun t ht => ?_, ?_⟩
      · rcases List.mem_or_eq_of_mem_set ht with ht | rfl
        · exact hu.sr t ht
        · exact hu.sr U[k].2.2.2[j] (List.getElem_mem hj)
      rw [hrow]
      exact hu.bag.cut hj hm
    · rename_i hxk
      exact (h.tabs U[x] (List.getElem_mem hx)).keep (by simp [World.setCell]) fun b hb => far_set (hne x hx (fun e => hxk e.symm) b hb)
  · rcases List.mem_or_eq_of_mem_set hv with hv | rfl
    · exact h.ng v hv
    · rw [hbl]; exact h.ng U[k] (List.getElem_mem hk)
  · have hs := h.sep
    rw [List.pairwise_iff_getElem] at hs ⊢
    intro i j2 hi hj2 hij
    rw [List.length_set] at hi hj2
    have e : ∀ (x : Nat) (hx : x < U.length), blkU ((U.set k (U[k].1, U[k].2.1, U[k].2.2.1, U[k].2.2.2.set j ((U[k].2.2.2[j]).1, (U[k].2.2.2[j]).2.1, (U[k].2.2.2[j]).2.2.take m)))[x]'(by rw [List.length_set]; exact hx)) = blkU U[x] := by
      intro x hx
      rw [List.getElem_set]
      split
      · rename_i hkx; subst hkx; exact hbl
      · rfl
    rw [e i hi, e j2 hj2]
    exact hs i j2 hi hj2 hij
end Go.Proofs.YtacinjbaebimhaaGreat.Val
namespace Go.Proofs.YtacinjbaebimhaaGreat.Val
open Go.RowKit
set_option linter.unusedSimpArgs false
set_option linter.unusedVariables false
set_option maxRecDepth 20000
/-- A table of one column. -/
def OneT (t : TB) : Prop := t.1.length = 1 ∧ KindsC t.1 ∧ Small t.2 ∧ FitsAll t.1 t.2
/-- A table under way: its columns are cut, its first j rows are. -/
def MidT (cs0 : List CT) (t : TB) (j : Nat) : Prop := t.1 = cs0.take 1 ∧ 0 < cs0.length ∧ KindsC cs0 ∧ Small t.2 ∧ ∀ y (h : y < t.2.length), (y < j → t.2[y].length = 1 ∧ FitsUp t.1 t.2[y]) ∧ (j ≤ y → t.2[y].length = cs0.length ∧ FitsUp cs0 t.2[y])
theorem FitsUp.cut {cs : List CT} {vs : List VT} (h : FitsUp cs vs) (h0 : 0 < cs.length) (hl : vs.length = cs.length) : (vs.take 1).length = 1 ∧ FitsUp (cs.take 1) (vs.take 1) := by
  refine ⟨by rw [List.length_take]; omega, by rw [List.length_take, List.length_take]; omega, fun i hi hi2 => ?_⟩
  rw [List.getElem_take, List.getElem_take]
  exact h.2 i (by rw [List.length_take] at hi; omega) (by rw [List.length_take] at hi2; omega)
theorem MidT.start {t : TB} (h : TabFit t) : MidT t.1 (t.1.take 1, t.2) 0 :=
  ⟨rfl, h.1, h.2.2.1, h.2.2.2.1, fun y hy => ⟨fun h0 => absurd h0 (by omega), fun _ => h.2.2.2.2 _ (List.getElem_mem _)⟩⟩
theorem MidT.step {cs0 : List CT} {t : TB} {j : Nat} (h : MidT cs0 t j) (hj : j < t.2.length) : MidT cs0 (t.1, t.2.set j (t.2[j].take 1)) (j + 1) := by
  obtain ⟨h1, h2, h3, h4, h5⟩ := h
  obtain ⟨hl, hf⟩ := (h5 j hj).2 (Nat.le_refl _)
  have hc := hf.cut h2 hl
  refine ⟨h1, h2, h3, ⟨by simpa using h4.1, fun x hx => ?_⟩, fun y hy => ?_⟩
  · rcases List.mem_or_eq_of_mem_set hx with hx | rfl
    · exact h4.2 x hx
    · exact ⟨by rw [hc.1]; omega, (h4.2 _ (List.getElem_mem hj)).2.take 1⟩
  · have hy2 : y < t.2.length := by simpa using hy
    simp only [List.getElem_set]
    split
    · rename_i e
      subst e
      exact ⟨fun _ => by rw [h1]; exact hc, fun h => absurd h (by omega)⟩
    · exact ⟨fun h => (h5 y hy2).1 (by omega), fun h => (h5 y hy2).2 (by omega)⟩
theorem MidT.done {cs0 : List CT} {t : TB} {j : Nat} (h : MidT cs0 t j) (hj : t.2.length ≤ j) : OneT t := by
  obtain ⟨h1, h2, h3, h4, h5⟩ := h
  have hl : t.1.length = 1 := by rw [h1, List.length_take]; omega
  refine ⟨hl, by rw [h1]; exact h3.take 1, h4, fun x hx => ?_⟩
  obtain ⟨y, hy, rfl⟩ := List.mem_iff_getElem.1 hx
  rw [hl]
  exact (h5 y hy).1 (by omega)
def BegP (ts : List TB) (k : Nat) : Prop := ∀ x (h : x < ts.length), (x < k → OneT ts[x]) ∧ (k ≤ x → TabFit ts[x])
theorem BegP.set {ts : List TB} {k : Nat} {t : TB} (h : BegP ts k) (ht : OneT t) : BegP (ts.set k t) (k + 1) := by
  intro x hx
  have hx2 : x < ts.length := by simpa using hx
  rw [List.getElem_set]
  split
  · exact ⟨fun _ => ht, fun h => absurd h (by omega)⟩
  · exact ⟨fun h1 => (h x hx2).1 (by omega), fun h1 => (h x hx2).2 (by omega)⟩
theorem RdOk.set {B r g o : Nat} {w : World} {p : Int} {v : Value} (h : RdOk B r w p) (hg : r < g) : RdOk B r (w.setCell ⟨g, o, none⟩ v) p :=
  h.keep (by simp [World.setCell]) fun k hk => Below.heap_setCell w ⟨g, o, none⟩ v k (by have := h.ge; show k ≠ g; omega)
theorem CapT.set {T : List TT} {j : Nat} (h : CapT T) (hj : j < T.length) : CapT (T.set j (T[j].1, T[j].2.1, T[j].2.2.take 1)) := fun t ht => by
  rcases List.mem_or_eq_of_mem_set ht with ht | rfl
  · exact h t ht
  · have := h T[j] (List.getElem_mem hj)
    simp only [List.length_take]; omega
theorem CapU.set {U : List UT} {k : Nat} {u : UT} (h : CapU U) (hu : CapT u.2.2.2) : CapU (U.set k u) := fun v hv => by
  rcases List.mem_or_eq_of_mem_set hv with hv | rfl
  · exact h v hv
  · exact hu
/-- What the outer loop of DrawBeginnings keeps. -/
def BegR (w : World) (B r g c n k : Nat) (q : Int) (wr : World) : Prop := ∃ (U : List UT) (ts : List TB), ts.length = n ∧ BegP ts k ∧ CapU U ∧ TabW wr B g c U ts ∧ RdOk w.heap.size r wr q ∧ Below w.heap.size w wr
/-- What the inner one keeps: rows up to j are cut. -/
def MidR (w : World) (B r g c n k L : Nat) (cs0 : List CT) (gc cc gb cb : Nat) (U : List UT) (ts : List TB) (q : Int) (j : Nat) (wr : World) : Prop := ∃ (T : List TT), T.length = L ∧ CapT T ∧ MidT cs0 (cs0.take 1, T.map fun t => t.2.2) j ∧ TabW wr B g c (U.set k ((gc, cc, cs0.take 1), (gb, cb, T))) (ts.set k (cs0.take 1, T.map fun t => t.2.2)) ∧ RdOk w.heap.size r wr q ∧ Below w.heap.size w wr
theorem MidR.next {w wr : World} {B r g c n k L : Nat} {cs0 : List CT} {gc cc gb cb : Nat} {U : List UT} {ts : List TB} {q : Int} {j : Nat} (h : MidR w B r g c n k L cs0 gc cc gb cb U ts q j wr) (hk : k < U.length) (hj : j < L) (hr : r < B) (hw : w.heap.size ≤ r) :
    ∃ (gr cr vl : Nat), wr.cell? ⟨gb, j, none⟩ = some (.slice (some ⟨gr, 0, none⟩) vl cr) ∧ wr.frozen? ⟨gb, j, none⟩ = false ∧ 1 ≤ cr ∧ wr.cell? ⟨g, k * 2 + 1, none⟩ = some (.slice (some ⟨gb, 0, none⟩) L cb) ∧ MidR w B r g c n k L cs0 gc cc gb cb U ts q (j + 1) (wr.setCell ⟨gb, j, none⟩ (.slice (some ⟨gr, 0, none⟩) 1 cr)) := by
  obtain ⟨T, hL, hc, hm, htw, hrd, hb⟩ := h
  have hkU : k < (U.set k ((gc, cc, cs0.take 1), (gb, cb, T))).length := by rw [List.length_set]; exact hk
  have hu : (U.set k ((gc, cc, cs0.take 1), (gb, cb, T)))[k] = ((gc, cc, cs0.take 1), (gb, cb, T)) := List.getElem_set_self _
  have htd := htw.tabs _ (List.getElem_mem hkU)
  rw [hu] at htd
  have hjT : j < T.length := by omega
  have hbag := htd.bag
  have hlen : ((T.map fun t => t.2.2) : List RT).length = L := by rw [List.length_map]; exact hL
  have hmj := (hm.2.2.2.2 j (by simp only; omega)).2 (Nat.le_refl _)
  simp only [List.getElem_map] at hmj
  have h1 : 1 ≤ T[j].2.2.length := by have := hm.2.1; omega
  have hcr := hc T[j] (List.getElem_mem hjT)
  refine ⟨T[j].1, T[j].2.1, T[j].2.2.length, ?_, hbag.own.frozenAt j, by omega, ?_, ?_⟩
  · rw [hbag.own.cellAt _ (by simp [rowsU]; omega)]
    simp [hdr, hjT]
  · have e1 := (flatU_get _ k hkU).2
    rw [hu] at e1
    rw [htw.own.cellAt _ (by have := htw.len; simp only [List.length_set] at this ⊢; omega), e1]
    simp [hdR, hdF, hL]
  · have hcut := htw.cutR (k := k) (j := j) (m := 1) hkU (by simp only [hu]; exact hjT) (by simp only [hu]; exact h1)
    simp only [hu, List.set_set, rowsU] at hcut
    refine ⟨T.set j (T[j].1, T[j].2.1, T[j].2.2.take 1), by simpa using hL, hc.set hjT, ?_, ?_, ?_, ?_⟩
    · have := hm.step (j := j) (by simp only; omega)
      simpa [List.map_set] using this
    · simpa [List.map_set] using hcut
    · exact hrd.set (by have h0 := htd.bag.lo; simp only at h0; omega)
    · exact hb.setCell (by have h0 := htd.bag.lo; simp only at h0; show w.heap.size ≤ gb; omega) _
theorem MidR.done {w wr : World} {B r g c n k L : Nat} {cs0 : List CT} {gc cc gb cb : Nat} {U : List UT} {ts : List TB} {q : Int} {j : Nat} (h : MidR w B r g c n k L cs0 gc cc gb cb U ts q j wr) (hj : L ≤ j) (hn : ts.length = n) (hp : BegP ts k) (hc : CapU U) : BegR w B r g c n (k + 1) q wr := by
  obtain ⟨T, hL, hcT, hm, htw, hrd, hb⟩ := h
  exact ⟨_, _, by simpa using hn, hp.set (hm.done (by simp only [List.length_map]; omega)), hc.set hcT, htw, hrd, hb⟩
theorem BegR.next {w wr : World} {B r g c n k : Nat} {q : Int} (h : BegR w B r g c n k q wr) (hk : k < n) (hr : r < B) (hw : w.heap.size ≤ r) :
    ∃ (U : List UT) (ts : List TB) (cs0 : List CT) (gc cc gb cb cl L : Nat), wr.cell? ⟨g, k * 2, none⟩ = some (.slice (some ⟨gc, 0, none⟩) cl cc) ∧ wr.frozen? ⟨g, k * 2, none⟩ = false ∧ 1 ≤ cc ∧ k < U.length ∧ L ≤ 6 ∧ ts.length = n ∧ BegP ts k ∧ CapU U ∧ MidR w B r g c n k L cs0 gc cc gb cb U ts q 0 (wr.setCell ⟨g, k * 2, none⟩ (.slice (some ⟨gc, 0, none⟩) 1 cc)) := by
  obtain ⟨U, ts, hn, hp, hc, htw, hrd, hb⟩ := h
  have hlen := htw.len
  have hkU : k < U.length := by omega
  have hkT : k < ts.length := by omega
  have htd := htw.tabs _ (List.getElem_mem hkU)
  have hcu := hc _ (List.getElem_mem hkU)
  have hts : ts[k] = tbOf U[k] := by have := htw.eq; subst this; simp
  have hfit := (hp k hkT).2 (Nat.le_refl _)
  rw [hts] at hfit
  have h1 : 1 ≤ U[k].1.2.2.length := hfit.1
  have e0 := (flatU_get U k hkU).1
  have hcut := htw.cutC (k := k) (m := 1) hkU h1
  refine ⟨U, ts, U[k].1.2.2, U[k].1.1, U[k].1.2.1, U[k].2.1, U[k].2.2.1, U[k].1.2.2.length, U[k].2.2.2.length, ?_, htw.own.frozenAt _, by have := htd.cap; omega, hkU, ?_, hn, hp, hc, ?_⟩
  · rw [htw.own.cellAt _ (by omega), e0]; rfl
  · have := hfit.2.2.2.1.1; simpa [tbOf, rowsU] using this
  · refine ⟨U[k].2.2.2, rfl, hcu, MidT.start hfit, hcut, hrd.set (by have := htw.lo; omega), hb.setCell (by have := htw.lo; show w.heap.size ≤ g; omega) _⟩
theorem MidR.drew {w wr : World} {B r g c n k L : Nat} {cs0 : List CT} {gc cc gb cb : Nat} {U : List UT} {ts : List TB} {q : Int} {j : Nat} (h : MidR w B r g c n k L cs0 gc cc gb cb U ts q j wr) : MidR w B r g c n k L cs0 gc cc gb cb U ts q j wr.drew := by
  obtain ⟨T, hL, hc, hm, htw, hrd, hb⟩ := h
  exact ⟨T, hL, hc, hm, htw.drew, hrd.drew, hb.drew⟩
theorem MidR.hd {w wr : World} {B r g c n k L : Nat} {cs0 : List CT} {gc cc gb cb : Nat} {U : List UT} {ts : List TB} {q : Int} {j : Nat} (h : MidR w B r g c n k L cs0 gc cc gb cb U ts q j wr) (hk : k < U.length) : wr.cell? ⟨g, k * 2 + 1, none⟩ = some (.slice (some ⟨gb, 0, none⟩) L cb) := by
  obtain ⟨T, hL, hc, hm, htw, hrd, hb⟩ := h
  have hkU : k < (U.set k ((gc, cc, cs0.take 1), (gb, cb, T))).length := by rw [List.length_set]; exact hk
  have hu : (U.set k ((gc, cc, cs0.take 1), (gb, cb, T)))[k] = ((gc, cc, cs0.take 1), (gb, cb, T)) := List.getElem_set_self _
  have e1 := (flatU_get _ k hkU).2
  rw [hu] at e1
  rw [htw.own.cellAt _ (by have := htw.len; simp only [List.length_set] at this ⊢; omega), e1]
  simp [hdR, hdF, hL]
/-- What the draw keeps behind its loops: tables of one column each. -/
structure OneW (w : World) (B g c n : Nat) (U : List UT) (ts : List TB) (wr : World) : Prop where
  len : ts.length = n
  one : ∀ t ∈ ts, OneT t
  tab : TabW wr B g c U ts
theorem BegR.done {w wr : World} {B r g c n k : Nat} {q : Int} (h : BegR w B r g c n k q wr) (hk : n ≤ k) : ∃ (U : List UT) (ts : List TB), OneW w B g c n U ts wr ∧ RdOk w.heap.size r wr q ∧ Below w.heap.size w wr := by
  obtain ⟨U, ts, hn, hp, hc, htw, hrd, hb⟩ := h
  refine ⟨U, ts, ⟨hn, fun t ht => ?_, htw⟩, hrd, hb⟩
  obtain ⟨x, hx, rfl⟩ := List.mem_iff_getElem.1 ht
  exact (hp x hx).1 (by omega)
theorem OneW.only {w wr w' : World} {B g c n r : Nat} {U : List UT} {ts : List TB} (h : OneW w B g c n U ts wr) (hr : r < B) (ho : Only r wr w') : OneW w B g c n U ts w' := ⟨h.len, h.one, h.tab.only hr ho⟩
theorem OneW.alloc {w wr : World} {B g c n : Nat} {U : List UT} {ts : List TB} (h : OneW w B g c n U ts wr) (ob : Obj) : OneW w B g c n U ts (wr.alloc ob) := ⟨h.len, h.one, h.tab.alloc ob⟩
theorem OneW.below {w wr w' : World} {B g c n : Nat} {U : List UT} {ts : List TB} (h : OneW w B g c n U ts wr) (hb : Below wr.heap.size wr w') : OneW w B g c n U ts w' := ⟨h.len, h.one, h.tab.below hb⟩
theorem OneW.drew {w wr : World} {B g c n : Nat} {U : List UT} {ts : List TB} (h : OneW w B g c n U ts wr) : OneW w B g c n U ts wr.drew := ⟨h.len, h.one, h.tab.drew⟩
/-- The columns of table a. -/
theorem OneW.at {w wr : World} {B g c n : Nat} {U : List UT} {ts : List TB} (h : OneW w B g c n U ts wr) (a : Nat) (ha : a < n) : ∃ (ga ca : Nat) (x : CT), wr.cell? ⟨g, a * 2, none⟩ = some (.slice (some ⟨ga, 0, none⟩) 1 ca) ∧ Fl wr ga 0 (some ⟨ga, 0, none⟩) [.int .i64 x.1, .bool x.2] ∧ (∀ h : a < ts.length, ts[a].1 = [x]) ∧ ga < wr.heap.size := by
  have hlen := h.tab.len
  have hn := h.len
  have haU : a < U.length := by omega
  have haT : a < ts.length := by omega
  have htd := h.tab.tabs _ (List.getElem_mem haU)
  have hts : ts[a] = tbOf U[a] := by have := h.tab.eq; subst this; simp
  have h1 := (h.one _ (List.getElem_mem haT)).1
  obtain ⟨x, hx⟩ := List.length_eq_one_iff.1 h1
  have hx2 : U[a].1.2.2 = [x] := by have := hx; rw [hts] at this; exact this
  have e0 := (flatU_get U a haU).1
  refine ⟨U[a].1.1, U[a].1.2.1, x, ?_, ?_, fun _ => hx, htd.hi⟩
  · rw [h.tab.own.cellAt _ (by omega), e0]
    simp [hdC, hdF, hx2]
  · have := htd.col
    rw [hx2] at this
    exact this
end Go.Proofs.YtacinjbaebimhaaGreat.Val
namespace Go.Proofs.YtacinjbaebimhaaGreat.Val
open Go.RowKit
set_option linter.unusedSimpArgs false
set_option linter.unusedVariables false
set_option maxRecDepth 20000
end Go.Proofs.YtacinjbaebimhaaGreat.Val
