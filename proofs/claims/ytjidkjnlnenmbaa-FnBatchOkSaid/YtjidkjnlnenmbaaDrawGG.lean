/- What drawing columns, rows and lists of rows leaves where nothing odd is asked for. -/
import Derived.Test.YtjidkjnlnenmbaaDrawBg
import Derived.Test.YtjidkjnlnenmbaaRowF
import Derived.Test.YtjidkjnlnenmbaaDrawE
import Derived.BigRegion
namespace Go.Proofs.Ytjidkjnlnenmbaa.Val
open Go.RowKit
set_option linter.unusedSimpArgs false
set_option linter.unusedVariables false
set_option maxRecDepth 20000
theorem odd0 (B r : Nat) (p : Int) (w : World) (h : RdOk B r w p) : Calls Try.prog 117 #[.pointer (some ⟨r, 0, none⟩), .int .i64 0] w fun e w' => e = .returned (.bool false) ∧ Only r w w' ∧ RdOk B r w' p := by
  have H := Lib.hid h
  clear h
  go_enter Try.func117, Try.ntmps117
  go_wp2
  go_ret
  exact ⟨rfl, ⟨rfl, rfl, rfl, Nat.le_refl _, fun _ _ _ => rfl⟩, H.out⟩
theorem oddA (B r : Nat) (n p : Int) (w : World) (h : RdOk B r w p) (hp : p ≤ 1000000000) (hn : n ≤ 1000) : Calls Try.prog 117 #[.pointer (some ⟨r, 0, none⟩), .int .i64 n] w fun e w' => ∃ (v : Bool) (q : Int), e = .returned (.bool v) ∧ q ≤ p + 1 ∧ (n = 0 → v = false) ∧ Only r w w' ∧ RdOk B r w' q := by
  by_cases hn0 : n = 0
  · subst hn0
    refine (odd0 B r p w h).mono ?_
    rintro e w' ⟨rfl, ho, hr⟩
    exact ⟨false, p, rfl, by omega, fun _ => rfl, ho, hr⟩
  · refine (odd B r n p w h hp hn).mono ?_
    rintro e w' ⟨v, q, rfl, hq, ho, hr⟩
    exact ⟨v, q, rfl, hq, fun h => absurd h hn0, ho, hr⟩
def KindsC (cs : List CT) : Prop := ∀ c ∈ cs, c.1 = 1 ∨ c.1 = 2 ∨ c.1 = 3
theorem four_kind (m : Int) : four m = 1 ∨ four m = 2 ∨ four m = 3 := by unfold four; split <;> (try split) <;> simp
theorem KindsC.app {cs : List CT} (h : KindsC cs) (m : Int) (b : Bool) : KindsC (cs ++ [(four m, b)]) := fun c hc => by
  rcases List.mem_append.1 hc with hc | hc
  · exact h c hc
  · obtain rfl := List.mem_singleton.1 hc; exact four_kind m
/-- Columns were drawn that are columns. -/
def DrewCG (B r : Nat) (p : Int) (w : World) (e : Ending) (w' : World) : Prop := ∃ (cs : List CT) (g cap : Nat) (q : Int), e = .returned (.slice (some ⟨g, 0, none⟩) cs.length cap) ∧ 0 < cs.length ∧ cs.length ≤ 3 ∧ KindsC cs ∧ cs.length ≤ cap ∧ cap ≤ maxLen ∧ w.heap.size ≤ g ∧ Fl w' g 0 (some ⟨g, 0, none⟩) (flatC cs) ∧ w'.ownsRow w.heap.size 89 2 (.slice (some ⟨g, 0, none⟩) cs.length cap) cs.length (flatC cs) ∧ q ≤ p + 20 ∧ Only r w w' ∧ RdOk B r w' q
theorem drewCG_of {B r : Nat} {p q : Int} {w w' : World} {v : Value} {cs : List CT} (h : w'.ownsRow w.heap.size 89 2 v cs.length (flatC cs)) (h0 : 0 < cs.length) (hl : cs.length ≤ 3) (hk : KindsC cs) (hq : q ≤ p + 20) (ho : Only r w w') (hr : RdOk B r w' q) : DrewCG B r p w (.returned v) w' := by
  obtain ⟨g, A, cap, rfl, hf, hB, h1, h2, -⟩ := fl_of_own h
  have hfl := flatC_len cs
  obtain rfl := hf.ad (by omega)
  exact ⟨cs, g, cap, q, rfl, h0, hl, hk, h1, h2, hB (by omega), hf, h, hq, ho, hr⟩
set_option maxHeartbeats 4000000 in
theorem l20ColumnsG (B r : Nat) (p : Int) (w : World) (h : RdOk B r w p) (hp : p ≤ 900000000) : Calls Try.prog 91 #[.pointer (some ⟨r, 0, none⟩), .int .i64 0] w (DrewCG B r p w) := by
  obtain ⟨i0, hi, iz0, iz1, iz2⟩ := info_parts infoC
  have hlt := h.lt
  have hge := h.ge
  have hp0 := h.p0
  have HR := Lib.hid h
  have HO := Lib.hid (Only.refl r w)
  clear h
  go_enter Try.func91, Try.ntmps91
  go_wp2_with ((go_at_call 93; (with_reducible refine (pick B r 3 p _ (by repeat (with_reducible first | exact HR.out | apply RdOk.alloc | apply RdOk.drew | (refine RdOk.setFar ?_ (by first | omega | (simp; done) | (simp; omega)) _))) (by omega)).mono ?_); rintro e w1 ⟨m, rfl, hm0, hm1, hm2, ho, hr⟩; have HOn := Lib.hid (Only.trans (by repeat (with_reducible first | exact HO.out | apply Only.alloc | apply Only.drew | (refine Only.setNew ?_ (by first | omega | (simp; done) | (simp; omega)) _))) ho); clear HO HR; have HO := HOn; have HR := Lib.hid hr; clear HOn hr; have hm1 := hm1 (by omega); clear hm2; have OWN := Lib.hid (own_only2 (own_empty3 (B := w.heap.size) 89 2 rfl (Nat.le_refl _)) (by omega) ho); clear ho))
  go_loopw [5, 6] (fun vx kx wr => ∃ (K : Int) (cs : List CT) (q : Int), kx = .int .i64 K ∧ 0 ≤ K ∧ K ≤ 3 ∧ (cs.length : Int) + K ≤ 3 ∧ 1 ≤ (cs.length : Int) + K ∧ q + 2 * K ≤ p + 7 ∧ Hid (wr.ownsRow w.heap.size 89 2 vx cs.length (flatC cs)) ∧ Hid (KindsC cs) ∧ Hid (RdOk B r wr q) ∧ Hid (Only r w wr)) (fun _ kx _ => (intOf kx).toNat)
  case atStart => exact ⟨_, [], _, rfl, by omega, by omega, by simp; omega, by simp; omega, by omega, OWN, fun c hc => absurd hc (by simp), HR, HO⟩
  case round =>
    clear OWN HR HO
    obtain ⟨K, cs, q, rfl, hK0, hK1, hLK, hLM, hqK, OWN, HKC, HR, HO⟩ := hrel
    have hrl := HR.out.lt
    have hq0 := HR.out.p0
    have hws := HO.out.size
    by_cases hK : 0 < K
    · have K4 := fun (W : World) (m : Int) => four_at W 3 m
      have hnr : ¬ (wr.heap.size = r) := by omega
      go_wp2
      go_region_law (first | (refine step_call rfl 93 _ _ rfl pickEnters #[.pointer (some ⟨r, 0, none⟩), .int .i64 4] rfl (pick B r 4 _ _ (by repeat (with_reducible first | exact HR.out | apply RdOk.alloc | apply RdOk.drew | (refine RdOk.setFar ?_ (by first | omega | (simp; done) | (simp; omega)) _))) (by omega)) ?_; rintro e w1 ⟨m4, rfl, h40, h41, -, ho, hr⟩; have h41 := h41 (by omega); have HOn := Lib.hid (Only.trans (by repeat (with_reducible first | exact HO.out | apply Only.alloc | apply Only.drew | (refine Only.setNew ?_ (by first | omega | (simp; done) | (simp; omega)) _))) ho); have K0 := Lib.hid (own_only2 (by repeat (with_reducible first | exact OWN.out | apply World.ownsRow.alloc | apply own_drew)) (by omega) ho); clear OWN; have OWN := K0; clear K0; clear HO HR; have HO := HOn; have HR := Lib.hid hr; clear HOn hr; have hc4 := ho.cell; (try simp only [World.size_drew, World.cell?_drew] at hc4); (try (have hx4 : wr.heap.size < w1.heap.size := (by have := ho.size; simp at this; omega))); have hl4 := HR.out.lt; have hnr4 : ¬ (w1.heap.size = r) := (by omega); clear ho; refine ⟨_, rfl, ?_⟩) | (refine step_call rfl 93 _ _ rfl pickEnters #[.pointer (some ⟨r, 0, none⟩), .int .i64 3] rfl (pick B r 3 _ _ (by repeat (with_reducible first | exact HR.out | apply RdOk.alloc | apply RdOk.drew | (refine RdOk.setFar ?_ (by first | omega | (simp; done) | (simp; omega)) _))) (by omega)) ?_; rintro e w1 ⟨m3, rfl, h30, h31, -, ho, hr⟩; have h31 := h31 (by omega); have HOn := Lib.hid (Only.trans (by repeat (with_reducible first | exact HO.out | apply Only.alloc | apply Only.drew | (refine Only.setNew ?_ (by first | omega | (simp; done) | (simp; omega)) _))) ho); have K0 := Lib.hid (own_only2 (by repeat (with_reducible first | exact OWN.out | apply World.ownsRow.alloc | apply own_drew)) (by omega) ho); clear OWN; have OWN := K0; clear K0; clear HO HR; have HO := HOn; have HR := Lib.hid hr; clear HOn hr; have hc3 := ho.cell; clear ho; refine ⟨_, rfl, ?_⟩) | (refine step_own rfl (.tmp 15) (.tmp 25) 43 rfl w.heap.size 89 i0 (.agg #[.int .i64 0, .bool false]) 2 16 Try.underlying43 hi iz0 iz1 iz2 rfl (by decide) u5 cs.length (flatC cs) rfl (by repeat (with_reducible first | exact OWN.out | apply World.ownsRow.alloc | apply own_drew)) _ _ _ (flatC [(four m4, decide (0 < m3))]) rfl rfl (news_new (by first | rfl | simp)) (by simp [flatC, Value.oneCell']) (by unfold maxLen; omega) (by omega) (by have := HO.out.size; first | omega | (simp; omega)) ?_; intro v2 w2 hown2 hgr2 _; have OWN2 := Lib.hid hown2; have HR2 := Lib.hid (rd_grown (by repeat (with_reducible first | exact HR.out | apply RdOk.alloc | apply RdOk.drew | (refine RdOk.setFar ?_ (by first | omega | (simp; done) | (simp; omega)) _))) hgr2 (fun k hk => by have := (OWN.out.lt k hk).1; omega)); have HO2 := Lib.hid (Only.grown (by repeat (with_reducible first | exact HO.out | apply Only.alloc | apply Only.drew | (refine Only.setNew ?_ (by first | omega | (simp; done) | (simp; omega)) _))) hgr2 (fun k hk => (OWN.out.lt k hk).1)); clear hown2 hgr2) | fail)
      all_goals go_wp2
      all_goals (refine ⟨⟨K - 1, cs ++ [(four m4, decide (0 < m3))], _, by go_num, by omega, by omega, by simp; omega, by simp; omega, ?_, ?_, HKC.out.app _ _, HR2, HO2⟩, by simp [intOf]; omega⟩)
      all_goals first
        | omega
        | (have := OWN2.out
           rw [flatC_app, List.length_append]
           exact this)
    · have hl3 : cs.length ≤ 3 := by omega
      go_wp2_with ((go_at_call 117; (with_reducible refine (odd0 B r q _ (by repeat (with_reducible first | exact HR.out | apply RdOk.alloc | apply RdOk.drew | (refine RdOk.setFar ?_ (by first | omega | (simp; done) | (simp; omega)) _)))).mono ?_); rintro e w1 ⟨rfl, ho, hr⟩; have HOn := Lib.hid (Only.trans (by repeat (with_reducible first | exact HO.out | apply Only.alloc | apply Only.drew | (refine Only.setNew ?_ (by first | omega | (simp; done) | (simp; omega)) _))) ho); have K0 := Lib.hid (own_only2 (by repeat (with_reducible first | exact OWN.out | apply World.ownsRow.alloc | apply own_drew)) (by omega) ho); clear OWN; have OWN := K0; clear K0; clear HO HR; have HO := HOn; have HR := Lib.hid hr; clear HOn hr; skip; clear ho))
      all_goals
        go_ret
        exact drewCG_of OWN.out (by omega) (by omega) HKC.out (by omega) HO.out HR.out
/-- A value was drawn that the column takes. -/
def LikeG (B r : Nat) (c : CT) (p : Int) (w : World) (e : Ending) (w' : World) : Prop := ∃ (k n : Int) (s : ByteArray) (q : Int), e = .returned (.agg #[.int .i64 k, .int .i64 n, .string s]) ∧ okB k n s = true ∧ takeB c (k, n, s) = true ∧ s.size ≤ 20 ∧ q ≤ p + 20 ∧ Only r w w' ∧ RdOk B r w' q
theorem likeG_mk {B r : Nat} {c : CT} {p q k n : Int} {s : ByteArray} {w w' : World} (ho : Only r w w') (hr : RdOk B r w' q) (hq : q ≤ p + 20) (h1 : okB k n s = true) (h2 : takeB c (k, n, s) = true) (h3 : s.size ≤ 20) : LikeG B r c p w (.returned (.agg #[.int .i64 k, .int .i64 n, .string s])) w' :=
  ⟨k, n, s, q, rfl, h1, h2, h3, hq, ho, hr⟩
theorem likeG_end {B r : Nat} {c : CT} {p q k n : Int} {s : ByteArray} {x y z : Value} {w W : World} (ho : Only r w W) (hr : RdOk B r W q) (hl : r < w.heap.size) (hq : q ≤ p + 20) (h1 : okB k n s = true) (h2 : takeB c (k, n, s) = true) (h3 : s.size ≤ 20) :
    LikeG B r c p w (.returned (.agg #[.int .i64 k, .int .i64 n, .string s])) (((W.setCell ⟨w.heap.size + 1, 0, none⟩ x).setCell ⟨w.heap.size + 1, 1, none⟩ y).setCell ⟨w.heap.size + 1, 2, none⟩ z) :=
  likeG_mk (q := q) (((ho.setNew (Nat.le_succ _) _).setNew (Nat.le_succ _) _).setNew (Nat.le_succ _) _) (((hr.setFar (Nat.lt_succ_of_lt hl) _).setFar (Nat.lt_succ_of_lt hl) _).setFar (Nat.lt_succ_of_lt hl) _) hq h1 h2 h3
theorem nil_ok : okB 0 0 ⟨#[]⟩ = true := by decide +kernel
set_option maxHeartbeats 4000000 in
theorem l20LikeG (B r : Nat) (c : Int) (b : Bool) (p : Int) (w : World) (h : RdOk B r w p) (hp : p ≤ 900000000) (hc : c = 1 ∨ c = 2 ∨ c = 3) : Calls Try.prog 144 #[.pointer (some ⟨r, 0, none⟩), .agg #[.int .i64 c, .bool b]] w (LikeG B r (c, b) p w) := by
  have hlt := h.lt
  have hge := h.ge
  have hp0 := h.p0
  have n0 : ¬ (w.heap.size = r) := by omega
  have n1 : ¬ (w.heap.size + 1 = r) := by omega
  have n2 : ¬ (w.heap.size + 1 + 1 = r) := by omega
  cases b
  · refine (l20LikeK B r c p w h hp hc).mono ?_
    rintro e w' ⟨n, s, q, rfl, h1, h2, h3, h4, h5⟩
    exact ⟨c, n, s, q, rfl, h1, by simp [takeB], h2, h3, h4, h5⟩
  · have HR := Lib.hid h
    have HO := Lib.hid (Only.refl r w)
    clear h
    rcases hc with rfl | rfl | rfl
    · go_enter Try.func144, Try.ntmps144
      have HL := Lib.hid (LK.new w 1 true 89 73)
      go_wp2_with ((go_at_call 93; (with_reducible refine (pick B r _ _ _ (by repeat (with_reducible first | exact HR.out | apply RdOk.alloc | apply RdOk.drew | (refine RdOk.setFar ?_ (by first | omega | (simp; done) | (simp; omega)) _))) (by omega)).mono ?_); rintro e w1 ⟨m, rfl, hm0, hm1, hm2, ho, hr⟩; have HOn := Lib.hid (Only.trans (by repeat (with_reducible first | exact HO.out | apply Only.alloc | apply Only.drew | (refine Only.setNew ?_ (by first | omega | (simp; done) | (simp; omega)) _))) ho); clear HO HR; have HO := HOn; have HR := Lib.hid hr; clear HOn hr; have hm1 := hm1 (by omega); clear hm2; (try (have hN := fourT_cells ho (by first | omega | (simp; done) | (simp; omega)) hm0 hm1; (try simp only [World.size_alloc] at hN))); have HLn := Lib.hid (LK.only (w := w) (c := 1) (by (repeat (with_reducible first | exact HL.out | apply LK.alloc))) hlt ho); clear HL; have HL := HLn; clear HLn; obtain ⟨e0, e1, e2, e3, e4, e5, e6, e7, e8⟩ := HL.out; clear ho))
      all_goals first
        | (refine bodyPost_ret (v := .agg #[.int .i64 0, .int .i64 0, .string (⟨#[]⟩)]) ?_ rfl ?_
           · (simp [results, Try.results144, go_sem, *]; done)
           · exact likeG_end HO.out HR.out hlt (by omega) nil_ok (by simp [takeB]) (by decide))
        | (refine bodyPost_ret (v := .agg #[.int .i64 1, .int .i64 m, .string (⟨#[]⟩)]) ?_ rfl ?_
           · (simp [results, Try.results144, go_sem, *]; done)
           · exact likeG_end HO.out HR.out hlt (by omega) (ok_four m hm0 hm1) (by simp [takeB]) (by decide))
    · go_enter Try.func144, Try.ntmps144
      have HL := Lib.hid (LK.new w 2 true 89 73)
      go_wp2_with ((go_at_call 93; (with_reducible refine (pick B r _ _ _ (by repeat (with_reducible first | exact HR.out | apply RdOk.alloc | apply RdOk.drew | (refine RdOk.setFar ?_ (by first | omega | (simp; done) | (simp; omega)) _))) (by omega)).mono ?_); rintro e w1 ⟨m, rfl, hm0, hm1, hm2, ho, hr⟩; have HOn := Lib.hid (Only.trans (by repeat (with_reducible first | exact HO.out | apply Only.alloc | apply Only.drew | (refine Only.setNew ?_ (by first | omega | (simp; done) | (simp; omega)) _))) ho); clear HO HR; have HO := HOn; have HR := Lib.hid hr; clear HOn hr; have hm1 := hm1 (by omega); clear hm2; (try (have hN := fourT_cells ho (by first | omega | (simp; done) | (simp; omega)) hm0 hm1; (try simp only [World.size_alloc] at hN))); have HLn := Lib.hid (LK.only (w := w) (c := 2) (by (repeat (with_reducible first | exact HL.out | apply LK.alloc))) hlt ho); clear HL; have HL := HLn; clear HLn; obtain ⟨e0, e1, e2, e3, e4, e5, e6, e7, e8⟩ := HL.out; clear ho))
      all_goals first
        | (refine bodyPost_ret (v := .agg #[.int .i64 0, .int .i64 0, .string (⟨#[]⟩)]) ?_ rfl ?_
           · (simp [results, Try.results144, go_sem, *]; done)
           · exact likeG_end HO.out HR.out hlt (by omega) nil_ok (by simp [takeB]) (by decide))
        | (refine bodyPost_ret (v := .agg #[.int .i64 2, .int .i64 0, .string (fourT m)]) ?_ rfl ?_
           · (simp [results, Try.results144, go_sem, *]; done)
           · exact likeG_end HO.out HR.out hlt (by omega) (ok_fourT m) (by simp [takeB]) (fourT_size m))
    · go_enter Try.func144, Try.ntmps144
      have HL := Lib.hid (LK.new w 3 true 89 73)
      go_wp2_with ((go_at_call 93; (with_reducible refine (pick B r _ _ _ (by repeat (with_reducible first | exact HR.out | apply RdOk.alloc | apply RdOk.drew | (refine RdOk.setFar ?_ (by first | omega | (simp; done) | (simp; omega)) _))) (by omega)).mono ?_); rintro e w1 ⟨m, rfl, hm0, hm1, hm2, ho, hr⟩; have HOn := Lib.hid (Only.trans (by repeat (with_reducible first | exact HO.out | apply Only.alloc | apply Only.drew | (refine Only.setNew ?_ (by first | omega | (simp; done) | (simp; omega)) _))) ho); clear HO HR; have HO := HOn; have HR := Lib.hid hr; clear HOn hr; have hm1 := hm1 (by omega); clear hm2; (try (have hN := fourT_cells ho (by first | omega | (simp; done) | (simp; omega)) hm0 hm1; (try simp only [World.size_alloc] at hN))); have HLn := Lib.hid (LK.only (w := w) (c := 3) (by (repeat (with_reducible first | exact HL.out | apply LK.alloc))) hlt ho); clear HL; have HL := HLn; clear HLn; obtain ⟨e0, e1, e2, e3, e4, e5, e6, e7, e8⟩ := HL.out; clear ho))
      all_goals first
        | (refine bodyPost_ret (v := .agg #[.int .i64 0, .int .i64 0, .string (⟨#[]⟩)]) ?_ rfl ?_
           · (simp [results, Try.results144, go_sem, *]; done)
           · exact likeG_end HO.out HR.out hlt (by omega) nil_ok (by simp [takeB]) (by decide))
        | (refine bodyPost_ret (v := .agg #[.int .i64 3, .int .i64 m, .string (⟨#[]⟩)]) ?_ rfl ?_
           · (simp [results, Try.results144, go_sem, *]; done)
           · exact likeG_end HO.out HR.out hlt (by omega) (ok_two m hm0 hm1) (by simp [takeB]) (by decide))
/-- A row that its columns take was drawn, value by value. -/
def FitsUp (cs : List CT) (vs : List VT) : Prop := vs.length ≤ cs.length ∧ ∀ i (h : i < vs.length) (h2 : i < cs.length), okV vs[i] = true ∧ takeB cs[i] vs[i] = true
theorem FitsUp.push {cs : List CT} {vs : List VT} (h : FitsUp cs vs) {k : Nat} (hk : vs.length = k) (hl : k < cs.length) {c : CT} (hc : cs[k]'hl = c) {v : VT} (h1 : okV v = true) (h2 : takeB c v = true) : FitsUp cs (vs ++ [v]) := by
  subst hk
  refine ⟨by simp; omega, fun i hi hi2 => ?_⟩
  by_cases hlt : i < vs.length
  · rw [List.getElem_append_left hlt]
    exact h.2 i hlt hi2
  · have : i = vs.length := by simp at hi; omega
    subst this
    simp only [List.getElem_append_right (Nat.le_refl _), Nat.sub_self, List.getElem_cons_zero]
    exact ⟨h1, by rw [hc]; exact h2⟩
theorem FitsUp.fit {cs : List CT} {vs : List VT} (h : FitsUp cs vs) (hl : vs.length = cs.length) (hk : KindsC cs) (h3 : cs.length ≤ 4) : fitB cs vs = true := by
  have hc : colB cs = true := by
    simp only [colB, Bool.and_eq_true, decide_eq_true_eq, List.all_eq_true]
    refine ⟨h3, fun c hc => ?_⟩
    have := hk c hc
    rcases this with h | h | h <;> simp [kindB, h]
  simp only [fitB, rowB, hc, hl, h3, Bool.and_eq_true, decide_eq_true_eq, List.all_eq_true, true_and, and_true, decide_true]
  constructor
  · intro v hv
    obtain ⟨i, hi, rfl⟩ := List.mem_iff_getElem.1 hv
    exact (h.2 i hi (by omega)).1
  · intro p hp
    obtain ⟨i, hi, rfl⟩ := List.mem_iff_getElem.1 hp
    rw [List.getElem_zip]
    rw [List.length_zip] at hi
    exact (h.2 i (by omega) (by omega)).2
def DrewRG (B r : Nat) (p : Int) (cs : List CT) (w : World) (e : Ending) (w' : World) : Prop := ∃ (vs : List VT) (g cap : Nat) (q : Int), e = .returned (.slice (some ⟨g, 0, none⟩) vs.length cap) ∧ vs.length = cs.length ∧ FitsUp cs vs ∧ Texts vs ∧ vs.length ≤ cap ∧ cap ≤ maxLen ∧ w.heap.size ≤ g ∧ Fl w' g 0 (some ⟨g, 0, none⟩) (flatV vs) ∧ q ≤ p + 20 * cs.length + 100 ∧ Only r w w' ∧ RdOk B r w' q
theorem drewRG_of {B r : Nat} {cs : List CT} {p q : Int} {w w' : World} {v : Value} {vs : List VT} (h : w'.ownsRow w.heap.size 73 3 v vs.length (flatV vs)) (h0 : 0 < vs.length) (hl : vs.length = cs.length) (hf2 : FitsUp cs vs) (ht : Texts vs) (hq : q ≤ p + 20 * cs.length + 100) (ho : Only r w w') (hr : RdOk B r w' q) : DrewRG B r p cs w (.returned v) w' := by
  obtain ⟨g, A, cap, rfl, hf, hB, h1, h2, -⟩ := fl_of_own h
  have hfl := flatV_len vs
  obtain rfl := hf.ad (by omega)
  exact ⟨vs, g, cap, q, rfl, hl, hf2, ht, h1, h2, hB (by omega), hf, hq, ho, hr⟩
set_option maxHeartbeats 4000000 in
theorem l20FitG (B r g cap : Nat) (cs : List CT) (p : Int) (w : World) (h : RdOk B r w p) (hp : p ≤ 100000000) (hkc : KindsC cs) (hA : Fl w g 0 (some ⟨g, 0, none⟩) (flatC cs)) (hgr : g ≠ r) (h0 : 0 < cs.length) (h6 : cs.length ≤ 100) : Calls Try.prog 116 #[.pointer (some ⟨r, 0, none⟩), .slice (some ⟨g, 0, none⟩) cs.length cap, .int .i64 0] w (DrewRG B r p cs w) := by
  obtain ⟨i0, hi, iz0, iz1, iz2⟩ := info_parts infoV
  have hlt := h.lt
  have hge := h.ge
  have hp0 := h.p0
  have HA := Lib.hid hA
  have HR0 := Lib.hid (h.alloc (.cells #[] 73))
  have HO0 := Lib.hid ((Only.refl r w).alloc (.cells #[] 73))
  have OWN0 := Lib.hid (own_empty3 (w := w) (B := w.heap.size) 73 3 rfl (Nat.le_refl _))
  clear h hA
  go_enter Try.func116, Try.ntmps116
  go_wp2
  go_loopw [7, 8] (fun vx kx wr => ∃ (k : Nat) (vs : List VT) (q : Int), k ≤ cs.length ∧ kx = .int .i64 k ∧ vs.length = k ∧ q ≤ p + 20 * k ∧ Hid (wr.ownsRow w.heap.size 73 3 vx vs.length (flatV vs)) ∧ Hid (Texts vs) ∧ Hid (FitsUp cs vs) ∧ Hid (RdOk B r wr q) ∧ Hid (Only r w wr)) (fun _ kx _ => cs.length - (intOf kx).toNat)
  case atStart => exact ⟨0, [], p, Nat.zero_le _, rfl, rfl, by omega, OWN0, fun v hv => absurd hv (by simp), ⟨Nat.zero_le _, fun i hi => absurd hi (by simp)⟩, HR0, HO0⟩
  case round =>
    clear OWN0 HR0 HO0
    obtain ⟨k, vs, q, hk, rfl, hlv, hqk, OWN, HT, HF, HR, HO⟩ := hrel
    have hq0 := HR.out.p0
    have HLV := Lib.hid hlv
    have hv100 : vs.length ≤ 100 := by omega
    clear hlv
    by_cases hk2 : k < cs.length
    · obtain ⟨-, hg2, c0, c1⟩ := (HA.out.only HO.out (fun _ => hgr)).cl k hk2
      obtain ⟨C, hC⟩ : ∃ C, cs[k]'hk2 = C := ⟨_, rfl⟩
      rw [hC] at c0 c1
      obtain ⟨c, b⟩ := C
      have hkk : c = 1 ∨ c = 2 ∨ c = 3 := by have := hkc _ (List.getElem_mem hk2); rw [hC] at this; exact this
      have HFP := Lib.hid (fun (v : VT) (h1 : okV v = true) (h2 : takeB (c, b) v = true) => HF.out.push HLV.out hk2 hC h1 h2)
      simp only at c0 c1
      clear hC HF
      simp only [Nat.zero_add] at c0 c1
      have i0' : (0 : Int) ≤ (k : Int) := by omega
      have i1' : (k : Int) < (cs.length : Int) := by omega
      go_wp2_with (first
        | (go_at_call 144; (with_reducible refine (l20LikeG B r c b q _ (by repeat (with_reducible first | exact HR.out | apply RdOk.alloc | apply RdOk.drew | (refine RdOk.setFar ?_ (by first | omega | (simp; done) | (simp; omega)) _))) (by omega) hkk).mono ?_); rintro e w1 ⟨x, n1, s, q2, rfl, hok, htk, hs, hq2, ho, hr⟩; have HOn := Lib.hid (Only.trans (by repeat (with_reducible first | exact HO.out | apply Only.alloc | apply Only.drew | (refine Only.setNew ?_ (by first | omega | (simp; done) | (simp; omega)) _))) ho); have K0 := Lib.hid (own_only2 (by repeat (with_reducible first | exact OWN.out | apply World.ownsRow.alloc | apply own_drew)) (by omega) ho); clear OWN; have OWN := K0; clear K0; clear HO HR; have HO := HOn; have HR := Lib.hid hr; clear HOn hr; have HF2 := Lib.hid (HFP.out (x, n1, s) hok htk); clear hok htk; clear ho)
        | (at_builtin; refine wpList_append_own _ rfl (.tmp 16) (.tmp 23) 53 rfl w.heap.size 73 i0 (.agg #[.int .i64 0, .int .i64 0, .string ⟨#[]⟩]) 3 32 Try.underlying53 hi iz0 iz1 iz2 rfl (by decide) u7 vs.length (flatV vs) rfl (by repeat (with_reducible first | exact OWN.out | apply World.ownsRow.alloc | apply own_drew)) _ _ _ (flatV [(x, n1, s)]) rfl rfl (news_new (by first | rfl | simp)) (by simp [flatV, Value.oneCell']) (by unfold maxLen; omega) (by omega) (by have := HO.out.size; first | omega | (simp; omega)) ?_; intro v2 w2 hown2 hgr2 _; have OWN2 := Lib.hid hown2; have HR2 := Lib.hid (rd_grown (by repeat (with_reducible first | exact HR.out | apply RdOk.alloc | apply RdOk.drew | (refine RdOk.setFar ?_ (by first | omega | (simp; done) | (simp; omega)) _))) hgr2 (fun k hk => by have := (OWN.out.lt k hk).1; omega)); have HO2 := Lib.hid (Only.grown (by repeat (with_reducible first | exact HO.out | apply Only.alloc | apply Only.drew | (refine Only.setNew ?_ (by first | omega | (simp; done) | (simp; omega)) _))) hgr2 (fun k hk => (OWN.out.lt k hk).1)); clear hown2 hgr2))
      refine ⟨⟨k + 1, vs ++ [(x, n1, s)], _, by omega, by go_num, ?_, ?_, ?_, HT.out.app (fun v hv => by simp at hv; subst hv; exact hs), HF2, HR2, HO2⟩, by simp [intOf]; omega⟩
      · have := HLV.out; simp; omega
      · omega
      · have := OWN2.out
        rw [flatV_app, List.length_append]
        exact this
    · have hvl : vs.length = cs.length := by have := HLV.out; omega
      have hv0 : 0 < vs.length := by omega
      obtain ⟨g2, cap2, rfl, hg2, hg3⟩ := OWN.out.form hv0
      have HVL := Lib.hid hvl
      have hgr2 : r < g2 := by omega
      clear hvl
      have hq00 := HR.out.p0
      go_wp2_with ((go_at_call 117; (with_reducible refine (odd0 B r q _ (by repeat (with_reducible first | exact HR.out | apply RdOk.alloc | apply RdOk.drew | (refine RdOk.setFar ?_ (by first | omega | (simp; done) | (simp; omega)) _)))).mono ?_); rintro e w1 ⟨rfl, ho, hr⟩; have HOn := Lib.hid (Only.trans (by repeat (with_reducible first | exact HO.out | apply Only.alloc | apply Only.drew | (refine Only.setNew ?_ (by first | omega | (simp; done) | (simp; omega)) _))) ho); have K0 := Lib.hid (own_only2 (by repeat (with_reducible first | exact OWN.out | apply World.ownsRow.alloc | apply own_drew)) (by omega) ho); clear OWN; have OWN := K0; clear K0; clear HO HR; have HO := HOn; have HR := Lib.hid hr; clear HOn hr; skip; clear ho))
      all_goals
        go_ret
        exact drewRG_of OWN.out hv0 HVL.out HF.out HT.out (by have := HVL.out; omega) HO.out HR.out
/-- Rows whose capacity holds them. -/
def CapT (T : List TT) : Prop := ∀ t ∈ T, t.2.2.length ≤ t.2.1
theorem CapT.app {T : List TT} {t : TT} (h : CapT T) (ht : t.2.2.length ≤ t.2.1) : CapT (T ++ [t]) := fun u hu => by
  rcases List.mem_append.1 hu with hu | hu
  · exact h u hu
  · obtain rfl := List.mem_singleton.1 hu; exact ht
set_option maxHeartbeats 4000000 in
theorem l3OwnC (g o c : Nat) (l : List VT) (w : World) (h : Fl w g o (some ⟨g, o, none⟩) (flatV l)) (hl : l.length ≤ 2000000) :
    Calls Try.prog 102 #[.slice (some ⟨g, o, none⟩) l.length c] w fun e w' => ∃ (g2 c2 : Nat), e = .returned (.slice (some ⟨g2, 0, none⟩) l.length c2) ∧ RowO w' w.heap.size (g2, c2, l) ∧ l.length ≤ c2 ∧ Below w.heap.size w w' := by
  obtain ⟨i0, hi, iz0, iz1, iz2⟩ := info_parts infoVc
  have HA := Lib.hid h
  clear h
  have hfl := Lib.hid (flatV_len l)
  have OWN := Lib.hid (own_empty3 (w := w) (B := w.heap.size) 73 3 rfl (Nat.le_refl _))
  go_enter Try.func102, Try.ntmps102
  go_wp2_with (at_builtin; refine wpList_append_block _ rfl (.tmp 3) (.tmp 4) 53 rfl w.heap.size 73 i0 (.agg #[.int .i64 0, .int .i64 0, .string ⟨#[]⟩]) 3 32 Try.underlying53 hi iz0 iz1 iz2 rfl (by decide) w.heap.size 0 0 [] rfl OWN.out _ _ _ (flatV l) rfl hfl.out (news_flo (HA.out.alloc _)) (one_flatV l) (by unfold maxLen; omega) (by omega) (by first | omega | (simp; done) | (simp; omega)) ?_; intro g2 c2 w2 hown hgr hgg; (try simp only [Nat.zero_add, List.nil_append] at hown); have HO := Lib.hid hown; have HB := Lib.hid (Below.grown ((Below.refl _ _).alloc (Nat.le_refl _) _) hgr (by simp) (fun k hk => by obtain rfl := Option.some.inj hk; exact Nat.le_refl _)); clear hown hgr hgg)
  go_ret
  exact ⟨g2, c2, by simp, RowO.of_own HO.out, (own_caps HO.out).1, HB.out⟩
/-- Rows that fit. -/
def FitsAll (cs : List CT) (ls : List RT) : Prop := ∀ x ∈ ls, x.length = cs.length ∧ FitsUp cs x
theorem FitsAll.app {cs : List CT} {ls : List RT} {x : RT} (h : FitsAll cs ls) (hx : x.length = cs.length ∧ FitsUp cs x) : FitsAll cs (ls ++ [x]) := fun y hy => by
  rcases List.mem_append.1 hy with hy | hy
  · exact h y hy
  · obtain rfl := List.mem_singleton.1 hy; exact hx
def DrewBagG (B r : Nat) (p : Int) (cs : List CT) (w : World) (e : Ending) (w' : World) : Prop := ∃ (g c : Nat) (T : List TT) (ls : List RT) (q : Int), e = .returned (.slice (some ⟨g, 0, none⟩) ls.length c) ∧ BagW w' w.heap.size g c T ls ∧ Small ls ∧ FitsAll cs ls ∧ CapT T ∧ q ≤ p + 20000 ∧ Only r w w' ∧ RdOk B r w' q
set_option maxHeartbeats 4000000 in
theorem l20BagG (B r g cap : Nat) (cs : List CT) (p : Int) (w : World) (h : RdOk B r w p) (hp : p ≤ 50000000) (hkc : KindsC cs) (hA : Fl w g 0 (some ⟨g, 0, none⟩) (flatC cs)) (hgr : g ≠ r) (h0 : 0 < cs.length) (h6 : cs.length ≤ 100) : Calls Try.prog 92 #[.pointer (some ⟨r, 0, none⟩), .slice (some ⟨g, 0, none⟩) cs.length cap, .int .i64 0] w (DrewBagG B r p cs w) := by
  obtain ⟨i0, hi, iz0, iz1, iz2⟩ := info_parts infoVS
  have hlt := h.lt
  have hge := h.ge
  have hp0 := h.p0
  have HA := Lib.hid hA
  have HR := Lib.hid (h.alloc (.cells #[] 53))
  have HO := Lib.hid ((Only.refl r w).alloc (.cells #[] 53))
  have BW : Hid (BagW (w.alloc (.cells #[] 53)) w.heap.size w.heap.size 0 [] []) := ⟨rfl, own_empty3 53 1 rfl (Nat.le_refl _), fun t ht => absurd ht (by simp), fun t ht => absurd ht (by simp)⟩
  clear h hA
  go_enter Try.func92, Try.ntmps92
  go_wp2_with ((go_at_call 93; (with_reducible refine (pick B r 7 p _ (by repeat (with_reducible first | exact HR.out | apply RdOk.alloc | apply RdOk.drew | (refine RdOk.setFar ?_ (by first | omega | (simp; done) | (simp; omega)) _))) (by omega)).mono ?_); rintro e w1 ⟨m, rfl, hm0, hm1, hm2, ho, hr⟩; have HOn := Lib.hid (Only.trans (by repeat (with_reducible first | exact HO.out | apply Only.alloc | apply Only.drew | (refine Only.setNew ?_ (by first | omega | (simp; done) | (simp; omega)) _))) ho); have K0 := Lib.hid (by first | exact BW.out.only (by omega) ho | exact (BW.out.alloc _).only (by omega) ho | exact (BW.out.drew).only (by omega) ho); clear BW; have BW := K0; clear K0; clear HO HR; have HO := HOn; have HR := Lib.hid hr; clear HOn hr; have hm1 := hm1 (by omega); clear hm2; clear ho))
  go_loopw [7, 8] (fun ox kx wr => ∃ (K : Int) (g1 c1 : Nat) (T : List TT) (o : List RT) (q : Int), kx = .int .i64 K ∧ 0 ≤ K ∧ K ≤ 6 ∧ (o.length : Int) + K ≤ 6 ∧ ox = .slice (some ⟨g1, 0, none⟩) o.length c1 ∧ q ≤ p + 1 + 3000 * (o.length : Int) ∧ Hid (BagW wr w.heap.size g1 c1 T o) ∧ Hid (∀ x ∈ o, x.length ≤ 110 ∧ Texts x) ∧ Hid (FitsAll cs o) ∧ Hid (CapT T) ∧ Hid (RdOk B r wr q) ∧ Hid (Only r w wr)) (fun _ kx _ => (intOf kx).toNat)
  case atStart => exact ⟨_, w.heap.size, 0, [], [], _, rfl, by omega, by omega, by simp; omega, rfl, by simp, BW, fun x hx => absurd hx (by simp), fun x hx => absurd hx (by simp), fun x hx => absurd hx (by simp), HR, HO⟩
  case round =>
    clear BW HR HO
    obtain ⟨K, g1, c1, T, o, q, rfl, hK0, hK1, hKO, rfl, hq, BW, SM, FA, CP, HR, HO⟩ := hrel
    have hq0 := HR.out.p0
    have hws := HO.out.size
    have hb1 := BW.out.lo
    obtain ⟨ol, hol⟩ : ∃ n, o.length = n := ⟨_, rfl⟩
    have HOL := Lib.hid hol
    rw [hol] at hKO hq ⊢
    by_cases hK : 0 < K
    · by_cases hz : ol = 0
      · subst hz
        clear hol
        go_wp2_with (first
          | (go_at_call 116; (with_reducible refine (l20FitG B r g cap cs _ _ (by repeat (with_reducible first | exact HR.out | apply RdOk.alloc | apply RdOk.drew | (refine RdOk.setFar ?_ (by first | omega | (simp; done) | (simp; omega)) _))) (by omega) hkc (HA.out.only (by repeat (with_reducible first | exact HO.out | apply Only.alloc | apply Only.drew | (refine Only.setNew ?_ (by first | omega | (simp; done) | (simp; omega)) _))) (fun _ => hgr)) hgr h0 h6).mono ?_); rintro e w1 ⟨vs, g2, c2, q2, rfl, k1, kft, kt, kc, kc2, kg, kf, kq, ho, hr⟩; have HOn := Lib.hid (Only.trans (by repeat (with_reducible first | exact HO.out | apply Only.alloc | apply Only.drew | (refine Only.setNew ?_ (by first | omega | (simp; done) | (simp; omega)) _))) ho); have K0 := Lib.hid (by first | exact BW.out.only (by omega) ho | exact (BW.out.alloc _).only (by omega) ho | exact (BW.out.drew).only (by omega) ho); clear BW; have BW := K0; clear K0; clear HO HR; have HO := HOn; have HR := Lib.hid hr; clear HOn hr; have k0 : 0 < vs.length := (by omega); have HKF := Lib.hid (And.intro k1 kft); have k1u : vs.length ≤ cs.length := (by omega); clear kft k1; have KF := Lib.hid (RowF.of (c := c2) (B := w.heap.size) kf k0 (Nat.le_trans hws kg)); have KG := kg; have KT := Lib.hid kt; clear kf kt; clear ho)
          | (at_builtin; refine wpList_append_block _ rfl (.tmp 35) (.tmp 40) 28 rfl w.heap.size 53 i0 (.slice none 0 0) 1 24 Try.underlying28 hi iz0 iz1 iz2 rfl (by decide) g1 0 c1 (T.map hdr) rfl (by have h := BW.out.own; rw [HOL.out] at h; exact h.alloc _) _ 1 1 [.slice (some ⟨g2, 0, none⟩) vs.length c2] rfl rfl (news_new (by first | rfl | simp)) (by simp [Value.oneCell']) (by unfold maxLen; omega) (by omega) (by have := HO.out.size; first | omega | (simp; omega)) ?_; intro g3 c3 w3 hown hgr3 hgg; have HOWN := Lib.hid hown; have HGR := Lib.hid hgr3; have HGG := Lib.hid hgg; clear hown hgr3 hgg))
        have hb2 := BW.out.lo
        have BW3 := Lib.hid (BagW.push (t := (g2, c2, vs)) (BW.out.alloc _) (KF.out.alloc _) (by simp only; omega) (by rw [HOL.out]) HOWN.out HGR.out HGG.out)
        have HR3 := Lib.hid (rd_grown (HR.out.alloc _) HGR.out (fun k hk => by obtain rfl := Option.some.inj hk; omega))
        have HO3 := Lib.hid (Only.grown (HO.out.alloc _) HGR.out (fun k hk => by obtain rfl := Option.some.inj hk; omega))
        exact ⟨⟨K - 1, g3, c3, _, o ++ [vs], _, by go_num, by omega, by omega, by simp [HOL.out]; omega, by simp [HOL.out], by simp [HOL.out]; omega, BW3, Small.app SM.out ⟨by omega, KT.out⟩, FA.out.app HKF.out, CP.out.app kc, HR3, HO3⟩, by simp [intOf]; omega⟩
      · have hz2 : (0 : Int) < (ol : Int) := by omega
        clear hol
        go_wp2_with (first
          | ((fail_if_success (have _ := P3)); (go_at_call 93; (with_reducible refine (pick B r 3 q _ (by repeat (with_reducible first | exact HR.out | apply RdOk.alloc | apply RdOk.drew | (refine RdOk.setFar ?_ (by first | omega | (simp; done) | (simp; omega)) _))) (by omega)).mono ?_); rintro e w1 ⟨m3, rfl, h30, h31, h32, ho, hr⟩; have HOn := Lib.hid (Only.trans (by repeat (with_reducible first | exact HO.out | apply Only.alloc | apply Only.drew | (refine Only.setNew ?_ (by first | omega | (simp; done) | (simp; omega)) _))) ho); have K0 := Lib.hid (by first | exact BW.out.only (by omega) ho | exact (BW.out.alloc _).only (by omega) ho | exact (BW.out.drew).only (by omega) ho); clear BW; have BW := K0; clear K0; clear HO HR; have HO := HOn; have HR := Lib.hid hr; clear HOn hr; have h31 := h31 (by omega); clear h32; have P3 := True.intro; have hws2 := HO.out.size; have hwr := ho.size; clear ho))
          | (go_at_call 93; (with_reducible refine (pick B r (ol : Int) _ _ (by repeat (with_reducible first | exact HR.out | apply RdOk.alloc | apply RdOk.drew | (refine RdOk.setFar ?_ (by first | omega | (simp; done) | (simp; omega)) _))) (by omega)).mono ?_); rintro e w1 ⟨mi, rfl, hi0, hi1, hi2, ho, hr⟩; have HOn := Lib.hid (Only.trans (by repeat (with_reducible first | exact HO.out | apply Only.alloc | apply Only.drew | (refine Only.setNew ?_ (by first | omega | (simp; done) | (simp; omega)) _))) ho); have K0 := Lib.hid (by first | exact BW.out.only (by omega) ho | exact (BW.out.alloc _).only (by omega) ho | exact (BW.out.drew).only (by omega) ho); clear BW; have BW := K0; clear K0; clear HO HR; have HO := HOn; have HR := Lib.hid hr; clear HOn hr; have hi1 := hi1 (by omega); clear hi2; obtain ⟨ix, rfl⟩ : ∃ i : Nat, mi = (i : Int) := ⟨mi.toNat, by omega⟩; have hix : ix < o.length := (by rw [HOL.out]; omega); obtain ⟨-, hgz, cu, gu, ou, hcu, hfu⟩ := BW.out.rws.at ix hix; (simp only [Nat.zero_add] at hcu); have HFU := Lib.hid hfu; have hux := Lib.hid (SM.out _ (List.getElem_mem hix)); have huf := Lib.hid (FA.out _ (List.getElem_mem hix)); clear hfu; obtain ⟨U, hU⟩ : ∃ U, o[ix] = U := ⟨_, rfl⟩; rw [hU] at hcu HFU hux huf; clear hU hix; obtain ⟨ul, hul⟩ : ∃ n, U.length = n := ⟨_, rfl⟩; have HUL := Lib.hid hul; rw [hul] at hcu; clear hul; clear ho)
          | (go_at_call 102; (with_reducible refine (by have := l3OwnC gu ou cu U _ HFU.out (by have := hux.out.1; omega); rw [HUL.out] at this; exact this : Calls _ _ _ _ _).mono ?_); rintro e w2 ⟨g2, c2, rfl, hr2, hcp2, hb2⟩; have HR2 := Lib.hid hr2; have HBB := Lib.hid hb2; clear hb2 hr2)
          | (at_builtin; refine wpList_append_block _ rfl (.tmp 24) (.tmp 33) 28 rfl w.heap.size 53 i0 (.slice none 0 0) 1 24 Try.underlying28 hi iz0 iz1 iz2 rfl (by decide) g1 ol c1 (T.map hdr) rfl (by have h := (BW.out.below HBB.out).own; rw [HOL.out] at h; exact h.alloc _) _ 1 1 [.slice (some ⟨g2, 0, none⟩) ul c2] rfl rfl (news_new (by first | rfl | simp)) (by simp [Value.oneCell']) (by unfold maxLen; omega) (by omega) (by have := HO.out.size; have := HBB.out.size; first | omega | (simp; omega)) ?_; intro g3 c3 w3 hown hgr3 hgg; have HOWN := Lib.hid hown; have HGR := Lib.hid hgr3; have HGG := Lib.hid hgg; clear hown hgr3 hgg)
          | (go_at_call 116; (with_reducible refine (l20FitG B r g cap cs _ _ (by repeat (with_reducible first | exact HR.out | apply RdOk.alloc | apply RdOk.drew | (refine RdOk.setFar ?_ (by first | omega | (simp; done) | (simp; omega)) _))) (by omega) hkc (HA.out.only (by repeat (with_reducible first | exact HO.out | apply Only.alloc | apply Only.drew | (refine Only.setNew ?_ (by first | omega | (simp; done) | (simp; omega)) _))) (fun _ => hgr)) hgr h0 h6).mono ?_); rintro e w1 ⟨vs, g2, c2, q2, rfl, k1, kft, kt, kc, kc2, kg, kf, kq, ho, hr⟩; have HOn := Lib.hid (Only.trans (by repeat (with_reducible first | exact HO.out | apply Only.alloc | apply Only.drew | (refine Only.setNew ?_ (by first | omega | (simp; done) | (simp; omega)) _))) ho); have K0 := Lib.hid (by first | exact BW.out.only (by omega) ho | exact (BW.out.alloc _).only (by omega) ho | exact (BW.out.drew).only (by omega) ho); clear BW; have BW := K0; clear K0; clear HO HR; have HO := HOn; have HR := Lib.hid hr; clear HOn hr; have k0 : 0 < vs.length := (by omega); have HKF := Lib.hid (And.intro k1 kft); have k1u : vs.length ≤ cs.length := (by omega); clear kft k1; have KF := Lib.hid (RowF.of (c := c2) (B := w.heap.size) kf k0 (Nat.le_trans (by omega) kg)); have KG := kg; have KT := Lib.hid kt; clear kf kt; clear ho)
          | (at_builtin; refine wpList_append_block _ rfl (.tmp 35) (.tmp 40) 28 rfl w.heap.size 53 i0 (.slice none 0 0) 1 24 Try.underlying28 hi iz0 iz1 iz2 rfl (by decide) g1 ol c1 (T.map hdr) rfl (by have h := BW.out.own; rw [HOL.out] at h; exact h.alloc _) _ 1 1 [.slice (some ⟨g2, 0, none⟩) vs.length c2] rfl rfl (news_new (by first | rfl | simp)) (by simp [Value.oneCell']) (by unfold maxLen; omega) (by omega) (by have := HO.out.size; first | omega | (simp; omega)) ?_; intro g3 c3 w3 hown hgr3 hgg; have HOWN := Lib.hid hown; have HGR := Lib.hid hgr3; have HGG := Lib.hid hgg; clear hown hgr3 hgg))
        · have hb2 := BW.out.lo
          have hlo2 := HR2.out.lo
          have hwo := HO.out.size
          have hbz := HBB.out.size
          have BW3 := Lib.hid (BagW.push (t := (g2, c2, U)) ((BW.out.below HBB.out).alloc _) ((RowO.rowF (HR2.out.lower (by omega))).alloc _) (by simp only at hlo2 ⊢; omega) (by rw [HOL.out]) (by have h := HOWN.out; rw [← HUL.out] at h; exact h) HGR.out HGG.out)
          have HR3 := Lib.hid (rd_grown ((rdUnder HR.out HBB.out).alloc _) HGR.out (fun k hk => by obtain rfl := Option.some.inj hk; omega))
          have HO3 := Lib.hid (Only.grown (r := r) ((HO.out.trans (onlyBelow HBB.out)).alloc _) HGR.out (fun k hk => by obtain rfl := Option.some.inj hk; omega))
          exact ⟨⟨K - 1, g3, c3, _, o ++ [U], _, by go_num, by omega, by omega, by simp [HOL.out]; omega, by simp [HOL.out], by simp [HOL.out]; omega, BW3, Small.app SM.out hux.out, FA.out.app huf.out, CP.out.app (by have := HUL.out; simp only; omega), HR3, HO3⟩, by simp [intOf]; omega⟩
        · have hb2 := BW.out.lo
          have BW3 := Lib.hid (BagW.push (t := (g2, c2, vs)) (BW.out.alloc _) (KF.out.alloc _) (by simp only; omega) (by rw [HOL.out]) HOWN.out HGR.out HGG.out)
          have HR3 := Lib.hid (rd_grown (HR.out.alloc _) HGR.out (fun k hk => by obtain rfl := Option.some.inj hk; omega))
          have HO3 := Lib.hid (Only.grown (HO.out.alloc _) HGR.out (fun k hk => by obtain rfl := Option.some.inj hk; omega))
          exact ⟨⟨K - 1, g3, c3, _, o ++ [vs], _, by go_num, by omega, by omega, by simp [HOL.out]; omega, by simp [HOL.out], by simp [HOL.out]; omega, BW3, Small.app SM.out ⟨by omega, KT.out⟩, FA.out.app HKF.out, CP.out.app kc, HR3, HO3⟩, by simp [intOf]; omega⟩
    · clear hol
      go_wp2
      go_ret
      exact ⟨g1, c1, T, o, q, by rw [HOL.out]; rfl, BW.out, ⟨by rw [HOL.out]; omega, SM.out⟩, FA.out, CP.out, by omega, HO.out, HR.out⟩
end Go.Proofs.Ytjidkjnlnenmbaa.Val
