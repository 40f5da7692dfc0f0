/- What drawing columns and rows leaves (l20Columns, l20Like, l20Fit, l20Any). -/
import Derived.Test.YtjidkjnlnenmbaaDraw
import Derived.Test.YtjidkjnlnenmbaaOwnK
import Derived.Deep.AppendLies
import Derived.Laws.AppendOwnNone
import Derived.Test.YtjidkjnlnenmbaaCol
import Derived.Deep.RegionWith
import Derived.Deep.RegionLaw
namespace Go.Proofs.Ytjidkjnlnenmbaa.Val
open Go.RowKit
set_option linter.unusedVariables false
set_option maxRecDepth 20000
theorem news2 {W : World} {b : Nat} {x y : Value} (h0 : W.cell? ⟨b, 0, none⟩ = some x) (h1 : W.cell? ⟨b, 1, none⟩ = some y) : ∀ j u, [x, y][j]? = some u → W.cell? ((⟨b, 0, none⟩ : Addr).add j) = some u := by
  intro j u hj
  match j with
  | 0 => simp at hj; subst hj; simpa [Addr.add] using h0
  | 1 => simp at hj; subst hj; simpa [Addr.add] using h1
  | k + 2 => simp at hj
theorem pickEnters (vs : Array Value) (w : World) : (callFunc 93 vs).run Try.prog w = .ok (.enter 93 vs) w := by
  go_simp
/-- Columns were drawn: a row of its own, not the reader's block. -/
def DrewC (B r : Nat) (p : Int) (w : World) (e : Ending) (w' : World) : Prop := ∃ (cs : List CT) (g cap : Nat) (q : Int), e = .returned (.slice (some ⟨g, 0, none⟩) cs.length cap) ∧ 0 < cs.length ∧ cs.length ≤ 6 ∧ cs.length ≤ cap ∧ cap ≤ maxLen ∧ w.heap.size ≤ g ∧ Fl w' g 0 (some ⟨g, 0, none⟩) (flatC cs) ∧ q ≤ p + 20 ∧ Only r w w' ∧ RdOk B r w' q
theorem drewC_of {B r : Nat} {p q : Int} {w w' : World} {v : Value} {cs : List CT} (h : w'.ownsRow w.heap.size 89 2 v cs.length (flatC cs)) (h0 : 0 < cs.length) (hl : cs.length ≤ 6) (hq : q ≤ p + 20) (ho : Only r w w') (hr : RdOk B r w' q) : DrewC B r p w (.returned v) w' := by
  obtain ⟨g, A, cap, rfl, hf, hB, h1, h2, -⟩ := fl_of_own h
  have hfl := flatC_len cs
  obtain rfl := hf.ad (by omega)
  exact ⟨cs, g, cap, q, rfl, h0, hl, h1, h2, hB (by omega), hf, hq, ho, hr⟩
def four (m : Int) : Int := if m = 2 then 2 else if m = 3 then 3 else 1
theorem four_at (W : World) (t : TypeId) (m : Int) (h0 : 0 ≤ m) (h6 : m < 4) : (W.alloc (.cells #[.int .i64 1, .int .i64 1, .int .i64 2, .int .i64 3] t)).cell? ⟨W.heap.size, m.toNat, none⟩ = some (.int .i64 (four m)) := by
  rw [World.cell?_alloc_mark]
  have hm : m = 0 ∨ m = 1 ∨ m = 2 ∨ m = 3 := by omega
  rcases hm with rfl | rfl | rfl | rfl <;> rfl
set_option maxHeartbeats 4000000 in
theorem l20Columns (B r : Nat) (n p : Int) (w : World) (h : RdOk B r w p) (hp : p ≤ 900000000) (hn : n ≤ 1000) : Calls Try.prog 91 #[.pointer (some ⟨r, 0, none⟩), .int .i64 n] w (DrewC B r p w) := by
  obtain ⟨i0, hi, iz0, iz1, iz2⟩ := info_parts infoC
  have hlt := h.lt
  have hge := h.ge
  have hp0 := h.p0
  have HR := Lib.hid h
  have HO := Lib.hid (Only.refl r w)
  clear h
  go_enter Try.func91, Try.ntmps91
  go_wp2_with ((go_at_call 93; (with_reducible refine (pick B r 3 p _ (by repeat (with_reducible first | exact HR.out | apply RdOk.alloc | apply RdOk.drew | (refine RdOk.setFar ?_ (by first | omega | (simp; done) | (simp; omega)) _))) (by omega)).mono ?_); rintro e w1 ⟨m, rfl, hm0, hm1, hm2, ho, hr⟩; have HOn := Lib.hid (Only.trans (by repeat (with_reducible first | exact HO.out | apply Only.alloc | apply Only.drew | (refine Only.setNew ?_ (by first | omega | (simp; done) | (simp; omega)) _))) ho); clear HO HR; have HO := HOn; have HR := Lib.hid hr; clear HOn hr; have hm1 := hm1 (by omega); clear hm2; have OWN := Lib.hid (own_only2 (own_empty3 (B := w.heap.size) 89 2 rfl (Nat.le_refl _)) (by omega) ho); clear ho))
  go_loopw [5, 6] (fun vx kx wr => ∃ (K : Int) (cs : List CT) (q : Int), kx = .int .i64 K ∧ 0 ≤ K ∧ K ≤ 3 ∧ (cs.length : Int) + K ≤ 3 ∧ 1 ≤ (cs.length : Int) + K ∧ q + 2 * K ≤ p + 7 ∧ Hid (wr.ownsRow w.heap.size 89 2 vx cs.length (flatC cs)) ∧ Hid (RdOk B r wr q) ∧ Hid (Only r w wr)) (fun _ kx _ => (intOf kx).toNat)
  case atStart => exact ⟨_, [], _, rfl, by omega, by omega, by simp; omega, by simp; omega, by omega, OWN, HR, HO⟩
  case round =>
    clear OWN HR HO
    obtain ⟨K, cs, q, rfl, hK0, hK1, hLK, hLM, hqK, OWN, HR, HO⟩ := hrel
    have hrl := HR.out.lt
    have hq0 := HR.out.p0
    have hws := HO.out.size
    by_cases hK : 0 < K
    · have K4 := fun (W : World) (m : Int) => four_at W 3 m
      have hnr : ¬ (wr.heap.size = r) := by omega
      go_wp2
      go_region_law (first | (refine step_call rfl 93 _ _ rfl pickEnters #[.pointer (some ⟨r, 0, none⟩), .int .i64 4] rfl (pick B r 4 _ _ (by repeat (with_reducible first | exact HR.out | apply RdOk.alloc | apply RdOk.drew | (refine RdOk.setFar ?_ (by first | omega | (simp; done) | (simp; omega)) _))) (by omega)) ?_; rintro e w1 ⟨m4, rfl, h40, h41, -, ho, hr⟩; have h41 := h41 (by omega); have HOn := Lib.hid (Only.trans (by repeat (with_reducible first | exact HO.out | apply Only.alloc | apply Only.drew | (refine Only.setNew ?_ (by first | omega | (simp; done) | (simp; omega)) _))) ho); have K0 := Lib.hid (own_only2 (by repeat (with_reducible first | exact OWN.out | apply World.ownsRow.alloc | apply own_drew)) (by omega) ho); clear OWN; have OWN := K0; clear K0; clear HO HR; have HO := HOn; have HR := Lib.hid hr; clear HOn hr; have hc4 := ho.cell; (try simp only [World.size_drew, World.cell?_drew] at hc4); (try (have hx4 : wr.heap.size < w1.heap.size := (by have := ho.size; simp at this; omega))); have hl4 := HR.out.lt; have hnr4 : ¬ (w1.heap.size = r) := (by omega); clear ho; refine ⟨_, rfl, ?_⟩) | (refine step_call rfl 93 _ _ rfl pickEnters #[.pointer (some ⟨r, 0, none⟩), .int .i64 3] rfl (pick B r 3 _ _ (by repeat (with_reducible first | exact HR.out | apply RdOk.alloc | apply RdOk.drew | (refine RdOk.setFar ?_ (by first | omega | (simp; done) | (simp; omega)) _))) (by omega)) ?_; rintro e w1 ⟨m3, rfl, h30, h31, -, ho, hr⟩; have h31 := h31 (by omega); have HOn := Lib.hid (Only.trans (by repeat (with_reducible first | exact HO.out | apply Only.alloc | apply Only.drew | (refine Only.setNew ?_ (by first | omega | (simp; done) | (simp; omega)) _))) ho); have K0 := Lib.hid (own_only2 (by repeat (with_reducible first | exact OWN.out | apply World.ownsRow.alloc | apply own_drew)) (by omega) ho); clear OWN; have OWN := K0; clear K0; clear HO HR; have HO := HOn; have HR := Lib.hid hr; clear HOn hr; have hc3 := ho.cell; clear ho; refine ⟨_, rfl, ?_⟩) | (refine step_own rfl (.tmp 15) (.tmp 25) 43 rfl w.heap.size 89 i0 (.agg #[.int .i64 0, .bool false]) 2 16 Try.underlying43 hi iz0 iz1 iz2 rfl (by decide) u5 cs.length (flatC cs) rfl (by repeat (with_reducible first | exact OWN.out | apply World.ownsRow.alloc | apply own_drew)) _ _ _ (flatC [(four m4, decide (0 < m3))]) rfl rfl (news_new (by first | rfl | simp)) (by simp [flatC, Value.oneCell']) (by unfold maxLen; omega) (by omega) (by have := HO.out.size; first | omega | (simp; omega)) ?_; intro v2 w2 hown2 hgr2 _; have OWN2 := Lib.hid hown2; have HR2 := Lib.hid (rd_grown (by repeat (with_reducible first | exact HR.out | apply RdOk.alloc | apply RdOk.drew | (refine RdOk.setFar ?_ (by first | omega | (simp; done) | (simp; omega)) _))) hgr2 (fun k hk => by have := (OWN.out.lt k hk).1; omega)); have HO2 := Lib.hid (Only.grown (by repeat (with_reducible first | exact HO.out | apply Only.alloc | apply Only.drew | (refine Only.setNew ?_ (by first | omega | (simp; done) | (simp; omega)) _))) hgr2 (fun k hk => (OWN.out.lt k hk).1)); clear hown2 hgr2) | fail)
      all_goals go_wp2
      all_goals (refine ⟨⟨K - 1, cs ++ [(four m4, decide (0 < m3))], _, by go_num, by omega, by omega, by simp; omega, by simp; omega, ?_, ?_, HR2, HO2⟩, by simp [intOf]; omega⟩)
      all_goals first
        | omega
        | (have := OWN2.out
           rw [flatC_app, List.length_append]
           exact this)
    · have hl3 : cs.length ≤ 3 := by omega
      go_wp2_with (first
        | (go_at_call 117; (with_reducible refine (odd B r n q _ (by repeat (with_reducible first | exact HR.out | apply RdOk.alloc | apply RdOk.drew | (refine RdOk.setFar ?_ (by first | omega | (simp; done) | (simp; omega)) _))) (by omega) hn).mono ?_); rintro e w1 ⟨v, q1, rfl, hq1, ho, hr⟩; have HOn := Lib.hid (Only.trans (by repeat (with_reducible first | exact HO.out | apply Only.alloc | apply Only.drew | (refine Only.setNew ?_ (by first | omega | (simp; done) | (simp; omega)) _))) ho); have K0 := Lib.hid (own_only2 (by repeat (with_reducible first | exact OWN.out | apply World.ownsRow.alloc | apply own_drew)) (by omega) ho); clear OWN; have OWN := K0; clear K0; clear HO HR; have HO := HOn; have HR := Lib.hid hr; clear HOn hr; skip; clear ho)
        | (go_at_call 93; (with_reducible refine (pick B r 6 q1 _ (by repeat (with_reducible first | exact HR.out | apply RdOk.alloc | apply RdOk.drew | (refine RdOk.setFar ?_ (by first | omega | (simp; done) | (simp; omega)) _))) (by omega)).mono ?_); rintro e w1 ⟨m6, rfl, h60, h61, h62, ho, hr⟩; have HOn := Lib.hid (Only.trans (by repeat (with_reducible first | exact HO.out | apply Only.alloc | apply Only.drew | (refine Only.setNew ?_ (by first | omega | (simp; done) | (simp; omega)) _))) ho); have K0 := Lib.hid (own_only2 (by repeat (with_reducible first | exact OWN.out | apply World.ownsRow.alloc | apply own_drew)) (by omega) ho); clear OWN; have OWN := K0; clear K0; clear HO HR; have HO := HOn; have HR := Lib.hid hr; clear HOn hr; have h61 := h61 (by omega); clear h62; clear ho)
        | (at_builtin; refine wpList_append_own _ rfl (.tmp 30) (.tmp 37) 43 rfl w.heap.size 89 i0 (.agg #[.int .i64 0, .bool false]) 2 16 Try.underlying43 hi iz0 iz1 iz2 rfl (by decide) u5 cs.length (flatC cs) rfl (by repeat (with_reducible first | exact OWN.out | apply World.ownsRow.alloc | apply own_drew)) _ _ _ (flatC [(m6 - 1, false), (1, false), (1, false)]) rfl rfl (news_new (by first | rfl | simp)) (by simp [flatC, Value.oneCell']) (by unfold maxLen; omega) (by omega) (by have := HO.out.size; first | omega | (simp; omega)) ?_; intro v2 w2 hown2 hgr2 _; have OWN2 := Lib.hid hown2; have HR2 := Lib.hid (rd_grown (by repeat (with_reducible first | exact HR.out | apply RdOk.alloc | apply RdOk.drew | (refine RdOk.setFar ?_ (by first | omega | (simp; done) | (simp; omega)) _))) hgr2 (fun k hk => by have := (OWN.out.lt k hk).1; omega)); have HO2 := Lib.hid (Only.grown (by repeat (with_reducible first | exact HO.out | apply Only.alloc | apply Only.drew | (refine Only.setNew ?_ (by first | omega | (simp; done) | (simp; omega)) _))) hgr2 (fun k hk => (OWN.out.lt k hk).1)); clear hown2 hgr2))
      · go_ret
        refine drewC_of (cs := cs ++ [(m6 - 1, false), (1, false), (1, false)]) ?_ (by simp) (by simp; omega) (by omega) HO2.out HR2.out
        rw [flatC_app, List.length_append]
        exact OWN2.out
      · go_ret
        exact drewC_of OWN.out (by omega) (by omega) (by omega) HO.out HR.out
end Go.Proofs.Ytjidkjnlnenmbaa.Val
