/- What drawing rows leaves (l20Fit, l20Any). -/
import Derived.Test.YtjidkjnlnenmbaaDrawL
namespace Go.Proofs.Ytjidkjnlnenmbaa.Val
open Go.RowKit
set_option linter.unusedVariables false
set_option maxRecDepth 4000
theorem flatV_set (vs : List VT) (i : Nat) (v : VT) : (((flatV vs).set (i * 3) (.int .i64 v.1)).set (i * 3 + 1) (.int .i64 v.2.1)).set (i * 3 + 2) (.string v.2.2) = flatV (vs.set i v) := by
  induction vs generalizing i with
  | nil => simp [flatV]
  | cons x vs ih =>
    cases i with
    | zero => rfl
    | succ i =>
      have := ih i
      rw [List.set_cons_succ, flatV_cons, flatV_cons, ← this, show (i + 1) * 3 = i * 3 + 3 by omega]
      rfl
theorem own_setV {w : World} {B g n cap i : Nat} {e : TypeId} {vs : List VT} (h : w.ownsRow B e 3 (.slice (some ⟨g, 0, none⟩) n cap) n (flatV vs)) (v : VT) : (((w.setCell ⟨g, i * 3, none⟩ (.int .i64 v.1)).setCell ⟨g, i * 3 + 1, none⟩ (.int .i64 v.2.1)).setCell ⟨g, i * 3 + 2, none⟩ (.string v.2.2)).ownsRow B e 3 (.slice (some ⟨g, 0, none⟩) n cap) n (flatV (vs.set i v)) := by
  rw [← flatV_set]
  exact (((h.stored _ _).1.stored _ _).1.stored _ _).1
theorem own_cells {w : World} {B g n cap : Nat} {e : TypeId} {vs : List VT} (h : w.ownsRow B e 3 (.slice (some ⟨g, 0, none⟩) n cap) n (flatV vs)) (i : Nat) (hi : i < n) : (∃ v, w.cell? ⟨g, i * 3, none⟩ = some v) ∧ (∃ v, w.cell? ⟨g, i * 3 + 1, none⟩ = some v) ∧ (∃ v, w.cell? ⟨g, i * 3 + 2, none⟩ = some v) ∧ w.frozen? ⟨g, i * 3, none⟩ = false ∧ w.frozen? ⟨g, i * 3 + 1, none⟩ = false ∧ w.frozen? ⟨g, i * 3 + 2, none⟩ = false := by
  have c := fun (j : Nat) (hj : j < n * 3) => (by
    rw [h.cellAt j hj, List.getElem?_eq_getElem (show j < (flatV vs).length by rw [h.1]; exact hj)]
    exact ⟨_, rfl⟩ : ∃ v, w.cell? ⟨g, j, none⟩ = some v)
  exact ⟨c _ (by omega), c _ (by omega), c _ (by omega), h.frozenAt _, h.frozenAt _, h.frozenAt _⟩
/-- A row was drawn. -/
def Texts (vs : List VT) : Prop := ∀ v ∈ vs, v.2.2.size ≤ 20
theorem Texts.short {vs : List VT} (h : Texts vs) : Short vs := fun i hi => by have := h vs[i] (List.getElem_mem _); unfold maxLen; omega
theorem Texts.app {a b : List VT} (h : Texts a) (h2 : Texts b) : Texts (a ++ b) := fun v hv => by
  rcases List.mem_append.1 hv with hv | hv
  · exact h v hv
  · exact h2 v hv
theorem Texts.set {a : List VT} (h : Texts a) (i : Nat) (v : VT) (hv : v.2.2.size ≤ 20) : Texts (a.set i v) := fun u hu => by
  rcases List.mem_or_eq_of_mem_set hu with hu | rfl
  · exact h u hu
  · exact hv
theorem Texts.take {a : List VT} (h : Texts a) (i : Nat) : Texts (a.take i) := fun v hv => h v (List.mem_of_mem_take hv)
def DrewR (B r : Nat) (p : Int) (n : Nat) (w : World) (e : Ending) (w' : World) : Prop := ∃ (vs : List VT) (g cap : Nat) (q : Int), e = .returned (.slice (some ⟨g, 0, none⟩) vs.length cap) ∧ 0 < vs.length ∧ vs.length ≤ n + 3 ∧ Texts vs ∧ vs.length ≤ cap ∧ cap ≤ maxLen ∧ w.heap.size ≤ g ∧ Fl w' g 0 (some ⟨g, 0, none⟩) (flatV vs) ∧ q ≤ p + 20 * n + 100 ∧ Only r w w' ∧ RdOk B r w' q
theorem drewR_of {B r n : Nat} {p q : Int} {w w' : World} {v : Value} {vs : List VT} (h : w'.ownsRow w.heap.size 73 3 v vs.length (flatV vs)) (h0 : 0 < vs.length) (hl : vs.length ≤ n + 3) (ht : Texts vs) (hq : q ≤ p + 20 * n + 100) (ho : Only r w w') (hr : RdOk B r w' q) : DrewR B r p n w (.returned v) w' := by
  obtain ⟨g, A, cap, rfl, hf, hB, h1, h2, -⟩ := fl_of_own h
  have hfl := flatV_len vs
  obtain rfl := hf.ad (by omega)
  exact ⟨vs, g, cap, q, rfl, h0, hl, ht, h1, h2, hB (by omega), hf, hq, ho, hr⟩
set_option maxHeartbeats 4000000 in
theorem l20Fit (B r g cap : Nat) (cs : List CT) (n p : Int) (w : World) (h : RdOk B r w p) (hp : p ≤ 100000000) (hn : n ≤ 1000) (hA : Fl w g 0 (some ⟨g, 0, none⟩) (flatC cs)) (hgr : g ≠ r) (h0 : 0 < cs.length) (h6 : cs.length ≤ 100) : Calls Try.prog 116 #[.pointer (some ⟨r, 0, none⟩), .slice (some ⟨g, 0, none⟩) cs.length cap, .int .i64 n] w (DrewR B r p cs.length w) := by
  obtain ⟨i0, hi, iz0, iz1, iz2⟩ := info_parts infoV
  have hlt := h.lt
  have hge := h.ge
  have hp0 := h.p0
  have HA := Lib.hid hA
  have HR0 := Lib.hid (h.alloc (.cells #[] 73))
  have HO0 := Lib.hid ((Only.refl r w).alloc (.cells #[] 73))
  have OWN0 := Lib.hid (own_empty3 (w := w) (B := w.heap.size) 73 3 rfl (Nat.le_refl _))
  clear h hA
  go_enter Try.func116, Try.ntmps116
  go_wp2
  go_loopw [7, 8] (fun vx kx wr => ∃ (k : Nat) (vs : List VT) (q : Int), k ≤ cs.length ∧ kx = .int .i64 k ∧ vs.length = k ∧ q ≤ p + 20 * k ∧ Hid (wr.ownsRow w.heap.size 73 3 vx vs.length (flatV vs)) ∧ Hid (Texts vs) ∧ Hid (RdOk B r wr q) ∧ Hid (Only r w wr)) (fun _ kx _ => cs.length - (intOf kx).toNat)
  case atStart => exact ⟨0, [], p, Nat.zero_le _, rfl, rfl, by omega, OWN0, fun v hv => absurd hv (by simp), HR0, HO0⟩
  case round =>
    clear OWN0 HR0 HO0
    obtain ⟨k, vs, q, hk, rfl, hlv, hqk, OWN, HT, HR, HO⟩ := hrel
    have hq0 := HR.out.p0
    have HLV := Lib.hid hlv
    have hv100 : vs.length ≤ 100 := by omega
    clear hlv
    by_cases hk2 : k < cs.length
    · obtain ⟨-, hg2, c0, c1⟩ := (HA.out.only HO.out (fun _ => hgr)).cl k hk2
      obtain ⟨C, hC⟩ : ∃ C, cs[k]'hk2 = C := ⟨_, rfl⟩
      rw [hC] at c0 c1
      obtain ⟨c, b⟩ := C
      simp only at c0 c1
      clear hC
      simp only [Nat.zero_add] at c0 c1
      have i0' : (0 : Int) ≤ (k : Int) := by omega
      have i1' : (k : Int) < (cs.length : Int) := by omega
      go_wp2_with (first
        | (go_at_call 144; (with_reducible refine (l20Like B r c b q _ (by repeat (with_reducible first | exact HR.out | apply RdOk.alloc | apply RdOk.drew | (refine RdOk.setFar ?_ (by first | omega | (simp; done) | (simp; omega)) _))) (by omega)).mono ?_); rintro e w1 ⟨x, n1, s, q2, rfl, hx0, hx1, hn0, hn1, hs, hq2, ho, hr⟩; have HOn := Lib.hid (Only.trans (by repeat (with_reducible first | exact HO.out | apply Only.alloc | apply Only.drew | (refine Only.setNew ?_ (by first | omega | (simp; done) | (simp; omega)) _))) ho); have K0 := Lib.hid (own_only2 (by repeat (with_reducible first | exact OWN.out | apply World.ownsRow.alloc | apply own_drew)) (by omega) ho); clear OWN; have OWN := K0; clear K0; clear HO HR; have HO := HOn; have HR := Lib.hid hr; clear HOn hr; skip; clear ho)
        | (at_builtin; refine wpList_append_own _ rfl (.tmp 16) (.tmp 23) 53 rfl w.heap.size 73 i0 (.agg #[.int .i64 0, .int .i64 0, .string ⟨#[]⟩]) 3 32 Try.underlying53 hi iz0 iz1 iz2 rfl (by decide) u7 vs.length (flatV vs) rfl (by repeat (with_reducible first | exact OWN.out | apply World.ownsRow.alloc | apply own_drew)) _ _ _ (flatV [(x, n1, s)]) rfl rfl (news_new (by first | rfl | simp)) (by simp [flatV, Value.oneCell']) (by unfold maxLen; omega) (by omega) (by have := HO.out.size; first | omega | (simp; omega)) ?_; intro v2 w2 hown2 hgr2 _; have OWN2 := Lib.hid hown2; have HR2 := Lib.hid (rd_grown (by repeat (with_reducible first | exact HR.out | apply RdOk.alloc | apply RdOk.drew | (refine RdOk.setFar ?_ (by first | omega | (simp; done) | (simp; omega)) _))) hgr2 (fun k hk => by have := (OWN.out.lt k hk).1; omega)); have HO2 := Lib.hid (Only.grown (by repeat (with_reducible first | exact HO.out | apply Only.alloc | apply Only.drew | (refine Only.setNew ?_ (by first | omega | (simp; done) | (simp; omega)) _))) hgr2 (fun k hk => (OWN.out.lt k hk).1)); clear hown2 hgr2))
      refine ⟨⟨k + 1, vs ++ [(x, n1, s)], _, by omega, by go_num, ?_, ?_, ?_, HT.out.app (fun v hv => by simp at hv; subst hv; exact hs), HR2, HO2⟩, by simp [intOf]; omega⟩
      · have := HLV.out; simp; omega
      · omega
      · have := OWN2.out
        rw [flatV_app, List.length_append]
        exact this
    · have hvl : vs.length = cs.length := by have := HLV.out; omega
      have hv0 : 0 < vs.length := by omega
      obtain ⟨g2, cap2, rfl, hg2, hg3⟩ := OWN.out.form hv0
      have HVL := Lib.hid hvl
      have hgr2 : r < g2 := by omega
      clear hvl
      have hq00 := HR.out.p0
      go_wp2_with ((go_at_call 117; (with_reducible refine (odd B r n q _ (by repeat (with_reducible first | exact HR.out | apply RdOk.alloc | apply RdOk.drew | (refine RdOk.setFar ?_ (by first | omega | (simp; done) | (simp; omega)) _))) (by omega) hn).mono ?_); rintro e w1 ⟨v, q1, rfl, hq1, ho, hr⟩; have HOn := Lib.hid (Only.trans (by repeat (with_reducible first | exact HO.out | apply Only.alloc | apply Only.drew | (refine Only.setNew ?_ (by first | omega | (simp; done) | (simp; omega)) _))) ho); have K0 := Lib.hid (own_only2 (by repeat (with_reducible first | exact OWN.out | apply World.ownsRow.alloc | apply own_drew)) (by omega) ho); clear OWN; have OWN := K0; clear K0; clear HO HR; have HO := HOn; have HR := Lib.hid hr; clear HOn hr; skip; clear ho))
      · go_upto_region 9 with ((go_at_call 93; (with_reducible refine (pick B r 3 q1 _ (by repeat (with_reducible first | exact HR.out | apply RdOk.alloc | apply RdOk.drew | (refine RdOk.setFar ?_ (by first | omega | (simp; done) | (simp; omega)) _))) (by omega)).mono ?_); rintro e w1 ⟨m3, rfl, h30, h31, h32, ho, hr⟩; have HOn := Lib.hid (Only.trans (by repeat (with_reducible first | exact HO.out | apply Only.alloc | apply Only.drew | (refine Only.setNew ?_ (by first | omega | (simp; done) | (simp; omega)) _))) ho); have K0 := Lib.hid (own_only2 (by repeat (with_reducible first | exact OWN.out | apply World.ownsRow.alloc | apply own_drew)) (by omega) ho); clear OWN; have OWN := K0; clear K0; clear HO HR; have HO := HOn; have HR := Lib.hid hr; clear HOn hr; have h31 := h31 (by omega); clear h32; clear ho))
        obtain h | h | h : m3 = 0 ∨ m3 = 1 ∨ m3 = 2 := by omega
        · subst h
          go_wp2_with ((at_builtin; refine wpList_append_own _ rfl (.tmp 41) (.tmp 43) 53 rfl w.heap.size 73 i0 (.agg #[.int .i64 0, .int .i64 0, .string ⟨#[]⟩]) 3 32 Try.underlying53 hi iz0 iz1 iz2 rfl (by decide) (.slice (some ⟨g2, 0, none⟩) vs.length cap2) vs.length (flatV vs) rfl (by repeat (with_reducible first | exact OWN.out | apply World.ownsRow.alloc | apply own_drew)) _ _ _ (flatV [(0, 0, ⟨#[]⟩)]) rfl rfl (news_new (by first | rfl | simp)) (by simp [flatV, Value.oneCell']) (by unfold maxLen; omega) (by omega) (by have := HO.out.size; first | omega | (simp; omega)) ?_; intro v2 w2 hown2 hgr2 _; have OWN2 := Lib.hid hown2; have HR2 := Lib.hid (rd_grown (by repeat (with_reducible first | exact HR.out | apply RdOk.alloc | apply RdOk.drew | (refine RdOk.setFar ?_ (by first | omega | (simp; done) | (simp; omega)) _))) hgr2 (fun k hk => by have := (OWN.out.lt k hk).1; omega)); have HO2 := Lib.hid (Only.grown (by repeat (with_reducible first | exact HO.out | apply Only.alloc | apply Only.drew | (refine Only.setNew ?_ (by first | omega | (simp; done) | (simp; omega)) _))) hgr2 (fun k hk => (OWN.out.lt k hk).1)); clear hown2 hgr2))
          go_ret
          refine drewR_of (vs := vs ++ [(0, 0, ⟨#[]⟩)]) ?_ (by simp) (by have := HVL.out; simp; omega) (HT.out.app (fun v hv => by simp at hv; subst hv; exact Nat.zero_le _)) (by have := HVL.out; omega) HO2.out HR2.out
          rw [flatV_app, List.length_append]
          exact OWN2.out
        · subst h
          go_wp2_with (first
            | (go_at_call 93; (with_reducible refine (pick B r (vs.length : Int) _ _ (by repeat (with_reducible first | exact HR.out | apply RdOk.alloc | apply RdOk.drew | (refine RdOk.setFar ?_ (by first | omega | (simp; done) | (simp; omega)) _))) (by omega)).mono ?_); rintro e w1 ⟨mi, rfl, hi0, hi1, hi2, ho, hr⟩; have HOn := Lib.hid (Only.trans (by repeat (with_reducible first | exact HO.out | apply Only.alloc | apply Only.drew | (refine Only.setNew ?_ (by first | omega | (simp; done) | (simp; omega)) _))) ho); have K0 := Lib.hid (own_only2 (by repeat (with_reducible first | exact OWN.out | apply World.ownsRow.alloc | apply own_drew)) (by omega) ho); clear OWN; have OWN := K0; clear K0; clear HO HR; have HO := HOn; have HR := Lib.hid hr; clear HOn hr; have hi1 := hi1 (by omega); clear hi2; obtain ⟨ix, rfl⟩ : ∃ i : Nat, mi = (i : Int) := ⟨mi.toNat, by omega⟩; clear ho)
            | ((go_at_call 118; (with_reducible refine (l20Value B r 3 _ _ (by repeat (with_reducible first | exact HR.out | apply RdOk.alloc | apply RdOk.drew | (refine RdOk.setFar ?_ (by first | omega | (simp; done) | (simp; omega)) _))) (by omega) (by omega)).mono ?_); rintro e w1 ⟨xa, na, sa, qa, rfl, -, -, -, -, hsa, hqa, ho, hr⟩; have HOn := Lib.hid (Only.trans (by repeat (with_reducible first | exact HO.out | apply Only.alloc | apply Only.drew | (refine Only.setNew ?_ (by first | omega | (simp; done) | (simp; omega)) _))) ho); have K0 := Lib.hid (own_only2 (by repeat (with_reducible first | exact OWN.out | apply World.ownsRow.alloc | apply own_drew)) (by omega) ho); clear OWN; have OWN := K0; clear K0; clear HO HR; have HO := HOn; have HR := Lib.hid hr; clear HOn hr; obtain ⟨⟨y0, f0⟩, ⟨y1, f1⟩, ⟨y2, f2⟩, z0, z1, z2⟩ := own_cells OWN.out ix (by omega); clear ho)))
          go_ret
          refine drewR_of (vs := vs.set ix (xa, na, sa)) ?_ (by simp; omega) (by have := HVL.out; simp; omega) (HT.out.set _ _ hsa) (by have := HVL.out; omega) (((HO.out.setNew hg2 _).setNew hg2 _).setNew hg2 _) (((HR.out.setFar hgr2 _).setFar hgr2 _).setFar hgr2 _)
          rw [List.length_set]
          exact own_setV OWN.out (xa, na, sa)
        · subst h
          go_wp2_with (first
            | ((fail_if_success (have _ := SB)); (go_at_call 118; (with_reducible refine (l20Value B r 0 _ _ (by repeat (with_reducible first | exact HR.out | apply RdOk.alloc | apply RdOk.drew | (refine RdOk.setFar ?_ (by first | omega | (simp; done) | (simp; omega)) _))) (by omega) (by omega)).mono ?_); rintro e w1 ⟨xb, nb, sb, qb, rfl, -, -, -, -, hsb, hqb, ho, hr⟩; have HOn := Lib.hid (Only.trans (by repeat (with_reducible first | exact HO.out | apply Only.alloc | apply Only.drew | (refine Only.setNew ?_ (by first | omega | (simp; done) | (simp; omega)) _))) ho); have K0 := Lib.hid (own_only2 (by repeat (with_reducible first | exact OWN.out | apply World.ownsRow.alloc | apply own_drew)) (by omega) ho); clear OWN; have OWN := K0; clear K0; clear HO HR; have HO := HOn; have HR := Lib.hid hr; clear HOn hr; have SB := True.intro; clear ho))
            | (have _ := SB; (fail_if_success (have _ := SC)); (go_at_call 118; (with_reducible refine (l20Value B r 0 _ _ (by repeat (with_reducible first | exact HR.out | apply RdOk.alloc | apply RdOk.drew | (refine RdOk.setFar ?_ (by first | omega | (simp; done) | (simp; omega)) _))) (by omega) (by omega)).mono ?_); rintro e w1 ⟨xc, nc, sc, qc, rfl, -, -, -, -, hsc, hqc, ho, hr⟩; have HOn := Lib.hid (Only.trans (by repeat (with_reducible first | exact HO.out | apply Only.alloc | apply Only.drew | (refine Only.setNew ?_ (by first | omega | (simp; done) | (simp; omega)) _))) ho); have K0 := Lib.hid (own_only2 (by repeat (with_reducible first | exact OWN.out | apply World.ownsRow.alloc | apply own_drew)) (by omega) ho); clear OWN; have OWN := K0; clear K0; clear HO HR; have HO := HOn; have HR := Lib.hid hr; clear HOn hr; have SC := True.intro; clear ho))
            | (have _ := SC; (fail_if_success (have _ := SD)); (go_at_call 118; (with_reducible refine (l20Value B r 0 _ _ (by repeat (with_reducible first | exact HR.out | apply RdOk.alloc | apply RdOk.drew | (refine RdOk.setFar ?_ (by first | omega | (simp; done) | (simp; omega)) _))) (by omega) (by omega)).mono ?_); rintro e w1 ⟨xd, nd, sd, qd, rfl, -, -, -, -, hsd, hqd, ho, hr⟩; have HOn := Lib.hid (Only.trans (by repeat (with_reducible first | exact HO.out | apply Only.alloc | apply Only.drew | (refine Only.setNew ?_ (by first | omega | (simp; done) | (simp; omega)) _))) ho); have K0 := Lib.hid (own_only2 (by repeat (with_reducible first | exact OWN.out | apply World.ownsRow.alloc | apply own_drew)) (by omega) ho); clear OWN; have OWN := K0; clear K0; clear HO HR; have HO := HOn; have HR := Lib.hid hr; clear HOn hr; have SD := True.intro; clear ho))
            | (have _ := SD; at_builtin; refine wpList_append_own _ rfl (.tmp 30) (.tmp 37) 53 rfl w.heap.size 73 i0 (.agg #[.int .i64 0, .int .i64 0, .string ⟨#[]⟩]) 3 32 Try.underlying53 hi iz0 iz1 iz2 rfl (by decide) (.slice (some ⟨g2, 0, none⟩) vs.length cap2) vs.length (flatV vs) rfl (by repeat (with_reducible first | exact OWN.out | apply World.ownsRow.alloc | apply own_drew)) _ _ _ (flatV [(xb, nb, sb), (xc, nc, sc), (xd, nd, sd)]) rfl rfl (news_new (by first | rfl | simp)) (by simp [flatV, Value.oneCell']) (by unfold maxLen; omega) (by omega) (by have := HO.out.size; first | omega | (simp; omega)) ?_; intro v2 w2 hown2 hgr2 _; have OWN2 := Lib.hid hown2; have HR2 := Lib.hid (rd_grown (by repeat (with_reducible first | exact HR.out | apply RdOk.alloc | apply RdOk.drew | (refine RdOk.setFar ?_ (by first | omega | (simp; done) | (simp; omega)) _))) hgr2 (fun k hk => by have := (OWN.out.lt k hk).1; omega)); have HO2 := Lib.hid (Only.grown (by repeat (with_reducible first | exact HO.out | apply Only.alloc | apply Only.drew | (refine Only.setNew ?_ (by first | omega | (simp; done) | (simp; omega)) _))) hgr2 (fun k hk => (OWN.out.lt k hk).1)); clear hown2 hgr2))
          go_ret
          refine drewR_of (vs := vs ++ [(xb, nb, sb), (xc, nc, sc), (xd, nd, sd)]) ?_ (by simp) (by have := HVL.out; simp; omega) (HT.out.app (fun v hv => by simp at hv; rcases hv with rfl | rfl | rfl <;> assumption)) (by have := HVL.out; omega) HO2.out HR2.out
          rw [flatV_app, List.length_append]
          exact OWN2.out
      · go_ret
        exact drewR_of OWN.out hv0 (by have := HVL.out; omega) HT.out (by have := HVL.out; omega) HO.out HR.out
end Go.Proofs.Ytjidkjnlnenmbaa.Val
