/- What drawing a part leaves (l20Like of a kind, l20Leaf). -/
import Derived.Test.YtjidkjnlnenmbaaDrawS2
import Derived.Test.YtjidkjnlnenmbaaEMathA
import Derived.Test.YtjidkjnlnenmbaaFlP
namespace Go.Proofs.Ytjidkjnlnenmbaa.Val
open Go.RowKit
set_option linter.unusedVariables false
set_option linter.unusedSimpArgs false
/-- A value of the kind was drawn. -/
def LikeP (B r : Nat) (c p : Int) (w : World) (e : Ending) (w' : World) : Prop := ∃ (n : Int) (s : ByteArray) (q : Int), e = .returned (.agg #[.int .i64 c, .int .i64 n, .string s]) ∧ okB c n s = true ∧ s.size ≤ 20 ∧ q ≤ p + 20 ∧ Only r w w' ∧ RdOk B r w' q
theorem like_end {B r : Nat} {p q c n : Int} {s : ByteArray} {x y z : Value} {w W : World} (ho : Only r w W) (hr : RdOk B r W q) (hl : r < w.heap.size) (hq : q ≤ p + 20) (h1 : okB c n s = true) (h3 : s.size ≤ 20) :
    LikeP B r c p w (.returned (.agg #[.int .i64 c, .int .i64 n, .string s])) (((W.setCell ⟨w.heap.size + 1, 0, none⟩ x).setCell ⟨w.heap.size + 1, 1, none⟩ y).setCell ⟨w.heap.size + 1, 2, none⟩ z) :=
  ⟨n, s, q, rfl, h1, h3, hq, ((ho.setNew (Nat.le_succ _) _).setNew (Nat.le_succ _) _).setNew (Nat.le_succ _) _, ((hr.setFar (Nat.lt_succ_of_lt hl) _).setFar (Nat.lt_succ_of_lt hl) _).setFar (Nat.lt_succ_of_lt hl) _⟩
theorem ok_four (m : Int) (h0 : 0 ≤ m) (h4 : m < 4) : okB 1 m ⟨#[]⟩ = true := by simp [okB, numB]; omega
theorem ok_fourT (m : Int) : okB 2 0 (fourT m) = true := by
  unfold fourT; repeat' split
  all_goals decide
theorem ok_two (m : Int) (h0 : 0 ≤ m) (h4 : m < 2) : okB 3 m ⟨#[]⟩ = true := by
  have : m = 0 ∨ m = 1 := by omega
  rcases this with rfl | rfl <;> simp [okB]
set_option maxHeartbeats 4000000 in
theorem l20LikeK (B r : Nat) (c : Int) (p : Int) (w : World) (h : RdOk B r w p) (hp : p ≤ 900000000) (hc : c = 1 ∨ c = 2 ∨ c = 3) : Calls Try.prog 144 #[.pointer (some ⟨r, 0, none⟩), .agg #[.int .i64 c, .bool false]] w (LikeP B r c p w) := by
  have hlt := h.lt
  have hge := h.ge
  have hp0 := h.p0
  have n0 : ¬ (w.heap.size = r) := by omega
  have n1 : ¬ (w.heap.size + 1 = r) := by omega
  have n2 : ¬ (w.heap.size + 1 + 1 = r) := by omega
  have HR := Lib.hid h
  have HO := Lib.hid (Only.refl r w)
  clear h
  rcases hc with rfl | rfl | rfl
  · go_enter Try.func144, Try.ntmps144
    have HL := Lib.hid (LK.new w 1 false 89 73)
    go_wp2_with ((go_at_call 93; (with_reducible refine (pick B r _ _ _ (by repeat (with_reducible first | exact HR.out | apply RdOk.alloc | apply RdOk.drew | (refine RdOk.setFar ?_ (by first | omega | (simp; done) | (simp; omega)) _))) (by omega)).mono ?_); rintro e w1 ⟨m, rfl, hm0, hm1, hm2, ho, hr⟩; have HOn := Lib.hid (Only.trans (by repeat (with_reducible first | exact HO.out | apply Only.alloc | apply Only.drew | (refine Only.setNew ?_ (by first | omega | (simp; done) | (simp; omega)) _))) ho); clear HO HR; have HO := HOn; have HR := Lib.hid hr; clear HOn hr; have hm1 := hm1 (by omega); clear hm2; have HLn := Lib.hid (LK.only (w := w) (c := 1) (by (repeat (with_reducible first | exact HL.out | apply LK.alloc))) hlt ho); clear HL; have HL := HLn; clear HLn; obtain ⟨e0, e1, e2, e3, e4, e5, e6, e7, e8⟩ := HL.out; clear ho))
    all_goals
      (refine bodyPost_ret (v := .agg #[.int .i64 1, .int .i64 m, .string (⟨#[]⟩)]) ?_ rfl ?_
       · (simp [results, Try.results144, go_sem, *]; done)
       · exact like_end HO.out HR.out hlt (by omega) (ok_four m hm0 hm1) (by decide))
  · go_enter Try.func144, Try.ntmps144
    have HL := Lib.hid (LK.new w 2 false 89 73)
    go_wp2_with ((go_at_call 93; (with_reducible refine (pick B r _ _ _ (by repeat (with_reducible first | exact HR.out | apply RdOk.alloc | apply RdOk.drew | (refine RdOk.setFar ?_ (by first | omega | (simp; done) | (simp; omega)) _))) (by omega)).mono ?_); rintro e w1 ⟨m, rfl, hm0, hm1, hm2, ho, hr⟩; have HOn := Lib.hid (Only.trans (by repeat (with_reducible first | exact HO.out | apply Only.alloc | apply Only.drew | (refine Only.setNew ?_ (by first | omega | (simp; done) | (simp; omega)) _))) ho); clear HO HR; have HO := HOn; have HR := Lib.hid hr; clear HOn hr; have hm1 := hm1 (by omega); clear hm2; (try (have hN := fourT_cells ho (by first | omega | (simp; done) | (simp; omega)) hm0 hm1; (try simp only [World.size_alloc] at hN))); have HLn := Lib.hid (LK.only (w := w) (c := 2) (by (repeat (with_reducible first | exact HL.out | apply LK.alloc))) hlt ho); clear HL; have HL := HLn; clear HLn; obtain ⟨e0, e1, e2, e3, e4, e5, e6, e7, e8⟩ := HL.out; clear ho))
    all_goals
      (refine bodyPost_ret (v := .agg #[.int .i64 2, .int .i64 0, .string (fourT m)]) ?_ rfl ?_
       · (simp [results, Try.results144, go_sem, *]; done)
       · exact like_end HO.out HR.out hlt (by omega) (ok_fourT m) (fourT_size m))
  · go_enter Try.func144, Try.ntmps144
    have HL := Lib.hid (LK.new w 3 false 89 73)
    go_wp2_with ((go_at_call 93; (with_reducible refine (pick B r _ _ _ (by repeat (with_reducible first | exact HR.out | apply RdOk.alloc | apply RdOk.drew | (refine RdOk.setFar ?_ (by first | omega | (simp; done) | (simp; omega)) _))) (by omega)).mono ?_); rintro e w1 ⟨m, rfl, hm0, hm1, hm2, ho, hr⟩; have HOn := Lib.hid (Only.trans (by repeat (with_reducible first | exact HO.out | apply Only.alloc | apply Only.drew | (refine Only.setNew ?_ (by first | omega | (simp; done) | (simp; omega)) _))) ho); clear HO HR; have HO := HOn; have HR := Lib.hid hr; clear HOn hr; have hm1 := hm1 (by omega); clear hm2; have HLn := Lib.hid (LK.only (w := w) (c := 3) (by (repeat (with_reducible first | exact HL.out | apply LK.alloc))) hlt ho); clear HL; have HL := HLn; clear HLn; obtain ⟨e0, e1, e2, e3, e4, e5, e6, e7, e8⟩ := HL.out; clear ho))
    all_goals
      (refine bodyPost_ret (v := .agg #[.int .i64 3, .int .i64 m, .string (⟨#[]⟩)]) ?_ rfl ?_
       · (simp [results, Try.results144, go_sem, *]; done)
       · exact like_end HO.out HR.out hlt (by omega) (ok_two m hm0 hm1) (by decide))
/-- A part that puts down one value of the kind was drawn. -/
def LeafP (cs : List CT) (kind : Int) (B r : Nat) (p : Int) (w : World) (e : Ending) (w' : World) : Prop := ∃ (x : PT) (q : Int), e = .returned (aggP x) ∧ (∀ st, stepK cs x st = some (kind :: st)) ∧ x.2.2.2.2.size ≤ 20 ∧ q ≤ p + 60 ∧ Only r w w' ∧ RdOk B r w' q
theorem leaf_val {cs : List CT} {c n : Int} {s : ByteArray} (h : okB c n s = true) (hc : c = 1 ∨ c = 2 ∨ c = 3) : ∀ st, stepK cs (1, 0, (c, n, s)) st = some (c :: st) := by
  intro st
  unfold stepK
  have hb : partBad (1, 0, (c, n, s)) = false := by simp [partBad]
  rw [hb]
  simp only [Bool.false_eq_true, if_false, if_true]
  rw [if_pos ⟨h, by first | omega | (simp; omega) | (dsimp only; omega)⟩]
theorem leaf_col {cs : List CT} {k : Nat} {c : CT} (h : k < cs.length) (hc : cs[k] = c) : ∀ st, stepK cs (2, (k : Int), nilV) st = some (c.1 :: st) := by
  intro st
  unfold stepK
  have hb : partBad (2, (k : Int), nilV) = false := by simp [partBad, isNil, nilV]
  rw [hb]
  simp only [Bool.false_eq_true, if_false, if_true]
  rw [if_neg (by decide), if_pos ⟨by first | omega | (simp; done) | (dsimp only; omega), by first | omega | (simp; done) | (dsimp only; omega)⟩]
  simp [colAt, List.getD_eq_getElem?_getD, h, hc]
set_option maxHeartbeats 4000000 in
theorem l20Leaf (B r g o cap : Nat) (A : Option Addr) (cs : List CT) (kind p : Int) (w : World) (h : RdOk B r w p) (hp : p ≤ 800000000) (hA : Fl w g o A (flatC cs)) (hgr : g ≠ r) (hk : kind = 1 ∨ kind = 2 ∨ kind = 3) (h6 : cs.length ≤ 100) : Calls Try.prog 131 #[.pointer (some ⟨r, 0, none⟩), .slice A cs.length cap, .int .i64 kind] w (LeafP cs kind B r p w) := by
  have hlt := h.lt
  have hge := h.ge
  have hp0 := h.p0
  have HA := Lib.hid hA
  have HR0 := Lib.hid h
  clear h hA
  obtain ⟨W0, hW0⟩ : ∃ W0, W0 = (w.alloc (.cells #[.int .i64 0, .int .i64 0, .int .i64 0, .int .i64 0, .string ⟨#[]⟩] 105)) := ⟨_, rfl⟩
  have hs0 : W0.heap.size = w.heap.size + 1 := by rw [hW0]; simp
  have HR1 := Lib.hid (show RdOk B r W0 p by rw [hW0]; exact HR0.out.alloc _)
  have HOW := Lib.hid (show Only r w W0 by rw [hW0]; exact (Only.refl r w).alloc _)
  have HAW := Lib.hid (show Fl W0 g o A (flatC cs) by rw [hW0]; exact HA.out.alloc _)
  have BX := Lib.hid (show (∀ u, Only r W0 u → (u.cell? ⟨w.heap.size, 0, none⟩ = some (.int .i64 0) ∧ u.cell? ⟨w.heap.size, 1, none⟩ = some (.int .i64 0) ∧ u.cell? ⟨w.heap.size, 2, none⟩ = some (.int .i64 0) ∧ u.cell? ⟨w.heap.size, 3, none⟩ = some (.int .i64 0) ∧ u.cell? ⟨w.heap.size, 4, none⟩ = some (.string ⟨#[]⟩)) ∧ u.frozen? ⟨w.heap.size, 0, none⟩ = false ∧ u.frozen? ⟨w.heap.size, 1, none⟩ = false ∧ u.frozen? ⟨w.heap.size, 2, none⟩ = false ∧ u.frozen? ⟨w.heap.size, 3, none⟩ = false ∧ u.frozen? ⟨w.heap.size, 4, none⟩ = false) from fun u hu => by
    have c := fun j => hu.cell w.heap.size j (by omega) (by omega)
    have f := fun j => hu.frozen w.heap.size j (by omega) (by omega)
    rw [c, c, c, c, c, f, f, f, f, f, hW0]
    simp [go_sem])
  have HO0 := Lib.hid (Only.refl r W0)
  clear HR0
  go_enter Try.func131, Try.ntmps131
  go_wp2
  go_loopw [7] (fun ax wr => ∃ (a : Nat) (q : Int), a ≤ 4 ∧ ax = .int .i64 a ∧ q ≤ p + 2 * a ∧ Hid (RdOk B r wr q) ∧ Hid (Only r W0 wr)) (fun ax _ => 4 - (intOf ax).toNat)
  case atStart => exact ⟨0, p, by omega, rfl, by omega, by rw [← hW0]; exact HR1, by rw [← hW0]; exact HO0⟩
  case round =>
    clear HO0 HR1
    obtain ⟨a, q, ha, rfl, hqa, HR, HO⟩ := hrel
    have hq0 := HR.out.p0
    have hws := HO.out.size
    have hrl : r < wr.heap.size := by omega
    have hne : g ≠ r := hgr
    have HAR := Lib.hid (Fl.only HAW.out HO.out (fun _ => hgr))
    by_cases ha4 : a < 4 ∧ 0 < cs.length
    · obtain ⟨ha4, hcl⟩ := ha4
      have ha4' : (a : Int) < 4 := by omega
      have hcl' : (0 : Int) < (cs.length : Int) := by omega
      obtain ⟨rfl, -⟩ := HAR.out.cl 0 hcl
      go_wp2_with (first
        | ((fail_if_success (have _ := S1)); (go_at_call 93; (with_reducible refine (pick B r (cs.length : Int) _ _ (by repeat (with_reducible first | exact HR.out | apply RdOk.alloc | apply RdOk.drew | (refine RdOk.setFar ?_ (by first | omega | (simp; done) | (simp; omega)) _))) (by omega)).mono ?_); rintro e w1 ⟨mi, rfl, hi0, hi1, hi2, ho, hr⟩; have HOn := Lib.hid (Only.trans (by repeat (with_reducible first | exact HO.out | apply Only.alloc | apply Only.drew | (refine Only.setNew ?_ (by first | omega | (simp; done) | (simp; omega)) _))) ho); have K0 := Lib.hid (Fl.only (by (repeat (with_reducible first | exact HAR.out | apply Fl.alloc | apply Fl.drew))) ho (by omega)); clear HAR; have HAR := K0; clear K0; clear HO HR; have HO := HOn; have HR := Lib.hid hr; clear HOn hr; have hi1 := hi1 (by omega); clear hi2; obtain ⟨ix, rfl⟩ : ∃ i : Nat, mi = (i : Int) := ⟨mi.toNat, by omega⟩; have hix : ix < cs.length := (by omega); obtain ⟨-, hgl, c0, c1⟩ := HAR.out.cl ix hix; obtain ⟨C, hC⟩ : ∃ C, cs[ix]'hix = C := ⟨_, rfl⟩; have HLC := Lib.hid (leaf_col hix hC); rw [hC] at c0 c1; obtain ⟨ck, cb⟩ := C; simp only at c0 c1 HLC; clear hC; have i1' : (ix : Int) < (cs.length : Int) := (by omega); clear ho); have S1 := True.intro)
        | (have _ := S1; (fail_if_success (have _ := S2)); (go_at_call 93; (with_reducible refine (pick B r 3 _ _ (by repeat (with_reducible first | exact HR.out | apply RdOk.alloc | apply RdOk.drew | (refine RdOk.setFar ?_ (by first | omega | (simp; done) | (simp; omega)) _))) (by omega)).mono ?_); rintro e w1 ⟨m3, rfl, h30, h31, h32, ho, hr⟩; have HOn := Lib.hid (Only.trans (by repeat (with_reducible first | exact HO.out | apply Only.alloc | apply Only.drew | (refine Only.setNew ?_ (by first | omega | (simp; done) | (simp; omega)) _))) ho); have K0 := Lib.hid (Fl.only (by (repeat (with_reducible first | exact HAR.out | apply Fl.alloc | apply Fl.drew))) ho (by omega)); clear HAR; have HAR := K0; clear K0; clear HO HR; have HO := HOn; have HR := Lib.hid hr; clear HOn hr; have h31 := h31 (by omega); clear h32; obtain ⟨⟨z0, z1, z2, z3, z4⟩, f0, f1, f2, f3, f4⟩ := BX.out _ HO.out; clear ho); have S2 := True.intro))
      all_goals first
        | exact ⟨⟨a + 1, _, by omega, by go_num, by omega, HR, HO⟩, by simp [intOf]; omega⟩
        | (change bodyPost Try.prog _ _ _ _ _; (refine bodyPost_ret (v := .agg #[.int .i64 2, .int .i64 ix, .int .i64 0, .int .i64 0, .string ⟨#[]⟩]) ?_ rfl ?_; (focus ((simp [results, Try.results131, go_sem, *]; done))); exact ⟨(2, (ix : Int), nilV), q + 1 + 1, rfl, (by have e : ck = kind := (by first | assumption | omega); rw [← e]; exact HLC.out), (by show (0 : Nat) ≤ 20; omega), by omega, by (repeat (with_reducible first | exact HOW.out.trans HO.out | (refine Only.setNew ?_ (Nat.le_refl _) _))), by (repeat (with_reducible first | exact HR.out | (refine RdOk.setFar ?_ hlt _)))⟩))
    · have hex : ¬ ((a : Int) < 4 ∧ (0 : Int) < (cs.length : Int)) := by omega
      go_wp2_with ((go_at_call 144; (with_reducible refine (l20LikeK B r kind _ _ (by repeat (with_reducible first | exact HR.out | apply RdOk.alloc | apply RdOk.drew | (refine RdOk.setFar ?_ (by first | omega | (simp; done) | (simp; omega)) _))) (by omega) hk).mono ?_); rintro e w1 ⟨n1, s1, q1, rfl, hok, hsz, hq1, ho, hr⟩; have HOn := Lib.hid (Only.trans (by repeat (with_reducible first | exact HO.out | apply Only.alloc | apply Only.drew | (refine Only.setNew ?_ (by first | omega | (simp; done) | (simp; omega)) _))) ho); clear HO HR; have HO := HOn; have HR := Lib.hid hr; clear HOn hr; obtain ⟨⟨z0, z1, z2, z3, z4⟩, f0, f1, f2, f3, f4⟩ := BX.out _ HO.out; clear ho))
      all_goals (change bodyPost Try.prog _ _ _ _ _; (refine bodyPost_ret (v := .agg #[.int .i64 1, .int .i64 0, .int .i64 kind, .int .i64 n1, .string s1]) ?_ rfl ?_; (focus ((simp [results, Try.results131, go_sem, *]; done))); exact ⟨(1, 0, (kind, n1, s1)), q1, rfl, leaf_val hok hk, hsz, by omega, by (repeat (with_reducible first | exact HOW.out.trans HO.out | (refine Only.setNew ?_ (Nat.le_refl _) _))), by (repeat (with_reducible first | exact HR.out | (refine RdOk.setFar ?_ hlt _)))⟩))
end Go.Proofs.Ytjidkjnlnenmbaa.Val
