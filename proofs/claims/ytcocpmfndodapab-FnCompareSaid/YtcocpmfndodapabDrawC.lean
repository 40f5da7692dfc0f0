/- What the draw of Compare leaves. -/
import Derived.Test.YtcocpmfndodapabDraw2
namespace Go.Proofs.Ytcocpmfndodapab.Val
open Go.RowKit
set_option linter.unusedVariables false
/-- A number and two values were drawn. -/
def DrewC (w : World) (e : Ending) (w' : World) : Prop :=
  ∃ (kd k n k2 n2 : Int) (s s2 : ByteArray), e = .returned (.tuple #[.int .i64 kd, .agg #[.int .i64 k, .int .i64 n, .string s], .agg #[.int .i64 k2, .int .i64 n2, .string s2]]) ∧ 1 ≤ kd ∧ kd ≤ 8 ∧ s.size ≤ 20 ∧ s2.size ≤ 20 ∧ Below w.heap.size w w'
/-- Three cells of a value, in a block that can be written. -/
structure V3 (wx : World) (b : Nat) (k n : Int) (s : ByteArray) : Prop where
  c0 : wx.cell? ⟨b, 0, none⟩ = some (.int .i64 k)
  c1 : wx.cell? ⟨b, 1, none⟩ = some (.int .i64 n)
  c2 : wx.cell? ⟨b, 2, none⟩ = some (.string s)
  f0 : wx.frozen? ⟨b, 0, none⟩ = false
  f1 : wx.frozen? ⟨b, 1, none⟩ = false
  f2 : wx.frozen? ⟨b, 2, none⟩ = false
theorem V3.lt {wx : World} {b : Nat} {k n : Int} {s : ByteArray} (h : V3 wx b k n s) : b < wx.heap.size := World.block_lt_of_cell? wx _ h.c0
theorem V3.only {wx wy : World} {b r : Nat} {k n : Int} {s : ByteArray} (h : V3 wx b k n s) (ho : Only r wx wy) (hr : b ≠ r) : V3 wy b k n s :=
  ⟨(ho.cell _ _ h.lt hr).trans h.c0, (ho.cell _ _ h.lt hr).trans h.c1, (ho.cell _ _ h.lt hr).trans h.c2, (ho.frozen _ _ h.lt hr).trans h.f0, (ho.frozen _ _ h.lt hr).trans h.f1, (ho.frozen _ _ h.lt hr).trans h.f2⟩
theorem V3.far {wx : World} {b b' o : Nat} {k n : Int} {s : ByteArray} (h : V3 wx b k n s) (hb : b ≠ b') (u : Value) : V3 (wx.setCell ⟨b', o, none⟩ u) b k n s :=
  ⟨(World.cell?_setCell_other _ _ _ _ (ne_off (.inr (Ne.symm hb)))).trans h.c0, (World.cell?_setCell_other _ _ _ _ (ne_off (.inr (Ne.symm hb)))).trans h.c1, (World.cell?_setCell_other _ _ _ _ (ne_off (.inr (Ne.symm hb)))).trans h.c2, (World.frozen?_setCell _ _ _ _).trans h.f0, (World.frozen?_setCell _ _ _ _).trans h.f1, (World.frozen?_setCell _ _ _ _).trans h.f2⟩
theorem V3.set {wx : World} {b : Nat} {k n : Int} {s : ByteArray} (h : V3 wx b k n s) (k' n' : Int) (s' : ByteArray) : V3 (((wx.setCell ⟨b, 0, none⟩ (.int .i64 k')).setCell ⟨b, 1, none⟩ (.int .i64 n')).setCell ⟨b, 2, none⟩ (.string s')) b k' n' s' where
  c0 := by rw [World.cell?_setCell_other _ _ _ _ (ne_off (.inl (by decide))), World.cell?_setCell_other _ _ _ _ (ne_off (.inl (by decide)))]; exact World.cell?_setCell_same _ _ _ h.c0
  c1 := by
    rw [World.cell?_setCell_other _ _ _ _ (ne_off (.inl (by decide)))]
    exact World.cell?_setCell_same _ _ _ ((World.cell?_setCell_other _ _ _ _ (ne_off (.inl (by decide)))).trans h.c1)
  c2 := World.cell?_setCell_same _ _ _ (((World.cell?_setCell_other _ _ _ _ (ne_off (.inl (by decide)))).trans (World.cell?_setCell_other _ _ _ _ (ne_off (.inl (by decide))))).trans h.c2)
  f0 := by rw [World.frozen?_setCell, World.frozen?_setCell, World.frozen?_setCell]; exact h.f0
  f1 := by rw [World.frozen?_setCell, World.frozen?_setCell, World.frozen?_setCell]; exact h.f1
  f2 := by rw [World.frozen?_setCell, World.frozen?_setCell, World.frozen?_setCell]; exact h.f2
/-- The state of the draw's loop. -/
def CLoop (w : World) (Bd r A B : Nat) (k n : Int) (s : ByteArray) (ix : Value) (wr : World) : Prop :=
  ∃ (K k2 n2 q : Int) (s2 : ByteArray), ix = .int .i64 K ∧ 0 ≤ K ∧ K ≤ 6 ∧ s2.size ≤ 20 ∧ q ≤ 100 + 20 * K ∧ V3 wr w.heap.size 0 0 ⟨#[]⟩ ∧ V3 wr (w.heap.size + 1) 0 0 ⟨#[]⟩ ∧ V3 wr A k n s ∧ V3 wr B k2 n2 s2 ∧ RdOk Bd r wr q ∧ Below w.heap.size w wr
theorem cloop_next {w wr wy : World} {Bd r A B : Nat} {k n K q q3 k2 n2 k3 n3 : Int} {s s2 s3 : ByteArray} (hAB : A ≠ B) (hwA : w.heap.size + 1 < A) (hwB : w.heap.size + 1 < B) (hrA : A ≠ r) (hrB : r < B) (hr1 : w.heap.size + 1 < r) (hK0 : 0 ≤ K) (hK : K < 6) (hq : q ≤ 100 + 20 * K) (hs3 : s3.size ≤ 20) (hq3 : q3 ≤ q + 20)
    (v0 : V3 wr w.heap.size 0 0 ⟨#[]⟩) (v1 : V3 wr (w.heap.size + 1) 0 0 ⟨#[]⟩) (vA : V3 wr A k n s) (vB : V3 wr B k2 n2 s2) (hb : Below w.heap.size w wr) (ho : Only r wr wy) (hr : RdOk Bd r wy q3) :
    CLoop w Bd r A B k n s (.int .i64 (K + 1)) (((wy.setCell ⟨B, 0, none⟩ (.int .i64 k3)).setCell ⟨B, 1, none⟩ (.int .i64 n3)).setCell ⟨B, 2, none⟩ (.string s3)) := by
  refine ⟨K + 1, k3, n3, q3, s3, rfl, by omega, by omega, hs3, by omega, ?_, ?_, ?_, ?_, ?_, ?_⟩
  · exact (((v0.only ho (by omega)).far (by omega) _).far (by omega) _).far (by omega) _
  · exact (((v1.only ho (by omega)).far (by omega) _).far (by omega) _).far (by omega) _
  · exact (((vA.only ho hrA).far hAB _).far hAB _).far hAB _
  · exact (vB.only ho (by omega)).set _ _ _
  · exact ((hr.setFar hrB _).setFar hrB _).setFar hrB _
  · have := hb.size
    exact (((hb.trans (ho.below (by omega) this)).setCell (by simp; omega) _).setCell (by simp; omega) _).setCell (by simp; omega) _
set_option maxHeartbeats 2000000 in
theorem drawCompare (a : Option Addr) (len cap : Nat) (zs : List Int) (w : World) (h : IsRow .u8 w a len cap zs) : Calls Try.prog 9 #[.slice a len cap] w (DrewC w) := by
  have HI : Hid (∀ o o', IsRow .u8 ((w.alloc o).alloc o') a len cap zs) := fun o o' => row_alloc (row_alloc h o) o'
  clear h
  go_enter Try.func9, Try.ntmps9
  go_wp2_with (first | (go_at_call 22; refine (l20Open _ _ _ _ _ (HI.out _ _)).mono ?_; rintro e w1 ⟨r, rfl, hr, hb1⟩; obtain ⟨hc1, hf1⟩ := bcell hb1; have hz1 := hb1.size; (try simp at hz1); have hge := hr.ge; (try simp at hge); have hya_1 : w.heap.size < w1.heap.size := (by omega); have hna : ¬ (w.heap.size = r) := (by omega); have hyb_1 : w.heap.size + 1 < w1.heap.size := (by omega); have hnb : ¬ (w.heap.size + 1 = r) := (by omega); have hp : (0 : Int) ≤ 0 := (by omega); have HR := Lib.hid hr; clear hr) | (go_at_call 23; (with_reducible refine (pick ?_ _ _ ?_ _ ?_ ?_).mono ?_); rotate_left 2; (repeat (with_reducible first | exact HR.out | apply RdOk.alloc | apply RdOk.drew | (refine RdOk.setFar ?_ (by first | omega | (simp; omega)) _))); omega; (try (have hc10 := hc9; have hf10 := hf9; have hz10 := hz9; have hb10 := hb9; have hya_10 := hya_9; have hyb_10 := hyb_9; clear hc9 hf9 hz9 hb9 hya_9 hyb_9)); (try (have hc9 := hc8; have hf9 := hf8; have hz9 := hz8; have hb9 := hb8; have hya_9 := hya_8; have hyb_9 := hyb_8; clear hc8 hf8 hz8 hb8 hya_8 hyb_8)); (try (have hc8 := hc7; have hf8 := hf7; have hz8 := hz7; have hb8 := hb7; have hya_8 := hya_7; have hyb_8 := hyb_7; clear hc7 hf7 hz7 hb7 hya_7 hyb_7)); (try (have hc7 := hc6; have hf7 := hf6; have hz7 := hz6; have hb7 := hb6; have hya_7 := hya_6; have hyb_7 := hyb_6; clear hc6 hf6 hz6 hb6 hya_6 hyb_6)); (try (have hc6 := hc5; have hf6 := hf5; have hz6 := hz5; have hb6 := hb5; have hya_6 := hya_5; have hyb_6 := hyb_5; clear hc5 hf5 hz5 hb5 hya_5 hyb_5)); (try (have hc5 := hc4; have hf5 := hf4; have hz5 := hz4; have hb5 := hb4; have hya_5 := hya_4; have hyb_5 := hyb_4; clear hc4 hf4 hz4 hb4 hya_4 hyb_4)); (try (have hc4 := hc3; have hf4 := hf3; have hz4 := hz3; have hb4 := hb3; have hya_4 := hya_3; have hyb_4 := hyb_3; clear hc3 hf3 hz3 hb3 hya_3 hyb_3)); (try (have hc3 := hc2; have hf3 := hf2; have hz3 := hz2; have hb3 := hb2; have hya_3 := hya_2; have hyb_3 := hyb_2; clear hc2 hf2 hz2 hb2 hya_2 hyb_2)); (try (have hc2 := hc1; have hf2 := hf1; have hz2 := hz1; have hb2 := hb1; have hya_2 := hya_1; have hyb_2 := hyb_1; clear hc1 hf1 hz1 hb1 hya_1 hyb_1)); rintro e w1 ⟨m, rfl, hm0, hm1, hm2, ho, hr⟩; have hm1 := hm1 (by omega); have hc1 := ho.cell; have hf1 := ho.frozen; (try simp only [World.size_drew, World.cell?_drew, World.frozen?_drew] at hc1 hf1); have hz1 := ho.size; (try simp at hz1); have hb1 := ho; have hya_1 : w.heap.size < w1.heap.size := (by omega); have hyb_1 : w.heap.size + 1 < w1.heap.size := (by omega); clear HR ho hm2; (try have hx4 := hx3); (try have hx3 := hx2); (try have hx2 := hx1); (try have hx1 := Nat.lt_of_succ_le hz1); (try have hnr4 := hnr3); (try have hnr3 := hnr2); (try have hnr2 := hnr1); have hlr := hr.lt; have hnr1 : ¬ (w1.heap.size = r) := (by omega); clear hlr; have HR := Lib.hid hr; clear hr))
  obtain ⟨m2, hm⟩ : ∃ x, x = m := ⟨_, rfl⟩
  subst hm
  have hrw0 := HR.out.lt
  (go_at_call 24; (with_reducible refine (l20Value ?_ _ _ ?_ _ ?_ ?_ ?_).mono ?_); rotate_left 2; (repeat (with_reducible first | exact HR.out | apply RdOk.alloc | apply RdOk.drew | (refine RdOk.setFar ?_ (by first | omega | (simp; omega)) _))); omega; omega; (try (have hc10 := hc9; have hf10 := hf9; have hz10 := hz9; have hb10 := hb9; have hya_10 := hya_9; have hyb_10 := hyb_9; clear hc9 hf9 hz9 hb9 hya_9 hyb_9)); (try (have hc9 := hc8; have hf9 := hf8; have hz9 := hz8; have hb9 := hb8; have hya_9 := hya_8; have hyb_9 := hyb_8; clear hc8 hf8 hz8 hb8 hya_8 hyb_8)); (try (have hc8 := hc7; have hf8 := hf7; have hz8 := hz7; have hb8 := hb7; have hya_8 := hya_7; have hyb_8 := hyb_7; clear hc7 hf7 hz7 hb7 hya_7 hyb_7)); (try (have hc7 := hc6; have hf7 := hf6; have hz7 := hz6; have hb7 := hb6; have hya_7 := hya_6; have hyb_7 := hyb_6; clear hc6 hf6 hz6 hb6 hya_6 hyb_6)); (try (have hc6 := hc5; have hf6 := hf5; have hz6 := hz5; have hb6 := hb5; have hya_6 := hya_5; have hyb_6 := hyb_5; clear hc5 hf5 hz5 hb5 hya_5 hyb_5)); (try (have hc5 := hc4; have hf5 := hf4; have hz5 := hz4; have hb5 := hb4; have hya_5 := hya_4; have hyb_5 := hyb_4; clear hc4 hf4 hz4 hb4 hya_4 hyb_4)); (try (have hc4 := hc3; have hf4 := hf3; have hz4 := hz3; have hb4 := hb3; have hya_4 := hya_3; have hyb_4 := hyb_3; clear hc3 hf3 hz3 hb3 hya_3 hyb_3)); (try (have hc3 := hc2; have hf3 := hf2; have hz3 := hz2; have hb3 := hb2; have hya_3 := hya_2; have hyb_3 := hyb_2; clear hc2 hf2 hz2 hb2 hya_2 hyb_2)); (try (have hc2 := hc1; have hf2 := hf1; have hz2 := hz1; have hb2 := hb1; have hya_2 := hya_1; have hyb_2 := hyb_1; clear hc1 hf1 hz1 hb1 hya_1 hyb_1)); rintro e w1 ⟨k, n, s, q, rfl, hk0, hk1, hn0, hn1, hs, hq, ho, hr⟩; have hc1 := ho.cell; have hf1 := ho.frozen; (try simp only [World.size_drew, World.cell?_drew, World.frozen?_drew] at hc1 hf1); have hz1 := ho.size; (try simp at hz1); have hb1 := ho; have hya_1 : w.heap.size < w1.heap.size := (by omega); have hyb_1 : w.heap.size + 1 < w1.heap.size := (by omega); clear HR ho; (try have hx4 := hx3); (try have hx3 := hx2); (try have hx2 := hx1); (try have hx1 := Nat.lt_of_succ_le hz1); (try have hnr4 := hnr3); (try have hnr3 := hnr2); (try have hnr2 := hnr1); have hlr := hr.lt; have hnr1 : ¬ (w1.heap.size = r) := (by omega); clear hlr; have HR := Lib.hid hr; clear hr)
  obtain ⟨wA, hwA⟩ : ∃ x, x = w1 := ⟨_, rfl⟩
  obtain ⟨k1, hk⟩ : ∃ k1, k1 = k := ⟨_, rfl⟩
  obtain ⟨n1, hn⟩ : ∃ n1, n1 = n := ⟨_, rfl⟩
  obtain ⟨s1, hs1⟩ : ∃ s1, s1 = s := ⟨_, rfl⟩
  subst hk hn hs1 hwA
  have hsA := hs
  go_wp2_with ((go_at_call 24; (with_reducible refine (l20Value ?_ _ _ ?_ _ ?_ ?_ ?_).mono ?_); rotate_left 2; (repeat (with_reducible first | exact HR.out | apply RdOk.alloc | apply RdOk.drew | (refine RdOk.setFar ?_ (by first | omega | (simp; omega)) _))); omega; omega; (try (have hc10 := hc9; have hf10 := hf9; have hz10 := hz9; have hb10 := hb9; have hya_10 := hya_9; have hyb_10 := hyb_9; clear hc9 hf9 hz9 hb9 hya_9 hyb_9)); (try (have hc9 := hc8; have hf9 := hf8; have hz9 := hz8; have hb9 := hb8; have hya_9 := hya_8; have hyb_9 := hyb_8; clear hc8 hf8 hz8 hb8 hya_8 hyb_8)); (try (have hc8 := hc7; have hf8 := hf7; have hz8 := hz7; have hb8 := hb7; have hya_8 := hya_7; have hyb_8 := hyb_7; clear hc7 hf7 hz7 hb7 hya_7 hyb_7)); (try (have hc7 := hc6; have hf7 := hf6; have hz7 := hz6; have hb7 := hb6; have hya_7 := hya_6; have hyb_7 := hyb_6; clear hc6 hf6 hz6 hb6 hya_6 hyb_6)); (try (have hc6 := hc5; have hf6 := hf5; have hz6 := hz5; have hb6 := hb5; have hya_6 := hya_5; have hyb_6 := hyb_5; clear hc5 hf5 hz5 hb5 hya_5 hyb_5)); (try (have hc5 := hc4; have hf5 := hf4; have hz5 := hz4; have hb5 := hb4; have hya_5 := hya_4; have hyb_5 := hyb_4; clear hc4 hf4 hz4 hb4 hya_4 hyb_4)); (try (have hc4 := hc3; have hf4 := hf3; have hz4 := hz3; have hb4 := hb3; have hya_4 := hya_3; have hyb_4 := hyb_3; clear hc3 hf3 hz3 hb3 hya_3 hyb_3)); (try (have hc3 := hc2; have hf3 := hf2; have hz3 := hz2; have hb3 := hb2; have hya_3 := hya_2; have hyb_3 := hyb_2; clear hc2 hf2 hz2 hb2 hya_2 hyb_2)); (try (have hc2 := hc1; have hf2 := hf1; have hz2 := hz1; have hb2 := hb1; have hya_2 := hya_1; have hyb_2 := hyb_1; clear hc1 hf1 hz1 hb1 hya_1 hyb_1)); rintro e w1 ⟨k, n, s, q, rfl, hk0, hk1, hn0, hn1, hs, hq, ho, hr⟩; have hc1 := ho.cell; have hf1 := ho.frozen; (try simp only [World.size_drew, World.cell?_drew, World.frozen?_drew] at hc1 hf1); have hz1 := ho.size; (try simp at hz1); have hb1 := ho; have hya_1 : w.heap.size < w1.heap.size := (by omega); have hyb_1 : w.heap.size + 1 < w1.heap.size := (by omega); clear HR ho; (try have hx4 := hx3); (try have hx3 := hx2); (try have hx2 := hx1); (try have hx1 := Nat.lt_of_succ_le hz1); (try have hnr4 := hnr3); (try have hnr3 := hnr2); (try have hnr2 := hnr1); have hlr := hr.lt; have hnr1 : ¬ (w1.heap.size = r) := (by omega); clear hlr; have HR := Lib.hid hr; clear hr))
  have hgr := HR.out.ge
  simp only [World.size_alloc] at hgr
  have hrw : r < wA.heap.size := by omega
  have HB : Hid (Below w.heap.size w (w1.alloc (.cells #[.int .i64 k, .int .i64 n, .string s] 24))) := by show Below _ _ _; (repeat (with_reducible first | exact Below.refl _ _ | exact HBD.out | (refine Below.trans ?_ (Below.mono hb1 (by first | omega | (simp; done) | (simp; omega))); clear hb1) | (refine Below.trans ?_ (Only.below hb1 (by first | omega | (simp; done) | (simp; omega)) (by first | omega | (simp; done) | (simp; omega))); clear hb1) | (refine Below.trans ?_ (Below.mono hb2 (by first | omega | (simp; done) | (simp; omega))); clear hb2) | (refine Below.trans ?_ (Only.below hb2 (by first | omega | (simp; done) | (simp; omega)) (by first | omega | (simp; done) | (simp; omega))); clear hb2) | (refine Below.trans ?_ (Below.mono hb3 (by first | omega | (simp; done) | (simp; omega))); clear hb3) | (refine Below.trans ?_ (Only.below hb3 (by first | omega | (simp; done) | (simp; omega)) (by first | omega | (simp; done) | (simp; omega))); clear hb3) | (refine Below.trans ?_ (Below.mono hb4 (by first | omega | (simp; done) | (simp; omega))); clear hb4) | (refine Below.trans ?_ (Only.below hb4 (by first | omega | (simp; done) | (simp; omega)) (by first | omega | (simp; done) | (simp; omega))); clear hb4) | (refine Below.trans ?_ (Below.mono hb5 (by first | omega | (simp; done) | (simp; omega))); clear hb5) | (refine Below.trans ?_ (Only.below hb5 (by first | omega | (simp; done) | (simp; omega)) (by first | omega | (simp; done) | (simp; omega))); clear hb5) | (refine Below.trans ?_ (Below.mono hb6 (by first | omega | (simp; done) | (simp; omega))); clear hb6) | (refine Below.trans ?_ (Only.below hb6 (by first | omega | (simp; done) | (simp; omega)) (by first | omega | (simp; done) | (simp; omega))); clear hb6) | (refine Below.trans ?_ (Below.mono hb7 (by first | omega | (simp; done) | (simp; omega))); clear hb7) | (refine Below.trans ?_ (Only.below hb7 (by first | omega | (simp; done) | (simp; omega)) (by first | omega | (simp; done) | (simp; omega))); clear hb7) | (refine Below.trans ?_ (Below.mono hb8 (by first | omega | (simp; done) | (simp; omega))); clear hb8) | (refine Below.trans ?_ (Only.below hb8 (by first | omega | (simp; done) | (simp; omega)) (by first | omega | (simp; done) | (simp; omega))); clear hb8) | (refine Below.trans ?_ (Below.mono hb9 (by first | omega | (simp; done) | (simp; omega))); clear hb9) | (refine Below.trans ?_ (Only.below hb9 (by first | omega | (simp; done) | (simp; omega)) (by first | omega | (simp; done) | (simp; omega))); clear hb9) | (refine Below.trans ?_ (Below.mono hb10 (by first | omega | (simp; done) | (simp; omega))); clear hb10) | (refine Below.trans ?_ (Only.below hb10 (by first | omega | (simp; done) | (simp; omega)) (by first | omega | (simp; done) | (simp; omega))); clear hb10) | refine Below.alloc ?_ (by first | omega | (simp; done) | (simp; omega)) _ | refine Below.setCell ?_ (by first | omega | (simp; done) | (simp; omega)) _ | refine Below.drew ?_))
  have HV0 : Hid (V3 (w1.alloc (.cells #[.int .i64 k, .int .i64 n, .string s] 24)) w.heap.size 0 0 ⟨#[]⟩) := by constructor <;> simp [go_sem, *]
  have HV1 : Hid (V3 (w1.alloc (.cells #[.int .i64 k, .int .i64 n, .string s] 24)) (w.heap.size + 1) 0 0 ⟨#[]⟩) := by constructor <;> simp [go_sem, *]
  have HVA : Hid (V3 (w1.alloc (.cells #[.int .i64 k, .int .i64 n, .string s] 24)) wA.heap.size k1 n1 s1) := by constructor <;> simp [go_sem, *]
  have HVB : Hid (V3 (w1.alloc (.cells #[.int .i64 k, .int .i64 n, .string s] 24)) w1.heap.size k n s) := by constructor <;> simp [go_sem, *]
  have HRR := Lib.hid (HR.out.alloc (.cells #[.int .i64 k, .int .i64 n, .string s] 24))
  clear HR hb1 hb2 hb3 hb4 hb5 hc1 hc2 hc3 hc4 hc5 hf1 hf2 hf3 hf4 hf5
  have HR := HRR
  clear HRR
  simp only [World.size_alloc] at HR
  go_loopw [9] (fun ix wr => CLoop w (w.heap.size + 1 + 1) r wA.heap.size w1.heap.size k1 n1 s1 ix wr) (fun ix _ => 6 - (intOf ix).toNat)
  case atStart => exact ⟨0, k, n, q, s, rfl, by omega, by omega, hs, by omega, HV0.out, HV1.out, HVA.out, HVB.out, HR.out, HB.out⟩
  case round =>
    obtain ⟨K, k2, n2, q2, s2, rfl, hK0, hK6, hs2, hq2, v0, v1, vA, vB, hrd, hbl⟩ := hrel
    have HN := Lib.hid (fun (wy : World) (q3 k3 n3 : Int) (s3 : ByteArray) (hK : K < 6) (hs3 : s3.size ≤ 20) (hq3 : q3 ≤ q2 + 20) (ho : Only r wr wy) (hr : RdOk (w.heap.size + 1 + 1) r wy q3) =>
      cloop_next (w := w) (k3 := k3) (n3 := n3) (show wA.heap.size ≠ w1.heap.size by omega) (by omega) (by omega) (by omega) (by omega) (by omega) hK0 hK hq2 hs3 hq3 v0 v1 vA vB hbl ho hr)
    have HB2 := Lib.hid hbl
    have HR2 := Lib.hid hrd
    have V0 := Lib.hid v0
    have V1 := Lib.hid v1
    have VA := Lib.hid vA
    have VB' := Lib.hid vB
    obtain ⟨a0, a1, a2, -, -, -⟩ := vA
    obtain ⟨b0, b1, b2, -, -, -⟩ := vB
    clear v0 v1 hrd hbl HV0 HV1 HVA HVB HR HB
    by_cases hK : K < 6 ∧ k1 ≠ k2
    · obtain ⟨hK, hk⟩ := hK
      go_wp2_with (go_at_call 24; (with_reducible refine (l20Value _ r _ q2 _ HR2.out (by omega) (by omega)).mono ?_); rintro e wy ⟨k3, n3, s3, q3, rfl, -, -, -, -, hs3, hq3, ho, hr⟩; have HX := Lib.hid (HN.out wy q3 k3 n3 s3 hK hs3 hq3 ho hr); have vB3 := VB'.out.only ho (by omega); clear ho hr; obtain ⟨d0, d1, d2, g0, g1, g2⟩ := vB3)
      exact ⟨HX.out, by simp [intOf]; omega⟩
    · obtain ⟨y0, y1, y2, z0, z1, z2⟩ := V0.out
      obtain ⟨x0, x1, x2, u0, u1, u2⟩ := V1.out
      have hKk : 6 ≤ K ∨ k1 = k2 := by omega
      go_wp2
      all_goals go_region
      all_goals go_wp2
      all_goals (exact bodyPost_ret (v := .tuple #[.int .i64 (1 + m + m2 / 19 * 4), .agg #[.int .i64 k1, .int .i64 n1, .string s1], .agg #[.int .i64 k2, .int .i64 n2, .string s2]]) (by simp [results, Try.results9, go_sem, y0, y1, y2, x0, x1, x2]) rfl ⟨_, k1, n1, k2, n2, s1, s2, rfl, by omega, by omega, hsA, hs2, by (repeat (with_reducible first | exact HB2.out | refine Below.setCell ?_ (by simp) _ | refine Below.drew ?_))⟩)
end Go.Proofs.Ytcocpmfndodapab.Val
