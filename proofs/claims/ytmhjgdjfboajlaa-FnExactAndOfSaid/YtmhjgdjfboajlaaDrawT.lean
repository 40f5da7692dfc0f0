/- What the draws of chapter 2 leave. -/
import Derived.Test.YtmhjgdjfboajlaaDraw2
namespace Go.Proofs.Ytmhjgdjfboajlaa.Val
open Go.RowKit
set_option linter.unusedVariables false
/-- One truth was drawn (or a number that is none). -/
def Truthed (B r : Nat) (p : Int) (w : World) (e : Ending) (w' : World) : Prop := ∃ m q : Int, e = .returned (.int .i64 m) ∧ -1 ≤ m ∧ m ≤ 3 ∧ q ≤ p + 3 ∧ Only r w w' ∧ RdOk B r w' q
theorem two_cells {r : Nat} {W0 w1 : World} {m : Int} {t : TypeId} (ho : Only r (W0.alloc (.cells #[.int .i64 (-1), .int .i64 3] t)) w1) (hr : r < W0.heap.size) (h0 : 0 ≤ m) (h5 : m < 2) :
    ∃ N : Int, -1 ≤ N ∧ N ≤ 3 ∧ w1.cell? ⟨W0.heap.size, m.toNat, none⟩ = some (.int .i64 N) := by
  have hc := ho.cell W0.heap.size m.toNat (by simp) (by omega)
  obtain h | h : m = 0 ∨ m = 1 := by omega
  all_goals subst h
  · exact ⟨-1, by omega, by omega, by rw [hc]; simp [go_sem]⟩
  · exact ⟨3, by omega, by omega, by rw [hc]; simp [go_sem]⟩
theorem l20Truth (B r : Nat) (n p : Int) (w : World) (h : RdOk B r w p) (hp : p ≤ 900000000) (hn : n ≤ 1000) : Calls Try.prog 57 #[.pointer (some ⟨r, 0, none⟩), .int .i64 n] w (Truthed B r p w) := by
  have H := Lib.hid h
  have hlt := h.lt
  clear h
  go_enter Try.func57, Try.ntmps57
  go_wp2_with (go_at_call 75; refine (odd B r _ p _ H.out (by omega) hn).mono ?_; rintro e w1 ⟨v, q1, rfl, hq1, ho, hr⟩; have HO := Lib.hid ho; have HR := Lib.hid hr; clear ho hr)
  · have hlt1 := HR.out.lt
    go_wp2_with (go_at_call 68; refine (pick B r _ q1 _ (HR.out.alloc _) (by omega)).mono ?_; rintro e w2 ⟨m, rfl, hm0, hm1, -, ho2, hr2⟩; have hm1 := hm1 (by omega); obtain ⟨N, hN0, hN1, hN⟩ := two_cells ho2 hlt1 hm0 hm1; have HO2 := Lib.hid (HO.out.trans ((Only.refl r w1).alloc _ |>.trans ho2)); have HR2 := Lib.hid hr2; clear ho2 hr2)
    go_ret
    exact ⟨N, q1 + 1, rfl, hN0, hN1, by omega, HO2.out, HR2.out⟩
  · go_wp2_with (go_at_call 68; refine (pick B r _ q1 _ HR.out (by omega)).mono ?_; rintro e w2 ⟨m, rfl, hm0, hm1, -, ho2, hr2⟩; have hm1 := hm1 (by omega); have HO2 := Lib.hid (HO.out.trans ho2); have HR2 := Lib.hid hr2; clear ho2 hr2)
    go_ret
    exact ⟨m, q1 + 1, rfl, by omega, by omega, by omega, HO2.out, HR2.out⟩
/-- One number was drawn. -/
def DrewT (w : World) (e : Ending) (w' : World) : Prop := ∃ m : Int, e = .returned (.int .i64 m) ∧ -1 ≤ m ∧ m ≤ 3 ∧ Below w.heap.size w w'
def DrewTT (w : World) (e : Ending) (w' : World) : Prop := ∃ m m2 : Int, e = .returned (.tuple #[.int .i64 m, .int .i64 m2]) ∧ -1 ≤ m ∧ m ≤ 3 ∧ -1 ≤ m2 ∧ m2 ≤ 3 ∧ Below w.heap.size w w'
theorem only_below {w w1 w2 : World} {r : Nat} {q : Int} (h : Below w.heap.size w w1) (hr : RdOk w.heap.size r w1 q) (ho : Only r w1 w2) : Below w.heap.size w w2 := h.trans (ho.below hr.ge h.size)
theorem drawTruthOk (a : Option Addr) (len cap : Nat) (zs : List Int) (w : World) (h : IsRow .u8 w a len cap zs) : Calls Try.prog 21 #[.slice a len cap] w (DrewT w) := by
  go_enter Try.func21, Try.ntmps21
  go_wp2_with (first | (go_at_call 58; refine (l20Open _ _ _ _ _ h).mono ?_; rintro e w1 ⟨r, rfl, hr, hb⟩) | (go_at_call 57; refine (l20Truth _ _ _ _ _ hr (by omega) (by omega)).mono ?_; rintro e w2 ⟨m, q, rfl, hm0, hm1, hq, ho2, hr2⟩))
  go_ret
  exact ⟨m, rfl, hm0, hm1, only_below hb hr ho2⟩
theorem drawNotOf (a : Option Addr) (len cap : Nat) (zs : List Int) (w : World) (h : IsRow .u8 w a len cap zs) : Calls Try.prog 32 #[.slice a len cap] w (DrewT w) := by
  go_enter Try.func32, Try.ntmps32
  go_wp2_with (first | (go_at_call 58; refine (l20Open _ _ _ _ _ h).mono ?_; rintro e w1 ⟨r, rfl, hr, hb⟩) | (go_at_call 57; refine (l20Truth _ _ _ _ _ hr (by omega) (by omega)).mono ?_; rintro e w2 ⟨m, q, rfl, hm0, hm1, hq, ho2, hr2⟩))
  go_ret
  exact ⟨m, rfl, hm0, hm1, only_below hb hr ho2⟩
theorem drawValueOf (a : Option Addr) (len cap : Nat) (zs : List Int) (w : World) (h : IsRow .u8 w a len cap zs) : Calls Try.prog 38 #[.slice a len cap] w (DrewT w) := by
  go_enter Try.func38, Try.ntmps38
  go_wp2_with (first | (go_at_call 58; refine (l20Open _ _ _ _ _ h).mono ?_; rintro e w1 ⟨r, rfl, hr, hb⟩) | (go_at_call 57; refine (l20Truth _ _ _ _ _ hr (by omega) (by omega)).mono ?_; rintro e w2 ⟨m, q, rfl, hm0, hm1, hq, ho2, hr2⟩))
  go_ret
  exact ⟨m, rfl, hm0, hm1, only_below hb hr ho2⟩
theorem drawAndOf (a : Option Addr) (len cap : Nat) (zs : List Int) (w : World) (h : IsRow .u8 w a len cap zs) : Calls Try.prog 27 #[.slice a len cap] w (DrewTT w) := by
  have HB := Lib.hid (Below.refl w.heap.size w)
  go_enter Try.func27, Try.ntmps27
  go_wp2_with (first | (go_at_call 58; refine (l20Open _ _ _ _ _ h).mono ?_; rintro e w1 ⟨r, rfl, hr, hb⟩) | (go_at_call 57; refine (l20Truth _ _ _ _ _ hr (by omega) (by omega)).mono ?_; (try have m1 := m; try have hm10 := hm0; try have hm11 := hm1); rintro e w2 ⟨m, q, rfl, hm0, hm1, hq, ho2, hr2⟩; have hb2 := only_below hb hr ho2; clear ho2 hr hb; have hr := hr2; have hb := hb2; clear hr2 hb2))
  exact bodyPost_ret (v := .tuple #[.int .i64 _, .int .i64 _]) (by simp [results, Try.results27, go_sem, *]; exact ⟨rfl, rfl⟩) rfl ⟨_, _, rfl, by assumption, by assumption, by assumption, by assumption, hb⟩
theorem drawOrOf (a : Option Addr) (len cap : Nat) (zs : List Int) (w : World) (h : IsRow .u8 w a len cap zs) : Calls Try.prog 30 #[.slice a len cap] w (DrewTT w) := by
  go_enter Try.func30, Try.ntmps30
  go_wp2_with (first | (go_at_call 58; refine (l20Open _ _ _ _ _ h).mono ?_; rintro e w1 ⟨r, rfl, hr, hb⟩) | (go_at_call 57; refine (l20Truth _ _ _ _ _ hr (by omega) (by omega)).mono ?_; rintro e w2 ⟨m, q, rfl, hm0, hm1, hq, ho2, hr2⟩; have hb2 := only_below hb hr ho2; clear ho2 hr hb; have hr := hr2; have hb := hb2; clear hr2 hb2))
  exact bodyPost_ret (v := .tuple #[.int .i64 _, .int .i64 _]) (by simp [results, Try.results30, go_sem, *]; exact ⟨rfl, rfl⟩) rfl ⟨_, _, rfl, by assumption, by assumption, by assumption, by assumption, hb⟩
theorem drawTruthOf (a : Option Addr) (len cap : Nat) (zs : List Int) (w : World) (h : IsRow .u8 w a len cap zs) : Calls Try.prog 34 #[.slice a len cap] w (DrewV w) := by
  have HI : Hid (∀ o, IsRow .u8 (w.alloc o) a len cap zs) := fun o => row_alloc h o
  clear h
  go_enter Try.func34, Try.ntmps34
  go_wp2_with (first | (go_at_call 58; refine (l20Open _ _ _ _ _ (HI.out _)).mono ?_; rintro e w1 ⟨r, rfl, hr, hb1⟩; obtain ⟨hc1, hf1⟩ := bcell hb1; have hz1 := hb1.size; (try simp at hz1); have hge := hr.ge; (try simp at hge); have hya_1 : w.heap.size < w1.heap.size := (by omega); have hna : ¬ (w.heap.size = r) := (by omega); have hp : (0 : Int) ≤ 0 := (by omega); have HR := Lib.hid hr; clear hr) | (go_at_call 64; (with_reducible refine (l20Value ?_ _ _ ?_ _ ?_ ?_ ?_).mono ?_); rotate_left 2; (repeat (with_reducible first | exact HR.out | apply RdOk.alloc | apply RdOk.drew | (refine RdOk.setFar ?_ (by first | omega | (simp; omega)) _))); omega; omega; (try (have hc10 := hc9; have hf10 := hf9; have hz10 := hz9; have hb10 := hb9; have hya_10 := hya_9; clear hc9 hf9 hz9 hb9 hya_9)); (try (have hc9 := hc8; have hf9 := hf8; have hz9 := hz8; have hb9 := hb8; have hya_9 := hya_8; clear hc8 hf8 hz8 hb8 hya_8)); (try (have hc8 := hc7; have hf8 := hf7; have hz8 := hz7; have hb8 := hb7; have hya_8 := hya_7; clear hc7 hf7 hz7 hb7 hya_7)); (try (have hc7 := hc6; have hf7 := hf6; have hz7 := hz6; have hb7 := hb6; have hya_7 := hya_6; clear hc6 hf6 hz6 hb6 hya_6)); (try (have hc6 := hc5; have hf6 := hf5; have hz6 := hz5; have hb6 := hb5; have hya_6 := hya_5; clear hc5 hf5 hz5 hb5 hya_5)); (try (have hc5 := hc4; have hf5 := hf4; have hz5 := hz4; have hb5 := hb4; have hya_5 := hya_4; clear hc4 hf4 hz4 hb4 hya_4)); (try (have hc4 := hc3; have hf4 := hf3; have hz4 := hz3; have hb4 := hb3; have hya_4 := hya_3; clear hc3 hf3 hz3 hb3 hya_3)); (try (have hc3 := hc2; have hf3 := hf2; have hz3 := hz2; have hb3 := hb2; have hya_3 := hya_2; clear hc2 hf2 hz2 hb2 hya_2)); (try (have hc2 := hc1; have hf2 := hf1; have hz2 := hz1; have hb2 := hb1; have hya_2 := hya_1; clear hc1 hf1 hz1 hb1 hya_1)); rintro e w1 ⟨k, n, s, q, rfl, hk0, hk1, hn0, hn1, hs, hq, ho, hr⟩; have hc1 := ho.cell; have hf1 := ho.frozen; (try simp only [World.size_drew, World.cell?_drew, World.frozen?_drew] at hc1 hf1); have hz1 := ho.size; (try simp at hz1); have hb1 := ho; have hya_1 : w.heap.size < w1.heap.size := (by omega); clear HR ho; (try have hx4 := hx3); (try have hx3 := hx2); (try have hx2 := hx1); (try have hx1 := Nat.lt_of_succ_le hz1); (try have hnr4 := hnr3); (try have hnr3 := hnr2); (try have hnr2 := hnr1); have hlr := hr.lt; have hnr1 : ¬ (w1.heap.size = r) := (by omega); clear hlr; have HR := Lib.hid hr; clear hr))
  exact bodyPost_ret (v := .agg #[.int .i64 k, .int .i64 n, .string s]) (by simp [results, Try.results34, go_sem, *]) rfl ⟨k, n, s, rfl, hk0, hk1, hn0, hn1, by omega, by (repeat (with_reducible first | exact Below.refl _ _ | exact HBD.out | (refine Below.trans ?_ (Below.mono hb1 (by first | omega | (simp; done) | (simp; omega))); clear hb1) | (refine Below.trans ?_ (Only.below hb1 (by first | omega | (simp; done) | (simp; omega)) (by first | omega | (simp; done) | (simp; omega))); clear hb1) | (refine Below.trans ?_ (Below.mono hb2 (by first | omega | (simp; done) | (simp; omega))); clear hb2) | (refine Below.trans ?_ (Only.below hb2 (by first | omega | (simp; done) | (simp; omega)) (by first | omega | (simp; done) | (simp; omega))); clear hb2) | (refine Below.trans ?_ (Below.mono hb3 (by first | omega | (simp; done) | (simp; omega))); clear hb3) | (refine Below.trans ?_ (Only.below hb3 (by first | omega | (simp; done) | (simp; omega)) (by first | omega | (simp; done) | (simp; omega))); clear hb3) | (refine Below.trans ?_ (Below.mono hb4 (by first | omega | (simp; done) | (simp; omega))); clear hb4) | (refine Below.trans ?_ (Only.below hb4 (by first | omega | (simp; done) | (simp; omega)) (by first | omega | (simp; done) | (simp; omega))); clear hb4) | (refine Below.trans ?_ (Below.mono hb5 (by first | omega | (simp; done) | (simp; omega))); clear hb5) | (refine Below.trans ?_ (Only.below hb5 (by first | omega | (simp; done) | (simp; omega)) (by first | omega | (simp; done) | (simp; omega))); clear hb5) | (refine Below.trans ?_ (Below.mono hb6 (by first | omega | (simp; done) | (simp; omega))); clear hb6) | (refine Below.trans ?_ (Only.below hb6 (by first | omega | (simp; done) | (simp; omega)) (by first | omega | (simp; done) | (simp; omega))); clear hb6) | (refine Below.trans ?_ (Below.mono hb7 (by first | omega | (simp; done) | (simp; omega))); clear hb7) | (refine Below.trans ?_ (Only.below hb7 (by first | omega | (simp; done) | (simp; omega)) (by first | omega | (simp; done) | (simp; omega))); clear hb7) | (refine Below.trans ?_ (Below.mono hb8 (by first | omega | (simp; done) | (simp; omega))); clear hb8) | (refine Below.trans ?_ (Only.below hb8 (by first | omega | (simp; done) | (simp; omega)) (by first | omega | (simp; done) | (simp; omega))); clear hb8) | (refine Below.trans ?_ (Below.mono hb9 (by first | omega | (simp; done) | (simp; omega))); clear hb9) | (refine Below.trans ?_ (Only.below hb9 (by first | omega | (simp; done) | (simp; omega)) (by first | omega | (simp; done) | (simp; omega))); clear hb9) | (refine Below.trans ?_ (Below.mono hb10 (by first | omega | (simp; done) | (simp; omega))); clear hb10) | (refine Below.trans ?_ (Only.below hb10 (by first | omega | (simp; done) | (simp; omega)) (by first | omega | (simp; done) | (simp; omega))); clear hb10) | refine Below.alloc ?_ (by first | omega | (simp; done) | (simp; omega)) _ | refine Below.setCell ?_ (by first | omega | (simp; done) | (simp; omega)) _ | refine Below.drew ?_))⟩
end Go.Proofs.Ytmhjgdjfboajlaa.Val
