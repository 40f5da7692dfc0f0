/- What drawing one value (l20Value) leaves: some value within small bounds, and the reader moved on. -/
import Derived.Test.YtjidkjnlnenmbaaRd
import Derived.Deep.RegionWith
import Derived.Deep.CutBlock
namespace Go.Proofs.Ytjidkjnlnenmbaa.Val
open Go.RowKit
theorem Only.refl (r : Nat) (w : World) : Only r w w := ⟨rfl, rfl, rfl, Nat.le_refl _, fun _ _ _ => rfl⟩
theorem Only.alloc {r : Nat} {w w' : World} (h : Only r w w') (o : Obj) : Only r w (w'.alloc o) :=
  h.trans ⟨rfl, rfl, rfl, by simp, fun k hk _ => Below.heap_alloc _ _ _ hk⟩
theorem Only.setNew {r : Nat} {w w' : World} (h : Only r w w') {p : Addr} (hp : w.heap.size ≤ p.block) (u : Value) : Only r w (w'.setCell p u) :=
  ⟨h.os, h.tape, h.output, by simpa [World.setCell] using h.size, fun k hk hr => (Below.heap_setCell w' p u k (by omega)).trans (h.block k hk hr)⟩
theorem Only.drew {r : Nat} {w w' : World} (h : Only r w w') : Only r w w'.drew := ⟨h.os, h.tape, h.output, h.size, h.block⟩
theorem RdOk.keep {B r : Nat} {w w' : World} {p : Int} (h : RdOk B r w p) (hs : w.heap.size ≤ w'.heap.size) (hk : ∀ k, k < B ∨ k = r → w'.heap[k]? = w.heap[k]?) : RdOk B r w' p := by
  have hr := hk r (.inr rfl)
  refine ⟨h.ge, Nat.lt_of_lt_of_le h.lt hs, h.p0, (World.frozen?_of_block (w := w) hr).trans h.fz, (World.cell?_of_block (w := w) hr).trans h.c1, ?_⟩
  obtain ⟨a, len, cap, h0, hl, hd⟩ := h.c0
  refine ⟨a, len, cap, (World.cell?_of_block (w := w) hr).trans h0, hl, fun hp => ?_⟩
  obtain ⟨b, off, e, hb, hx⟩ := hd hp
  refine ⟨b, off, e, hb, fun i hi => ?_⟩
  obtain ⟨x, x0, x1, hc⟩ := hx i hi
  exact ⟨x, x0, x1, (World.cell?_of_block (w := w) (hk b (.inl hb))).trans hc⟩
theorem RdOk.alloc {B r : Nat} {w : World} {p : Int} (h : RdOk B r w p) (o : Obj) : RdOk B r (w.alloc o) p :=
  h.keep (by simp) fun k hk => Below.heap_alloc _ _ _ (by have := h.ge; have := h.lt; omega)
theorem RdOk.setFar {B r : Nat} {w : World} {p : Int} (h : RdOk B r w p) {a : Addr} (hb : r < a.block) (u : Value) : RdOk B r (w.setCell a u) p :=
  h.keep (by simp [World.setCell]) fun k hk => Below.heap_setCell _ _ _ _ (by have := h.ge; omega)
theorem RdOk.drew {B r : Nat} {w : World} {p : Int} (h : RdOk B r w p) : RdOk B r w.drew p := ⟨h.ge, h.lt, h.p0, h.fz, h.c1, h.c0⟩
/-- Where l20Value stands: its result's box (empty) in block w.heap.size, its value v in the next block, its reader in block r; nothing else that was there has turned. -/
structure VB (B r : Nat) (w wx : World) (k n : Int) (s : ByteArray) (q : Int) : Prop where
  c0 : wx.cell? ⟨w.heap.size + 1, 0, none⟩ = some (.int .i64 k)
  c1 : wx.cell? ⟨w.heap.size + 1, 1, none⟩ = some (.int .i64 n)
  c2 : wx.cell? ⟨w.heap.size + 1, 2, none⟩ = some (.string s)
  f0 : wx.frozen? ⟨w.heap.size + 1, 0, none⟩ = false
  f1 : wx.frozen? ⟨w.heap.size + 1, 1, none⟩ = false
  f2 : wx.frozen? ⟨w.heap.size + 1, 2, none⟩ = false
  d0 : wx.cell? ⟨w.heap.size, 0, none⟩ = some (.int .i64 0)
  d1 : wx.cell? ⟨w.heap.size, 1, none⟩ = some (.int .i64 0)
  d2 : wx.cell? ⟨w.heap.size, 2, none⟩ = some (.string ⟨#[]⟩)
  g0 : wx.frozen? ⟨w.heap.size, 0, none⟩ = false
  g1 : wx.frozen? ⟨w.heap.size, 1, none⟩ = false
  g2 : wx.frozen? ⟨w.heap.size, 2, none⟩ = false
  rd : RdOk B r wx q
  lo : Only r w wx
  sz : w.heap.size + 1 < wx.heap.size
  rw_ : r < w.heap.size
theorem VB.only {B r : Nat} {w wx wy : World} {k n q q' : Int} {s : ByteArray} (h : VB B r w wx k n s q) (ho : Only r wx wy) (hr : RdOk B r wy q') : VB B r w wy k n s q' := by
  have hr' := h.rw_
  have hs := h.sz
  have hc := fun b o (hb : b = w.heap.size ∨ b = w.heap.size + 1) => ho.cell b o (by omega) (by omega)
  have hf := fun b o (hb : b = w.heap.size ∨ b = w.heap.size + 1) => ho.frozen b o (by omega) (by omega)
  exact ⟨(hc _ _ (.inr rfl)).trans h.c0, (hc _ _ (.inr rfl)).trans h.c1, (hc _ _ (.inr rfl)).trans h.c2, (hf _ _ (.inr rfl)).trans h.f0, (hf _ _ (.inr rfl)).trans h.f1, (hf _ _ (.inr rfl)).trans h.f2,
    (hc _ _ (.inl rfl)).trans h.d0, (hc _ _ (.inl rfl)).trans h.d1, (hc _ _ (.inl rfl)).trans h.d2, (hf _ _ (.inl rfl)).trans h.g0, (hf _ _ (.inl rfl)).trans h.g1, (hf _ _ (.inl rfl)).trans h.g2,
    hr, h.lo.trans ho, by have := ho.size; omega, hr'⟩
theorem VB.alloc {B r : Nat} {w wx : World} {k n q : Int} {s : ByteArray} (h : VB B r w wx k n s q) (o : Obj) : VB B r w (wx.alloc o) k n s q :=
  h.only (Only.alloc (Only.refl _ _) o) (h.rd.alloc o)
theorem VB.drew {B r : Nat} {w wx : World} {k n q : Int} {s : ByteArray} (h : VB B r w wx k n s q) : VB B r w wx.drew k n s q :=
  h.only (Only.drew (Only.refl _ _)) h.rd.drew
theorem ne_off {b b' o o' : Nat} (h : o ≠ o' ∨ b ≠ b') : (⟨b, o, none⟩ : Addr) ≠ ⟨b', o', none⟩ := by intro e; injection e; omega
theorem VB.set0 {B r : Nat} {w wx : World} {k n q : Int} {s : ByteArray} (h : VB B r w wx k n s q) (k' : Int) : VB B r w (wx.setCell ⟨w.heap.size + 1, 0, none⟩ (.int .i64 k')) k' n s q := by
  have hr' := h.rw_
  refine ⟨World.cell?_setCell_same _ _ _ h.c0, ?_, ?_, ?_, ?_, ?_, ?_, ?_, ?_, ?_, ?_, ?_, h.rd.setFar (by simp; omega) _, h.lo.setNew (by simp) _, by simpa [World.setCell] using h.sz, hr'⟩
  all_goals (first | rw [World.frozen?_setCell] | rw [World.cell?_setCell_other _ _ _ _ (ne_off (by omega))])
  · exact h.c1
  · exact h.c2
  · exact h.f0
  · exact h.f1
  · exact h.f2
  · exact h.d0
  · exact h.d1
  · exact h.d2
  · exact h.g0
  · exact h.g1
  · exact h.g2
theorem VB.set1 {B r : Nat} {w wx : World} {k n q : Int} {s : ByteArray} (h : VB B r w wx k n s q) (n' : Int) : VB B r w (wx.setCell ⟨w.heap.size + 1, 1, none⟩ (.int .i64 n')) k n' s q := by
  have hr' := h.rw_
  refine ⟨?_, World.cell?_setCell_same _ _ _ h.c1, ?_, ?_, ?_, ?_, ?_, ?_, ?_, ?_, ?_, ?_, h.rd.setFar (by simp; omega) _, h.lo.setNew (by simp) _, by simpa [World.setCell] using h.sz, hr'⟩
  all_goals (first | rw [World.frozen?_setCell] | rw [World.cell?_setCell_other _ _ _ _ (ne_off (by omega))])
  · exact h.c0
  · exact h.c2
  · exact h.f0
  · exact h.f1
  · exact h.f2
  · exact h.d0
  · exact h.d1
  · exact h.d2
  · exact h.g0
  · exact h.g1
  · exact h.g2
theorem VB.set2 {B r : Nat} {w wx : World} {k n q : Int} {s : ByteArray} (h : VB B r w wx k n s q) (s' : ByteArray) : VB B r w (wx.setCell ⟨w.heap.size + 1, 2, none⟩ (.string s')) k n s' q := by
  have hr' := h.rw_
  refine ⟨?_, ?_, World.cell?_setCell_same _ _ _ h.c2, ?_, ?_, ?_, ?_, ?_, ?_, ?_, ?_, ?_, h.rd.setFar (by simp; omega) _, h.lo.setNew (by simp) _, by simpa [World.setCell] using h.sz, hr'⟩
  all_goals (first | rw [World.frozen?_setCell] | rw [World.cell?_setCell_other _ _ _ _ (ne_off (by omega))])
  · exact h.c0
  · exact h.c1
  · exact h.f0
  · exact h.f1
  · exact h.f2
  · exact h.d0
  · exact h.d1
  · exact h.d2
  · exact h.g0
  · exact h.g1
  · exact h.g2
/-- What l20Value leaves. -/
def Drawn (B r : Nat) (p : Int) (w : World) (e : Ending) (w' : World) : Prop :=
  ∃ (k n : Int) (s : ByteArray) (q : Int), e = .returned (.agg #[.int .i64 k, .int .i64 n, .string s]) ∧ -10 ≤ k ∧ k ≤ 10 ∧ -20000 ≤ n ∧ n ≤ 20000 ∧ s.size ≤ 20 ∧ q ≤ p + 20 ∧ Only r w w' ∧ RdOk B r w' q
/-- The cut ahead of 'if r.odd(n)'. -/
def VCut (B r : Nat) (p : Int) (w wx : World) : Prop := ∃ (k n : Int) (s : ByteArray) (q : Int), 0 ≤ k ∧ k ≤ 3 ∧ -10000 ≤ n ∧ n ≤ 10000 ∧ s.size ≤ 3 ∧ q ≤ p + 10 ∧ VB B r w wx k n s q
theorem VB.start {B r : Nat} {w : World} {p : Int} (h : RdOk B r w p) (t : TypeId) : VB B r w ((w.alloc (.cells #[.int .i64 0, .int .i64 0, .string ⟨#[]⟩] t)).alloc (.cells #[.int .i64 0, .int .i64 0, .string ⟨#[]⟩] t)) 0 0 ⟨#[]⟩ p := by
  refine ⟨?_, ?_, ?_, ?_, ?_, ?_, ?_, ?_, ?_, ?_, ?_, ?_, (h.alloc _).alloc _, ((Only.refl _ _).alloc _).alloc _, by simp, h.lt⟩
  all_goals simp [go_sem]
theorem vcut_of {B r : Nat} {p : Int} {w wx : World} {k n q : Int} {s : ByteArray} (h : VB B r w wx k n s q) (h1 : 0 ≤ k) (h2 : k ≤ 3) (h3 : -10000 ≤ n) (h4 : n ≤ 10000) (h5 : s.size ≤ 3) (h6 : q ≤ p + 10) : VCut B r p w wx := ⟨k, n, s, q, h1, h2, h3, h4, h5, h6, h⟩
theorem five_cells {r : Nat} {W0 w1 : World} {m : Int} {t : TypeId} (ho : Only r (W0.alloc (.cells #[.int .i64 9999, .int .i64 (-9999), .int .i64 255, .int .i64 256, .int .i64 (-256)] t)) w1) (hr : r < W0.heap.size) (h0 : 0 ≤ m) (h5 : m < 5) :
    ∃ N : Int, -10000 ≤ N ∧ N ≤ 10000 ∧ w1.cell? ⟨W0.heap.size, m.toNat, none⟩ = some (.int .i64 N) := by
  have hc := ho.cell W0.heap.size m.toNat (by simp) (by omega)
  rw [World.cell?_alloc_mark] at hc
  have hm : m = 0 ∨ m = 1 ∨ m = 2 ∨ m = 3 ∨ m = 4 := by omega
  rcases hm with rfl | rfl | rfl | rfl | rfl
  · exact ⟨9999, by omega, by omega, hc⟩
  · exact ⟨-9999, by omega, by omega, hc⟩
  · exact ⟨255, by omega, by omega, hc⟩
  · exact ⟨256, by omega, by omega, hc⟩
  · exact ⟨-256, by omega, by omega, hc⟩
def LoopAt (B r : Nat) (p : Int) (w : World) (kx : Value) (wr : World) : Prop :=
  ∃ (K : Int) (s : ByteArray) (q : Int), kx = .int .i64 K ∧ 0 ≤ K ∧ K ≤ 3 ∧ (s.size : Int) + K ≤ 3 ∧ q + K ≤ p + 9 ∧ VB B r w wr 2 0 s q
theorem loop_of {B r : Nat} {p : Int} {w wx : World} {q K : Int} {s : ByteArray} (h : VB B r w wx 2 0 s q) (h1 : 0 ≤ K) (h2 : K ≤ 3) (h3 : (s.size : Int) + K ≤ 3) (h4 : q + K ≤ p + 9) : LoopAt B r p w (.int .i64 K) wx := ⟨K, s, q, rfl, h1, h2, h3, h4, h⟩
theorem drawn_of {B r : Nat} {p : Int} {w wx : World} {k n q : Int} {s : ByteArray} (h : VB B r w wx k n s q) (h1 : -10 ≤ k) (h2 : k ≤ 10) (h3 : -20000 ≤ n) (h4 : n ≤ 20000) (h5 : s.size ≤ 20) (h6 : q ≤ p + 20) :
    Drawn B r p w (.returned (.agg #[.int .i64 k, .int .i64 n, .string s])) (((wx.setCell ⟨w.heap.size, 0, none⟩ (.int .i64 k)).setCell ⟨w.heap.size, 1, none⟩ (.int .i64 n)).setCell ⟨w.heap.size, 2, none⟩ (.string s)) :=
  ⟨k, n, s, q, rfl, h1, h2, h3, h4, h5, h6, ((h.lo.setNew (Nat.le_refl _) _).setNew (Nat.le_refl _) _).setNew (Nat.le_refl _) _, ((h.rd.setFar h.rw_ _).setFar h.rw_ _).setFar h.rw_ _⟩
set_option maxHeartbeats 8000000 in
set_option maxRecDepth 100000 in
theorem l20Value (B r : Nat) (n p : Int) (w : World) (h : RdOk B r w p) (hp : p ≤ 900000000) (hn : n ≤ 1000) : Calls Try.prog 118 #[.pointer (some ⟨r, 0, none⟩), .int .i64 n] w (Drawn B r p w) := by
  have HV := Lib.hid (VB.start h 73)
  have hlt := h.lt
  have hge := h.ge
  clear h
  go_enter Try.func118, Try.ntmps118
  go_upto_block 0 with ((go_at_call 93; (with_reducible refine (pick B r _ ?_ _ ?_ ?_).mono ?_); rotate_left; (apply VB.rd (w := w); (repeat (with_reducible first | exact HV.out | apply VB.alloc | apply VB.drew | apply VB.set0 | apply VB.set1 | apply VB.set2))); omega; rintro e w1 ⟨m, rfl, hm0, hm1, hm2, ho, hr⟩; have HV1 := Lib.hid (VB.only (w := w) (by (repeat (with_reducible first | exact HV.out | apply VB.alloc | apply VB.drew | apply VB.set0 | apply VB.set1 | apply VB.set2))) ho hr); have hm1 := hm1 (by omega); (try (obtain ⟨N, hN0, hN1, hN⟩ := five_cells ho (by first | omega | (simp [World.setCell]; omega)) hm0 hm1; (try simp [World.setCell] at hN))); clear HV ho hr hm2; have HV := HV1; clear HV1; obtain ⟨c0, c1, c2, f0, f1, f2, d0, d1, d2, g0, g1, g2, -, -, sz, -⟩ := HV.out))
  go_cut [] (fun wx => VCut B r p w wx)
  case first =>
    go_wp2_with ((go_at_call 93; (with_reducible refine (pick B r _ ?_ _ ?_ ?_).mono ?_); rotate_left; (apply VB.rd (w := w); (repeat (with_reducible first | exact HV.out | apply VB.alloc | apply VB.drew | apply VB.set0 | apply VB.set1 | apply VB.set2))); omega; rintro e w1 ⟨m, rfl, hm0, hm1, hm2, ho, hr⟩; have HV1 := Lib.hid (VB.only (w := w) (by (repeat (with_reducible first | exact HV.out | apply VB.alloc | apply VB.drew | apply VB.set0 | apply VB.set1 | apply VB.set2))) ho hr); have hm1 := hm1 (by omega); (try (obtain ⟨N, hN0, hN1, hN⟩ := five_cells ho (by first | omega | (simp [World.setCell]; omega)) hm0 hm1; (try simp [World.setCell] at hN))); clear HV ho hr hm2; have HV := HV1; clear HV1; obtain ⟨c0, c1, c2, f0, f1, f2, d0, d1, d2, g0, g1, g2, -, -, sz, -⟩ := HV.out))
    all_goals (try (go_meet; apply vcut_of; (repeat (with_reducible first | exact HV.out | apply VB.alloc | apply VB.drew | apply VB.set0 | apply VB.set1 | apply VB.set2))))
    all_goals (try (show (_ : Int) ≤ _; omega))
    all_goals (try (show ByteArray.size _ ≤ _; decide))
    all_goals
      go_loopw [6] (fun kx wr => LoopAt B r p w kx wr) (fun kx _ => (intOf kx).toNat)
      case atStart =>
        apply loop_of
        (repeat (with_reducible first | exact HV.out | apply VB.alloc | apply VB.drew | apply VB.set0 | apply VB.set1 | apply VB.set2))
        all_goals (first | omega | (show ((0 : Nat) : Int) + _ ≤ 3; omega))
      case round =>
        obtain ⟨K, s, q, rfl, hK0, hK1, hsK, hqK, hv⟩ := hrel
        clear HV c0 c1 c2 f0 f1 f2 d0 d1 d2 g0 g1 g2 sz
        have HV := Lib.hid hv
        obtain ⟨c0, c1, c2, f0, f1, f2, d0, d1, d2, g0, g1, g2, -, -, sz, -⟩ := hv
        by_cases hK : 0 < K
        · have kc := conv1
          have eu : ∀ m : Int, 0 ≤ m → m < 3 → IntKind.i64.wrap (97 + m) = 97 + m := fun m h1 h2 => IntWalk.i64_in _ (by omega)
          have ev : ∀ m : Int, 0 ≤ m → m < 3 → IntKind.u8.wrap (97 + m) = 97 + m := fun m h1 h2 => IntWalk.u8_in _ (by omega)
          go_wp2
          go_region_with ((go_at_call 93; (with_reducible refine (pick B r _ ?_ _ ?_ ?_).mono ?_); rotate_left; (apply VB.rd (w := w); (repeat (with_reducible first | exact HV.out | apply VB.alloc | apply VB.drew | apply VB.set0 | apply VB.set1 | apply VB.set2))); omega; rintro e w1 ⟨m, rfl, hm0, hm1, hm2, ho, hr⟩; have HV1 := Lib.hid (VB.only (w := w) (by (repeat (with_reducible first | exact HV.out | apply VB.alloc | apply VB.drew | apply VB.set0 | apply VB.set1 | apply VB.set2))) ho hr); have hm1 := hm1 (by omega); (try (obtain ⟨N, hN0, hN1, hN⟩ := five_cells ho (by first | omega | (simp [World.setCell]; omega)) hm0 hm1; (try simp [World.setCell] at hN))); clear HV ho hr hm2; have HV := HV1; clear HV1; obtain ⟨c0, c1, c2, f0, f1, f2, d0, d1, d2, g0, g1, g2, -, -, sz, -⟩ := HV.out))
          all_goals go_wp2
          all_goals (refine ⟨?_, by simp [intOf]; omega⟩)
          all_goals (apply loop_of)
          all_goals (try (show VB _ _ _ _ _ _ _ _; (repeat (with_reducible first | exact HV.out | apply VB.alloc | apply VB.drew | apply VB.set0 | apply VB.set1 | apply VB.set2))))
          all_goals (first | omega | (simp [ByteArray.size_mk']; omega))
        · go_wp2
          go_meet
          apply vcut_of
          (repeat (with_reducible first | exact HV.out | apply VB.alloc | apply VB.drew | apply VB.set0 | apply VB.set1 | apply VB.set2))
          all_goals omega
  case rest =>
    obtain ⟨k, n1, s, q, hk0, hk1, hn0, hn1, hs, hq, hv⟩ := hcut
    have HV := Lib.hid hv
    obtain ⟨c0, c1, c2, f0, f1, f2, d0, d1, d2, g0, g1, g2, -, -, sz, -⟩ := hv
    go_wp2_with (first | (go_at_call 93; (with_reducible refine (pick B r _ ?_ _ ?_ ?_).mono ?_); rotate_left; (apply VB.rd (w := w); (repeat (with_reducible first | exact HV.out | apply VB.alloc | apply VB.drew | apply VB.set0 | apply VB.set1 | apply VB.set2))); omega; rintro e w1 ⟨m, rfl, hm0, hm1, hm2, ho, hr⟩; have HV1 := Lib.hid (VB.only (w := w) (by (repeat (with_reducible first | exact HV.out | apply VB.alloc | apply VB.drew | apply VB.set0 | apply VB.set1 | apply VB.set2))) ho hr); have hm1 := hm1 (by omega); (try (obtain ⟨N, hN0, hN1, hN⟩ := five_cells ho (by first | omega | (simp [World.setCell]; omega)) hm0 hm1; (try simp [World.setCell] at hN))); clear HV ho hr hm2; have HV := HV1; clear HV1; obtain ⟨c0, c1, c2, f0, f1, f2, d0, d1, d2, g0, g1, g2, -, -, sz, -⟩ := HV.out) | (go_at_call 117; (with_reducible refine (odd B r _ ?_ _ ?_ ?_ ?_).mono ?_); rotate_left; (apply VB.rd (w := w); (repeat (with_reducible first | exact HV.out | apply VB.alloc | apply VB.drew | apply VB.set0 | apply VB.set1 | apply VB.set2))); omega; omega; rintro e w1 ⟨v, q1, rfl, hq1, ho, hr⟩; have HV1 := Lib.hid (VB.only (w := w) (by (repeat (with_reducible first | exact HV.out | apply VB.alloc | apply VB.drew | apply VB.set0 | apply VB.set1 | apply VB.set2))) ho hr); clear HV ho hr; have HV := HV1; clear HV1; obtain ⟨c0, c1, c2, f0, f1, f2, d0, d1, d2, g0, g1, g2, -, -, sz, -⟩ := HV.out))
    all_goals (refine bodyPost_ret (v := .agg #[.int .i64 _, .int .i64 _, .string _]) (by simp [results, Try.results118, go_sem, *]; exact ⟨rfl, rfl, rfl⟩) rfl ?_)
    all_goals apply drawn_of
    all_goals (try (show VB _ _ _ _ _ _ _ _; (repeat (with_reducible first | exact HV.out | apply VB.alloc | apply VB.drew | apply VB.set0 | apply VB.set1 | apply VB.set2))))
    all_goals (first | omega | (simp [ByteArray.size_mk']; omega))
theorem rd_grown {B r : Nat} {p : Int} {w w' : World} {row : Option Nat} (h : RdOk B r w p) (hg : w.grownBy w' row) (hr : ∀ k, row = some k → r + 1 ≤ k) : RdOk B r w' p :=
  h.keep hg.size fun k hk => hg.block k (by have := h.ge; have := h.lt; omega) (fun e => by have := hr k e.symm; have := h.ge; omega)
end Go.Proofs.Ytjidkjnlnenmbaa.Val
