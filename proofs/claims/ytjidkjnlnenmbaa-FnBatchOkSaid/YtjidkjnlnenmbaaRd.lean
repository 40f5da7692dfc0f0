/- The reader of codes (l20Rd): what pick, odd and l20Open do. -/
import Derived.Test.YtjidkjnlnenmbaaTxt
import Derived.Deep.RegionHeld3
import Derived.Deep.DeepCutAuto
import Derived.Deep.Draws
namespace Go.Proofs.Ytjidkjnlnenmbaa.Val
open Go.RowKit
/-- No block but r has turned. -/
structure Only (r : Nat) (w w' : World) : Prop where
  os : w'.os = w.os
  tape : w'.tape = w.tape
  output : w'.output = w.output
  size : w.heap.size ≤ w'.heap.size
  block : ∀ k, k < w.heap.size → k ≠ r → w'.heap[k]? = w.heap[k]?
theorem Only.cell {r : Nat} {w w' : World} (h : Only r w w') (b o : Nat) (hb : b < w.heap.size) (hr : b ≠ r) : w'.cell? ⟨b, o, none⟩ = w.cell? ⟨b, o, none⟩ := World.cell?_of_block (w := w) (h.block b hb hr)
theorem Only.frozen {r : Nat} {w w' : World} (h : Only r w w') (b o : Nat) (hb : b < w.heap.size) (hr : b ≠ r) : w'.frozen? ⟨b, o, none⟩ = w.frozen? ⟨b, o, none⟩ := World.frozen?_of_block (w := w) (h.block b hb hr)
theorem Only.below {r B : Nat} {w w' : World} (h : Only r w w') (hB : B ≤ r) (hw : B ≤ w.heap.size) : Below B w w' := ⟨h.os, h.tape, h.output, h.size, fun k hk => h.block k (by omega) (by omega)⟩
theorem Only.set {r : Nat} (w : World) (o : Nat) (u : Value) : Only r w (w.setCell ⟨r, o, none⟩ u) := ⟨rfl, rfl, rfl, by simp [World.setCell], fun k hk hr => Below.heap_setCell w _ u k hr⟩
theorem Only.drewN {r : Nat} {w w' : World} (h : Only r w w') (n : Nat) : Only r w (w'.drewN n) := ⟨h.os, h.tape, h.output, h.size, h.block⟩
theorem Only.trans {r : Nat} {a b c : World} (h : Only r a b) (k : Only r b c) : Only r a c := ⟨k.os.trans h.os, k.tape.trans h.tape, k.output.trans h.output, Nat.le_trans h.size k.size, fun i hi hr => (k.block i (Nat.lt_of_lt_of_le hi h.size) hr).trans (h.block i hi hr)⟩
/-- A reader stands in block r (r at least B) over bytes that lie below block B, at place p. -/
structure RdOk (B r : Nat) (w : World) (p : Int) : Prop where
  ge : B ≤ r
  lt : r < w.heap.size
  p0 : 0 ≤ p
  fz : w.frozen? ⟨r, 1, none⟩ = false
  c1 : w.cell? ⟨r, 1, none⟩ = some (.int .i64 p)
  c0 : ∃ (a : Option Addr) (len cap : Nat), w.cell? ⟨r, 0, none⟩ = some (.slice a len cap) ∧ len ≤ 2000 ∧ (0 < len → ∃ b off, a = some ⟨b, off, none⟩ ∧ b < B ∧ ∀ i, i < len → ∃ x : Int, 0 ≤ x ∧ x ≤ 255 ∧ w.cell? ⟨b, off + i, none⟩ = some (.int .u8 x))
theorem RdOk.next {B r : Nat} {w : World} {p : Int} (h : RdOk B r w p) : RdOk B r (w.setCell ⟨r, 1, none⟩ (.int .i64 (p + 1))) (p + 1) where
  ge := h.ge
  lt := by simpa [World.setCell] using h.lt
  p0 := by have := h.p0; omega
  fz := by rw [World.frozen?_setCell]; exact h.fz
  c1 := World.cell?_setCell_same _ _ _ h.c1
  c0 := by
    obtain ⟨a, len, cap, h0, hl, hd⟩ := h.c0
    refine ⟨a, len, cap, ?_, hl, fun hp => ?_⟩
    · rw [World.cell?_setCell_other _ _ _ _ (by simp)]; exact h0
    · obtain ⟨b, off, e, hb, hx⟩ := hd hp
      refine ⟨b, off, e, hb, fun i hi => ?_⟩
      obtain ⟨x, x0, x1, hc⟩ := hx i hi
      refine ⟨x, x0, x1, ?_⟩
      have hge := h.ge
      rw [World.cell?_setCell_other _ _ _ _ (by intro e; injection e with e1 e2; omega)]; exact hc
theorem RdOk.drewN {B r : Nat} {w : World} {p : Int} (h : RdOk B r w p) (n : Nat) : RdOk B r (w.drewN n) p := ⟨h.ge, h.lt, h.p0, h.fz, h.c1, h.c0⟩
theorem xor_nonneg (a : Int) (h0 : 0 ≤ a) (h1 : a < 4611686018427387904) : 0 ≤ bits .xor .i64 a (a / 64) := by
  obtain ⟨A, rfl⟩ := Int.eq_ofNat_of_zero_le h0
  have d : ((A : Int) / 64) = ((A / 64 : Nat) : Int) := by omega
  rw [d]
  have hx : A ^^^ (A / 64) < 2 ^ 62 := Nat.xor_lt_two_pow (by omega) (by omega)
  have h1 : (BitVec.ofInt 64 (A : Int)).toNat = A := by
    rw [BitVec.ofInt_natCast, BitVec.toNat_ofNat]; exact Nat.mod_eq_of_lt (by omega)
  have h2 : (BitVec.ofInt 64 ((A / 64 : Nat) : Int)).toNat = A / 64 := by
    rw [BitVec.ofInt_natCast, BitVec.toNat_ofNat]; exact Nat.mod_eq_of_lt (by omega)
  show 0 ≤ IntKind.i64.wrap ((BitVec.ofInt 64 (A : Int) ^^^ BitVec.ofInt 64 ((A / 64 : Nat) : Int)).toNat : Int)
  rw [BitVec.toNat_xor, h1, h2, IntWalk.i64_in _ (by omega)]
  omega
/-- What pick leaves. -/
def Picked (B r : Nat) (n p : Int) (w : World) (e : Ending) (w' : World) : Prop := ∃ m : Int, e = .returned (.int .i64 m) ∧ 0 ≤ m ∧ (1 ≤ n → m < n) ∧ (n < 1 → m = 0) ∧ Only r w w' ∧ RdOk B r w' (p + 1)
theorem pick_zero (B r : Nat) (n p : Int) (w : World) (h : RdOk B r w p) (hp : p ≤ 1000000000) (hn : n < 1) : Calls Try.prog 93 #[.pointer (some ⟨r, 0, none⟩), .int .i64 n] w (Picked B r n p w) := by
  have HN := Lib.hid h.next
  have hc1 := h.c1
  have hfz := h.fz
  have hp0 := h.p0
  clear h
  go_enter Try.func93, Try.ntmps93
  go_wp2
  go_ret
  exact ⟨0, rfl, by omega, by omega, fun _ => rfl, Only.set _ _ _, HN.out⟩
theorem pick_none (B r : Nat) (n p : Int) (w : World) (h : RdOk B r w p) (hp : p ≤ 1000000000) (hn : 1 ≤ n) (a : Option Addr) (cap : Nat) (h0 : w.cell? ⟨r, 0, none⟩ = some (.slice a 0 cap)) : Calls Try.prog 93 #[.pointer (some ⟨r, 0, none⟩), .int .i64 n] w (Picked B r n p w) := by
  have HN := Lib.hid h.next
  have hc1 := h.c1
  have hfz := h.fz
  have hp0 := h.p0
  clear h
  go_enter Try.func93, Try.ntmps93
  go_wp2
  go_ret
  exact ⟨0, rfl, by omega, by omega, fun _ => rfl, Only.set _ _ _, HN.out⟩
theorem pick_low (B r : Nat) (n : Int) (P : Nat) (w : World) (h : RdOk B r w P) (hp : P ≤ 1000000000) (hn : 1 ≤ n) (len cap b off : Nat) (x : Int) (h0 : w.cell? ⟨r, 0, none⟩ = some (.slice (some ⟨b, off, none⟩) len cap)) (hl : P < len) (_hl2 : len ≤ 2000) (hb : b < B)
    (x0 : 0 ≤ x) (x1 : x ≤ 255) (hx : w.cell? ⟨b, off + P, none⟩ = some (.int .u8 x)) : Calls Try.prog 93 #[.pointer (some ⟨r, 0, none⟩), .int .i64 n] w (Picked B r n P w) := by
  have HN := Lib.hid h.next
  have hc1 := h.c1
  have hfz := h.fz
  have hge := h.ge
  have hne : ¬ (r = b) := by omega
  have hne2 : ¬ (b = r) := by omega
  clear h
  have d1 : decide (n < 1) = false := by simp; omega
  have d2 : ((len : Int) == 0) = false := by simp; omega
  have d3 : (P : Int) < len := by omega
  have hr1 : 0 ≤ x % n := Int.emod_nonneg _ (by omega)
  have hr2 : x % n < n := Int.emod_lt_of_pos _ (by omega)
  go_enter Try.func93, Try.ntmps93
  go_wp2
  go_ret
  refine ⟨x % n, ?_, hr1, fun _ => hr2, fun hh => by omega, Only.set _ _ _, HN.out⟩
  rfl
theorem pick_mix (B r : Nat) (n : Int) (P : Nat) (w : World) (h : RdOk B r w P) (hp : P ≤ 1000000000) (hn : 1 ≤ n) (len cap b off : Nat) (x y : Int) (h0 : w.cell? ⟨r, 0, none⟩ = some (.slice (some ⟨b, off, none⟩) len cap)) (hl0 : 0 < len) (hl : len ≤ P) (hl2 : len ≤ 2000) (hb : b < B)
    (x0 : 0 ≤ x) (x1 : x ≤ 255) (hx : w.cell? ⟨b, off + ((P : Int) % len).toNat, none⟩ = some (.int .u8 x)) (y0 : 0 ≤ y) (y1 : y ≤ 255) (hy : w.cell? ⟨b, off + (((P : Int) * 7 + 3) % len).toNat, none⟩ = some (.int .u8 y)) : Calls Try.prog 93 #[.pointer (some ⟨r, 0, none⟩), .int .i64 n] w (Picked B r n P w) := by
  have HN := Lib.hid h.next
  have hc1 := h.c1
  have hfz := h.fz
  have hge := h.ge
  have hne : ¬ (r = b) := by omega
  have hne2 : ¬ (b = r) := by omega
  clear h
  have d1 : decide (n < 1) = false := by simp; omega
  have d2 : ((len : Int) == 0) = false := by simp; omega
  have d3 : ¬ (P : Int) < len := by omega
  have z1 : ¬ (len = 0) := by omega
  have i1 : 0 ≤ (P : Int) % len := Int.emod_nonneg _ (by omega)
  have i2 : (P : Int) % len < len := Int.emod_lt_of_pos _ (by omega)
  have j1 : 0 ≤ ((P : Int) * 7 + 3) % len := Int.emod_nonneg _ (by omega)
  have j2 : ((P : Int) * 7 + 3) % len < len := Int.emod_lt_of_pos _ (by omega)
  have q1 : 0 ≤ (P : Int) / len := Int.ediv_nonneg (by omega) (by omega)
  have q2 : (P : Int) / len ≤ P := Int.ediv_le_self _ (by omega)
  have e1 : ((P : Int)).tmod len = (P : Int) % len := Int.tmod_eq_emod_of_nonneg (by omega)
  have e2 : IntKind.i64.wrap (x * 131) = x * 131 := IntWalk.i64_in _ (by omega)
  have e3 : IntKind.i64.wrap ((P : Int) * 7) = (P : Int) * 7 := IntWalk.i64_in _ (by omega)
  have e4 : IntKind.i64.wrap ((P : Int) * 7 + 3) = (P : Int) * 7 + 3 := IntWalk.i64_in _ (by omega)
  have e5 : ((P : Int) * 7 + 3).tmod len = ((P : Int) * 7 + 3) % len := Int.tmod_eq_emod_of_nonneg (by omega)
  have e6 : IntKind.i64.wrap (y * 1117) = y * 1117 := IntWalk.i64_in _ (by omega)
  have e7 : IntKind.i64.wrap (x * 131 + y * 1117) = x * 131 + y * 1117 := IntWalk.i64_in _ (by omega)
  have e8 : IntKind.i64.wrap ((P : Int) * 29) = (P : Int) * 29 := IntWalk.i64_in _ (by omega)
  have e9 : IntKind.i64.wrap (x * 131 + y * 1117 + (P : Int) * 29) = x * 131 + y * 1117 + (P : Int) * 29 := IntWalk.i64_in _ (by omega)
  have ea : IntKind.i64.wrap (((P : Int)).tdiv len) = (P : Int) / len := by rw [Int.tdiv_eq_ediv_of_nonneg (by omega)]; exact IntWalk.i64_in _ (by omega)
  have eb : IntKind.i64.wrap ((P : Int) / len * 53) = (P : Int) / len * 53 := IntWalk.i64_in _ (by omega)
  have ec : IntKind.i64.wrap (x * 131 + y * 1117 + (P : Int) * 29 + (P : Int) / len * 53) = x * 131 + y * 1117 + (P : Int) * 29 + (P : Int) / len * 53 := IntWalk.i64_in _ (by omega)
  go_enter Try.func93, Try.ntmps93
  go_wp2
  go_quiet (fail)
  clear e1 e2 e3 e4 e5 e6 e7 e8 e9 ea eb ec
  have g0 : 0 ≤ x * 131 + y * 1117 + (P : Int) * 29 + (P : Int) / len * 53 := by omega
  have g1 : x * 131 + y * 1117 + (P : Int) * 29 + (P : Int) / len * 53 ≤ 100000000000 := by omega
  go_wp2
  go_ret
  have hX := xor_nonneg _ g0 (by omega)
  refine ⟨_, rfl, Int.tmod_nonneg _ hX, fun _ => ?_, fun hh => by omega, (Only.set _ _ _).drewN _, HN.out.drewN _⟩
  rw [Int.tmod_eq_emod_of_nonneg hX]
  exact Int.emod_lt_of_pos _ (by omega)
theorem pick (B r : Nat) (n p : Int) (w : World) (h : RdOk B r w p) (hp : p ≤ 1000000000) : Calls Try.prog 93 #[.pointer (some ⟨r, 0, none⟩), .int .i64 n] w (Picked B r n p w) := by
  by_cases hn : n < 1
  · exact pick_zero B r n p w h hp hn
  obtain ⟨a, len, cap, h0, hl, hd⟩ := h.c0
  by_cases hl0 : len = 0
  · subst hl0; exact pick_none B r n p w h hp (by omega) a cap h0
  obtain ⟨b, off, rfl, hb, hx⟩ := hd (by omega)
  obtain ⟨P, rfl⟩ := Int.eq_ofNat_of_zero_le h.p0
  by_cases hlt : P < len
  · obtain ⟨x, x0, x1, hc⟩ := hx P hlt
    exact pick_low B r n P w h (by omega) (by omega) len cap b off x h0 hlt hl hb x0 x1 hc
  · obtain ⟨x, x0, x1, hc⟩ := hx ((P : Int) % len).toNat (by have := Int.emod_lt_of_pos (P : Int) (show (0 : Int) < len by omega); have := Int.emod_nonneg (P : Int) (show (len : Int) ≠ 0 by omega); omega)
    obtain ⟨y, y0, y1, hc2⟩ := hx (((P : Int) * 7 + 3) % len).toNat (by have := Int.emod_lt_of_pos ((P : Int) * 7 + 3) (show (0 : Int) < len by omega); have := Int.emod_nonneg ((P : Int) * 7 + 3) (show (len : Int) ≠ 0 by omega); omega)
    exact pick_mix B r n P w h (by omega) (by omega) len cap b off x y h0 (by omega) (by omega) hl hb x0 x1 hc y0 y1 hc2
/-- What odd leaves. -/
def Odd (B r : Nat) (p : Int) (w : World) (e : Ending) (w' : World) : Prop := ∃ (v : Bool) (q : Int), e = .returned (.bool v) ∧ q ≤ p + 1 ∧ Only r w w' ∧ RdOk B r w' q
theorem odd (B r : Nat) (n p : Int) (w : World) (h : RdOk B r w p) (hp : p ≤ 1000000000) (hn : n ≤ 1000) : Calls Try.prog 117 #[.pointer (some ⟨r, 0, none⟩), .int .i64 n] w (Odd B r p w) := by
  have H := Lib.hid h
  clear h
  by_cases hn0 : 0 < n
  · go_enter Try.func117, Try.ntmps117
    go_wp2_with (go_at_call 93; refine (pick B r _ p _ H.out hp).mono ?_; rintro e w1 ⟨m, rfl, hm0, hm1, hm2, ho, hr⟩; have HO := Lib.hid ho; have HR := Lib.hid hr; clear ho hr)
    go_ret
    exact ⟨_, p + 1, rfl, by omega, HO.out, HR.out⟩
  · go_enter Try.func117, Try.ntmps117
    go_wp2
    go_ret
    exact ⟨_, p, rfl, by omega, ⟨rfl, rfl, rfl, Nat.le_refl _, fun _ _ _ => rfl⟩, H.out⟩
/-- What is told of a slice of integers that came in: it is nil; or it leads to a row of 'cap' cells, the numbers 'zs' (the first 'len' are its elements, the rest its spare room), each fitting its kind. -/
def IsRow (k : IntKind) (w : World) (a : Option Addr) (len cap : Nat) (zs : List Int) : Prop :=
  (a = none ∧ len = 0 ∧ cap = 0 ∧ zs = []) ∨
  ∃ x, a = some x ∧ len ≤ cap ∧ cap ≤ maxLen ∧ zs.length = cap ∧ (∀ i, i < zs.length → w.cell? (x.add i) = some (.int k (zs.getD i 0))) ∧ ∀ n ∈ zs, (Lit.int k n).wf = true
/-- What l20Open leaves. -/
def Opened (w : World) (e : Ending) (w' : World) : Prop := ∃ r : Nat, e = .returned (.pointer (some ⟨r, 0, none⟩)) ∧ RdOk w.heap.size r w' 0 ∧ Below w.heap.size w w'
theorem row_at {w : World} {a : Option Addr} {len cap : Nat} {zs : List Int} (h : IsRow .u8 w a len cap zs) (h0 : 0 < len) : ∃ b off, a = some ⟨b, off, none⟩ ∧ b < w.heap.size ∧ ∀ i, i < len → ∃ x : Int, 0 ≤ x ∧ x ≤ 255 ∧ w.cell? ⟨b, off + i, none⟩ = some (.int .u8 x) := by
  rcases h with ⟨_, rfl, _, _⟩ | ⟨x, rfl, hl, hm, hz, hc, hw⟩
  · omega
  · obtain ⟨b, off, spot⟩ := x
    have hc0 := hc 0 (by omega)
    have hspot : spot = none := by simpa [Addr.add] using World.cell?_spot hc0
    subst hspot
    have hlt := World.block_lt_of_cell? w _ hc0
    refine ⟨b, off, rfl, by simpa [Addr.add] using hlt, fun i hi => ?_⟩
    have hci := hc i (by omega)
    have hwi := hw (zs.getD i 0) (by rw [List.getD_eq_getElem?_getD, List.getElem?_eq_getElem (show i < zs.length by omega)]; exact List.getElem_mem _)
    refine ⟨zs.getD i 0, ?_, ?_, ?_⟩
    · have := hwi; simp [Lit.wf, IntKind.min, IntKind.max, IntKind.bits, IntKind.signed] at this; rw [List.getD_eq_getElem?_getD]; omega
    · have := hwi; simp [Lit.wf, IntKind.min, IntKind.max, IntKind.bits, IntKind.signed] at this; rw [List.getD_eq_getElem?_getD]; omega
    · rw [← hci]; unfold Addr.add; split
      · subst i; rfl
      · rfl
theorem row_alloc {w : World} {a : Option Addr} {len cap : Nat} {zs : List Int} {k : IntKind} (h : IsRow k w a len cap zs) (o : Obj) : IsRow k (w.alloc o) a len cap zs := by
  rcases h with h | ⟨x, e, hl, hm, hz, hc, hw⟩
  · exact .inl h
  · refine .inr ⟨x, e, hl, hm, hz, fun i hi => ?_, hw⟩
    have := hc i hi
    rw [World.cell?_alloc_lt w o _ (World.block_lt_of_cell? w _ this)]; exact this
theorem l20Open (a : Option Addr) (len cap : Nat) (zs : List Int) (w : World) (h : IsRow .u8 w a len cap zs) : Calls Try.prog 89 #[.slice a len cap] w (Opened w) := by
  have hlc : len ≤ cap ∧ cap ≤ maxLen := by
    rcases h with ⟨_, rfl, rfl, _⟩ | ⟨x, _, hl, hm, _⟩
    · exact ⟨Nat.le_refl _, by decide⟩
    · exact ⟨hl, hm⟩
  obtain ⟨hlc, hcm⟩ := hlc
  unfold maxLen at hcm
  have HR := Lib.hid (row_at h)
  have hbl : ∀ (len' : Nat), len' ≤ len → len' ≤ 2000 → RdOk w.heap.size w.heap.size (w.alloc (.cells #[.slice a len' cap, .int .i64 0] 138)) 0 := by
    intro len' hl' hl2
    refine ⟨Nat.le_refl _, by simp, by omega, ?_, ?_, a, len', cap, ?_, hl2, fun h0 => ?_⟩
    · simp [go_sem]
    · simp [go_sem]
    · simp [go_sem]
    · obtain ⟨b, off, e, hb, hx⟩ := HR.out (by omega)
      refine ⟨b, off, e, hb, fun i hi => ?_⟩
      obtain ⟨x, x0, x1, hc⟩ := hx i (by omega)
      exact ⟨x, x0, x1, by rw [World.cell?_alloc_lt w _ _ hb]; exact hc⟩
  have HB := Lib.hid hbl
  clear hbl h
  by_cases hlt : 2000 < len
  · go_enter Try.func89, Try.ntmps89
    go_wp2
    go_ret
    exact ⟨w.heap.size, rfl, HB.out 2000 (by omega) (Nat.le_refl _), by (repeat (with_reducible first | exact Below.refl _ _ | exact HBD.out | (refine Below.trans ?_ (Below.mono hb1 (by first | omega | (simp; done) | (simp; omega))); clear hb1) | (refine Below.trans ?_ (Below.mono hb2 (by first | omega | (simp; done) | (simp; omega))); clear hb2) | (refine Below.trans ?_ (Below.mono hb3 (by first | omega | (simp; done) | (simp; omega))); clear hb3) | (refine Below.trans ?_ (Below.mono hb4 (by first | omega | (simp; done) | (simp; omega))); clear hb4) | (refine Below.trans ?_ (Below.mono hb5 (by first | omega | (simp; done) | (simp; omega))); clear hb5) | (refine Below.trans ?_ (Below.mono hb6 (by first | omega | (simp; done) | (simp; omega))); clear hb6) | (refine Below.trans ?_ (Below.mono hb7 (by first | omega | (simp; done) | (simp; omega))); clear hb7) | (refine Below.trans ?_ (Below.mono hb8 (by first | omega | (simp; done) | (simp; omega))); clear hb8) | (refine Below.trans ?_ (Below.mono hb9 (by first | omega | (simp; done) | (simp; omega))); clear hb9) | (refine Below.trans ?_ (Below.mono hb10 (by first | omega | (simp; done) | (simp; omega))); clear hb10) | refine Below.alloc ?_ (by first | omega | (simp; done) | (simp; omega)) _ | refine Below.setCell ?_ (by first | omega | (simp; done) | (simp; omega)) _ | refine Below.drew ?_))⟩
  · go_enter Try.func89, Try.ntmps89
    go_wp2
    go_ret
    exact ⟨w.heap.size, rfl, HB.out len (Nat.le_refl _) (by omega), by (repeat (with_reducible first | exact Below.refl _ _ | exact HBD.out | (refine Below.trans ?_ (Below.mono hb1 (by first | omega | (simp; done) | (simp; omega))); clear hb1) | (refine Below.trans ?_ (Below.mono hb2 (by first | omega | (simp; done) | (simp; omega))); clear hb2) | (refine Below.trans ?_ (Below.mono hb3 (by first | omega | (simp; done) | (simp; omega))); clear hb3) | (refine Below.trans ?_ (Below.mono hb4 (by first | omega | (simp; done) | (simp; omega))); clear hb4) | (refine Below.trans ?_ (Below.mono hb5 (by first | omega | (simp; done) | (simp; omega))); clear hb5) | (refine Below.trans ?_ (Below.mono hb6 (by first | omega | (simp; done) | (simp; omega))); clear hb6) | (refine Below.trans ?_ (Below.mono hb7 (by first | omega | (simp; done) | (simp; omega))); clear hb7) | (refine Below.trans ?_ (Below.mono hb8 (by first | omega | (simp; done) | (simp; omega))); clear hb8) | (refine Below.trans ?_ (Below.mono hb9 (by first | omega | (simp; done) | (simp; omega))); clear hb9) | (refine Below.trans ?_ (Below.mono hb10 (by first | omega | (simp; done) | (simp; omega))); clear hb10) | refine Below.alloc ?_ (by first | omega | (simp; done) | (simp; omega)) _ | refine Below.setCell ?_ (by first | omega | (simp; done) | (simp; omega)) _ | refine Below.drew ?_))⟩
end Go.Proofs.Ytjidkjnlnenmbaa.Val
