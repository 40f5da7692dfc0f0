/- The reader of codes (l20Rd): what pick, odd and l20Open do. -/
import Derived.Test.YtcddkleglmbfgabTxt
import Derived.Deep.RegionHeld3
import Derived.Deep.DeepCutAuto
import Derived.Deep.Draws
namespace Go.Proofs.Ytcddkleglmbfgab.Val
open Go.RowKit
/-- No block but r has turned. -/
structure Only (r : Nat) (w w' : World) : Prop where
  os : w'.os = w.os
  tape : w'.tape = w.tape
  output : w'.output = w.output
  size : w.heap.size ≤ w'.heap.size
  block : ∀ k, k < w.heap.size → k ≠ r → w'.heap[k]? = w.heap[k]?
theorem Only.cell {r : Nat} {w w' : World} (h : Only r w w') (b o : Nat) (hb : b < w.heap.size) (hr : b ≠ r) : w'.cell? ⟨b, o, none⟩ = w.cell? ⟨b, o, none⟩ := World.cell?_of_block (w := w) (h.block b hb hr)
theorem Only.frozen {r : Nat} {w w' : World} (h : Only r w w') (b o : Nat) (hb : b < w.heap.size) (hr : b ≠ r) : w'.frozen? ⟨b, o, none⟩ = w.frozen? ⟨b, o, none⟩ := World.frozen?_of_block (w := w) (h.block b hb hr)
theorem Only.below {r B : Nat} {w w' : World} (h : Only r w w') (hB : B ≤ r) (hw : B ≤ w.heap.size) : Below B w w' := ⟨h.os, h.tape, h.output, h.size, fun k hk => h.block k (by omega) (by omega)⟩
theorem Only.set {r : Nat} (w : World) (o : Nat) (u : Value) : Only r w (w.setCell ⟨r, o, none⟩ u) := ⟨rfl, rfl, rfl, by simp [World.setCell], fun k hk hr => Below.heap_setCell w _ u k hr⟩
theorem Only.drewN {r : Nat} {w w' : World} (h : Only r w w') (n : Nat) : Only r w (w'.drewN n) := ⟨h.os, h.tape, h.output, h.size, h.block⟩
theorem Only.trans {r : Nat} {a b c : World} (h : Only r a b) (k : Only r b c) : Only r a c := ⟨k.os.trans h.os, k.tape.trans h.tape, k.output.trans h.output, Nat.le_trans h.size k.size, fun i hi hr => (k.block i (Nat.lt_of_lt_of_le hi h.size) hr).trans (h.block i hi hr)⟩
/-- A reader stands in block r (r at least B) over bytes that lie below block B, at place p. -/
structure RdOk (B r : Nat) (w : World) (p : Int) : Prop where
  ge : B ≤ r
  lt : r < w.heap.size
  p0 : 0 ≤ p
  fz : w.frozen? ⟨r, 1, none⟩ = false
  c1 : w.cell? ⟨r, 1, none⟩ = some (.int .i64 p)
  c0 : ∃ (a : Option Addr) (len cap : Nat), w.cell? ⟨r, 0, none⟩ = some (.slice a len cap) ∧ len ≤ 2000 ∧ (0 < len → ∃ b off, a = some ⟨b, off, none⟩ ∧ b < B ∧ ∀ i, i < len → ∃ x : Int, 0 ≤ x ∧ x ≤ 255 ∧ w.cell? ⟨b, off + i, none⟩ = some (.int .u8 x))
theorem RdOk.next {B r : Nat} {w : World} {p : Int} (h : RdOk B r w p) : RdOk B r (w.setCell ⟨r, 1, none⟩ (.int .i64 (p + 1))) (p + 1) where
  ge := h.ge
  lt := by simpa [World.setCell] using h.lt
  p0 := by have := h.p0; omega
  fz := by rw [World.frozen?_setCell]; exact h.fz
  c1 := World.cell?_setCell_same _ _ _ h.c1
  c0 := by
    obtain ⟨a, len, cap, h0, hl, hd⟩ := h.c0
    refine ⟨a, len, cap, ?_, hl, fun hp => ?_⟩
    · rw [World.cell?_setCell_other _ _ _ _ (by simp)]; exact h0
    · obtain ⟨b, off, e, hb, hx⟩ := hd hp
      refine ⟨b, off, e, hb, fun i hi => ?_⟩
      obtain ⟨x, x0, x1, hc⟩ := hx i hi
      refine ⟨x, x0, x1, ?_⟩
      have hge := h.ge
      rw [World.cell?_setCell_other _ _ _ _ (by intro e; injection e with e1 e2; omega)]; exact hc
theorem RdOk.drewN {B r : Nat} {w : World} {p : Int} (h : RdOk B r w p) (n : Nat) : RdOk B r (w.drewN n) p := ⟨h.ge, h.lt, h.p0, h.fz, h.c1, h.c0⟩
theorem xor_nonneg (a : Int) (h0 : 0 ≤ a) (h1 : a < 4611686018427387904) : 0 ≤ bits .xor .i64 a (a / 64) := by
  obtain ⟨A, rfl⟩ := Int.eq_ofNat_of_zero_le h0
  have d : ((A : Int) / 64) = ((A / 64 : Nat) : Int) := by omega
  rw [d]
  have hx : A ^^^ (A / 64) < 2 ^ 62 := Nat.xor_lt_two_pow (by omega) (by omega)
  have h1 : (BitVec.ofInt 64 (A : Int)).toNat = A := by
    rw [BitVec.ofInt_natCast, BitVec.toNat_ofNat]; exact Nat.mod_eq_of_lt (by omega)
  have h2 : (BitVec.ofInt 64 ((A / 64 : Nat) : Int)).toNat = A / 64 := by
    rw [BitVec.ofInt_natCast, BitVec.toNat_ofNat]; exact Nat.mod_eq_of_lt (by omega)
  show 0 ≤ IntKind.i64.wrap ((BitVec.ofInt 64 (A : Int) ^^^ BitVec.ofInt 64 ((A / 64 : Nat) : Int)).toNat : Int)
  rw [BitVec.toNat_xor, h1, h2, IntWalk.i64_in _ (by omega)]
  omega
/-- What pick leaves. -/
def Picked (B r : Nat) (n p : Int) (w : World) (e : Ending) (w' : World) : Prop := ∃ m : Int, e = .returned (.int .i64 m) ∧ 0 ≤ m ∧ (1 ≤ n → m < n) ∧ (n < 1 → m = 0) ∧ Only r w w' ∧ RdOk B r w' (p + 1)
/-- What odd leaves. -/
def Odd (B r : Nat) (p : Int) (w : World) (e : Ending) (w' : World) : Prop := ∃ (v : Bool) (q : Int), e = .returned (.bool v) ∧ q ≤ p + 1 ∧ Only r w w' ∧ RdOk B r w' q
/-- What is told of a slice of integers that came in: it is nil; or it leads to a row of 'cap' cells, the numbers 'zs' (the first 'len' are its elements, the rest its spare room), each fitting its kind. -/
def IsRow (k : IntKind) (w : World) (a : Option Addr) (len cap : Nat) (zs : List Int) : Prop :=
  (a = none ∧ len = 0 ∧ cap = 0 ∧ zs = []) ∨
  ∃ x, a = some x ∧ len ≤ cap ∧ cap ≤ maxLen ∧ zs.length = cap ∧ (∀ i, i < zs.length → w.cell? (x.add i) = some (.int k (zs.getD i 0))) ∧ ∀ n ∈ zs, (Lit.int k n).wf = true
/-- What l20Open leaves. -/
def Opened (w : World) (e : Ending) (w' : World) : Prop := ∃ r : Nat, e = .returned (.pointer (some ⟨r, 0, none⟩)) ∧ RdOk w.heap.size r w' 0 ∧ Below w.heap.size w w'
theorem row_at {w : World} {a : Option Addr} {len cap : Nat} {zs : List Int} (h : IsRow .u8 w a len cap zs) (h0 : 0 < len) : ∃ b off, a = some ⟨b, off, none⟩ ∧ b < w.heap.size ∧ ∀ i, i < len → ∃ x : Int, 0 ≤ x ∧ x ≤ 255 ∧ w.cell? ⟨b, off + i, none⟩ = some (.int .u8 x) := by
  rcases h with ⟨_, rfl, _, _⟩ | ⟨x, rfl, hl, hm, hz, hc, hw⟩
  · omega
  · obtain ⟨b, off, spot⟩ := x
    have hc0 := hc 0 (by omega)
    have hspot : spot = none := by simpa [Addr.add] using World.cell?_spot hc0
    subst hspot
    have hlt := World.block_lt_of_cell? w _ hc0
    refine ⟨b, off, rfl, by simpa [Addr.add] using hlt, fun i hi => ?_⟩
    have hci := hc i (by omega)
    have hwi := hw (zs.getD i 0) (by rw [List.getD_eq_getElem?_getD, List.getElem?_eq_getElem (show i < zs.length by omega)]; exact List.getElem_mem _)
    refine ⟨zs.getD i 0, ?_, ?_, ?_⟩
    · have := hwi; simp [Lit.wf, IntKind.min, IntKind.max, IntKind.bits, IntKind.signed] at this; rw [List.getD_eq_getElem?_getD]; omega
    · have := hwi; simp [Lit.wf, IntKind.min, IntKind.max, IntKind.bits, IntKind.signed] at this; rw [List.getD_eq_getElem?_getD]; omega
    · rw [← hci]; unfold Addr.add; split
      · subst i; rfl
      · rfl
theorem row_alloc {w : World} {a : Option Addr} {len cap : Nat} {zs : List Int} {k : IntKind} (h : IsRow k w a len cap zs) (o : Obj) : IsRow k (w.alloc o) a len cap zs := by
  rcases h with h | ⟨x, e, hl, hm, hz, hc, hw⟩
  · exact .inl h
  · refine .inr ⟨x, e, hl, hm, hz, fun i hi => ?_, hw⟩
    have := hc i hi
    rw [World.cell?_alloc_lt w o _ (World.block_lt_of_cell? w _ this)]; exact this
end Go.Proofs.Ytcddkleglmbfgab.Val
