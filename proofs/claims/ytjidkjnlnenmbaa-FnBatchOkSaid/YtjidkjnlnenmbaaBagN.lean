/- What marks leave of rows of one's own; rows that may be nil: copied, marked, told again. -/
import Derived.Test.YtjidkjnlnenmbaaFlK
import Derived.Test.YtjidkjnlnenmbaaRMark
namespace Go.Proofs.Ytjidkjnlnenmbaa.Val
open Go.RowKit
set_option linter.unusedVariables false
set_option linter.unusedSimpArgs false
set_option maxRecDepth 8000
/-- No block but those from lo on, below hi, turned. -/
structure OnlyI (lo hi : Nat) (w w' : World) : Prop where
  os : w'.os = w.os
  tape : w'.tape = w.tape
  output : w'.output = w.output
  size : w.heap.size ≤ w'.heap.size
  block : ∀ k, k < w.heap.size → (k < lo ∨ hi ≤ k) → w'.heap[k]? = w.heap[k]?
theorem OnlyT.toI {bs : List Nat} {w w' : World} {lo hi : Nat} (h : OnlyT bs w w') (hb : ∀ b ∈ bs, lo ≤ b ∧ b < hi) : OnlyI lo hi w w' :=
  ⟨h.os, h.tape, h.output, h.size, fun k hk ho => h.block k hk (fun e => by have := hb k e; omega)⟩
theorem Only.toI {r : Nat} {w w' : World} {lo hi : Nat} (h : Only r w w') (hb : lo ≤ r ∧ r < hi) : OnlyI lo hi w w' :=
  ⟨h.os, h.tape, h.output, h.size, fun k hk ho => h.block k hk (fun e => by omega)⟩
theorem OnlyI.below {lo hi N : Nat} {w w' : World} (h : OnlyI lo hi w w') (hN : N ≤ lo) (hw : N ≤ w.heap.size) : Below N w w' :=
  ⟨h.os, h.tape, h.output, h.size, fun k hk => h.block k (by omega) (.inl (by omega))⟩
theorem Bag.loI {w w' : World} {B g cap lo hi : Nat} {T : List TT} {ls : List RT} (h : Bag w B g cap T ls) (hu : Under lo g T) (ho : OnlyI lo hi w w') : Bag w' B g cap T ls :=
  h.keep ho.size (ho.block _ h.lo.2 (.inl hu.1)) fun t ht => ho.block _ (h.rows t ht).hi (.inl (hu.2 t ht))
theorem Bag.hiI {w w' : World} {B g cap lo hi : Nat} {T : List TT} {ls : List RT} (h : Bag w B g cap T ls) (hB : hi ≤ B) (ho : OnlyI lo hi w w') : Bag w' B g cap T ls :=
  h.keep ho.size (ho.block _ h.lo.2 (.inr (by have := h.lo.1; omega))) fun t ht => ho.block _ (h.rows t ht).hi (.inr (by have := (h.rows t ht).lo; omega))
theorem FlO.loI {w w' : World} {B g c n lo hi : Nat} {xs : List Value} (h : FlO w B g c n xs) (hg : g < lo) (ho : OnlyI lo hi w w') : FlO w' B g c n xs := h.keep ho.size (ho.block _ h.hi (.inl hg))
theorem FlO.hiI {w w' : World} {B g c n lo hi : Nat} {xs : List Value} (h : FlO w B g c n xs) (hB : hi ≤ B) (ho : OnlyI lo hi w w') : FlO w' B g c n xs := h.keep ho.size (ho.block _ h.hi (.inr (by have := h.lo; omega)))
theorem FlO.alloc {w : World} {B g c n : Nat} {xs : List Value} (h : FlO w B g c n xs) (ob : Obj) : FlO (w.alloc ob) B g c n xs := h.below ((Below.refl _ _).alloc (Nat.le_refl _) _)
theorem FlO.drew {w : World} {B g c n : Nat} {xs : List Value} (h : FlO w B g c n xs) : FlO w.drew B g c n xs := h.below ((Below.refl _ _).drew)
theorem OnlyI.refl (lo hi : Nat) (w : World) : OnlyI lo hi w w := ⟨rfl, rfl, rfl, Nat.le_refl _, fun _ _ _ => rfl⟩
def RetBagN (ls : List RT) (w : World) (e : Ending) (w' : World) : Prop := ((∃ (g c : Nat) (T : List TT), e = .returned (.slice (some ⟨g, 0, none⟩) ls.length c) ∧ Bag w' w.heap.size g c T ls) ∨ (e = .returned (.slice none 0 0) ∧ ls = [])) ∧ Below w.heap.size w w'
/-- Rows of one's own, or nil. -/
def BagN (w : World) (B : Nat) (A : Option Addr) (g c : Nat) (T : List TT) (ls : List RT) : Prop := (A = some ⟨g, 0, none⟩ ∧ Bag w B g c T ls) ∨ (A = none ∧ c = 0 ∧ ls = [] ∧ T = [])
theorem BagN.rws {w : World} {B g c : Nat} {A : Option Addr} {T : List TT} {ls : List RT} (h : BagN w B A g c T ls) : Rws w g 0 A ls := by
  rcases h with ⟨rfl, h⟩ | ⟨rfl, -, rfl, -⟩
  · exact h.rws
  · exact ⟨fun h => absurd h (by simp), fun j hj => absurd hj (by simp)⟩
theorem BagN.eq {w : World} {B g c : Nat} {A : Option Addr} {T : List TT} {ls : List RT} (h : BagN w B A g c T ls) : T.map (fun t => t.2.2) = ls := by
  rcases h with ⟨rfl, h⟩ | ⟨rfl, -, rfl, rfl⟩
  · exact h.eq
  · rfl
theorem BagN.below {w w' : World} {B g c : Nat} {A : Option Addr} {T : List TT} {ls : List RT} (h : BagN w B A g c T ls) (hb : Below w.heap.size w w') : BagN w' B A g c T ls := by
  rcases h with ⟨h1, h⟩ | h
  · exact .inl ⟨h1, h.below hb⟩
  · exact .inr h
theorem BagN.alloc {w : World} {B g c : Nat} {A : Option Addr} {T : List TT} {ls : List RT} (h : BagN w B A g c T ls) (ob : Obj) : BagN (w.alloc ob) B A g c T ls := h.below ((Below.refl _ _).alloc (Nat.le_refl _) _)
theorem BagN.drew {w : World} {B g c : Nat} {A : Option Addr} {T : List TT} {ls : List RT} (h : BagN w B A g c T ls) : BagN w.drew B A g c T ls := h.below ((Below.refl _ _).drew)
theorem BagN.hiI {w w' : World} {B g c lo hi : Nat} {A : Option Addr} {T : List TT} {ls : List RT} (h : BagN w B A g c T ls) (hB : hi ≤ B) (ho : OnlyI lo hi w w') : BagN w' B A g c T ls := by
  rcases h with ⟨h1, h⟩ | h
  · exact .inl ⟨h1, h.hiI hB ho⟩
  · exact .inr h
theorem retBagN {ls : List RT} {w w' : World} {e : Ending} (h : RetBagN ls w e w') : ∃ (A : Option Addr) (g c : Nat) (T : List TT), e = .returned (.slice A ls.length c) ∧ BagN w' w.heap.size A g c T ls ∧ Below w.heap.size w w' := by
  rcases h with ⟨⟨g, c, T, rfl, h⟩ | ⟨rfl, rfl⟩, hb⟩
  · exact ⟨_, g, c, T, rfl, .inl ⟨rfl, h⟩, hb⟩
  · exact ⟨none, 0, 0, [], rfl, .inr ⟨rfl, rfl, rfl, rfl⟩, hb⟩
theorem markNil (n : Int) (w : World) : Calls Try.prog 21 #[.slice none 0 0, .int .i64 n] w fun e w' => e = .returned (.int .i64 n) ∧ w = w' := by
  go_enter Try.func21, Try.ntmps21
  go_wp2
  go_loopw [1, 5] (fun nx kx wr => nx = .int .i64 n ∧ kx = .int .i64 0 ∧ wr = w) (fun _ _ _ => 0)
  case atStart => exact ⟨rfl, rfl, rfl⟩
  case round =>
    obtain ⟨rfl, rfl, rfl⟩ := hrel
    go_wp2
    go_ret
    exact ⟨rfl, rfl⟩
theorem heldNil (n : Int) (w : World) : Calls Try.prog 22 #[.slice none 0 0, .int .i64 n] w fun e w' => e = .returned (.int .i64 n) ∧ w = w' := by
  go_enter Try.func22, Try.ntmps22
  go_wp2
  go_loopw [1, 5] (fun nx kx wr => nx = .int .i64 n ∧ kx = .int .i64 0 ∧ wr = w) (fun _ _ _ => 0)
  case atStart => exact ⟨rfl, rfl, rfl⟩
  case round =>
    obtain ⟨rfl, rfl, rfl⟩ := hrel
    go_wp2
    go_ret
    exact ⟨rfl, rfl⟩
theorem markBN (M B g c : Nat) (A : Option Addr) (T : List TT) (ls : List RT) (w : World) (h : BagN w B A g c T ls) (hM : M = 1 + 3 * total ls) (hl : M ≤ 7000000) (hl2 : ls.length ≤ 2000000) :
    Calls Try.prog 21 #[.slice A ls.length c, .int .i64 1] w fun e w' => e = .returned (.int .i64 (M : Int)) ∧ BagN w' B A g c (markT 1 T) ((markT 1 T).map fun t => t.2.2) ∧ OnlyI B w.heap.size w w' := by
  rcases h with ⟨rfl, h⟩ | ⟨rfl, rfl, rfl, rfl⟩
  · have hb : ∀ b ∈ T.map (fun t => t.1), B ≤ b ∧ b < w.heap.size := fun b hb => by
      obtain ⟨t, ht, rfl⟩ := List.mem_map.1 hb
      exact ⟨(h.rows t ht).lo, (h.rows t ht).hi⟩
    refine (markSS 1 M B g c ls.length T ls w (by omega) h rfl hM hl hl2).mono ?_
    rintro e w' ⟨rfl, h1, h2⟩
    exact ⟨rfl, .inl ⟨rfl, h1⟩, OnlyT.toI h2 hb⟩
  · subst hM
    refine (markNil 1 w).mono ?_
    rintro e w' ⟨rfl, rfl⟩
    exact ⟨rfl, .inr ⟨rfl, rfl, rfl, rfl⟩, OnlyI.refl _ _ _⟩
theorem heldBN (M B g c : Nat) (A : Option Addr) (T : List TT) (zs ls : List RT) (w : World) (h : BagN w B A g c (markT 1 T) ls) (hT : T.map (fun t => t.2.2) = zs) (hM : M = 1 + 3 * total zs) (hl : M ≤ 7000000) (hl2 : zs.length ≤ 2000000) :
    Calls Try.prog 22 #[.slice A zs.length c, .int .i64 1] w fun e w' => e = .returned (.int .i64 (M : Int)) ∧ Below w.heap.size w w' := by
  rcases h with ⟨rfl, h⟩ | ⟨rfl, rfl, rfl, h2⟩
  · exact heldSS 1 M B g c zs.length T zs ls w (by omega) h hT rfl hM hl hl2
  · have hT0 : T = [] := by
      cases T with
      | nil => rfl
      | cons t T => simp [markT] at h2
    subst hT0
    subst hT
    subst hM
    refine (heldNil 1 w).mono ?_
    rintro e w' ⟨rfl, rfl⟩
    exact ⟨rfl, Below.refl _ _⟩
end Go.Proofs.Ytjidkjnlnenmbaa.Val
