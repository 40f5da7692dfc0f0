/- A plan as an answer: of one's own, or none; its marks. -/
import Derived.Test.YtacinjbaebimhaaStpHQ
import Derived.Test.YtacinjbaebimhaaTidTQ
namespace Go.Proofs.Ytacinjbaebimhaa.Val
open Go.RowKit
set_option linter.unusedSimpArgs false
set_option linter.unusedVariables false
set_option maxRecDepth 8000
def PlN (w : World) (B : Nat) (A : Option Addr) (g c : Nat) (U : List UP) (ps : List SP) : Prop := (A = some ⟨g, 0, none⟩ ∧ Stp w B g c U ps) ∨ (A = none ∧ c = 0 ∧ ps = [] ∧ U = [])
theorem PlN.sps {w : World} {B g c : Nat} {A : Option Addr} {U : List UP} {ps : List SP} (h : PlN w B A g c U ps) : Sps w g 0 A ps := by
  rcases h with ⟨rfl, h⟩ | ⟨rfl, rfl, rfl, -⟩
  · exact h.sps
  · exact ⟨fun h => absurd h (by simp), fun j hj => absurd hj (by simp)⟩
theorem PlN.eq {w : World} {B g c : Nat} {A : Option Addr} {U : List UP} {ps : List SP} (h : PlN w B A g c U ps) : U.map spOf = ps := by
  rcases h with ⟨-, h⟩ | ⟨-, -, rfl, rfl⟩
  · exact h.eq
  · rfl
theorem PlN.below {w w' : World} {B g c : Nat} {A : Option Addr} {U : List UP} {ps : List SP} (h : PlN w B A g c U ps) (hb : Below w.heap.size w w') : PlN w' B A g c U ps := by
  rcases h with ⟨h1, h⟩ | h
  · exact .inl ⟨h1, h.below hb⟩
  · exact .inr h
theorem PlN.alloc {w : World} {B g c : Nat} {A : Option Addr} {U : List UP} {ps : List SP} (h : PlN w B A g c U ps) (ob : Obj) : PlN (w.alloc ob) B A g c U ps := h.below ((Below.refl _ _).alloc (Nat.le_refl _) _)
theorem PlN.drew {w : World} {B g c : Nat} {A : Option Addr} {U : List UP} {ps : List SP} (h : PlN w B A g c U ps) : PlN w.drew B A g c U ps := h.below ((Below.refl _ _).drew)
theorem PlN.hiI {w w' : World} {B g c lo hi : Nat} {A : Option Addr} {U : List UP} {ps : List SP} (h : PlN w B A g c U ps) (hB : hi ≤ B) (ho : OnlyI lo hi w w') : PlN w' B A g c U ps := by
  rcases h with ⟨h1, h⟩ | h
  · exact .inl ⟨h1, h.hiI hB ho⟩
  · exact .inr h
theorem retStpN {ps : List SP} {w w' : World} {e : Ending} (h : RetStpN ps w e w') : ∃ (A : Option Addr) (g c : Nat) (U : List UP), e = .returned (.slice A ps.length c) ∧ PlN w' w.heap.size A g c U ps ∧ Below w.heap.size w w' := by
  obtain ⟨⟨g, c, U, rfl, h⟩ | ⟨rfl, rfl⟩, hb⟩ := h
  · exact ⟨_, g, c, U, rfl, .inl ⟨rfl, h⟩, hb⟩
  · exact ⟨none, 0, 0, [], rfl, .inr ⟨rfl, rfl, rfl, rfl⟩, hb⟩
def UnderS (lo g : Nat) (U : List UP) : Prop := g < lo ∧ ∀ b ∈ U.flatMap blkS, b < lo
theorem Stp.under {w : World} {B g c : Nat} {U : List UP} {ps : List SP} (h : Stp w B g c U ps) : UnderS w.heap.size g U := ⟨h.lo.2, fun b hb => (h.hi b hb).2⟩
theorem Stp.loI {w w' : World} {B g c lo hi : Nat} {U : List UP} {ps : List SP} (h : Stp w B g c U ps) (hu : UnderS lo g U) (ho : OnlyI lo hi w w') : Stp w' B g c U ps :=
  h.keep ho.size (ho.block g h.lo.2 (.inl hu.1)) fun b hb => ho.block b (h.hi b hb).2 (.inl (hu.2 b hb))
/-- How many marks a plan takes. -/
def sumS (ps : List SP) : Nat := (ps.map fun s => 4 + 5 * s.2.2.2.2.1.length + s.2.2.2.2.2.length).sum
theorem sumU_eq (U : List UP) : sumU U = sumS (U.map spOf) := by
  rw [sumU, sumS, List.map_map]; rfl
theorem sumS_app (a b : List SP) : sumS (a ++ b) = sumS a + sumS b := by simp [sumS]
theorem sumS_le (ps : List SP) : sumS ps ≤ 5 * (ps.length + cntS ps) := by
  induction ps with
  | nil => simp [sumS]
  | cons s ps ih =>
    have h : cntS (s :: ps) = cnt2 s + cntS ps := by simp [cntS]
    have h2 : sumS (s :: ps) = 4 + 5 * s.2.2.2.2.1.length + s.2.2.2.2.2.length + sumS ps := by simp [sumS]
    have h3 : cnt2 s = s.2.2.2.2.1.length + s.2.2.2.2.2.length := rfl
    rw [h, h2, List.length_cons]
    omega
theorem sumS_plS (pl : List Int) (ps : List SP) : sumS (ps.map (plS pl)) = sumS ps := by
  rw [sumS, sumS, List.map_map]; rfl
theorem sumS_left (p : List SP) (U : List Bool) (k : Nat) (hk : k ≤ p.length) : sumS (leftL p U k) ≤ sumS (p.take k) := by
  induction k with
  | zero => simp [leftL, sumS]
  | succ k ih =>
    have h1 := ih (by omega)
    have ht : p.take (k + 1) = p.take k ++ [p[k]] := by rw [List.take_add_one, List.getElem?_eq_getElem (by omega)]; rfl
    rw [leftL, ht, sumS_app, sumS_app]
    split
    · rw [getD_lt (by omega)]; omega
    · have : sumS [] = 0 := rfl
      omega
theorem tidy_small (tb : List TB) (p : List SP) : (tidyI tb p).length ≤ p.length ∧ sumS (tidyI tb p) ≤ 5 * (p.length + cntS p) := by
  rw [tidyI]
  split
  · rw [tidyL]
    generalize (useF p p.length (use0 tb p)).1 = U
    refine ⟨by rw [List.length_map]; exact leftL_le p U _, ?_⟩
    rw [sumS_plS]
    have h1 := sumS_left p U p.length (Nat.le_refl _)
    rw [List.take_length] at h1
    exact Nat.le_trans h1 (sumS_le p)
  · exact ⟨Nat.zero_le _, Nat.zero_le _⟩
theorem tidy_okS (tb : List TB) {p : List SP} (h : OkS p) : OkS (tidyI tb p) := by
  rw [tidyI]
  split
  · rw [tidyL]
    refine ⟨by rw [List.length_map]; exact (okS_left h _).1, fun s hs => ?_⟩
    obtain ⟨t, ht, rfl⟩ := List.mem_map.1 hs
    exact (okS_left h _).2 t ht
  · exact ⟨Nat.zero_le _, fun s hs => absurd hs (by simp)⟩
theorem markNilS (n : Int) (w : World) : Calls Try.prog 42 #[.slice none 0 0, .int .i64 n] w fun e w' => e = .returned (.int .i64 n) ∧ w = w' := by
  go_enter Try.func42, Try.ntmps42
  go_wp2
  go_loopw [1, 5] (fun kx ix wr => kx = .int .i64 n ∧ ix = .int .i64 0 ∧ wr = w) (fun _ _ _ => 0)
  case atStart => exact ⟨rfl, rfl, rfl⟩
  case round =>
    obtain ⟨rfl, rfl, rfl⟩ := hrel
    go_wp2
    go_ret
    exact ⟨rfl, rfl⟩
theorem heldNilS (n : Int) (w : World) : Calls Try.prog 43 #[.slice none 0 0, .int .i64 n] w fun e w' => e = .returned (.int .i64 n) ∧ w = w' := by
  go_enter Try.func43, Try.ntmps43
  go_wp2
  go_loopw [1, 5] (fun kx ix wr => kx = .int .i64 n ∧ ix = .int .i64 0 ∧ wr = w) (fun _ _ _ => 0)
  case atStart => exact ⟨rfl, rfl, rfl⟩
  case round =>
    obtain ⟨rfl, rfl, rfl⟩ := hrel
    go_wp2
    go_ret
    exact ⟨rfl, rfl⟩
theorem markPN (M B g c : Nat) (A : Option Addr) (U : List UP) (ps : List SP) (w : World) (h : PlN w B A g c U ps) (hM : M = 1 + sumS ps) (hl : M ≤ 7000000) (hl2 : ps.length ≤ 1048576) :
    Calls Try.prog 42 #[.slice A ps.length c, .int .i64 1] w fun e w' => e = .returned (.int .i64 (M : Int)) ∧ PlN w' B A g c (markU 1 U) ((markU 1 U).map spOf) ∧ OnlyI B w.heap.size w w' := by
  rcases h with ⟨rfl, h⟩ | ⟨rfl, rfl, rfl, rfl⟩
  · have hs : sumU U = sumS ps := by rw [sumU_eq, h.eq]
    have hb : ∀ b ∈ g :: U.flatMap blkS, B ≤ b ∧ b < w.heap.size := Stp.leafs h
    refine (markStp 1 B g c ps.length U ps w h rfl (by omega) hl2).mono ?_
    rintro e w' ⟨rfl, h1, h2⟩
    exact ⟨by rw [hs, ← hM], .inl ⟨rfl, h1⟩, OnlyT.toI h2 hb⟩
  · subst hM
    refine (markNilS 1 w).mono ?_
    rintro e w' ⟨rfl, rfl⟩
    exact ⟨rfl, .inr ⟨rfl, rfl, rfl, rfl⟩, OnlyI.refl _ _ _⟩
theorem heldPN (M B g c : Nat) (A : Option Addr) (U : List UP) (zs ls : List SP) (w : World) (h : PlN w B A g c (markU 1 U) ls) (hT : U.map spOf = zs) (hM : M = 1 + sumS zs) (hl : M ≤ 7000000) (hl2 : zs.length ≤ 1048576) :
    Calls Try.prog 43 #[.slice A zs.length c, .int .i64 1] w fun e w' => e = .returned (.int .i64 (M : Int)) ∧ Below w.heap.size w w' := by
  have hs : sumU U = sumS zs := by rw [sumU_eq, hT]
  rcases h with ⟨rfl, h⟩ | ⟨rfl, rfl, rfl, h2⟩
  · refine (heldStp 1 B g c zs.length U ls w h (by rw [← hT, List.length_map]) (by omega) hl2).mono ?_
    rintro e w' ⟨rfl, hb⟩
    exact ⟨by rw [hs, ← hM], hb⟩
  · have hT0 : U = [] := by
      cases U with
      | nil => rfl
      | cons t T => simp [markU] at h2
    subst hT0
    subst hT
    subst hM
    refine (heldNilS 1 w).mono ?_
    rintro e w' ⟨rfl, rfl⟩
    exact ⟨rfl, Below.refl _ _⟩
end Go.Proofs.Ytacinjbaebimhaa.Val
