/- Lists of batches of one's own: compared, marked, told again. -/
import Derived.Test.YtjidkjnlnenmbaaBatCQ
namespace Go.Proofs.Ytjidkjnlnenmbaa.Val
open Go.RowKit
set_option linter.unusedVariables false
set_option linter.unusedSimpArgs false
set_option maxRecDepth 8000
/-- A flat row of one's own behind a header that may be nil. -/
def PkV (w : World) (B : Nat) (v : Value) (n : Nat) (xs : List Value) : Prop := (v = .slice none 0 0 ∧ n = 0 ∧ xs = []) ∨ ∃ g c, v = .slice (some ⟨g, 0, none⟩) n c ∧ FlO w B g c n xs
theorem PkV.of_own {w : World} {B n : Nat} {e : TypeId} {v : Value} {xs : List Value} (h : w.ownsRow B e 1 v n xs) : PkV w B v n xs := by
  have hh := h
  rcases h.2 with ⟨hv, hn⟩ | ⟨g, cap, cur, rfl, hB, _, h1, h2, _⟩
  · exact .inl ⟨hv, hn, List.eq_nil_of_length_eq_zero (by rw [h.1, hn])⟩
  · refine .inr ⟨g, cap, rfl, ⟨fun _ => rfl, fun j hj => ?_⟩, fun j hj => hh.frozenAt j, hB, (own_hi hh g rfl).2, h1, h2⟩
    rw [Nat.zero_add, hh.cellAt j (by rw [← hh.1]; exact hj), List.getElem?_eq_getElem hj]
theorem PkV.keep {w w' : World} {B n : Nat} {v : Value} {xs : List Value} (h : PkV w B v n xs) (hz : w.heap.size ≤ w'.heap.size) (hk : ∀ k, v.ownBlock = some k → w'.heap[k]? = w.heap[k]?) : PkV w' B v n xs := by
  rcases h with h | ⟨g, c, rfl, h⟩
  · exact .inl h
  · exact .inr ⟨g, c, rfl, h.keep hz (hk g rfl)⟩
theorem PkV.hi {w : World} {B n : Nat} {v : Value} {xs : List Value} (h : PkV w B v n xs) : ∀ k, v.ownBlock = some k → B ≤ k ∧ k < w.heap.size := by
  rcases h with ⟨rfl, -⟩ | ⟨g, c, rfl, h⟩
  · intro k hk; simp [Value.ownBlock] at hk
  · intro k hk
    obtain rfl : g = k := by simpa [Value.ownBlock] using hk
    exact ⟨h.lo, h.hi⟩
theorem PkV.lower {w : World} {B B' n : Nat} {v : Value} {xs : List Value} (h : PkV w B v n xs) (hB : B' ≤ B) : PkV w B' v n xs := by
  rcases h with h | ⟨g, c, h1, h⟩
  · exact .inl h
  · exact .inr ⟨g, c, h1, h.lower hB⟩
theorem PkV.fl {w : World} {B n : Nat} {v : Value} {xs : List Value} (h : PkV w B v n xs) : ∃ (A : Option Addr) (g c : Nat), v = .slice A n c ∧ Fl w g 0 A xs := by
  rcases h with ⟨rfl, rfl, rfl⟩ | ⟨g, c, rfl, h⟩
  · exact ⟨none, 0, 0, rfl, fun h => absurd h (by simp), fun j hj => absurd hj (by simp)⟩
  · exact ⟨_, g, c, rfl, h.fl⟩
/-- A batch of one's own, in a list: its headers, its columns, what is picked. -/
abbrev UB := Value × Value × List TT × List Bool
def baOf (u : UB) : BA := (u.2.2.1.map fun t => t.2.2, u.2.2.2)
def hdW (u : UB) : List Value := [u.1, u.2.1]
def blkW (u : UB) : List Nat := blkV u.1 u.2.2.1 ++ u.2.1.ownBlock.toList
structure BatU (w : World) (B : Nat) (u : UB) : Prop where
  bag : BagV w B u.1 u.2.2.1 (u.2.2.1.map fun t => t.2.2)
  pk : PkV w B u.2.1 u.2.2.2.length (u.2.2.2.map tv)
  ne : ∀ b ∈ blkV u.1 u.2.2.1, u.2.1.ownBlock ≠ some b
theorem BatU.hi {w : World} {B : Nat} {u : UB} (h : BatU w B u) : ∀ b ∈ blkW u, B ≤ b ∧ b < w.heap.size := by
  intro b hb
  rcases List.mem_append.1 hb with hb | hb
  · exact h.bag.hi b hb
  · exact h.pk.hi b (by simpa using hb)
theorem BatU.keep {w w' : World} {B : Nat} {u : UB} (h : BatU w B u) (hz : w.heap.size ≤ w'.heap.size) (hk : ∀ b ∈ blkW u, w'.heap[b]? = w.heap[b]?) : BatU w' B u :=
  ⟨h.bag.keep hz fun b hb => hk b (List.mem_append.2 (.inl hb)), h.pk.keep hz fun k hv => hk k (List.mem_append.2 (.inr (by simpa using hv))), h.ne⟩
theorem BatU.below {w w' : World} {B : Nat} {u : UB} (h : BatU w B u) (hb : Below w.heap.size w w') : BatU w' B u := h.keep hb.size fun b hm => hb.block _ (h.hi b hm).2
theorem BatU.lower {w : World} {B B' : Nat} {u : UB} (h : BatU w B u) (hB : B' ≤ B) : BatU w B' u := ⟨h.bag.lower hB, h.pk.lower hB, h.ne⟩
theorem flatW_get (U : List UB) (i : Nat) (h : i < U.length) : (U.flatMap hdW)[i * 2]? = some U[i].1 ∧ (U.flatMap hdW)[i * 2 + 1]? = some U[i].2.1 := by
  induction U generalizing i with
  | nil => simp at h
  | cons v vs ih =>
    cases i with
    | zero => simp [hdW]
    | succ i =>
      have := ih i (by simpa using h)
      rw [List.flatMap_cons, show (i + 1) * 2 = i * 2 + 1 + 1 by omega]
      simpa [hdW] using this
/-- A list of batches of one's own. -/
structure BLs (w : World) (B g cap : Nat) (U : List UB) (bas : List BA) : Prop where
  eq : U.map baOf = bas
  own : w.ownsRow B 30 2 (.slice (some ⟨g, 0, none⟩) bas.length cap) bas.length (U.flatMap hdW)
  bats : ∀ u ∈ U, BatU w B u
  pw : ∀ i j (hi : i < U.length) (hj : j < U.length), i ≠ j → ∀ b ∈ blkW U[i], b ∉ blkW U[j]
  ng : ∀ u ∈ U, g ∉ blkW u
theorem BLs.len {w : World} {B g cap : Nat} {U : List UB} {bas : List BA} (h : BLs w B g cap U bas) : U.length = bas.length := by rw [← h.eq, List.length_map]
theorem BLs.lo {w : World} {B g cap : Nat} {U : List UB} {bas : List BA} (h : BLs w B g cap U bas) : B ≤ g ∧ g < w.heap.size := h.own.lt g rfl
theorem BLs.hi {w : World} {B g cap : Nat} {U : List UB} {bas : List BA} (h : BLs w B g cap U bas) : ∀ b ∈ U.flatMap blkW, B ≤ b ∧ b < w.heap.size := by
  intro b hb
  obtain ⟨u, hu, hb⟩ := List.mem_flatMap.1 hb
  exact (h.bats u hu).hi b hb
theorem BLs.keep {w w' : World} {B g cap : Nat} {U : List UB} {bas : List BA} (h : BLs w B g cap U bas) (hz : w.heap.size ≤ w'.heap.size) (hg : w'.heap[g]? = w.heap[g]?) (hk : ∀ b ∈ U.flatMap blkW, w'.heap[b]? = w.heap[b]?) : BLs w' B g cap U bas :=
  ⟨h.eq, own_keep h.own hg, fun u hu => (h.bats u hu).keep hz fun b hb => hk b (List.mem_flatMap.2 ⟨u, hu, hb⟩), h.pw, h.ng⟩
theorem BLs.below {w w' : World} {B g cap : Nat} {U : List UB} {bas : List BA} (h : BLs w B g cap U bas) (hb : Below w.heap.size w w') : BLs w' B g cap U bas :=
  h.keep hb.size (hb.block _ h.lo.2) fun b hm => hb.block _ (h.hi b hm).2
theorem BLs.alloc {w : World} {B g cap : Nat} {U : List UB} {bas : List BA} (h : BLs w B g cap U bas) (ob : Obj) : BLs (w.alloc ob) B g cap U bas := h.below ((Below.refl _ _).alloc (Nat.le_refl _) _)
theorem BLs.drew {w : World} {B g cap : Nat} {U : List UB} {bas : List BA} (h : BLs w B g cap U bas) : BLs w.drew B g cap U bas := h.below ((Below.refl _ _).drew)
theorem BLs.lower {w : World} {B B' g cap : Nat} {U : List UB} {bas : List BA} (h : BLs w B g cap U bas) (hB : B' ≤ B) : BLs w B' g cap U bas := ⟨h.eq, own_lowerB h.own hB, fun u hu => (h.bats u hu).lower hB, h.pw, h.ng⟩
theorem BLs.empty (w : World) {X : Nat} (hX : w.heap.size = X) : BLs (w.alloc (.cells #[] 30)) X X 0 [] [] := by
  subst hX
  exact ⟨rfl, own_empty3 30 2 rfl (Nat.le_refl _), fun u hu => absurd hu (by simp), fun i j hi => absurd hi (by simp), fun u hu => absurd hu (by simp)⟩
theorem BLs.at {w : World} {B g cap : Nat} {U : List UB} {bas : List BA} (h : BLs w B g cap U bas) (j : Nat) (hj : j < bas.length) : g < w.heap.size ∧ ∃ (A1 : Option Addr) (c1 g1 : Nat) (A2 : Option Addr) (c2 g2 : Nat), w.cell? ⟨g, j * 2, none⟩ = some (.slice A1 bas[j].1.length c1) ∧ w.cell? ⟨g, j * 2 + 1, none⟩ = some (.slice A2 bas[j].2.length c2) ∧ BatR w A1 g1 0 A2 g2 0 bas[j].1 bas[j].2 := by
  have hl := h.len
  have hj2 : j < U.length := by omega
  have hu := h.bats U[j] (List.getElem_mem _)
  have he : bas[j] = baOf U[j] := by
    have := h.eq
    subst this
    simp
  obtain ⟨q0, q1⟩ := flatW_get U j hj2
  obtain ⟨A1, g1, c1, hv, hb⟩ := hu.bag.bagN
  obtain ⟨A2, g2, c2, hv2, hf⟩ := hu.pk.fl
  refine ⟨h.lo.2, A1, c1, g1, A2, c2, g2, ?_, ?_, ?_⟩
  · rw [h.own.cellAt _ (by omega), q0, hv, he]; rfl
  · rw [h.own.cellAt _ (by omega), q1, hv2, he]; rfl
  · rw [he]; exact ⟨hb.rws, hf⟩
/-- A batch more. -/
theorem BLs.push {w1 w2 w' : World} {B g cap g' cap' n : Nat} {U : List UB} {bas : List BA} {u : UB} {ob : Obj} (h : BLs w1 B g cap U bas) (hu : BatU w2 w1.heap.size u) (hb : Below w1.heap.size w1 w2) (hnl : n = bas.length + 1)
    (hown : w'.ownsRow B 30 2 (.slice (some ⟨g', 0, none⟩) n cap') n (U.flatMap hdW ++ hdW u)) (hgr : (w2.alloc ob).grownBy w' (some g)) (hgg : g' = g ∨ (w2.alloc ob).heap.size ≤ g') : BLs w' B g' cap' (U ++ [u]) (bas ++ [baOf u]) := by
  subst hnl
  have hl := h.len
  have hglo := h.lo
  have h2 := (h.below hb).alloc ob
  have hz2 : (w2.alloc ob).heap.size = w2.heap.size + 1 := by simp
  have huh := hu.hi
  have hbs := hb.size
  have hu2 : BatU (w2.alloc ob) w1.heap.size u := hu.below ((Below.refl _ _).alloc (Nat.le_refl _) _)
  have hk : ∀ b, b < (w2.alloc ob).heap.size → b ≠ g → w'.heap[b]? = (w2.alloc ob).heap[b]? := fun b hb hne => hgr.block _ hb (fun e => hne (Option.some.inj e))
  refine ⟨by rw [List.map_append, h.eq]; rfl, ?_, ?_, ?_, ?_⟩
  · rw [List.length_append, List.flatMap_append]
    simpa using hown
  · intro v hv
    rcases List.mem_append.1 hv with hv | hv
    · exact (h2.bats v hv).keep hgr.size fun b hb => hk b ((h2.bats v hv).hi b hb).2 (fun e => h.ng v hv (by rw [← e]; exact hb))
    · obtain rfl := List.mem_singleton.1 hv
      exact (hu2.lower (by omega)).keep hgr.size fun b hb => hk b (by have := (huh b hb).2; omega) (fun e => by have := (huh b hb).1; omega)
  · intro i j hi hj hij b hb1 hb2
    simp only [List.length_append, List.length_singleton] at hi hj
    have hold : ∀ k (hk : k < U.length), ∀ b ∈ blkW U[k], b < w1.heap.size := fun k hk b hb => ((h.bats _ (List.getElem_mem hk)).hi b hb).2
    by_cases h3 : i < U.length
    · rw [List.getElem_append_left h3] at hb1
      by_cases h4 : j < U.length
      · rw [List.getElem_append_left h4] at hb2
        exact h.pw i j h3 h4 hij b hb1 hb2
      · rw [List.getElem_append_right (by omega)] at hb2
        simp at hb2
        have := hold i h3 b hb1
        have := (huh b hb2).1
        omega
    · rw [List.getElem_append_right (by omega)] at hb1
      simp at hb1
      by_cases h4 : j < U.length
      · rw [List.getElem_append_left h4] at hb2
        have := hold j h4 b hb2
        have := (huh b hb1).1
        omega
      · omega
  · intro v hv e
    have hlt : g' < (w2.alloc ob).heap.size ∧ g' ≠ g := by
      rcases List.mem_append.1 hv with hv | hv
      · exact ⟨((h2.bats v hv).hi g' e).2, fun e2 => h.ng v hv (by rw [← e2]; exact e)⟩
      · obtain rfl := List.mem_singleton.1 hv
        exact ⟨by have := (huh g' e).2; omega, fun e2 => by have := (huh g' e).1; omega⟩
    rcases hgg with hgg | hgg
    · exact hlt.2 hgg
    · omega
def OkB (bas : List BA) : Prop := bas.length ≤ 2000000 ∧ ∀ b ∈ bas, Ok2 b.1 ∧ b.2.length ≤ 2000000
/-- How many marks a batch takes; a batch with marks from N on. -/
def szW (u : UB) : Nat := 3 * tot u.2.2.1 + u.2.2.2.length
def sumW (U : List UB) : Nat := (U.map szW).sum
def mkU (N : Nat) (u : UB) : UB := (u.1, u.2.1, markT N u.2.2.1, marksB (N + 3 * tot u.2.2.1) u.2.2.2.length)
/-- A list of batches with marks from N on. -/
structure BMk (w : World) (B g cap N : Nat) (U : List UB) : Prop where
  own : w.ownsRow B 30 2 (.slice (some ⟨g, 0, none⟩) U.length cap) U.length (U.flatMap hdW)
  bats : ∀ j (hj : j < U.length), BatU w B (mkU (N + sumW (U.take j)) U[j])
theorem BMk.below {w w' : World} {B g cap N : Nat} {U : List UB} (h : BMk w B g cap N U) (hb : Below w.heap.size w w') : BMk w' B g cap N U :=
  ⟨own_keep h.own (hb.block _ (h.own.lt g rfl).2), fun j hj => (h.bats j hj).below hb⟩
theorem OnlyT.mono {bs cs : List Nat} {w w1 w2 : World} (h : OnlyT bs w w1) (k : OnlyT cs w1 w2) (hs : ∀ b ∈ cs, b ∈ bs) : OnlyT bs w w2 := h.then (k.more hs)
end Go.Proofs.Ytjidkjnlnenmbaa.Val
