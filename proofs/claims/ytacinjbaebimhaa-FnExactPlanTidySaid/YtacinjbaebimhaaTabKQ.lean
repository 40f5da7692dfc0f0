/- Tables and plans that lie: tables of two headers, steps of four numbers and two headers; Tables and plans of one's own: blocks, what keeps them, what they show. -/
import Derived.Test.YtacinjbaebimhaaPMathQ
import Derived.Test.YtacinjbaebimhaaBagQ
import Derived.Test.YtacinjbaebimhaaFlPQ
import Derived.Test.YtacinjbaebimhaaLSSQ
import Derived.Test.YtacinjbaebimhaaRMarkQ
namespace Go.Proofs.Ytacinjbaebimhaa.Val
open Go.RowKit
set_option linter.unusedVariables false
/-- The address of a slice: of its cells, or none (a nil slice). -/
def Nice (A : Option Addr) (c g o : Nat) : Prop := A = some ⟨g, o, none⟩ ∨ (A = none ∧ c = 0)
/-- A table lies at cell p of block g. -/
def TabAt (w : World) (g p : Nat) (t : TB) : Prop := ∃ (A1 : Option Addr) (c1 g1 o1 : Nat) (A2 : Option Addr) (c2 g2 o2 : Nat),
  w.cell? ⟨g, p, none⟩ = some (.slice A1 t.1.length c1) ∧ w.cell? ⟨g, p + 1, none⟩ = some (.slice A2 t.2.length c2) ∧ Fl w g1 o1 A1 (flatC t.1) ∧ Rws w g2 o2 A2 t.2 ∧ t.1.length ≤ c1 ∧ t.2.length ≤ c2 ∧ Nice A1 c1 g1 o1 ∧ Nice A2 c2 g2 o2
theorem TabAt.below {w w' : World} {g p : Nat} {t : TB} (h : TabAt w g p t) (hb : Below w.heap.size w w') : TabAt w' g p t := by
  obtain ⟨A1, c1, g1, o1, A2, c2, g2, o2, h1, h2, h3, h4, h5⟩ := h
  have hg := World.block_lt_of_cell? w ⟨g, p, none⟩ h1
  exact ⟨A1, c1, g1, o1, A2, c2, g2, o2, (hb.cell (p := ⟨g, p, none⟩) hg).trans h1, (hb.cell (p := ⟨g, p + 1, none⟩) hg).trans h2, h3.below hb, h4.below hb, h5⟩
structure Tbs (w : World) (g o : Nat) (A : Option Addr) (ts : List TB) : Prop where
  ad : 0 < ts.length → A = some ⟨g, o, none⟩
  hd : ∀ j (h : j < ts.length), TabAt w g (o + j * 2) ts[j]
theorem Tbs.below {w w' : World} {g o : Nat} {A : Option Addr} {ts : List TB} (h : Tbs w g o A ts) (hb : Below w.heap.size w w') : Tbs w' g o A ts := ⟨h.ad, fun j hj => (h.hd j hj).below hb⟩
theorem Tbs.alloc {w : World} {g o : Nat} {A : Option Addr} {ts : List TB} (h : Tbs w g o A ts) (ob : Obj) : Tbs (w.alloc ob) g o A ts := h.below ((Below.refl _ _).alloc (Nat.le_refl _) _)
theorem Tbs.drew {w : World} {g o : Nat} {A : Option Addr} {ts : List TB} (h : Tbs w g o A ts) : Tbs w.drew g o A ts := h.below ((Below.refl _ _).drew)
theorem Tbs.take {w : World} {g o : Nat} {A : Option Addr} {ts : List TB} (h : Tbs w g o A ts) (k : Nat) : Tbs w g o A (ts.take k) := by
  refine ⟨fun h0 => h.ad (by simp at h0; omega), fun j hj => ?_⟩
  have hj2 : j < ts.length := by simp at hj; omega
  have := h.hd j hj2
  simpa using this
theorem Tbs.at {w : World} {g o : Nat} {A : Option Addr} {ts : List TB} (h : Tbs w g o A ts) (j : Nat) (hj : j < ts.length) : A = some ⟨g, o, none⟩ ∧ g < w.heap.size ∧ ∃ (A1 : Option Addr) (c1 g1 o1 : Nat) (A2 : Option Addr) (c2 g2 o2 : Nat),
    w.cell? ⟨g, o + j * 2, none⟩ = some (.slice A1 ts[j].1.length c1) ∧ w.cell? ⟨g, o + j * 2 + 1, none⟩ = some (.slice A2 ts[j].2.length c2) ∧ Fl w g1 o1 A1 (flatC ts[j].1) ∧ Rws w g2 o2 A2 ts[j].2 ∧ ts[j].1.length ≤ c1 ∧ ts[j].2.length ≤ c2 ∧ Nice A1 c1 g1 o1 ∧ Nice A2 c2 g2 o2 := by
  obtain ⟨A1, c1, g1, o1, A2, c2, g2, o2, h1, h2⟩ := h.hd j hj
  exact ⟨h.ad (by omega), World.block_lt_of_cell? w ⟨g, o + j * 2, none⟩ h1, A1, c1, g1, o1, A2, c2, g2, o2, h1, h2⟩
/-- Tables that a machine can hold. -/
def OkT (ts : List TB) : Prop := ts.length ≤ 2000000 ∧ ∀ t ∈ ts, t.1.length ≤ 2000000 ∧ Ok2 t.2
theorem OkT.at {ts : List TB} (h : OkT ts) (j : Nat) (hj : j < ts.length) : ts[j].1.length ≤ 2000000 ∧ Ok2 ts[j].2 := h.2 _ (List.getElem_mem _)
theorem OkT.take {ts : List TB} (h : OkT ts) (k : Nat) : OkT (ts.take k) := ⟨by have := h.1; rw [List.length_take]; omega, fun t ht => h.2 t (List.mem_of_mem_take ht)⟩
def StepAt (w : World) (g p : Nat) (s : SP) : Prop := ∃ (A1 : Option Addr) (c1 g1 o1 : Nat) (A2 : Option Addr) (c2 g2 o2 : Nat),
  w.cell? ⟨g, p, none⟩ = some (.int .i64 s.1) ∧ w.cell? ⟨g, p + 1, none⟩ = some (.int .i64 s.2.1) ∧ w.cell? ⟨g, p + 2, none⟩ = some (.int .i64 s.2.2.1) ∧ w.cell? ⟨g, p + 3, none⟩ = some (.int .i64 s.2.2.2.1) ∧
  w.cell? ⟨g, p + 4, none⟩ = some (.slice A1 s.2.2.2.2.1.length c1) ∧ w.cell? ⟨g, p + 5, none⟩ = some (.slice A2 s.2.2.2.2.2.length c2) ∧ Fl w g1 o1 A1 (flatP s.2.2.2.2.1) ∧ Fl w g2 o2 A2 (s.2.2.2.2.2.map iv) ∧ s.2.2.2.2.1.length ≤ c1 ∧ s.2.2.2.2.2.length ≤ c2 ∧ Nice A1 c1 g1 o1 ∧ Nice A2 c2 g2 o2
theorem StepAt.below {w w' : World} {g p : Nat} {s : SP} (h : StepAt w g p s) (hb : Below w.heap.size w w') : StepAt w' g p s := by
  obtain ⟨A1, c1, g1, o1, A2, c2, g2, o2, h0, h1, h2, h3, h4, h5, h6, h7, h8⟩ := h
  have hg := World.block_lt_of_cell? w ⟨g, p, none⟩ h0
  have hc := fun q => hb.cell (p := ⟨g, q, none⟩) hg
  exact ⟨A1, c1, g1, o1, A2, c2, g2, o2, (hc _).trans h0, (hc _).trans h1, (hc _).trans h2, (hc _).trans h3, (hc _).trans h4, (hc _).trans h5, h6.below hb, h7.below hb, h8⟩
structure Sps (w : World) (g o : Nat) (A : Option Addr) (ps : List SP) : Prop where
  ad : 0 < ps.length → A = some ⟨g, o, none⟩
  hd : ∀ j (h : j < ps.length), StepAt w g (o + j * 6) ps[j]
theorem Sps.below {w w' : World} {g o : Nat} {A : Option Addr} {ps : List SP} (h : Sps w g o A ps) (hb : Below w.heap.size w w') : Sps w' g o A ps := ⟨h.ad, fun j hj => (h.hd j hj).below hb⟩
theorem Sps.alloc {w : World} {g o : Nat} {A : Option Addr} {ps : List SP} (h : Sps w g o A ps) (ob : Obj) : Sps (w.alloc ob) g o A ps := h.below ((Below.refl _ _).alloc (Nat.le_refl _) _)
theorem Sps.drew {w : World} {g o : Nat} {A : Option Addr} {ps : List SP} (h : Sps w g o A ps) : Sps w.drew g o A ps := h.below ((Below.refl _ _).drew)
theorem Sps.take {w : World} {g o : Nat} {A : Option Addr} {ps : List SP} (h : Sps w g o A ps) (k : Nat) : Sps w g o A (ps.take k) := by
  refine ⟨fun h0 => h.ad (by simp at h0; omega), fun j hj => ?_⟩
  have hj2 : j < ps.length := by simp at hj; omega
  have := h.hd j hj2
  simpa using this
theorem Sps.at {w : World} {g o : Nat} {A : Option Addr} {ps : List SP} (h : Sps w g o A ps) (j : Nat) (hj : j < ps.length) : A = some ⟨g, o, none⟩ ∧ g < w.heap.size ∧ StepAt w g (o + j * 6) ps[j] := by
  have hs := h.hd j hj
  have hs2 := hs
  obtain ⟨A1, c1, g1, o1, A2, c2, g2, o2, h0, -⟩ := hs
  exact ⟨h.ad (by omega), World.block_lt_of_cell? w ⟨g, o + j * 6, none⟩ h0, hs2⟩
/-- A step that a machine can hold; steps. -/
def OkS1 (s : SP) : Prop := s.2.2.2.2.1.length ≤ 2000000 ∧ ShortP s.2.2.2.2.1 ∧ s.2.2.2.2.2.length ≤ 2000000
def OkS (ps : List SP) : Prop := ps.length ≤ 2000000 ∧ ∀ s ∈ ps, OkS1 s
theorem OkS.at {ps : List SP} (h : OkS ps) (j : Nat) (hj : j < ps.length) : OkS1 ps[j] := h.2 _ (List.getElem_mem _)
theorem OkS.take {ps : List SP} (h : OkS ps) (k : Nat) : OkS (ps.take k) := ⟨by have := h.1; rw [List.length_take]; omega, fun t ht => h.2 t (List.mem_of_mem_take ht)⟩
/-- The value of a step. -/
def aggS (s : SP) (A1 : Option Addr) (c1 : Nat) (A2 : Option Addr) (c2 : Nat) : Value := .agg #[.int .i64 s.1, .int .i64 s.2.1, .int .i64 s.2.2.1, .int .i64 s.2.2.2.1, .slice A1 s.2.2.2.2.1.length c1, .slice A2 s.2.2.2.2.2.length c2]
end Go.Proofs.Ytacinjbaebimhaa.Val
namespace Go.Proofs.Ytacinjbaebimhaa.Val
open Go.RowKit
set_option linter.unusedVariables false
/-- A flat row of one's own: n elements, cells xs, in block g. -/
structure FlO (w : World) (B g c n : Nat) (xs : List Value) : Prop where
  fl : Fl w g 0 (some ⟨g, 0, none⟩) xs
  fz : ∀ j, j < xs.length → w.frozen? ⟨g, j, none⟩ = false
  lo : B ≤ g
  hi : g < w.heap.size
  cap : n ≤ c ∧ c ≤ maxLen
theorem FlO.keep {w w' : World} {B g c n : Nat} {xs : List Value} (h : FlO w B g c n xs) (hz : w.heap.size ≤ w'.heap.size) (hk : w'.heap[g]? = w.heap[g]?) : FlO w' B g c n xs :=
  ⟨h.fl.keep fun _ j => cellOf hk, fun j hj => (frozenOf hk).trans (h.fz j hj), h.lo, Nat.lt_of_lt_of_le h.hi hz, h.cap⟩
theorem FlO.below {w w' : World} {B g c n : Nat} {xs : List Value} (h : FlO w B g c n xs) (hb : Below w.heap.size w w') : FlO w' B g c n xs := h.keep hb.size (hb.block _ h.hi)
theorem FlO.lower {w : World} {B B' g c n : Nat} {xs : List Value} (h : FlO w B g c n xs) (hB : B' ≤ B) : FlO w B' g c n xs := ⟨h.fl, h.fz, Nat.le_trans hB h.lo, h.hi, h.cap⟩
theorem FlO.free {w : World} {B g c n : Nat} {xs : List Value} (h : FlO w B g c n xs) : Free w g xs.length := fun j hj => ⟨⟨_, by have := h.fl.c j hj; rwa [Nat.zero_add] at this⟩, h.fz j hj⟩
theorem FlO.fill {w : World} {B g c n : Nat} {xs ys : List Value} (h : FlO w B g c n xs) (hy : ys.length = xs.length) : Fill w g ys 0 := by
  intro j hj
  have hj2 : j < xs.length := by omega
  exact ⟨⟨_, by have := h.fl.c j hj2; rwa [Nat.zero_add] at this⟩, h.fz j hj2, fun h0 => absurd h0 (by omega)⟩
/-- A row was made. -/
def RetFl (n : Nat) (xs : List Value) (w : World) (e : Ending) (w' : World) : Prop := ∃ (g c : Nat), e = .returned (.slice (some ⟨g, 0, none⟩) n c) ∧ FlO w' w.heap.size g c n xs ∧ Below w.heap.size w w'
/-- A header. -/
def hdF (g n c : Nat) : Value := .slice (some ⟨g, 0, none⟩) n c
theorem setX {α : Type} (X zs : List α) (a : α) (m : Nat) (hX : X.length = m) (hm : m < zs.length) : (X ++ zs.drop m).set m a = (X ++ [a]) ++ zs.drop (m + 1) := by
  subst hX
  rw [List.drop_eq_getElem_cons hm, List.set_append_right _ _ (Nat.le_refl _), Nat.sub_self, List.set_cons_zero, List.append_assoc]
  rfl
abbrev UT := (Nat × Nat × List CT) × (Nat × Nat × List TT)
def rowsU (u : UT) : List RT := u.2.2.2.map fun t => t.2.2
def tbOf (u : UT) : TB := (u.1.2.2, rowsU u)
def hdC (u : UT) : Value := hdF u.1.1 u.1.2.2.length u.1.2.1
def hdR (u : UT) : Value := hdF u.2.1 u.2.2.2.length u.2.2.1
def hdT (u : UT) : List Value := [hdC u, hdR u]
def blkU (u : UT) : List Nat := u.1.1 :: u.2.1 :: u.2.2.2.map fun t => t.1
theorem flatU_len (U : List UT) : (U.flatMap hdT).length = U.length * 2 := by
  induction U with
  | nil => rfl
  | cons u U ih => rw [List.flatMap_cons, List.length_append, ih, List.length_cons]; simp [hdT]; omega
theorem flatU_get (U : List UT) (i : Nat) (h : i < U.length) : (U.flatMap hdT)[i * 2]? = some (hdC U[i]) ∧ (U.flatMap hdT)[i * 2 + 1]? = some (hdR U[i]) := by
  induction U generalizing i with
  | nil => simp at h
  | cons v vs ih =>
    cases i with
    | zero => simp [hdT]
    | succ i =>
      have := ih i (by simpa using h)
      rw [List.flatMap_cons, show (i + 1) * 2 = i * 2 + 1 + 1 by omega]
      simpa [hdT] using this
structure TabO (w : World) (B : Nat) (u : UT) : Prop where
  col : FlO w B u.1.1 u.1.2.1 u.1.2.2.length (flatC u.1.2.2)
  bag : Bag w B u.2.1 u.2.2.1 u.2.2.2 (rowsU u)
theorem TabO.keep {w w' : World} {B : Nat} {u : UT} (h : TabO w B u) (hz : w.heap.size ≤ w'.heap.size) (hk : ∀ b ∈ blkU u, w'.heap[b]? = w.heap[b]?) : TabO w' B u :=
  ⟨h.col.keep hz (hk _ (by simp [blkU])), h.bag.keep hz (hk _ (by simp [blkU])) fun t ht => hk _ (by simp only [blkU, List.mem_cons, List.mem_map]; exact .inr (.inr ⟨t, ht, rfl⟩))⟩
theorem TabO.hi {w : World} {B : Nat} {u : UT} (h : TabO w B u) : ∀ b ∈ blkU u, B ≤ b ∧ b < w.heap.size := by
  intro b hb
  simp only [blkU, List.mem_cons, List.mem_map] at hb
  rcases hb with rfl | rfl | ⟨t, ht, rfl⟩
  · exact ⟨h.col.lo, h.col.hi⟩
  · exact h.bag.lo
  · exact ⟨(h.bag.rows t ht).lo, (h.bag.rows t ht).hi⟩
theorem TabO.below {w w' : World} {B : Nat} {u : UT} (h : TabO w B u) (hb : Below w.heap.size w w') : TabO w' B u := h.keep hb.size fun b hm => hb.block _ (h.hi b hm).2
theorem Bag.lower {w : World} {B B' g cap : Nat} {T : List TT} {ls : List RT} (h : Bag w B g cap T ls) (hB : B' ≤ B) : Bag w B' g cap T ls := by
  refine ⟨h.eq, ?_, fun t ht => (h.rows t ht).lower hB, h.nd, h.ng⟩
  refine ⟨h.own.1, ?_⟩
  rcases h.own.2 with h0 | ⟨g2, cap2, cur, h1, h2, h3⟩
  · exact .inl h0
  · exact .inr ⟨g2, cap2, cur, h1, Nat.le_trans hB h2, h3⟩
theorem TabO.lower {w : World} {B B' : Nat} {u : UT} (h : TabO w B u) (hB : B' ≤ B) : TabO w B' u := ⟨h.col.lower hB, h.bag.lower hB⟩
structure Tab (w : World) (B g cap : Nat) (U : List UT) (ts : List TB) : Prop where
  eq : U.map tbOf = ts
  own : w.ownsRow B 45 2 (.slice (some ⟨g, 0, none⟩) ts.length cap) ts.length (U.flatMap hdT)
  tabs : ∀ u ∈ U, TabO w B u
  nd : (U.flatMap blkU).Nodup
  ng : ∀ u ∈ U, g ∉ blkU u
theorem Tab.len {w : World} {B g cap : Nat} {U : List UT} {ts : List TB} (h : Tab w B g cap U ts) : U.length = ts.length := by rw [← h.eq, List.length_map]
theorem Tab.lo {w : World} {B g cap : Nat} {U : List UT} {ts : List TB} (h : Tab w B g cap U ts) : B ≤ g ∧ g < w.heap.size := h.own.lt g rfl
theorem Tab.keep {w w' : World} {B g cap : Nat} {U : List UT} {ts : List TB} (h : Tab w B g cap U ts) (hz : w.heap.size ≤ w'.heap.size) (hg : w'.heap[g]? = w.heap[g]?) (hk : ∀ b ∈ U.flatMap blkU, w'.heap[b]? = w.heap[b]?) : Tab w' B g cap U ts :=
  ⟨h.eq, own_keep h.own hg, fun u hu => (h.tabs u hu).keep hz fun b hb => hk b (List.mem_flatMap.2 ⟨u, hu, hb⟩), h.nd, h.ng⟩
theorem Tab.hi {w : World} {B g cap : Nat} {U : List UT} {ts : List TB} (h : Tab w B g cap U ts) : ∀ b ∈ U.flatMap blkU, B ≤ b ∧ b < w.heap.size := by
  intro b hb
  obtain ⟨u, hu, hb⟩ := List.mem_flatMap.1 hb
  exact (h.tabs u hu).hi b hb
theorem Tab.below {w w' : World} {B g cap : Nat} {U : List UT} {ts : List TB} (h : Tab w B g cap U ts) (hb : Below w.heap.size w w') : Tab w' B g cap U ts :=
  h.keep hb.size (hb.block _ h.lo.2) fun b hm => hb.block _ (h.hi b hm).2
theorem Tab.alloc {w : World} {B g cap : Nat} {U : List UT} {ts : List TB} (h : Tab w B g cap U ts) (ob : Obj) : Tab (w.alloc ob) B g cap U ts := h.below ((Below.refl _ _).alloc (Nat.le_refl _) _)
theorem Tab.drew {w : World} {B g cap : Nat} {U : List UT} {ts : List TB} (h : Tab w B g cap U ts) : Tab w.drew B g cap U ts := h.below ((Below.refl _ _).drew)
theorem Tab.tbs {w : World} {B g cap : Nat} {U : List UT} {ts : List TB} (h : Tab w B g cap U ts) : Tbs w g 0 (some ⟨g, 0, none⟩) ts := by
  have hl := h.len
  refine ⟨fun _ => rfl, fun j hj => ?_⟩
  have hj2 : j < U.length := by omega
  have hu := h.tabs U[j] (List.getElem_mem _)
  have he : ts[j] = tbOf U[j] := by
    have := h.eq
    subst this
    simp
  obtain ⟨g0, g1⟩ := flatU_get U j hj2
  rw [he, Nat.zero_add]
  refine ⟨_, U[j].1.2.1, U[j].1.1, 0, _, U[j].2.2.1, U[j].2.1, 0, ?_, ?_, hu.col.fl, hu.bag.rws, hu.col.cap.1, hu.bag.caps.1, .inl rfl, .inl rfl⟩
  · rw [h.own.cellAt _ (by omega), g0]; rfl
  · rw [h.own.cellAt _ (by omega), g1]
    simp [hdR, hdF, tbOf, rowsU]
def RetTab (ts : List TB) (w : World) (e : Ending) (w' : World) : Prop := ∃ (g c : Nat) (U : List UT), e = .returned (.slice (some ⟨g, 0, none⟩) ts.length c) ∧ Tab w' w.heap.size g c U ts ∧ Below w.heap.size w w'
abbrev UP := (Int × Int × Int × Int) × (Nat × Nat × List PT) × (Nat × Nat × List Int)
def spOf (u : UP) : SP := (u.1.1, u.1.2.1, u.1.2.2.1, u.1.2.2.2, u.2.1.2.2, u.2.2.2.2)
def hdE (u : UP) : Value := hdF u.2.1.1 u.2.1.2.2.length u.2.1.2.1
def hdL (u : UP) : Value := hdF u.2.2.1 u.2.2.2.2.length u.2.2.2.1
def hdS (u : UP) : List Value := [.int .i64 u.1.1, .int .i64 u.1.2.1, .int .i64 u.1.2.2.1, .int .i64 u.1.2.2.2, hdE u, hdL u]
def blkS (u : UP) : List Nat := [u.2.1.1, u.2.2.1]
theorem flatS_len (U : List UP) : (U.flatMap hdS).length = U.length * 6 := by
  induction U with
  | nil => rfl
  | cons u U ih => rw [List.flatMap_cons, List.length_append, ih, List.length_cons]; simp [hdS]; omega
theorem flatS_get (U : List UP) (i : Nat) (h : i < U.length) : (U.flatMap hdS)[i * 6]? = some (.int .i64 U[i].1.1) ∧ (U.flatMap hdS)[i * 6 + 1]? = some (.int .i64 U[i].1.2.1) ∧ (U.flatMap hdS)[i * 6 + 2]? = some (.int .i64 U[i].1.2.2.1) ∧ (U.flatMap hdS)[i * 6 + 3]? = some (.int .i64 U[i].1.2.2.2) ∧ (U.flatMap hdS)[i * 6 + 4]? = some (hdE U[i]) ∧ (U.flatMap hdS)[i * 6 + 5]? = some (hdL U[i]) := by
  induction U generalizing i with
  | nil => simp at h
  | cons v vs ih =>
    cases i with
    | zero => simp [hdS]
    | succ i =>
      have := ih i (by simpa using h)
      rw [List.flatMap_cons, show (i + 1) * 6 = i * 6 + 6 by omega]
      simpa [hdS] using this
structure StpO (w : World) (B : Nat) (u : UP) : Prop where
  e : FlO w B u.2.1.1 u.2.1.2.1 u.2.1.2.2.length (flatP u.2.1.2.2)
  l : FlO w B u.2.2.1 u.2.2.2.1 u.2.2.2.2.length (u.2.2.2.2.map iv)
theorem StpO.keep {w w' : World} {B : Nat} {u : UP} (h : StpO w B u) (hz : w.heap.size ≤ w'.heap.size) (hk : ∀ b ∈ blkS u, w'.heap[b]? = w.heap[b]?) : StpO w' B u :=
  ⟨h.e.keep hz (hk _ (by simp [blkS])), h.l.keep hz (hk _ (by simp [blkS]))⟩
theorem StpO.hi {w : World} {B : Nat} {u : UP} (h : StpO w B u) : ∀ b ∈ blkS u, B ≤ b ∧ b < w.heap.size := by
  intro b hb
  simp only [blkS, List.mem_cons, List.not_mem_nil, or_false] at hb
  rcases hb with rfl | rfl
  · exact ⟨h.e.lo, h.e.hi⟩
  · exact ⟨h.l.lo, h.l.hi⟩
theorem StpO.below {w w' : World} {B : Nat} {u : UP} (h : StpO w B u) (hb : Below w.heap.size w w') : StpO w' B u := h.keep hb.size fun b hm => hb.block _ (h.hi b hm).2
theorem StpO.lower {w : World} {B B' : Nat} {u : UP} (h : StpO w B u) (hB : B' ≤ B) : StpO w B' u := ⟨h.e.lower hB, h.l.lower hB⟩
structure Stp (w : World) (B g cap : Nat) (U : List UP) (ps : List SP) : Prop where
  eq : U.map spOf = ps
  own : w.ownsRow B 32 6 (.slice (some ⟨g, 0, none⟩) ps.length cap) ps.length (U.flatMap hdS)
  stps : ∀ u ∈ U, StpO w B u
  nd : (U.flatMap blkS).Nodup
  ng : ∀ u ∈ U, g ∉ blkS u
theorem Stp.len {w : World} {B g cap : Nat} {U : List UP} {ps : List SP} (h : Stp w B g cap U ps) : U.length = ps.length := by rw [← h.eq, List.length_map]
theorem Stp.lo {w : World} {B g cap : Nat} {U : List UP} {ps : List SP} (h : Stp w B g cap U ps) : B ≤ g ∧ g < w.heap.size := h.own.lt g rfl
theorem Stp.hi {w : World} {B g cap : Nat} {U : List UP} {ps : List SP} (h : Stp w B g cap U ps) : ∀ b ∈ U.flatMap blkS, B ≤ b ∧ b < w.heap.size := by
  intro b hb
  obtain ⟨u, hu, hb⟩ := List.mem_flatMap.1 hb
  exact (h.stps u hu).hi b hb
theorem Stp.keep {w w' : World} {B g cap : Nat} {U : List UP} {ps : List SP} (h : Stp w B g cap U ps) (hz : w.heap.size ≤ w'.heap.size) (hg : w'.heap[g]? = w.heap[g]?) (hk : ∀ b ∈ U.flatMap blkS, w'.heap[b]? = w.heap[b]?) : Stp w' B g cap U ps :=
  ⟨h.eq, own_keep h.own hg, fun u hu => (h.stps u hu).keep hz fun b hb => hk b (List.mem_flatMap.2 ⟨u, hu, hb⟩), h.nd, h.ng⟩
theorem Stp.below {w w' : World} {B g cap : Nat} {U : List UP} {ps : List SP} (h : Stp w B g cap U ps) (hb : Below w.heap.size w w') : Stp w' B g cap U ps :=
  h.keep hb.size (hb.block _ h.lo.2) fun b hm => hb.block _ (h.hi b hm).2
theorem Stp.alloc {w : World} {B g cap : Nat} {U : List UP} {ps : List SP} (h : Stp w B g cap U ps) (ob : Obj) : Stp (w.alloc ob) B g cap U ps := h.below ((Below.refl _ _).alloc (Nat.le_refl _) _)
theorem Stp.drew {w : World} {B g cap : Nat} {U : List UP} {ps : List SP} (h : Stp w B g cap U ps) : Stp w.drew B g cap U ps := h.below ((Below.refl _ _).drew)
theorem Stp.sps {w : World} {B g cap : Nat} {U : List UP} {ps : List SP} (h : Stp w B g cap U ps) : Sps w g 0 (some ⟨g, 0, none⟩) ps := by
  have hl := h.len
  refine ⟨fun _ => rfl, fun j hj => ?_⟩
  have hj2 : j < U.length := by omega
  have hu := h.stps U[j] (List.getElem_mem _)
  have he : ps[j] = spOf U[j] := by
    have := h.eq
    subst this
    simp
  obtain ⟨g0, g1, g2, g3, g4, g5⟩ := flatS_get U j hj2
  rw [he, Nat.zero_add]
  refine ⟨_, U[j].2.1.2.1, U[j].2.1.1, 0, _, U[j].2.2.2.1, U[j].2.2.1, 0, ?_, ?_, ?_, ?_, ?_, ?_, hu.e.fl, hu.l.fl, hu.e.cap.1, hu.l.cap.1, .inl rfl, .inl rfl⟩
  · rw [h.own.cellAt _ (by omega), g0]; rfl
  · rw [h.own.cellAt _ (by omega), g1]; rfl
  · rw [h.own.cellAt _ (by omega), g2]; rfl
  · rw [h.own.cellAt _ (by omega), g3]; rfl
  · rw [h.own.cellAt _ (by omega), g4]; rfl
  · rw [h.own.cellAt _ (by omega), g5]; rfl
def RetStp (ps : List SP) (w : World) (e : Ending) (w' : World) : Prop := ∃ (g c : Nat) (U : List UP), e = .returned (.slice (some ⟨g, 0, none⟩) ps.length c) ∧ Stp w' w.heap.size g c U ps ∧ Below w.heap.size w w'
end Go.Proofs.Ytacinjbaebimhaa.Val
