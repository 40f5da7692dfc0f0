/- Plans that were drawn: steps of one's own, whose expressions and lists lie or are none. -/
import Derived.Test.YtacinjbaebimhaaGreatDrawTbQ
import Derived.Test.YtacinjbaebimhaaGreatPColKQ
namespace Go.Proofs.YtacinjbaebimhaaGreat.Val
open Go.RowKit
set_option linter.unusedSimpArgs false
set_option linter.unusedVariables false
set_option maxRecDepth 20000
/-- A row that lies in a block of one's own, or is none. -/
def OptR (w : World) (B : Nat) (A : Option Addr) (c n : Nat) (xs : List Value) : Prop := (A = none ∧ c = 0 ∧ n = 0 ∧ xs = []) ∨ ∃ g, A = some ⟨g, 0, none⟩ ∧ Fl w g 0 (some ⟨g, 0, none⟩) xs ∧ B ≤ g ∧ g < w.heap.size ∧ n ≤ c ∧ c ≤ maxLen
theorem OptR.keep {w w' : World} {B : Nat} {A : Option Addr} {c n : Nat} {xs : List Value} (h : OptR w B A c n xs) (hz : w.heap.size ≤ w'.heap.size) (hk : ∀ g, A = some ⟨g, 0, none⟩ → g < w.heap.size → B ≤ g → w'.heap[g]? = w.heap[g]?) : OptR w' B A c n xs := by
  rcases h with h | ⟨g, h1, h2, h3, h4, h5⟩
  · exact .inl h
  · exact .inr ⟨g, h1, h2.keep fun _ j => cellOf (hk g h1 h4 h3), h3, Nat.lt_of_lt_of_le h4 hz, h5⟩
theorem OptR.below {w w' : World} {B : Nat} {A : Option Addr} {c n : Nat} {xs : List Value} (h : OptR w B A c n xs) (hb : Below w.heap.size w w') : OptR w' B A c n xs := h.keep hb.size fun g _ hg _ => hb.block g hg
theorem OptR.only {w w' : World} {B r : Nat} {A : Option Addr} {c n : Nat} {xs : List Value} (h : OptR w B A c n xs) (hr : r < B) (ho : Only r w w') : OptR w' B A c n xs := h.keep ho.size fun g _ hg hB => ho.block g hg (by omega)
theorem OptR.alloc {w : World} {B : Nat} {A : Option Addr} {c n : Nat} {xs : List Value} (h : OptR w B A c n xs) (ob : Obj) : OptR (w.alloc ob) B A c n xs := h.below ((Below.refl _ _).alloc (Nat.le_refl _) _)
theorem OptR.lower {w : World} {B B' : Nat} {A : Option Addr} {c n : Nat} {xs : List Value} (h : OptR w B A c n xs) (hB : B' ≤ B) : OptR w B' A c n xs := by
  rcases h with h | ⟨g, h1, h2, h3, h4⟩
  · exact .inl h
  · exact .inr ⟨g, h1, h2, Nat.le_trans hB h3, h4⟩
theorem OptR.nil {w : World} {B : Nat} : OptR w B none 0 0 [] := .inl ⟨rfl, rfl, rfl, rfl⟩
/-- What it shows. -/
theorem OptR.fl {w : World} {B : Nat} {A : Option Addr} {c n : Nat} {xs : List Value} (h : OptR w B A c n xs) (g0 : Nat) : ∃ g, Fl w g 0 A xs ∧ n ≤ c ∧ Nice A c g 0 := by
  rcases h with ⟨rfl, rfl, rfl, rfl⟩ | ⟨g, rfl, h2, h3, h4, h5, h6⟩
  · exact ⟨g0, ⟨fun h => absurd h (by simp), fun j hj => absurd hj (by simp)⟩, Nat.le_refl _, .inr ⟨rfl, rfl⟩⟩
  · exact ⟨g, h2, h5, .inl rfl⟩
abbrev UD := SP × (Option Addr × Nat) × (Option Addr × Nat)
def hdD (u : UD) : List Value := [.int .i64 u.1.1, .int .i64 u.1.2.1, .int .i64 u.1.2.2.1, .int .i64 u.1.2.2.2.1, .slice u.2.1.1 u.1.2.2.2.2.1.length u.2.1.2, .slice u.2.2.1 u.1.2.2.2.2.2.length u.2.2.2]
theorem flatD_len (U : List UD) : (U.flatMap hdD).length = U.length * 6 := by
  induction U with
  | nil => rfl
  | cons u U ih => rw [List.flatMap_cons, List.length_append, ih, List.length_cons]; simp [hdD]; omega
theorem flatD_get (U : List UD) (i : Nat) (h : i < U.length) (q : Nat) (hq : q < 6) : (U.flatMap hdD)[i * 6 + q]? = (hdD U[i])[q]? := by
  induction U generalizing i with
  | nil => simp at h
  | cons v vs ih =>
    cases i with
    | zero =>
      rw [List.flatMap_cons, Nat.zero_mul, Nat.zero_add, List.getElem?_append_left (by simpa [hdD] using hq)]
      rfl
    | succ i =>
      have := ih i (by simpa using h)
      rw [List.flatMap_cons, show (i + 1) * 6 + q = (hdD v).length + (i * 6 + q) by simp [hdD]; omega, List.getElem?_append_right (Nat.le_add_right _ _), Nat.add_sub_cancel_left, this]
      rfl
theorem hdD_one (u : UD) : ∀ v ∈ hdD u, v.oneCell' = true := fun v hv => by
  simp only [hdD, List.mem_cons, List.not_mem_nil, or_false] at hv
  rcases hv with rfl | rfl | rfl | rfl | rfl | rfl <;> rfl
theorem flatD_one (U : List UD) : ∀ v ∈ U.flatMap hdD, v.oneCell' = true := fun v hv => by
  obtain ⟨u, -, hu⟩ := List.mem_flatMap.1 hv
  exact hdD_one u v hu
/-- A drawn step. -/
structure StpD (w : World) (B : Nat) (u : UD) : Prop where
  e : OptR w B u.2.1.1 u.2.1.2 u.1.2.2.2.2.1.length (flatP u.1.2.2.2.2.1)
  l : OptR w B u.2.2.1 u.2.2.2 u.1.2.2.2.2.2.length (u.1.2.2.2.2.2.map iv)
/-- It names no block g. -/
def NotIn (g : Nat) (u : UD) : Prop := u.2.1.1 ≠ some ⟨g, 0, none⟩ ∧ u.2.2.1 ≠ some ⟨g, 0, none⟩
theorem StpD.keep {w w' : World} {B : Nat} {u : UD} (h : StpD w B u) (hz : w.heap.size ≤ w'.heap.size) (hk : ∀ g, ¬ NotIn g u → g < w.heap.size → B ≤ g → w'.heap[g]? = w.heap[g]?) : StpD w' B u :=
  ⟨h.e.keep hz fun g e h1 h2 => hk g (fun n => n.1 e) h1 h2, h.l.keep hz fun g e h1 h2 => hk g (fun n => n.2 e) h1 h2⟩
theorem StpD.below {w w' : World} {B : Nat} {u : UD} (h : StpD w B u) (hb : Below w.heap.size w w') : StpD w' B u := ⟨h.e.below hb, h.l.below hb⟩
theorem StpD.alloc {w : World} {B : Nat} {u : UD} (h : StpD w B u) (ob : Obj) : StpD (w.alloc ob) B u := ⟨h.e.alloc ob, h.l.alloc ob⟩
theorem StpD.drew {w : World} {B : Nat} {u : UD} (h : StpD w B u) : StpD w.drew B u := h.below ((Below.refl _ _).drew)
theorem StpD.only {w w' : World} {B r : Nat} {u : UD} (h : StpD w B u) (hr : r < B) (ho : Only r w w') : StpD w' B u := ⟨h.e.only hr ho, h.l.only hr ho⟩
theorem StpD.hi {w : World} {B : Nat} {u : UD} (h : StpD w B u) {g : Nat} (hg : ¬ NotIn g u) : B ≤ g ∧ g < w.heap.size := by
  by_cases h1 : u.2.1.1 = some ⟨g, 0, none⟩
  · rcases h.e with ⟨h2, -⟩ | ⟨g2, h2, -, h3, h4, -⟩
    · rw [h2] at h1; cases h1
    · rw [h2] at h1; cases h1; exact ⟨h3, h4⟩
  · by_cases h5 : u.2.2.1 = some ⟨g, 0, none⟩
    · rcases h.l with ⟨h2, -⟩ | ⟨g2, h2, -, h3, h4, -⟩
      · rw [h2] at h5; cases h5
      · rw [h2] at h5; cases h5; exact ⟨h3, h4⟩
    · exact absurd ⟨h1, h5⟩ hg
structure PlW (w : World) (B g cap : Nat) (U : List UD) (ps : List SP) : Prop where
  eq : U.map (fun u => u.1) = ps
  own : w.ownsRow B 35 6 (.slice (some ⟨g, 0, none⟩) ps.length cap) ps.length (U.flatMap hdD)
  stps : ∀ u ∈ U, StpD w B u
  ng : ∀ u ∈ U, NotIn g u
theorem PlW.len {w : World} {B g cap : Nat} {U : List UD} {ps : List SP} (h : PlW w B g cap U ps) : U.length = ps.length := by rw [← h.eq, List.length_map]
theorem PlW.lo {w : World} {B g cap : Nat} {U : List UD} {ps : List SP} (h : PlW w B g cap U ps) : B ≤ g ∧ g < w.heap.size := h.own.lt g rfl
theorem PlW.caps {w : World} {B g cap : Nat} {U : List UD} {ps : List SP} (h : PlW w B g cap U ps) : ps.length ≤ cap ∧ cap ≤ maxLen := own_caps h.own
theorem PlW.keep {w w' : World} {B g cap : Nat} {U : List UD} {ps : List SP} (h : PlW w B g cap U ps) (hz : w.heap.size ≤ w'.heap.size) (hk : ∀ b, b < w.heap.size → B ≤ b → w'.heap[b]? = w.heap[b]?) : PlW w' B g cap U ps :=
  ⟨h.eq, own_keep h.own (hk g h.lo.2 h.lo.1), fun u hu => (h.stps u hu).keep hz fun b _ h1 h2 => hk b h1 h2, h.ng⟩
theorem PlW.below {w w' : World} {B g cap : Nat} {U : List UD} {ps : List SP} (h : PlW w B g cap U ps) (hb : Below w.heap.size w w') : PlW w' B g cap U ps := h.keep hb.size fun b hb2 _ => hb.block b hb2
theorem PlW.alloc {w : World} {B g cap : Nat} {U : List UD} {ps : List SP} (h : PlW w B g cap U ps) (ob : Obj) : PlW (w.alloc ob) B g cap U ps := h.below ((Below.refl _ _).alloc (Nat.le_refl _) _)
theorem PlW.drew {w : World} {B g cap : Nat} {U : List UD} {ps : List SP} (h : PlW w B g cap U ps) : PlW w.drew B g cap U ps := h.below ((Below.refl _ _).drew)
theorem PlW.only {w w' : World} {B g cap r : Nat} {U : List UD} {ps : List SP} (h : PlW w B g cap U ps) (hr : r < B) (ho : Only r w w') : PlW w' B g cap U ps := h.keep ho.size fun b h1 h2 => ho.block b h1 (by omega)
theorem PlW.lower {w : World} {B B' g cap : Nat} {U : List UD} {ps : List SP} (h : PlW w B g cap U ps) (hB : B' ≤ B) : PlW w B' g cap U ps := ⟨h.eq, own_lower2 h.own hB, fun u hu => ⟨(h.stps u hu).e.lower hB, (h.stps u hu).l.lower hB⟩, h.ng⟩
theorem StpD.at {w : World} {B : Nat} {u : UD} {g p : Nat} (h : StpD w B u) (hs : ∀ q v, (hdD u)[q]? = some v → w.cell? ⟨g, p + q, none⟩ = some v) : StepAt w g p u.1 := by
  obtain ⟨g1, f1, c1, n1⟩ := h.e.fl g
  obtain ⟨g2, f2, c2, n2⟩ := h.l.fl g
  exact ⟨u.2.1.1, u.2.1.2, g1, 0, u.2.2.1, u.2.2.2, g2, 0, hs 0 _ rfl, hs 1 _ rfl, hs 2 _ rfl, hs 3 _ rfl, hs 4 _ rfl, hs 5 _ rfl, f1, f2, c1, c2, n1, n2⟩
theorem PlW.sps {w : World} {B g cap : Nat} {U : List UD} {ps : List SP} (h : PlW w B g cap U ps) : Sps w g 0 (some ⟨g, 0, none⟩) ps := by
  have hl := h.len
  refine ⟨fun _ => rfl, fun j hj => ?_⟩
  have hj2 : j < U.length := by omega
  have he : ps[j] = U[j].1 := by
    have := h.eq
    subst this
    simp
  rw [he, Nat.zero_add]
  refine (h.stps _ (List.getElem_mem hj2)).at fun q v hv => ?_
  have hq : q < 6 := (List.getElem?_eq_some_iff.1 hv).1
  rw [h.own.cellAt _ (by omega), flatD_get U j hj2 q hq, hv]
/-- One more step. -/
theorem PlW.push {w w' : World} {B g cap g' cap' n : Nat} {U : List UD} {ps : List SP} {u : UD} (h : PlW w B g cap U ps) (hu : StpD w B u) (hg : NotIn g u) (hnl : n = ps.length + 1)
    (hown : w'.ownsRow B 35 6 (.slice (some ⟨g', 0, none⟩) n cap') n (U.flatMap hdD ++ hdD u)) (hgr : w.grownBy w' (some g)) (hgg : g' = g ∨ w.heap.size ≤ g') : PlW w' B g' cap' (U ++ [u]) (ps ++ [u.1]) := by
  subst hnl
  have hmem : ∀ v ∈ U ++ [u], StpD w B v ∧ NotIn g v := by
    intro v hv
    rcases List.mem_append.1 hv with hv | hv
    · exact ⟨h.stps v hv, h.ng v hv⟩
    · obtain rfl := List.mem_singleton.1 hv
      exact ⟨hu, hg⟩
  refine ⟨by rw [List.map_append, h.eq]; rfl, ?_, fun v hv => (hmem v hv).1.keep hgr.size fun b hb h1 _ => hgr.block b h1 (fun e => hb (Option.some.inj e ▸ (hmem v hv).2)), fun v hv => ?_⟩
  · rw [List.flatMap_append, List.length_append]
    simpa using hown
  · rcases hgg with rfl | hgg
    · exact (hmem v hv).2
    · exact Classical.byContradiction fun hn => by have := ((hmem v hv).1.hi hn).2; omega
/-- The first step of a plan: a literal. -/
theorem PlW.one {w : World} {B : Nat} (n : Int) (hB : B ≤ w.heap.size) : PlW (w.alloc (.cells #[.int .i64 1, .int .i64 0, .int .i64 0, .int .i64 n, .slice none 0 0, .slice none 0 0] 35)) B w.heap.size 1 [((1, 0, 0, n, [], []), (none, 0), (none, 0))] [(1, 0, 0, n, [], [])] := by
  refine ⟨rfl, ⟨rfl, .inr ⟨w.heap.size, 1, _, rfl, hB, heap_alloc_new w _, Nat.le_refl _, by decide, rfl, rfl⟩⟩, fun u hu => ?_, fun u hu => ?_⟩
  · obtain rfl := List.mem_singleton.1 hu
    exact ⟨.nil, .nil⟩
  · obtain rfl := List.mem_singleton.1 hu
    exact ⟨by simp, by simp⟩
/-- One number of a step is stored anew. -/
theorem PlW.store {w : World} {B g cap i q : Nat} {x : Int} {U : List UD} {ps : List SP} {s' : SP} (h : PlW w B g cap U ps) (hi : i < ps.length) (hq : q < 6) (hs : ∀ u : UD, u.1 = ps[i] → hdD (s', u.2) = (hdD u).set q (.int .i64 x)) (he : s'.2.2.2.2.1 = ps[i].2.2.2.2.1) (hl : s'.2.2.2.2.2 = ps[i].2.2.2.2.2) :
    Sps (w.setCell ⟨g, i * 6 + q, none⟩ (.int .i64 x)) g 0 (some ⟨g, 0, none⟩) (ps.set i s') := by
  have hlen := h.len
  have hcell := (h.own.stored (i * 6 + q) (.int .i64 x)).1
  refine ⟨fun _ => rfl, fun j hj => ?_⟩
  rw [List.length_set] at hj
  have hj2 : j < U.length := by omega
  have hee : ∀ k (hk : k < U.length), ps[k]'(by omega) = U[k].1 := fun k hk => by
    have := h.eq
    subst this
    simp
  have hst : StpD (w.setCell ⟨g, i * 6 + q, none⟩ (.int .i64 x)) B U[j] := (h.stps _ (List.getElem_mem hj2)).keep (by simp [World.setCell]) fun b hb _ _ => far_set (fun e => hb (e ▸ h.ng _ (List.getElem_mem hj2)))
  rw [Nat.zero_add, List.getElem_set]
  split
  · rename_i e
    subst e
    have h1 := hee i hj2
    have hst2 : StpD (w.setCell ⟨g, i * 6 + q, none⟩ (.int .i64 x)) B (s', U[i].2) := by
      obtain ⟨a1, a2⟩ := hst
      rw [← h1] at a1 a2
      exact ⟨by simp only [he]; exact a1, by simp only [hl]; exact a2⟩
    refine hst2.at fun q2 v hv => ?_
    have hq2 : q2 < 6 := (List.getElem?_eq_some_iff.1 hv).1
    rw [hcell.cellAt _ (by omega)]
    rw [hs U[i] h1.symm] at hv
    by_cases hqq : q = q2
    · subst hqq
      rw [List.getElem?_set_self (by rw [flatD_len]; omega)]
      rw [List.getElem?_set_self (by simpa [hdD] using hq)] at hv
      exact hv
    · rw [List.getElem?_set_ne (by omega), flatD_get U i hj2 q2 hq2]
      rw [List.getElem?_set_ne hqq] at hv
      exact hv
  · rename_i e
    rw [hee j hj2]
    refine hst.at fun q2 v hv => ?_
    have hq2 : q2 < 6 := (List.getElem?_eq_some_iff.1 hv).1
    rw [hcell.cellAt _ (by omega), List.getElem?_set_ne (by omega), flatD_get U j hj2 q2 hq2, hv]
end Go.Proofs.YtacinjbaebimhaaGreat.Val
namespace Go.Proofs.YtacinjbaebimhaaGreat.Val
open Go.RowKit
set_option linter.unusedSimpArgs false
set_option linter.unusedVariables false
set_option maxRecDepth 20000
theorem infoST : (Tryz.prog.info? 35).map (fun i => (i.zero, i.size, i.bytes)) = some (some (.agg #[.int .i64 0, .int .i64 0, .int .i64 0, .int .i64 0, .slice none 0 0, .slice none 0 0]), 6, 80) := by kernel_rfl
/-- A box that holds a step: a row of one. -/
def BoxAt (w : World) (B b : Nat) (vs : List Value) : Prop := w.ownsRow B 35 6 (.slice (some ⟨b, 0, none⟩) 1 1) 1 vs
theorem BoxAt.new {w : World} {B b : Nat} (hb : w.heap.size = b) (hB : B ≤ b) (v0 v1 v2 v3 v4 v5 : Value) : BoxAt (w.alloc (.cells #[v0, v1, v2, v3, v4, v5] 35)) B b [v0, v1, v2, v3, v4, v5] := by
  subst hb
  exact ⟨rfl, .inr ⟨w.heap.size, 1, _, rfl, hB, heap_alloc_new w _, Nat.le_refl _, by decide, rfl, rfl⟩⟩
theorem BoxAt.lo {w : World} {B b : Nat} {vs : List Value} (h : BoxAt w B b vs) : B ≤ b ∧ b < w.heap.size := World.ownsRow.lt h b rfl
theorem BoxAt.only {w w' : World} {B b r : Nat} {vs : List Value} (h : BoxAt w B b vs) (hr : r < B) (ho : Only r w w') : BoxAt w' B b vs := own_only2 h hr ho
theorem BoxAt.below {w w' : World} {B b : Nat} {vs : List Value} (h : BoxAt w B b vs) (hb : Below w.heap.size w w') : BoxAt w' B b vs := own_keep h (hb.block _ h.lo.2)
theorem BoxAt.alloc {w : World} {B b : Nat} {vs : List Value} (h : BoxAt w B b vs) (ob : Obj) : BoxAt (w.alloc ob) B b vs := h.below ((Below.refl _ _).alloc (Nat.le_refl _) _)
theorem BoxAt.drew {w : World} {B b : Nat} {vs : List Value} (h : BoxAt w B b vs) : BoxAt w.drew B b vs := h.below ((Below.refl _ _).drew)
theorem BoxAt.facts {w : World} {B b : Nat} {v0 v1 v2 v3 v4 v5 : Value} (h : BoxAt w B b [v0, v1, v2, v3, v4, v5]) : (w.cell? ⟨b, 0, none⟩ = some v0 ∧ w.cell? ⟨b, 1, none⟩ = some v1 ∧ w.cell? ⟨b, 2, none⟩ = some v2 ∧ w.cell? ⟨b, 3, none⟩ = some v3 ∧ w.cell? ⟨b, 4, none⟩ = some v4 ∧ w.cell? ⟨b, 5, none⟩ = some v5) ∧ w.frozen? ⟨b, 0, none⟩ = false ∧ w.frozen? ⟨b, 1, none⟩ = false ∧ w.frozen? ⟨b, 2, none⟩ = false ∧ w.frozen? ⟨b, 3, none⟩ = false ∧ w.frozen? ⟨b, 4, none⟩ = false ∧ w.frozen? ⟨b, 5, none⟩ = false := by
  have c := fun (j : Nat) (hj : j < 1 * 6) => World.ownsRow.cellAt h j hj
  have f := fun (j : Nat) => World.ownsRow.frozenAt h j
  exact ⟨⟨c 0 (by decide), c 1 (by decide), c 2 (by decide), c 3 (by decide), c 4 (by decide), c 5 (by decide)⟩, f 0, f 1, f 2, f 3, f 4, f 5⟩
theorem BoxAt.put {w : World} {B b : Nat} {v0 v1 v2 v3 v4 v5 : Value} (h : BoxAt w B b [v0, v1, v2, v3, v4, v5]) (u0 u1 u2 u3 u4 u5 : Value) :
    BoxAt ((((((w.setCell ⟨b, 0, none⟩ u0).setCell ⟨b, 1, none⟩ u1).setCell ⟨b, 2, none⟩ u2).setCell ⟨b, 3, none⟩ u3).setCell ⟨b, 4, none⟩ u4).setCell ⟨b, 5, none⟩ u5) B b [u0, u1, u2, u3, u4, u5] :=
  (World.ownsRow.stored (World.ownsRow.stored (World.ownsRow.stored (World.ownsRow.stored (World.ownsRow.stored (World.ownsRow.stored h 0 u0).1 1 u1).1 2 u2).1 3 u3).1 4 u4).1 5 u5).1
theorem BoxAt.put5 {w : World} {B b : Nat} {v0 v1 v2 v3 v4 v5 : Value} (h : BoxAt w B b [v0, v1, v2, v3, v4, v5]) (u5 : Value) : BoxAt (w.setCell ⟨b, 5, none⟩ u5) B b [v0, v1, v2, v3, v4, u5] := (World.ownsRow.stored h 5 u5).1
/-- A drawn step is small. -/
def StepFit (s : SP) : Prop := s.2.2.2.2.1.length ≤ 7 ∧ TextsP s.2.2.2.2.1 ∧ s.2.2.2.2.2.length ≤ 3
theorem stepFit_bare (a b c d : Int) : StepFit (a, b, c, d, [], []) := ⟨by simp, fun p hp => absurd hp (by simp), by simp⟩
theorem okS_fit {ps : List SP} (hl : ps.length ≤ 2000000) (h : ∀ s ∈ ps, StepFit s) : OkS ps := ⟨hl, fun s hs => by
  obtain ⟨h1, h2, h3⟩ := h s hs
  exact ⟨by omega, h2.short, by omega⟩⟩
theorem fits_app {ps : List SP} {s : SP} (h : ∀ s ∈ ps, StepFit s) (hs : StepFit s) : ∀ t ∈ ps ++ [s], StepFit t := fun t ht => by
  rcases List.mem_append.1 ht with ht | ht
  · exact h t ht
  · obtain rfl := List.mem_singleton.1 ht; exact hs
theorem optR_of_own {w : World} {B size n : Nat} {e : TypeId} {v : Value} {xs : List Value} (h : w.ownsRow B e size v n xs) : ∃ (A : Option Addr) (c : Nat), v = .slice A n c ∧ OptR w B A c n xs := by
  rcases h.2 with ⟨hv, hn⟩ | ⟨g, cap, cur, hv, hB, hc, hn, hm, -⟩
  · have hx : xs = [] := List.eq_nil_of_length_eq_zero (by rw [h.1, hn]; omega)
    subst hn
    exact ⟨none, 0, hv, .inl ⟨rfl, rfl, rfl, hx⟩⟩
  · subst hv
    exact ⟨some ⟨g, 0, none⟩, cap, rfl, .inr ⟨g, rfl, fl_sliceB h, hB, (h.lt g rfl).2, hn, hm⟩⟩
/-- The copy of a plan with a step more: a row of one's own. -/
theorem PlW.copy {w w' : World} {B g cap g' cap' n : Nat} {U : List UD} {ps : List SP} {u : UD} (h : PlW w B g cap U ps) (hu : StpD w B u) (hnl : n = ps.length + 1) (hb : Below w.heap.size w w') (hg : w.heap.size ≤ g')
    (hown : w'.ownsRow B 35 6 (.slice (some ⟨g', 0, none⟩) n cap') n (U.flatMap hdD ++ hdD u)) : PlW w' B g' cap' (U ++ [u]) (ps ++ [u.1]) := by
  subst hnl
  have hmem : ∀ v ∈ U ++ [u], StpD w B v := by
    intro v hv
    rcases List.mem_append.1 hv with hv | hv
    · exact h.stps v hv
    · obtain rfl := List.mem_singleton.1 hv
      exact hu
  refine ⟨by rw [List.map_append, h.eq]; rfl, ?_, fun v hv => (hmem v hv).below hb, fun v hv => Classical.byContradiction fun hn => by have := ((hmem v hv).hi hn).2; omega⟩
  rw [List.flatMap_append, List.length_append]
  simpa using hown
/-- What l20Plan leaves. -/
def DrewPl (B r : Nat) (p : Int) (w : World) (e : Ending) (w' : World) : Prop := ∃ (g c : Nat) (U : List UD) (ps : List SP) (q : Int), e = .returned (.slice (some ⟨g, 0, none⟩) ps.length c) ∧ PlW w' w.heap.size g c U ps ∧ 1 ≤ ps.length ∧ ps.length ≤ 6 ∧ (∀ s ∈ ps, StepFit s) ∧ q ≤ p + 20000 ∧ Only r w w' ∧ RdOk B r w' q
/-- The state ahead of the test of a step. -/
def PCut (B r bb : Nat) (B0 W7 : Nat) (q0 : Int) (w7 wx : World) : Prop := ∃ (u : UD) (q : Int), BoxAt wx B0 bb (hdD u) ∧ StpD wx W7 u ∧ StepFit u.1 ∧ q ≤ q0 + 2900 ∧ Only r w7 wx ∧ RdOk B r wx q
theorem put6_far {w : World} {b k : Nat} (h : k ≠ b) (u0 u1 u2 u3 u4 u5 : Value) : ((((((w.setCell ⟨b, 0, none⟩ u0).setCell ⟨b, 1, none⟩ u1).setCell ⟨b, 2, none⟩ u2).setCell ⟨b, 3, none⟩ u3).setCell ⟨b, 4, none⟩ u4).setCell ⟨b, 5, none⟩ u5).heap[k]? = w.heap[k]? :=
  (far_set h).trans ((far_set h).trans ((far_set h).trans ((far_set h).trans ((far_set h).trans (far_set h)))))
theorem OptR.put6 {w : World} {B b : Nat} {A : Option Addr} {c n : Nat} {xs : List Value} (h : OptR w B A c n xs) (hb : b < B) (u0 u1 u2 u3 u4 u5 : Value) : OptR ((((((w.setCell ⟨b, 0, none⟩ u0).setCell ⟨b, 1, none⟩ u1).setCell ⟨b, 2, none⟩ u2).setCell ⟨b, 3, none⟩ u3).setCell ⟨b, 4, none⟩ u4).setCell ⟨b, 5, none⟩ u5) B A c n xs :=
  h.keep (by simp [World.setCell]) fun g _ _ hB => put6_far (by omega) _ _ _ _ _ _
theorem Only.put6 {r b : Nat} {w w' : World} (h : Only r w w') (hb : w.heap.size ≤ b) (u0 u1 u2 u3 u4 u5 : Value) : Only r w ((((((w'.setCell ⟨b, 0, none⟩ u0).setCell ⟨b, 1, none⟩ u1).setCell ⟨b, 2, none⟩ u2).setCell ⟨b, 3, none⟩ u3).setCell ⟨b, 4, none⟩ u4).setCell ⟨b, 5, none⟩ u5) :=
  (((((h.setNew hb _).setNew hb _).setNew hb _).setNew hb _).setNew hb _).setNew hb _
theorem RdOk.put6 {B r b : Nat} {p : Int} {w : World} (h : RdOk B r w p) (hb : r < b) (u0 u1 u2 u3 u4 u5 : Value) : RdOk B r ((((((w.setCell ⟨b, 0, none⟩ u0).setCell ⟨b, 1, none⟩ u1).setCell ⟨b, 2, none⟩ u2).setCell ⟨b, 3, none⟩ u3).setCell ⟨b, 4, none⟩ u4).setCell ⟨b, 5, none⟩ u5) p :=
  (((((h.setFar hb _).setFar hb _).setFar hb _).setFar hb _).setFar hb _).setFar hb _
/-- A step is put into the box: the cut's state. -/
theorem pcut_put {B r bb B0 W7 BE : Nat} {q0 q : Int} {w7 w : World} {v0 v1 v2 v3 v4 v5 : Value} (u : UD) (hbx : BoxAt w B0 bb [v0, v1, v2, v3, v4, v5]) (he : OptR w BE u.2.1.1 u.2.1.2 u.1.2.2.2.2.1.length (flatP u.1.2.2.2.2.1)) (hl : OptR w BE u.2.2.1 u.2.2.2 u.1.2.2.2.2.2.length (u.1.2.2.2.2.2.map iv)) (hBE : bb < BE) (h7 : W7 ≤ BE) (hsf : StepFit u.1) (hq : q ≤ q0 + 2900) (ho : Only r w7 w) (hr : RdOk B r w q) (h7b : w7.heap.size ≤ bb) (hrb : r < bb) :
    PCut B r bb B0 W7 q0 w7 ((((((w.setCell ⟨bb, 0, none⟩ (.int .i64 u.1.1)).setCell ⟨bb, 1, none⟩ (.int .i64 u.1.2.1)).setCell ⟨bb, 2, none⟩ (.int .i64 u.1.2.2.1)).setCell ⟨bb, 3, none⟩ (.int .i64 u.1.2.2.2.1)).setCell ⟨bb, 4, none⟩ (.slice u.2.1.1 u.1.2.2.2.2.1.length u.2.1.2)).setCell ⟨bb, 5, none⟩ (.slice u.2.2.1 u.1.2.2.2.2.2.length u.2.2.2)) :=
  ⟨u, q, hbx.put _ _ _ _ _ _, ⟨(he.put6 hBE _ _ _ _ _ _).lower h7, (hl.put6 hBE _ _ _ _ _ _).lower h7⟩, hsf, hq, ho.put6 h7b _ _ _ _ _ _, hr.put6 hrb _ _ _ _ _ _⟩
/-- What lies in the box makes a step: the cut's state. -/
theorem pcut_at {B r bb B0 W7 : Nat} {q0 q : Int} {w7 w : World} (a b c d : Int) (hbx : BoxAt w B0 bb [.int .i64 a, .int .i64 b, .int .i64 c, .int .i64 d, .slice none 0 0, .slice none 0 0]) (hq : q ≤ q0 + 2900) (ho : Only r w7 w) (hr : RdOk B r w q) : PCut B r bb B0 W7 q0 w7 w :=
  ⟨((a, b, c, d, [], []), (none, 0), (none, 0)), q, hbx, ⟨.nil, .nil⟩, stepFit_bare _ _ _ _, hq, ho, hr⟩
theorem lit_fl {W : World} {X : Nat} (hX : W.heap.size = X) (u : UD) : Fl (W.alloc (.cells #[.int .i64 u.1.1, .int .i64 u.1.2.1, .int .i64 u.1.2.2.1, .int .i64 u.1.2.2.2.1, .slice u.2.1.1 u.1.2.2.2.2.1.length u.2.1.2, .slice u.2.2.1 u.1.2.2.2.2.2.length u.2.2.2] 35)) X 0 (some ⟨X, 0, none⟩) (hdD u) := by
  subst hX
  exact fl_sliceB (own_lit (size := 6) (Nat.le_refl _) rfl)
theorem Fl.grownN {W w' : World} {g : Nat} {xs : List Value} {row : Option Nat} (h : Fl W g 0 (some ⟨g, 0, none⟩) xs) (hgr : W.grownBy w' row) (hne : some g ≠ row) (h0 : 0 < xs.length) : Fl w' g 0 (some ⟨g, 0, none⟩) xs :=
  h.keep fun _ j => cellOf (hgr.block g (h.lt h0) hne)
/-- A list lies in the box: the cut's state. -/
theorem pcut_list {B r bb B0 W7 BE k2 : Nat} {q0 q : Int} {w7 w : World} {A2 : Option Addr} {L : List Int} {ty : TypeId} (a : Int) (hbx : BoxAt w B0 bb [.int .i64 3, .int .i64 a, .int .i64 0, .int .i64 0, .slice none 0 0, .slice A2 L.length k2]) (hown : w.ownsRow BE ty 1 (.slice A2 L.length k2) L.length (L.map iv)) (h7 : W7 ≤ BE) (hl : L.length ≤ 3) (hq : q ≤ q0 + 2900) (ho : Only r w7 w) (hr : RdOk B r w q) : PCut B r bb B0 W7 q0 w7 w := by
  obtain ⟨A, c, hv, hor⟩ := optR_of_own hown
  cases hv
  exact ⟨((3, a, 0, 0, [], L), (none, 0), (A2, k2)), q, hbx, ⟨.nil, hor.lower h7⟩, ⟨by simp, fun p hp => absurd hp (by simp), hl⟩, hq, ho, hr⟩
theorem BoxAt.grown {w w' : World} {B b : Nat} {vs : List Value} {row : Option Nat} (h : BoxAt w B b vs) (hgr : w.grownBy w' row) (hne : some b ≠ row) : BoxAt w' B b vs := own_keep h (hgr.block b h.lo.2 hne)
theorem PlW.cellQ {w : World} {B g cap : Nat} {U : List UD} {ps : List SP} (h : PlW w B g cap U ps) (i q : Nat) (hi : i < ps.length) (hq : q < 6) : (∃ v, w.cell? ⟨g, i * 6 + q, none⟩ = some v) ∧ w.frozen? ⟨g, i * 6 + q, none⟩ = false := by
  have hl := h.len
  refine ⟨?_, h.own.frozenAt _⟩
  rw [h.own.cellAt _ (by omega), flatD_get U i (by omega) q hq]
  exact ⟨_, List.getElem?_eq_getElem (by simpa [hdD] using hq)⟩
theorem PlW.take {w : World} {B g cap : Nat} {U : List UD} {ps : List SP} (h : PlW w B g cap U ps) (m : Nat) : PlW w B g cap (U.take m) (ps.take m) := by
  have hl := h.len
  refine ⟨by rw [List.map_take, h.eq], ?_, fun u hu => h.stps u (List.mem_of_mem_take hu), fun u hu => h.ng u (List.mem_of_mem_take hu)⟩
  have h1 := own_take (m := (ps.take m).length) h.own (by rw [List.length_take]; omega)
  have h2 : (U.flatMap hdD).take ((ps.take m).length * 6) = (U.take m).flatMap hdD := by
    conv => lhs; rw [← List.take_append_drop m U, List.flatMap_append]
    rw [List.take_append_of_le_length (by rw [flatD_len, List.length_take, List.length_take]; omega), List.take_of_length_le (by rw [flatD_len, List.length_take, List.length_take]; omega)]
  rw [h2] at h1
  exact h1
theorem fits_set {ps : List SP} {i : Nat} {s : SP} (h : ∀ s ∈ ps, StepFit s) (hs : StepFit s) : ∀ t ∈ ps.set i s, StepFit t := fun t ht => by
  rcases List.mem_or_eq_of_mem_set ht with ht | rfl
  · exact h t ht
  · exact hs
end Go.Proofs.YtacinjbaebimhaaGreat.Val
