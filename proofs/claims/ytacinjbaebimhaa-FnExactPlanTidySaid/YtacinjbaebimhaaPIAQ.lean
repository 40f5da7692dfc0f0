/- Which fields a step may have, as the program asks: plain facts; Cells, rows, lists of rows, columns with a number each, that lie, and what is told of the blocks that they lie in; Appends of what may be none; TablesOk, the program's; which fields a step may have, the columns of a step that is tested: the program's; Which fields a step may have: the program's fieldsOk; The columns of a join: the program's joinedMade. -/
import Derived.Test.YtacinjbaebimhaaPMathQ
import Derived.Test.YtacinjbaebimhaaPRowKQ
import Derived.Test.YtacinjbaebimhaaTabKQ
import Derived.Test.YtacinjbaebimhaaPColKQ
import Derived.Laws.AppendOwnNone
namespace Go.Proofs.Ytacinjbaebimhaa.Val
open Go.RowKit
set_option linter.unusedVariables false
def asksI (k : Int) : Int := if k = 2 ∨ k = 3 ∨ k = 6 then 1 else if k = 4 ∨ k = 5 then 2 else 0
def fieldI (b : Bool) (n : Int) (m : Nat) : Bool := if b = true then inB n m else decide (n = 0)
def fieldsI (k a b n : Int) (el ll nt na : Nat) : Bool := fieldI (decide (0 < asksI k)) a na && fieldI (decide (1 < asksI k)) b na && fieldI (decide (k = 1)) n nt && (decide (k = 2) || decide (k = 4) || decide (el = 0)) && (decide (k = 3) || decide (ll = 0))
theorem inB_zero {n m : Nat} (h : inB (n : Int) m = true) : inB 0 m = true := by
  simp only [inB, Bool.and_eq_true, decide_eq_true_eq] at h ⊢
  omega
theorem col_fields {tb : List TB} {ah : List (List CT)} {k a b n : Int} {es : List PT} {ns : List Int} {c : List CT} (h : colS tb ah (k, a, b, n, es, ns) = some c) : fieldsI k a b n es.length ns.length tb.length ah.length = true := by
  unfold colS at h
  split at h
  · cases h
  rename_i hf
  have hf2 : fieldsB (k, a, b, n, es, ns) = true := by simpa using hf
  clear hf
  simp only [fieldsB, Bool.and_eq_true, Bool.or_eq_true, decide_eq_true_eq] at hf2
  obtain ⟨⟨⟨⟨f1, f2⟩, f3⟩, f4⟩, f5⟩ := hf2
  simp only at h
  split at h
  · rename_i k1
    subst k1
    split at h
    · rename_i hin
      have e1 : a = 0 := by omega
      have e2 : b = 0 := by omega
      have e4 : es.length = 0 := by omega
      have e5 : ns.length = 0 := by omega
      simp [fieldsI, fieldI, asksI, e1, e2, e4, e5, hin]
    · cases h
  rename_i k1
  split at h
  · cases h
  rename_i hin
  have ha : inB a ah.length = true := by
    cases hq : inB a ah.length with
    | true => rfl
    | false => exact absurd (.inl hq) hin
  have hb : inB b ah.length = true := by
    cases hq : inB b ah.length with
    | true => rfl
    | false => exact absurd (.inr hq) hin
  have e3 : n = 0 := by omega
  by_cases k2 : k = 2
  · have e2 : b = 0 := by omega
    have e5 : ns.length = 0 := by omega
    subst k2
    simp [fieldsI, fieldI, asksI, e2, e3, e5, ha]
  by_cases k3 : k = 3
  · have e2 : b = 0 := by omega
    have e4 : es.length = 0 := by omega
    subst k3
    simp [fieldsI, fieldI, asksI, e2, e3, e4, ha]
  by_cases k4 : k = 4
  · have e5 : ns.length = 0 := by omega
    subst k4
    simp [fieldsI, fieldI, asksI, e3, e5, ha, hb]
  by_cases k5 : k = 5
  · have e4 : es.length = 0 := by omega
    have e5 : ns.length = 0 := by omega
    subst k5
    simp [fieldsI, fieldI, asksI, e3, e4, e5, ha, hb]
  by_cases k6 : k = 6
  · have e2 : b = 0 := by omega
    have e4 : es.length = 0 := by omega
    have e5 : ns.length = 0 := by omega
    subst k6
    simp [fieldsI, fieldI, asksI, e2, e3, e4, e5, ha]
  · simp [k2, k3, k4, k5, k6] at h
theorem col_no {tb : List TB} {ah : List (List CT)} {k a b n : Int} {es : List PT} {ns : List Int} (h : fieldsI k a b n es.length ns.length tb.length ah.length = false) : colS tb ah (k, a, b, n, es, ns) = none := by
  cases hc : colS tb ah (k, a, b, n, es, ns) with
  | none => rfl
  | some c => rw [col_fields hc] at h; cases h
theorem col_1 {tb : List TB} {ah : List (List CT)} {a b n : Int} {es : List PT} {ns : List Int} (h : fieldsI 1 a b n es.length ns.length tb.length ah.length = true) : ∃ j : Nat, n = (j : Int) ∧ ∃ hj : j < tb.length, colS tb ah (1, a, b, n, es, ns) = some tb[j].1 := by
  simp [fieldsI, fieldI, asksI] at h
  obtain ⟨⟨⟨⟨h1, h2⟩, h3⟩, h4⟩, h5⟩ := h
  obtain ⟨j, rfl, hj⟩ := inB_nat h3
  refine ⟨j, rfl, hj, ?_⟩
  simp [colS, fieldsB, h1, h2, h3, h4, h5, hj]
theorem col_A {k a b n : Int} {el ll nt na : Nat} (hk : 0 < asksI k) (h : fieldsI k a b n el ll nt na = true) : ∃ i : Nat, a = (i : Int) ∧ i < na := by
  simp only [fieldsI, Bool.and_eq_true] at h
  have h1 := h.1.1.1.1
  rw [fieldI, if_pos (by simpa using hk)] at h1
  exact inB_nat h1
theorem col_B {k a b n : Int} {el ll nt na : Nat} (hk : 1 < asksI k) (h : fieldsI k a b n el ll nt na = true) : ∃ i : Nat, b = (i : Int) ∧ i < na := by
  simp only [fieldsI, Bool.and_eq_true] at h
  have h1 := h.1.1.1.2
  rw [fieldI, if_pos (by simpa using hk)] at h1
  exact inB_nat h1
theorem col_2 {tb : List TB} {ah : List (List CT)} {i : Nat} {b n : Int} {es : List PT} {ns : List Int} (hi : i < ah.length) (h : fieldsI 2 (i : Int) b n es.length ns.length tb.length ah.length = true) : colS tb ah (2, (i : Int), b, n, es, ns) = if kindI ah[i] es = 3 then some ah[i] else none := by
  simp [fieldsI, fieldI, asksI] at h
  have h1 : inB (i : Int) ah.length = true := by simp [inB, hi]
  obtain ⟨⟨⟨_, h2⟩, h3⟩, _⟩ := h
  subst h2 h3
  simp_all [colS, fieldsB, inB_zero h1]
theorem col_3 {tb : List TB} {ah : List (List CT)} {i : Nat} {b n : Int} {es : List PT} {ns : List Int} (hi : i < ah.length) (h : fieldsI 3 (i : Int) b n es.length ns.length tb.length ah.length = true) : colS tb ah (3, (i : Int), b, n, es, ns) = takeC ah[i] ns := by
  simp [fieldsI, fieldI, asksI] at h
  have h1 : inB (i : Int) ah.length = true := by simp [inB, hi]
  obtain ⟨⟨⟨_, h2⟩, h3⟩, _⟩ := h
  subst h2 h3
  simp_all [colS, fieldsB, inB_zero h1]
theorem col_6 {tb : List TB} {ah : List (List CT)} {i : Nat} {b n : Int} {es : List PT} {ns : List Int} (hi : i < ah.length) (h : fieldsI 6 (i : Int) b n es.length ns.length tb.length ah.length = true) : colS tb ah (6, (i : Int), b, n, es, ns) = some ah[i] := by
  simp [fieldsI, fieldI, asksI] at h
  have h1 : inB (i : Int) ah.length = true := by simp [inB, hi]
  obtain ⟨⟨⟨⟨_, h2⟩, h3⟩, _⟩, _⟩ := h
  subst h2 h3
  simp_all [colS, fieldsB, inB_zero h1]
theorem col_4 {tb : List TB} {ah : List (List CT)} {i j : Nat} {n : Int} {es : List PT} {ns : List Int} (hi : i < ah.length) (hj : j < ah.length) (h : fieldsI 4 (i : Int) (j : Int) n es.length ns.length tb.length ah.length = true) : colS tb ah (4, (i : Int), (j : Int), n, es, ns) = if kindI (ah[i] ++ ah[j]) es = 3 then some (ah[i] ++ ah[j]) else none := by
  simp [fieldsI, fieldI, asksI] at h
  have h1 : inB (i : Int) ah.length = true := by simp [inB, hi]
  have h2 : inB (j : Int) ah.length = true := by simp [inB, hj]
  obtain ⟨⟨⟨_, _⟩, h3⟩, h4⟩ := h
  have e : colS tb ah (4, (i : Int), (j : Int), n, es, ns) = joinC ah[i] ah[j] es := by
    subst h3
    simp_all [colS, fieldsB]
  rw [e, joinC]
  by_cases hk : kindI (ah[i] ++ ah[j]) es = 3
  · have hc := (kind_some (cs := ah[i] ++ ah[j]) (ps := es) (by omega)).1
    rw [if_pos ⟨(colB_iff.1 hc).1, hk⟩, if_pos hk]
  · rw [if_neg (fun h => hk h.2), if_neg hk]
theorem col_5 {tb : List TB} {ah : List (List CT)} {i j : Nat} {n : Int} {es : List PT} {ns : List Int} (hi : i < ah.length) (hj : j < ah.length) (h : fieldsI 5 (i : Int) (j : Int) n es.length ns.length tb.length ah.length = true) : colS tb ah (5, (i : Int), (j : Int), n, es, ns) = bothC ah[i] ah[j] := by
  simp [fieldsI, fieldI, asksI] at h
  have h1 : inB (i : Int) ah.length = true := by simp [inB, hi]
  have h2 : inB (j : Int) ah.length = true := by simp [inB, hj]
  obtain ⟨⟨⟨⟨_, _⟩, h3⟩, h4⟩, h5⟩ := h
  subst h3
  simp_all [colS, fieldsB]
theorem col_K {tb : List TB} {ah : List (List CT)} {k a b n : Int} {es : List PT} {ns : List Int} (k1 : ¬ k = 1) (k2 : ¬ k = 2) (k3 : ¬ k = 3) (k4 : ¬ k = 4) (k5 : ¬ k = 5) (k6 : ¬ k = 6) : colS tb ah (k, a, b, n, es, ns) = none := by simp [colS, k1, k2, k3, k4, k5, k6]
end Go.Proofs.Ytacinjbaebimhaa.Val
namespace Go.Proofs.Ytacinjbaebimhaa.Val
open Go.RowKit
set_option linter.unusedVariables false
/-- What stays of a world: the blocks of which P tells. -/
def Same (P : Nat → Prop) (w w' : World) : Prop := ∀ k, k < w.heap.size → P k → w'.heap[k]? = w.heap[k]?
theorem Same.below {P : Nat → Prop} {w w' : World} (hb : Below w.heap.size w w') : Same P w w' := fun k hk _ => hb.block k hk
theorem Same.grown {g : Nat} {w w' : World} (h : w.grownBy w' (some g)) : Same (· ≠ g) w w' := fun k hk hne => h.block k hk (fun e => hne (Option.some.inj e))
/-- Cells that lie, in a block of which P tells, if there are any. -/
structure FlQ (P : Nat → Prop) (w : World) (g o : Nat) (A : Option Addr) (xs : List Value) : Prop where
  fl : Fl w g o A xs
  q : 0 < xs.length → P g
theorem FlQ.move {P P' : Nat → Prop} {w w' : World} {g o : Nat} {A : Option Addr} {xs : List Value} (h : FlQ P w g o A xs) (hk : Same P w w') (hp : ∀ k, k < w.heap.size → P k → P' k) : FlQ P' w' g o A xs :=
  ⟨⟨h.fl.ad, fun j hj => (cellOf (hk g (h.fl.lt (by omega)) (h.q (by omega)))).trans (h.fl.c j hj)⟩, fun h0 => hp g (h.fl.lt h0) (h.q h0)⟩
theorem FlQ.below {P : Nat → Prop} {w w' : World} {g o : Nat} {A : Option Addr} {xs : List Value} (h : FlQ P w g o A xs) (hb : Below w.heap.size w w') : FlQ P w' g o A xs := h.move (Same.below hb) fun _ _ h => h
theorem Fl.toQ {w : World} {g o : Nat} {A : Option Addr} {xs : List Value} (h : Fl w g o A xs) {P : Nat → Prop} (hp : ∀ k, k < w.heap.size → P k) : FlQ P w g o A xs := ⟨h, fun h0 => hp g (h.lt h0)⟩
/-- Rows that lie. -/
structure RwsQ (P : Nat → Prop) (w : World) (g o : Nat) (A : Option Addr) (ls : List RT) : Prop where
  ad : 0 < ls.length → A = some ⟨g, o, none⟩ ∧ P g
  hd : ∀ j (h : j < ls.length), ∃ (c' g' o' : Nat), w.cell? ⟨g, o + j, none⟩ = some (.slice (some ⟨g', o', none⟩) ls[j].length c') ∧ FlQ P w g' o' (some ⟨g', o', none⟩) (flatV ls[j])
theorem RwsQ.rws {P : Nat → Prop} {w : World} {g o : Nat} {A : Option Addr} {ls : List RT} (h : RwsQ P w g o A ls) : Rws w g o A ls := by
  refine ⟨fun h0 => (h.ad h0).1, fun j hj => ?_⟩
  obtain ⟨c', g', o', h1, h2⟩ := h.hd j hj
  exact ⟨c', g', o', h1, h2.fl⟩
theorem RwsQ.move {P P' : Nat → Prop} {w w' : World} {g o : Nat} {A : Option Addr} {ls : List RT} (h : RwsQ P w g o A ls) (hk : Same P w w') (hp : ∀ k, k < w.heap.size → P k → P' k) : RwsQ P' w' g o A ls := by
  refine ⟨fun h0 => ?_, fun j hj => ?_⟩
  · obtain ⟨c', g', o', h1, h2⟩ := h.hd 0 h0
    exact ⟨(h.ad h0).1, hp g (World.block_lt_of_cell? w _ h1) (h.ad h0).2⟩
  · obtain ⟨c', g', o', h1, h2⟩ := h.hd j hj
    exact ⟨c', g', o', (cellOf (hk g (World.block_lt_of_cell? w _ h1) (h.ad (by omega)).2)).trans h1, h2.move hk hp⟩
theorem RwsQ.below {P : Nat → Prop} {w w' : World} {g o : Nat} {A : Option Addr} {ls : List RT} (h : RwsQ P w g o A ls) (hb : Below w.heap.size w w') : RwsQ P w' g o A ls := h.move (Same.below hb) fun _ _ h => h
theorem RwsQ.alloc {P : Nat → Prop} {w : World} {g o : Nat} {A : Option Addr} {ls : List RT} (h : RwsQ P w g o A ls) (ob : Obj) : RwsQ P (w.alloc ob) g o A ls := h.below ((Below.refl _ _).alloc (Nat.le_refl _) _)
theorem RwsQ.drew {P : Nat → Prop} {w : World} {g o : Nat} {A : Option Addr} {ls : List RT} (h : RwsQ P w g o A ls) : RwsQ P w.drew g o A ls := h.below ((Below.refl _ _).drew)
theorem RwsQ.at {P : Nat → Prop} {w : World} {g o : Nat} {A : Option Addr} {ls : List RT} (h : RwsQ P w g o A ls) (j : Nat) (hj : j < ls.length) : A = some ⟨g, o, none⟩ ∧ g < w.heap.size ∧ ∃ (c' g' o' : Nat), w.cell? ⟨g, o + j, none⟩ = some (.slice (some ⟨g', o', none⟩) ls[j].length c') ∧ FlQ P w g' o' (some ⟨g', o', none⟩) (flatV ls[j]) := by
  obtain ⟨c', g', o', h1, h2⟩ := h.hd j hj
  exact ⟨(h.ad (by omega)).1, World.block_lt_of_cell? w ⟨g, o + j, none⟩ h1, c', g', o', h1, h2⟩
theorem Rws.toQ {w : World} {g o : Nat} {A : Option Addr} {ls : List RT} (h : Rws w g o A ls) {P : Nat → Prop} (hp : ∀ k, k < w.heap.size → P k) : RwsQ P w g o A ls := by
  refine ⟨fun h0 => ?_, fun j hj => ?_⟩
  · obtain ⟨c', g', o', h1, h2⟩ := h.hd 0 h0
    exact ⟨h.ad h0, hp g (World.block_lt_of_cell? w _ h1)⟩
  · obtain ⟨c', g', o', h1, h2⟩ := h.hd j hj
    exact ⟨c', g', o', h1, h2.toQ hp⟩
theorem Bag.toQ {w : World} {B g cap : Nat} {T : List TT} {ls : List RT} (h : Bag w B g cap T ls) {P : Nat → Prop} (hp : ∀ k, B ≤ k → P k) : RwsQ P w g 0 (some ⟨g, 0, none⟩) ls := by
  have hl := h.len
  refine ⟨fun _ => ⟨rfl, hp g h.lo.1⟩, fun j hj => ?_⟩
  have hj2 : j < T.length := by omega
  have hr := h.rows T[j] (List.getElem_mem _)
  have he : ls[j] = T[j].2.2 := by
    have := h.eq
    subst this
    simp
  refine ⟨T[j].2.1, T[j].1, 0, ?_, ?_⟩
  · rw [Nat.zero_add, h.own.cellAt j (by omega), List.getElem?_map, List.getElem?_eq_getElem hj2, he]; rfl
  · rw [he]; exact ⟨hr.fl, fun _ => hp _ hr.lo⟩
abbrev HD := (Nat × Nat × Nat) × RT
def hdH (d : HD) : Value := .slice (some ⟨d.1.1, d.1.2.1, none⟩) d.2.length d.1.2.2
def HdAt (P : Nat → Prop) (w : World) (d : HD) : Prop := FlQ P w d.1.1 d.1.2.1 (some ⟨d.1.1, d.1.2.1, none⟩) (flatV d.2)
structure HdO (P : Nat → Prop) (w : World) (B g cap : Nat) (D : List HD) (ls : List RT) : Prop where
  eq : D.map (fun d => d.2) = ls
  own : w.ownsRow B 83 1 (.slice (some ⟨g, 0, none⟩) ls.length cap) ls.length (D.map hdH)
  at' : ∀ d ∈ D, HdAt (fun k => k ≠ g ∧ P k) w d
theorem HdO.len {P : Nat → Prop} {w : World} {B g cap : Nat} {D : List HD} {ls : List RT} (h : HdO P w B g cap D ls) : D.length = ls.length := by rw [← h.eq, List.length_map]
theorem HdO.lo {P : Nat → Prop} {w : World} {B g cap : Nat} {D : List HD} {ls : List RT} (h : HdO P w B g cap D ls) : B ≤ g ∧ g < w.heap.size := h.own.lt g rfl
theorem HdO.below {P : Nat → Prop} {w w' : World} {B g cap : Nat} {D : List HD} {ls : List RT} (h : HdO P w B g cap D ls) (hb : Below w.heap.size w w') : HdO P w' B g cap D ls :=
  ⟨h.eq, own_keep h.own (hb.block _ h.lo.2), fun d hd => FlQ.below (h.at' d hd) hb⟩
theorem HdO.alloc {P : Nat → Prop} {w : World} {B g cap : Nat} {D : List HD} {ls : List RT} (h : HdO P w B g cap D ls) (ob : Obj) : HdO P (w.alloc ob) B g cap D ls := h.below ((Below.refl _ _).alloc (Nat.le_refl _) _)
theorem HdO.drew {P : Nat → Prop} {w : World} {B g cap : Nat} {D : List HD} {ls : List RT} (h : HdO P w B g cap D ls) : HdO P w.drew B g cap D ls := h.below ((Below.refl _ _).drew)
theorem HdO.empty (P : Nat → Prop) (w : World) {B : Nat} (hB : B ≤ w.heap.size) : HdO P (w.alloc (.cells #[] 83)) B w.heap.size 0 [] [] :=
  ⟨rfl, own_empty3 83 1 rfl hB, fun d hd => absurd hd (by simp)⟩
structure R3Q (P : Nat → Prop) (w : World) (g o : Nat) (A : Option Addr) (ev : List (List RT)) : Prop where
  ad : 0 < ev.length → A = some ⟨g, o, none⟩
  hd : ∀ j (h : j < ev.length), ∃ (A' : Option Addr) (c' g' o' : Nat), w.cell? ⟨g, o + j, none⟩ = some (.slice A' ev[j].length c') ∧ RwsQ P w g' o' A' ev[j] ∧ Nice A' c' g' o' ∧ ev[j].length ≤ c'
theorem R3Q.below {P : Nat → Prop} {w w' : World} {g o : Nat} {A : Option Addr} {ev : List (List RT)} (h : R3Q P w g o A ev) (hb : Below w.heap.size w w') : R3Q P w' g o A ev := by
  refine ⟨h.ad, fun j hj => ?_⟩
  obtain ⟨A', c', g', o', h1, h2, h3⟩ := h.hd j hj
  exact ⟨A', c', g', o', (hb.cell (p := ⟨g, o + j, none⟩) (World.block_lt_of_cell? w ⟨g, o + j, none⟩ h1)).trans h1, h2.below hb, h3⟩
theorem R3Q.at {P : Nat → Prop} {w : World} {g o : Nat} {A : Option Addr} {ev : List (List RT)} (h : R3Q P w g o A ev) (j : Nat) (hj : j < ev.length) : A = some ⟨g, o, none⟩ ∧ g < w.heap.size ∧ ∃ (A' : Option Addr) (c' g' o' : Nat), w.cell? ⟨g, o + j, none⟩ = some (.slice A' ev[j].length c') ∧ RwsQ P w g' o' A' ev[j] ∧ Nice A' c' g' o' ∧ ev[j].length ≤ c' := by
  obtain ⟨A', c', g', o', h1, h2⟩ := h.hd j hj
  exact ⟨h.ad (by omega), World.block_lt_of_cell? w ⟨g, o + j, none⟩ h1, A', c', g', o', h1, h2⟩
abbrev AD := (Option Addr × Nat × Nat × Nat) × List RT
def hdA (d : AD) : Value := .slice d.1.1 d.2.length d.1.2.1
structure AhO (w : World) (B g cap : Nat) (D : List AD) (ev : List (List RT)) : Prop where
  eq : D.map (fun d => d.2) = ev
  own : w.ownsRow B 40 1 (.slice (some ⟨g, 0, none⟩) ev.length cap) ev.length (D.map hdA)
  at' : ∀ d ∈ D, RwsQ (· ≠ g) w d.1.2.2.1 d.1.2.2.2 d.1.1 d.2 ∧ Nice d.1.1 d.1.2.1 d.1.2.2.1 d.1.2.2.2 ∧ d.2.length ≤ d.1.2.1
theorem AhO.len {w : World} {B g cap : Nat} {D : List AD} {ev : List (List RT)} (h : AhO w B g cap D ev) : D.length = ev.length := by rw [← h.eq, List.length_map]
theorem AhO.lo {w : World} {B g cap : Nat} {D : List AD} {ev : List (List RT)} (h : AhO w B g cap D ev) : B ≤ g ∧ g < w.heap.size := h.own.lt g rfl
theorem AhO.below {w w' : World} {B g cap : Nat} {D : List AD} {ev : List (List RT)} (h : AhO w B g cap D ev) (hb : Below w.heap.size w w') : AhO w' B g cap D ev :=
  ⟨h.eq, own_keep h.own (hb.block _ h.lo.2), fun d hd => ⟨(h.at' d hd).1.below hb, (h.at' d hd).2⟩⟩
theorem AhO.alloc {w : World} {B g cap : Nat} {D : List AD} {ev : List (List RT)} (h : AhO w B g cap D ev) (ob : Obj) : AhO (w.alloc ob) B g cap D ev := h.below ((Below.refl _ _).alloc (Nat.le_refl _) _)
theorem AhO.drew {w : World} {B g cap : Nat} {D : List AD} {ev : List (List RT)} (h : AhO w B g cap D ev) : AhO w.drew B g cap D ev := h.below ((Below.refl _ _).drew)
theorem AhO.empty (w : World) {B : Nat} (hB : B ≤ w.heap.size) : AhO (w.alloc (.cells #[] 40)) B w.heap.size 0 [] [] :=
  ⟨rfl, own_empty3 40 1 rfl hB, fun d hd => absurd hd (by simp)⟩
theorem AhO.r3 {w : World} {B g cap : Nat} {D : List AD} {ev : List (List RT)} (h : AhO w B g cap D ev) : R3Q (· ≠ g) w g 0 (some ⟨g, 0, none⟩) ev := by
  have hl := h.len
  refine ⟨fun _ => rfl, fun j hj => ?_⟩
  have hj2 : j < D.length := by omega
  have hr := h.at' D[j] (List.getElem_mem _)
  have he : ev[j] = D[j].2 := by
    have := h.eq
    subst this
    simp
  refine ⟨D[j].1.1, D[j].1.2.1, D[j].1.2.2.1, D[j].1.2.2.2, ?_, ?_⟩
  · rw [Nat.zero_add, h.own.cellAt j (by omega), List.getElem?_map, List.getElem?_eq_getElem hj2, he]; rfl
  · rw [he]; exact hr
theorem AhO.push {w w' : World} {B g cap g' cap' n : Nat} {D : List AD} {ev : List (List RT)} {d : AD} (h : AhO w B g cap D ev) (hd : RwsQ (· ≠ g) w d.1.2.2.1 d.1.2.2.2 d.1.1 d.2 ∧ Nice d.1.1 d.1.2.1 d.1.2.2.1 d.1.2.2.2 ∧ d.2.length ≤ d.1.2.1) (hnl : n = ev.length + 1)
    (hown : w'.ownsRow B 40 1 (.slice (some ⟨g', 0, none⟩) n cap') n (D.map hdA ++ [hdA d])) (hgr : w.grownBy w' (some g)) (hgg : g' = g ∨ w.heap.size ≤ g') : AhO w' B g' cap' (D ++ [d]) (ev ++ [d.2]) := by
  subst hnl
  refine ⟨by rw [List.map_append, h.eq]; rfl, ?_, ?_⟩
  · rw [List.length_append, List.map_append]; exact hown
  · intro u hu
    have hu1 : RwsQ (· ≠ g) w u.1.2.2.1 u.1.2.2.2 u.1.1 u.2 ∧ Nice u.1.1 u.1.2.1 u.1.2.2.1 u.1.2.2.2 ∧ u.2.length ≤ u.1.2.1 := by
      rcases List.mem_append.1 hu with hm | hm
      · exact h.at' u hm
      · obtain rfl := List.mem_singleton.1 hm; exact hd
    refine ⟨hu1.1.move (Same.grown hgr) fun k hk hp => ?_, hu1.2⟩
    rcases hgg with e | e
    · rw [e]; exact hp
    · omega
structure TbQ (P : Nat → Prop) (w : World) (g o : Nat) (A : Option Addr) (ts : List TB) : Prop where
  ad : 0 < ts.length → A = some ⟨g, o, none⟩
  hd : ∀ j (h : j < ts.length), ∃ (A1 : Option Addr) (c1 g1 o1 : Nat) (A2 : Option Addr) (c2 g2 o2 : Nat),
    w.cell? ⟨g, o + j * 2, none⟩ = some (.slice A1 ts[j].1.length c1) ∧ w.cell? ⟨g, o + j * 2 + 1, none⟩ = some (.slice A2 ts[j].2.length c2) ∧ FlQ P w g1 o1 A1 (flatC ts[j].1) ∧ RwsQ P w g2 o2 A2 ts[j].2 ∧ ts[j].1.length ≤ c1 ∧ ts[j].2.length ≤ c2 ∧ Nice A1 c1 g1 o1 ∧ Nice A2 c2 g2 o2
theorem Tbs.toQ {w w' : World} {g o X : Nat} {A : Option Addr} {ts : List TB} (h : Tbs w g o A ts) (hb : Below w.heap.size w w') (hX : w.heap.size ≤ X) : TbQ (· ≠ X) w' g o A ts := by
  refine ⟨h.ad, fun j hj => ?_⟩
  obtain ⟨-, hg, A1, c1, g1, o1, A2, c2, g2, o2, h1, h2, h3, h4, h5⟩ := h.at j hj
  have hc := fun q => hb.cell (p := ⟨g, q, none⟩) hg
  exact ⟨A1, c1, g1, o1, A2, c2, g2, o2, (hc _).trans h1, (hc _).trans h2, (h3.toQ (P := (· ≠ X)) (fun k hk => by omega)).below hb, (h4.toQ (P := (· ≠ X)) (fun k hk => by omega)).below hb, h5⟩
theorem TbQ.at {P : Nat → Prop} {w : World} {g o : Nat} {A : Option Addr} {ts : List TB} (h : TbQ P w g o A ts) (j : Nat) (hj : j < ts.length) : A = some ⟨g, o, none⟩ ∧ g < w.heap.size ∧ ∃ (A1 : Option Addr) (c1 g1 o1 : Nat) (A2 : Option Addr) (c2 g2 o2 : Nat),
    w.cell? ⟨g, o + j * 2, none⟩ = some (.slice A1 ts[j].1.length c1) ∧ w.cell? ⟨g, o + j * 2 + 1, none⟩ = some (.slice A2 ts[j].2.length c2) ∧ FlQ P w g1 o1 A1 (flatC ts[j].1) ∧ RwsQ P w g2 o2 A2 ts[j].2 ∧ ts[j].1.length ≤ c1 ∧ ts[j].2.length ≤ c2 ∧ Nice A1 c1 g1 o1 ∧ Nice A2 c2 g2 o2 := by
  obtain ⟨A1, c1, g1, o1, A2, c2, g2, o2, h1, h2⟩ := h.hd j hj
  exact ⟨h.ad (by omega), World.block_lt_of_cell? w ⟨g, o + j * 2, none⟩ h1, A1, c1, g1, o1, A2, c2, g2, o2, h1, h2⟩
abbrev MT := List CT × Nat
abbrev MD := (Option Addr × Nat × Nat × Nat) × MT
def flatM (D : List MD) : List Value := D.flatMap fun d => [.slice d.1.1 d.2.1.length d.1.2.1, .int .i64 (d.2.2 : Int)]
theorem flatM_app (a b : List MD) : flatM (a ++ b) = flatM a ++ flatM b := List.flatMap_append
theorem flatM_get (D : List MD) (i : Nat) (h : i < D.length) : (flatM D)[i * 2]? = some (.slice D[i].1.1 D[i].2.1.length D[i].1.2.1) ∧ (flatM D)[i * 2 + 1]? = some (.int .i64 (D[i].2.2 : Int)) := by
  induction D generalizing i with
  | nil => simp at h
  | cons v vs ih =>
    cases i with
    | zero => simp [flatM]
    | succ i =>
      have := ih i (by simpa using h)
      show ([_, _] ++ flatM vs)[(i + 1) * 2]? = _ ∧ ([_, _] ++ flatM vs)[(i + 1) * 2 + 1]? = _
      rw [show (i + 1) * 2 = i * 2 + 2 by omega]
      simpa using this
def MdAt (P : Nat → Prop) (w : World) (d : MD) : Prop := FlQ P w d.1.2.2.1 d.1.2.2.2 d.1.1 (flatC d.2.1) ∧ Nice d.1.1 d.1.2.1 d.1.2.2.1 d.1.2.2.2 ∧ d.2.1.length ≤ d.1.2.1
structure MdQ (P : Nat → Prop) (w : World) (g o : Nat) (A : Option Addr) (L : List MT) : Prop where
  ad : 0 < L.length → A = some ⟨g, o, none⟩
  hd : ∀ j (h : j < L.length), ∃ (A' : Option Addr) (c' g' o' : Nat), w.cell? ⟨g, o + j * 2, none⟩ = some (.slice A' L[j].1.length c') ∧ w.cell? ⟨g, o + j * 2 + 1, none⟩ = some (.int .i64 (L[j].2 : Int)) ∧ MdAt P w ((A', c', g', o'), L[j])
theorem MdQ.below {P : Nat → Prop} {w w' : World} {g o : Nat} {A : Option Addr} {L : List MT} (h : MdQ P w g o A L) (hb : Below w.heap.size w w') : MdQ P w' g o A L := by
  refine ⟨h.ad, fun j hj => ?_⟩
  obtain ⟨A', c', g', o', h1, h2, h3, h4⟩ := h.hd j hj
  have hg := World.block_lt_of_cell? w ⟨g, o + j * 2, none⟩ h1
  have hc := fun q => hb.cell (p := ⟨g, q, none⟩) hg
  exact ⟨A', c', g', o', (hc _).trans h1, (hc _).trans h2, h3.below hb, h4⟩
theorem MdQ.at {P : Nat → Prop} {w : World} {g o : Nat} {A : Option Addr} {L : List MT} (h : MdQ P w g o A L) (j : Nat) (hj : j < L.length) : A = some ⟨g, o, none⟩ ∧ g < w.heap.size ∧ ∃ (A' : Option Addr) (c' g' o' : Nat), w.cell? ⟨g, o + j * 2, none⟩ = some (.slice A' L[j].1.length c') ∧ w.cell? ⟨g, o + j * 2 + 1, none⟩ = some (.int .i64 (L[j].2 : Int)) ∧ FlQ P w g' o' A' (flatC L[j].1) ∧ Nice A' c' g' o' ∧ L[j].1.length ≤ c' := by
  obtain ⟨A', c', g', o', h1, h2, h3, h4, h5⟩ := h.hd j hj
  exact ⟨h.ad (by omega), World.block_lt_of_cell? w _ h1, A', c', g', o', h1, h2, h3, h4, h5⟩
structure MdO (w : World) (B g cap : Nat) (D : List MD) (L : List MT) : Prop where
  eq : D.map (fun d => d.2) = L
  own : w.ownsRow B 80 2 (.slice (some ⟨g, 0, none⟩) L.length cap) L.length (flatM D)
  at' : ∀ d ∈ D, MdAt (· ≠ g) w d
theorem MdO.len {w : World} {B g cap : Nat} {D : List MD} {L : List MT} (h : MdO w B g cap D L) : D.length = L.length := by rw [← h.eq, List.length_map]
theorem MdO.lo {w : World} {B g cap : Nat} {D : List MD} {L : List MT} (h : MdO w B g cap D L) : B ≤ g ∧ g < w.heap.size := h.own.lt g rfl
theorem MdO.below {w w' : World} {B g cap : Nat} {D : List MD} {L : List MT} (h : MdO w B g cap D L) (hb : Below w.heap.size w w') : MdO w' B g cap D L :=
  ⟨h.eq, own_keep h.own (hb.block _ h.lo.2), fun d hd => ⟨(h.at' d hd).1.below hb, (h.at' d hd).2⟩⟩
theorem MdO.alloc {w : World} {B g cap : Nat} {D : List MD} {L : List MT} (h : MdO w B g cap D L) (ob : Obj) : MdO (w.alloc ob) B g cap D L := h.below ((Below.refl _ _).alloc (Nat.le_refl _) _)
theorem MdO.drew {w : World} {B g cap : Nat} {D : List MD} {L : List MT} (h : MdO w B g cap D L) : MdO w.drew B g cap D L := h.below ((Below.refl _ _).drew)
theorem MdO.empty (w : World) {B : Nat} (hB : B ≤ w.heap.size) : MdO (w.alloc (.cells #[] 80)) B w.heap.size 0 [] [] :=
  ⟨rfl, own_empty3 80 2 rfl hB, fun d hd => absurd hd (by simp)⟩
theorem MdO.md {w : World} {B g cap : Nat} {D : List MD} {L : List MT} (h : MdO w B g cap D L) : MdQ (· ≠ g) w g 0 (some ⟨g, 0, none⟩) L := by
  have hl := h.len
  refine ⟨fun _ => rfl, fun j hj => ?_⟩
  have hj2 : j < D.length := by omega
  have hr := h.at' D[j] (List.getElem_mem _)
  have he : L[j] = D[j].2 := by
    have := h.eq
    subst this
    simp
  obtain ⟨g0, g1⟩ := flatM_get D j hj2
  refine ⟨D[j].1.1, D[j].1.2.1, D[j].1.2.2.1, D[j].1.2.2.2, ?_, ?_, ?_⟩
  · rw [Nat.zero_add, h.own.cellAt _ (by omega), g0, he]
  · rw [Nat.zero_add, h.own.cellAt _ (by omega), g1, he]
  · rw [he]; exact hr
theorem MdO.push {w w' : World} {B g cap g' cap' n : Nat} {D : List MD} {L : List MT} {d : MD} (h : MdO w B g cap D L) (hd : MdAt (· ≠ g) w d) (hnl : n = L.length + 1)
    (hown : w'.ownsRow B 80 2 (.slice (some ⟨g', 0, none⟩) n cap') n (flatM D ++ [.slice d.1.1 d.2.1.length d.1.2.1, .int .i64 (d.2.2 : Int)])) (hgr : w.grownBy w' (some g)) (hgg : g' = g ∨ w.heap.size ≤ g') : MdO w' B g' cap' (D ++ [d]) (L ++ [d.2]) := by
  subst hnl
  refine ⟨by rw [List.map_append, h.eq]; rfl, ?_, ?_⟩
  · rw [List.length_append, flatM_app]; exact hown
  · intro u hu
    have hu1 : MdAt (· ≠ g) w u := by
      rcases List.mem_append.1 hu with hm | hm
      · exact h.at' u hm
      · obtain rfl := List.mem_singleton.1 hm; exact hd
    refine ⟨hu1.1.move (Same.grown hgr) fun k hk hp => ?_, hu1.2⟩
    rcases hgg with e | e
    · rw [e]; exact hp
    · omega
end Go.Proofs.Ytacinjbaebimhaa.Val
namespace Go.Proofs.Ytacinjbaebimhaa.Val
open Go.RowKit
set_option linter.unusedVariables false
set_option maxRecDepth 8000
theorem grown_below {W0 w3 : World} {ob : Obj} {g : Nat} (hgr : (W0.alloc ob).grownBy w3 (some g)) (hg : W0.heap.size ≤ g) : Below W0.heap.size W0 w3 :=
  Below.grown ((Below.refl _ _).alloc (Nat.le_refl _) _) hgr (by simp) (fun k hk => by obtain rfl := Option.some.inj hk; exact hg)
theorem got2 {P Q R : Prop} (hp : P) (hq : Q) (h : P → Q → R) : R := h hp hq
theorem own_setOff {w : World} {B g n cap size b o : Nat} {e : TypeId} {xs : List Value} {u : Value} (h : w.ownsRow B e size (.slice (some ⟨g, 0, none⟩) n cap) n xs) (hb : g ≠ b) : (w.setCell ⟨b, o, none⟩ u).ownsRow B e size (.slice (some ⟨g, 0, none⟩) n cap) n xs := own_keep h (Below.heap_setCell _ _ _ _ hb)
theorem own_drewQ {w : World} {B k : Nat} {e : TypeId} {size n : Nat} {v : Value} {xs : List Value} (h : w.ownsRow B e size v n xs) : (w.drewN k).ownsRow B e size v n xs := h
theorem grownBy_refl (w : World) (g : Option Nat) : w.grownBy w g := ⟨rfl, rfl, rfl, Nat.le_refl _, fun _ _ _ => rfl⟩
theorem wpList_append_nice {P : Program} (w : World) {ops : Array Oper} {rest : List Oper} {o : Oper} {a : Act} {Q : Exit → Act → World → Prop} (hgd : o.guard = none) (s x : Operand) (t : TypeId)
    (ho : o.op = .call { callee := .builtin .append, args := #[s, x], argTypes := #[t, t] })
    (base : Nat) (e : TypeId) (i : TypeInfo) (z : Value) (size bytes : Nat) (ht : P.underlying t = some (.slice e)) (hi : P.info? e = some i) (hz : i.zero = some z)
    (hsize : i.size = size) (hby : i.bytes = bytes) (hzs : z.cells.size = size) (hsz : 0 < size)
    (g n cap : Nat) (xs : List Value) (hs : a.eval s = .slice (some ⟨g, 0, none⟩) n cap) (hown : w.ownsRow base e size (.slice (some ⟨g, 0, none⟩) n cap) n xs)
    (A : Option Addr) (m c gq oq : Nat) (hni : Nice A c gq oq) (hmc : m ≤ c) (news : List Value) (hx : a.eval x = .slice A m c) (hl : news.length = m * size) (hfl : Fl w gq oq A news) (h1 : ∀ u ∈ news, u.oneCell' = true)
    (h63 : n + m ≤ maxLen) (hbytes : (n + m) * bytes ≤ 140737488355328) (hbase : base ≤ w.heap.size)
    (h : ∀ g' cap' w', w'.ownsRow base e size (.slice (some ⟨g', 0, none⟩) (n + m) cap') (n + m) (xs ++ news) → w.grownBy w' (some g) → (g' = g ∨ w.heap.size ≤ g') → wpList P ops Q rest (a.put o.dst (.slice (some ⟨g', 0, none⟩) (n + m) cap')) w') : wpList P ops Q (o :: rest) a w := by
  rcases hni with rfl | ⟨rfl, rfl⟩
  · exact wpList_append_block w hgd s x t ho base e i z size bytes ht hi hz hsize hby hzs hsz g n cap xs hs hown _ m c news hx hl (news_flo hfl) h1 h63 hbytes hbase h
  · obtain rfl : m = 0 := by omega
    have hn : news = [] := List.eq_nil_of_length_eq_zero (by rw [hl, Nat.zero_mul])
    subst hn
    exact wpList_append_own_none hgd s x t ho base e i size ht hi _ n xs hs hown hx (h g cap w (by simpa using hown) (grownBy_refl _ _) (.inl rfl))
theorem step_nice {P : Program} {w : World} {ops : Array Oper} {o : Oper} {a : Act} {K : Act → World → Prop} {Q : Exit → Act → World → Prop} {E : Prop} (hgd : o.guard = none) (s x : Operand) (t : TypeId)
    (ho : o.op = .call { callee := .builtin .append, args := #[s, x], argTypes := #[t, t] })
    (base : Nat) (e : TypeId) (i : TypeInfo) (z : Value) (size bytes : Nat) (ht : P.underlying t = some (.slice e)) (hi : P.info? e = some i) (hz : i.zero = some z)
    (hsize : i.size = size) (hby : i.bytes = bytes) (hzs : z.cells.size = size) (hsz : 0 < size)
    (g n cap : Nat) (xs : List Value) (hs : a.eval s = .slice (some ⟨g, 0, none⟩) n cap) (hown : w.ownsRow base e size (.slice (some ⟨g, 0, none⟩) n cap) n xs)
    (A : Option Addr) (m c gq oq : Nat) (hni : Nice A c gq oq) (hmc : m ≤ c) (news : List Value) (hx : a.eval x = .slice A m c) (hl : news.length = m * size) (hfl : Fl w gq oq A news) (h1 : ∀ u ∈ news, u.oneCell' = true)
    (h63 : n + m ≤ maxLen) (hbytes : (n + m) * bytes ≤ 140737488355328) (hbase : base ≤ w.heap.size)
    (h : ∀ g' cap' w', w'.ownsRow base e size (.slice (some ⟨g', 0, none⟩) (n + m) cap') (n + m) (xs ++ news) → w.grownBy w' (some g) → (g' = g ∨ w.heap.size ≤ g') → K (a.put o.dst (.slice (some ⟨g', 0, none⟩) (n + m) cap')) w') :
    if Region.wanted o (yielded ops a.tmps) = true then Oper.wp P o a w K Q else E := by
  rcases hni with rfl | ⟨rfl, rfl⟩
  · exact step_blk hgd s x t ho base e i z size bytes ht hi hz hsize hby hzs hsz g n cap xs hs hown _ m c news hx hl (news_flo hfl) h1 h63 hbytes hbase h
  · obtain rfl : m = 0 := by omega
    have hn : news = [] := List.eq_nil_of_length_eq_zero (by rw [hl, Nat.zero_mul])
    subst hn
    have hw : Region.wanted o (yielded ops a.tmps) = true := by simp [Region.wanted, hgd]
    rw [if_pos hw]
    have hrun := run_append_owned_none (P := P) (w := w) base t o.type e i size ht hi _ n xs hown
    unfold Oper.wp
    simp [execOp, ho, resolve, invoke, builtin, hs, hx, hrun, Result.andThen]
    exact h g cap w (by simpa using hown) (grownBy_refl _ _) (.inl rfl)
end Go.Proofs.Ytacinjbaebimhaa.Val
namespace Go.Proofs.Ytacinjbaebimhaa.Val
open Go.RowKit
set_option linter.unusedVariables false
set_option linter.unusedSimpArgs false
set_option maxRecDepth 8000
theorem stepAsks (k : Int) (w : World) : Calls Try.prog 93 #[.int .i64 k] w fun e w' => e = .returned (.int .i64 (asksI k)) ∧ w = w' := by
  go_enter Try.func93, Try.ntmps93
  go_wp2
  all_goals (go_ret; refine ⟨retI ?_, rfl⟩)
  all_goals (simp_all [asksI])
theorem fieldOk (b : Bool) (n : Int) (m : Nat) (w : World) : Calls Try.prog 139 #[.bool b, .int .i64 n, .int .i64 (m : Int)] w fun e w' => e = .returned (.bool (fieldI b n m)) ∧ w = w' := by
  cases b
  · go_enter Try.func139, Try.ntmps139
    go_wp2
    all_goals (go_ret; refine ⟨retB ?_, rfl⟩)
    all_goals (simp_all [fieldI] <;> (rw [Bool.eq_iff_iff]; simp))
  · go_enter Try.func139, Try.ntmps139
    go_wp2
    all_goals (go_ret; refine ⟨retB ?_, rfl⟩)
    all_goals (simp_all [fieldI, inB] <;> (intros; omega))
end Go.Proofs.Ytacinjbaebimhaa.Val
namespace Go.Proofs.Ytacinjbaebimhaa.Val
open Go.RowKit
set_option linter.unusedVariables false
set_option linter.unusedSimpArgs false
set_option maxRecDepth 8000
set_option maxHeartbeats 4000000 in
theorem testedMade (A' E : Option Addr) (c' g' o' ge oe ce : Nat) (cs : List CT) (m : Int) (ps : List PT) (w : World) (hA : Fl w g' o' A' (flatC cs)) (hE : Fl w ge oe E (flatP ps)) (hl : cs.length ≤ 2000000) (hp : ps.length ≤ 2000000) (hs : ShortP ps) :
    Calls Try.prog 115 #[.agg #[.slice A' cs.length c', .int .i64 m], .slice E ps.length ce] w fun e w' => e = .returned (.tuple #[.agg #[.slice A' cs.length c', .int .i64 m], .bool (decide (kindI cs ps = 3))]) ∧ Below w.heap.size w w' := by
  have CK := Lib.hid (fun W (hb : Below w.heap.size w W) => exprKindI A' E g' o' c' ge oe ce cs ps W (hA.below hb) (hE.below hb) hl hp hs)
  obtain ⟨n, hn⟩ : ∃ n, cs.length = n := ⟨_, rfl⟩
  obtain ⟨q, hq⟩ : ∃ q, kindI cs ps = q := ⟨_, rfl⟩
  rw [hn, hq] at CK
  rw [hn, hq]
  clear hA hE hn hq
  go_enter Try.func115, Try.ntmps115
  go_wp2_with (fail)
  go_region_with (go_at_call 140; ((with_reducible refine (CK.out _ (by (repeat (with_reducible first | exact Below.refl _ _ | exact HBD.out | (refine Below.trans ?_ (Below.mono hb1 (by first | omega | (simp; done) | (simp; omega))); clear hb1) | (refine Below.trans ?_ (Below.mono hb2 (by first | omega | (simp; done) | (simp; omega))); clear hb2) | (refine Below.trans ?_ (Below.mono hb3 (by first | omega | (simp; done) | (simp; omega))); clear hb3) | (refine Below.trans ?_ (Below.mono hb4 (by first | omega | (simp; done) | (simp; omega))); clear hb4) | (refine Below.trans ?_ (Below.mono hb5 (by first | omega | (simp; done) | (simp; omega))); clear hb5) | (refine Below.trans ?_ (Below.mono hb6 (by first | omega | (simp; done) | (simp; omega))); clear hb6) | (refine Below.trans ?_ (Below.mono hb7 (by first | omega | (simp; done) | (simp; omega))); clear hb7) | (refine Below.trans ?_ (Below.mono hb8 (by first | omega | (simp; done) | (simp; omega))); clear hb8) | (refine Below.trans ?_ (Below.mono hb9 (by first | omega | (simp; done) | (simp; omega))); clear hb9) | (refine Below.trans ?_ (Below.mono hb10 (by first | omega | (simp; done) | (simp; omega))); clear hb10) | refine Below.alloc ?_ (by first | omega | (simp; done) | (simp; omega)) _ | refine Below.setCell ?_ (by first | omega | (simp; done) | (simp; omega)) _ | refine Below.drew ?_)))).mono ?_); (try (have hc10 := hc9; have hf10 := hf9; have hz10 := hz9; have hb10 := hb9; have hya_10 := hya_9; have hyb_10 := hyb_9; clear hc9 hf9 hz9 hb9 hya_9 hyb_9)); (try (have hc9 := hc8; have hf9 := hf8; have hz9 := hz8; have hb9 := hb8; have hya_9 := hya_8; have hyb_9 := hyb_8; clear hc8 hf8 hz8 hb8 hya_8 hyb_8)); (try (have hc8 := hc7; have hf8 := hf7; have hz8 := hz7; have hb8 := hb7; have hya_8 := hya_7; have hyb_8 := hyb_7; clear hc7 hf7 hz7 hb7 hya_7 hyb_7)); (try (have hc7 := hc6; have hf7 := hf6; have hz7 := hz6; have hb7 := hb6; have hya_7 := hya_6; have hyb_7 := hyb_6; clear hc6 hf6 hz6 hb6 hya_6 hyb_6)); (try (have hc6 := hc5; have hf6 := hf5; have hz6 := hz5; have hb6 := hb5; have hya_6 := hya_5; have hyb_6 := hyb_5; clear hc5 hf5 hz5 hb5 hya_5 hyb_5)); (try (have hc5 := hc4; have hf5 := hf4; have hz5 := hz4; have hb5 := hb4; have hya_5 := hya_4; have hyb_5 := hyb_4; clear hc4 hf4 hz4 hb4 hya_4 hyb_4)); (try (have hc4 := hc3; have hf4 := hf3; have hz4 := hz3; have hb4 := hb3; have hya_4 := hya_3; have hyb_4 := hyb_3; clear hc3 hf3 hz3 hb3 hya_3 hyb_3)); (try (have hc3 := hc2; have hf3 := hf2; have hz3 := hz2; have hb3 := hb2; have hya_3 := hya_2; have hyb_3 := hyb_2; clear hc2 hf2 hz2 hb2 hya_2 hyb_2)); (try (have hc2 := hc1; have hf2 := hf1; have hz2 := hz1; have hb2 := hb1; have hya_2 := hya_1; have hyb_2 := hyb_1; clear hc1 hf1 hz1 hb1 hya_1 hyb_1)); rintro e w1 ⟨rfl, hb1⟩; obtain ⟨hc1, hf1⟩ := bcell hb1; (try simp only [World.size_drew, World.cell?_drew, World.frozen?_drew] at hc1 hf1); have hz1 := hb1.size; (try simp at hz1); have hya_1 : w.heap.size < w1.heap.size := (by omega); have hyb_1 : w.heap.size + 1 < w1.heap.size := (by omega)))
  all_goals (try go_wp2_with (fail))
  all_goals (first
    | (refine got2 (P := w1.cell? ⟨w.heap.size + 1, 0, none⟩ = some (.slice A' n c')) (Q := w1.cell? ⟨w.heap.size + 1, 1, none⟩ = some (.int .i64 m)) ?_ ?_ ?_; (· (simp [go_sem, *]; done)); (· (simp [go_sem, *]; done)); intro z0 z1)
    | (refine got2 (P := w1.cell? ⟨w.heap.size + 1, 0, none⟩ = some (.slice none 0 0)) (Q := w1.cell? ⟨w.heap.size + 1, 1, none⟩ = some (.int .i64 0)) ?_ ?_ ?_; (· (simp [go_sem, *]; done)); (· (simp [go_sem, *]; done)); intro z0 z1))
  all_goals (refine bodyPost_ret (v := .tuple #[.agg #[.slice A' n c', .int .i64 m], .bool (q == 3)]) (by simp [results, Try.results115, go_sem, *]) rfl ⟨rfl, ?_⟩)
  all_goals ((repeat (with_reducible first | exact Below.refl _ _ | exact HBD.out | (refine Below.trans ?_ (Below.mono hb1 (by first | omega | (simp; done) | (simp; omega))); clear hb1) | (refine Below.trans ?_ (Below.mono hb2 (by first | omega | (simp; done) | (simp; omega))); clear hb2) | (refine Below.trans ?_ (Below.mono hb3 (by first | omega | (simp; done) | (simp; omega))); clear hb3) | (refine Below.trans ?_ (Below.mono hb4 (by first | omega | (simp; done) | (simp; omega))); clear hb4) | (refine Below.trans ?_ (Below.mono hb5 (by first | omega | (simp; done) | (simp; omega))); clear hb5) | (refine Below.trans ?_ (Below.mono hb6 (by first | omega | (simp; done) | (simp; omega))); clear hb6) | (refine Below.trans ?_ (Below.mono hb7 (by first | omega | (simp; done) | (simp; omega))); clear hb7) | (refine Below.trans ?_ (Below.mono hb8 (by first | omega | (simp; done) | (simp; omega))); clear hb8) | (refine Below.trans ?_ (Below.mono hb9 (by first | omega | (simp; done) | (simp; omega))); clear hb9) | (refine Below.trans ?_ (Below.mono hb10 (by first | omega | (simp; done) | (simp; omega))); clear hb10) | refine Below.alloc ?_ (by first | omega | (simp; done) | (simp; omega)) _ | refine Below.setCell ?_ (by first | omega | (simp; done) | (simp; omega)) _ | refine Below.drew ?_)))
end Go.Proofs.Ytacinjbaebimhaa.Val
namespace Go.Proofs.Ytacinjbaebimhaa.Val
open Go.RowKit
set_option linter.unusedVariables false
set_option linter.unusedSimpArgs false
set_option maxRecDepth 8000
set_option maxHeartbeats 8000000 in
theorem fieldsOk (k a b n : Int) (A1 A2 : Option Addr) (el c1 ll c2 nt na : Nat) (w : World) :
    Calls Try.prog 114 #[.agg #[.int .i64 k, .int .i64 a, .int .i64 b, .int .i64 n, .slice A1 el c1, .slice A2 ll c2], .int .i64 (nt : Int), .int .i64 (na : Int)] w fun e w' => e = .returned (.bool (fieldsI k a b n el ll nt na)) ∧ Below w.heap.size w w' := by
  obtain ⟨q, hq⟩ : ∃ q, asksI k = q := ⟨_, rfl⟩
  have CS := Lib.hid (fun W => stepAsks k W)
  rw [hq] at CS
  have CF := Lib.hid (fun (x : Bool) (y : Int) (m : Nat) W => fieldOk x y m W)
  have HF : Hid (fieldsI k a b n el ll nt na = (fieldI (decide (0 < q)) a na && fieldI (decide (1 < q)) b na && fieldI (decide (k = 1)) n nt && (decide (k = 2) || decide (k = 4) || decide (el = 0)) && (decide (k = 3) || decide (ll = 0)))) := by show _ = _; rw [fieldsI, hq]
  clear hq
  go_enter Try.func114, Try.ntmps114
  go_wp2_with (first | (go_at_call 93; ((with_reducible refine (CS.out _).mono ?_); rintro e w1 ⟨rfl, rfl⟩)) | (go_at_call 139; ((with_reducible refine (CF.out _ _ _ _).mono ?_); rintro e w1 ⟨rfl, rfl⟩)))
  all_goals (go_ret; refine ⟨retB ?_, ?_⟩)
  all_goals (try (show Below _ _ _; (repeat (with_reducible first | exact Below.refl _ _ | exact HBD.out | (refine Below.trans ?_ (Below.mono hb1 (by first | omega | (simp; done) | (simp; omega))); clear hb1) | (refine Below.trans ?_ (Below.mono hb2 (by first | omega | (simp; done) | (simp; omega))); clear hb2) | (refine Below.trans ?_ (Below.mono hb3 (by first | omega | (simp; done) | (simp; omega))); clear hb3) | (refine Below.trans ?_ (Below.mono hb4 (by first | omega | (simp; done) | (simp; omega))); clear hb4) | (refine Below.trans ?_ (Below.mono hb5 (by first | omega | (simp; done) | (simp; omega))); clear hb5) | (refine Below.trans ?_ (Below.mono hb6 (by first | omega | (simp; done) | (simp; omega))); clear hb6) | (refine Below.trans ?_ (Below.mono hb7 (by first | omega | (simp; done) | (simp; omega))); clear hb7) | (refine Below.trans ?_ (Below.mono hb8 (by first | omega | (simp; done) | (simp; omega))); clear hb8) | (refine Below.trans ?_ (Below.mono hb9 (by first | omega | (simp; done) | (simp; omega))); clear hb9) | (refine Below.trans ?_ (Below.mono hb10 (by first | omega | (simp; done) | (simp; omega))); clear hb10) | refine Below.alloc ?_ (by first | omega | (simp; done) | (simp; omega)) _ | refine Below.setCell ?_ (by first | omega | (simp; done) | (simp; omega)) _ | refine Below.drew ?_))))
  all_goals (rw [HF.out]; clear HF CS CF)
  all_goals (have hbd : ∀ (x y : Int), (x == y) = decide (x = y) := fun _ _ => rfl)
  all_goals (simp only [hbd] at *)
  all_goals (clear hbd)
  all_goals (first | (simp_all; done) | (simp_all; rw [Bool.eq_iff_iff]; simp; omega))
end Go.Proofs.Ytacinjbaebimhaa.Val
namespace Go.Proofs.Ytacinjbaebimhaa.Val
open Go.RowKit
set_option linter.unusedVariables false
set_option linter.unusedSimpArgs false
set_option maxRecDepth 8000
set_option maxHeartbeats 4000000 in
theorem joinedMade (A1 A2 : Option Addr) (c1 g1 o1 c2 g2 o2 : Nat) (cs1 cs2 : List CT) (m1 m2 : Nat) (w : World) (h1 : Fl w g1 o1 A1 (flatC cs1)) (h2 : Fl w g2 o2 A2 (flatC cs2)) (n1 : Nice A1 c1 g1 o1) (n2 : Nice A2 c2 g2 o2) (l1 : cs1.length ≤ c1) (l2 : cs2.length ≤ c2) (k1 : cs1.length ≤ 2000000) (k2 : cs2.length ≤ 2000000) (hm1 : m1 ≤ 300) (hm2 : m2 ≤ 300) :
    Calls Try.prog 117 #[.agg #[.slice A1 cs1.length c1, .int .i64 (m1 : Int)], .agg #[.slice A2 cs2.length c2, .int .i64 (m2 : Int)]] w fun e w' => ∃ (g c : Nat), (e = .returned (.agg #[.slice (some ⟨g, 0, none⟩) (cs1 ++ cs2).length c, .int .i64 ((m1 * m2 : Nat) : Int)]) ∧ FlO w' w.heap.size g c (cs1 ++ cs2).length (flatC (cs1 ++ cs2))) ∧ Below w.heap.size w w' := by
  obtain ⟨i0, hi, iz0, iz1, iz2⟩ := info_parts infoC
  have HF1 := Lib.hid h1
  have HF2 := Lib.hid h2
  have HN1 := Lib.hid n1
  have HN2 := Lib.hid n2
  have hf1 := Lib.hid (flatC_len cs1)
  have hf2 := Lib.hid (flatC_len cs2)
  have ONE1 := Lib.hid (one_flatC cs1)
  have ONE2 := Lib.hid (one_flatC cs2)
  have HAPP := Lib.hid (flatC_app cs1 cs2)
  have HLA := Lib.hid (show (cs1 ++ cs2).length = cs1.length + cs2.length from List.length_append)
  obtain ⟨x1, hx1⟩ : ∃ n, cs1.length = n := ⟨_, rfl⟩
  obtain ⟨x2, hx2⟩ : ∃ n, cs2.length = n := ⟨_, rfl⟩
  obtain ⟨X1, hX1⟩ : ∃ X, flatC cs1 = X := ⟨_, rfl⟩
  obtain ⟨X2, hX2⟩ : ∃ X, flatC cs2 = X := ⟨_, rfl⟩
  obtain ⟨XA, hXA⟩ : ∃ X, flatC (cs1 ++ cs2) = X := ⟨_, rfl⟩
  obtain ⟨xa, hxa⟩ : ∃ X, (cs1 ++ cs2).length = X := ⟨_, rfl⟩
  rw [hx1] at l1 k1 hf1 HLA
  rw [hx2] at l2 k2 hf2 HLA
  rw [hX1] at HF1 hf1 ONE1 HAPP
  rw [hX2] at HF2 hf2 ONE2 HAPP
  rw [hXA] at HAPP
  rw [hxa] at HLA
  rw [hXA, hxa, hx1, hx2]
  clear h1 h2 n1 n2 hx1 hx2 hX1 hX2 hXA hxa
  have hxy : m1 * m2 ≤ 300 * 300 := Nat.mul_le_mul hm1 hm2
  obtain ⟨z, hz⟩ : ∃ z : Int, (m1 : Int) * (m2 : Int) = z := ⟨_, rfl⟩
  have hz2 : ((m1 * m2 : Nat) : Int) = z := by rw [← hz]; simp
  have hz3 : 0 ≤ z ∧ z ≤ 90000 := by omega
  rw [hz2]
  obtain ⟨hz4, hz5⟩ := hz3
  have hwz : IntKind.i64.wrap z = z := IntWalk.i64_in _ (by omega)
  clear hxy hz2
  have OWN := Lib.hid (fun (W : World) (hW : W.heap.size = w.heap.size + 3) => own_empty3 (w := W) (B := w.heap.size + 3) 37 2 hW (Nat.le_refl _))
  go_enter Try.func117, Try.ntmps117
  go_wp2_with (at_builtin; go_loud (refine wpList_append_nice _ rfl (.tmp 6) (.tmp 8) 34 rfl (w.heap.size + 3) 37 i0 (.agg #[.int .i64 0, .bool false]) 2 16 Try.underlying34 hi iz0 iz1 iz2 rfl (by decide) (w.heap.size + 3) 0 0 [] rfl (OWN.out _ (by simp)) A1 x1 c1 g1 o1 HN1.out l1 X1 rfl hf1.out (by repeat (with_reducible first | exact HF1.out | apply Fl.alloc | apply Fl.drew)) ONE1.out (by unfold maxLen; omega) (by omega) (by simp) ?_); intro g3 c3 w3 hown hgr hgg; (try simp only [Nat.zero_add, List.nil_append] at hown); have HO := Lib.hid hown; have hbb := grown_below hgr (by simp); obtain ⟨hc1, hf9⟩ := bcell hbb; have HB3 := Lib.hid ((show Below w.heap.size w _ from by repeat (with_reducible first | exact Below.refl _ _ | refine Below.alloc ?_ (by first | omega | (simp; done) | (simp; omega)) _)).trans (hbb.mono (by simp; omega))); have hlo := (hown.lt g3 rfl); clear hown hgr hgg hbb)
  go_region_law (refine step_nice rfl (.tmp 10) (.tmp 12) 34 rfl (w.heap.size + 3) 37 i0 (.agg #[.int .i64 0, .bool false]) 2 16 Try.underlying34 hi iz0 iz1 iz2 rfl (by decide) g3 x1 c3 X1 rfl (by repeat (with_reducible first | exact HO.out | apply own_drew | apply own_drewQ)) A2 x2 c2 g2 o2 HN2.out l2 X2 rfl hf2.out (by repeat (with_reducible first | exact HF2.out.below HB3.out | apply Fl.drew)) ONE2.out (by unfold maxLen; omega) (by omega) (by first | omega | (simp; omega)) ?_; intro g4 c4 w4 hown hgr hgg; go_loud (have HO4 := Lib.hid hown; have hc4 : ∀ b o, b < w.heap.size + 3 → w4.cell? ⟨b, o, none⟩ = w3.cell? ⟨b, o, none⟩ := (fun b o hb => (cellOf (hgr.block b (by first | omega | (simp; omega)) (fun e => by have := Option.some.inj e; omega))).trans rfl); have hf4 : ∀ b o, b < w.heap.size + 3 → w4.frozen? ⟨b, o, none⟩ = w3.frozen? ⟨b, o, none⟩ := (fun b o hb => (frozenOf (hgr.block b (by first | omega | (simp; omega)) (fun e => by have := Option.some.inj e; omega))).trans rfl); have HB4 := Lib.hid (Below.grown (show Below w.heap.size w _ from by repeat (with_reducible first | exact HB3.out | apply Below.drew)) hgr (by first | omega | (simp; omega)) (fun k hk => by obtain rfl := Option.some.inj hk; omega)); have hlo4 := (hown.lt g4 rfl); clear hown hgr hgg))
  all_goals (try go_wp2)
  all_goals (have hne : g4 ≠ w.heap.size + 1 + 1 := (by omega))
  all_goals (have hnf : ¬ w.heap.size + 1 + 1 = g4 := (by omega))
  all_goals (have z0 : w4.cell? ⟨w.heap.size + 1 + 1, 0, none⟩ = some (.slice none 0 0) := (by simp [go_sem, *]))
  all_goals (have z1 : w4.cell? ⟨w.heap.size + 1 + 1, 1, none⟩ = some (.int .i64 0) := (by simp [go_sem, *]))
  all_goals (refine bodyPost_ret (v := .agg #[.slice (some ⟨g4, 0, none⟩) (x1 + x2) c4, .int .i64 z]) (by simp [results, Try.results117, go_sem, *]) rfl ⟨g4, c4, ⟨by rw [HLA.out], ?_⟩, ?_⟩)
  all_goals (try (show Below _ _ _; repeat (with_reducible first | exact HB4.out | refine Below.setCell ?_ (by first | omega | (simp; done) | (simp; omega)) _)))
  all_goals (rw [HLA.out, HAPP.out])
  all_goals (have h9 := own_setOff (u := .int .i64 z) (o := 1) (own_setOff (u := .slice (some ⟨g4, 0, none⟩) (x1 + x2) c4) (o := 0) HO4.out hne) hne)
  all_goals (exact (FlO.of_own h9).lower (by omega))
end Go.Proofs.Ytacinjbaebimhaa.Val
