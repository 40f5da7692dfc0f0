/- A row with another one behind it; the values of a row that a list names: the reference's l6Joined, l6Taken; The rows of a step: what it is asked with; its own rows; Whether an expression holds on a row that fits: the reference's l6Holds; The rows of a step: the reference's l6Rows; The rows of a join: the reference's l6Rows; The rows of a step that has two lists behind each other: the reference's l6Rows; The rows of a step: the reference's l6Rows, whole. -/
import Derived.Test.YtacinjbaebimhaaPMathQ
import Derived.Test.YtacinjbaebimhaaBagQ
import Derived.Test.YtacinjbaebimhaaFlPQ
import Derived.Test.YtacinjbaebimhaaTabKQ
import Derived.Test.YtacinjbaebimhaaEMathAQ
import Derived.Test.YtacinjbaebimhaaTru3Q
import Derived.Test.YtacinjbaebimhaaOwnKQ
import Derived.Test.YtacinjbaebimhaaEKIQ
import Derived.Test.YtacinjbaebimhaaEStepKQ
import Derived.Test.YtacinjbaebimhaaPColKQ
import Derived.Deep.RegionWith
import Derived.Deep.RegionLaw
import Derived.Deep.RegionHeldLaw
namespace Go.Proofs.Ytacinjbaebimhaa.Val
open Go.RowKit
set_option linter.unusedVariables false
set_option maxRecDepth 8000
end Go.Proofs.Ytacinjbaebimhaa.Val
namespace Go.Proofs.Ytacinjbaebimhaa.Val
open Go.RowKit
set_option linter.unusedVariables false
set_option maxRecDepth 8000
/-- Lists of rows that lie. -/
structure R3 (w : World) (g o : Nat) (A : Option Addr) (ev : List (List RT)) : Prop where
  ad : 0 < ev.length → A = some ⟨g, o, none⟩
  hd : ∀ j (h : j < ev.length), ∃ (A' : Option Addr) (c' g' o' : Nat), w.cell? ⟨g, o + j, none⟩ = some (.slice A' ev[j].length c') ∧ Rws w g' o' A' ev[j]
theorem R3.below {w w' : World} {g o : Nat} {A : Option Addr} {ev : List (List RT)} (h : R3 w g o A ev) (hb : Below w.heap.size w w') : R3 w' g o A ev := by
  refine ⟨h.ad, fun j hj => ?_⟩
  obtain ⟨A', c', g', o', h1, h2⟩ := h.hd j hj
  exact ⟨A', c', g', o', (hb.cell (p := ⟨g, o + j, none⟩) (World.block_lt_of_cell? w ⟨g, o + j, none⟩ h1)).trans h1, h2.below hb⟩
theorem R3.at {w : World} {g o : Nat} {A : Option Addr} {ev : List (List RT)} (h : R3 w g o A ev) (j : Nat) (hj : j < ev.length) : A = some ⟨g, o, none⟩ ∧ g < w.heap.size ∧ ∃ (A' : Option Addr) (c' g' o' : Nat), w.cell? ⟨g, o + j, none⟩ = some (.slice A' ev[j].length c') ∧ Rws w g' o' A' ev[j] := by
  obtain ⟨A', c', g', o', h1, h2⟩ := h.hd j hj
  exact ⟨h.ad (by omega), World.block_lt_of_cell? w ⟨g, o + j, none⟩ h1, A', c', g', o', h1, h2⟩
/-- Lists of rows of one's own. -/
abbrev T3 := Nat × Nat × List TT
def rows3 (u : T3) : List RT := u.2.2.map fun t => t.2.2
def hd3 (u : T3) : Value := .slice (some ⟨u.1, 0, none⟩) u.2.2.length u.2.1
def blk3 (u : T3) : List Nat := u.1 :: u.2.2.map fun t => t.1
structure Bag3 (w : World) (B g cap : Nat) (L : List T3) (ev : List (List RT)) : Prop where
  eq : L.map rows3 = ev
  own : w.ownsRow B 40 1 (.slice (some ⟨g, 0, none⟩) ev.length cap) ev.length (L.map hd3)
  bags : ∀ u ∈ L, Bag w B u.1 u.2.1 u.2.2 (rows3 u)
  ng : ∀ u ∈ L, g ∉ blk3 u
theorem Bag.blk {w : World} {B : Nat} {u : T3} (h : Bag w B u.1 u.2.1 u.2.2 (rows3 u)) : ∀ b ∈ blk3 u, B ≤ b ∧ b < w.heap.size := by
  intro b hb
  simp only [blk3, List.mem_cons, List.mem_map] at hb
  rcases hb with rfl | ⟨t, ht, rfl⟩
  · exact h.lo
  · exact ⟨(h.rows t ht).lo, (h.rows t ht).hi⟩
theorem Bag.keep3 {w w' : World} {B : Nat} {u : T3} (h : Bag w B u.1 u.2.1 u.2.2 (rows3 u)) (hz : w.heap.size ≤ w'.heap.size) (hk : ∀ b ∈ blk3 u, w'.heap[b]? = w.heap[b]?) : Bag w' B u.1 u.2.1 u.2.2 (rows3 u) :=
  h.keep hz (hk _ (by simp [blk3])) fun t ht => hk _ (by simp only [blk3, List.mem_cons, List.mem_map]; exact .inr ⟨t, ht, rfl⟩)
theorem Bag3.len {w : World} {B g cap : Nat} {L : List T3} {ev : List (List RT)} (h : Bag3 w B g cap L ev) : L.length = ev.length := by rw [← h.eq, List.length_map]
theorem Bag3.lo {w : World} {B g cap : Nat} {L : List T3} {ev : List (List RT)} (h : Bag3 w B g cap L ev) : B ≤ g ∧ g < w.heap.size := h.own.lt g rfl
theorem Bag3.below {w w' : World} {B g cap : Nat} {L : List T3} {ev : List (List RT)} (h : Bag3 w B g cap L ev) (hb : Below w.heap.size w w') : Bag3 w' B g cap L ev :=
  ⟨h.eq, own_keep h.own (hb.block _ h.lo.2), fun u hu => (h.bags u hu).below hb, h.ng⟩
theorem Bag3.empty (w : World) {B : Nat} (hB : B ≤ w.heap.size) : Bag3 (w.alloc (.cells #[] 40)) B w.heap.size 0 [] [] :=
  ⟨rfl, own_empty3 40 1 rfl hB, fun t ht => absurd ht (by simp), fun t ht => absurd ht (by simp)⟩
theorem Bag3.r3 {w : World} {B g cap : Nat} {L : List T3} {ev : List (List RT)} (h : Bag3 w B g cap L ev) : R3 w g 0 (some ⟨g, 0, none⟩) ev := by
  have hl := h.len
  refine ⟨fun _ => rfl, fun j hj => ?_⟩
  have hj2 : j < L.length := by omega
  have hu := h.bags L[j] (List.getElem_mem _)
  have he : ev[j] = rows3 L[j] := by
    have := h.eq
    subst this
    simp
  refine ⟨some ⟨L[j].1, 0, none⟩, L[j].2.1, L[j].1, 0, ?_, ?_⟩
  · rw [Nat.zero_add, h.own.cellAt j (by omega), List.getElem?_map, List.getElem?_eq_getElem hj2, he]
    simp [hd3, rows3]
  · rw [he]; exact hu.rws
theorem Bag3.push {w w' : World} {B g cap g' cap' n : Nat} {L : List T3} {ev : List (List RT)} {u : T3} (h : Bag3 w B g cap L ev) (hu : Bag w B u.1 u.2.1 u.2.2 (rows3 u)) (hg : g ∉ blk3 u) (hnl : n = ev.length + 1)
    (hown : w'.ownsRow B 40 1 (.slice (some ⟨g', 0, none⟩) n cap') n (L.map hd3 ++ [hd3 u])) (hgr : w.grownBy w' (some g)) (hgg : g' = g ∨ w.heap.size ≤ g') : Bag3 w' B g' cap' (L ++ [u]) (ev ++ [rows3 u]) := by
  subst hnl
  have hk : ∀ v : T3, Bag w B v.1 v.2.1 v.2.2 (rows3 v) → g ∉ blk3 v → Bag w' B v.1 v.2.1 v.2.2 (rows3 v) := fun v hv hne => hv.keep3 hgr.size fun b hb => hgr.block _ (hv.blk b hb).2 (fun e => hne (by rw [← Option.some.inj e]; exact hb))
  refine ⟨by rw [List.map_append, h.eq]; rfl, ?_, ?_, ?_⟩
  · rw [List.length_append, List.map_append]; exact hown
  · intro v hv
    rcases List.mem_append.1 hv with hv | hv
    · exact hk v (h.bags v hv) (h.ng v hv)
    · obtain rfl := List.mem_singleton.1 hv
      exact hk _ hu hg
  · intro v hv e
    have hlt : g' < w.heap.size ∧ g' ≠ g := by
      rcases List.mem_append.1 hv with hv | hv
      · exact ⟨((h.bags v hv).blk _ e).2, fun e2 => h.ng v hv (by rw [← e2]; exact e)⟩
      · obtain rfl := List.mem_singleton.1 hv
        exact ⟨(hu.blk _ e).2, fun e2 => hg (by rw [← e2]; exact e)⟩
    rcases hgg with hgg | hgg
    · exact hlt.2 hgg
    · omega
end Go.Proofs.Ytacinjbaebimhaa.Val
namespace Go.Proofs.Ytacinjbaebimhaa.Val
open Go.RowKit
set_option linter.unusedVariables false
set_option linter.unusedSimpArgs false
set_option maxRecDepth 20000
end Go.Proofs.Ytacinjbaebimhaa.Val
namespace Go.Proofs.Ytacinjbaebimhaa.Val
open Go.RowKit
set_option linter.unusedVariables false
set_option maxRecDepth 8000
theorem step_blk {P : Program} {w : World} {ops : Array Oper} {o : Oper} {a : Act} {K : Act → World → Prop} {Q : Exit → Act → World → Prop} {E : Prop} (hgd : o.guard = none) (s x : Operand) (t : TypeId)
    (ho : o.op = .call { callee := .builtin .append, args := #[s, x], argTypes := #[t, t] })
    (base : Nat) (e : TypeId) (i : TypeInfo) (z : Value) (size bytes : Nat) (ht : P.underlying t = some (.slice e)) (hi : P.info? e = some i) (hz : i.zero = some z)
    (hsize : i.size = size) (hby : i.bytes = bytes) (hzs : z.cells.size = size) (hsz : 0 < size)
    (g n cap : Nat) (xs : List Value) (hs : a.eval s = .slice (some ⟨g, 0, none⟩) n cap) (hown : w.ownsRow base e size (.slice (some ⟨g, 0, none⟩) n cap) n xs)
    (ad : Addr) (m c : Nat) (news : List Value) (hx : a.eval x = .slice (some ad) m c) (hl : news.length = m * size) (hnews : ∀ j u, news[j]? = some u → w.cell? (ad.add j) = some u) (h1 : ∀ u ∈ news, u.oneCell' = true)
    (h63 : n + m ≤ maxLen) (hbytes : (n + m) * bytes ≤ 140737488355328) (hbase : base ≤ w.heap.size)
    (h : ∀ g' cap' w', w'.ownsRow base e size (.slice (some ⟨g', 0, none⟩) (n + m) cap') (n + m) (xs ++ news) → w.grownBy w' (some g) → (g' = g ∨ w.heap.size ≤ g') → K (a.put o.dst (.slice (some ⟨g', 0, none⟩) (n + m) cap')) w') :
    if Region.wanted o (yielded ops a.tmps) = true then Oper.wp P o a w K Q else E := by
  have hw : Region.wanted o (yielded ops a.tmps) = true := by simp [Region.wanted, hgd]
  rw [if_pos hw]
  obtain ⟨g', cap', w', hr, h2, h3, h4⟩ := run_append_block (P := P) w base t o.type e i z size bytes ht hi hz hsize hby hzs hsz g n cap xs hown ad m c news hl hnews h1 h63 hbytes hbase
  unfold Oper.wp execOp
  simp only [ho, resolve, invoke, builtin, Sem.run_bind, Sem.run_pure, Result.andThen_ok, List.map_toArray, List.map_cons, List.map_nil, hs, hx, hr]
  exact h g' cap' w' h2 h3 h4
end Go.Proofs.Ytacinjbaebimhaa.Val
namespace Go.Proofs.Ytacinjbaebimhaa.Val
open Go.RowKit
set_option linter.unusedVariables false
set_option maxRecDepth 8000
end Go.Proofs.Ytacinjbaebimhaa.Val
namespace Go.Proofs.Ytacinjbaebimhaa.Val
open Go.RowKit
set_option linter.unusedVariables false
set_option maxRecDepth 8000
end Go.Proofs.Ytacinjbaebimhaa.Val
namespace Go.Proofs.Ytacinjbaebimhaa.Val
open Go.RowKit
set_option linter.unusedVariables false
set_option maxRecDepth 8000
end Go.Proofs.Ytacinjbaebimhaa.Val
