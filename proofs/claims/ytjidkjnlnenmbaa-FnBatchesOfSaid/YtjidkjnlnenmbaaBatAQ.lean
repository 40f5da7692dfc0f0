/- Batches: rows of truths, batches that are arguments: opened, measured, copied, compared, marked. -/
import Derived.Test.YtjidkjnlnenmbaaFlKQ
import Derived.Test.YtjidkjnlnenmbaaFlQ
import Derived.Test.YtjidkjnlnenmbaaLSSQ
import Derived.Test.YtjidkjnlnenmbaaRMarkQ
import Derived.Deep.SlicePairs
import Derived.Deep.Strs
import Derived.ProofKit
import Derived.OpenShut
import Derived.ChangeOld
namespace Go.Proofs.Ytjidkjnlnenmbaa.Val
open Go.ChangeShapes Go.WideShapes Go.ChangeAt Go.RowKit Go.Deep
set_option linter.unusedVariables false
set_option maxRecDepth 8000
def tv (b : Bool) : Value := .bool b
theorem Fl.b {w : World} {g o : Nat} {A : Option Addr} {l : List Bool} (h : Fl w g o A (l.map tv)) (i : Nat) (hi : i < l.length) : A = some ⟨g, o, none⟩ ∧ g < w.heap.size ∧ w.cell? ⟨g, o + i, none⟩ = some (.bool l[i]) := by
  have hl : (l.map tv).length = l.length := List.length_map _
  refine ⟨h.ad (by omega), h.lt (by omega), ?_⟩
  rw [h.c i (by omega), List.getElem_map]; rfl
theorem infoTv : (Try.prog.info? 4).map (fun i => (i.zero, i.size, i.bytes)) = some (some (.bool false), 1, 1) := by kernel_rfl
/-- The marks of n truths. -/
def marksB (N n : Nat) : List Bool := (List.range n).map fun (i : Nat) => (((N : Int) + (i : Int)) % 3 == 0)
abbrev BA := List RT × List Bool
/-- A batch of one's own: its columns, what is picked. -/
structure BatO (w : World) (B g c : Nat) (T : List TT) (gp cp : Nat) (ls : List RT) (bs : List Bool) : Prop where
  bag : Bag w B g c T ls
  pk : FlO w B gp cp bs.length (bs.map tv)
  ne : gp ≠ g
  nt : ∀ t ∈ T, t.1 ≠ gp
theorem BatO.below {w w' : World} {B g c gp cp : Nat} {T : List TT} {ls : List RT} {bs : List Bool} (h : BatO w B g c T gp cp ls bs) (hb : Below w.heap.size w w') : BatO w' B g c T gp cp ls bs := ⟨h.bag.below hb, h.pk.below hb, h.ne, h.nt⟩
theorem BatO.alloc {w : World} {B g c gp cp : Nat} {T : List TT} {ls : List RT} {bs : List Bool} (h : BatO w B g c T gp cp ls bs) (ob : Obj) : BatO (w.alloc ob) B g c T gp cp ls bs := h.below ((Below.refl _ _).alloc (Nat.le_refl _) _)
theorem BatO.drew {w : World} {B g c gp cp : Nat} {T : List TT} {ls : List RT} {bs : List Bool} (h : BatO w B g c T gp cp ls bs) : BatO w.drew B g c T gp cp ls bs := h.below ((Below.refl _ _).drew)
/-- Batches that lie. -/
structure BatR (w : World) (A1 : Option Addr) (g1 o1 : Nat) (A2 : Option Addr) (g2 o2 : Nat) (ls : List RT) (bs : List Bool) : Prop where
  cs : Rws w g1 o1 A1 ls
  pk : Fl w g2 o2 A2 (bs.map tv)
theorem BatR.below {w w' : World} {A1 A2 : Option Addr} {g1 o1 g2 o2 : Nat} {ls : List RT} {bs : List Bool} (h : BatR w A1 g1 o1 A2 g2 o2 ls bs) (hb : Below w.heap.size w w') : BatR w' A1 g1 o1 A2 g2 o2 ls bs := ⟨h.cs.below hb, h.pk.below hb⟩
theorem BatR.alloc {w : World} {A1 A2 : Option Addr} {g1 o1 g2 o2 : Nat} {ls : List RT} {bs : List Bool} (h : BatR w A1 g1 o1 A2 g2 o2 ls bs) (ob : Obj) : BatR (w.alloc ob) A1 g1 o1 A2 g2 o2 ls bs := h.below ((Below.refl _ _).alloc (Nat.le_refl _) _)
theorem BatR.drew {w : World} {A1 A2 : Option Addr} {g1 o1 g2 o2 : Nat} {ls : List RT} {bs : List Bool} (h : BatR w A1 g1 o1 A2 g2 o2 ls bs) : BatR w.drew A1 g1 o1 A2 g2 o2 ls bs := h.below ((Below.refl _ _).drew)
theorem BatO.r {w : World} {B g c gp cp : Nat} {T : List TT} {ls : List RT} {bs : List Bool} (h : BatO w B g c T gp cp ls bs) : BatR w (some ⟨g, 0, none⟩) g 0 (some ⟨gp, 0, none⟩) gp 0 ls bs := ⟨h.bag.rws, h.pk.fl⟩
theorem OnlyT.more {bs cs : List Nat} {w w' : World} (h : OnlyT bs w w') (hs : ∀ b ∈ bs, b ∈ cs) : OnlyT cs w w' := ⟨h.os, h.tape, h.output, h.size, fun k hk hc => h.block k hk (fun hb => hc (hs k hb))⟩
theorem OnlyT.alloc {bs : List Nat} {w w' : World} (h : OnlyT bs w w') (ob : Obj) : OnlyT bs w (w'.alloc ob) :=
  ⟨h.os, h.tape, h.output, Nat.le_trans h.size (by simp), fun k hk hb => (((Below.refl w'.heap.size w').alloc (Nat.le_refl _) ob).block k (Nat.lt_of_lt_of_le hk h.size)).trans (h.block k hk hb)⟩
theorem OnlyT.then {bs : List Nat} {w w1 w2 : World} (h : OnlyT bs w w1) (k : OnlyT bs w1 w2) : OnlyT bs w w2 :=
  ⟨k.os.trans h.os, k.tape.trans h.tape, k.output.trans h.output, Nat.le_trans h.size k.size, fun b hb hbb => (k.block b (Nat.lt_of_lt_of_le hb h.size) hbb).trans (h.block b hb hbb)⟩
theorem OnlyT.cell {bs : List Nat} {w w' : World} (h : OnlyT bs w w') {x j : Nat} {v : Value} (hc : w.cell? ⟨x, j, none⟩ = some v) (hx : x ∉ bs) : w'.cell? ⟨x, j, none⟩ = some v :=
  (cellOf (h.block x (World.block_lt_of_cell? w ⟨x, j, none⟩ hc) hx)).trans hc
end Go.Proofs.Ytjidkjnlnenmbaa.Val
