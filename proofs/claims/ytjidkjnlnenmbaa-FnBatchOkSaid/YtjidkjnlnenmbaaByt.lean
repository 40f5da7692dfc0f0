/- Rows of bytes in memory: comparing, marking, holding. -/
import Derived.Test.YtjidkjnlnenmbaaDraw
import Derived.Deep.Draws
namespace Go.Proofs.Ytjidkjnlnenmbaa.Val
open Go.RowKit
/-- The bytes l lie where the slice's address A leads. -/
def BAt (w : World) (A : Option Addr) (l : List UInt8) : Prop := 0 < l.length → ∃ g off, A = some ⟨g, off, none⟩ ∧ ∀ i (h : i < l.length), w.cell? ⟨g, off + i, none⟩ = some (.int .u8 l[i].toNat)
def EqPost (l m : List UInt8) (w : World) (e : Ending) (w' : World) : Prop := e = .returned (.bool (l == m)) ∧ ∃ n, w' = w.drewN n
/-- The marks that markByteS lays: k, k + 1, .. as bytes. -/
def marks : Nat → Nat → List UInt8
  | 0, _ => []
  | n + 1, k => UInt8.ofNat k :: marks n (k + 1)
theorem marks_len (n k : Nat) : (marks n k).length = n := by
  induction n generalizing k with
  | zero => rfl
  | succ n ih => simp [marks, ih]
/-- The row's cells: l at ⟨g, off⟩ on, none frozen. -/
def BRow (w : World) (g : Nat) (l : List UInt8) : Prop := ∀ i (h : i < l.length), w.cell? ⟨g, i, none⟩ = some (.int .u8 l[i].toNat) ∧ w.frozen? ⟨g, i, none⟩ = false
def HeldPost (k : Int) (ok : Bool) (n : Nat) (w : World) (e : Ending) (w' : World) : Prop := e = .returned (.int .i64 (if ok then k + n else -1)) ∧ ∃ q, w' = w.drewN q
def Marked (g n : Nat) (w : World) (e : Ending) (w' : World) : Prop := e = .returned (.int .i64 ((1 : Int) + n)) ∧ Only g w w' ∧ ∀ i, i < n → w'.cell? ⟨g, i, none⟩ = some (.int .u8 ((i : Int) + 1)) ∧ w'.frozen? ⟨g, i, none⟩ = false
end Go.Proofs.Ytjidkjnlnenmbaa.Val
