import Derived.Test.YtlkdcijacjdneaaByteS
import Derived.Deep.RegionLaw
import Derived.Deep.RegionHeld3
import Derived.Deep.AppendLies
import Derived.Laws.IdiomStrings
namespace Go.Proofs.Ytlkdcijacjdneaa.Val
open Go.RowKit
set_option linter.unusedVariables false
theorem step_own {P : Program} {w : World} {ops : Array Oper} {o : Oper} {a : Act} {K : Act → World → Prop} {Q : Exit → Act → World → Prop} {E : Prop} (hgd : o.guard = none) (s x : Operand) (t : TypeId)
    (ho : o.op = .call { callee := .builtin .append, args := #[s, x], argTypes := #[t, t] })
    (base : Nat) (e : TypeId) (i : TypeInfo) (z : Value) (size bytes : Nat) (ht : P.underlying t = some (.slice e)) (hi : P.info? e = some i) (hz : i.zero = some z)
    (hsize : i.size = size) (hby : i.bytes = bytes) (hzs : z.cells.size = size) (hsz : 0 < size)
    (v : Value) (n : Nat) (xs : List Value) (hs : a.eval s = v) (hown : w.ownsRow base e size v n xs)
    (ad : Addr) (m c : Nat) (news : List Value) (hx : a.eval x = .slice (some ad) m c) (hl : news.length = m * size) (hnews : ∀ j u, news[j]? = some u → w.cell? (ad.add j) = some u) (h1 : ∀ u ∈ news, u.oneCell' = true)
    (h63 : n + m ≤ maxLen) (hbytes : (n + m) * bytes ≤ 140737488355328) (hbase : base ≤ w.heap.size)
    (h : ∀ v' w', w'.ownsRow base e size v' (n + m) (xs ++ news) → w.grownBy w' v.ownBlock → (v' = .slice none 0 0 ↔ v = .slice none 0 0 ∧ m = 0) → K (a.put o.dst v') w') :
    if Region.wanted o (yielded ops a.tmps) = true then Oper.wp P o a w K Q else E := by
  have hw : Region.wanted o (yielded ops a.tmps) = true := by simp [Region.wanted, hgd]
  rw [if_pos hw]
  exact wp_append_own w s x t ho base e i z size bytes ht hi hz hsize hby hzs hsz v n xs hs hown ad m c news hx hl hnews h1 h63 hbytes hbase h
theorem own_drew {w : World} {B : Nat} {e : TypeId} {size n : Nat} {v : Value} {xs : List Value} (h : w.ownsRow B e size v n xs) : w.drew.ownsRow B e size v n xs := h
theorem news1 {W : World} {b : Nat} {x : Value} (h : W.cell? ⟨b, 0, none⟩ = some x) : ∀ j u, [x][j]? = some u → W.cell? ((⟨b, 0, none⟩ : Addr).add j) = some u := by
  intro j u hj
  match j with
  | 0 => simp at hj; subst hj; simpa [Addr.add] using h
  | k + 1 => simp at hj
/-- The letters of s lie in block b from its first cell on. -/
def RowS (W : World) (b : Nat) (s : ByteArray) : Prop := ∀ j (_ : j < s.data.size), W.cell? ⟨b, j, none⟩ = some (.int .u8 s.data[j].toNat)
theorem cell_newX {W : World} {C : Array Value} {e : TypeId} {x : Nat × Nat} {j : Nat} {v : Value} (h : C[j]? = some v) : (W.alloc (.cells C e x)).cell? ⟨W.heap.size, j, none⟩ = some v := by
  simp only [World.cell?, World.alloc, Array.getElem?_push_size]
  simpa using h
theorem rows_new {W : World} {s : ByteArray} {c : Nat} {e : TypeId} {x : Nat × Nat} : RowS (W.alloc (.cells (bytesRow s c) e x)) W.heap.size s := by
  intro j hj
  exact cell_newX (bytesRow_at s c j hj)
theorem RowS.alloc {W : World} {b : Nat} {s : ByteArray} (h : RowS W b s) (o : Obj) : RowS (W.alloc o) b s := fun j hj => by
  rw [World.cell?_alloc_lt _ _ _ (World.block_lt_of_cell? W _ (h j hj))]; exact h j hj
theorem RowS.drew {W : World} {b : Nat} {s : ByteArray} (h : RowS W b s) : RowS W.drew b s := h
theorem RowS.grown {W w2 : World} {b : Nat} {s : ByteArray} {row : Option Nat} (hg : W.grownBy w2 row) (h : RowS W b s) (hne : some b ≠ row) : RowS w2 b s := fun j hj => hg.cell (h j hj) hne
theorem news_rows {W : World} {b : Nat} {s : ByteArray} (h : RowS W b s) : ∀ j u, (Lib.strCells s)[j]? = some u → W.cell? ((⟨b, 0, none⟩ : Addr).add j) = some u := by
  intro j u hj
  have hl : (Lib.strCells s).length = s.data.size := by simp [Lib.strCells]
  have hjs : j < s.data.size := by
    have := (List.getElem?_eq_some_iff.1 hj).1
    omega
  have hu : u = .int .u8 s.data[j].toNat := by
    have h2 : (Lib.strCells s)[j]? = some (.int .u8 s.data[j].toNat) := by rw [List.getElem?_eq_getElem (by omega)]; congr 1; simp [Lib.strCells]
    rw [h2] at hj
    exact (Option.some.inj hj).symm
  have ha : (⟨b, 0, none⟩ : Addr).add j = ⟨b, j, none⟩ := by unfold Addr.add; split <;> simp_all
  rw [hu, ha]; exact h j hjs
theorem own_mono {w : World} {B B' : Nat} {e : TypeId} {size n : Nat} {v : Value} {xs : List Value} (h : w.ownsRow B e size v n xs) (hb : B' ≤ B) : w.ownsRow B' e size v n xs := by
  refine ⟨h.1, ?_⟩
  rcases h.2 with h | ⟨g, cap, cur, h1, h2, h3⟩
  · exact .inl h
  · exact .inr ⟨g, cap, cur, h1, Nat.le_trans hb h2, h3⟩
end Go.Proofs.Ytlkdcijacjdneaa.Val
