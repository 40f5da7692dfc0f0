/- Rows of one's own behind a header that may be nil; an append to what may be nil. -/
import Derived.Test.YtjidkjnlnenmbaaBagN
import Derived.Test.YtjidkjnlnenmbaaBatM
namespace Go.Proofs.Ytjidkjnlnenmbaa.Val
open Go.RowKit
set_option linter.unusedVariables false
set_option maxRecDepth 8000
theorem run_append_any {P : Program} (w : World) (base : Nat) (t ty e : TypeId) (i : TypeInfo) (z : Value) (size bytes : Nat) (ht : P.underlying t = some (.slice e)) (hi : P.info? e = some i) (hz : i.zero = some z)
    (hsize : i.size = size) (hby : i.bytes = bytes) (hzs : z.cells.size = size) (hsz : 0 < size)
    (v : Value) (n : Nat) (xs : List Value) (hown : w.ownsRow base e size v n xs)
    (a : Addr) (m c : Nat) (news : List Value) (hm : 0 < m) (hl : news.length = m * size) (hnews : ∀ j u, news[j]? = some u → w.cell? (a.add j) = some u) (h1 : ∀ u ∈ news, u.oneCell' = true)
    (h63 : n + m ≤ maxLen) (hbytes : (n + m) * bytes ≤ 140737488355328) (hbase : base ≤ w.heap.size) :
    ∃ g' cap' w', (Builtin.append_ #[t, t] ty #[v, .slice (some a) m c]).run P w = .ok (.slice (some ⟨g', 0, none⟩) (n + m) cap') w' ∧ w'.ownsRow base e size (.slice (some ⟨g', 0, none⟩) (n + m) cap') (n + m) (xs ++ news) ∧ w.grownBy w' v.ownBlock ∧ (v.ownBlock = some g' ∨ w.heap.size ≤ g') := by
  rcases hown.2 with ⟨rfl, rfl⟩ | ⟨g, cap, cur, rfl, -⟩
  · have hx : xs = [] := List.eq_nil_of_length_eq_zero (by simpa using hown.1)
    obtain ⟨v', w', hr, ho, hgr, -⟩ := run_append_own (P := P) w base t ty e i z size bytes ht hi hz hsize hby hzs hsz _ 0 xs hown a m c news hl hnews h1 h63 hbytes hbase
    subst hsize
    subst hby
    subst hx
    have hsmall : 0 + m ≤ 9223372036854775807 := by simp only [maxLen] at h63; omega
    have hr2 := run_append_nil (P := P) w t ty e i z ht hi hz a m c news hl hnews (by omega) (by omega) (by have hb := hbytes; simp only [Nat.zero_add] at hb; omega)
    rw [hr] at hr2
    injection hr2 with q1 q2
    subst q1
    simp only [Nat.zero_add] at ho ⊢
    exact ⟨_, _, w', hr, ho, hgr, .inr (Nat.le_refl _)⟩
  · obtain ⟨g', cap', w', h2, h3, h4, h5⟩ := run_append_block (P := P) w base t ty e i z size bytes ht hi hz hsize hby hzs hsz g n cap xs hown a m c news hl hnews h1 h63 hbytes hbase
    exact ⟨g', cap', w', h2, h3, h4, h5.elim (fun h => .inl (by rw [h]; rfl)) .inr⟩
theorem wpList_append_any {P : Program} (w : World) {ops : Array Oper} {rest : List Oper} {o : Oper} {a : Act} {Q : Exit → Act → World → Prop} (hgd : o.guard = none) (s x : Operand) (t : TypeId)
    (ho : o.op = .call { callee := .builtin .append, args := #[s, x], argTypes := #[t, t] })
    (base : Nat) (e : TypeId) (i : TypeInfo) (z : Value) (size bytes : Nat) (ht : P.underlying t = some (.slice e)) (hi : P.info? e = some i) (hz : i.zero = some z)
    (hsize : i.size = size) (hby : i.bytes = bytes) (hzs : z.cells.size = size) (hsz : 0 < size)
    (v : Value) (n : Nat) (xs : List Value) (hs : a.eval s = v) (hown : w.ownsRow base e size v n xs)
    (ad : Addr) (m c : Nat) (news : List Value) (hx : a.eval x = .slice (some ad) m c) (hm : 0 < m) (hl : news.length = m * size) (hnews : ∀ j u, news[j]? = some u → w.cell? (ad.add j) = some u) (h1 : ∀ u ∈ news, u.oneCell' = true)
    (h63 : n + m ≤ maxLen) (hbytes : (n + m) * bytes ≤ 140737488355328) (hbase : base ≤ w.heap.size)
    (h : ∀ g' cap' w', w'.ownsRow base e size (.slice (some ⟨g', 0, none⟩) (n + m) cap') (n + m) (xs ++ news) → w.grownBy w' v.ownBlock → (v.ownBlock = some g' ∨ w.heap.size ≤ g') → wpList P ops Q rest (a.put o.dst (.slice (some ⟨g', 0, none⟩) (n + m) cap')) w') : wpList P ops Q (o :: rest) a w :=
  wpList_plain hgd fun _ hK => by
    obtain ⟨g', cap', w', hr, h2, h3, h4⟩ := run_append_any (P := P) w base t o.type e i z size bytes ht hi hz hsize hby hzs hsz v n xs hown ad m c news hm hl hnews h1 h63 hbytes hbase
    unfold Oper.wp execOp
    simp only [ho, resolve, invoke, builtin, Sem.run_bind, Sem.run_pure, Result.andThen_ok, List.map_toArray, List.map_cons, List.map_nil, hs, hx, hr]
    exact hK _ _ (h g' cap' w' h2 h3 h4)
theorem step_any {P : Program} {w : World} {ops : Array Oper} {o : Oper} {a : Act} {K : Act → World → Prop} {Q : Exit → Act → World → Prop} {E : Prop} (hgd : o.guard = none) (s x : Operand) (t : TypeId)
    (ho : o.op = .call { callee := .builtin .append, args := #[s, x], argTypes := #[t, t] })
    (base : Nat) (e : TypeId) (i : TypeInfo) (z : Value) (size bytes : Nat) (ht : P.underlying t = some (.slice e)) (hi : P.info? e = some i) (hz : i.zero = some z)
    (hsize : i.size = size) (hby : i.bytes = bytes) (hzs : z.cells.size = size) (hsz : 0 < size)
    (v : Value) (n : Nat) (xs : List Value) (hs : a.eval s = v) (hown : w.ownsRow base e size v n xs)
    (ad : Addr) (m c : Nat) (news : List Value) (hx : a.eval x = .slice (some ad) m c) (hm : 0 < m) (hl : news.length = m * size) (hnews : ∀ j u, news[j]? = some u → w.cell? (ad.add j) = some u) (h1 : ∀ u ∈ news, u.oneCell' = true)
    (h63 : n + m ≤ maxLen) (hbytes : (n + m) * bytes ≤ 140737488355328) (hbase : base ≤ w.heap.size)
    (h : ∀ g' cap' w', w'.ownsRow base e size (.slice (some ⟨g', 0, none⟩) (n + m) cap') (n + m) (xs ++ news) → w.grownBy w' v.ownBlock → (v.ownBlock = some g' ∨ w.heap.size ≤ g') → K (a.put o.dst (.slice (some ⟨g', 0, none⟩) (n + m) cap')) w') :
    if Region.wanted o (yielded ops a.tmps) = true then Oper.wp P o a w K Q else E := by
  have hw : Region.wanted o (yielded ops a.tmps) = true := by simp [Region.wanted, hgd]
  rw [if_pos hw]
  obtain ⟨g', cap', w', hr, h2, h3, h4⟩ := run_append_any (P := P) w base t o.type e i z size bytes ht hi hz hsize hby hzs hsz v n xs hown ad m c news hm hl hnews h1 h63 hbytes hbase
  unfold Oper.wp execOp
  simp only [ho, resolve, invoke, builtin, Sem.run_bind, Sem.run_pure, Result.andThen_ok, List.map_toArray, List.map_cons, List.map_nil, hs, hx, hr]
  exact h g' cap' w' h2 h3 h4
/-- A row of one's own keeps, header and all, where its block does. -/
theorem own_block {w w' : World} {B size n : Nat} {e : TypeId} {v : Value} {xs : List Value} (h : w.ownsRow B e size v n xs) (hk : ∀ k, v.ownBlock = some k → w'.heap[k]? = w.heap[k]?) : w'.ownsRow B e size v n xs := by
  refine ⟨h.1, ?_⟩
  rcases h.2 with h0 | ⟨g, cap, cur, h1, h2, h3, h4⟩
  · exact .inl h0
  · exact .inr ⟨g, cap, cur, h1, h2, by rw [hk g (by rw [h1]; rfl)]; exact h3, h4⟩
theorem own_lowerB {w : World} {B B' n size : Nat} {e : TypeId} {v : Value} {xs : List Value} (h : w.ownsRow B e size v n xs) (hB : B' ≤ B) : w.ownsRow B' e size v n xs := by
  refine ⟨h.1, ?_⟩
  rcases h.2 with h0 | ⟨g, cap, cur, h1, h2, h3⟩
  · exact .inl h0
  · exact .inr ⟨g, cap, cur, h1, Nat.le_trans hB h2, h3⟩
theorem own_hi {w : World} {B n size : Nat} {e : TypeId} {v : Value} {xs : List Value} (h : w.ownsRow B e size v n xs) : ∀ k, v.ownBlock = some k → B ≤ k ∧ k < w.heap.size := fun k hk => World.ownsRow.lt h k hk
/-- Rows of one's own behind a header that may be nil. -/
structure BagV (w : World) (B : Nat) (v : Value) (T : List TT) (ls : List RT) : Prop where
  eq : T.map (fun t => t.2.2) = ls
  own : w.ownsRow B 53 1 v ls.length (T.map hdr)
  rows : ∀ t ∈ T, RowO w B t
  nd : (T.map fun t => t.1).Nodup
  ng : ∀ t ∈ T, v.ownBlock ≠ some t.1
theorem BagV.nil (w : World) (B : Nat) : BagV w B (.slice none 0 0) [] [] := ⟨rfl, ⟨by simp, .inl ⟨rfl, rfl⟩⟩, fun t ht => absurd ht (by simp), by simp, fun t ht => absurd ht (by simp)⟩
theorem BagV.len {w : World} {B : Nat} {v : Value} {T : List TT} {ls : List RT} (h : BagV w B v T ls) : T.length = ls.length := by rw [← h.eq, List.length_map]
/-- Its blocks. -/
def blkV (v : Value) (T : List TT) : List Nat := v.ownBlock.toList ++ T.map fun t => t.1
theorem BagV.hi {w : World} {B : Nat} {v : Value} {T : List TT} {ls : List RT} (h : BagV w B v T ls) : ∀ b ∈ blkV v T, B ≤ b ∧ b < w.heap.size := by
  intro b hb
  rcases List.mem_append.1 hb with hb | hb
  · exact own_hi h.own b (by simpa using hb)
  · obtain ⟨t, ht, rfl⟩ := List.mem_map.1 hb
    exact ⟨(h.rows t ht).lo, (h.rows t ht).hi⟩
theorem BagV.keep {w w' : World} {B : Nat} {v : Value} {T : List TT} {ls : List RT} (h : BagV w B v T ls) (hz : w.heap.size ≤ w'.heap.size) (hk : ∀ b ∈ blkV v T, w'.heap[b]? = w.heap[b]?) : BagV w' B v T ls :=
  ⟨h.eq, own_block h.own fun k hv => hk k (List.mem_append.2 (.inl (by simpa using hv))), fun t ht => (h.rows t ht).keep hz (hk t.1 (List.mem_append.2 (.inr (List.mem_map.2 ⟨t, ht, rfl⟩)))), h.nd, h.ng⟩
theorem BagV.below {w w' : World} {B : Nat} {v : Value} {T : List TT} {ls : List RT} (h : BagV w B v T ls) (hb : Below w.heap.size w w') : BagV w' B v T ls := h.keep hb.size fun b hm => hb.block _ (h.hi b hm).2
theorem BagV.alloc {w : World} {B : Nat} {v : Value} {T : List TT} {ls : List RT} (h : BagV w B v T ls) (ob : Obj) : BagV (w.alloc ob) B v T ls := h.below ((Below.refl _ _).alloc (Nat.le_refl _) _)
theorem BagV.drew {w : World} {B : Nat} {v : Value} {T : List TT} {ls : List RT} (h : BagV w B v T ls) : BagV w.drew B v T ls := h.below ((Below.refl _ _).drew)
theorem BagV.lower {w : World} {B B' : Nat} {v : Value} {T : List TT} {ls : List RT} (h : BagV w B v T ls) (hB : B' ≤ B) : BagV w B' v T ls := ⟨h.eq, own_lowerB h.own hB, fun t ht => (h.rows t ht).lower hB, h.nd, h.ng⟩
theorem BagV.setFar {w : World} {B : Nat} {v : Value} {T : List TT} {ls : List RT} (h : BagV w B v T ls) {b : Nat} (hb : b < B) (j : Nat) (u : Value) : BagV (w.setCell ⟨b, j, none⟩ u) B v T ls :=
  h.keep (by simp [World.setCell]) fun k hk => hsetNe (by have := (h.hi k hk).1; omega)
/-- A row more. -/
theorem BagV.push {w w' : World} {B g' cap' n : Nat} {v : Value} {T : List TT} {ls : List RT} {t : TT} (h : BagV w B v T ls) (ht : RowO w B t) (hn : ∀ b ∈ blkV v T, b ≠ t.1) (hnl : n = ls.length + 1)
    (hown : w'.ownsRow B 53 1 (.slice (some ⟨g', 0, none⟩) n cap') n (T.map hdr ++ [hdr t])) (hgr : w.grownBy w' v.ownBlock) (hgg : v.ownBlock = some g' ∨ w.heap.size ≤ g') : BagV w' B (.slice (some ⟨g', 0, none⟩) n cap') (T ++ [t]) (ls ++ [t.2.2]) := by
  subst hnl
  have hk : ∀ u, RowO w B u → v.ownBlock ≠ some u.1 → RowO w' B u := fun u hu hne => hu.keep hgr.size (hgr.block _ hu.hi (fun e => hne e.symm))
  have hvt : v.ownBlock ≠ some t.1 := fun e => hn t.1 (List.mem_append.2 (.inl (by simpa using e))) rfl
  refine ⟨by rw [List.map_append, h.eq]; rfl, ?_, ?_, ?_, ?_⟩
  · rw [List.length_append, List.map_append]; exact hown
  · intro u hu
    rcases List.mem_append.1 hu with hu | hu
    · exact hk u (h.rows u hu) (h.ng u hu)
    · obtain rfl := List.mem_singleton.1 hu
      exact hk _ ht hvt
  · rw [List.map_append, List.nodup_append]
    refine ⟨h.nd, by simp, fun a ha b hb e => ?_⟩
    simp at hb
    exact hn a (List.mem_append.2 (.inr ha)) (by rw [e, hb])
  · intro u hu e
    have e1 : g' = u.1 := by simpa [Value.ownBlock] using e
    have hlt : u.1 < w.heap.size ∧ v.ownBlock ≠ some u.1 := by
      rcases List.mem_append.1 hu with hu | hu
      · exact ⟨(h.rows u hu).hi, h.ng u hu⟩
      · obtain rfl := List.mem_singleton.1 hu
        exact ⟨ht.hi, hvt⟩
    rcases hgg with hgg | hgg
    · exact hlt.2 (by rw [hgg, e1])
    · omega
theorem BagV.bagN {w : World} {B : Nat} {v : Value} {T : List TT} {ls : List RT} (h : BagV w B v T ls) : ∃ (A : Option Addr) (g c : Nat), v = .slice A ls.length c ∧ BagN w B A g c T ls := by
  have hl := h.len
  rcases h.own.2 with ⟨hv, hn⟩ | ⟨g, cap, cur, hv, -⟩
  · have hls : ls = [] := List.eq_nil_of_length_eq_zero hn
    subst hls
    have hT : T = [] := List.eq_nil_of_length_eq_zero (by simpa using hl)
    subst hT
    exact ⟨none, 0, 0, hv, .inr ⟨rfl, rfl, rfl, rfl⟩⟩
  · subst hv
    refine ⟨some ⟨g, 0, none⟩, g, cap, rfl, .inl ⟨rfl, h.eq, h.own, h.rows, h.nd, fun t ht e => h.ng t ht (by simp [Value.ownBlock, e])⟩⟩
/-- A box of two cells that can be written. -/
def BoxW (x : Nat) (u v : Value) (w : World) : Prop := Box2 x u v w ∧ w.frozen? ⟨x, 0, none⟩ = false ∧ w.frozen? ⟨x, 1, none⟩ = false
theorem BoxW.lt {x : Nat} {u v : Value} {w : World} (h : BoxW x u v w) : x < w.heap.size := h.1.lt
theorem BoxW.keep {x : Nat} {u v : Value} {w w' : World} (h : BoxW x u v w) (hk : w'.heap[x]? = w.heap[x]?) : BoxW x u v w' := ⟨⟨(cellOf hk).trans h.1.1, (cellOf hk).trans h.1.2⟩, (frozenOf hk).trans h.2.1, (frozenOf hk).trans h.2.2⟩
theorem BoxW.below {x : Nat} {u v : Value} {w w' : World} (h : BoxW x u v w) (hb : Below w.heap.size w w') : BoxW x u v w' := h.keep (hb.block _ h.lt)
theorem BoxW.alloc {x : Nat} {u v : Value} {w : World} (h : BoxW x u v w) (ob : Obj) : BoxW x u v (w.alloc ob) := h.below ((Below.refl _ _).alloc (Nat.le_refl _) _)
theorem BoxW.grown {x : Nat} {u v : Value} {w w' : World} {r : Option Nat} (h : BoxW x u v w) (hg : w.grownBy w' r) (hx : r ≠ some x) : BoxW x u v w' := h.keep (hg.block x h.lt (fun e => hx e.symm))
theorem BoxW.set0 {x : Nat} {u v : Value} {w : World} (h : BoxW x u v w) (y : Value) : BoxW x y v (w.setCell ⟨x, 0, none⟩ y) :=
  ⟨⟨World.cell?_setCell_same _ _ _ h.1.1, by rw [World.cell?_setCell_other _ _ _ _ (offNe (by omega))]; exact h.1.2⟩, by rw [World.frozen?_setCell]; exact h.2.1, by rw [World.frozen?_setCell]; exact h.2.2⟩
theorem BoxW.set1 {x : Nat} {u v : Value} {w : World} (h : BoxW x u v w) (y : Value) : BoxW x u y (w.setCell ⟨x, 1, none⟩ y) :=
  ⟨⟨by rw [World.cell?_setCell_other _ _ _ _ (offNe (by omega))]; exact h.1.1, World.cell?_setCell_same _ _ _ h.1.2⟩, by rw [World.frozen?_setCell]; exact h.2.1, by rw [World.frozen?_setCell]; exact h.2.2⟩
theorem own_form {w : World} {B size n : Nat} {e : TypeId} {v : Value} {xs : List Value} (h : w.ownsRow B e size v n xs) : ∃ (A : Option Addr) (c : Nat), v = .slice A n c := by
  rcases h.2 with ⟨hv, hn⟩ | ⟨g, cap, cur, hv, -⟩
  · exact ⟨none, 0, by rw [hv, hn]⟩
  · exact ⟨_, cap, hv⟩
end Go.Proofs.Ytjidkjnlnenmbaa.Val
