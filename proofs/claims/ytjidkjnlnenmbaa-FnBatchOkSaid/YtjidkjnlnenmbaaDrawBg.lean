/- A row put in its place (rowPut); impl.RowsSorted; spec.RowsSorted; What drawing rows of rows leaves (l20Bag, l20Two). -/
import Derived.Test.YtjidkjnlnenmbaaBag
import Derived.BigQuiet
import Derived.Test.YtjidkjnlnenmbaaDrawS2
namespace Go.Proofs.Ytjidkjnlnenmbaa.Val
open Go.RowKit
set_option linter.unusedSimpArgs false
set_option linter.unusedVariables false
set_option maxRecDepth 8000
theorem insL_end {α : Type} (D : List α) (x : α) : insL D D.length x = D ++ [x] := by simp [insL]
theorem insL_set {α : Type} (D : List α) (k : Nat) (y x : α) (hk : k ≤ D.length) : (insL D k y).set k x = insL D k x := by
  have hl : (D.take k).length = k := by simp; omega
  unfold insL
  rw [List.set_append_right _ _ (by omega), hl, Nat.sub_self, List.set_cons_zero]
theorem insL_shift {α : Type} (D : List α) (k : Nat) (hk : k < D.length) : insL D (k + 1) D[k] = insL D k D[k] := by
  unfold insL
  rw [List.take_succ_eq_append_getElem hk, List.append_assoc, List.drop_eq_getElem_cons hk]
  rfl
theorem posI_step {ls : List RT} {r : RT} {k : Nat} (hk : k < ls.length) : posI ls r (k + 1) = if 0 < rowI ls[k] r then posI ls r k else k + 1 := by
  have e : ls.getD k [] = ls[k] := by rw [List.getD_eq_getElem?_getD, List.getElem?_eq_getElem hk]; rfl
  simp only [posI, e]
/-- Headers with a place in between. -/
structure Mid (w : World) (B g cap n : Nat) (T : List TT) (t : TT) (k : Nat) (y : Value) : Prop where
  own : w.ownsRow B 53 1 (.slice (some ⟨g, 0, none⟩) n cap) n (insL (T.map hdr) k y)
  len : n = T.length + 1
  k : k ≤ T.length
  rows : ∀ u ∈ T, RowO w B u
  row : RowO w B t
  nd : ((T ++ [t]).map fun t => t.1).Nodup
  ng : ∀ u ∈ T ++ [t], u.1 ≠ g
theorem Mid.lo {w : World} {B g cap n k : Nat} {T : List TT} {t : TT} {y : Value} (h : Mid w B g cap n T t k y) : B ≤ g ∧ g < w.heap.size := h.own.lt g rfl
theorem Mid.below {w w' : World} {B g cap n k : Nat} {T : List TT} {t : TT} {y : Value} (h : Mid w B g cap n T t k y) (hb : Below w.heap.size w w') : Mid w' B g cap n T t k y :=
  ⟨own_keep h.own (hb.block _ h.lo.2), h.len, h.k, fun u hu => (h.rows u hu).below hb, h.row.below hb, h.nd, h.ng⟩
theorem Mid.cell {w : World} {B g cap n k : Nat} {T : List TT} {t : TT} {y : Value} (h : Mid w B g cap n T t k y) (j : Nat) (hj : j < k) (hj2 : j < T.length) : w.cell? ⟨g, j, none⟩ = some (hdr T[j]) := by
  have := h.len
  rw [h.own.cellAt j (by omega), insL_get _ _ _ (by have := h.k; simpa using this), if_pos hj, List.getElem?_map, List.getElem?_eq_getElem hj2]; rfl
theorem Mid.there {w : World} {B g cap n k : Nat} {T : List TT} {t : TT} {y : Value} (h : Mid w B g cap n T t k y) : ∃ v, w.cell? ⟨g, k, none⟩ = some v := by
  have := h.len
  have := h.k
  rw [h.own.cellAt k (by omega), insL_get _ _ _ (by simpa using h.k), if_neg (by omega), if_pos rfl]
  exact ⟨_, rfl⟩
theorem Mid.set {w : World} {B g cap n k : Nat} {T : List TT} {t : TT} {y : Value} (h : Mid w B g cap n T t k y) (x : Value) : Mid (w.setCell ⟨g, k, none⟩ x) B g cap n T t k x := by
  have hk : ∀ u : TT, u.1 ≠ g → (w.setCell ⟨g, k, none⟩ x).heap[u.1]? = w.heap[u.1]? := fun u hu => Below.heap_setCell _ _ _ _ hu
  refine ⟨?_, h.len, h.k, fun u hu => (h.rows u hu).keep (by simp [World.setCell]) (hk u (h.ng u (by simp [hu]))), h.row.keep (by simp [World.setCell]) (hk t (h.ng t (by simp))), h.nd, h.ng⟩
  have := (h.own.stored k x).1
  rwa [insL_set _ _ _ _ (by simpa using h.k)] at this
theorem Mid.shift {w : World} {B g cap n k : Nat} {T : List TT} {t : TT} (hk : k < T.length) (h : Mid w B g cap n T t (k + 1) (hdr T[k])) : Mid w B g cap n T t k (hdr T[k]) := by
  refine ⟨?_, h.len, by omega, h.rows, h.row, h.nd, h.ng⟩
  have h1 := h.own
  have e : hdr T[k] = (T.map hdr)[k]'(by simpa using hk) := by simp
  rw [e] at h1 ⊢
  rwa [insL_shift] at h1
theorem Mid.start {w : World} {B g cap : Nat} {T : List TT} {t : TT} {ls : List RT} {r : RT} (h : Bag w B g cap (T ++ [t]) (ls ++ [r])) : Mid w B g cap (ls.length + 1) T t T.length (hdr t) := by
  have hl := h.len
  simp only [List.length_append, List.length_singleton] at hl
  refine ⟨?_, by omega, Nat.le_refl _, fun u hu => h.rows u (by simp [hu]), h.rows t (by simp), h.nd, h.ng⟩
  have h1 := h.own
  rw [List.length_append, List.length_singleton, List.map_append] at h1
  have e : insL (T.map hdr) T.length (hdr t) = T.map hdr ++ [hdr t] := by
    have := insL_end (T.map hdr) (hdr t)
    rwa [List.length_map] at this
  rw [e]; exact h1
theorem Mid.done {w : World} {B g cap n k : Nat} {T : List TT} {t : TT} {ls : List RT} (hls : T.map (fun t => t.2.2) = ls) (hk : k = posI ls t.2.2 ls.length) (h : Mid w B g cap n T t k (hdr t)) : Bag w B g cap (insL T k t) (putI ls t.2.2) := by
  have hp := insL_perm T k t
  have hp2 : List.Perm (insL T k t) (T ++ [t]) := hp.trans (List.perm_append_singleton t T).symm
  have hll : ls.length = T.length := by rw [← hls, List.length_map]
  refine ⟨by rw [insL_map, hls, putI, ← hk], ?_, ?_, ?_, ?_⟩
  · rw [putI_len, insL_map, hll, ← h.len]; exact h.own
  · intro u hu
    rcases List.mem_cons.1 (hp.mem_iff.1 hu) with rfl | hu
    · exact h.row
    · exact h.rows u hu
  · exact (hp2.map _).nodup_iff.2 h.nd
  · exact fun u hu => h.ng u (hp2.mem_iff.1 hu)
def RetPut (B : Nat) (ls : List RT) (w : World) (e : Ending) (w' : World) : Prop := ∃ (g c : Nat) (T : List TT), e = .returned (.slice (some ⟨g, 0, none⟩) ls.length c) ∧ Bag w' B g c T ls ∧ Below B w w'
theorem sort_ok {ls : List RT} (h : Ok2 ls) (k : Nat) (o : List RT) (ho : o = sortI (ls.take k)) : Ok2 o := by
  subst ho
  refine h.sub (by rw [sortI_len]; have := h.1; simp; omega) (fun r hr => List.mem_of_mem_take ((sortI_perm _).mem_iff.1 hr))
end Go.Proofs.Ytjidkjnlnenmbaa.Val
namespace Go.Proofs.Ytjidkjnlnenmbaa.Val
open Go.RowKit
set_option linter.unusedSimpArgs false
set_option linter.unusedVariables false
set_option maxRecDepth 20000
theorem l3OwnEnters (vs : Array Value) (w : World) : (callFunc 102 vs).run Try.prog w = .ok (.enter 102 vs) w := by
  go_simp
theorem step_callW {P : Program} {w : World} {ops : Array Oper} {o : Oper} {a : Act} {K : Act → World → Prop} {Q : Exit → Act → World → Prop} {E : Prop} (hw : Region.wanted o (yielded ops a.tmps) = true) (f : Nat) (args : Array Operand) (tys : Array TypeId)
    (ho : o.op = .call { callee := .value (.func f), args := args, argTypes := tys }) (hcf : ∀ (vs : Array Value) (w : World), (callFunc f vs).run P w = .ok (.enter f vs) w) (vals : Array Value) (hv : (args.toList.map a.eval).toArray = vals) {R : Ending → World → Prop} (hc : Calls P f vals w R) (h : ∀ e w', R e w' → ∃ v, e = .returned v ∧ K (a.put o.dst v) w') :
    if Region.wanted o (yielded ops a.tmps) = true then Oper.wp P o a w K Q else E := by
  have hrun : (execOp a.eval o).run P w = .ok (.enter f vals) w := by
    have hv2 : args.map a.eval = vals := by rw [← hv, ← Array.toList_map, Array.toArray_toList]
    subst hv2
    simp [execOp, ho, resolve, invoke, go_sem, hcf]
  rw [if_pos hw]
  unfold Oper.wp
  rw [hrun]
  refine hc.mono ?_
  intro e w' hR
  obtain ⟨v, rfl, hK⟩ := h e w' hR
  exact hK
theorem step_block {P : Program} {w : World} {ops : Array Oper} {o : Oper} {a : Act} {K : Act → World → Prop} {Q : Exit → Act → World → Prop} {E : Prop} (hgd : o.guard = none) (s x : Operand) (t : TypeId)
    (ho : o.op = .call { callee := .builtin .append, args := #[s, x], argTypes := #[t, t] })
    (base : Nat) (e : TypeId) (i : TypeInfo) (z : Value) (size bytes : Nat) (ht : P.underlying t = some (.slice e)) (hi : P.info? e = some i) (hz : i.zero = some z)
    (hsize : i.size = size) (hby : i.bytes = bytes) (hzs : z.cells.size = size) (hsz : 0 < size)
    (g n cap : Nat) (xs : List Value) (hs : a.eval s = .slice (some ⟨g, 0, none⟩) n cap) (hown : w.ownsRow base e size (.slice (some ⟨g, 0, none⟩) n cap) n xs)
    (ad : Addr) (m c : Nat) (news : List Value) (hx : a.eval x = .slice (some ad) m c) (hl : news.length = m * size) (hnews : ∀ j u, news[j]? = some u → w.cell? (ad.add j) = some u) (h1 : ∀ u ∈ news, u.oneCell' = true)
    (h63 : n + m ≤ maxLen) (hbytes : (n + m) * bytes ≤ 140737488355328) (hbase : base ≤ w.heap.size)
    (h : ∀ g' cap' w', w'.ownsRow base e size (.slice (some ⟨g', 0, none⟩) (n + m) cap') (n + m) (xs ++ news) → w.grownBy w' (some g) → (g' = g ∨ w.heap.size ≤ g') → K (a.put o.dst (.slice (some ⟨g', 0, none⟩) (n + m) cap')) w') :
    if Region.wanted o (yielded ops a.tmps) = true then Oper.wp P o a w K Q else E := by
  have hw : Region.wanted o (yielded ops a.tmps) = true := by simp [Region.wanted, hgd]
  rw [if_pos hw]
  obtain ⟨g', cap', w', hr, h2, h3, h4⟩ := run_append_block (P := P) w base t o.type e i z size bytes ht hi hz hsize hby hzs hsz g n cap xs hown ad m c news hl hnews h1 h63 hbytes hbase
  unfold Oper.wp execOp
  simp only [ho, resolve, invoke, builtin, Sem.run_bind, Sem.run_pure, Result.andThen_ok, List.map_toArray, List.map_cons, List.map_nil, hs, hx, hr]
  exact h g' cap' w' h2 h3 h4
theorem hdr_one (T : List TT) : ∀ u ∈ T.map hdr, u.oneCell' = true := by
  intro u hu
  obtain ⟨t, -, rfl⟩ := List.mem_map.1 hu
  rfl
theorem news_take {W : World} {B g cap n : Nat} {e : TypeId} {D : List Value} (h : W.ownsRow B e 1 (.slice (some ⟨g, 0, none⟩) n cap) n D) (p : Nat) : ∀ j u, (D.take p)[j]? = some u → W.cell? ((⟨g, 0, none⟩ : Addr).add j) = some u := by
  intro j u hj
  refine h.cells (g := g) rfl j u ?_
  rw [List.getElem?_take] at hj
  split at hj
  · exact hj
  · simp at hj
theorem news_drop {W : World} {B g cap n : Nat} {e : TypeId} {D : List Value} (h : W.ownsRow B e 1 (.slice (some ⟨g, 0, none⟩) n cap) n D) (p : Nat) : ∀ j u, (D.drop p)[j]? = some u → W.cell? ((⟨g, p, none⟩ : Addr).add j) = some u := by
  intro j u hj
  rw [List.getElem?_drop] at hj
  have := h.cells (g := g) rfl (p + j) u hj
  rw [addNone] at this ⊢
  rwa [Nat.zero_add] at this
theorem rows_grown {w w' : World} {B g : Nat} {T : List TT} (h : ∀ u ∈ T, RowO w B u) (hgr : w.grownBy w' (some g)) (hn : ∀ u ∈ T, u.1 ≠ g) : ∀ u ∈ T, RowO w' B u :=
  fun u hu => (h u hu).keep hgr.size (hgr.block _ (h u hu).hi (fun e => hn u hu (Option.some.inj e)))
theorem row_grown {w w' : World} {B g : Nat} {u : TT} (h : RowO w B u) (hgr : w.grownBy w' (some g)) (hn : u.1 ≠ g) : RowO w' B u :=
  h.keep hgr.size (hgr.block _ h.hi (fun e => hn (Option.some.inj e)))
theorem own_grownB {w w' : World} {row B size n g cap : Nat} {e : TypeId} {xs : List Value} (h : w.ownsRow B e size (.slice (some ⟨g, 0, none⟩) n cap) n xs) (hg : w.grownBy w' (some row)) (hne : g ≠ row) : w'.ownsRow B e size (.slice (some ⟨g, 0, none⟩) n cap) n xs :=
  own_keep h (hg.block _ (h.lt g rfl).2 (fun e => hne (Option.some.inj e)))
theorem sort_end {w0 w' : World} {B g c g3 c3 n p : Nat} {T : List TT} {o : List RT} {t : TT} (hbag : Bag w0 B g c T o) (hr : ∀ u ∈ T, RowO w' B u) (ht : RowO w' B t) (hT : ∀ u ∈ T, u.1 ≠ t.1) (hg : ∀ u ∈ T, u.1 ≠ g3) (hgt : t.1 ≠ g3)
    (hown : w'.ownsRow B 53 1 (.slice (some ⟨g3, 0, none⟩) n c3) n ((T.map hdr).take p ++ hdr t :: (T.map hdr).drop p)) (hn : n = o.length + 1) (hp : p = posI o t.2.2 o.length) : Bag w' B g3 c3 (insL T p t) (putI o t.2.2) := by
  have hm : ∀ u, u ∈ insL T p t ↔ u = t ∨ u ∈ T := fun u => by rw [(insL_perm T p t).mem_iff, List.mem_cons]
  refine ⟨by rw [insL_map, hbag.eq, putI, ← hp], ?_, ?_, ?_, ?_⟩
  · rw [putI_len, ← hn, insL_map]; exact hown
  · intro u hu
    rcases (hm u).1 hu with rfl | hu
    · exact ht
    · exact hr u hu
  · refine ((insL_perm T p t).map _).nodup_iff.2 ?_
    rw [List.map_cons, List.nodup_cons]
    refine ⟨fun h => ?_, hbag.nd⟩
    obtain ⟨u, hu, e⟩ := List.mem_map.1 h
    exact hT u hu e
  · intro u hu
    rcases (hm u).1 hu with rfl | hu
    · exact hgt
    · exact hg u hu
end Go.Proofs.Ytjidkjnlnenmbaa.Val
namespace Go.Proofs.Ytjidkjnlnenmbaa.Val
open Go.RowKit
set_option linter.unusedSimpArgs false
set_option linter.unusedVariables false
set_option maxRecDepth 8000
structure RowF (w : World) (B : Nat) (t : TT) : Prop where
  fl : Fl w t.1 0 (some ⟨t.1, 0, none⟩) (flatV t.2.2)
  lo : B ≤ t.1
  hi : t.1 < w.heap.size
theorem RowF.keep {w w' : World} {B : Nat} {t : TT} (h : RowF w B t) (hz : w.heap.size ≤ w'.heap.size) (hk : w'.heap[t.1]? = w.heap[t.1]?) : RowF w' B t :=
  ⟨h.fl.keep fun _ j => cellOf hk, h.lo, Nat.lt_of_lt_of_le h.hi hz⟩
theorem RowF.alloc {w : World} {B : Nat} {t : TT} (h : RowF w B t) (ob : Obj) : RowF (w.alloc ob) B t := h.keep (by simp) (Below.heap_alloc _ _ _ h.hi)
/-- Rows that were drawn: in blocks from B on. -/
structure BagW (w : World) (B g cap : Nat) (T : List TT) (ls : List RT) : Prop where
  eq : T.map (fun t => t.2.2) = ls
  own : w.ownsRow B 53 1 (.slice (some ⟨g, 0, none⟩) ls.length cap) ls.length (T.map hdr)
  rows : ∀ t ∈ T, RowF w B t
  ng : ∀ t ∈ T, t.1 ≠ g
theorem BagW.len {w : World} {B g cap : Nat} {T : List TT} {ls : List RT} (h : BagW w B g cap T ls) : T.length = ls.length := by rw [← h.eq, List.length_map]
theorem BagW.lo {w : World} {B g cap : Nat} {T : List TT} {ls : List RT} (h : BagW w B g cap T ls) : B ≤ g ∧ g < w.heap.size := h.own.lt g rfl
theorem BagW.keep {w w' : World} {B g cap : Nat} {T : List TT} {ls : List RT} (h : BagW w B g cap T ls) (hz : w.heap.size ≤ w'.heap.size) (hg : w'.heap[g]? = w.heap[g]?) (hk : ∀ t ∈ T, w'.heap[t.1]? = w.heap[t.1]?) : BagW w' B g cap T ls :=
  ⟨h.eq, own_keep h.own hg, fun t ht => (h.rows t ht).keep hz (hk t ht), h.ng⟩
theorem BagW.alloc {w : World} {B g cap : Nat} {T : List TT} {ls : List RT} (h : BagW w B g cap T ls) (ob : Obj) : BagW (w.alloc ob) B g cap T ls :=
  h.keep (by simp) (Below.heap_alloc _ _ _ h.lo.2) fun t ht => Below.heap_alloc _ _ _ (h.rows t ht).hi
theorem BagW.drew {w : World} {B g cap : Nat} {T : List TT} {ls : List RT} (h : BagW w B g cap T ls) : BagW w.drew B g cap T ls := h.keep (Nat.le_refl _) rfl fun t ht => rfl
theorem BagW.below {w w' : World} {B g cap : Nat} {T : List TT} {ls : List RT} (h : BagW w B g cap T ls) (hb : Below w.heap.size w w') : BagW w' B g cap T ls :=
  h.keep hb.size (hb.block _ h.lo.2) fun t ht => hb.block _ (h.rows t ht).hi
theorem BagW.only {w w' : World} {B g cap r : Nat} {T : List TT} {ls : List RT} (h : BagW w B g cap T ls) (hr : r < B) (ho : Only r w w') : BagW w' B g cap T ls :=
  h.keep ho.size (ho.block _ h.lo.2 (by have := h.lo.1; omega)) fun t ht => ho.block _ (h.rows t ht).hi (by have := (h.rows t ht).lo; omega)
theorem BagW.rws {w : World} {B g cap : Nat} {T : List TT} {ls : List RT} (h : BagW w B g cap T ls) : Rws w g 0 (some ⟨g, 0, none⟩) ls := by
  have hl := h.len
  refine ⟨fun _ => rfl, fun j hj => ?_⟩
  have hj2 : j < T.length := by omega
  have hr := h.rows T[j] (List.getElem_mem _)
  have he : ls[j] = T[j].2.2 := by
    have := h.eq
    subst this
    simp
  refine ⟨T[j].2.1, T[j].1, 0, ?_, ?_⟩
  · rw [Nat.zero_add, h.own.cellAt j (by omega), List.getElem?_map, List.getElem?_eq_getElem hj2, he]; rfl
  · rw [he]; exact hr.fl
theorem BagW.push {w w' : World} {B g cap g' cap' n : Nat} {T : List TT} {ls : List RT} {t : TT} (h : BagW w B g cap T ls) (ht : RowF w B t) (hg : t.1 ≠ g) (hnl : n = ls.length + 1)
    (hown : w'.ownsRow B 53 1 (.slice (some ⟨g', 0, none⟩) n cap') n (T.map hdr ++ [hdr t])) (hgr : w.grownBy w' (some g)) (hgg : g' = g ∨ w.heap.size ≤ g') : BagW w' B g' cap' (T ++ [t]) (ls ++ [t.2.2]) := by
  subst hnl
  have hk : ∀ u, RowF w B u → u.1 ≠ g → RowF w' B u := fun u hu hne => hu.keep hgr.size (hgr.block _ hu.hi (fun e => hne (Option.some.inj e)))
  refine ⟨by rw [List.map_append, h.eq]; rfl, ?_, ?_, ?_⟩
  · rw [List.length_append, List.map_append]; exact hown
  · intro u hu
    rcases List.mem_append.1 hu with hu | hu
    · exact hk u (h.rows u hu) (h.ng u hu)
    · obtain rfl := List.mem_singleton.1 hu
      exact hk _ ht hg
  · intro u hu e
    have hlt : u.1 < w.heap.size ∧ u.1 ≠ g := by
      rcases List.mem_append.1 hu with hu | hu
      · exact ⟨(h.rows u hu).hi, h.ng u hu⟩
      · obtain rfl := List.mem_singleton.1 hu
        exact ⟨ht.hi, hg⟩
    rcases hgg with hgg | hgg
    · exact hlt.2 (e.trans hgg)
    · omega
theorem RowF.of {w : World} {B g c : Nat} {vs : List VT} (h : Fl w g 0 (some ⟨g, 0, none⟩) (flatV vs)) (h0 : 0 < vs.length) (hB : B ≤ g) : RowF w B (g, c, vs) := by
  have hl := flatV_len vs
  exact ⟨h, hB, h.lt (by omega)⟩
theorem RowO.rowF {w : World} {B : Nat} {t : TT} (h : RowO w B t) : RowF w B t := ⟨h.fl, h.lo, h.hi⟩
theorem onlyBelow {g : Nat} {w w' : World} (hb : Below w.heap.size w w') : Only g w w' := ⟨hb.os, hb.tape, hb.output, hb.size, fun k hk _ => hb.block k hk⟩
theorem rdUnder {B r : Nat} {w w' : World} {p : Int} (h : RdOk B r w p) (hb : Below w.heap.size w w') : RdOk B r w' p :=
  h.keep hb.size fun k hk => hb.block k (by have := h.ge; have := h.lt; omega)
/-- Rows of few values, of short texts. -/
def Small (ls : List RT) : Prop := ls.length ≤ 6 ∧ ∀ x ∈ ls, x.length ≤ 110 ∧ Texts x
theorem Small.ok {ls : List RT} (h : Small ls) : Ok2 ls := ⟨by have := h.1; omega, fun r hr => ⟨by have := (h.2 r hr).1; omega, (h.2 r hr).2.short⟩⟩
theorem Small.app {ls : List RT} {x : RT} (h : ∀ x ∈ ls, x.length ≤ 110 ∧ Texts x) (hx : x.length ≤ 110 ∧ Texts x) : ∀ y ∈ ls ++ [x], y.length ≤ 110 ∧ Texts y := fun y hy => by
  rcases List.mem_append.1 hy with hy | hy
  · exact h y hy
  · obtain rfl := List.mem_singleton.1 hy; exact hx
def DrewBag (B r : Nat) (p : Int) (w : World) (e : Ending) (w' : World) : Prop := ∃ (g c : Nat) (T : List TT) (ls : List RT) (q : Int), e = .returned (.slice (some ⟨g, 0, none⟩) ls.length c) ∧ BagW w' w.heap.size g c T ls ∧ Small ls ∧ q ≤ p + 20000 ∧ Only r w w' ∧ RdOk B r w' q
set_option maxHeartbeats 4000000 in
theorem l20Bag (B r g cap : Nat) (cs : List CT) (n p : Int) (w : World) (h : RdOk B r w p) (hp : p ≤ 50000000) (hn : n ≤ 1000) (hA : Fl w g 0 (some ⟨g, 0, none⟩) (flatC cs)) (hgr : g ≠ r) (h0 : 0 < cs.length) (h6 : cs.length ≤ 100) : Calls Try.prog 92 #[.pointer (some ⟨r, 0, none⟩), .slice (some ⟨g, 0, none⟩) cs.length cap, .int .i64 n] w (DrewBag B r p w) := by
  obtain ⟨i0, hi, iz0, iz1, iz2⟩ := info_parts infoVS
  have hlt := h.lt
  have hge := h.ge
  have hp0 := h.p0
  have HA := Lib.hid hA
  have HR := Lib.hid (h.alloc (.cells #[] 53))
  have HO := Lib.hid ((Only.refl r w).alloc (.cells #[] 53))
  have BW : Hid (BagW (w.alloc (.cells #[] 53)) w.heap.size w.heap.size 0 [] []) := ⟨rfl, own_empty3 53 1 rfl (Nat.le_refl _), fun t ht => absurd ht (by simp), fun t ht => absurd ht (by simp)⟩
  clear h hA
  go_enter Try.func92, Try.ntmps92
  go_wp2_with ((go_at_call 93; (with_reducible refine (pick B r 7 p _ (by repeat (with_reducible first | exact HR.out | apply RdOk.alloc | apply RdOk.drew | (refine RdOk.setFar ?_ (by first | omega | (simp; done) | (simp; omega)) _))) (by omega)).mono ?_); rintro e w1 ⟨m, rfl, hm0, hm1, hm2, ho, hr⟩; have HOn := Lib.hid (Only.trans (by repeat (with_reducible first | exact HO.out | apply Only.alloc | apply Only.drew | (refine Only.setNew ?_ (by first | omega | (simp; done) | (simp; omega)) _))) ho); have K0 := Lib.hid (by first | exact BW.out.only (by omega) ho | exact (BW.out.alloc _).only (by omega) ho | exact (BW.out.drew).only (by omega) ho); clear BW; have BW := K0; clear K0; clear HO HR; have HO := HOn; have HR := Lib.hid hr; clear HOn hr; have hm1 := hm1 (by omega); clear hm2; clear ho))
  go_loopw [7, 8] (fun ox kx wr => ∃ (K : Int) (g1 c1 : Nat) (T : List TT) (o : List RT) (q : Int), kx = .int .i64 K ∧ 0 ≤ K ∧ K ≤ 6 ∧ (o.length : Int) + K ≤ 6 ∧ ox = .slice (some ⟨g1, 0, none⟩) o.length c1 ∧ q ≤ p + 1 + 3000 * (o.length : Int) ∧ Hid (BagW wr w.heap.size g1 c1 T o) ∧ Hid (∀ x ∈ o, x.length ≤ 110 ∧ Texts x) ∧ Hid (RdOk B r wr q) ∧ Hid (Only r w wr)) (fun _ kx _ => (intOf kx).toNat)
  case atStart => exact ⟨_, w.heap.size, 0, [], [], _, rfl, by omega, by omega, by simp; omega, rfl, by simp, BW, fun x hx => absurd hx (by simp), HR, HO⟩
  case round =>
    clear BW HR HO
    obtain ⟨K, g1, c1, T, o, q, rfl, hK0, hK1, hKO, rfl, hq, BW, SM, HR, HO⟩ := hrel
    have hq0 := HR.out.p0
    have hws := HO.out.size
    have hb1 := BW.out.lo
    obtain ⟨ol, hol⟩ : ∃ n, o.length = n := ⟨_, rfl⟩
    have HOL := Lib.hid hol
    rw [hol] at hKO hq ⊢
    by_cases hK : 0 < K
    · by_cases hz : ol = 0
      · subst hz
        clear hol
        go_wp2_with (first
          | (go_at_call 116; (with_reducible refine (l20Fit B r g cap cs n _ _ (by repeat (with_reducible first | exact HR.out | apply RdOk.alloc | apply RdOk.drew | (refine RdOk.setFar ?_ (by first | omega | (simp; done) | (simp; omega)) _))) (by omega) hn (HA.out.only (by repeat (with_reducible first | exact HO.out | apply Only.alloc | apply Only.drew | (refine Only.setNew ?_ (by first | omega | (simp; done) | (simp; omega)) _))) (fun _ => hgr)) hgr h0 h6).mono ?_); rintro e w1 ⟨vs, g2, c2, q2, rfl, k0, k1, kt, kc, kc2, kg, kf, kq, ho, hr⟩; have HOn := Lib.hid (Only.trans (by repeat (with_reducible first | exact HO.out | apply Only.alloc | apply Only.drew | (refine Only.setNew ?_ (by first | omega | (simp; done) | (simp; omega)) _))) ho); have K0 := Lib.hid (by first | exact BW.out.only (by omega) ho | exact (BW.out.alloc _).only (by omega) ho | exact (BW.out.drew).only (by omega) ho); clear BW; have BW := K0; clear K0; clear HO HR; have HO := HOn; have HR := Lib.hid hr; clear HOn hr; have KF := Lib.hid (RowF.of (c := c2) (B := w.heap.size) kf k0 (Nat.le_trans hws kg)); have KG := kg; have KT := Lib.hid kt; clear kf kt; clear ho)
          | (at_builtin; refine wpList_append_block _ rfl (.tmp 35) (.tmp 40) 28 rfl w.heap.size 53 i0 (.slice none 0 0) 1 24 Try.underlying28 hi iz0 iz1 iz2 rfl (by decide) g1 0 c1 (T.map hdr) rfl (by have h := BW.out.own; rw [HOL.out] at h; exact h.alloc _) _ 1 1 [.slice (some ⟨g2, 0, none⟩) vs.length c2] rfl rfl (news_new (by first | rfl | simp)) (by simp [Value.oneCell']) (by unfold maxLen; omega) (by omega) (by have := HO.out.size; first | omega | (simp; omega)) ?_; intro g3 c3 w3 hown hgr3 hgg; have HOWN := Lib.hid hown; have HGR := Lib.hid hgr3; have HGG := Lib.hid hgg; clear hown hgr3 hgg))
        have hb2 := BW.out.lo
        have BW3 := Lib.hid (BagW.push (t := (g2, c2, vs)) (BW.out.alloc _) (KF.out.alloc _) (by simp only; omega) (by rw [HOL.out]) HOWN.out HGR.out HGG.out)
        have HR3 := Lib.hid (rd_grown (HR.out.alloc _) HGR.out (fun k hk => by obtain rfl := Option.some.inj hk; omega))
        have HO3 := Lib.hid (Only.grown (HO.out.alloc _) HGR.out (fun k hk => by obtain rfl := Option.some.inj hk; omega))
        exact ⟨⟨K - 1, g3, c3, _, o ++ [vs], _, by go_num, by omega, by omega, by simp [HOL.out]; omega, by simp [HOL.out], by simp [HOL.out]; omega, BW3, Small.app SM.out ⟨by omega, KT.out⟩, HR3, HO3⟩, by simp [intOf]; omega⟩
      · have hz2 : (0 : Int) < (ol : Int) := by omega
        clear hol
        go_wp2_with (first
          | ((fail_if_success (have _ := P3)); (go_at_call 93; (with_reducible refine (pick B r 3 q _ (by repeat (with_reducible first | exact HR.out | apply RdOk.alloc | apply RdOk.drew | (refine RdOk.setFar ?_ (by first | omega | (simp; done) | (simp; omega)) _))) (by omega)).mono ?_); rintro e w1 ⟨m3, rfl, h30, h31, h32, ho, hr⟩; have HOn := Lib.hid (Only.trans (by repeat (with_reducible first | exact HO.out | apply Only.alloc | apply Only.drew | (refine Only.setNew ?_ (by first | omega | (simp; done) | (simp; omega)) _))) ho); have K0 := Lib.hid (by first | exact BW.out.only (by omega) ho | exact (BW.out.alloc _).only (by omega) ho | exact (BW.out.drew).only (by omega) ho); clear BW; have BW := K0; clear K0; clear HO HR; have HO := HOn; have HR := Lib.hid hr; clear HOn hr; have h31 := h31 (by omega); clear h32; have P3 := True.intro; have hws2 := HO.out.size; have hwr := ho.size; clear ho))
          | (go_at_call 93; (with_reducible refine (pick B r (ol : Int) _ _ (by repeat (with_reducible first | exact HR.out | apply RdOk.alloc | apply RdOk.drew | (refine RdOk.setFar ?_ (by first | omega | (simp; done) | (simp; omega)) _))) (by omega)).mono ?_); rintro e w1 ⟨mi, rfl, hi0, hi1, hi2, ho, hr⟩; have HOn := Lib.hid (Only.trans (by repeat (with_reducible first | exact HO.out | apply Only.alloc | apply Only.drew | (refine Only.setNew ?_ (by first | omega | (simp; done) | (simp; omega)) _))) ho); have K0 := Lib.hid (by first | exact BW.out.only (by omega) ho | exact (BW.out.alloc _).only (by omega) ho | exact (BW.out.drew).only (by omega) ho); clear BW; have BW := K0; clear K0; clear HO HR; have HO := HOn; have HR := Lib.hid hr; clear HOn hr; have hi1 := hi1 (by omega); clear hi2; obtain ⟨ix, rfl⟩ : ∃ i : Nat, mi = (i : Int) := ⟨mi.toNat, by omega⟩; have hix : ix < o.length := (by rw [HOL.out]; omega); obtain ⟨-, hgz, cu, gu, ou, hcu, hfu⟩ := BW.out.rws.at ix hix; (simp only [Nat.zero_add] at hcu); have HFU := Lib.hid hfu; have hux := Lib.hid (SM.out _ (List.getElem_mem hix)); clear hfu; obtain ⟨U, hU⟩ : ∃ U, o[ix] = U := ⟨_, rfl⟩; rw [hU] at hcu HFU hux; clear hU hix; obtain ⟨ul, hul⟩ : ∃ n, U.length = n := ⟨_, rfl⟩; have HUL := Lib.hid hul; rw [hul] at hcu; clear hul; clear ho)
          | (go_at_call 102; (with_reducible refine (by have := l3Own gu ou cu U _ HFU.out (by have := hux.out.1; omega); rw [HUL.out] at this; exact this : Calls _ _ _ _ _).mono ?_); rintro e w2 ⟨g2, c2, rfl, hr2, hb2⟩; have HR2 := Lib.hid hr2; have HBB := Lib.hid hb2; clear hb2 hr2)
          | (at_builtin; refine wpList_append_block _ rfl (.tmp 24) (.tmp 33) 28 rfl w.heap.size 53 i0 (.slice none 0 0) 1 24 Try.underlying28 hi iz0 iz1 iz2 rfl (by decide) g1 ol c1 (T.map hdr) rfl (by have h := (BW.out.below HBB.out).own; rw [HOL.out] at h; exact h.alloc _) _ 1 1 [.slice (some ⟨g2, 0, none⟩) ul c2] rfl rfl (news_new (by first | rfl | simp)) (by simp [Value.oneCell']) (by unfold maxLen; omega) (by omega) (by have := HO.out.size; have := HBB.out.size; first | omega | (simp; omega)) ?_; intro g3 c3 w3 hown hgr3 hgg; have HOWN := Lib.hid hown; have HGR := Lib.hid hgr3; have HGG := Lib.hid hgg; clear hown hgr3 hgg)
          | (go_at_call 116; (with_reducible refine (l20Fit B r g cap cs n _ _ (by repeat (with_reducible first | exact HR.out | apply RdOk.alloc | apply RdOk.drew | (refine RdOk.setFar ?_ (by first | omega | (simp; done) | (simp; omega)) _))) (by omega) hn (HA.out.only (by repeat (with_reducible first | exact HO.out | apply Only.alloc | apply Only.drew | (refine Only.setNew ?_ (by first | omega | (simp; done) | (simp; omega)) _))) (fun _ => hgr)) hgr h0 h6).mono ?_); rintro e w1 ⟨vs, g2, c2, q2, rfl, k0, k1, kt, kc, kc2, kg, kf, kq, ho, hr⟩; have HOn := Lib.hid (Only.trans (by repeat (with_reducible first | exact HO.out | apply Only.alloc | apply Only.drew | (refine Only.setNew ?_ (by first | omega | (simp; done) | (simp; omega)) _))) ho); have K0 := Lib.hid (by first | exact BW.out.only (by omega) ho | exact (BW.out.alloc _).only (by omega) ho | exact (BW.out.drew).only (by omega) ho); clear BW; have BW := K0; clear K0; clear HO HR; have HO := HOn; have HR := Lib.hid hr; clear HOn hr; have KF := Lib.hid (RowF.of (c := c2) (B := w.heap.size) kf k0 (Nat.le_trans (by omega) kg)); have KG := kg; have KT := Lib.hid kt; clear kf kt; clear ho)
          | (at_builtin; refine wpList_append_block _ rfl (.tmp 35) (.tmp 40) 28 rfl w.heap.size 53 i0 (.slice none 0 0) 1 24 Try.underlying28 hi iz0 iz1 iz2 rfl (by decide) g1 ol c1 (T.map hdr) rfl (by have h := BW.out.own; rw [HOL.out] at h; exact h.alloc _) _ 1 1 [.slice (some ⟨g2, 0, none⟩) vs.length c2] rfl rfl (news_new (by first | rfl | simp)) (by simp [Value.oneCell']) (by unfold maxLen; omega) (by omega) (by have := HO.out.size; first | omega | (simp; omega)) ?_; intro g3 c3 w3 hown hgr3 hgg; have HOWN := Lib.hid hown; have HGR := Lib.hid hgr3; have HGG := Lib.hid hgg; clear hown hgr3 hgg))
        · have hb2 := BW.out.lo
          have hlo2 := HR2.out.lo
          have hwo := HO.out.size
          have hbz := HBB.out.size
          have BW3 := Lib.hid (BagW.push (t := (g2, c2, U)) ((BW.out.below HBB.out).alloc _) ((RowO.rowF (HR2.out.lower (by omega))).alloc _) (by simp only at hlo2 ⊢; omega) (by rw [HOL.out]) (by have h := HOWN.out; rw [← HUL.out] at h; exact h) HGR.out HGG.out)
          have HR3 := Lib.hid (rd_grown ((rdUnder HR.out HBB.out).alloc _) HGR.out (fun k hk => by obtain rfl := Option.some.inj hk; omega))
          have HO3 := Lib.hid (Only.grown (r := r) ((HO.out.trans (onlyBelow HBB.out)).alloc _) HGR.out (fun k hk => by obtain rfl := Option.some.inj hk; omega))
          exact ⟨⟨K - 1, g3, c3, _, o ++ [U], _, by go_num, by omega, by omega, by simp [HOL.out]; omega, by simp [HOL.out], by simp [HOL.out]; omega, BW3, Small.app SM.out hux.out, HR3, HO3⟩, by simp [intOf]; omega⟩
        · have hb2 := BW.out.lo
          have BW3 := Lib.hid (BagW.push (t := (g2, c2, vs)) (BW.out.alloc _) (KF.out.alloc _) (by simp only; omega) (by rw [HOL.out]) HOWN.out HGR.out HGG.out)
          have HR3 := Lib.hid (rd_grown (HR.out.alloc _) HGR.out (fun k hk => by obtain rfl := Option.some.inj hk; omega))
          have HO3 := Lib.hid (Only.grown (HO.out.alloc _) HGR.out (fun k hk => by obtain rfl := Option.some.inj hk; omega))
          exact ⟨⟨K - 1, g3, c3, _, o ++ [vs], _, by go_num, by omega, by omega, by simp [HOL.out]; omega, by simp [HOL.out], by simp [HOL.out]; omega, BW3, Small.app SM.out ⟨by omega, KT.out⟩, HR3, HO3⟩, by simp [intOf]; omega⟩
    · clear hol
      go_wp2
      go_ret
      exact ⟨g1, c1, T, o, q, by rw [HOL.out]; rfl, BW.out, ⟨by rw [HOL.out]; omega, SM.out⟩, by omega, HO.out, HR.out⟩
/-- Two lists of rows were drawn. -/
def SeesR (w : World) (g c : Nat) (ls : List RT) : Prop := Rws w g 0 (some ⟨g, 0, none⟩) ls ∧ Small ls ∧ ls.length ≤ c ∧ c ≤ maxLen
theorem SeesR.below {w w' : World} {g c : Nat} {ls : List RT} (h : SeesR w g c ls) (hb : Below w.heap.size w w') : SeesR w' g c ls := ⟨h.1.below hb, h.2⟩
theorem SeesR.alloc {w : World} {g c : Nat} {ls : List RT} (h : SeesR w g c ls) (ob : Obj) : SeesR (w.alloc ob) g c ls := ⟨h.1.alloc ob, h.2⟩
theorem SeesR.drew {w : World} {g c : Nat} {ls : List RT} (h : SeesR w g c ls) : SeesR w.drew g c ls := ⟨h.1.drew, h.2⟩
theorem BagW.caps {w : World} {B g cap : Nat} {T : List TT} {ls : List RT} (h : BagW w B g cap T ls) : ls.length ≤ cap ∧ cap ≤ maxLen := own_caps h.own
theorem BagW.sees {w : World} {B g cap : Nat} {T : List TT} {ls : List RT} (h : BagW w B g cap T ls) (hs : Small ls) : SeesR w g cap ls := ⟨h.rws, hs, h.caps.1, h.caps.2⟩
theorem Bag.sees {w : World} {B g cap : Nat} {T : List TT} {ls : List RT} (h : Bag w B g cap T ls) (hs : Small ls) : SeesR w g cap ls := ⟨h.rws, hs, h.caps.1, h.caps.2⟩
theorem Small.sort {ls : List RT} (h : Small ls) : Small (sortI ls) := ⟨by rw [sortI_len]; exact h.1, fun x hx => h.2 x ((sortI_perm ls).mem_iff.1 hx)⟩
def DrewTwo (r : Nat) (w : World) (e : Ending) (w' : World) : Prop := ∃ (g1 c1 g2 c2 : Nat) (al bs : List RT), e = .returned (.tuple #[.slice (some ⟨g1, 0, none⟩) al.length c1, .slice (some ⟨g2, 0, none⟩) bs.length c2]) ∧ SeesR w' g1 c1 al ∧ SeesR w' g2 c2 bs ∧ Only r w w'
/-- The draws: rows; columns and rows; rows and a row; two lists of rows. -/
def DrewRs (w : World) (e : Ending) (w' : World) : Prop := ∃ (g c : Nat) (ls : List RT), e = .returned (.slice (some ⟨g, 0, none⟩) ls.length c) ∧ SeesR w' g c ls ∧ Below w.heap.size w w'
def DrewCRs (w : World) (e : Ending) (w' : World) : Prop := ∃ (g c g2 c2 : Nat) (cs : List CT) (ls : List RT), e = .returned (.tuple #[.slice (some ⟨g, 0, none⟩) cs.length c, .slice (some ⟨g2, 0, none⟩) ls.length c2]) ∧ cs.length ≤ 6 ∧ Fl w' g 0 (some ⟨g, 0, none⟩) (flatC cs) ∧ SeesR w' g2 c2 ls ∧ Below w.heap.size w w'
def DrewRsV (w : World) (e : Ending) (w' : World) : Prop := ∃ (g c g2 c2 : Nat) (ls : List RT) (vs : List VT), e = .returned (.tuple #[.slice (some ⟨g, 0, none⟩) ls.length c, .slice (some ⟨g2, 0, none⟩) vs.length c2]) ∧ SeesR w' g c ls ∧ vs.length ≤ 110 ∧ Texts vs ∧ Fl w' g2 0 (some ⟨g2, 0, none⟩) (flatV vs) ∧ Below w.heap.size w w'
def DrewRsRs (w : World) (e : Ending) (w' : World) : Prop := ∃ (g c g2 c2 : Nat) (al bs : List RT), e = .returned (.tuple #[.slice (some ⟨g, 0, none⟩) al.length c, .slice (some ⟨g2, 0, none⟩) bs.length c2]) ∧ SeesR w' g c al ∧ SeesR w' g2 c2 bs ∧ Below w.heap.size w w'
end Go.Proofs.Ytjidkjnlnenmbaa.Val
