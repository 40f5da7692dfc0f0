/- A row put in its place (rowPut); impl.RowsSorted; spec.RowsSorted; What drawing rows of rows leaves (l20Bag, l20Two). -/
import Derived.Test.YtacinjbaebimhaaGreatBagQ
import Derived.Test.YtacinjbaebimhaaGreatDrawS2Q
import Derived.BigQuiet
namespace Go.Proofs.YtacinjbaebimhaaGreat.Val
open Go.RowKit
set_option linter.unusedSimpArgs false
set_option linter.unusedVariables false
set_option maxRecDepth 8000
theorem insL_end {α : Type} (D : List α) (x : α) : insL D D.length x = D ++ [x] := by simp [insL]
theorem insL_set {α : Type} (D : List α) (k : Nat) (y x : α) (hk : k ≤ D.length) : (insL D k y).set k x = insL D k x := by
  have hl : (D.take k).length = k := by simp; omega
  unfold insL
  rw [List.set_append_right _ _ (by omega), hl, Nat.sub_self, List.set_cons_zero]
/-- Headers with a place in between. -/
structure Mid (w : World) (B g cap n : Nat) (T : List TT) (t : TT) (k : Nat) (y : Value) : Prop where
  own : w.ownsRow B 50 1 (.slice (some ⟨g, 0, none⟩) n cap) n (insL (T.map hdr) k y)
  len : n = T.length + 1
  k : k ≤ T.length
  rows : ∀ u ∈ T, RowO w B u
  row : RowO w B t
  nd : ((T ++ [t]).map fun t => t.1).Nodup
  ng : ∀ u ∈ T ++ [t], u.1 ≠ g
theorem Mid.lo {w : World} {B g cap n k : Nat} {T : List TT} {t : TT} {y : Value} (h : Mid w B g cap n T t k y) : B ≤ g ∧ g < w.heap.size := h.own.lt g rfl
theorem Mid.below {w w' : World} {B g cap n k : Nat} {T : List TT} {t : TT} {y : Value} (h : Mid w B g cap n T t k y) (hb : Below w.heap.size w w') : Mid w' B g cap n T t k y :=
  ⟨own_keep h.own (hb.block _ h.lo.2), h.len, h.k, fun u hu => (h.rows u hu).below hb, h.row.below hb, h.nd, h.ng⟩
theorem Mid.cell {w : World} {B g cap n k : Nat} {T : List TT} {t : TT} {y : Value} (h : Mid w B g cap n T t k y) (j : Nat) (hj : j < k) (hj2 : j < T.length) : w.cell? ⟨g, j, none⟩ = some (hdr T[j]) := by
  have := h.len
  rw [h.own.cellAt j (by omega), insL_get _ _ _ (by have := h.k; simpa using this), if_pos hj, List.getElem?_map, List.getElem?_eq_getElem hj2]; rfl
theorem Mid.there {w : World} {B g cap n k : Nat} {T : List TT} {t : TT} {y : Value} (h : Mid w B g cap n T t k y) : ∃ v, w.cell? ⟨g, k, none⟩ = some v := by
  have := h.len
  have := h.k
  rw [h.own.cellAt k (by omega), insL_get _ _ _ (by simpa using h.k), if_neg (by omega), if_pos rfl]
  exact ⟨_, rfl⟩
theorem Mid.set {w : World} {B g cap n k : Nat} {T : List TT} {t : TT} {y : Value} (h : Mid w B g cap n T t k y) (x : Value) : Mid (w.setCell ⟨g, k, none⟩ x) B g cap n T t k x := by
  have hk : ∀ u : TT, u.1 ≠ g → (w.setCell ⟨g, k, none⟩ x).heap[u.1]? = w.heap[u.1]? := fun u hu => Below.heap_setCell _ _ _ _ hu
  refine ⟨?_, h.len, h.k, fun u hu => (h.rows u hu).keep (by simp [World.setCell]) (hk u (h.ng u (by simp [hu]))), h.row.keep (by simp [World.setCell]) (hk t (h.ng t (by simp))), h.nd, h.ng⟩
  have := (h.own.stored k x).1
  rwa [insL_set _ _ _ _ (by simpa using h.k)] at this
theorem Mid.start {w : World} {B g cap : Nat} {T : List TT} {t : TT} {ls : List RT} {r : RT} (h : Bag w B g cap (T ++ [t]) (ls ++ [r])) : Mid w B g cap (ls.length + 1) T t T.length (hdr t) := by
  have hl := h.len
  simp only [List.length_append, List.length_singleton] at hl
  refine ⟨?_, by omega, Nat.le_refl _, fun u hu => h.rows u (by simp [hu]), h.rows t (by simp), h.nd, h.ng⟩
  have h1 := h.own
  rw [List.length_append, List.length_singleton, List.map_append] at h1
  have e : insL (T.map hdr) T.length (hdr t) = T.map hdr ++ [hdr t] := by
    have := insL_end (T.map hdr) (hdr t)
    rwa [List.length_map] at this
  rw [e]; exact h1
theorem Mid.done {w : World} {B g cap n k : Nat} {T : List TT} {t : TT} {ls : List RT} (hls : T.map (fun t => t.2.2) = ls) (hk : k = posI ls t.2.2 ls.length) (h : Mid w B g cap n T t k (hdr t)) : Bag w B g cap (insL T k t) (putI ls t.2.2) := by
  have hp := insL_perm T k t
  have hp2 : List.Perm (insL T k t) (T ++ [t]) := hp.trans (List.perm_append_singleton t T).symm
  have hll : ls.length = T.length := by rw [← hls, List.length_map]
  refine ⟨by rw [insL_map, hls, putI, ← hk], ?_, ?_, ?_, ?_⟩
  · rw [putI_len, insL_map, hll, ← h.len]; exact h.own
  · intro u hu
    rcases List.mem_cons.1 (hp.mem_iff.1 hu) with rfl | hu
    · exact h.row
    · exact h.rows u hu
  · exact (hp2.map _).nodup_iff.2 h.nd
  · exact fun u hu => h.ng u (hp2.mem_iff.1 hu)
end Go.Proofs.YtacinjbaebimhaaGreat.Val
namespace Go.Proofs.YtacinjbaebimhaaGreat.Val
open Go.RowKit
set_option linter.unusedSimpArgs false
set_option linter.unusedVariables false
set_option maxRecDepth 20000
theorem step_block {P : Program} {w : World} {ops : Array Oper} {o : Oper} {a : Act} {K : Act → World → Prop} {Q : Exit → Act → World → Prop} {E : Prop} (hgd : o.guard = none) (s x : Operand) (t : TypeId)
    (ho : o.op = .call { callee := .builtin .append, args := #[s, x], argTypes := #[t, t] })
    (base : Nat) (e : TypeId) (i : TypeInfo) (z : Value) (size bytes : Nat) (ht : P.underlying t = some (.slice e)) (hi : P.info? e = some i) (hz : i.zero = some z)
    (hsize : i.size = size) (hby : i.bytes = bytes) (hzs : z.cells.size = size) (hsz : 0 < size)
    (g n cap : Nat) (xs : List Value) (hs : a.eval s = .slice (some ⟨g, 0, none⟩) n cap) (hown : w.ownsRow base e size (.slice (some ⟨g, 0, none⟩) n cap) n xs)
    (ad : Addr) (m c : Nat) (news : List Value) (hx : a.eval x = .slice (some ad) m c) (hl : news.length = m * size) (hnews : ∀ j u, news[j]? = some u → w.cell? (ad.add j) = some u) (h1 : ∀ u ∈ news, u.oneCell' = true)
    (h63 : n + m ≤ maxLen) (hbytes : (n + m) * bytes ≤ 140737488355328) (hbase : base ≤ w.heap.size)
    (h : ∀ g' cap' w', w'.ownsRow base e size (.slice (some ⟨g', 0, none⟩) (n + m) cap') (n + m) (xs ++ news) → w.grownBy w' (some g) → (g' = g ∨ w.heap.size ≤ g') → K (a.put o.dst (.slice (some ⟨g', 0, none⟩) (n + m) cap')) w') :
    if Region.wanted o (yielded ops a.tmps) = true then Oper.wp P o a w K Q else E := by
  have hw : Region.wanted o (yielded ops a.tmps) = true := by simp [Region.wanted, hgd]
  rw [if_pos hw]
  obtain ⟨g', cap', w', hr, h2, h3, h4⟩ := run_append_block (P := P) w base t o.type e i z size bytes ht hi hz hsize hby hzs hsz g n cap xs hown ad m c news hl hnews h1 h63 hbytes hbase
  unfold Oper.wp execOp
  simp only [ho, resolve, invoke, builtin, Sem.run_bind, Sem.run_pure, Result.andThen_ok, List.map_toArray, List.map_cons, List.map_nil, hs, hx, hr]
  exact h g' cap' w' h2 h3 h4
end Go.Proofs.YtacinjbaebimhaaGreat.Val
namespace Go.Proofs.YtacinjbaebimhaaGreat.Val
open Go.RowKit
set_option linter.unusedSimpArgs false
set_option linter.unusedVariables false
set_option maxRecDepth 8000
structure RowF (w : World) (B : Nat) (t : TT) : Prop where
  fl : Fl w t.1 0 (some ⟨t.1, 0, none⟩) (flatV t.2.2)
  lo : B ≤ t.1
  hi : t.1 < w.heap.size
theorem RowF.keep {w w' : World} {B : Nat} {t : TT} (h : RowF w B t) (hz : w.heap.size ≤ w'.heap.size) (hk : w'.heap[t.1]? = w.heap[t.1]?) : RowF w' B t :=
  ⟨h.fl.keep fun _ j => cellOf hk, h.lo, Nat.lt_of_lt_of_le h.hi hz⟩
theorem RowF.alloc {w : World} {B : Nat} {t : TT} (h : RowF w B t) (ob : Obj) : RowF (w.alloc ob) B t := h.keep (by simp) (Below.heap_alloc _ _ _ h.hi)
/-- Rows that were drawn: in blocks from B on. -/
structure BagW (w : World) (B g cap : Nat) (T : List TT) (ls : List RT) : Prop where
  eq : T.map (fun t => t.2.2) = ls
  own : w.ownsRow B 50 1 (.slice (some ⟨g, 0, none⟩) ls.length cap) ls.length (T.map hdr)
  rows : ∀ t ∈ T, RowF w B t
  ng : ∀ t ∈ T, t.1 ≠ g
theorem BagW.len {w : World} {B g cap : Nat} {T : List TT} {ls : List RT} (h : BagW w B g cap T ls) : T.length = ls.length := by rw [← h.eq, List.length_map]
theorem BagW.lo {w : World} {B g cap : Nat} {T : List TT} {ls : List RT} (h : BagW w B g cap T ls) : B ≤ g ∧ g < w.heap.size := h.own.lt g rfl
theorem BagW.keep {w w' : World} {B g cap : Nat} {T : List TT} {ls : List RT} (h : BagW w B g cap T ls) (hz : w.heap.size ≤ w'.heap.size) (hg : w'.heap[g]? = w.heap[g]?) (hk : ∀ t ∈ T, w'.heap[t.1]? = w.heap[t.1]?) : BagW w' B g cap T ls :=
  ⟨h.eq, own_keep h.own hg, fun t ht => (h.rows t ht).keep hz (hk t ht), h.ng⟩
theorem BagW.alloc {w : World} {B g cap : Nat} {T : List TT} {ls : List RT} (h : BagW w B g cap T ls) (ob : Obj) : BagW (w.alloc ob) B g cap T ls :=
  h.keep (by simp) (Below.heap_alloc _ _ _ h.lo.2) fun t ht => Below.heap_alloc _ _ _ (h.rows t ht).hi
theorem BagW.drew {w : World} {B g cap : Nat} {T : List TT} {ls : List RT} (h : BagW w B g cap T ls) : BagW w.drew B g cap T ls := h.keep (Nat.le_refl _) rfl fun t ht => rfl
theorem BagW.below {w w' : World} {B g cap : Nat} {T : List TT} {ls : List RT} (h : BagW w B g cap T ls) (hb : Below w.heap.size w w') : BagW w' B g cap T ls :=
  h.keep hb.size (hb.block _ h.lo.2) fun t ht => hb.block _ (h.rows t ht).hi
theorem BagW.only {w w' : World} {B g cap r : Nat} {T : List TT} {ls : List RT} (h : BagW w B g cap T ls) (hr : r < B) (ho : Only r w w') : BagW w' B g cap T ls :=
  h.keep ho.size (ho.block _ h.lo.2 (by have := h.lo.1; omega)) fun t ht => ho.block _ (h.rows t ht).hi (by have := (h.rows t ht).lo; omega)
theorem BagW.rws {w : World} {B g cap : Nat} {T : List TT} {ls : List RT} (h : BagW w B g cap T ls) : Rws w g 0 (some ⟨g, 0, none⟩) ls := by
  have hl := h.len
  refine ⟨fun _ => rfl, fun j hj => ?_⟩
  have hj2 : j < T.length := by omega
  have hr := h.rows T[j] (List.getElem_mem _)
  have he : ls[j] = T[j].2.2 := by
    have := h.eq
    subst this
    simp
  refine ⟨T[j].2.1, T[j].1, 0, ?_, ?_⟩
  · rw [Nat.zero_add, h.own.cellAt j (by omega), List.getElem?_map, List.getElem?_eq_getElem hj2, he]; rfl
  · rw [he]; exact hr.fl
theorem BagW.push {w w' : World} {B g cap g' cap' n : Nat} {T : List TT} {ls : List RT} {t : TT} (h : BagW w B g cap T ls) (ht : RowF w B t) (hg : t.1 ≠ g) (hnl : n = ls.length + 1)
    (hown : w'.ownsRow B 50 1 (.slice (some ⟨g', 0, none⟩) n cap') n (T.map hdr ++ [hdr t])) (hgr : w.grownBy w' (some g)) (hgg : g' = g ∨ w.heap.size ≤ g') : BagW w' B g' cap' (T ++ [t]) (ls ++ [t.2.2]) := by
  subst hnl
  have hk : ∀ u, RowF w B u → u.1 ≠ g → RowF w' B u := fun u hu hne => hu.keep hgr.size (hgr.block _ hu.hi (fun e => hne (Option.some.inj e)))
  refine ⟨by rw [List.map_append, h.eq]; rfl, ?_, ?_, ?_⟩
  · rw [List.length_append, List.map_append]; exact hown
  · intro u hu
    rcases List.mem_append.1 hu with hu | hu
    · exact hk u (h.rows u hu) (h.ng u hu)
    · obtain rfl := List.mem_singleton.1 hu
      exact hk _ ht hg
  · intro u hu e
    have hlt : u.1 < w.heap.size ∧ u.1 ≠ g := by
      rcases List.mem_append.1 hu with hu | hu
      · exact ⟨(h.rows u hu).hi, h.ng u hu⟩
      · obtain rfl := List.mem_singleton.1 hu
        exact ⟨ht.hi, hg⟩
    rcases hgg with hgg | hgg
    · exact hlt.2 (e.trans hgg)
    · omega
theorem RowF.of {w : World} {B g c : Nat} {vs : List VT} (h : Fl w g 0 (some ⟨g, 0, none⟩) (flatV vs)) (h0 : 0 < vs.length) (hB : B ≤ g) : RowF w B (g, c, vs) := by
  have hl := flatV_len vs
  exact ⟨h, hB, h.lt (by omega)⟩
theorem RowO.rowF {w : World} {B : Nat} {t : TT} (h : RowO w B t) : RowF w B t := ⟨h.fl, h.lo, h.hi⟩
theorem onlyBelow {g : Nat} {w w' : World} (hb : Below w.heap.size w w') : Only g w w' := ⟨hb.os, hb.tape, hb.output, hb.size, fun k hk _ => hb.block k hk⟩
theorem rdUnder {B r : Nat} {w w' : World} {p : Int} (h : RdOk B r w p) (hb : Below w.heap.size w w') : RdOk B r w' p :=
  h.keep hb.size fun k hk => hb.block k (by have := h.ge; have := h.lt; omega)
/-- Rows of few values, of short texts. -/
def Small (ls : List RT) : Prop := ls.length ≤ 6 ∧ ∀ x ∈ ls, x.length ≤ 110 ∧ Texts x
theorem Small.ok {ls : List RT} (h : Small ls) : Ok2 ls := ⟨by have := h.1; omega, fun r hr => ⟨by have := (h.2 r hr).1; omega, (h.2 r hr).2.short⟩⟩
theorem Small.app {ls : List RT} {x : RT} (h : ∀ x ∈ ls, x.length ≤ 110 ∧ Texts x) (hx : x.length ≤ 110 ∧ Texts x) : ∀ y ∈ ls ++ [x], y.length ≤ 110 ∧ Texts y := fun y hy => by
  rcases List.mem_append.1 hy with hy | hy
  · exact h y hy
  · obtain rfl := List.mem_singleton.1 hy; exact hx
/-- Two lists of rows were drawn. -/
def SeesR (w : World) (g c : Nat) (ls : List RT) : Prop := Rws w g 0 (some ⟨g, 0, none⟩) ls ∧ Small ls ∧ ls.length ≤ c ∧ c ≤ maxLen
theorem SeesR.below {w w' : World} {g c : Nat} {ls : List RT} (h : SeesR w g c ls) (hb : Below w.heap.size w w') : SeesR w' g c ls := ⟨h.1.below hb, h.2⟩
theorem SeesR.alloc {w : World} {g c : Nat} {ls : List RT} (h : SeesR w g c ls) (ob : Obj) : SeesR (w.alloc ob) g c ls := ⟨h.1.alloc ob, h.2⟩
theorem SeesR.drew {w : World} {g c : Nat} {ls : List RT} (h : SeesR w g c ls) : SeesR w.drew g c ls := ⟨h.1.drew, h.2⟩
theorem BagW.caps {w : World} {B g cap : Nat} {T : List TT} {ls : List RT} (h : BagW w B g cap T ls) : ls.length ≤ cap ∧ cap ≤ maxLen := own_caps h.own
end Go.Proofs.YtacinjbaebimhaaGreat.Val
