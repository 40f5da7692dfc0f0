/- Copies of rows of columns, parts, numbers: rows of one's own; Tables and plans: measured, copied, compared (the exact laws' helpers); Tables and plans: compared, measured; Marks laid in columns, tables, plans. -/
import Derived.Test.YtcgjnilkbdamjabTabK
import Derived.Test.YtcgjnilkbdamjabPartS
namespace Go.Proofs.Ytcgjnilkbdamjab.Val
open Go.RowKit
set_option linter.unusedVariables false
end Go.Proofs.Ytcgjnilkbdamjab.Val
namespace Go.Proofs.Ytcgjnilkbdamjab.Val
open Go.RowKit
set_option linter.unusedVariables false
set_option maxRecDepth 8000
/-- A table of an argument. -/
def TabAtA (w : World) (g p : Nat) (t : TB) : Prop := ∃ (A1 : Option Addr) (c1 g1 o1 : Nat) (A2 : Option Addr) (c2 g2 o2 : Nat),
  w.cell? ⟨g, p, none⟩ = some (.slice A1 t.1.length c1) ∧ w.cell? ⟨g, p + 1, none⟩ = some (.slice A2 t.2.length c2) ∧ Fl w g1 o1 A1 (flatC t.1) ∧ RwsA w g2 o2 A2 t.2
structure TbsA (w : World) (g o : Nat) (A : Option Addr) (ts : List TB) : Prop where
  ad : 0 < ts.length → A = some ⟨g, o, none⟩
  hd : ∀ j (h : j < ts.length), TabAtA w g (o + j * 2) ts[j]
theorem TbsA.below {w w' : World} {g o : Nat} {A : Option Addr} {ts : List TB} (h : TbsA w g o A ts) (hb : Below w.heap.size w w') : TbsA w' g o A ts := by
  refine ⟨h.ad, fun j hj => ?_⟩
  obtain ⟨A1, c1, g1, o1, A2, c2, g2, o2, h1, h2, h3, h4⟩ := h.hd j hj
  have hg := World.block_lt_of_cell? w ⟨g, o + j * 2, none⟩ h1
  exact ⟨A1, c1, g1, o1, A2, c2, g2, o2, (hb.cell (p := ⟨g, o + j * 2, none⟩) hg).trans h1, (hb.cell (p := ⟨g, o + j * 2 + 1, none⟩) hg).trans h2, h3.below hb, h4.below hb⟩
theorem TbsA.at {w : World} {g o : Nat} {A : Option Addr} {ts : List TB} (h : TbsA w g o A ts) (j : Nat) (hj : j < ts.length) : A = some ⟨g, o, none⟩ ∧ g < w.heap.size ∧ ∃ (A1 : Option Addr) (c1 g1 o1 : Nat) (A2 : Option Addr) (c2 g2 o2 : Nat),
    w.cell? ⟨g, o + j * 2, none⟩ = some (.slice A1 ts[j].1.length c1) ∧ w.cell? ⟨g, o + j * 2 + 1, none⟩ = some (.slice A2 ts[j].2.length c2) ∧ Fl w g1 o1 A1 (flatC ts[j].1) ∧ RwsA w g2 o2 A2 ts[j].2 := by
  obtain ⟨A1, c1, g1, o1, A2, c2, g2, o2, h1, h2⟩ := h.hd j hj
  exact ⟨h.ad (by omega), World.block_lt_of_cell? w ⟨g, o + j * 2, none⟩ h1, A1, c1, g1, o1, A2, c2, g2, o2, h1, h2⟩
/-- A step of an argument. -/
def StepAtA (w : World) (g p : Nat) (s : SP) : Prop := ∃ (A1 : Option Addr) (c1 g1 o1 : Nat) (A2 : Option Addr) (c2 g2 o2 : Nat),
  w.cell? ⟨g, p, none⟩ = some (.int .i64 s.1) ∧ w.cell? ⟨g, p + 1, none⟩ = some (.int .i64 s.2.1) ∧ w.cell? ⟨g, p + 2, none⟩ = some (.int .i64 s.2.2.1) ∧ w.cell? ⟨g, p + 3, none⟩ = some (.int .i64 s.2.2.2.1) ∧
  w.cell? ⟨g, p + 4, none⟩ = some (.slice A1 s.2.2.2.2.1.length c1) ∧ w.cell? ⟨g, p + 5, none⟩ = some (.slice A2 s.2.2.2.2.2.length c2) ∧ Fl w g1 o1 A1 (flatP s.2.2.2.2.1) ∧ Fl w g2 o2 A2 (s.2.2.2.2.2.map iv)
theorem StepAtA.below {w w' : World} {g p : Nat} {s : SP} (h : StepAtA w g p s) (hb : Below w.heap.size w w') : StepAtA w' g p s := by
  obtain ⟨A1, c1, g1, o1, A2, c2, g2, o2, h0, h1, h2, h3, h4, h5, h6, h7⟩ := h
  have hg := World.block_lt_of_cell? w ⟨g, p, none⟩ h0
  have hc := fun q => hb.cell (p := ⟨g, q, none⟩) hg
  exact ⟨A1, c1, g1, o1, A2, c2, g2, o2, (hc _).trans h0, (hc _).trans h1, (hc _).trans h2, (hc _).trans h3, (hc _).trans h4, (hc _).trans h5, h6.below hb, h7.below hb⟩
structure SpsA (w : World) (g o : Nat) (A : Option Addr) (ps : List SP) : Prop where
  ad : 0 < ps.length → A = some ⟨g, o, none⟩
  hd : ∀ j (h : j < ps.length), StepAtA w g (o + j * 6) ps[j]
theorem SpsA.below {w w' : World} {g o : Nat} {A : Option Addr} {ps : List SP} (h : SpsA w g o A ps) (hb : Below w.heap.size w w') : SpsA w' g o A ps := ⟨h.ad, fun j hj => (h.hd j hj).below hb⟩
theorem SpsA.at {w : World} {g o : Nat} {A : Option Addr} {ps : List SP} (h : SpsA w g o A ps) (j : Nat) (hj : j < ps.length) : A = some ⟨g, o, none⟩ ∧ g < w.heap.size ∧ StepAtA w g (o + j * 6) ps[j] := by
  have hs := h.hd j hj
  have hs2 := hs
  obtain ⟨A1, c1, g1, o1, A2, c2, g2, o2, h0, -⟩ := hs
  exact ⟨h.ad (by omega), World.block_lt_of_cell? w ⟨g, o + j * 6, none⟩ h0, hs2⟩
theorem FlO.set {w : World} {B g c n : Nat} {xs : List Value} (h : FlO w B g c n xs) {b : Nat} (hb : g ≠ b) (j : Nat) (v : Value) : FlO (w.setCell ⟨b, j, none⟩ v) B g c n xs := h.keep (by simp [World.setCell]) (Below.heap_setCell _ _ _ _ hb)
theorem hsetNe {w : World} {b j k : Nat} {v : Value} (h : k ≠ b) : (w.setCell ⟨b, j, none⟩ v).heap[k]? = w.heap[k]? := Below.heap_setCell _ _ _ _ h
theorem Bag.setFar {w : World} {B g cap : Nat} {T : List TT} {ls : List RT} (h : Bag w B g cap T ls) {b : Nat} (hb : b < B) (j : Nat) (v : Value) : Bag (w.setCell ⟨b, j, none⟩ v) B g cap T ls :=
  h.keep (by simp [World.setCell]) (hsetNe (by have := h.lo.1; omega)) fun t ht => hsetNe (by have := (h.rows t ht).lo; omega)
theorem TabO.setFar {w : World} {B : Nat} {u : UT} (h : TabO w B u) {b : Nat} (hb : b < B) (j : Nat) (v : Value) : TabO (w.setCell ⟨b, j, none⟩ v) B u :=
  h.keep (by simp [World.setCell]) fun k hk => hsetNe (by have := (h.hi k hk).1; omega)
theorem infoT : (Try.prog.info? 40).map (fun i => (i.zero, i.size, i.bytes)) = some (some (.agg #[.slice none 0 0, .slice none 0 0]), 2, 48) := by kernel_rfl
theorem infoS : (Try.prog.info? 31).map (fun i => (i.zero, i.size, i.bytes)) = some (some (.agg #[.int .i64 0, .int .i64 0, .int .i64 0, .int .i64 0, .slice none 0 0, .slice none 0 0]), 6, 80) := by kernel_rfl
theorem flat_snoc {α β : Type} (f : α → List β) (U : List α) (u : α) : (U ++ [u]).flatMap f = U.flatMap f ++ f u := by simp
def Fit3 (ts : List TB) : Prop := ∀ t ∈ ts, t.1.length ≤ 1048576 ∧ t.2.length ≤ 1048576 ∧ total t.2 ≤ 1048576
theorem StpO.setFar {w : World} {B : Nat} {u : UP} (h : StpO w B u) {b : Nat} (hb : b < B) (j : Nat) (v : Value) : StpO (w.setCell ⟨b, j, none⟩ v) B u :=
  h.keep (by simp [World.setCell]) fun k hk => hsetNe (by have := (h.hi k hk).1; omega)
def FitS (ps : List SP) : Prop := ∀ s ∈ ps, s.2.2.2.2.1.length ≤ 1048576 ∧ s.2.2.2.2.2.length ≤ 1048576
end Go.Proofs.Ytcgjnilkbdamjab.Val
namespace Go.Proofs.Ytcgjnilkbdamjab.Val
open Go.RowKit
set_option linter.unusedVariables false
set_option maxRecDepth 8000
/-! ### Measured -/
/-- How much tables, plans hold. -/
def cnt1 (t : TB) : Nat := t.1.length + t.2.length + total t.2
def cntT (ts : List TB) : Nat := (ts.map cnt1).sum
def cnt2 (s : SP) : Nat := s.2.2.2.2.1.length + s.2.2.2.2.2.length
def cntS (ps : List SP) : Nat := (ps.map cnt2).sum
theorem sum_snoc {α : Type} (f : α → Nat) (l : List α) (k : Nat) (h : k < l.length) : ((l.take (k + 1)).map f).sum = ((l.take k).map f).sum + f l[k] := by
  rw [List.take_succ_eq_append_getElem h, List.map_append, List.sum_append]; simp
theorem sum_at {α : Type} (f : α → Nat) (l : List α) (x : α) (h : x ∈ l) : f x ≤ (l.map f).sum := by
  induction l with
  | nil => simp at h
  | cons y l ih =>
    rw [List.map_cons, List.sum_cons]
    rcases List.mem_cons.1 h with rfl | h
    · omega
    · have := ih h; omega
def FitT (ts : List TB) : Prop := ∀ t ∈ ts, t.1.length ≤ maxLen ∧ t.2.length ≤ maxLen ∧ Fit2 t.2
def FitP (ps : List SP) : Prop := ∀ s ∈ ps, s.2.2.2.2.1.length ≤ maxLen ∧ ShortP s.2.2.2.2.1 ∧ s.2.2.2.2.2.length ≤ maxLen
theorem FitT.ok {ts : List TB} (h : FitT ts) (hl : ts.length + cntT ts ≤ 1048576) : OkT ts ∧ Fit3 ts := by
  have hx : ∀ t ∈ ts, cnt1 t ≤ 1048576 := fun t ht => by have := sum_at cnt1 ts t ht; rw [cntT] at hl; omega
  refine ⟨⟨by omega, fun t ht => ?_⟩, fun t ht => ?_⟩
  · have := hx t ht
    unfold cnt1 at this
    exact ⟨by omega, (h t ht).2.2.ok (by omega) (by omega)⟩
  · have := hx t ht
    unfold cnt1 at this
    omega
theorem FitP.ok {ps : List SP} (h : FitP ps) (hl : ps.length + cntS ps ≤ 1048576) : OkS ps ∧ FitS ps := by
  have hx : ∀ t ∈ ps, cnt2 t ≤ 1048576 := fun t ht => by have := sum_at cnt2 ps t ht; rw [cntS] at hl; omega
  refine ⟨⟨by omega, fun t ht => ?_⟩, fun t ht => ?_⟩
  · have := hx t ht
    unfold cnt2 at this
    exact ⟨by omega, (h t ht).2.1, by omega⟩
  · have := hx t ht
    unfold cnt2 at this
    omega
end Go.Proofs.Ytcgjnilkbdamjab.Val
namespace Go.Proofs.Ytcgjnilkbdamjab.Val
open Go.RowKit
set_option linter.unusedVariables false
set_option maxRecDepth 8000
/-- The marks of n columns. -/
def marksC (N n : Nat) : List CT := (List.range n).map fun (i : Nat) => ((N : Int) + 2 * (i : Int), (((N : Int) + 2 * (i : Int) + 1) % 3 == 0))
theorem marksC_len (N n : Nat) : (marksC N n).length = n := by simp [marksC]
theorem marksC_get (N n i : Nat) (h : i < n) : (flatC (marksC N n))[i * 2]? = some (.int .i64 ((N : Int) + 2 * i)) ∧ (flatC (marksC N n))[i * 2 + 1]? = some (.bool ((((N : Int) + 2 * (i : Int) + 1) % 3 == 0))) := by
  have hg := flatC_get (marksC N n) i (by rw [marksC_len]; exact h)
  have e : (marksC N n)[i]'(by rw [marksC_len]; exact h) = ((N : Int) + 2 * i, (((N : Int) + 2 * (i : Int) + 1) % 3 == 0)) := by simp [marksC]
  rw [e] at hg
  exact hg
/-! ### Tables -/
def leafU (u : UT) : List Nat := u.1.1 :: u.2.2.2.map fun t => t.1
theorem leaf_blk {u : UT} {b : Nat} (h : b ∈ leafU u) : b ∈ blkU u := by
  simp only [leafU, blkU, List.mem_cons] at h ⊢
  rcases h with h | h
  · exact .inl h
  · exact .inr (.inr h)
theorem nodup_at {α : Type} {f : α → List Nat} {l : List α} (h : (l.flatMap f).Nodup) {i j : Nat} (hi : i < l.length) (hj : j < l.length) (hij : i ≠ j) {b : Nat} (hb : b ∈ f l[i]) : b ∉ f l[j] := by
  induction l generalizing i j with
  | nil => simp at hi
  | cons x l ih =>
    rw [List.flatMap_cons, List.nodup_append] at h
    intro hc
    cases i with
    | zero =>
      cases j with
      | zero => exact hij rfl
      | succ j => exact h.2.2 b hb b (List.mem_flatMap.2 ⟨_, List.getElem_mem (by simpa using hj), hc⟩) rfl
    | succ i =>
      cases j with
      | zero => exact h.2.2 b hc b (List.mem_flatMap.2 ⟨_, List.getElem_mem (by simpa using hi), hb⟩) rfl
      | succ j => exact ih h.2.1 (by simpa using hi) (by simpa using hj) (by omega) hb hc
theorem nodup_one {α : Type} {f : α → List Nat} {l : List α} (h : (l.flatMap f).Nodup) {x : α} (hx : x ∈ l) : (f x).Nodup := by
  induction l with
  | nil => simp at hx
  | cons y l ih =>
    rw [List.flatMap_cons, List.nodup_append] at h
    rcases List.mem_cons.1 hx with rfl | hx
    · exact h.1
    · exact ih h.2.1 hx
theorem OnlyT.trans {bs cs : List Nat} {w w1 w2 : World} (h : OnlyT bs w w1) (k : OnlyT cs w1 w2) (hs : ∀ b ∈ cs, b ∈ bs) : OnlyT bs w w2 :=
  ⟨k.os.trans h.os, k.tape.trans h.tape, k.output.trans h.output, Nat.le_trans h.size k.size, fun b hb hbb => (k.block b (Nat.lt_of_lt_of_le hb h.size) (fun e => hbb (hs b e))).trans (h.block b hb hbb)⟩
theorem TabO.onlyT {w w' : World} {B : Nat} {u : UT} {bs : List Nat} (h : TabO w B u) (ho : OnlyT bs w w') (hb : ∀ b ∈ blkU u, b ∉ bs) : TabO w' B u := h.keep ho.size fun b hm => ho.block b (h.hi b hm).2 (hb b hm)
theorem bag_only {w w' : World} {B g cap r : Nat} {T : List TT} {ls : List RT} (h : Bag w B g cap T ls) (ho : Only r w w') (hg : g ≠ r) (ht : ∀ t ∈ T, t.1 ≠ r) : Bag w' B g cap T ls :=
  h.keep ho.size (ho.block _ h.lo.2 hg) fun t hm => ho.block _ (h.rows t hm).hi (ht t hm)
theorem cntT_get (ts : List TB) (k : Nat) (h : k < ts.length) : cntT (ts.take k) + cnt1 ts[k] ≤ cntT ts := by
  have h1 := sum_snoc cnt1 ts k h
  have h2 : cntT (ts.take (k + 1)) + cntT (ts.drop (k + 1)) = cntT ts := by
    rw [cntT, cntT, cntT, ← List.sum_append, ← List.map_append, List.take_append_drop]
  unfold cntT at h2 ⊢
  omega
/-! ### Plans -/
theorem Free.far {w : World} {g n b : Nat} (h : Free w g n) (hb : g ≠ b) (j : Nat) (v : Value) : Free (w.setCell ⟨b, j, none⟩ v) g n :=
  fun i hi => ⟨⟨_, (cellOf (hsetNe hb)).trans (h i hi).1.choose_spec⟩, (frozenOf (hsetNe hb)).trans (h i hi).2⟩
theorem Free.onlyF {w w' : World} {g n r : Nat} (h : Free w g n) (ho : Only r w w') (hr : g ≠ r) : Free w' g n :=
  fun i hi => by
    obtain ⟨⟨v, hv⟩, hf⟩ := h i hi
    have hg := World.block_lt_of_cell? w ⟨g, i, none⟩ hv
    exact ⟨⟨v, (cellOf (ho.block g hg hr)).trans hv⟩, (frozenOf (ho.block g hg hr)).trans hf⟩
theorem cntS_get (ps : List SP) (k : Nat) (h : k < ps.length) : cntS (ps.take k) + cnt2 ps[k] ≤ cntS ps := by
  have h1 := sum_snoc cnt2 ps k h
  have h2 : cntS (ps.take (k + 1)) + cntS (ps.drop (k + 1)) = cntS ps := by
    rw [cntS, cntS, cntS, ← List.sum_append, ← List.map_append, List.take_append_drop]
  unfold cntS at h2 ⊢
  omega
/-- The headers of steps that can still be read. -/
def Heads (w : World) (g n : Nat) (U : List UP) : Prop := Free w g (n * 6) ∧ ∀ j (h : j < U.length), w.cell? ⟨g, j * 6 + 4, none⟩ = some (hdE U[j]) ∧ w.cell? ⟨g, j * 6 + 5, none⟩ = some (hdL U[j])
theorem Heads.keep {w w' : World} {g n : Nat} {U : List UP} (h : Heads w g n U) (hk : w'.heap[g]? = w.heap[g]?) : Heads w' g n U :=
  ⟨fun j hj => ⟨⟨_, (cellOf hk).trans (h.1 j hj).1.choose_spec⟩, (frozenOf hk).trans (h.1 j hj).2⟩, fun j hj => ⟨(cellOf hk).trans (h.2 j hj).1, (cellOf hk).trans (h.2 j hj).2⟩⟩
theorem Heads.set {w : World} {g n : Nat} {U : List UP} (h : Heads w g n U) (k m : Nat) (hm : m < 4) (v : Value) : Heads (w.setCell ⟨g, k * 6 + m, none⟩ v) g n U :=
  ⟨h.1.set _ v, fun j hj => ⟨(World.cell?_setCell_other _ _ _ _ (offNe (.inl (by omega)))).trans (h.2 j hj).1, (World.cell?_setCell_other _ _ _ _ (offNe (.inl (by omega)))).trans (h.2 j hj).2⟩⟩
theorem OnlyT.set {bs : List Nat} {w w1 : World} (h : OnlyT bs w w1) {g j : Nat} {v : Value} (hg : g ∈ bs) : OnlyT bs w (w1.setCell ⟨g, j, none⟩ v) := h.only (Only.set _ _ _) hg
end Go.Proofs.Ytcgjnilkbdamjab.Val
