/- Bags of rows: how many, in order, each once, less: plain facts; Rows of rows: headers that lie; rows of headers of one's own over rows of one's own; How many of rows are a row: rowIs, l3Same, RowMany; A row of one's own with the values of another one (rowCopy, l3Own); RowsOnce, both sides; SameBag, RowsOk, both sides. -/
import Derived.Test.YtacinjbaebimhaaGreatRowXQ
import Derived.Test.YtacinjbaebimhaaGreatAMathQ
import Derived.Test.YtacinjbaebimhaaGreatOwnKQ
import Derived.Test.YtacinjbaebimhaaGreatAppBQ
import Derived.Test.YtacinjbaebimhaaGreatRowFQ
import Derived.Deep.RegionHeldLaw
namespace Go.Proofs.YtacinjbaebimhaaGreat.Val
open Go.RowKit
open List (Perm)
set_option linter.unusedVariables false
abbrev RT := List VT
instance rtEq : BEq (List VT) := instBEqOfDecidableEq
instance rtLaw : LawfulBEq (List VT) := { eq_of_beq := fun h => of_decide_eq_true h, rfl := decide_eq_true rfl }
/-- Where a row goes: behind the last one of the first k that does not come behind it. -/
def posI (ls : List RT) (r : RT) : Nat → Nat
  | 0 => 0
  | k + 1 => if 0 < rowI (ls.getD k []) r then posI ls r k else k + 1
def insL {α : Type} (l : List α) (p : Nat) (x : α) : List α := l.take p ++ x :: l.drop p
theorem insL_len {α : Type} (l : List α) (p : Nat) (x : α) : (insL l p x).length = l.length + 1 := by
  simp [insL]; omega
theorem insL_perm {α : Type} (l : List α) (p : Nat) (x : α) : Perm (insL l p x) (x :: l) := by
  unfold insL
  refine (List.perm_middle).trans ?_
  rw [List.take_append_drop]
theorem insL_map {α β : Type} (f : α → β) (l : List α) (p : Nat) (x : α) : (insL l p x).map f = insL (l.map f) p (f x) := by
  simp [insL, List.map_take, List.map_drop]
theorem insL_get {α : Type} (l : List α) (p : Nat) (x : α) (hp : p ≤ l.length) (k : Nat) : (insL l p x)[k]? = if k < p then l[k]? else if k = p then some x else l[k - 1]? := by
  have hl : (l.take p).length = p := by simp; omega
  unfold insL
  by_cases h1 : k < p
  · rw [if_pos h1, List.getElem?_append_left (by omega), List.getElem?_take, if_pos h1]
  · rw [if_neg h1, List.getElem?_append_right (by omega), hl]
    by_cases h2 : k = p
    · subst h2; simp
    · rw [if_neg h2]
      obtain ⟨j, hj⟩ : ∃ j, k - p = j + 1 := ⟨k - p - 1, by omega⟩
      rw [hj, List.getElem?_cons_succ, List.getElem?_drop]
      congr 1; omega
def putI (ls : List RT) (r : RT) : List RT := insL ls (posI ls r ls.length) r
theorem fold_take {α β : Type} (f : β → α → β) (b : β) (l : List α) (k : Nat) (h : k < l.length) : (l.take (k + 1)).foldl f b = f ((l.take k).foldl f b) l[k] := by
  rw [List.take_succ_eq_append_getElem h, List.foldl_append]; rfl
theorem putI_len (ls : List RT) (r : RT) : (putI ls r).length = ls.length + 1 := insL_len _ _ _
def onceF (o : List RT) (r : RT) : List RT := if o.count r = 0 then o ++ [r] else o
def onceI (l : List RT) : List RT := l.foldl onceF []
theorem onceI_snoc (l : List RT) (k : Nat) (h : k < l.length) : onceI (l.take (k + 1)) = onceF (onceI (l.take k)) l[k] := fold_take _ _ _ _ h
theorem onceF_mem {o : List RT} {r x : RT} : x ∈ onceF o r ↔ x ∈ o ∨ x = r := by
  unfold onceF; split
  · simp
  · rename_i h
    have : r ∈ o := List.count_pos_iff.1 (by omega)
    constructor
    · exact Or.inl
    · rintro (h | rfl)
      · exact h
      · exact this
theorem onceF_nodup {o : List RT} (h : o.Nodup) (r : RT) : (onceF o r).Nodup := by
  unfold onceF; split
  · rename_i h0
    have hr : r ∉ o := List.count_eq_zero.1 h0
    rw [List.nodup_append]
    exact ⟨h, by simp, fun a ha b hb => by simp at hb; subst hb; intro e; subst e; exact hr ha⟩
  · exact h
theorem once_fold (l o : List RT) (h : o.Nodup) : (l.foldl onceF o).Nodup ∧ ∀ x, x ∈ l.foldl onceF o ↔ x ∈ o ∨ x ∈ l := by
  induction l generalizing o with
  | nil => exact ⟨h, fun x => by simp⟩
  | cons r l ih =>
    obtain ⟨h1, h2⟩ := ih _ (onceF_nodup h r)
    refine ⟨h1, fun x => ?_⟩
    rw [List.foldl_cons, h2, onceF_mem, List.mem_cons, or_assoc]
theorem once_mem (l : List RT) (x : RT) : x ∈ onceI l ↔ x ∈ l := by rw [onceI, (once_fold l [] (by simp)).2]; simp
theorem once_len_le (l o : List RT) : (l.foldl onceF o).length ≤ o.length + l.length := by
  induction l generalizing o with
  | nil => simp
  | cons r l ih =>
    have h1 := ih (onceF o r)
    have h2 : (onceF o r).length ≤ o.length + 1 := by unfold onceF; split <;> simp
    simp only [List.foldl_cons, List.length_cons]; omega
theorem once_len (l : List RT) : (onceI l).length ≤ l.length := by
  have := once_len_le l []
  simp only [List.length_nil] at this
  show (l.foldl onceF []).length ≤ _
  omega
def total (l : List RT) : Nat := (l.map List.length).sum
end Go.Proofs.YtacinjbaebimhaaGreat.Val
namespace Go.Proofs.YtacinjbaebimhaaGreat.Val
open Go.RowKit
set_option linter.unusedVariables false
theorem cellOf {w w' : World} {g o : Nat} (h : w'.heap[g]? = w.heap[g]?) : w'.cell? ⟨g, o, none⟩ = w.cell? ⟨g, o, none⟩ := World.cell?_of_block (a := ⟨g, o, none⟩) h
theorem frozenOf {w w' : World} {g o : Nat} (h : w'.heap[g]? = w.heap[g]?) : w'.frozen? ⟨g, o, none⟩ = w.frozen? ⟨g, o, none⟩ := World.frozen?_of_block (a := ⟨g, o, none⟩) h
/-- The rows ls lie: their headers in block g from cell o on, each row somewhere. -/
structure Rws (w : World) (g o : Nat) (A : Option Addr) (ls : List RT) : Prop where
  ad : 0 < ls.length → A = some ⟨g, o, none⟩
  hd : ∀ j (h : j < ls.length), ∃ (c' g' o' : Nat), w.cell? ⟨g, o + j, none⟩ = some (.slice (some ⟨g', o', none⟩) ls[j].length c') ∧ Fl w g' o' (some ⟨g', o', none⟩) (flatV ls[j])
theorem Rws.below {w w' : World} {g o : Nat} {A : Option Addr} {ls : List RT} (h : Rws w g o A ls) (hb : Below w.heap.size w w') : Rws w' g o A ls := by
  refine ⟨h.ad, fun j hj => ?_⟩
  obtain ⟨c', g', o', h1, h2⟩ := h.hd j hj
  exact ⟨c', g', o', (hb.cell (p := ⟨g, o + j, none⟩) (World.block_lt_of_cell? w ⟨g, o + j, none⟩ h1)).trans h1, h2.below hb⟩
theorem Rws.alloc {w : World} {g o : Nat} {A : Option Addr} {ls : List RT} (h : Rws w g o A ls) (ob : Obj) : Rws (w.alloc ob) g o A ls := h.below ((Below.refl _ _).alloc (Nat.le_refl _) _)
theorem Rws.drew {w : World} {g o : Nat} {A : Option Addr} {ls : List RT} (h : Rws w g o A ls) : Rws w.drew g o A ls := h.below ((Below.refl _ _).drew)
theorem Rws.take {w : World} {g o : Nat} {A : Option Addr} {ls : List RT} (h : Rws w g o A ls) (k : Nat) : Rws w g o A (ls.take k) := by
  refine ⟨fun h0 => h.ad (by simp at h0; omega), fun j hj => ?_⟩
  have hj2 : j < ls.length := by simp at hj; omega
  have := h.hd j hj2
  simpa using this
theorem Rws.drop {w : World} {g o : Nat} {A : Option Addr} {ls : List RT} (h : Rws w g o A ls) (k : Nat) : Rws w g (o + k) (some ⟨g, o + k, none⟩) (ls.drop k) := by
  refine ⟨fun h0 => rfl, fun j hj => ?_⟩
  have hj2 : k + j < ls.length := by simp at hj; omega
  have := h.hd (k + j) hj2
  simpa [Nat.add_assoc] using this
theorem Rws.at {w : World} {g o : Nat} {A : Option Addr} {ls : List RT} (h : Rws w g o A ls) (j : Nat) (hj : j < ls.length) : A = some ⟨g, o, none⟩ ∧ g < w.heap.size ∧ ∃ (c' g' o' : Nat), w.cell? ⟨g, o + j, none⟩ = some (.slice (some ⟨g', o', none⟩) ls[j].length c') ∧ Fl w g' o' (some ⟨g', o', none⟩) (flatV ls[j]) := by
  obtain ⟨c', g', o', h1, h2⟩ := h.hd j hj
  exact ⟨h.ad (by omega), World.block_lt_of_cell? w ⟨g, o + j, none⟩ h1, c', g', o', h1, h2⟩
/-- Rows, texts that a machine can hold. -/
def Ok2 (ls : List RT) : Prop := ls.length ≤ 2000000 ∧ ∀ r ∈ ls, r.length ≤ 2000000 ∧ Short r
theorem Ok2.at {ls : List RT} (h : Ok2 ls) (j : Nat) (hj : j < ls.length) : ls[j].length ≤ 2000000 ∧ Short ls[j] := h.2 _ (List.getElem_mem _)
theorem Ok2.sub {ls ms : List RT} (h : Ok2 ls) (hl : ms.length ≤ 2000000) (hm : ∀ r ∈ ms, r ∈ ls) : Ok2 ms := ⟨hl, fun r hr => h.2 r (hm r hr)⟩
abbrev TT := Nat × Nat × RT
def hdr (t : TT) : Value := .slice (some ⟨t.1, 0, none⟩) t.2.2.length t.2.1
structure RowO (w : World) (B : Nat) (t : TT) : Prop where
  fl : Fl w t.1 0 (some ⟨t.1, 0, none⟩) (flatV t.2.2)
  fz : ∀ j, j < (flatV t.2.2).length → w.frozen? ⟨t.1, j, none⟩ = false
  lo : B ≤ t.1
  hi : t.1 < w.heap.size
theorem RowO.keep {w w' : World} {B : Nat} {t : TT} (h : RowO w B t) (hz : w.heap.size ≤ w'.heap.size) (hk : w'.heap[t.1]? = w.heap[t.1]?) : RowO w' B t :=
  ⟨h.fl.keep fun _ j => cellOf hk, fun j hj => (frozenOf hk).trans (h.fz j hj), h.lo, Nat.lt_of_lt_of_le h.hi hz⟩
theorem RowO.below {w w' : World} {B : Nat} {t : TT} (h : RowO w B t) (hb : Below w.heap.size w w') : RowO w' B t := h.keep hb.size (hb.block _ h.hi)
theorem RowO.alloc {w : World} {B : Nat} {t : TT} (h : RowO w B t) (ob : Obj) : RowO (w.alloc ob) B t := h.below ((Below.refl _ _).alloc (Nat.le_refl _) _)
theorem RowO.drew {w : World} {B : Nat} {t : TT} (h : RowO w B t) : RowO w.drew B t := h.below ((Below.refl _ _).drew)
theorem RowO.lower {w : World} {B B' : Nat} {t : TT} (h : RowO w B t) (hB : B' ≤ B) : RowO w B' t := ⟨h.fl, h.fz, Nat.le_trans hB h.lo, h.hi⟩
theorem RowO.of_own {w : World} {B g c : Nat} {e : TypeId} {l : RT} (h : w.ownsRow B e 3 (.slice (some ⟨g, 0, none⟩) l.length c) l.length (flatV l)) : RowO w B (g, c, l) := by
  have hl := flatV_len l
  refine ⟨⟨fun _ => rfl, fun j hj => ?_⟩, fun j hj => h.frozenAt j, (h.lt g rfl).1, (h.lt g rfl).2⟩
  rw [Nat.zero_add, h.cellAt j (by simp only at hj; omega), List.getElem?_eq_getElem hj]
structure Bag (w : World) (B g cap : Nat) (T : List TT) (ls : List RT) : Prop where
  eq : T.map (fun t => t.2.2) = ls
  own : w.ownsRow B 50 1 (.slice (some ⟨g, 0, none⟩) ls.length cap) ls.length (T.map hdr)
  rows : ∀ t ∈ T, RowO w B t
  nd : (T.map fun t => t.1).Nodup
  ng : ∀ t ∈ T, t.1 ≠ g
theorem Bag.len {w : World} {B g cap : Nat} {T : List TT} {ls : List RT} (h : Bag w B g cap T ls) : T.length = ls.length := by rw [← h.eq, List.length_map]
theorem Bag.lo {w : World} {B g cap : Nat} {T : List TT} {ls : List RT} (h : Bag w B g cap T ls) : B ≤ g ∧ g < w.heap.size := h.own.lt g rfl
theorem own_keep {w w' : World} {B g n cap size : Nat} {e : TypeId} {xs : List Value} (h : w.ownsRow B e size (.slice (some ⟨g, 0, none⟩) n cap) n xs) (hk : w'.heap[g]? = w.heap[g]?) : w'.ownsRow B e size (.slice (some ⟨g, 0, none⟩) n cap) n xs := by
  refine ⟨h.1, ?_⟩
  rcases h.2 with h0 | ⟨g2, cap2, cur, h1, h2, h3, h4⟩
  · exact .inl h0
  · have e1 : g = g2 := by
      injection h1 with e1 e2 e3
      injection e1 with e1
      injection e1
    subst e1
    exact .inr ⟨g, cap2, cur, h1, h2, hk.trans h3, h4⟩
theorem own_caps {w : World} {B g n cap size : Nat} {e : TypeId} {xs : List Value} (h : w.ownsRow B e size (.slice (some ⟨g, 0, none⟩) n cap) n xs) : n ≤ cap ∧ cap ≤ maxLen := by
  rcases h.2 with ⟨h0, -⟩ | ⟨g2, cap2, cur, h1, h2, h3, h4, h5, -⟩
  · cases h0
  · have e2 : cap = cap2 := by injection h1
    subst e2
    exact ⟨h4, h5⟩
theorem Bag.caps {w : World} {B g cap : Nat} {T : List TT} {ls : List RT} (h : Bag w B g cap T ls) : ls.length ≤ cap ∧ cap ≤ maxLen := own_caps h.own
theorem Bag.keep {w w' : World} {B g cap : Nat} {T : List TT} {ls : List RT} (h : Bag w B g cap T ls) (hz : w.heap.size ≤ w'.heap.size) (hg : w'.heap[g]? = w.heap[g]?) (hk : ∀ t ∈ T, w'.heap[t.1]? = w.heap[t.1]?) : Bag w' B g cap T ls :=
  ⟨h.eq, own_keep h.own hg, fun t ht => (h.rows t ht).keep hz (hk t ht), h.nd, h.ng⟩
theorem Bag.below {w w' : World} {B g cap : Nat} {T : List TT} {ls : List RT} (h : Bag w B g cap T ls) (hb : Below w.heap.size w w') : Bag w' B g cap T ls :=
  h.keep hb.size (hb.block _ h.lo.2) fun t ht => hb.block _ (h.rows t ht).hi
theorem Bag.alloc {w : World} {B g cap : Nat} {T : List TT} {ls : List RT} (h : Bag w B g cap T ls) (ob : Obj) : Bag (w.alloc ob) B g cap T ls := h.below ((Below.refl _ _).alloc (Nat.le_refl _) _)
theorem Bag.drew {w : World} {B g cap : Nat} {T : List TT} {ls : List RT} (h : Bag w B g cap T ls) : Bag w.drew B g cap T ls := h.below ((Below.refl _ _).drew)
theorem Bag.empty (w : World) : Bag (w.alloc (.cells #[] 50)) w.heap.size w.heap.size 0 [] [] :=
  ⟨rfl, own_empty3 50 1 rfl (Nat.le_refl _), fun t ht => absurd ht (by simp), by simp, fun t ht => absurd ht (by simp)⟩
theorem Bag.rws {w : World} {B g cap : Nat} {T : List TT} {ls : List RT} (h : Bag w B g cap T ls) : Rws w g 0 (some ⟨g, 0, none⟩) ls := by
  have hl := h.len
  refine ⟨fun _ => rfl, fun j hj => ?_⟩
  have hj2 : j < T.length := by omega
  have hr := h.rows T[j] (List.getElem_mem _)
  have he : ls[j] = T[j].2.2 := by
    have := h.eq
    subst this
    simp
  refine ⟨T[j].2.1, T[j].1, 0, ?_, ?_⟩
  · rw [Nat.zero_add, h.own.cellAt j (by omega), List.getElem?_map, List.getElem?_eq_getElem hj2, he]; rfl
  · rw [he]; exact hr.fl
/-- A header more. -/
theorem Bag.push {w w' : World} {B g cap g' cap' n : Nat} {T : List TT} {ls : List RT} {t : TT} (h : Bag w B g cap T ls) (ht : RowO w B t) (hn : ∀ u ∈ T, u.1 ≠ t.1) (hg : t.1 ≠ g) (hnl : n = ls.length + 1)
    (hown : w'.ownsRow B 50 1 (.slice (some ⟨g', 0, none⟩) n cap') n (T.map hdr ++ [hdr t])) (hgr : w.grownBy w' (some g)) (hgg : g' = g ∨ w.heap.size ≤ g') : Bag w' B g' cap' (T ++ [t]) (ls ++ [t.2.2]) := by
  subst hnl
  have hk : ∀ u, RowO w B u → u.1 ≠ g → RowO w' B u := fun u hu hne => hu.keep hgr.size (hgr.block _ hu.hi (fun e => hne (Option.some.inj e)))
  refine ⟨by rw [List.map_append, h.eq]; rfl, ?_, ?_, ?_, ?_⟩
  · rw [List.length_append, List.map_append]; exact hown
  · intro u hu
    rcases List.mem_append.1 hu with hu | hu
    · exact hk u (h.rows u hu) (h.ng u hu)
    · obtain rfl := List.mem_singleton.1 hu
      exact hk _ ht hg
  · rw [List.map_append, List.nodup_append]
    refine ⟨h.nd, by simp, fun a ha b hb e => ?_⟩
    simp at hb
    obtain ⟨u, hu, rfl⟩ := List.mem_map.1 ha
    exact hn u hu (by rw [e, hb])
  · intro u hu e
    have hlt : u.1 < w.heap.size ∧ u.1 ≠ g := by
      rcases List.mem_append.1 hu with hu | hu
      · exact ⟨(h.rows u hu).hi, h.ng u hu⟩
      · obtain rfl := List.mem_singleton.1 hu
        exact ⟨ht.hi, hg⟩
    rcases hgg with hgg | hgg
    · exact hlt.2 (e.trans hgg)
    · omega
theorem count_snoc (ls : List RT) (k : Nat) (h : k < ls.length) (r : RT) : (ls.take (k + 1)).count r = (ls.take k).count r + if ls[k] = r then 1 else 0 := by
  rw [List.take_succ_eq_append_getElem h, List.count_append, List.count_singleton]
  by_cases e : ls[k] = r
  · rw [if_pos e, show (ls[k] == r) = true by simpa using e]; rfl
  · rw [if_neg e, show (ls[k] == r) = false by simpa using e]; rfl
theorem infoVS : (Tryz.prog.info? 50).map (fun i => (i.zero, i.size, i.bytes)) = some (some (.slice none 0 0), 1, 24) := by kernel_rfl
end Go.Proofs.YtacinjbaebimhaaGreat.Val
namespace Go.Proofs.YtacinjbaebimhaaGreat.Val
open Go.RowKit
set_option linter.unusedVariables false
theorem rowIsE (A B : Option Addr) (g g' o o' cA cB : Nat) (l m : List VT) (w : World) (hA : Fl w g o A (flatV l)) (hB : Fl w g' o' B (flatV m)) (hl : l.length ≤ 2000000) (hm : m.length ≤ 2000000) :
    Calls Tryz.prog 38 #[.slice A l.length cA, .slice B m.length cB] w fun e w' => ∃ E : Bool, (e = .returned (.bool E) ∧ (E = true ↔ l = m)) ∧ Below w.heap.size w w' := by
  have HA := Lib.hid hA
  have HB := Lib.hid hB
  clear hA hB
  go_enter Tryz.func38, Tryz.ntmps38
  by_cases hlen : l.length = m.length
  · have e0 : ((l.length : Int) != m.length) = false := by simp; omega
    have HLN := Lib.hid hlen
    clear hlen
    go_wp2
    go_loopw [5] (fun ix wr => ∃ (k : Nat), k ≤ l.length ∧ ix = .int .i64 k ∧ Hid (Below w.heap.size w wr) ∧ Hid (l.take k = m.take k)) (fun ix _ => l.length - (intOf ix).toNat)
    case atStart => exact ⟨0, by omega, rfl, Below.refl _ _, rfl⟩
    case round =>
      obtain ⟨k, hk, rfl, HW, HL⟩ := hrel
      by_cases hlt : k < l.length
      · have hlm : k < m.length := by have := HLN.out; omega
        obtain ⟨rfl, -, -, -, -⟩ := HA.out.v k hlt
        obtain ⟨rfl, -, -, -, -⟩ := HB.out.v k hlm
        obtain ⟨-, hg2, c0, c1, c2⟩ := (HA.out.below HW.out).v k hlt
        obtain ⟨-, hg2', d0, d1, d2⟩ := (HB.out.below HW.out).v k hlm
        have HS := Lib.hid (take_eq_step l m k hlt hlm HL.out)
        obtain ⟨K, hK⟩ : ∃ K, l[k] = K := ⟨_, rfl⟩
        obtain ⟨K2, hK2⟩ : ∃ K, m[k]'hlm = K := ⟨_, rfl⟩
        rw [hK] at c0 c1 c2
        rw [hK2] at d0 d1 d2
        rw [hK, hK2] at HS
        clear hK hK2
        have i0' : (0 : Int) ≤ (k : Int) := by omega
        have i1' : (k : Int) < (l.length : Int) := by omega
        have i2' : (k : Int) < (m.length : Int) := by omega
        by_cases hq : K = K2
        · have HQ := Lib.hid (HS.out.1 hq)
          subst hq
          obtain ⟨x, n, s⟩ := K
          simp only at c0 c1 c2 d0 d1 d2
          clear HS
          go_wp2
          go_region
          all_goals go_wp2
          all_goals exact ⟨⟨k + 1, by omega, by go_num, HW.out.drew, HQ⟩, by simp [intOf]; omega⟩
        · have HQ := Lib.hid (HS.out.2 hq)
          obtain ⟨x, n, s⟩ := K
          obtain ⟨x2, n2, s2⟩ := K2
          simp only at c0 c1 c2 d0 d1 d2
          have hne : x = x2 → n = n2 → ¬ (s.toList = s2.toList) := fun e1 e2 e3 => hq (by rw [e1, e2, bytes_same e3])
          clear HS hq
          by_cases hx : x = x2
          · subst hx
            by_cases hn : n = n2
            · subst hn
              have hs := hne rfl rfl
              clear hne
              go_wp2
              go_region
              all_goals go_wp2
              all_goals (go_ret; exact ⟨false, ⟨rfl, by simpa using HQ.out⟩, HW.out.drew⟩)
            · clear hne
              go_wp2
              go_region
              all_goals go_wp2
              all_goals (go_ret; exact ⟨false, ⟨rfl, by simpa using HQ.out⟩, HW.out.drew⟩)
          · clear hne
            go_wp2
            go_region
            all_goals go_wp2
            all_goals (go_ret; exact ⟨false, ⟨rfl, by simpa using HQ.out⟩, HW.out.drew⟩)
      · obtain rfl : k = l.length := by omega
        go_wp2
        go_ret
        refine ⟨true, ⟨rfl, ?_⟩, HW.out⟩
        have := HL.out
        rw [List.take_length, HLN.out, List.take_length] at this
        simp [this]
  · go_wp2
    go_ret
    refine ⟨false, ⟨rfl, ?_⟩, Below.refl _ _⟩
    simp
    intro e; exact hlen (by rw [e])
theorem l3SameE (A B : Option Addr) (g g' o o' cA cB : Nat) (l m : List VT) (w : World) (hA : Fl w g o A (flatV l)) (hB : Fl w g' o' B (flatV m)) (hl : l.length ≤ 2000000) (hm : m.length ≤ 2000000) :
    Calls Tryz.prog 86 #[.slice A l.length cA, .slice B m.length cB] w fun e w' => ∃ E : Bool, (e = .returned (.bool E) ∧ (E = true ↔ l = m)) ∧ Below w.heap.size w w' := by
  have HA := Lib.hid hA
  have HB := Lib.hid hB
  clear hA hB
  go_enter Tryz.func86, Tryz.ntmps86
  by_cases hlen : l.length = m.length
  · have e0 : ((l.length : Int) != m.length) = false := by simp; omega
    have HLN := Lib.hid hlen
    clear hlen
    go_wp2
    go_loopw [5] (fun ix wr => ∃ (k : Nat), k ≤ l.length ∧ ix = .int .i64 k ∧ Hid (Below w.heap.size w wr) ∧ Hid (l.take k = m.take k)) (fun ix _ => l.length - (intOf ix).toNat)
    case atStart => exact ⟨0, by omega, rfl, Below.refl _ _, rfl⟩
    case round =>
      obtain ⟨k, hk, rfl, HW, HL⟩ := hrel
      by_cases hlt : k < l.length
      · have hlm : k < m.length := by have := HLN.out; omega
        obtain ⟨rfl, -, -, -, -⟩ := HA.out.v k hlt
        obtain ⟨rfl, -, -, -, -⟩ := HB.out.v k hlm
        obtain ⟨-, hg2, c0, c1, c2⟩ := (HA.out.below HW.out).v k hlt
        obtain ⟨-, hg2', d0, d1, d2⟩ := (HB.out.below HW.out).v k hlm
        have HS := Lib.hid (take_eq_step l m k hlt hlm HL.out)
        obtain ⟨K, hK⟩ : ∃ K, l[k] = K := ⟨_, rfl⟩
        obtain ⟨K2, hK2⟩ : ∃ K, m[k]'hlm = K := ⟨_, rfl⟩
        rw [hK] at c0 c1 c2
        rw [hK2] at d0 d1 d2
        rw [hK, hK2] at HS
        clear hK hK2
        have i0' : (0 : Int) ≤ (k : Int) := by omega
        have i1' : (k : Int) < (l.length : Int) := by omega
        have i2' : (k : Int) < (m.length : Int) := by omega
        by_cases hq : K = K2
        · have HQ := Lib.hid (HS.out.1 hq)
          subst hq
          obtain ⟨x, n, s⟩ := K
          simp only at c0 c1 c2 d0 d1 d2
          clear HS
          go_wp2
          go_region
          all_goals go_wp2
          all_goals exact ⟨⟨k + 1, by omega, by go_num, HW.out.drew, HQ⟩, by simp [intOf]; omega⟩
        · have HQ := Lib.hid (HS.out.2 hq)
          obtain ⟨x, n, s⟩ := K
          obtain ⟨x2, n2, s2⟩ := K2
          simp only at c0 c1 c2 d0 d1 d2
          have hne : x = x2 → n = n2 → ¬ (s.toList = s2.toList) := fun e1 e2 e3 => hq (by rw [e1, e2, bytes_same e3])
          clear HS hq
          by_cases hx : x = x2
          · subst hx
            by_cases hn : n = n2
            · subst hn
              have hs := hne rfl rfl
              clear hne
              go_wp2
              go_region
              all_goals go_wp2
              all_goals (go_ret; exact ⟨false, ⟨rfl, by simpa using HQ.out⟩, HW.out.drew⟩)
            · clear hne
              go_wp2
              go_region
              all_goals go_wp2
              all_goals (go_ret; exact ⟨false, ⟨rfl, by simpa using HQ.out⟩, HW.out.drew⟩)
          · clear hne
            go_wp2
            go_region
            all_goals go_wp2
            all_goals (go_ret; exact ⟨false, ⟨rfl, by simpa using HQ.out⟩, HW.out.drew⟩)
      · obtain rfl : k = l.length := by omega
        go_wp2
        go_ret
        refine ⟨true, ⟨rfl, ?_⟩, HW.out⟩
        have := HL.out
        rw [List.take_length, HLN.out, List.take_length] at this
        simp [this]
  · go_wp2
    go_ret
    refine ⟨false, ⟨rfl, ?_⟩, Below.refl _ _⟩
    simp
    intro e; exact hlen (by rw [e])
theorem rowIs (A B : Option Addr) (g g' o o' cA cB : Nat) (l m : List VT) (w : World) (hA : Fl w g o A (flatV l)) (hB : Fl w g' o' B (flatV m)) (hl : l.length ≤ 2000000) (hm : m.length ≤ 2000000) :
    Calls Tryz.prog 38 #[.slice A l.length cA, .slice B m.length cB] w fun e w' => e = .returned (.bool (decide (l = m))) ∧ Below w.heap.size w w' := by
  refine (rowIsE A B g g' o o' cA cB l m w hA hB hl hm).mono ?_
  rintro e w' ⟨E, ⟨rfl, h⟩, hb⟩
  refine ⟨?_, hb⟩
  have : E = decide (l = m) := by rw [Bool.eq_iff_iff, h, decide_eq_true_iff]
  rw [this]
theorem l3Same (A B : Option Addr) (g g' o o' cA cB : Nat) (l m : List VT) (w : World) (hA : Fl w g o A (flatV l)) (hB : Fl w g' o' B (flatV m)) (hl : l.length ≤ 2000000) (hm : m.length ≤ 2000000) :
    Calls Tryz.prog 86 #[.slice A l.length cA, .slice B m.length cB] w fun e w' => e = .returned (.bool (decide (l = m))) ∧ Below w.heap.size w w' := by
  refine (l3SameE A B g g' o o' cA cB l m w hA hB hl hm).mono ?_
  rintro e w' ⟨E, ⟨rfl, h⟩, hb⟩
  refine ⟨?_, hb⟩
  have : E = decide (l = m) := by rw [Bool.eq_iff_iff, h, decide_eq_true_iff]
  rw [this]
theorem rowManyI (A B : Option Addr) (g o g2 o2 cap cap2 : Nat) (ls : List RT) (r : RT) (w : World) (hA : Rws w g o A ls) (hB : Fl w g2 o2 B (flatV r)) (hok : Ok2 ls) (hr : r.length ≤ 2000000) :
    Calls Tryz.prog 21 #[.slice A ls.length cap, .slice B r.length cap2] w fun e w' => e = .returned (.int .i64 ((ls.count r : Nat) : Int)) ∧ Below w.heap.size w w' := by
  have HA := Lib.hid hA
  have HB := Lib.hid hB
  have HK := Lib.hid hok
  have hl := hok.1
  clear hA hB hok
  go_enter Tryz.func21, Tryz.ntmps21
  go_wp2
  go_loopw [5, 6] (fun mx ix wr => ∃ (k m : Nat), k ≤ ls.length ∧ ix = .int .i64 k ∧ mx = .int .i64 (m : Int) ∧ m ≤ k ∧ Hid (m = (ls.take k).count r) ∧ Hid (Below w.heap.size w wr)) (fun _ ix _ => ls.length - (intOf ix).toNat)
  case atStart => exact ⟨0, 0, Nat.zero_le _, rfl, rfl, Nat.le_refl _, rfl, Below.refl _ _⟩
  case round =>
    obtain ⟨k, m, hk, rfl, rfl, hmk, HM, HW⟩ := hrel
    by_cases hlt : k < ls.length
    · obtain ⟨rfl, hg, c', g', o', hc, hf⟩ := (HA.out.below HW.out).at k hlt
      have HF := Lib.hid hf
      have hlr := (HK.out.at k hlt).1
      have HS := Lib.hid (count_snoc ls k hlt r)
      obtain ⟨K, hK⟩ : ∃ K, ls[k] = K := ⟨_, rfl⟩
      rw [hK] at hc HF HS hlr
      clear hK hf
      have CE := Lib.hid (fun W hW hW2 => rowIs (some ⟨g', o', none⟩) B g' g2 o' o2 c' cap2 K r W hW hW2 hlr hr)
      obtain ⟨kl, hkl⟩ : ∃ n, K.length = n := ⟨_, rfl⟩
      rw [hkl] at hc CE
      have i0' : (0 : Int) ≤ (k : Int) := by omega
      have i1' : (k : Int) < (ls.length : Int) := by omega
      clear hkl
      by_cases hq : K = r
      · have hd : decide (K = r) = true := decide_eq_true hq
        rw [hd] at CE
        have HN : Hid (m + 1 = (ls.take (k + 1)).count r) := by show _ = _; rw [HS.out, if_pos hq, HM.out]
        clear hd hq HS
        go_wp2_with (go_at_call 38; (with_reducible refine (CE.out _ (by first | exact HF.out | exact HF.out.drew) (by first | exact HB.out.below HW.out | exact (HB.out.below HW.out).drew)).mono ?_); rintro e w1 ⟨rfl, hb1⟩; have HW1 := Lib.hid (HW.out.trans (hb1.mono HW.out.size)); clear hb1 HW)
        exact ⟨⟨k + 1, m + 1, by omega, by go_num, by go_num, by omega, HN, HW1⟩, by simp [intOf]; omega⟩
      · have hd : decide (K = r) = false := decide_eq_false hq
        rw [hd] at CE
        have HN : Hid (m = (ls.take (k + 1)).count r) := by show _ = _; rw [HS.out, if_neg hq, HM.out]; rfl
        clear hd hq HS
        go_wp2_with (go_at_call 38; (with_reducible refine (CE.out _ (by first | exact HF.out | exact HF.out.drew) (by first | exact HB.out.below HW.out | exact (HB.out.below HW.out).drew)).mono ?_); rintro e w1 ⟨rfl, hb1⟩; have HW1 := Lib.hid (HW.out.trans (hb1.mono HW.out.size)); clear hb1 HW)
        exact ⟨⟨k + 1, m, by omega, by go_num, rfl, by omega, HN, HW1⟩, by simp [intOf]; omega⟩
    · obtain rfl : k = ls.length := by omega
      go_wp2
      go_ret
      refine ⟨retI ?_, HW.out⟩
      have := HM.out
      rw [List.take_length] at this
      rw [this]
theorem rowManyS (A B : Option Addr) (g o g2 o2 cap cap2 : Nat) (ls : List RT) (r : RT) (w : World) (hA : Rws w g o A ls) (hB : Fl w g2 o2 B (flatV r)) (hok : Ok2 ls) (hr : r.length ≤ 2000000) :
    Calls Tryz.prog 73 #[.slice A ls.length cap, .slice B r.length cap2] w fun e w' => e = .returned (.int .i64 ((ls.count r : Nat) : Int)) ∧ Below w.heap.size w w' := by
  have HA := Lib.hid hA
  have HB := Lib.hid hB
  have HK := Lib.hid hok
  have hl := hok.1
  clear hA hB hok
  go_enter Tryz.func73, Tryz.ntmps73
  go_wp2
  go_loopw [5, 6] (fun mx ix wr => ∃ (k m : Nat), k ≤ ls.length ∧ ix = .int .i64 k ∧ mx = .int .i64 (m : Int) ∧ m ≤ k ∧ Hid (m = (ls.take k).count r) ∧ Hid (Below w.heap.size w wr)) (fun _ ix _ => ls.length - (intOf ix).toNat)
  case atStart => exact ⟨0, 0, Nat.zero_le _, rfl, rfl, Nat.le_refl _, rfl, Below.refl _ _⟩
  case round =>
    obtain ⟨k, m, hk, rfl, rfl, hmk, HM, HW⟩ := hrel
    by_cases hlt : k < ls.length
    · obtain ⟨rfl, hg, c', g', o', hc, hf⟩ := (HA.out.below HW.out).at k hlt
      have HF := Lib.hid hf
      have hlr := (HK.out.at k hlt).1
      have HS := Lib.hid (count_snoc ls k hlt r)
      obtain ⟨K, hK⟩ : ∃ K, ls[k] = K := ⟨_, rfl⟩
      rw [hK] at hc HF HS hlr
      clear hK hf
      have CE := Lib.hid (fun W hW hW2 => l3Same (some ⟨g', o', none⟩) B g' g2 o' o2 c' cap2 K r W hW hW2 hlr hr)
      obtain ⟨kl, hkl⟩ : ∃ n, K.length = n := ⟨_, rfl⟩
      rw [hkl] at hc CE
      have i0' : (0 : Int) ≤ (k : Int) := by omega
      have i1' : (k : Int) < (ls.length : Int) := by omega
      clear hkl
      by_cases hq : K = r
      · have hd : decide (K = r) = true := decide_eq_true hq
        rw [hd] at CE
        have HN : Hid (m + 1 = (ls.take (k + 1)).count r) := by show _ = _; rw [HS.out, if_pos hq, HM.out]
        clear hd hq HS
        go_wp2_with (go_at_call 86; (with_reducible refine (CE.out _ (by first | exact HF.out | exact HF.out.drew) (by first | exact HB.out.below HW.out | exact (HB.out.below HW.out).drew)).mono ?_); rintro e w1 ⟨rfl, hb1⟩; have HW1 := Lib.hid (HW.out.trans (hb1.mono HW.out.size)); clear hb1 HW)
        exact ⟨⟨k + 1, m + 1, by omega, by go_num, by go_num, by omega, HN, HW1⟩, by simp [intOf]; omega⟩
      · have hd : decide (K = r) = false := decide_eq_false hq
        rw [hd] at CE
        have HN : Hid (m = (ls.take (k + 1)).count r) := by show _ = _; rw [HS.out, if_neg hq, HM.out]; rfl
        clear hd hq HS
        go_wp2_with (go_at_call 86; (with_reducible refine (CE.out _ (by first | exact HF.out | exact HF.out.drew) (by first | exact HB.out.below HW.out | exact (HB.out.below HW.out).drew)).mono ?_); rintro e w1 ⟨rfl, hb1⟩; have HW1 := Lib.hid (HW.out.trans (hb1.mono HW.out.size)); clear hb1 HW)
        exact ⟨⟨k + 1, m, by omega, by go_num, rfl, by omega, HN, HW1⟩, by simp [intOf]; omega⟩
    · obtain rfl : k = ls.length := by omega
      go_wp2
      go_ret
      refine ⟨retI ?_, HW.out⟩
      have := HM.out
      rw [List.take_length] at this
      rw [this]
end Go.Proofs.YtacinjbaebimhaaGreat.Val
namespace Go.Proofs.YtacinjbaebimhaaGreat.Val
open Go.RowKit
set_option linter.unusedVariables false
set_option maxRecDepth 8000
def RetBag (ls : List RT) (w : World) (e : Ending) (w' : World) : Prop := ∃ (g c : Nat) (T : List TT), e = .returned (.slice (some ⟨g, 0, none⟩) ls.length c) ∧ Bag w' w.heap.size g c T ls ∧ Below w.heap.size w w'
theorem addNone (b off i : Nat) : (⟨b, off, none⟩ : Addr).add i = ⟨b, off + i, none⟩ := by
  unfold Addr.add; split
  · rename_i h; simp_all
  · rfl
theorem news_flo {W : World} {g o : Nat} {A : Option Addr} {xs : List Value} (h : Fl W g o A xs) : ∀ j u, xs[j]? = some u → W.cell? ((⟨g, o, none⟩ : Addr).add j) = some u := by
  intro j u hj
  obtain ⟨hl, rfl⟩ := List.getElem?_eq_some_iff.1 hj
  rw [addNone]
  exact h.c j hl
theorem one_flatV (vs : List VT) : ∀ u ∈ flatV vs, u.oneCell' = true := by
  induction vs with
  | nil => intro u hu; simp [flatV] at hu
  | cons v vs ih =>
    intro u hu
    rw [flatV_cons] at hu
    simp only [List.mem_cons] at hu
    rcases hu with rfl | rfl | rfl | hu
    · rfl
    · rfl
    · rfl
    · exact ih u hu
theorem infoVc : (Tryz.prog.info? 54).map (fun i => (i.zero, i.size, i.bytes)) = some (some (.agg #[.int .i64 0, .int .i64 0, .string ⟨#[]⟩]), 3, 32) := by kernel_rfl
theorem Bag.push2 {w1 w2 w' : World} {B g cap g' cap' n : Nat} {T : List TT} {ls : List RT} {t : TT} {ob : Obj} (h : Bag w1 B g cap T ls) (ht : RowO w2 w1.heap.size t) (hb : Below w1.heap.size w1 w2) (hnl : n = ls.length + 1)
    (hown : w'.ownsRow B 50 1 (.slice (some ⟨g', 0, none⟩) n cap') n (T.map hdr ++ [hdr t])) (hgr : (w2.alloc ob).grownBy w' (some g)) (hgg : g' = g ∨ (w2.alloc ob).heap.size ≤ g') : Bag w' B g' cap' (T ++ [t]) (ls ++ [t.2.2]) := by
  have hlo := ht.lo
  have hg := h.lo
  refine ((h.below hb).alloc ob).push ((ht.lower (by omega)).alloc ob) (fun u hu => ?_) (by omega) hnl hown hgr hgg
  have := (h.rows u hu).hi
  omega
theorem rowCopy (g o c : Nat) (l : List VT) (w : World) (h : Fl w g o (some ⟨g, o, none⟩) (flatV l)) (hl : l.length ≤ 2000000) :
    Calls Tryz.prog 22 #[.slice (some ⟨g, o, none⟩) l.length c] w fun e w' => ∃ (g2 c2 : Nat), e = .returned (.slice (some ⟨g2, 0, none⟩) l.length c2) ∧ RowO w' w.heap.size (g2, c2, l) ∧ Below w.heap.size w w' := by
  obtain ⟨i0, hi, iz0, iz1, iz2⟩ := info_parts infoVc
  have HA := Lib.hid h
  clear h
  have hfl := Lib.hid (flatV_len l)
  have OWN := Lib.hid (own_empty3 (w := w) (B := w.heap.size) 54 3 rfl (Nat.le_refl _))
  go_enter Tryz.func22, Tryz.ntmps22
  go_wp2_with (at_builtin; refine wpList_append_block _ rfl (.tmp 3) (.tmp 4) 50 rfl w.heap.size 54 i0 (.agg #[.int .i64 0, .int .i64 0, .string ⟨#[]⟩]) 3 32 Tryz.underlying50 hi iz0 iz1 iz2 rfl (by decide) w.heap.size 0 0 [] rfl OWN.out _ _ _ (flatV l) rfl hfl.out (news_flo (HA.out.alloc _)) (one_flatV l) (by unfold maxLen; omega) (by omega) (by first | omega | (simp; done) | (simp; omega)) ?_; intro g2 c2 w2 hown hgr hgg; (try simp only [Nat.zero_add, List.nil_append] at hown); have HO := Lib.hid hown; have HB := Lib.hid (Below.grown ((Below.refl _ _).alloc (Nat.le_refl _) _) hgr (by simp) (fun k hk => by obtain rfl := Option.some.inj hk; exact Nat.le_refl _)); clear hown hgr hgg)
  go_ret
  exact ⟨g2, c2, by simp, RowO.of_own HO.out, HB.out⟩
theorem l3Own (g o c : Nat) (l : List VT) (w : World) (h : Fl w g o (some ⟨g, o, none⟩) (flatV l)) (hl : l.length ≤ 2000000) :
    Calls Tryz.prog 53 #[.slice (some ⟨g, o, none⟩) l.length c] w fun e w' => ∃ (g2 c2 : Nat), e = .returned (.slice (some ⟨g2, 0, none⟩) l.length c2) ∧ RowO w' w.heap.size (g2, c2, l) ∧ Below w.heap.size w w' := by
  obtain ⟨i0, hi, iz0, iz1, iz2⟩ := info_parts infoVc
  have HA := Lib.hid h
  clear h
  have hfl := Lib.hid (flatV_len l)
  have OWN := Lib.hid (own_empty3 (w := w) (B := w.heap.size) 54 3 rfl (Nat.le_refl _))
  go_enter Tryz.func53, Tryz.ntmps53
  go_wp2_with (at_builtin; refine wpList_append_block _ rfl (.tmp 3) (.tmp 4) 50 rfl w.heap.size 54 i0 (.agg #[.int .i64 0, .int .i64 0, .string ⟨#[]⟩]) 3 32 Tryz.underlying50 hi iz0 iz1 iz2 rfl (by decide) w.heap.size 0 0 [] rfl OWN.out _ _ _ (flatV l) rfl hfl.out (news_flo (HA.out.alloc _)) (one_flatV l) (by unfold maxLen; omega) (by omega) (by first | omega | (simp; done) | (simp; omega)) ?_; intro g2 c2 w2 hown hgr hgg; (try simp only [Nat.zero_add, List.nil_append] at hown); have HO := Lib.hid hown; have HB := Lib.hid (Below.grown ((Below.refl _ _).alloc (Nat.le_refl _) _) hgr (by simp) (fun k hk => by obtain rfl := Option.some.inj hk; exact Nat.le_refl _)); clear hown hgr hgg)
  go_ret
  exact ⟨g2, c2, by simp, RowO.of_own HO.out, HB.out⟩
theorem rowsOnceI (A : Option Addr) (g0 o0 cap : Nat) (ls : List RT) (w : World) (hA : Rws w g0 o0 A ls) (hok : Ok2 ls) :
    Calls Tryz.prog 10 #[.slice A ls.length cap] w (RetBag (onceI ls) w) := by
  obtain ⟨i0, hi, iz0, iz1, iz2⟩ := info_parts infoVS
  have HA := Lib.hid hA
  have HK := Lib.hid hok
  have hl := hok.1
  clear hA hok
  have BAG0 := Lib.hid (Bag.empty w)
  have HB0 := Lib.hid ((Below.refl w.heap.size w).alloc (Nat.le_refl _) (.cells #[] 50))
  go_enter Tryz.func10, Tryz.ntmps10
  go_wp2
  go_loopw [3, 4] (fun ox ix wr => ∃ (k g c : Nat) (T : List TT) (o : List RT), k ≤ ls.length ∧ ix = .int .i64 k ∧ ox = .slice (some ⟨g, 0, none⟩) o.length c ∧ o.length ≤ k ∧ Hid (o = onceI (ls.take k)) ∧ Hid (Bag wr w.heap.size g c T o) ∧ Hid (Below w.heap.size w wr)) (fun _ ix _ => ls.length - (intOf ix).toNat)
  case atStart => exact ⟨0, w.heap.size, 0, [], [], Nat.zero_le _, rfl, rfl, Nat.le_refl _, rfl, BAG0, HB0⟩
  case round =>
    clear BAG0 HB0
    obtain ⟨k, g, c, T, o, hk, rfl, rfl, hok, HO, BAG, HB⟩ := hrel
    have hwz := HB.out.size
    by_cases hlt : k < ls.length
    · obtain ⟨rfl, hg, c', g', o', hc, hf⟩ := (HA.out.below HB.out).at k hlt
      have HF := Lib.hid hf
      have hlr := (HK.out.at k hlt).1
      have HS := Lib.hid (onceI_snoc ls k hlt)
      have OK := Lib.hid (HK.out.sub (ms := o) (by omega) (fun r hr => by rw [HO.out] at hr; exact List.mem_of_mem_take ((once_mem _ _).1 hr)))
      obtain ⟨K, hK⟩ : ∃ K, ls[k] = K := ⟨_, rfl⟩
      rw [hK] at hc HF HS hlr
      clear hK hf
      have CM := Lib.hid (fun W hW hW2 => rowManyI (some ⟨g, 0, none⟩) (some ⟨g', o', none⟩) g 0 g' o' c c' o K W hW hW2 OK.out hlr)
      have CC := Lib.hid (fun W hW => rowCopy g' o' c' K W hW hlr)
      obtain ⟨kl, hkl⟩ : ∃ n, K.length = n := ⟨_, rfl⟩
      rw [hkl] at hc CM CC
      obtain ⟨ol, hol⟩ : ∃ n, o.length = n := ⟨_, rfl⟩
      rw [hol] at CM hok
      have HOL := Lib.hid hol
      have HKL := Lib.hid hkl
      have i0' : (0 : Int) ≤ (k : Int) := by omega
      have i1' : (k : Int) < (ls.length : Int) := by omega
      rw [hol]
      clear hkl hol
      by_cases hq : o.count K = 0
      · rw [hq, show (((0 : Nat) : Int)) = 0 from rfl] at CM
        have HN : Hid (o ++ [K] = onceI (ls.take (k + 1))) := by show _ = _; rw [HS.out, ← HO.out, onceF, if_pos hq]
        clear hq HS HO
        go_wp2_with (first
          | (go_at_call 21; (with_reducible refine (CM.out _ BAG.out.rws HF.out).mono ?_); rintro e w1 ⟨rfl, hb1⟩; have hc1 := (hb1.cell (p := ⟨_, _, none⟩) hg).trans hc; have HF1 := Lib.hid (HF.out.below hb1); have BAG1 := Lib.hid (BAG.out.below hb1); have HB1 := Lib.hid (HB.out.trans (hb1.mono hwz)); have hwz1 := HB1.out.size; clear hb1 hc BAG HB HF hwz)
          | (go_at_call 22; (with_reducible refine (CC.out _ HF1.out).mono ?_); rintro e w2 ⟨g2, c2, rfl, hr2, hb2⟩; have HR2 := Lib.hid hr2; have BAG2 := Lib.hid (BAG1.out.below hb2); have HB2 := Lib.hid (HB1.out.trans (hb2.mono hwz1)); have HBB := Lib.hid hb2; have hwz2 := HB2.out.size; clear hb2 hr2)
          | (at_builtin; go_loud (refine wpList_append_block _ rfl (.tmp 19) (.tmp 25) 27 rfl w.heap.size 50 i0 (.slice none 0 0) 1 24 Tryz.underlying27 hi iz0 iz1 iz2 rfl (by decide) g ol c (T.map hdr) rfl (by have h := BAG2.out.own; rw [HOL.out] at h; exact h.alloc _) _ 1 1 [.slice (some ⟨g2, 0, none⟩) kl c2] rfl rfl (news_new (by first | rfl | simp)) (by simp [Value.oneCell']) (by unfold maxLen; omega) (by omega) (by first | omega | (simp; done) | (simp; omega)) ?_); intro g3 c3 w3 hown hgr hgg; have HNB := Lib.hid (Bag.push2 BAG1.out HR2.out HBB.out (by rw [HOL.out]) (by have h := hown; rw [← HKL.out] at h; exact h) hgr hgg); have HB3 := Lib.hid (Below.grown (HB2.out.alloc hwz2 _) hgr (by simp; omega) (fun k hk => by obtain rfl := Option.some.inj hk; exact BAG1.out.lo.1)); clear hown hgr hgg))
        exact ⟨⟨k + 1, g3, c3, _, o ++ [K], by omega, by go_num, by simp [HOL.out], by simp [HOL.out]; omega, HN, HNB, HB3⟩, by simp [intOf]; omega⟩
      · have HN : Hid (o = onceI (ls.take (k + 1))) := by show _ = _; rw [HS.out, ← HO.out, onceF, if_neg hq]
        have hq2 : ¬ ((o.count K : Nat) : Int) = 0 := by omega
        obtain ⟨m, hm⟩ : ∃ m, o.count K = m := ⟨_, rfl⟩
        rw [hm] at CM hq2
        clear hq HS HO hm
        go_wp2_with (go_at_call 21; (with_reducible refine (CM.out _ BAG.out.rws HF.out).mono ?_); rintro e w1 ⟨rfl, hb1⟩; have BAG1 := Lib.hid (BAG.out.below hb1); have HB1 := Lib.hid (HB.out.trans (hb1.mono hwz)); clear hb1 BAG HB HF hwz)
        exact ⟨⟨k + 1, g, c, T, o, by omega, by go_num, by rw [HOL.out], by rw [HOL.out]; omega, HN, BAG1, HB1⟩, by simp [intOf]; omega⟩
    · obtain rfl : k = ls.length := by omega
      have HO2 : Hid (o = onceI ls) := by show _ = _; have := HO.out; rwa [List.take_length] at this
      obtain rfl := HO2.out
      go_wp2
      go_ret
      exact ⟨g, c, T, rfl, BAG.out, HB.out⟩
theorem rowsOnceS (A : Option Addr) (g0 o0 cap : Nat) (ls : List RT) (w : World) (hA : Rws w g0 o0 A ls) (hok : Ok2 ls) :
    Calls Tryz.prog 57 #[.slice A ls.length cap] w (RetBag (onceI ls) w) := by
  obtain ⟨i0, hi, iz0, iz1, iz2⟩ := info_parts infoVS
  have HA := Lib.hid hA
  have HK := Lib.hid hok
  have hl := hok.1
  clear hA hok
  have BAG0 := Lib.hid (Bag.empty w)
  have HB0 := Lib.hid ((Below.refl w.heap.size w).alloc (Nat.le_refl _) (.cells #[] 50))
  go_enter Tryz.func57, Tryz.ntmps57
  go_wp2
  go_loopw [3, 4] (fun ox ix wr => ∃ (k g c : Nat) (T : List TT) (o : List RT), k ≤ ls.length ∧ ix = .int .i64 k ∧ ox = .slice (some ⟨g, 0, none⟩) o.length c ∧ o.length ≤ k ∧ Hid (o = onceI (ls.take k)) ∧ Hid (Bag wr w.heap.size g c T o) ∧ Hid (Below w.heap.size w wr)) (fun _ ix _ => ls.length - (intOf ix).toNat)
  case atStart => exact ⟨0, w.heap.size, 0, [], [], Nat.zero_le _, rfl, rfl, Nat.le_refl _, rfl, BAG0, HB0⟩
  case round =>
    clear BAG0 HB0
    obtain ⟨k, g, c, T, o, hk, rfl, rfl, hok, HO, BAG, HB⟩ := hrel
    have hwz := HB.out.size
    by_cases hlt : k < ls.length
    · obtain ⟨rfl, hg, c', g', o', hc, hf⟩ := (HA.out.below HB.out).at k hlt
      have HF := Lib.hid hf
      have hlr := (HK.out.at k hlt).1
      have HS := Lib.hid (onceI_snoc ls k hlt)
      have OK := Lib.hid (HK.out.sub (ms := o) (by omega) (fun r hr => by rw [HO.out] at hr; exact List.mem_of_mem_take ((once_mem _ _).1 hr)))
      obtain ⟨K, hK⟩ : ∃ K, ls[k] = K := ⟨_, rfl⟩
      rw [hK] at hc HF HS hlr
      clear hK hf
      have CM := Lib.hid (fun W hW hW2 => rowManyS (some ⟨g, 0, none⟩) (some ⟨g', o', none⟩) g 0 g' o' c c' o K W hW hW2 OK.out hlr)
      have CC := Lib.hid (fun W hW => l3Own g' o' c' K W hW hlr)
      obtain ⟨kl, hkl⟩ : ∃ n, K.length = n := ⟨_, rfl⟩
      rw [hkl] at hc CM CC
      obtain ⟨ol, hol⟩ : ∃ n, o.length = n := ⟨_, rfl⟩
      rw [hol] at CM hok
      have HOL := Lib.hid hol
      have HKL := Lib.hid hkl
      have i0' : (0 : Int) ≤ (k : Int) := by omega
      have i1' : (k : Int) < (ls.length : Int) := by omega
      rw [hol]
      clear hkl hol
      by_cases hq : o.count K = 0
      · rw [hq, show (((0 : Nat) : Int)) = 0 from rfl] at CM
        have HN : Hid (o ++ [K] = onceI (ls.take (k + 1))) := by show _ = _; rw [HS.out, ← HO.out, onceF, if_pos hq]
        clear hq HS HO
        go_wp2_with (first
          | (go_at_call 73; (with_reducible refine (CM.out _ BAG.out.rws HF.out).mono ?_); rintro e w1 ⟨rfl, hb1⟩; have hc1 := (hb1.cell (p := ⟨_, _, none⟩) hg).trans hc; have HF1 := Lib.hid (HF.out.below hb1); have BAG1 := Lib.hid (BAG.out.below hb1); have HB1 := Lib.hid (HB.out.trans (hb1.mono hwz)); have hwz1 := HB1.out.size; clear hb1 hc BAG HB HF hwz)
          | (go_at_call 53; (with_reducible refine (CC.out _ HF1.out).mono ?_); rintro e w2 ⟨g2, c2, rfl, hr2, hb2⟩; have HR2 := Lib.hid hr2; have BAG2 := Lib.hid (BAG1.out.below hb2); have HB2 := Lib.hid (HB1.out.trans (hb2.mono hwz1)); have HBB := Lib.hid hb2; have hwz2 := HB2.out.size; clear hb2 hr2)
          | (at_builtin; go_loud (refine wpList_append_block _ rfl (.tmp 19) (.tmp 25) 27 rfl w.heap.size 50 i0 (.slice none 0 0) 1 24 Tryz.underlying27 hi iz0 iz1 iz2 rfl (by decide) g ol c (T.map hdr) rfl (by have h := BAG2.out.own; rw [HOL.out] at h; exact h.alloc _) _ 1 1 [.slice (some ⟨g2, 0, none⟩) kl c2] rfl rfl (news_new (by first | rfl | simp)) (by simp [Value.oneCell']) (by unfold maxLen; omega) (by omega) (by first | omega | (simp; done) | (simp; omega)) ?_); intro g3 c3 w3 hown hgr hgg; have HNB := Lib.hid (Bag.push2 BAG1.out HR2.out HBB.out (by rw [HOL.out]) (by have h := hown; rw [← HKL.out] at h; exact h) hgr hgg); have HB3 := Lib.hid (Below.grown (HB2.out.alloc hwz2 _) hgr (by simp; omega) (fun k hk => by obtain rfl := Option.some.inj hk; exact BAG1.out.lo.1)); clear hown hgr hgg))
        exact ⟨⟨k + 1, g3, c3, _, o ++ [K], by omega, by go_num, by simp [HOL.out], by simp [HOL.out]; omega, HN, HNB, HB3⟩, by simp [intOf]; omega⟩
      · have HN : Hid (o = onceI (ls.take (k + 1))) := by show _ = _; rw [HS.out, ← HO.out, onceF, if_neg hq]
        have hq2 : ¬ ((o.count K : Nat) : Int) = 0 := by omega
        obtain ⟨m, hm⟩ : ∃ m, o.count K = m := ⟨_, rfl⟩
        rw [hm] at CM hq2
        clear hq HS HO hm
        go_wp2_with (go_at_call 73; (with_reducible refine (CM.out _ BAG.out.rws HF.out).mono ?_); rintro e w1 ⟨rfl, hb1⟩; have BAG1 := Lib.hid (BAG.out.below hb1); have HB1 := Lib.hid (HB.out.trans (hb1.mono hwz)); clear hb1 BAG HB HF hwz)
        exact ⟨⟨k + 1, g, c, T, o, by omega, by go_num, by rw [HOL.out], by rw [HOL.out]; omega, HN, BAG1, HB1⟩, by simp [intOf]; omega⟩
    · obtain rfl : k = ls.length := by omega
      have HO2 : Hid (o = onceI ls) := by show _ = _; have := HO.out; rwa [List.take_length] at this
      obtain rfl := HO2.out
      go_wp2
      go_ret
      exact ⟨g, c, T, rfl, BAG.out, HB.out⟩
end Go.Proofs.YtacinjbaebimhaaGreat.Val
namespace Go.Proofs.YtacinjbaebimhaaGreat.Val
open Go.RowKit
set_option linter.unusedVariables false
set_option maxRecDepth 8000
def rowsB (cs : List CT) (ls : List RT) : Bool := colB cs && ls.all (fitB cs)
theorem rowsOkI (A B : Option Addr) (g o gB oB cap capB : Nat) (cs : List CT) (ls : List RT) (w : World) (hA : Fl w g o A (flatC cs)) (hB : Rws w gB oB B ls) (hl : cs.length ≤ 2000000) (hok : Ok2 ls) :
    Calls Tryz.prog 43 #[.slice A cs.length cap, .slice B ls.length capB] w fun e w' => e = .returned (.bool (rowsB cs ls)) ∧ Below w.heap.size w w' := by
  have HA := Lib.hid hA
  have HB := Lib.hid hB
  have HK := Lib.hid hok
  have hl2 := hok.1
  clear hA hB hok
  have CC := Lib.hid (fun w hw => columnsOkI A g o cap cs w hw hl)
  obtain ⟨B1, hB1⟩ : ∃ b, colB cs = b := ⟨_, rfl⟩
  rw [hB1] at CC
  have F1 := Lib.hid hB1
  clear hB1
  go_enter Tryz.func43, Tryz.ntmps43
  go_wp2_with (go_at_call 62; (with_reducible refine (CC.out _ HA.out).mono ?_); rintro e w1 ⟨rfl, rfl⟩)
  · go_ret
    refine ⟨retB ?_, Below.refl _ _⟩
    have f1 := F1.out
    rw [rowsB, f1]; simp_all
  · obtain rfl : B1 = true := yes_of (by assumption)
    simp only [Bool.not_true]
    go_loopw [5] (fun ix wr => ∃ (k : Nat), k ≤ ls.length ∧ ix = .int .i64 k ∧ Hid ((ls.take k).all (fitB cs) = true) ∧ Hid (Below w.heap.size w wr)) (fun ix _ => ls.length - (intOf ix).toNat)
    case atStart => exact ⟨0, Nat.zero_le _, rfl, rfl, Below.refl _ _⟩
    case round =>
      obtain ⟨k, hk, rfl, HL, HW⟩ := hrel
      by_cases hlt : k < ls.length
      · obtain ⟨rfl, hg, c', g', o', hc, hf⟩ := (HB.out.below HW.out).at k hlt
        have HF := Lib.hid hf
        obtain ⟨hlr, hsr⟩ := HK.out.at k hlt
        have HS := Lib.hid (all_snoc (fitB cs) ls k hlt)
        have HN := Lib.hid (fun hp => all_no (p := fitB cs) k hlt hp)
        obtain ⟨K, hK⟩ : ∃ K, ls[k] = K := ⟨_, rfl⟩
        rw [hK] at hc HF HS HN hlr hsr
        clear hK hf
        have CF := Lib.hid (fun W hW hW2 => rowFitsI A (some ⟨g', o', none⟩) g o g' o' cap c' cs K W hW hW2 hl hlr hsr)
        obtain ⟨kl, hkl⟩ : ∃ n, K.length = n := ⟨_, rfl⟩
        rw [hkl] at hc CF
        clear hkl hsr
        obtain ⟨E, hE⟩ : ∃ E, fitB cs K = E := ⟨_, rfl⟩
        rw [hE] at CF HS HN
        clear hE
        have i0' : (0 : Int) ≤ (k : Int) := by omega
        have i1' : (k : Int) < (ls.length : Int) := by omega
        go_wp2_with (go_at_call 63; (with_reducible refine (CF.out _ (HA.out.below HW.out) HF.out).mono ?_); rintro e w1 ⟨rfl, hb1⟩; have HW1 := Lib.hid (HW.out.trans (hb1.mono HW.out.size)); clear hb1 HW)
        · go_ret
          refine ⟨retB ?_, HW1.out⟩
          rw [rowsB, HN.out (not_of (by assumption))]; simp
        · go_round
          case rel => exact ⟨k + 1, by omega, by go_num, hid_all HS HL (by assumption), HW1⟩
          case measure => simp [intOf]; omega
      · obtain rfl : k = ls.length := by omega
        go_wp2
        go_ret
        refine ⟨retB ?_, HW.out⟩
        have f1 := F1.out
        rw [rowsB, all_end HL, f1]; simp_all
theorem rowsOkS (A B : Option Addr) (g o gB oB cap capB : Nat) (cs : List CT) (ls : List RT) (w : World) (hA : Fl w g o A (flatC cs)) (hB : Rws w gB oB B ls) (hl : cs.length ≤ 2000000) (hok : Ok2 ls) :
    Calls Tryz.prog 52 #[.slice A cs.length cap, .slice B ls.length capB] w fun e w' => e = .returned (.bool (rowsB cs ls)) ∧ Below w.heap.size w w' := by
  have HA := Lib.hid hA
  have HB := Lib.hid hB
  have HK := Lib.hid hok
  have hl2 := hok.1
  clear hA hB hok
  have CC := Lib.hid (fun w hw => columnsOkS A g o cap cs w hw hl)
  go_enter Tryz.func52, Tryz.ntmps52
  go_wp2
  go_loopw [5] (fun ix wr => ∃ (k : Nat), k ≤ ls.length ∧ ix = .int .i64 k ∧ Hid ((ls.take k).all (fitB cs) = true) ∧ Hid (Below w.heap.size w wr)) (fun ix _ => ls.length - (intOf ix).toNat)
  case atStart => exact ⟨0, Nat.zero_le _, rfl, rfl, Below.refl _ _⟩
  case round =>
    obtain ⟨k, hk, rfl, HL, HW⟩ := hrel
    by_cases hlt : k < ls.length
    · obtain ⟨rfl, hg, c', g', o', hc, hf⟩ := (HB.out.below HW.out).at k hlt
      have HF := Lib.hid hf
      obtain ⟨hlr, hsr⟩ := HK.out.at k hlt
      have HS := Lib.hid (all_snoc (fitB cs) ls k hlt)
      have HN := Lib.hid (fun hp => all_no (p := fitB cs) k hlt hp)
      obtain ⟨K, hK⟩ : ∃ K, ls[k] = K := ⟨_, rfl⟩
      rw [hK] at hc HF HS HN hlr hsr
      clear hK hf
      have CF := Lib.hid (fun W hW hW2 => rowFitsS A (some ⟨g', o', none⟩) g o g' o' cap c' cs K W hW hW2 hl hlr hsr)
      obtain ⟨kl, hkl⟩ : ∃ n, K.length = n := ⟨_, rfl⟩
      rw [hkl] at hc CF
      clear hkl hsr
      obtain ⟨E, hE⟩ : ∃ E, fitB cs K = E := ⟨_, rfl⟩
      rw [hE] at CF HS HN
      clear hE
      have i0' : (0 : Int) ≤ (k : Int) := by omega
      have i1' : (k : Int) < (ls.length : Int) := by omega
      go_wp2_with (go_at_call 69; (with_reducible refine (CF.out _ (HA.out.below HW.out) HF.out).mono ?_); rintro e w1 ⟨rfl, hb1⟩; have HW1 := Lib.hid (HW.out.trans (hb1.mono HW.out.size)); clear hb1 HW)
      · go_ret
        refine ⟨retB ?_, HW1.out⟩
        rw [rowsB, HN.out (not_of (by assumption))]; simp
      · go_round
        case rel => exact ⟨k + 1, by omega, by go_num, hid_all HS HL (by assumption), HW1⟩
        case measure => simp [intOf]; omega
    · obtain rfl : k = ls.length := by omega
      go_wp2_with (go_at_call 70; (with_reducible refine (CC.out _ (HA.out.below HW.out)).mono ?_); rintro e w1 ⟨rfl, rfl⟩)
      all_goals (go_ret; refine ⟨retB ?_, HW.out⟩; rw [rowsB, all_end HL]; simp)
end Go.Proofs.YtacinjbaebimhaaGreat.Val
