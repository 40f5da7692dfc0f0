/- Bags of rows: how many, in order, each once, less: plain facts; Rows of rows: headers that lie; rows of headers of one's own over rows of one's own; How many of rows are a row: rowIs, l3Same, RowMany; A row of one's own with the values of another one (rowCopy, l3Own); RowsOnce, both sides; SameBag, RowsOk, both sides. -/
import Derived.Test.YtjidkjnlnenmbaaRowXQ
import Derived.Test.YtjidkjnlnenmbaaTxtQ
import Derived.Test.YtjidkjnlnenmbaaOwnKQ
import Derived.Test.YtjidkjnlnenmbaaAppBQ
import Derived.Test.YtjidkjnlnenmbaaRowFQ
import Derived.Deep.RegionHeldLaw
namespace Go.Proofs.Ytjidkjnlnenmbaa.Val
open Go.RowKit
open List (Perm)
set_option linter.unusedVariables false
abbrev RT := List VT
instance rtEq : BEq (List VT) := instBEqOfDecidableEq
instance rtLaw : LawfulBEq (List VT) := { eq_of_beq := fun h => of_decide_eq_true h, rfl := decide_eq_true rfl }
/-- Where a row goes: behind the last one of the first k that does not come behind it. -/
def posI (ls : List RT) (r : RT) : Nat → Nat
  | 0 => 0
  | k + 1 => if 0 < rowI (ls.getD k []) r then posI ls r k else k + 1
def insL {α : Type} (l : List α) (p : Nat) (x : α) : List α := l.take p ++ x :: l.drop p
theorem insL_len {α : Type} (l : List α) (p : Nat) (x : α) : (insL l p x).length = l.length + 1 := by
  simp [insL]; omega
theorem insL_perm {α : Type} (l : List α) (p : Nat) (x : α) : Perm (insL l p x) (x :: l) := by
  unfold insL
  refine (List.perm_middle).trans ?_
  rw [List.take_append_drop]
theorem insL_map {α β : Type} (f : α → β) (l : List α) (p : Nat) (x : α) : (insL l p x).map f = insL (l.map f) p (f x) := by
  simp [insL, List.map_take, List.map_drop]
theorem insL_get {α : Type} (l : List α) (p : Nat) (x : α) (hp : p ≤ l.length) (k : Nat) : (insL l p x)[k]? = if k < p then l[k]? else if k = p then some x else l[k - 1]? := by
  have hl : (l.take p).length = p := by simp; omega
  unfold insL
  by_cases h1 : k < p
  · rw [if_pos h1, List.getElem?_append_left (by omega), List.getElem?_take, if_pos h1]
  · rw [if_neg h1, List.getElem?_append_right (by omega), hl]
    by_cases h2 : k = p
    · subst h2; simp
    · rw [if_neg h2]
      obtain ⟨j, hj⟩ : ∃ j, k - p = j + 1 := ⟨k - p - 1, by omega⟩
      rw [hj, List.getElem?_cons_succ, List.getElem?_drop]
      congr 1; omega
def putI (ls : List RT) (r : RT) : List RT := insL ls (posI ls r ls.length) r
theorem putI_len (ls : List RT) (r : RT) : (putI ls r).length = ls.length + 1 := insL_len _ _ _
def total (l : List RT) : Nat := (l.map List.length).sum
end Go.Proofs.Ytjidkjnlnenmbaa.Val
namespace Go.Proofs.Ytjidkjnlnenmbaa.Val
open Go.RowKit
set_option linter.unusedVariables false
theorem cellOf {w w' : World} {g o : Nat} (h : w'.heap[g]? = w.heap[g]?) : w'.cell? ⟨g, o, none⟩ = w.cell? ⟨g, o, none⟩ := World.cell?_of_block (a := ⟨g, o, none⟩) h
theorem frozenOf {w w' : World} {g o : Nat} (h : w'.heap[g]? = w.heap[g]?) : w'.frozen? ⟨g, o, none⟩ = w.frozen? ⟨g, o, none⟩ := World.frozen?_of_block (a := ⟨g, o, none⟩) h
/-- The rows ls lie: their headers in block g from cell o on, each row somewhere. -/
structure Rws (w : World) (g o : Nat) (A : Option Addr) (ls : List RT) : Prop where
  ad : 0 < ls.length → A = some ⟨g, o, none⟩
  hd : ∀ j (h : j < ls.length), ∃ (c' g' o' : Nat), w.cell? ⟨g, o + j, none⟩ = some (.slice (some ⟨g', o', none⟩) ls[j].length c') ∧ Fl w g' o' (some ⟨g', o', none⟩) (flatV ls[j])
theorem Rws.below {w w' : World} {g o : Nat} {A : Option Addr} {ls : List RT} (h : Rws w g o A ls) (hb : Below w.heap.size w w') : Rws w' g o A ls := by
  refine ⟨h.ad, fun j hj => ?_⟩
  obtain ⟨c', g', o', h1, h2⟩ := h.hd j hj
  exact ⟨c', g', o', (hb.cell (p := ⟨g, o + j, none⟩) (World.block_lt_of_cell? w ⟨g, o + j, none⟩ h1)).trans h1, h2.below hb⟩
theorem Rws.alloc {w : World} {g o : Nat} {A : Option Addr} {ls : List RT} (h : Rws w g o A ls) (ob : Obj) : Rws (w.alloc ob) g o A ls := h.below ((Below.refl _ _).alloc (Nat.le_refl _) _)
theorem Rws.drew {w : World} {g o : Nat} {A : Option Addr} {ls : List RT} (h : Rws w g o A ls) : Rws w.drew g o A ls := h.below ((Below.refl _ _).drew)
theorem Rws.take {w : World} {g o : Nat} {A : Option Addr} {ls : List RT} (h : Rws w g o A ls) (k : Nat) : Rws w g o A (ls.take k) := by
  refine ⟨fun h0 => h.ad (by simp at h0; omega), fun j hj => ?_⟩
  have hj2 : j < ls.length := by simp at hj; omega
  have := h.hd j hj2
  simpa using this
theorem Rws.drop {w : World} {g o : Nat} {A : Option Addr} {ls : List RT} (h : Rws w g o A ls) (k : Nat) : Rws w g (o + k) (some ⟨g, o + k, none⟩) (ls.drop k) := by
  refine ⟨fun h0 => rfl, fun j hj => ?_⟩
  have hj2 : k + j < ls.length := by simp at hj; omega
  have := h.hd (k + j) hj2
  simpa [Nat.add_assoc] using this
theorem Rws.at {w : World} {g o : Nat} {A : Option Addr} {ls : List RT} (h : Rws w g o A ls) (j : Nat) (hj : j < ls.length) : A = some ⟨g, o, none⟩ ∧ g < w.heap.size ∧ ∃ (c' g' o' : Nat), w.cell? ⟨g, o + j, none⟩ = some (.slice (some ⟨g', o', none⟩) ls[j].length c') ∧ Fl w g' o' (some ⟨g', o', none⟩) (flatV ls[j]) := by
  obtain ⟨c', g', o', h1, h2⟩ := h.hd j hj
  exact ⟨h.ad (by omega), World.block_lt_of_cell? w ⟨g, o + j, none⟩ h1, c', g', o', h1, h2⟩
/-- Rows, texts that a machine can hold. -/
def Ok2 (ls : List RT) : Prop := ls.length ≤ 2000000 ∧ ∀ r ∈ ls, r.length ≤ 2000000 ∧ Short r
theorem Ok2.at {ls : List RT} (h : Ok2 ls) (j : Nat) (hj : j < ls.length) : ls[j].length ≤ 2000000 ∧ Short ls[j] := h.2 _ (List.getElem_mem _)
theorem Ok2.sub {ls ms : List RT} (h : Ok2 ls) (hl : ms.length ≤ 2000000) (hm : ∀ r ∈ ms, r ∈ ls) : Ok2 ms := ⟨hl, fun r hr => h.2 r (hm r hr)⟩
abbrev TT := Nat × Nat × RT
def hdr (t : TT) : Value := .slice (some ⟨t.1, 0, none⟩) t.2.2.length t.2.1
structure RowO (w : World) (B : Nat) (t : TT) : Prop where
  fl : Fl w t.1 0 (some ⟨t.1, 0, none⟩) (flatV t.2.2)
  fz : ∀ j, j < (flatV t.2.2).length → w.frozen? ⟨t.1, j, none⟩ = false
  lo : B ≤ t.1
  hi : t.1 < w.heap.size
theorem RowO.keep {w w' : World} {B : Nat} {t : TT} (h : RowO w B t) (hz : w.heap.size ≤ w'.heap.size) (hk : w'.heap[t.1]? = w.heap[t.1]?) : RowO w' B t :=
  ⟨h.fl.keep fun _ j => cellOf hk, fun j hj => (frozenOf hk).trans (h.fz j hj), h.lo, Nat.lt_of_lt_of_le h.hi hz⟩
theorem RowO.below {w w' : World} {B : Nat} {t : TT} (h : RowO w B t) (hb : Below w.heap.size w w') : RowO w' B t := h.keep hb.size (hb.block _ h.hi)
theorem RowO.alloc {w : World} {B : Nat} {t : TT} (h : RowO w B t) (ob : Obj) : RowO (w.alloc ob) B t := h.below ((Below.refl _ _).alloc (Nat.le_refl _) _)
theorem RowO.drew {w : World} {B : Nat} {t : TT} (h : RowO w B t) : RowO w.drew B t := h.below ((Below.refl _ _).drew)
theorem RowO.lower {w : World} {B B' : Nat} {t : TT} (h : RowO w B t) (hB : B' ≤ B) : RowO w B' t := ⟨h.fl, h.fz, Nat.le_trans hB h.lo, h.hi⟩
theorem RowO.of_own {w : World} {B g c : Nat} {e : TypeId} {l : RT} (h : w.ownsRow B e 3 (.slice (some ⟨g, 0, none⟩) l.length c) l.length (flatV l)) : RowO w B (g, c, l) := by
  have hl := flatV_len l
  refine ⟨⟨fun _ => rfl, fun j hj => ?_⟩, fun j hj => h.frozenAt j, (h.lt g rfl).1, (h.lt g rfl).2⟩
  rw [Nat.zero_add, h.cellAt j (by simp only at hj; omega), List.getElem?_eq_getElem hj]
structure Bag (w : World) (B g cap : Nat) (T : List TT) (ls : List RT) : Prop where
  eq : T.map (fun t => t.2.2) = ls
  own : w.ownsRow B 53 1 (.slice (some ⟨g, 0, none⟩) ls.length cap) ls.length (T.map hdr)
  rows : ∀ t ∈ T, RowO w B t
  nd : (T.map fun t => t.1).Nodup
  ng : ∀ t ∈ T, t.1 ≠ g
theorem Bag.len {w : World} {B g cap : Nat} {T : List TT} {ls : List RT} (h : Bag w B g cap T ls) : T.length = ls.length := by rw [← h.eq, List.length_map]
theorem Bag.lo {w : World} {B g cap : Nat} {T : List TT} {ls : List RT} (h : Bag w B g cap T ls) : B ≤ g ∧ g < w.heap.size := h.own.lt g rfl
theorem own_keep {w w' : World} {B g n cap size : Nat} {e : TypeId} {xs : List Value} (h : w.ownsRow B e size (.slice (some ⟨g, 0, none⟩) n cap) n xs) (hk : w'.heap[g]? = w.heap[g]?) : w'.ownsRow B e size (.slice (some ⟨g, 0, none⟩) n cap) n xs := by
  refine ⟨h.1, ?_⟩
  rcases h.2 with h0 | ⟨g2, cap2, cur, h1, h2, h3, h4⟩
  · exact .inl h0
  · have e1 : g = g2 := by
      injection h1 with e1 e2 e3
      injection e1 with e1
      injection e1
    subst e1
    exact .inr ⟨g, cap2, cur, h1, h2, hk.trans h3, h4⟩
theorem own_caps {w : World} {B g n cap size : Nat} {e : TypeId} {xs : List Value} (h : w.ownsRow B e size (.slice (some ⟨g, 0, none⟩) n cap) n xs) : n ≤ cap ∧ cap ≤ maxLen := by
  rcases h.2 with ⟨h0, -⟩ | ⟨g2, cap2, cur, h1, h2, h3, h4, h5, -⟩
  · cases h0
  · have e2 : cap = cap2 := by injection h1
    subst e2
    exact ⟨h4, h5⟩
theorem Bag.caps {w : World} {B g cap : Nat} {T : List TT} {ls : List RT} (h : Bag w B g cap T ls) : ls.length ≤ cap ∧ cap ≤ maxLen := own_caps h.own
theorem Bag.keep {w w' : World} {B g cap : Nat} {T : List TT} {ls : List RT} (h : Bag w B g cap T ls) (hz : w.heap.size ≤ w'.heap.size) (hg : w'.heap[g]? = w.heap[g]?) (hk : ∀ t ∈ T, w'.heap[t.1]? = w.heap[t.1]?) : Bag w' B g cap T ls :=
  ⟨h.eq, own_keep h.own hg, fun t ht => (h.rows t ht).keep hz (hk t ht), h.nd, h.ng⟩
theorem Bag.below {w w' : World} {B g cap : Nat} {T : List TT} {ls : List RT} (h : Bag w B g cap T ls) (hb : Below w.heap.size w w') : Bag w' B g cap T ls :=
  h.keep hb.size (hb.block _ h.lo.2) fun t ht => hb.block _ (h.rows t ht).hi
theorem Bag.alloc {w : World} {B g cap : Nat} {T : List TT} {ls : List RT} (h : Bag w B g cap T ls) (ob : Obj) : Bag (w.alloc ob) B g cap T ls := h.below ((Below.refl _ _).alloc (Nat.le_refl _) _)
theorem Bag.drew {w : World} {B g cap : Nat} {T : List TT} {ls : List RT} (h : Bag w B g cap T ls) : Bag w.drew B g cap T ls := h.below ((Below.refl _ _).drew)
theorem Bag.empty (w : World) : Bag (w.alloc (.cells #[] 53)) w.heap.size w.heap.size 0 [] [] :=
  ⟨rfl, own_empty3 53 1 rfl (Nat.le_refl _), fun t ht => absurd ht (by simp), by simp, fun t ht => absurd ht (by simp)⟩
theorem Bag.rws {w : World} {B g cap : Nat} {T : List TT} {ls : List RT} (h : Bag w B g cap T ls) : Rws w g 0 (some ⟨g, 0, none⟩) ls := by
  have hl := h.len
  refine ⟨fun _ => rfl, fun j hj => ?_⟩
  have hj2 : j < T.length := by omega
  have hr := h.rows T[j] (List.getElem_mem _)
  have he : ls[j] = T[j].2.2 := by
    have := h.eq
    subst this
    simp
  refine ⟨T[j].2.1, T[j].1, 0, ?_, ?_⟩
  · rw [Nat.zero_add, h.own.cellAt j (by omega), List.getElem?_map, List.getElem?_eq_getElem hj2, he]; rfl
  · rw [he]; exact hr.fl
/-- A header more. -/
theorem Bag.push {w w' : World} {B g cap g' cap' n : Nat} {T : List TT} {ls : List RT} {t : TT} (h : Bag w B g cap T ls) (ht : RowO w B t) (hn : ∀ u ∈ T, u.1 ≠ t.1) (hg : t.1 ≠ g) (hnl : n = ls.length + 1)
    (hown : w'.ownsRow B 53 1 (.slice (some ⟨g', 0, none⟩) n cap') n (T.map hdr ++ [hdr t])) (hgr : w.grownBy w' (some g)) (hgg : g' = g ∨ w.heap.size ≤ g') : Bag w' B g' cap' (T ++ [t]) (ls ++ [t.2.2]) := by
  subst hnl
  have hk : ∀ u, RowO w B u → u.1 ≠ g → RowO w' B u := fun u hu hne => hu.keep hgr.size (hgr.block _ hu.hi (fun e => hne (Option.some.inj e)))
  refine ⟨by rw [List.map_append, h.eq]; rfl, ?_, ?_, ?_, ?_⟩
  · rw [List.length_append, List.map_append]; exact hown
  · intro u hu
    rcases List.mem_append.1 hu with hu | hu
    · exact hk u (h.rows u hu) (h.ng u hu)
    · obtain rfl := List.mem_singleton.1 hu
      exact hk _ ht hg
  · rw [List.map_append, List.nodup_append]
    refine ⟨h.nd, by simp, fun a ha b hb e => ?_⟩
    simp at hb
    obtain ⟨u, hu, rfl⟩ := List.mem_map.1 ha
    exact hn u hu (by rw [e, hb])
  · intro u hu e
    have hlt : u.1 < w.heap.size ∧ u.1 ≠ g := by
      rcases List.mem_append.1 hu with hu | hu
      · exact ⟨(h.rows u hu).hi, h.ng u hu⟩
      · obtain rfl := List.mem_singleton.1 hu
        exact ⟨ht.hi, hg⟩
    rcases hgg with hgg | hgg
    · exact hlt.2 (e.trans hgg)
    · omega
theorem infoVS : (Try.prog.info? 53).map (fun i => (i.zero, i.size, i.bytes)) = some (some (.slice none 0 0), 1, 24) := by kernel_rfl
end Go.Proofs.Ytjidkjnlnenmbaa.Val
namespace Go.Proofs.Ytjidkjnlnenmbaa.Val
open Go.RowKit
set_option linter.unusedVariables false
end Go.Proofs.Ytjidkjnlnenmbaa.Val
namespace Go.Proofs.Ytjidkjnlnenmbaa.Val
open Go.RowKit
set_option linter.unusedVariables false
set_option maxRecDepth 8000
def RetBag (ls : List RT) (w : World) (e : Ending) (w' : World) : Prop := ∃ (g c : Nat) (T : List TT), e = .returned (.slice (some ⟨g, 0, none⟩) ls.length c) ∧ Bag w' w.heap.size g c T ls ∧ Below w.heap.size w w'
theorem addNone (b off i : Nat) : (⟨b, off, none⟩ : Addr).add i = ⟨b, off + i, none⟩ := by
  unfold Addr.add; split
  · rename_i h; simp_all
  · rfl
theorem news_flo {W : World} {g o : Nat} {A : Option Addr} {xs : List Value} (h : Fl W g o A xs) : ∀ j u, xs[j]? = some u → W.cell? ((⟨g, o, none⟩ : Addr).add j) = some u := by
  intro j u hj
  obtain ⟨hl, rfl⟩ := List.getElem?_eq_some_iff.1 hj
  rw [addNone]
  exact h.c j hl
theorem one_flatV (vs : List VT) : ∀ u ∈ flatV vs, u.oneCell' = true := by
  induction vs with
  | nil => intro u hu; simp [flatV] at hu
  | cons v vs ih =>
    intro u hu
    rw [flatV_cons] at hu
    simp only [List.mem_cons] at hu
    rcases hu with rfl | rfl | rfl | hu
    · rfl
    · rfl
    · rfl
    · exact ih u hu
theorem infoVc : (Try.prog.info? 73).map (fun i => (i.zero, i.size, i.bytes)) = some (some (.agg #[.int .i64 0, .int .i64 0, .string ⟨#[]⟩]), 3, 32) := by kernel_rfl
theorem Bag.push2 {w1 w2 w' : World} {B g cap g' cap' n : Nat} {T : List TT} {ls : List RT} {t : TT} {ob : Obj} (h : Bag w1 B g cap T ls) (ht : RowO w2 w1.heap.size t) (hb : Below w1.heap.size w1 w2) (hnl : n = ls.length + 1)
    (hown : w'.ownsRow B 53 1 (.slice (some ⟨g', 0, none⟩) n cap') n (T.map hdr ++ [hdr t])) (hgr : (w2.alloc ob).grownBy w' (some g)) (hgg : g' = g ∨ (w2.alloc ob).heap.size ≤ g') : Bag w' B g' cap' (T ++ [t]) (ls ++ [t.2.2]) := by
  have hlo := ht.lo
  have hg := h.lo
  refine ((h.below hb).alloc ob).push ((ht.lower (by omega)).alloc ob) (fun u hu => ?_) (by omega) hnl hown hgr hgg
  have := (h.rows u hu).hi
  omega
theorem l3Own (g o c : Nat) (l : List VT) (w : World) (h : Fl w g o (some ⟨g, o, none⟩) (flatV l)) (hl : l.length ≤ 2000000) :
    Calls Try.prog 102 #[.slice (some ⟨g, o, none⟩) l.length c] w fun e w' => ∃ (g2 c2 : Nat), e = .returned (.slice (some ⟨g2, 0, none⟩) l.length c2) ∧ RowO w' w.heap.size (g2, c2, l) ∧ Below w.heap.size w w' := by
  obtain ⟨i0, hi, iz0, iz1, iz2⟩ := info_parts infoVc
  have HA := Lib.hid h
  clear h
  have hfl := Lib.hid (flatV_len l)
  have OWN := Lib.hid (own_empty3 (w := w) (B := w.heap.size) 73 3 rfl (Nat.le_refl _))
  go_enter Try.func102, Try.ntmps102
  go_wp2_with (at_builtin; refine wpList_append_block _ rfl (.tmp 3) (.tmp 4) 53 rfl w.heap.size 73 i0 (.agg #[.int .i64 0, .int .i64 0, .string ⟨#[]⟩]) 3 32 Try.underlying53 hi iz0 iz1 iz2 rfl (by decide) w.heap.size 0 0 [] rfl OWN.out _ _ _ (flatV l) rfl hfl.out (news_flo (HA.out.alloc _)) (one_flatV l) (by unfold maxLen; omega) (by omega) (by first | omega | (simp; done) | (simp; omega)) ?_; intro g2 c2 w2 hown hgr hgg; (try simp only [Nat.zero_add, List.nil_append] at hown); have HO := Lib.hid hown; have HB := Lib.hid (Below.grown ((Below.refl _ _).alloc (Nat.le_refl _) _) hgr (by simp) (fun k hk => by obtain rfl := Option.some.inj hk; exact Nat.le_refl _)); clear hown hgr hgg)
  go_ret
  exact ⟨g2, c2, by simp, RowO.of_own HO.out, HB.out⟩
end Go.Proofs.Ytjidkjnlnenmbaa.Val
namespace Go.Proofs.Ytjidkjnlnenmbaa.Val
open Go.RowKit
set_option linter.unusedVariables false
set_option maxRecDepth 8000
def rowsB (cs : List CT) (ls : List RT) : Bool := colB cs && ls.all (fitB cs)
theorem rowsOkI (A B : Option Addr) (g o gB oB cap capB : Nat) (cs : List CT) (ls : List RT) (w : World) (hA : Fl w g o A (flatC cs)) (hB : Rws w gB oB B ls) (hl : cs.length ≤ 2000000) (hok : Ok2 ls) :
    Calls Try.prog 50 #[.slice A cs.length cap, .slice B ls.length capB] w fun e w' => e = .returned (.bool (rowsB cs ls)) ∧ Below w.heap.size w w' := by
  have HA := Lib.hid hA
  have HB := Lib.hid hB
  have HK := Lib.hid hok
  have hl2 := hok.1
  clear hA hB hok
  have CC := Lib.hid (fun w hw => columnsOkI A g o cap cs w hw hl)
  obtain ⟨B1, hB1⟩ : ∃ b, colB cs = b := ⟨_, rfl⟩
  rw [hB1] at CC
  have F1 := Lib.hid hB1
  clear hB1
  go_enter Try.func50, Try.ntmps50
  go_wp2_with (go_at_call 94; (with_reducible refine (CC.out _ HA.out).mono ?_); rintro e w1 ⟨rfl, rfl⟩)
  · go_ret
    refine ⟨retB ?_, Below.refl _ _⟩
    have f1 := F1.out
    rw [rowsB, f1]; simp_all
  · obtain rfl : B1 = true := yes_of (by assumption)
    simp only [Bool.not_true]
    go_loopw [5] (fun ix wr => ∃ (k : Nat), k ≤ ls.length ∧ ix = .int .i64 k ∧ Hid ((ls.take k).all (fitB cs) = true) ∧ Hid (Below w.heap.size w wr)) (fun ix _ => ls.length - (intOf ix).toNat)
    case atStart => exact ⟨0, Nat.zero_le _, rfl, rfl, Below.refl _ _⟩
    case round =>
      obtain ⟨k, hk, rfl, HL, HW⟩ := hrel
      by_cases hlt : k < ls.length
      · obtain ⟨rfl, hg, c', g', o', hc, hf⟩ := (HB.out.below HW.out).at k hlt
        have HF := Lib.hid hf
        obtain ⟨hlr, hsr⟩ := HK.out.at k hlt
        have HS := Lib.hid (all_snoc (fitB cs) ls k hlt)
        have HN := Lib.hid (fun hp => all_no (p := fitB cs) k hlt hp)
        obtain ⟨K, hK⟩ : ∃ K, ls[k] = K := ⟨_, rfl⟩
        rw [hK] at hc HF HS HN hlr hsr
        clear hK hf
        have CF := Lib.hid (fun W hW hW2 => rowFitsI A (some ⟨g', o', none⟩) g o g' o' cap c' cs K W hW hW2 hl hlr hsr)
        obtain ⟨kl, hkl⟩ : ∃ n, K.length = n := ⟨_, rfl⟩
        rw [hkl] at hc CF
        clear hkl hsr
        obtain ⟨E, hE⟩ : ∃ E, fitB cs K = E := ⟨_, rfl⟩
        rw [hE] at CF HS HN
        clear hE
        have i0' : (0 : Int) ≤ (k : Int) := by omega
        have i1' : (k : Int) < (ls.length : Int) := by omega
        go_wp2_with (go_at_call 95; (with_reducible refine (CF.out _ (HA.out.below HW.out) HF.out).mono ?_); rintro e w1 ⟨rfl, hb1⟩; have HW1 := Lib.hid (HW.out.trans (hb1.mono HW.out.size)); clear hb1 HW)
        · go_ret
          refine ⟨retB ?_, HW1.out⟩
          rw [rowsB, HN.out (not_of (by assumption))]; simp
        · go_round
          case rel => exact ⟨k + 1, by omega, by go_num, hid_all HS HL (by assumption), HW1⟩
          case measure => simp [intOf]; omega
      · obtain rfl : k = ls.length := by omega
        go_wp2
        go_ret
        refine ⟨retB ?_, HW.out⟩
        have f1 := F1.out
        rw [rowsB, all_end HL, f1]; simp_all
theorem rowsOkS (A B : Option Addr) (g o gB oB cap capB : Nat) (cs : List CT) (ls : List RT) (w : World) (hA : Fl w g o A (flatC cs)) (hB : Rws w gB oB B ls) (hl : cs.length ≤ 2000000) (hok : Ok2 ls) :
    Calls Try.prog 67 #[.slice A cs.length cap, .slice B ls.length capB] w fun e w' => e = .returned (.bool (rowsB cs ls)) ∧ Below w.heap.size w w' := by
  have HA := Lib.hid hA
  have HB := Lib.hid hB
  have HK := Lib.hid hok
  have hl2 := hok.1
  clear hA hB hok
  have CC := Lib.hid (fun w hw => columnsOkS A g o cap cs w hw hl)
  go_enter Try.func67, Try.ntmps67
  go_wp2
  go_loopw [5] (fun ix wr => ∃ (k : Nat), k ≤ ls.length ∧ ix = .int .i64 k ∧ Hid ((ls.take k).all (fitB cs) = true) ∧ Hid (Below w.heap.size w wr)) (fun ix _ => ls.length - (intOf ix).toNat)
  case atStart => exact ⟨0, Nat.zero_le _, rfl, rfl, Below.refl _ _⟩
  case round =>
    obtain ⟨k, hk, rfl, HL, HW⟩ := hrel
    by_cases hlt : k < ls.length
    · obtain ⟨rfl, hg, c', g', o', hc, hf⟩ := (HB.out.below HW.out).at k hlt
      have HF := Lib.hid hf
      obtain ⟨hlr, hsr⟩ := HK.out.at k hlt
      have HS := Lib.hid (all_snoc (fitB cs) ls k hlt)
      have HN := Lib.hid (fun hp => all_no (p := fitB cs) k hlt hp)
      obtain ⟨K, hK⟩ : ∃ K, ls[k] = K := ⟨_, rfl⟩
      rw [hK] at hc HF HS HN hlr hsr
      clear hK hf
      have CF := Lib.hid (fun W hW hW2 => rowFitsS A (some ⟨g', o', none⟩) g o g' o' cap c' cs K W hW hW2 hl hlr hsr)
      obtain ⟨kl, hkl⟩ : ∃ n, K.length = n := ⟨_, rfl⟩
      rw [hkl] at hc CF
      clear hkl hsr
      obtain ⟨E, hE⟩ : ∃ E, fitB cs K = E := ⟨_, rfl⟩
      rw [hE] at CF HS HN
      clear hE
      have i0' : (0 : Int) ≤ (k : Int) := by omega
      have i1' : (k : Int) < (ls.length : Int) := by omega
      go_wp2_with (go_at_call 106; (with_reducible refine (CF.out _ (HA.out.below HW.out) HF.out).mono ?_); rintro e w1 ⟨rfl, hb1⟩; have HW1 := Lib.hid (HW.out.trans (hb1.mono HW.out.size)); clear hb1 HW)
      · go_ret
        refine ⟨retB ?_, HW1.out⟩
        rw [rowsB, HN.out (not_of (by assumption))]; simp
      · go_round
        case rel => exact ⟨k + 1, by omega, by go_num, hid_all HS HL (by assumption), HW1⟩
        case measure => simp [intOf]; omega
    · obtain rfl : k = ls.length := by omega
      go_wp2_with (go_at_call 107; (with_reducible refine (CC.out _ (HA.out.below HW.out)).mono ?_); rintro e w1 ⟨rfl, rfl⟩)
      all_goals (go_ret; refine ⟨retB ?_, HW.out⟩; rw [rowsB, all_end HL]; simp)
end Go.Proofs.Ytjidkjnlnenmbaa.Val
