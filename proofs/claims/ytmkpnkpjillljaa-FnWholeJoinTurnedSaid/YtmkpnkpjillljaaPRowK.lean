/- A row with another one behind it; the values of a row that a list names: the reference's l6Joined, l6Taken; The rows of a step: what it is asked with; its own rows; Whether an expression holds on a row that fits: the reference's l6Holds; The rows of a step: the reference's l6Rows; The rows of a join: the reference's l6Rows; The rows of a step that has two lists behind each other: the reference's l6Rows; The rows of a step: the reference's l6Rows, whole. -/
import Derived.Test.YtmkpnkpjillljaaPMath
import Derived.Test.YtmkpnkpjillljaaBag
import Derived.Test.YtmkpnkpjillljaaFlP
import Derived.Test.YtmkpnkpjillljaaTabK
import Derived.Test.YtmkpnkpjillljaaEPVK
import Derived.Test.YtmkpnkpjillljaaEVX
import Derived.Test.YtmkpnkpjillljaaPColK
namespace Go.Proofs.Ytmkpnkpjillljaa.Val
open Go.RowKit
set_option linter.unusedVariables false
set_option maxRecDepth 8000
/-- A row of one's own was made. -/
def RetRow (l : RT) (w : World) (e : Ending) (w' : World) : Prop := ∃ (g c : Nat), e = .returned (.slice (some ⟨g, 0, none⟩) l.length c) ∧ RowO w' w.heap.size (g, c, l) ∧ Below w.heap.size w w'
/-- l3Own, with what an append to it needs. -/
theorem l3OwnW (g o c : Nat) (l : List VT) (w : World) (h : Fl w g o (some ⟨g, o, none⟩) (flatV l)) (hl : l.length ≤ 2000000) :
    Calls Try.prog 118 #[.slice (some ⟨g, o, none⟩) l.length c] w fun e w' => ∃ (g2 c2 : Nat), e = .returned (.slice (some ⟨g2, 0, none⟩) l.length c2) ∧ w'.ownsRow w.heap.size 76 3 (.slice (some ⟨g2, 0, none⟩) l.length c2) l.length (flatV l) ∧ Below w.heap.size w w' := by
  obtain ⟨i0, hi, iz0, iz1, iz2⟩ := info_parts infoVc
  have HA := Lib.hid h
  clear h
  have hfl := Lib.hid (flatV_len l)
  have OWN := Lib.hid (own_empty3 (w := w) (B := w.heap.size) 76 3 rfl (Nat.le_refl _))
  go_enter Try.func118, Try.ntmps118
  go_wp2_with (at_builtin; refine wpList_append_block _ rfl (.tmp 3) (.tmp 4) 70 rfl w.heap.size 76 i0 (.agg #[.int .i64 0, .int .i64 0, .string ⟨#[]⟩]) 3 32 Try.underlying70 hi iz0 iz1 iz2 rfl (by decide) w.heap.size 0 0 [] rfl OWN.out _ _ _ (flatV l) rfl hfl.out (news_flo (HA.out.alloc _)) (one_flatV l) (by unfold maxLen; omega) (by omega) (by first | omega | (simp; done) | (simp; omega)) ?_; intro g2 c2 w2 hown hgr hgg; (try simp only [Nat.zero_add, List.nil_append] at hown); have HO := Lib.hid hown; have HB := Lib.hid (Below.grown ((Below.refl _ _).alloc (Nat.le_refl _) _) hgr (by simp) (fun k hk => by obtain rfl := Option.some.inj hk; exact Nat.le_refl _)); clear hown hgr hgg)
  go_ret
  exact ⟨g2, c2, by simp, HO.out, HB.out⟩
end Go.Proofs.Ytmkpnkpjillljaa.Val
namespace Go.Proofs.Ytmkpnkpjillljaa.Val
open Go.RowKit
set_option linter.unusedVariables false
set_option maxRecDepth 8000
/-- Rows that fit columns are small. -/
theorem ok2_of {cs : List CT} {ls : List RT} (h : rowsB cs ls = true) (hl : ls.length ≤ 2000000) : Ok2 ls := by
  refine ⟨hl, fun r hr => ?_⟩
  obtain ⟨-, h2, -, -⟩ := fitB_iff.1 ((rowsB_iff.1 h).2 r hr)
  obtain ⟨h3, h4⟩ := rowB_iff.1 h2
  exact ⟨by omega, fun i hi => ok_size (h4 _ (List.getElem_mem _))⟩
/-- Lists of rows that lie. -/
structure R3 (w : World) (g o : Nat) (A : Option Addr) (ev : List (List RT)) : Prop where
  ad : 0 < ev.length → A = some ⟨g, o, none⟩
  hd : ∀ j (h : j < ev.length), ∃ (A' : Option Addr) (c' g' o' : Nat), w.cell? ⟨g, o + j, none⟩ = some (.slice A' ev[j].length c') ∧ Rws w g' o' A' ev[j]
theorem R3.below {w w' : World} {g o : Nat} {A : Option Addr} {ev : List (List RT)} (h : R3 w g o A ev) (hb : Below w.heap.size w w') : R3 w' g o A ev := by
  refine ⟨h.ad, fun j hj => ?_⟩
  obtain ⟨A', c', g', o', h1, h2⟩ := h.hd j hj
  exact ⟨A', c', g', o', (hb.cell (p := ⟨g, o + j, none⟩) (World.block_lt_of_cell? w ⟨g, o + j, none⟩ h1)).trans h1, h2.below hb⟩
theorem R3.at {w : World} {g o : Nat} {A : Option Addr} {ev : List (List RT)} (h : R3 w g o A ev) (j : Nat) (hj : j < ev.length) : A = some ⟨g, o, none⟩ ∧ g < w.heap.size ∧ ∃ (A' : Option Addr) (c' g' o' : Nat), w.cell? ⟨g, o + j, none⟩ = some (.slice A' ev[j].length c') ∧ Rws w g' o' A' ev[j] := by
  obtain ⟨A', c', g', o', h1, h2⟩ := h.hd j hj
  exact ⟨h.ad (by omega), World.block_lt_of_cell? w ⟨g, o + j, none⟩ h1, A', c', g', o', h1, h2⟩
/-- Lists of rows of one's own. -/
abbrev T3 := Nat × Nat × List TT
def rows3 (u : T3) : List RT := u.2.2.map fun t => t.2.2
def hd3 (u : T3) : Value := .slice (some ⟨u.1, 0, none⟩) u.2.2.length u.2.1
def blk3 (u : T3) : List Nat := u.1 :: u.2.2.map fun t => t.1
structure Bag3 (w : World) (B g cap : Nat) (L : List T3) (ev : List (List RT)) : Prop where
  eq : L.map rows3 = ev
  own : w.ownsRow B 32 1 (.slice (some ⟨g, 0, none⟩) ev.length cap) ev.length (L.map hd3)
  bags : ∀ u ∈ L, Bag w B u.1 u.2.1 u.2.2 (rows3 u)
  ng : ∀ u ∈ L, g ∉ blk3 u
theorem Bag.blk {w : World} {B : Nat} {u : T3} (h : Bag w B u.1 u.2.1 u.2.2 (rows3 u)) : ∀ b ∈ blk3 u, B ≤ b ∧ b < w.heap.size := by
  intro b hb
  simp only [blk3, List.mem_cons, List.mem_map] at hb
  rcases hb with rfl | ⟨t, ht, rfl⟩
  · exact h.lo
  · exact ⟨(h.rows t ht).lo, (h.rows t ht).hi⟩
theorem Bag.keep3 {w w' : World} {B : Nat} {u : T3} (h : Bag w B u.1 u.2.1 u.2.2 (rows3 u)) (hz : w.heap.size ≤ w'.heap.size) (hk : ∀ b ∈ blk3 u, w'.heap[b]? = w.heap[b]?) : Bag w' B u.1 u.2.1 u.2.2 (rows3 u) :=
  h.keep hz (hk _ (by simp [blk3])) fun t ht => hk _ (by simp only [blk3, List.mem_cons, List.mem_map]; exact .inr ⟨t, ht, rfl⟩)
theorem Bag3.len {w : World} {B g cap : Nat} {L : List T3} {ev : List (List RT)} (h : Bag3 w B g cap L ev) : L.length = ev.length := by rw [← h.eq, List.length_map]
theorem Bag3.lo {w : World} {B g cap : Nat} {L : List T3} {ev : List (List RT)} (h : Bag3 w B g cap L ev) : B ≤ g ∧ g < w.heap.size := h.own.lt g rfl
theorem Bag3.below {w w' : World} {B g cap : Nat} {L : List T3} {ev : List (List RT)} (h : Bag3 w B g cap L ev) (hb : Below w.heap.size w w') : Bag3 w' B g cap L ev :=
  ⟨h.eq, own_keep h.own (hb.block _ h.lo.2), fun u hu => (h.bags u hu).below hb, h.ng⟩
theorem Bag3.empty (w : World) {B : Nat} (hB : B ≤ w.heap.size) : Bag3 (w.alloc (.cells #[] 32)) B w.heap.size 0 [] [] :=
  ⟨rfl, own_empty3 32 1 rfl hB, fun t ht => absurd ht (by simp), fun t ht => absurd ht (by simp)⟩
theorem Bag3.r3 {w : World} {B g cap : Nat} {L : List T3} {ev : List (List RT)} (h : Bag3 w B g cap L ev) : R3 w g 0 (some ⟨g, 0, none⟩) ev := by
  have hl := h.len
  refine ⟨fun _ => rfl, fun j hj => ?_⟩
  have hj2 : j < L.length := by omega
  have hu := h.bags L[j] (List.getElem_mem _)
  have he : ev[j] = rows3 L[j] := by
    have := h.eq
    subst this
    simp
  refine ⟨some ⟨L[j].1, 0, none⟩, L[j].2.1, L[j].1, 0, ?_, ?_⟩
  · rw [Nat.zero_add, h.own.cellAt j (by omega), List.getElem?_map, List.getElem?_eq_getElem hj2, he]
    simp [hd3, rows3]
  · rw [he]; exact hu.rws
theorem Bag3.push {w w' : World} {B g cap g' cap' n : Nat} {L : List T3} {ev : List (List RT)} {u : T3} (h : Bag3 w B g cap L ev) (hu : Bag w B u.1 u.2.1 u.2.2 (rows3 u)) (hg : g ∉ blk3 u) (hnl : n = ev.length + 1)
    (hown : w'.ownsRow B 32 1 (.slice (some ⟨g', 0, none⟩) n cap') n (L.map hd3 ++ [hd3 u])) (hgr : w.grownBy w' (some g)) (hgg : g' = g ∨ w.heap.size ≤ g') : Bag3 w' B g' cap' (L ++ [u]) (ev ++ [rows3 u]) := by
  subst hnl
  have hk : ∀ v : T3, Bag w B v.1 v.2.1 v.2.2 (rows3 v) → g ∉ blk3 v → Bag w' B v.1 v.2.1 v.2.2 (rows3 v) := fun v hv hne => hv.keep3 hgr.size fun b hb => hgr.block _ (hv.blk b hb).2 (fun e => hne (by rw [← Option.some.inj e]; exact hb))
  refine ⟨by rw [List.map_append, h.eq]; rfl, ?_, ?_, ?_⟩
  · rw [List.length_append, List.map_append]; exact hown
  · intro v hv
    rcases List.mem_append.1 hv with hv | hv
    · exact hk v (h.bags v hv) (h.ng v hv)
    · obtain rfl := List.mem_singleton.1 hv
      exact hk _ hu hg
  · intro v hv e
    have hlt : g' < w.heap.size ∧ g' ≠ g := by
      rcases List.mem_append.1 hv with hv | hv
      · exact ⟨((h.bags v hv).blk _ e).2, fun e2 => h.ng v hv (by rw [← e2]; exact e)⟩
      · obtain rfl := List.mem_singleton.1 hv
        exact ⟨(hu.blk _ e).2, fun e2 => hg (by rw [← e2]; exact e)⟩
    rcases hgg with hgg | hgg
    · exact hlt.2 hgg
    · omega
theorem infoVSS : (Try.prog.info? 32).map (fun i => (i.zero, i.size, i.bytes)) = some (some (.slice none 0 0), 1, 24) := by kernel_rfl
end Go.Proofs.Ytmkpnkpjillljaa.Val
namespace Go.Proofs.Ytmkpnkpjillljaa.Val
open Go.RowKit
set_option linter.unusedVariables false
set_option linter.unusedSimpArgs false
set_option maxRecDepth 20000
theorem yes_of_x {cs : List CT} {row : RT} {ps : List PT} (hk : ¬ kindI cs ps < 0) (hf : fitB cs row = true) : isYes (xvalI cs row ps) = yesR ps row := by
  unfold xvalI yesR
  rw [if_neg]
  rintro (h | h)
  · exact hk h
  · rw [hf] at h; cases h
end Go.Proofs.Ytmkpnkpjillljaa.Val
namespace Go.Proofs.Ytmkpnkpjillljaa.Val
open Go.RowKit
set_option linter.unusedVariables false
set_option maxRecDepth 8000
theorem Bag.push3 {w1 w2 w' : World} {B g cap g' cap' n : Nat} {T : List TT} {ls : List RT} {t : TT} {ob : Obj} (h : Bag w1 B g cap T ls) (ht : RowO w2 w1.heap.size t) (hb : Below w1.heap.size w1 w2) (hnl : n = ls.length + 1)
    (hown : w'.ownsRow B 70 1 (.slice (some ⟨g', 0, none⟩) n cap') n (T.map hdr ++ [hdr t])) (hgr : (w2.alloc ob).grownBy w' (some g)) (hgg : g' = g ∨ (w2.alloc ob).heap.size ≤ g') : Bag w' B g' cap' (T ++ [t]) (ls ++ [t.2.2]) := by
  have hlo := ht.lo
  have hg := h.lo
  refine ((h.below hb).alloc ob).push ((ht.lower (by omega)).alloc ob) (fun u hu => ?_) (by omega) hnl hown hgr hgg
  have := (h.rows u hu).hi
  omega
theorem step_blk {P : Program} {w : World} {ops : Array Oper} {o : Oper} {a : Act} {K : Act → World → Prop} {Q : Exit → Act → World → Prop} {E : Prop} (hgd : o.guard = none) (s x : Operand) (t : TypeId)
    (ho : o.op = .call { callee := .builtin .append, args := #[s, x], argTypes := #[t, t] })
    (base : Nat) (e : TypeId) (i : TypeInfo) (z : Value) (size bytes : Nat) (ht : P.underlying t = some (.slice e)) (hi : P.info? e = some i) (hz : i.zero = some z)
    (hsize : i.size = size) (hby : i.bytes = bytes) (hzs : z.cells.size = size) (hsz : 0 < size)
    (g n cap : Nat) (xs : List Value) (hs : a.eval s = .slice (some ⟨g, 0, none⟩) n cap) (hown : w.ownsRow base e size (.slice (some ⟨g, 0, none⟩) n cap) n xs)
    (ad : Addr) (m c : Nat) (news : List Value) (hx : a.eval x = .slice (some ad) m c) (hl : news.length = m * size) (hnews : ∀ j u, news[j]? = some u → w.cell? (ad.add j) = some u) (h1 : ∀ u ∈ news, u.oneCell' = true)
    (h63 : n + m ≤ maxLen) (hbytes : (n + m) * bytes ≤ 140737488355328) (hbase : base ≤ w.heap.size)
    (h : ∀ g' cap' w', w'.ownsRow base e size (.slice (some ⟨g', 0, none⟩) (n + m) cap') (n + m) (xs ++ news) → w.grownBy w' (some g) → (g' = g ∨ w.heap.size ≤ g') → K (a.put o.dst (.slice (some ⟨g', 0, none⟩) (n + m) cap')) w') :
    if Region.wanted o (yielded ops a.tmps) = true then Oper.wp P o a w K Q else E := by
  have hw : Region.wanted o (yielded ops a.tmps) = true := by simp [Region.wanted, hgd]
  rw [if_pos hw]
  obtain ⟨g', cap', w', hr, h2, h3, h4⟩ := run_append_block (P := P) w base t o.type e i z size bytes ht hi hz hsize hby hzs hsz g n cap xs hown ad m c news hl hnews h1 h63 hbytes hbase
  unfold Oper.wp execOp
  simp only [ho, resolve, invoke, builtin, Sem.run_bind, Sem.run_pure, Result.andThen_ok, List.map_toArray, List.map_cons, List.map_nil, hs, hx, hr]
  exact h g' cap' w' h2 h3 h4
theorem keepC {W W1 : World} {b1 b2 b3 b4 b5 b6 q1 q2 q3 q4 q5 q6 f1 f2 o1 o2 B g c N : Nat} {x1 x2 x3 x4 x5 x6 : Value} {F1 F2 : Option Addr} {X1 X2 : List Value} {T : List TT} {o : List RT} {BX : World} (h : W.cell? ⟨b1, q1, none⟩ = some x1 ∧ W.cell? ⟨b2, q2, none⟩ = some x2 ∧ W.cell? ⟨b3, q3, none⟩ = some x3 ∧ W.cell? ⟨b4, q4, none⟩ = some x4 ∧ W.cell? ⟨b5, q5, none⟩ = some x5 ∧ W.cell? ⟨b6, q6, none⟩ = some x6 ∧ Fl W f1 o1 F1 X1 ∧ Fl W f2 o2 F2 X2 ∧ Bag W B g c T o ∧ Below N BX W ∧ N ≤ W.heap.size) (hb : Below W.heap.size W W1) : W1.cell? ⟨b1, q1, none⟩ = some x1 ∧ W1.cell? ⟨b2, q2, none⟩ = some x2 ∧ W1.cell? ⟨b3, q3, none⟩ = some x3 ∧ W1.cell? ⟨b4, q4, none⟩ = some x4 ∧ W1.cell? ⟨b5, q5, none⟩ = some x5 ∧ W1.cell? ⟨b6, q6, none⟩ = some x6 ∧ Fl W1 f1 o1 F1 X1 ∧ Fl W1 f2 o2 F2 X2 ∧ Bag W1 B g c T o ∧ Below N BX W1 ∧ N ≤ W1.heap.size := by
  obtain ⟨h1, h2, h3, h4, h5, h6, h7, h8, h9, h10, h11⟩ := h
  have hc := fun b q x (h : W.cell? ⟨b, q, none⟩ = some x) => (hb.cell (p := ⟨b, q, none⟩) (World.block_lt_of_cell? W ⟨b, q, none⟩ h)).trans h
  exact ⟨hc _ _ _ h1, hc _ _ _ h2, hc _ _ _ h3, hc _ _ _ h4, hc _ _ _ h5, hc _ _ _ h6, h7.below hb, h8.below hb, h9.below hb, h10.trans (hb.mono h11), Nat.le_trans h11 hb.size⟩
theorem keepCD {W : World} {b1 b2 b3 b4 b5 b6 q1 q2 q3 q4 q5 q6 f1 f2 o1 o2 B g c N : Nat} {x1 x2 x3 x4 x5 x6 : Value} {F1 F2 : Option Addr} {X1 X2 : List Value} {T : List TT} {o : List RT} {BX : World} (h : W.cell? ⟨b1, q1, none⟩ = some x1 ∧ W.cell? ⟨b2, q2, none⟩ = some x2 ∧ W.cell? ⟨b3, q3, none⟩ = some x3 ∧ W.cell? ⟨b4, q4, none⟩ = some x4 ∧ W.cell? ⟨b5, q5, none⟩ = some x5 ∧ W.cell? ⟨b6, q6, none⟩ = some x6 ∧ Fl W f1 o1 F1 X1 ∧ Fl W f2 o2 F2 X2 ∧ Bag W B g c T o ∧ Below N BX W ∧ N ≤ W.heap.size) : W.drew.cell? ⟨b1, q1, none⟩ = some x1 ∧ W.drew.cell? ⟨b2, q2, none⟩ = some x2 ∧ W.drew.cell? ⟨b3, q3, none⟩ = some x3 ∧ W.drew.cell? ⟨b4, q4, none⟩ = some x4 ∧ W.drew.cell? ⟨b5, q5, none⟩ = some x5 ∧ W.drew.cell? ⟨b6, q6, none⟩ = some x6 ∧ Fl W.drew f1 o1 F1 X1 ∧ Fl W.drew f2 o2 F2 X2 ∧ Bag W.drew B g c T o ∧ Below N BX W.drew ∧ N ≤ W.drew.heap.size := keepC h ((Below.refl _ _).drew)
theorem keepC1 {W : World} {b1 b2 b3 b4 b5 b6 q1 q2 q3 q4 q5 q6 f1 f2 o1 o2 B g c N : Nat} {x1 x2 x3 x4 x5 x6 : Value} {F1 F2 : Option Addr} {X1 X2 : List Value} {T : List TT} {o : List RT} {BX : World} (h : W.cell? ⟨b1, q1, none⟩ = some x1 ∧ W.cell? ⟨b2, q2, none⟩ = some x2 ∧ W.cell? ⟨b3, q3, none⟩ = some x3 ∧ W.cell? ⟨b4, q4, none⟩ = some x4 ∧ W.cell? ⟨b5, q5, none⟩ = some x5 ∧ W.cell? ⟨b6, q6, none⟩ = some x6 ∧ Fl W f1 o1 F1 X1 ∧ Fl W f2 o2 F2 X2 ∧ Bag W B g c T o ∧ Below N BX W ∧ N ≤ W.heap.size) : Fl W f1 o1 F1 X1 := h.2.2.2.2.2.2.1
theorem keepC2 {W : World} {b1 b2 b3 b4 b5 b6 q1 q2 q3 q4 q5 q6 f1 f2 o1 o2 B g c N : Nat} {x1 x2 x3 x4 x5 x6 : Value} {F1 F2 : Option Addr} {X1 X2 : List Value} {T : List TT} {o : List RT} {BX : World} (h : W.cell? ⟨b1, q1, none⟩ = some x1 ∧ W.cell? ⟨b2, q2, none⟩ = some x2 ∧ W.cell? ⟨b3, q3, none⟩ = some x3 ∧ W.cell? ⟨b4, q4, none⟩ = some x4 ∧ W.cell? ⟨b5, q5, none⟩ = some x5 ∧ W.cell? ⟨b6, q6, none⟩ = some x6 ∧ Fl W f1 o1 F1 X1 ∧ Fl W f2 o2 F2 X2 ∧ Bag W B g c T o ∧ Below N BX W ∧ N ≤ W.heap.size) : Fl W f2 o2 F2 X2 := h.2.2.2.2.2.2.2.1
theorem keepCB {W : World} {b1 b2 b3 b4 b5 b6 q1 q2 q3 q4 q5 q6 f1 f2 o1 o2 B g c N : Nat} {x1 x2 x3 x4 x5 x6 : Value} {F1 F2 : Option Addr} {X1 X2 : List Value} {T : List TT} {o : List RT} {BX : World} (h : W.cell? ⟨b1, q1, none⟩ = some x1 ∧ W.cell? ⟨b2, q2, none⟩ = some x2 ∧ W.cell? ⟨b3, q3, none⟩ = some x3 ∧ W.cell? ⟨b4, q4, none⟩ = some x4 ∧ W.cell? ⟨b5, q5, none⟩ = some x5 ∧ W.cell? ⟨b6, q6, none⟩ = some x6 ∧ Fl W f1 o1 F1 X1 ∧ Fl W f2 o2 F2 X2 ∧ Bag W B g c T o ∧ Below N BX W ∧ N ≤ W.heap.size) : Bag W B g c T o := h.2.2.2.2.2.2.2.2.1
theorem keepCL {W : World} {b1 b2 b3 b4 b5 b6 q1 q2 q3 q4 q5 q6 f1 f2 o1 o2 B g c N : Nat} {x1 x2 x3 x4 x5 x6 : Value} {F1 F2 : Option Addr} {X1 X2 : List Value} {T : List TT} {o : List RT} {BX : World} (h : W.cell? ⟨b1, q1, none⟩ = some x1 ∧ W.cell? ⟨b2, q2, none⟩ = some x2 ∧ W.cell? ⟨b3, q3, none⟩ = some x3 ∧ W.cell? ⟨b4, q4, none⟩ = some x4 ∧ W.cell? ⟨b5, q5, none⟩ = some x5 ∧ W.cell? ⟨b6, q6, none⟩ = some x6 ∧ Fl W f1 o1 F1 X1 ∧ Fl W f2 o2 F2 X2 ∧ Bag W B g c T o ∧ Below N BX W ∧ N ≤ W.heap.size) : Below N BX W := h.2.2.2.2.2.2.2.2.2.1
theorem keepCZ {W : World} {b1 b2 b3 b4 b5 b6 q1 q2 q3 q4 q5 q6 f1 f2 o1 o2 B g c N : Nat} {x1 x2 x3 x4 x5 x6 : Value} {F1 F2 : Option Addr} {X1 X2 : List Value} {T : List TT} {o : List RT} {BX : World} (h : W.cell? ⟨b1, q1, none⟩ = some x1 ∧ W.cell? ⟨b2, q2, none⟩ = some x2 ∧ W.cell? ⟨b3, q3, none⟩ = some x3 ∧ W.cell? ⟨b4, q4, none⟩ = some x4 ∧ W.cell? ⟨b5, q5, none⟩ = some x5 ∧ W.cell? ⟨b6, q6, none⟩ = some x6 ∧ Fl W f1 o1 F1 X1 ∧ Fl W f2 o2 F2 X2 ∧ Bag W B g c T o ∧ Below N BX W ∧ N ≤ W.heap.size) : N ≤ W.heap.size := h.2.2.2.2.2.2.2.2.2.2
theorem Bag.emptyB (w : World) {B : Nat} (hB : B ≤ w.heap.size) : Bag (w.alloc (.cells #[] 70)) B w.heap.size 0 [] [] :=
  ⟨rfl, own_empty3 70 1 rfl hB, fun t ht => absurd ht (by simp), by simp, fun t ht => absurd ht (by simp)⟩
end Go.Proofs.Ytmkpnkpjillljaa.Val
namespace Go.Proofs.Ytmkpnkpjillljaa.Val
open Go.RowKit
set_option linter.unusedVariables false
set_option maxRecDepth 8000
theorem row_new {W W1 : World} {b1 b2 b3 b4 b5 b6 q1 q2 q3 q4 q5 q6 f1 f2 o1 o2 B g c N : Nat} {x1 x2 x3 x4 x5 x6 : Value} {F1 F2 : Option Addr} {X1 X2 : List Value} {T : List TT} {o : List RT} {BX : World} {t : TT} (h : W.cell? ⟨b1, q1, none⟩ = some x1 ∧ W.cell? ⟨b2, q2, none⟩ = some x2 ∧ W.cell? ⟨b3, q3, none⟩ = some x3 ∧ W.cell? ⟨b4, q4, none⟩ = some x4 ∧ W.cell? ⟨b5, q5, none⟩ = some x5 ∧ W.cell? ⟨b6, q6, none⟩ = some x6 ∧ Fl W f1 o1 F1 X1 ∧ Fl W f2 o2 F2 X2 ∧ Bag W B g c T o ∧ Below N BX W ∧ N ≤ W.heap.size) (hr : RowO W1 W.heap.size t) : RowO W1 N t ∧ (∀ u ∈ T, u.1 ≠ t.1) ∧ t.1 ≠ g := by
  have hb := keepCB h
  have hz := keepCZ h
  have hl := hr.lo
  exact ⟨hr.lower hz, fun u hu => by have := (hb.rows u hu).hi; omega, by have := hb.lo.2; omega⟩
/-- A row beside all others on which the test holds. -/
def besideI (es : List PT) (ms : List RT) (r : RT) : List RT := (ms.map fun q => r ++ q).filter (yesR es)
theorem beside_len (es : List PT) (ms : List RT) (r : RT) : (besideI es ms r).length ≤ ms.length := by
  have := List.length_filter_le (yesR es) (ms.map fun q => r ++ q)
  rw [List.length_map] at this
  exact this
theorem beside_two (es : List PT) (ls ms : List RT) (r : RT) (k m : Nat) (hl : ls.length ≤ 300) (hm : ms.length ≤ 300) : ((ls.take k).flatMap (besideI es ms) ++ besideI es (ms.take m) r).length ≤ 90300 := by
  have h1 := flat_len (ls.take k) (besideI es ms) 300 (fun x _ => Nat.le_trans (beside_len es ms x) hm)
  have h2 := beside_len es (ms.take m) r
  have h3 : (ls.take k).length ≤ 300 := by rw [List.length_take]; omega
  have h4 : (ls.take k).length * 300 ≤ 300 * 300 := Nat.mul_le_mul_right _ h3
  rw [List.length_append]
  rw [List.length_take] at h2
  omega
end Go.Proofs.Ytmkpnkpjillljaa.Val
namespace Go.Proofs.Ytmkpnkpjillljaa.Val
open Go.RowKit
set_option linter.unusedVariables false
set_option maxRecDepth 8000
end Go.Proofs.Ytmkpnkpjillljaa.Val
namespace Go.Proofs.Ytmkpnkpjillljaa.Val
open Go.RowKit
set_option linter.unusedVariables false
set_option maxRecDepth 8000
theorem fits_all {cs : List CT} {ls : List RT} (h : rowsB cs ls = true) : ∀ r ∈ ls, fitB cs r = true := (rowsB_iff.1 h).2
end Go.Proofs.Ytmkpnkpjillljaa.Val
