/- A row with another one behind it; the values of a row that a list names: the reference's l6Joined, l6Taken; The rows of a step: what it is asked with; its own rows; Whether an expression holds on a row that fits: the reference's l6Holds; The rows of a step: the reference's l6Rows; The rows of a join: the reference's l6Rows; The rows of a step that has two lists behind each other: the reference's l6Rows; The rows of a step: the reference's l6Rows, whole. -/
import Derived.Test.YtacinjbaebimhaaGreatPMathQ
import Derived.Test.YtacinjbaebimhaaGreatBagQ
import Derived.Test.YtacinjbaebimhaaGreatFlPQ
import Derived.Test.YtacinjbaebimhaaGreatTabKQ
import Derived.Test.YtacinjbaebimhaaGreatEPVKQ
import Derived.Test.YtacinjbaebimhaaGreatEVXQ
import Derived.Test.YtacinjbaebimhaaGreatPColKQ
namespace Go.Proofs.YtacinjbaebimhaaGreat.Val
open Go.RowKit
set_option linter.unusedVariables false
set_option maxRecDepth 8000
/-- A row of one's own was made. -/
def RetRow (l : RT) (w : World) (e : Ending) (w' : World) : Prop := ∃ (g c : Nat), e = .returned (.slice (some ⟨g, 0, none⟩) l.length c) ∧ RowO w' w.heap.size (g, c, l) ∧ Below w.heap.size w w'
/-- l3Own, with what an append to it needs. -/
theorem l3OwnW (g o c : Nat) (l : List VT) (w : World) (h : Fl w g o (some ⟨g, o, none⟩) (flatV l)) (hl : l.length ≤ 2000000) :
    Calls Tryz.prog 53 #[.slice (some ⟨g, o, none⟩) l.length c] w fun e w' => ∃ (g2 c2 : Nat), e = .returned (.slice (some ⟨g2, 0, none⟩) l.length c2) ∧ w'.ownsRow w.heap.size 54 3 (.slice (some ⟨g2, 0, none⟩) l.length c2) l.length (flatV l) ∧ Below w.heap.size w w' := by
  obtain ⟨i0, hi, iz0, iz1, iz2⟩ := info_parts infoVc
  have HA := Lib.hid h
  clear h
  have hfl := Lib.hid (flatV_len l)
  have OWN := Lib.hid (own_empty3 (w := w) (B := w.heap.size) 54 3 rfl (Nat.le_refl _))
  go_enter Tryz.func53, Tryz.ntmps53
  go_wp2_with (at_builtin; refine wpList_append_block _ rfl (.tmp 3) (.tmp 4) 50 rfl w.heap.size 54 i0 (.agg #[.int .i64 0, .int .i64 0, .string ⟨#[]⟩]) 3 32 Tryz.underlying50 hi iz0 iz1 iz2 rfl (by decide) w.heap.size 0 0 [] rfl OWN.out _ _ _ (flatV l) rfl hfl.out (news_flo (HA.out.alloc _)) (one_flatV l) (by unfold maxLen; omega) (by omega) (by first | omega | (simp; done) | (simp; omega)) ?_; intro g2 c2 w2 hown hgr hgg; (try simp only [Nat.zero_add, List.nil_append] at hown); have HO := Lib.hid hown; have HB := Lib.hid (Below.grown ((Below.refl _ _).alloc (Nat.le_refl _) _) hgr (by simp) (fun k hk => by obtain rfl := Option.some.inj hk; exact Nat.le_refl _)); clear hown hgr hgg)
  go_ret
  exact ⟨g2, c2, by simp, HO.out, HB.out⟩
theorem l6Joined (g o c g' o' c' : Nat) (l m : List VT) (w : World) (h : Fl w g o (some ⟨g, o, none⟩) (flatV l)) (h' : Fl w g' o' (some ⟨g', o', none⟩) (flatV m)) (hl : l.length ≤ 2000000) (hm : m.length ≤ 2000000) :
    Calls Tryz.prog 56 #[.slice (some ⟨g, o, none⟩) l.length c, .slice (some ⟨g', o', none⟩) m.length c'] w (RetRow (l ++ m) w) := by
  obtain ⟨i0, hi, iz0, iz1, iz2⟩ := info_parts infoVc
  have HA := Lib.hid h
  have HM := Lib.hid h'
  have CO := Lib.hid (l3OwnW g o c l w h hl)
  clear h h'
  have hfl := Lib.hid (flatV_len m)
  have HLM := Lib.hid (show (l ++ m).length = l.length + m.length by simp)
  go_enter Tryz.func56, Tryz.ntmps56
  go_wp2_with (first
    | (go_at_call 53; (with_reducible refine CO.out.mono ?_); rintro e w1 ⟨g2, c2, rfl, hown, hb⟩; have HO := Lib.hid hown; have HB := Lib.hid hb; have HM1 := Lib.hid (HM.out.below hb); have hz1 := hb.size; clear hown hb)
    | (at_builtin; go_loud (refine wpList_append_block _ rfl (.tmp 6) (.tmp 7) 50 rfl w.heap.size 54 i0 (.agg #[.int .i64 0, .int .i64 0, .string ⟨#[]⟩]) 3 32 Tryz.underlying50 hi iz0 iz1 iz2 rfl (by decide) g2 l.length c2 (flatV l) rfl HO.out _ _ _ (flatV m) rfl hfl.out (news_flo HM1.out) (one_flatV m) (by unfold maxLen; omega) (by omega) hz1 ?_); intro g3 c3 w3 hown hgr hgg; have HO3 := Lib.hid (show World.ownsRow _ _ _ _ _ _ (flatV (l ++ m)) from by rw [flatV_app]; exact hown); have HB3 := Lib.hid (Below.grown HB.out hgr hz1 (fun k hk => by obtain rfl := Option.some.inj hk; exact (HO.out.lt g2 rfl).1)); clear hown hgr hgg))
  go_ret
  refine ⟨g3, c3, by rw [HLM.out]; rfl, RowO.of_own (by rw [HLM.out]; exact HO3.out), HB3.out⟩
theorem l6Taken (g o c gn on cn : Nat) (AN : Option Addr) (l : List VT) (ns : List Int) (w : World) (h : Fl w g o (some ⟨g, o, none⟩) (flatV l)) (hn : Fl w gn on AN (ns.map iv)) (hl : l.length ≤ 2000000) (hnl : ns.length ≤ 2000000) (hin : ∀ t ∈ ns, inB t l.length = true) :
    Calls Tryz.prog 55 #[.slice (some ⟨g, o, none⟩) l.length c, .slice AN ns.length cn] w (RetRow (ns.map fun t => l.getD t.toNat nilV) w) := by
  obtain ⟨i0, hi, iz0, iz1, iz2⟩ := info_parts infoVc
  have HA := Lib.hid h
  have HN := Lib.hid hn
  have HIN := Lib.hid hin
  have OWN := Lib.hid (own_empty3 (w := w) (B := w.heap.size) 54 3 rfl (Nat.le_refl _))
  clear h hn hin
  go_enter Tryz.func55, Tryz.ntmps55
  go_wp2
  go_loopw [5, 6] (fun ox kx wr => ∃ (k g2 c2 : Nat), k ≤ ns.length ∧ kx = .int .i64 k ∧ ox = .slice (some ⟨g2, 0, none⟩) k c2 ∧ Hid (wr.ownsRow w.heap.size 54 3 (.slice (some ⟨g2, 0, none⟩) k c2) k (flatV ((ns.take k).map fun t => l.getD t.toNat nilV))) ∧ Hid (Below w.heap.size w wr)) (fun _ kx _ => ns.length - (intOf kx).toNat)
  case atStart => exact ⟨0, w.heap.size, 0, Nat.zero_le _, rfl, rfl, OWN, (Below.refl _ _).alloc (Nat.le_refl _) _⟩
  case round =>
    clear OWN
    obtain ⟨k, g2, c2, hk, rfl, rfl, HO, HB⟩ := hrel
    have hz := HB.out.size
    by_cases hlt : k < ns.length
    · obtain ⟨rfl, hgn, cn1⟩ := (HN.out.below HB.out).n k hlt
      have HTK := Lib.hid (List.take_succ_eq_append_getElem hlt)
      have hi1 := HIN.out _ (List.getElem_mem hlt)
      obtain ⟨m, hm, hml⟩ := inB_nat hi1
      rw [hm] at cn1 HTK
      obtain ⟨-, hg, e0, e1, e2⟩ := (HA.out.below HB.out).v m hml
      have hgd : l.getD m nilV = l[m] := getD_lt hml _
      obtain ⟨V, hV⟩ : ∃ V, l[m] = V := ⟨_, rfl⟩
      rw [hV] at e0 e1 e2 hgd
      obtain ⟨vk, vn, vs⟩ := V
      simp only at e0 e1 e2
      have hfl := Lib.hid (show flatV ((ns.take (k + 1)).map fun t => l.getD t.toNat nilV) = flatV ((ns.take k).map fun t => l.getD t.toNat nilV) ++ [.int .i64 vk, .int .i64 vn, .string vs] by
        rw [HTK.out, List.map_append, flatV_app]; simp only [List.map_cons, List.map_nil, Int.toNat_natCast, hgd]; rfl)
      have hgs := (HO.out.lt g2 rfl).1
      have i0' : (0 : Int) ≤ (k : Int) := by omega
      have i1' : (k : Int) < (ns.length : Int) := by omega
      have j0' : (0 : Int) ≤ (m : Int) := by omega
      have j1' : (m : Int) < (l.length : Int) := by omega
      clear hV hgd hi1 hm HTK
      go_wp2_with (at_builtin; go_loud (refine wpList_append_block _ rfl (.tmp 14) (.tmp 22) 50 rfl w.heap.size 54 i0 (.agg #[.int .i64 0, .int .i64 0, .string ⟨#[]⟩]) 3 32 Tryz.underlying50 hi iz0 iz1 iz2 rfl (by decide) g2 k c2 (flatV ((ns.take k).map fun t => l.getD t.toNat nilV)) rfl (HO.out.alloc _) _ 1 1 [.int .i64 vk, .int .i64 vn, .string vs] rfl rfl (news_new (by first | rfl | simp)) (by simp [Value.oneCell']) (by unfold maxLen; omega) (by omega) (by first | omega | (simp; done) | (simp; omega)) ?_); intro g5 c5 w5 hown hgr hgg; rw [← hfl.out] at hown; have HO5 := Lib.hid hown; have HB5 := Lib.hid (Below.grown (HB.out.alloc hz _) hgr (by simp; omega) (fun k hk => by obtain rfl := Option.some.inj hk; exact hgs)); clear hown hgr hgg)
      exact ⟨⟨k + 1, g5, c5, by omega, by go_num, rfl, HO5, HB5⟩, by simp [intOf]; omega⟩
    · obtain rfl : k = ns.length := by omega
      have HOF := HO.out
      rw [List.take_length] at HOF
      have HO2 := Lib.hid HOF
      clear HOF
      go_wp2
      go_ret
      exact ⟨g2, c2, by rw [List.length_map]; rfl, RowO.of_own (by rw [List.length_map]; exact HO2.out), HB.out⟩
end Go.Proofs.YtacinjbaebimhaaGreat.Val
namespace Go.Proofs.YtacinjbaebimhaaGreat.Val
open Go.RowKit
set_option linter.unusedVariables false
set_option maxRecDepth 8000
/-- Rows that fit columns are small. -/
theorem ok2_of {cs : List CT} {ls : List RT} (h : rowsB cs ls = true) (hl : ls.length ≤ 2000000) : Ok2 ls := by
  refine ⟨hl, fun r hr => ?_⟩
  obtain ⟨-, h2, -, -⟩ := fitB_iff.1 ((rowsB_iff.1 h).2 r hr)
  obtain ⟨h3, h4⟩ := rowB_iff.1 h2
  exact ⟨by omega, fun i hi => ok_size (h4 _ (List.getElem_mem _))⟩
/-- Lists of rows that lie. -/
structure R3 (w : World) (g o : Nat) (A : Option Addr) (ev : List (List RT)) : Prop where
  ad : 0 < ev.length → A = some ⟨g, o, none⟩
  hd : ∀ j (h : j < ev.length), ∃ (A' : Option Addr) (c' g' o' : Nat), w.cell? ⟨g, o + j, none⟩ = some (.slice A' ev[j].length c') ∧ Rws w g' o' A' ev[j]
theorem R3.below {w w' : World} {g o : Nat} {A : Option Addr} {ev : List (List RT)} (h : R3 w g o A ev) (hb : Below w.heap.size w w') : R3 w' g o A ev := by
  refine ⟨h.ad, fun j hj => ?_⟩
  obtain ⟨A', c', g', o', h1, h2⟩ := h.hd j hj
  exact ⟨A', c', g', o', (hb.cell (p := ⟨g, o + j, none⟩) (World.block_lt_of_cell? w ⟨g, o + j, none⟩ h1)).trans h1, h2.below hb⟩
theorem R3.at {w : World} {g o : Nat} {A : Option Addr} {ev : List (List RT)} (h : R3 w g o A ev) (j : Nat) (hj : j < ev.length) : A = some ⟨g, o, none⟩ ∧ g < w.heap.size ∧ ∃ (A' : Option Addr) (c' g' o' : Nat), w.cell? ⟨g, o + j, none⟩ = some (.slice A' ev[j].length c') ∧ Rws w g' o' A' ev[j] := by
  obtain ⟨A', c', g', o', h1, h2⟩ := h.hd j hj
  exact ⟨h.ad (by omega), World.block_lt_of_cell? w ⟨g, o + j, none⟩ h1, A', c', g', o', h1, h2⟩
/-- Lists of rows of one's own. -/
abbrev T3 := Nat × Nat × List TT
def rows3 (u : T3) : List RT := u.2.2.map fun t => t.2.2
def hd3 (u : T3) : Value := .slice (some ⟨u.1, 0, none⟩) u.2.2.length u.2.1
def blk3 (u : T3) : List Nat := u.1 :: u.2.2.map fun t => t.1
structure Bag3 (w : World) (B g cap : Nat) (L : List T3) (ev : List (List RT)) : Prop where
  eq : L.map rows3 = ev
  own : w.ownsRow B 27 1 (.slice (some ⟨g, 0, none⟩) ev.length cap) ev.length (L.map hd3)
  bags : ∀ u ∈ L, Bag w B u.1 u.2.1 u.2.2 (rows3 u)
  ng : ∀ u ∈ L, g ∉ blk3 u
theorem Bag.blk {w : World} {B : Nat} {u : T3} (h : Bag w B u.1 u.2.1 u.2.2 (rows3 u)) : ∀ b ∈ blk3 u, B ≤ b ∧ b < w.heap.size := by
  intro b hb
  simp only [blk3, List.mem_cons, List.mem_map] at hb
  rcases hb with rfl | ⟨t, ht, rfl⟩
  · exact h.lo
  · exact ⟨(h.rows t ht).lo, (h.rows t ht).hi⟩
theorem Bag.keep3 {w w' : World} {B : Nat} {u : T3} (h : Bag w B u.1 u.2.1 u.2.2 (rows3 u)) (hz : w.heap.size ≤ w'.heap.size) (hk : ∀ b ∈ blk3 u, w'.heap[b]? = w.heap[b]?) : Bag w' B u.1 u.2.1 u.2.2 (rows3 u) :=
  h.keep hz (hk _ (by simp [blk3])) fun t ht => hk _ (by simp only [blk3, List.mem_cons, List.mem_map]; exact .inr ⟨t, ht, rfl⟩)
theorem Bag3.len {w : World} {B g cap : Nat} {L : List T3} {ev : List (List RT)} (h : Bag3 w B g cap L ev) : L.length = ev.length := by rw [← h.eq, List.length_map]
theorem Bag3.lo {w : World} {B g cap : Nat} {L : List T3} {ev : List (List RT)} (h : Bag3 w B g cap L ev) : B ≤ g ∧ g < w.heap.size := h.own.lt g rfl
theorem Bag3.below {w w' : World} {B g cap : Nat} {L : List T3} {ev : List (List RT)} (h : Bag3 w B g cap L ev) (hb : Below w.heap.size w w') : Bag3 w' B g cap L ev :=
  ⟨h.eq, own_keep h.own (hb.block _ h.lo.2), fun u hu => (h.bags u hu).below hb, h.ng⟩
theorem Bag3.empty (w : World) {B : Nat} (hB : B ≤ w.heap.size) : Bag3 (w.alloc (.cells #[] 27)) B w.heap.size 0 [] [] :=
  ⟨rfl, own_empty3 27 1 rfl hB, fun t ht => absurd ht (by simp), fun t ht => absurd ht (by simp)⟩
theorem Bag3.r3 {w : World} {B g cap : Nat} {L : List T3} {ev : List (List RT)} (h : Bag3 w B g cap L ev) : R3 w g 0 (some ⟨g, 0, none⟩) ev := by
  have hl := h.len
  refine ⟨fun _ => rfl, fun j hj => ?_⟩
  have hj2 : j < L.length := by omega
  have hu := h.bags L[j] (List.getElem_mem _)
  have he : ev[j] = rows3 L[j] := by
    have := h.eq
    subst this
    simp
  refine ⟨some ⟨L[j].1, 0, none⟩, L[j].2.1, L[j].1, 0, ?_, ?_⟩
  · rw [Nat.zero_add, h.own.cellAt j (by omega), List.getElem?_map, List.getElem?_eq_getElem hj2, he]
    simp [hd3, rows3]
  · rw [he]; exact hu.rws
theorem Bag3.push {w w' : World} {B g cap g' cap' n : Nat} {L : List T3} {ev : List (List RT)} {u : T3} (h : Bag3 w B g cap L ev) (hu : Bag w B u.1 u.2.1 u.2.2 (rows3 u)) (hg : g ∉ blk3 u) (hnl : n = ev.length + 1)
    (hown : w'.ownsRow B 27 1 (.slice (some ⟨g', 0, none⟩) n cap') n (L.map hd3 ++ [hd3 u])) (hgr : w.grownBy w' (some g)) (hgg : g' = g ∨ w.heap.size ≤ g') : Bag3 w' B g' cap' (L ++ [u]) (ev ++ [rows3 u]) := by
  subst hnl
  have hk : ∀ v : T3, Bag w B v.1 v.2.1 v.2.2 (rows3 v) → g ∉ blk3 v → Bag w' B v.1 v.2.1 v.2.2 (rows3 v) := fun v hv hne => hv.keep3 hgr.size fun b hb => hgr.block _ (hv.blk b hb).2 (fun e => hne (by rw [← Option.some.inj e]; exact hb))
  refine ⟨by rw [List.map_append, h.eq]; rfl, ?_, ?_, ?_⟩
  · rw [List.length_append, List.map_append]; exact hown
  · intro v hv
    rcases List.mem_append.1 hv with hv | hv
    · exact hk v (h.bags v hv) (h.ng v hv)
    · obtain rfl := List.mem_singleton.1 hv
      exact hk _ hu hg
  · intro v hv e
    have hlt : g' < w.heap.size ∧ g' ≠ g := by
      rcases List.mem_append.1 hv with hv | hv
      · exact ⟨((h.bags v hv).blk _ e).2, fun e2 => h.ng v hv (by rw [← e2]; exact e)⟩
      · obtain rfl := List.mem_singleton.1 hv
        exact ⟨(hu.blk _ e).2, fun e2 => hg (by rw [← e2]; exact e)⟩
    rcases hgg with hgg | hgg
    · exact hlt.2 hgg
    · omega
theorem infoVSS : (Tryz.prog.info? 27).map (fun i => (i.zero, i.size, i.bytes)) = some (some (.slice none 0 0), 1, 24) := by kernel_rfl
end Go.Proofs.YtacinjbaebimhaaGreat.Val
namespace Go.Proofs.YtacinjbaebimhaaGreat.Val
open Go.RowKit
set_option linter.unusedVariables false
set_option linter.unusedSimpArgs false
set_option maxRecDepth 20000
theorem yes_of_x {cs : List CT} {row : RT} {ps : List PT} (hk : ¬ kindI cs ps < 0) (hf : fitB cs row = true) : isYes (xvalI cs row ps) = yesR ps row := by
  unfold xvalI yesR
  rw [if_neg]
  rintro (h | h)
  · exact hk h
  · rw [hf] at h; cases h
set_option maxHeartbeats 4000000 in
theorem l6Holds (R E : Option Addr) (gr orr rc ge oe ce : Nat) (cs : List CT) (row : List VT) (ps : List PT) (w : World) (hk0 : ¬ kindI cs ps < 0) (hft : fitB cs row = true) (hR : Fl w gr orr R (flatV row)) (hE : Fl w ge oe E (flatP ps)) (hrl : row.length ≤ 2000000) :
    Calls Tryz.prog 54 #[.slice R row.length rc, .slice E ps.length ce] w fun e w' => e = .returned (.bool (yesR ps row)) ∧ Below w.heap.size w w' := by
  have CX := Lib.hid (fun W hWR hWE => l4Value R E gr orr rc ge oe ce cs row ps W hk0 hft hWR hWE hrl)
  have CV := Lib.hid (fun w => valueOfS 1 w)
  rw [vO_of] at CV
  have HR := Lib.hid hR
  have HE := Lib.hid hE
  rw [← yes_of_x hk0 hft]
  clear hR hE hk0 hft
  obtain ⟨X, hX⟩ : ∃ X, xvalI cs row ps = X := ⟨_, rfl⟩
  rw [hX] at CX ⊢
  clear hX
  obtain ⟨xk, xn, xs⟩ := X
  rw [show ofT 1 = (3, 1, ⟨#[]⟩) from rfl] at CV
  unfold aggV at CX CV
  simp only at CX CV
  go_enter Tryz.func54, Tryz.ntmps54
  go_wp2_with (first
    | (go_at_call 71; (with_reducible refine (CX.out _ HR.out HE.out).mono ?_); rintro e w1 ⟨rfl, hb1⟩; have HB := Lib.hid hb1; clear hb1)
    | (go_at_call 72; (with_reducible refine (CV.out _).mono ?_); rintro e w2 ⟨rfl, hb2⟩; have HB2 := Lib.hid (HB.out.trans (hb2.mono HB.out.size)); clear hb2))
  all_goals (go_ret; refine ⟨retB ?_, by first | exact HB2.out | exact HB0.out⟩; simp_all [isYes])
end Go.Proofs.YtacinjbaebimhaaGreat.Val
namespace Go.Proofs.YtacinjbaebimhaaGreat.Val
open Go.RowKit
set_option linter.unusedVariables false
set_option maxRecDepth 8000
theorem Bag.push3 {w1 w2 w' : World} {B g cap g' cap' n : Nat} {T : List TT} {ls : List RT} {t : TT} {ob : Obj} (h : Bag w1 B g cap T ls) (ht : RowO w2 w1.heap.size t) (hb : Below w1.heap.size w1 w2) (hnl : n = ls.length + 1)
    (hown : w'.ownsRow B 50 1 (.slice (some ⟨g', 0, none⟩) n cap') n (T.map hdr ++ [hdr t])) (hgr : (w2.alloc ob).grownBy w' (some g)) (hgg : g' = g ∨ (w2.alloc ob).heap.size ≤ g') : Bag w' B g' cap' (T ++ [t]) (ls ++ [t.2.2]) := by
  have hlo := ht.lo
  have hg := h.lo
  refine ((h.below hb).alloc ob).push ((ht.lower (by omega)).alloc ob) (fun u hu => ?_) (by omega) hnl hown hgr hgg
  have := (h.rows u hu).hi
  omega
theorem step_blk {P : Program} {w : World} {ops : Array Oper} {o : Oper} {a : Act} {K : Act → World → Prop} {Q : Exit → Act → World → Prop} {E : Prop} (hgd : o.guard = none) (s x : Operand) (t : TypeId)
    (ho : o.op = .call { callee := .builtin .append, args := #[s, x], argTypes := #[t, t] })
    (base : Nat) (e : TypeId) (i : TypeInfo) (z : Value) (size bytes : Nat) (ht : P.underlying t = some (.slice e)) (hi : P.info? e = some i) (hz : i.zero = some z)
    (hsize : i.size = size) (hby : i.bytes = bytes) (hzs : z.cells.size = size) (hsz : 0 < size)
    (g n cap : Nat) (xs : List Value) (hs : a.eval s = .slice (some ⟨g, 0, none⟩) n cap) (hown : w.ownsRow base e size (.slice (some ⟨g, 0, none⟩) n cap) n xs)
    (ad : Addr) (m c : Nat) (news : List Value) (hx : a.eval x = .slice (some ad) m c) (hl : news.length = m * size) (hnews : ∀ j u, news[j]? = some u → w.cell? (ad.add j) = some u) (h1 : ∀ u ∈ news, u.oneCell' = true)
    (h63 : n + m ≤ maxLen) (hbytes : (n + m) * bytes ≤ 140737488355328) (hbase : base ≤ w.heap.size)
    (h : ∀ g' cap' w', w'.ownsRow base e size (.slice (some ⟨g', 0, none⟩) (n + m) cap') (n + m) (xs ++ news) → w.grownBy w' (some g) → (g' = g ∨ w.heap.size ≤ g') → K (a.put o.dst (.slice (some ⟨g', 0, none⟩) (n + m) cap')) w') :
    if Region.wanted o (yielded ops a.tmps) = true then Oper.wp P o a w K Q else E := by
  have hw : Region.wanted o (yielded ops a.tmps) = true := by simp [Region.wanted, hgd]
  rw [if_pos hw]
  obtain ⟨g', cap', w', hr, h2, h3, h4⟩ := run_append_block (P := P) w base t o.type e i z size bytes ht hi hz hsize hby hzs hsz g n cap xs hown ad m c news hl hnews h1 h63 hbytes hbase
  unfold Oper.wp execOp
  simp only [ho, resolve, invoke, builtin, Sem.run_bind, Sem.run_pure, Result.andThen_ok, List.map_toArray, List.map_cons, List.map_nil, hs, hx, hr]
  exact h g' cap' w' h2 h3 h4
theorem takenEnters (vs : Array Value) (w : World) : (callFunc 55 vs).run Tryz.prog w = .ok (.enter 55 vs) w := by
  go_simp
theorem keepC {W W1 : World} {b1 b2 b3 b4 b5 b6 q1 q2 q3 q4 q5 q6 f1 f2 o1 o2 B g c N : Nat} {x1 x2 x3 x4 x5 x6 : Value} {F1 F2 : Option Addr} {X1 X2 : List Value} {T : List TT} {o : List RT} {BX : World} (h : W.cell? ⟨b1, q1, none⟩ = some x1 ∧ W.cell? ⟨b2, q2, none⟩ = some x2 ∧ W.cell? ⟨b3, q3, none⟩ = some x3 ∧ W.cell? ⟨b4, q4, none⟩ = some x4 ∧ W.cell? ⟨b5, q5, none⟩ = some x5 ∧ W.cell? ⟨b6, q6, none⟩ = some x6 ∧ Fl W f1 o1 F1 X1 ∧ Fl W f2 o2 F2 X2 ∧ Bag W B g c T o ∧ Below N BX W ∧ N ≤ W.heap.size) (hb : Below W.heap.size W W1) : W1.cell? ⟨b1, q1, none⟩ = some x1 ∧ W1.cell? ⟨b2, q2, none⟩ = some x2 ∧ W1.cell? ⟨b3, q3, none⟩ = some x3 ∧ W1.cell? ⟨b4, q4, none⟩ = some x4 ∧ W1.cell? ⟨b5, q5, none⟩ = some x5 ∧ W1.cell? ⟨b6, q6, none⟩ = some x6 ∧ Fl W1 f1 o1 F1 X1 ∧ Fl W1 f2 o2 F2 X2 ∧ Bag W1 B g c T o ∧ Below N BX W1 ∧ N ≤ W1.heap.size := by
  obtain ⟨h1, h2, h3, h4, h5, h6, h7, h8, h9, h10, h11⟩ := h
  have hc := fun b q x (h : W.cell? ⟨b, q, none⟩ = some x) => (hb.cell (p := ⟨b, q, none⟩) (World.block_lt_of_cell? W ⟨b, q, none⟩ h)).trans h
  exact ⟨hc _ _ _ h1, hc _ _ _ h2, hc _ _ _ h3, hc _ _ _ h4, hc _ _ _ h5, hc _ _ _ h6, h7.below hb, h8.below hb, h9.below hb, h10.trans (hb.mono h11), Nat.le_trans h11 hb.size⟩
theorem keepCD {W : World} {b1 b2 b3 b4 b5 b6 q1 q2 q3 q4 q5 q6 f1 f2 o1 o2 B g c N : Nat} {x1 x2 x3 x4 x5 x6 : Value} {F1 F2 : Option Addr} {X1 X2 : List Value} {T : List TT} {o : List RT} {BX : World} (h : W.cell? ⟨b1, q1, none⟩ = some x1 ∧ W.cell? ⟨b2, q2, none⟩ = some x2 ∧ W.cell? ⟨b3, q3, none⟩ = some x3 ∧ W.cell? ⟨b4, q4, none⟩ = some x4 ∧ W.cell? ⟨b5, q5, none⟩ = some x5 ∧ W.cell? ⟨b6, q6, none⟩ = some x6 ∧ Fl W f1 o1 F1 X1 ∧ Fl W f2 o2 F2 X2 ∧ Bag W B g c T o ∧ Below N BX W ∧ N ≤ W.heap.size) : W.drew.cell? ⟨b1, q1, none⟩ = some x1 ∧ W.drew.cell? ⟨b2, q2, none⟩ = some x2 ∧ W.drew.cell? ⟨b3, q3, none⟩ = some x3 ∧ W.drew.cell? ⟨b4, q4, none⟩ = some x4 ∧ W.drew.cell? ⟨b5, q5, none⟩ = some x5 ∧ W.drew.cell? ⟨b6, q6, none⟩ = some x6 ∧ Fl W.drew f1 o1 F1 X1 ∧ Fl W.drew f2 o2 F2 X2 ∧ Bag W.drew B g c T o ∧ Below N BX W.drew ∧ N ≤ W.drew.heap.size := keepC h ((Below.refl _ _).drew)
theorem keepC1 {W : World} {b1 b2 b3 b4 b5 b6 q1 q2 q3 q4 q5 q6 f1 f2 o1 o2 B g c N : Nat} {x1 x2 x3 x4 x5 x6 : Value} {F1 F2 : Option Addr} {X1 X2 : List Value} {T : List TT} {o : List RT} {BX : World} (h : W.cell? ⟨b1, q1, none⟩ = some x1 ∧ W.cell? ⟨b2, q2, none⟩ = some x2 ∧ W.cell? ⟨b3, q3, none⟩ = some x3 ∧ W.cell? ⟨b4, q4, none⟩ = some x4 ∧ W.cell? ⟨b5, q5, none⟩ = some x5 ∧ W.cell? ⟨b6, q6, none⟩ = some x6 ∧ Fl W f1 o1 F1 X1 ∧ Fl W f2 o2 F2 X2 ∧ Bag W B g c T o ∧ Below N BX W ∧ N ≤ W.heap.size) : Fl W f1 o1 F1 X1 := h.2.2.2.2.2.2.1
theorem keepC2 {W : World} {b1 b2 b3 b4 b5 b6 q1 q2 q3 q4 q5 q6 f1 f2 o1 o2 B g c N : Nat} {x1 x2 x3 x4 x5 x6 : Value} {F1 F2 : Option Addr} {X1 X2 : List Value} {T : List TT} {o : List RT} {BX : World} (h : W.cell? ⟨b1, q1, none⟩ = some x1 ∧ W.cell? ⟨b2, q2, none⟩ = some x2 ∧ W.cell? ⟨b3, q3, none⟩ = some x3 ∧ W.cell? ⟨b4, q4, none⟩ = some x4 ∧ W.cell? ⟨b5, q5, none⟩ = some x5 ∧ W.cell? ⟨b6, q6, none⟩ = some x6 ∧ Fl W f1 o1 F1 X1 ∧ Fl W f2 o2 F2 X2 ∧ Bag W B g c T o ∧ Below N BX W ∧ N ≤ W.heap.size) : Fl W f2 o2 F2 X2 := h.2.2.2.2.2.2.2.1
theorem keepCB {W : World} {b1 b2 b3 b4 b5 b6 q1 q2 q3 q4 q5 q6 f1 f2 o1 o2 B g c N : Nat} {x1 x2 x3 x4 x5 x6 : Value} {F1 F2 : Option Addr} {X1 X2 : List Value} {T : List TT} {o : List RT} {BX : World} (h : W.cell? ⟨b1, q1, none⟩ = some x1 ∧ W.cell? ⟨b2, q2, none⟩ = some x2 ∧ W.cell? ⟨b3, q3, none⟩ = some x3 ∧ W.cell? ⟨b4, q4, none⟩ = some x4 ∧ W.cell? ⟨b5, q5, none⟩ = some x5 ∧ W.cell? ⟨b6, q6, none⟩ = some x6 ∧ Fl W f1 o1 F1 X1 ∧ Fl W f2 o2 F2 X2 ∧ Bag W B g c T o ∧ Below N BX W ∧ N ≤ W.heap.size) : Bag W B g c T o := h.2.2.2.2.2.2.2.2.1
theorem keepCL {W : World} {b1 b2 b3 b4 b5 b6 q1 q2 q3 q4 q5 q6 f1 f2 o1 o2 B g c N : Nat} {x1 x2 x3 x4 x5 x6 : Value} {F1 F2 : Option Addr} {X1 X2 : List Value} {T : List TT} {o : List RT} {BX : World} (h : W.cell? ⟨b1, q1, none⟩ = some x1 ∧ W.cell? ⟨b2, q2, none⟩ = some x2 ∧ W.cell? ⟨b3, q3, none⟩ = some x3 ∧ W.cell? ⟨b4, q4, none⟩ = some x4 ∧ W.cell? ⟨b5, q5, none⟩ = some x5 ∧ W.cell? ⟨b6, q6, none⟩ = some x6 ∧ Fl W f1 o1 F1 X1 ∧ Fl W f2 o2 F2 X2 ∧ Bag W B g c T o ∧ Below N BX W ∧ N ≤ W.heap.size) : Below N BX W := h.2.2.2.2.2.2.2.2.2.1
theorem keepCZ {W : World} {b1 b2 b3 b4 b5 b6 q1 q2 q3 q4 q5 q6 f1 f2 o1 o2 B g c N : Nat} {x1 x2 x3 x4 x5 x6 : Value} {F1 F2 : Option Addr} {X1 X2 : List Value} {T : List TT} {o : List RT} {BX : World} (h : W.cell? ⟨b1, q1, none⟩ = some x1 ∧ W.cell? ⟨b2, q2, none⟩ = some x2 ∧ W.cell? ⟨b3, q3, none⟩ = some x3 ∧ W.cell? ⟨b4, q4, none⟩ = some x4 ∧ W.cell? ⟨b5, q5, none⟩ = some x5 ∧ W.cell? ⟨b6, q6, none⟩ = some x6 ∧ Fl W f1 o1 F1 X1 ∧ Fl W f2 o2 F2 X2 ∧ Bag W B g c T o ∧ Below N BX W ∧ N ≤ W.heap.size) : N ≤ W.heap.size := h.2.2.2.2.2.2.2.2.2.2
theorem Bag.emptyB (w : World) {B : Nat} (hB : B ≤ w.heap.size) : Bag (w.alloc (.cells #[] 50)) B w.heap.size 0 [] [] :=
  ⟨rfl, own_empty3 50 1 rfl hB, fun t ht => absurd ht (by simp), by simp, fun t ht => absurd ht (by simp)⟩
set_option maxHeartbeats 4000000 in
theorem rows_1 (AT AA : Option Addr) (gT oT cT gA oA cA : Nat) (tb : List TB) (ah : Nat) (a b : Int) (n : Nat) (A1 A2 : Option Addr) (el c1 ll c2 : Nat) (w : World) (hT : Tbs w gT oT AT tb) (hn : n < tb.length) (htl : tb.length ≤ 2000000) (hok : Ok2 tb[n].2) :
    Calls Tryz.prog 35 #[.slice AT tb.length cT, .slice AA ah cA, .agg #[.int .i64 1, .int .i64 a, .int .i64 b, .int .i64 (n : Int), .slice A1 el c1, .slice A2 ll c2]] w (RetBag tb[n].2 w) := by
  obtain ⟨i0, hinf, iz0, iz1, iz2⟩ := info_parts infoVS
  obtain ⟨rfl, hgT, B1, d1, h1, p1, B2, d2, h2, p2, hc0, hc1, -, hr, -⟩ := hT.at n hn
  have HK := Lib.hid hok
  have hlr := hok.1
  obtain ⟨ls, hls⟩ : ∃ ls, tb[n].2 = ls := ⟨_, rfl⟩
  rw [hls] at hc1 hr HK hlr ⊢
  have HR := Lib.hid hr
  obtain ⟨lr, hlr2⟩ : ∃ m, ls.length = m := ⟨_, rfl⟩
  have HLR := Lib.hid hlr2
  rw [hlr2] at hc1 hlr
  clear hls hT hok hr hlr2 hc0
  have n0 : (0 : Int) ≤ (n : Int) := by omega
  have n1 : (n : Int) < (tb.length : Int) := by omega
  have BAG0 := Lib.hid (Bag.emptyB (w.alloc (.cells #[.int .i64 1, .int .i64 a, .int .i64 b, .int .i64 (n : Int), .slice A1 el c1, .slice A2 ll c2] 35)) (B := w.heap.size + 1) (by simp))
  have HB0 := Lib.hid ((Below.refl (w.heap.size + 1) (w.alloc (.cells #[.int .i64 1, .int .i64 a, .int .i64 b, .int .i64 (n : Int), .slice A1 el c1, .slice A2 ll c2] 35))).alloc (by simp) (.cells #[] 50))
  have HBX : Hid (Below w.heap.size w (w.alloc (.cells #[.int .i64 1, .int .i64 a, .int .i64 b, .int .i64 (n : Int), .slice A1 el c1, .slice A2 ll c2] 35))) := (Below.refl _ _).alloc (Nat.le_refl _) _
  go_enter Tryz.func35, Tryz.ntmps35
  go_wp2
  go_loopw [7, 8] (fun ox kx wr => ∃ (k g c : Nat) (T : List TT) (o : List RT), k ≤ lr ∧ kx = .int .i64 k ∧ ox = .slice (some ⟨g, 0, none⟩) o.length c ∧ o.length ≤ k ∧ Hid (o = ls.take k) ∧ Hid (Bag wr (w.heap.size + 1) g c T o) ∧ Hid (Below (w.heap.size + 1) (w.alloc (.cells #[.int .i64 1, .int .i64 a, .int .i64 b, .int .i64 (n : Int), .slice A1 el c1, .slice A2 ll c2] 35)) wr)) (fun _ kx _ => lr - (intOf kx).toNat)
  case atStart => exact ⟨0, w.heap.size + 1, 0, [], [], Nat.zero_le _, rfl, by simp, Nat.le_refl _, rfl, by have h := BAG0; simp only [World.size_alloc] at h; exact h, HB0⟩
  case round =>
    clear BAG0 HB0
    obtain ⟨k, g, c, T, o, hk, rfl, rfl, hol0, HO, BAG, HB⟩ := hrel
    have hwz := HB.out.size
    (simp only [World.size_alloc] at hwz)
    have HW := Lib.hid (HBX.out.trans (HB.out.mono (by omega)))
    have hwr := HW.out.size
    have r3 := (HB.out.cell (p := ⟨w.heap.size, 3, none⟩) (by show w.heap.size < w.heap.size + 1; omega)).trans (cell_newX (v := .int .i64 (n : Int)) rfl)
    have t1 := (HW.out.cell (p := ⟨gT, oT + n * 2 + 1, none⟩) hgT).trans hc1
    have HB2 := Lib.hid (HR.out.below HW.out)
    by_cases hlt : k < lr
    · have hlt2 : k < ls.length := by rw [HLR.out]; exact hlt
      obtain ⟨rfl, hg2, c', g', o', hc, hf⟩ := HB2.out.at k hlt2
      have HF := Lib.hid hf
      have hlk := (HK.out.at k hlt2).1
      have HS := Lib.hid (List.take_succ_eq_append_getElem hlt2)
      obtain ⟨K, hK⟩ : ∃ K, ls[k] = K := ⟨_, rfl⟩
      rw [hK] at hc HF HS hlk
      have CC := Lib.hid (fun W hW => l3Own g' o' c' K W hW hlk)
      obtain ⟨kl, hkl⟩ : ∃ m, K.length = m := ⟨_, rfl⟩
      rw [hkl] at hc CC
      obtain ⟨ol, hol⟩ : ∃ m, o.length = m := ⟨_, rfl⟩
      rw [hol] at hol0
      have HOL := Lib.hid hol
      have HKL := Lib.hid hkl
      have i0' : (0 : Int) ≤ (k : Int) := by omega
      have i1' : (k : Int) < (lr : Int) := by omega
      have HN : Hid (o ++ [K] = ls.take (k + 1)) := by show _ = _; rw [HS.out, ← HO.out]
      rw [hol]
      clear hK hf hkl hol HS HO
      go_wp2_with (first
        | (go_at_call 53; (with_reducible refine (CC.out _ HF.out).mono ?_); rintro e w2 ⟨g9, c9, rfl, hr9, hb2⟩; go_loud (have HR9 := Lib.hid hr9; have HBB := Lib.hid hb2; have HB2 := Lib.hid (HB.out.trans (hb2.mono hwz)); have hwz2 := HB2.out.size; (simp only [World.size_alloc] at hwz2); clear hb2 hr9))
        | (at_builtin; go_loud (refine wpList_append_block _ rfl (.tmp 32) (.tmp 43) 27 rfl (w.heap.size + 1) 50 i0 (.slice none 0 0) 1 24 Tryz.underlying27 hinf iz0 iz1 iz2 rfl (by decide) g ol c (T.map hdr) rfl (by have h := (BAG.out.below HBB.out).own; rw [HOL.out] at h; exact h.alloc _) _ 1 1 [.slice (some ⟨g9, 0, none⟩) kl c9] rfl rfl (news_new (by first | rfl | simp)) (by simp [Value.oneCell']) (by unfold maxLen; omega) (by omega) (by first | omega | (simp; done) | (simp; omega)) ?_); intro g3 c3 w3 hown hgr hgg; go_loud (have HNB := Lib.hid (Bag.push3 BAG.out HR9.out HBB.out (by rw [HOL.out]) (by have h := hown; rw [← HKL.out] at h; exact h) hgr hgg); have HB3 := Lib.hid (Below.grown (HB2.out.alloc hwz2 _) hgr (by simp; omega) (fun k hk => by obtain rfl := Option.some.inj hk; exact BAG.out.lo.1)); clear hown hgr hgg)))
      exact ⟨⟨k + 1, g3, c3, _, o ++ [K], by omega, by go_num, by simp [HOL.out], by simp [HOL.out]; omega, HN, HNB, HB3⟩, by simp [intOf]; omega⟩
    · obtain rfl : k = lr := by omega
      have HO2 : Hid (o = ls) := by show _ = _; have := HO.out; rwa [List.take_of_length_le (by rw [HLR.out]; exact Nat.le_refl _)] at this
      have hbagF := BAG.out
      rw [HO2.out] at hbagF
      have HBF := Lib.hid hbagF
      have hol9 : o.length = (ls).length := by rw [HO2.out]
      rw [hol9]
      clear hbagF hol9
      go_wp2
      go_ret
      exact ⟨g, c, T, by first | rfl | simp, HBF.out.lower (by omega), HW.out⟩
set_option maxHeartbeats 4000000 in
theorem rows_3 (AT AA : Option Addr) (cT gA oA cA : Nat) (tb : Nat) (ev : List (List RT)) (i : Nat) (b : Int) (n : Int) (A1 A2 : Option Addr) (el c1 c2 : Nat) (w : World) (hA : R3 w gA oA AA ev) (hel : ev.length ≤ 2000000) (hi : i < ev.length) (hok : Ok2 ev[i]) (ns : List Int) (gn on : Nat) (hN : Fl w gn on A2 (ns.map iv)) (hnl : ns.length ≤ 2000000) (hin : ∀ r ∈ ev[i], ∀ t ∈ ns, inB t r.length = true) :
    Calls Tryz.prog 35 #[.slice AT tb cT, .slice AA ev.length cA, .agg #[.int .i64 3, .int .i64 (i : Int), .int .i64 b, .int .i64 n, .slice A1 el c1, .slice A2 ns.length c2]] w (RetBag (ev[i].map fun r => ns.map fun t => r.getD t.toNat nilV) w) := by
  obtain ⟨i0, hinf, iz0, iz1, iz2⟩ := info_parts infoVS
  obtain ⟨rfl, hgA, B2, d2, h2, p2, hc1, hr⟩ := hA.at i hi
  have HK := Lib.hid hok
  have hlr := hok.1
  obtain ⟨ls, hls⟩ : ∃ ls, ev[i] = ls := ⟨_, rfl⟩
  rw [hls] at hc1 hr HK hlr hin ⊢
  have HR := Lib.hid hr
  obtain ⟨lr, hlr2⟩ : ∃ m, ls.length = m := ⟨_, rfl⟩
  have HLR := Lib.hid hlr2
  rw [hlr2] at hc1 hlr
  clear hls hA hok hr hlr2
  have n0 : (0 : Int) ≤ (i : Int) := by omega
  have n1 : (i : Int) < (ev.length : Int) := by omega
  have HN0 := Lib.hid hN
  have HIN := Lib.hid hin
  clear hN hin
  have BAG0 := Lib.hid (Bag.emptyB (w.alloc (.cells #[.int .i64 3, .int .i64 (i : Int), .int .i64 b, .int .i64 n, .slice A1 el c1, .slice A2 ns.length c2] 35)) (B := w.heap.size + 1) (by simp))
  have HB0 := Lib.hid ((Below.refl (w.heap.size + 1) (w.alloc (.cells #[.int .i64 3, .int .i64 (i : Int), .int .i64 b, .int .i64 n, .slice A1 el c1, .slice A2 ns.length c2] 35))).alloc (by simp) (.cells #[] 50))
  have HBX : Hid (Below w.heap.size w (w.alloc (.cells #[.int .i64 3, .int .i64 (i : Int), .int .i64 b, .int .i64 n, .slice A1 el c1, .slice A2 ns.length c2] 35))) := (Below.refl _ _).alloc (Nat.le_refl _) _
  go_enter Tryz.func35, Tryz.ntmps35
  go_wp2
  go_loopw [7, 10] (fun ox kx wr => ∃ (k g c : Nat) (T : List TT) (o : List RT), k ≤ lr ∧ kx = .int .i64 k ∧ ox = .slice (some ⟨g, 0, none⟩) o.length c ∧ o.length ≤ k ∧ Hid (o = (ls.take k).map fun r => ns.map fun t => r.getD t.toNat nilV) ∧ Hid (Bag wr (w.heap.size + 1) g c T o) ∧ Hid (Below (w.heap.size + 1) (w.alloc (.cells #[.int .i64 3, .int .i64 (i : Int), .int .i64 b, .int .i64 n, .slice A1 el c1, .slice A2 ns.length c2] 35)) wr)) (fun _ kx _ => lr - (intOf kx).toNat)
  case atStart => exact ⟨0, w.heap.size + 1, 0, [], [], Nat.zero_le _, rfl, by simp, Nat.le_refl _, rfl, by have h := BAG0; simp only [World.size_alloc] at h; exact h, HB0⟩
  case round =>
    clear BAG0 HB0
    obtain ⟨k, g, c, T, o, hk, rfl, rfl, hol0, HO, BAG, HB⟩ := hrel
    have hwz := HB.out.size
    (simp only [World.size_alloc] at hwz)
    have HW := Lib.hid (HBX.out.trans (HB.out.mono (by omega)))
    have hwr := HW.out.size
    have r1 := (HB.out.cell (p := ⟨w.heap.size, 1, none⟩) (by show w.heap.size < w.heap.size + 1; omega)).trans (cell_newX (v := .int .i64 (i : Int)) rfl)
    have t1 := (HW.out.cell (p := ⟨gA, oA + i, none⟩) hgA).trans hc1
    have r5 := (HB.out.cell (p := ⟨w.heap.size, 5, none⟩) (by show w.heap.size < w.heap.size + 1; omega)).trans (cell_newX (v := .slice A2 ns.length c2) rfl)
    have HB2 := Lib.hid (HR.out.below HW.out)
    by_cases hlt : k < lr
    · have hlt2 : k < ls.length := by rw [HLR.out]; exact hlt
      obtain ⟨rfl, hg2, c', g', o', hc, hf⟩ := HB2.out.at k hlt2
      have HF := Lib.hid hf
      have hlk := (HK.out.at k hlt2).1
      have HS := Lib.hid (List.take_succ_eq_append_getElem hlt2)
      have HN1 := Lib.hid (HN0.out.below HW.out)
      have HIK := Lib.hid (HIN.out _ (List.getElem_mem hlt2))
      obtain ⟨K, hK⟩ : ∃ K, ls[k] = K := ⟨_, rfl⟩
      rw [hK] at hc HF HS hlk HIK
      have CC := Lib.hid (fun W hW hW2 => l6Taken g' o' c' gn on c2 A2 K ns W hW hW2 hlk hnl HIK.out)
      unfold RetRow at CC
      rw [List.length_map] at CC
      obtain ⟨kl, hkl⟩ : ∃ m, (ns.map fun t => K.getD t.toNat nilV).length = m := ⟨_, rfl⟩
      have hkl2 : kl = ns.length := by rw [← hkl, List.length_map]
      obtain ⟨kx, hkx⟩ : ∃ m, K.length = m := ⟨_, rfl⟩
      rw [hkx] at hc CC
      obtain ⟨ol, hol⟩ : ∃ m, o.length = m := ⟨_, rfl⟩
      rw [hol] at hol0
      have HOL := Lib.hid hol
      have HKL := Lib.hid (show (ns.map fun t => K.getD t.toNat nilV).length = ns.length by rw [List.length_map])
      have i0' : (0 : Int) ≤ (k : Int) := by omega
      have i1' : (k : Int) < (lr : Int) := by omega
      have HN : Hid (o ++ [ns.map fun t => K.getD t.toNat nilV] = (ls.take (k + 1)).map fun r => ns.map fun t => r.getD t.toNat nilV) := by show _ = _; rw [HS.out, List.map_append, ← HO.out]; rfl
      rw [hol]
      clear hK hf hkl hkl2 hkx hol HS HO
      go_wp2_with (fail)
      go_region_law (first
        | (refine step_call rfl 55 _ _ rfl takenEnters #[.slice (some ⟨g', o', none⟩) kx c', .slice A2 ns.length c2] rfl (CC.out _ (by repeat (with_reducible first | exact HF.out | apply Fl.alloc | apply Fl.drew)) (by repeat (with_reducible first | exact HN1.out | apply Fl.alloc | apply Fl.drew))) ?_; rintro e w2 ⟨g9, c9, rfl, hr9, hb2⟩; go_loud (have hz2 := hb2.size; (try simp at hz2); have BAG2 := Lib.hid (Bag.below (by repeat (with_reducible first | exact BAG.out | apply Bag.alloc | apply Bag.drew)) hb2); have HR9 := Lib.hid (hr9.lower (B' := w.heap.size + 1) (by (try simp); omega)); have hlo9 := hr9.lo; (try simp at hlo9); have hgl9 := BAG.out.lo.2; have HNE9 : Hid (∀ u ∈ T, u.1 ≠ g9) := (fun u hu => by have := (BAG.out.rows u hu).hi; omega); have HB2 := Lib.hid ((show Below (w.heap.size + 1) (w.alloc (.cells #[.int .i64 3, .int .i64 (i : Int), .int .i64 b, .int .i64 n, .slice A1 el c1, .slice A2 ns.length c2] 35)) _ from by repeat (with_reducible first | exact HB.out | apply Below.drew)).trans (hb2.mono (by (try simp); omega))); have HO2 := Lib.hid (show World.ownsRow _ _ _ _ _ _ _ from by have h := BAG2.out.own; rw [HOL.out] at h; exact h); clear hb2 hr9; refine ⟨_, rfl, ?_⟩))
        | (refine step_blk rfl (.tmp 92) (.tmp 104) 27 rfl (w.heap.size + 1) 50 i0 (.slice none 0 0) 1 24 Tryz.underlying27 hinf iz0 iz1 iz2 rfl (by decide) g ol c (T.map hdr) rfl (by repeat (with_reducible first | exact HO2.out | apply World.ownsRow.alloc | apply own_drew)) _ 1 1 [.slice (some ⟨g9, 0, none⟩) ns.length c9] rfl rfl (news_new (by first | rfl | simp)) (by simp [Value.oneCell']) (by unfold maxLen; omega) (by omega) (by first | omega | (simp; done) | (simp; omega)) ?_; intro g3 c3 w3 hown hgr hgg; go_loud (have HNB := Lib.hid (Bag.push (t := (g9, c9, ns.map fun t => K.getD t.toNat nilV)) (by repeat (with_reducible first | exact BAG2.out | apply Bag.alloc | apply Bag.drew)) (by repeat (with_reducible first | exact HR9.out | apply RowO.alloc | apply RowO.drew)) HNE9.out (by simp only; omega) (by rw [HOL.out]) (by have h := hown; rw [← HKL.out] at h; exact h) hgr hgg); have HB3 := Lib.hid (Below.grown (show Below (w.heap.size + 1) (w.alloc (.cells #[.int .i64 3, .int .i64 (i : Int), .int .i64 b, .int .i64 n, .slice A1 el c1, .slice A2 ns.length c2] 35)) _ from by repeat (with_reducible first | exact HB2.out | apply Below.drew | refine Below.alloc ?_ (by first | omega | (simp; done) | (simp; omega)) _)) hgr (by first | omega | (simp; done) | (simp; omega)) (fun k hk => by obtain rfl := Option.some.inj hk; exact BAG.out.lo.1)); clear hown hgr hgg)))
      all_goals go_wp2
      all_goals exact ⟨⟨k + 1, g3, c3, _, o ++ [ns.map fun t => K.getD t.toNat nilV], by omega, by go_num, by simp [HOL.out], by simp [HOL.out]; omega, HN, HNB, HB3⟩, by simp [intOf]; omega⟩
    · obtain rfl : k = lr := by omega
      have HO2 : Hid (o = ls.map fun r => ns.map fun t => r.getD t.toNat nilV) := by show _ = _; have := HO.out; rwa [List.take_of_length_le (by rw [HLR.out]; exact Nat.le_refl _)] at this
      have hbagF := BAG.out
      rw [HO2.out] at hbagF
      have HBF := Lib.hid hbagF
      have hol9 : o.length = (ls.map fun r => ns.map fun t => r.getD t.toNat nilV).length := by rw [HO2.out]
      rw [hol9]
      clear hbagF hol9
      go_wp2
      go_ret
      exact ⟨g, c, T, by first | rfl | simp, HBF.out.lower (by omega), HW.out⟩
set_option maxHeartbeats 4000000 in
theorem rows_2 (AT AA : Option Addr) (cT gA oA cA : Nat) (tb : Nat) (ev : List (List RT)) (i : Nat) (b : Int) (n : Int) (A1 A2 : Option Addr) (c1 ll c2 : Nat) (w : World) (hA : R3 w gA oA AA ev) (hel : ev.length ≤ 2000000) (hi : i < ev.length) (hok : Ok2 ev[i]) (es : List PT) (ge oe : Nat) (hE : Fl w ge oe A1 (flatP es)) (hle : es.length ≤ 2000000) (cs : List CT) (hk0 : kindI cs es = 3) (hft : ∀ r ∈ ev[i], fitB cs r = true) :
    Calls Tryz.prog 35 #[.slice AT tb cT, .slice AA ev.length cA, .agg #[.int .i64 2, .int .i64 (i : Int), .int .i64 b, .int .i64 n, .slice A1 es.length c1, .slice A2 ll c2]] w (RetBag (ev[i].filter (yesR es)) w) := by
  obtain ⟨i0, hinf, iz0, iz1, iz2⟩ := info_parts infoVS
  obtain ⟨rfl, hgA, B2, d2, h2, p2, hc1, hr⟩ := hA.at i hi
  have HK := Lib.hid hok
  have hlr := hok.1
  obtain ⟨ls, hls⟩ : ∃ ls, ev[i] = ls := ⟨_, rfl⟩
  rw [hls] at hc1 hr HK hlr hft ⊢
  have HR := Lib.hid hr
  obtain ⟨lr, hlr2⟩ : ∃ m, ls.length = m := ⟨_, rfl⟩
  have HLR := Lib.hid hlr2
  rw [hlr2] at hc1 hlr
  clear hls hA hok hr hlr2
  have n0 : (0 : Int) ≤ (i : Int) := by omega
  have n1 : (i : Int) < (ev.length : Int) := by omega
  have HK0 := Lib.hid hk0
  clear hk0
  have HE0 := Lib.hid hE
  have HFT0 := Lib.hid hft
  clear hE hft
  have BAG0 := Lib.hid (Bag.emptyB (w.alloc (.cells #[.int .i64 2, .int .i64 (i : Int), .int .i64 b, .int .i64 n, .slice A1 es.length c1, .slice A2 ll c2] 35)) (B := w.heap.size + 1) (by simp))
  have HB0 := Lib.hid ((Below.refl (w.heap.size + 1) (w.alloc (.cells #[.int .i64 2, .int .i64 (i : Int), .int .i64 b, .int .i64 n, .slice A1 es.length c1, .slice A2 ll c2] 35))).alloc (by simp) (.cells #[] 50))
  have HBX : Hid (Below w.heap.size w (w.alloc (.cells #[.int .i64 2, .int .i64 (i : Int), .int .i64 b, .int .i64 n, .slice A1 es.length c1, .slice A2 ll c2] 35))) := (Below.refl _ _).alloc (Nat.le_refl _) _
  go_enter Tryz.func35, Tryz.ntmps35
  go_wp2
  go_loopw [7, 9] (fun ox kx wr => ∃ (k g c : Nat) (T : List TT) (o : List RT), k ≤ lr ∧ kx = .int .i64 k ∧ ox = .slice (some ⟨g, 0, none⟩) o.length c ∧ o.length ≤ k ∧ Hid (o = (ls.take k).filter (yesR es)) ∧ Hid (Bag wr (w.heap.size + 1) g c T o) ∧ Hid (Below (w.heap.size + 1) (w.alloc (.cells #[.int .i64 2, .int .i64 (i : Int), .int .i64 b, .int .i64 n, .slice A1 es.length c1, .slice A2 ll c2] 35)) wr)) (fun _ kx _ => lr - (intOf kx).toNat)
  case atStart => exact ⟨0, w.heap.size + 1, 0, [], [], Nat.zero_le _, rfl, by simp, Nat.le_refl _, rfl, by have h := BAG0; simp only [World.size_alloc] at h; exact h, HB0⟩
  case round =>
    clear BAG0 HB0
    obtain ⟨k, g, c, T, o, hk, rfl, rfl, hol0, HO, BAG, HB⟩ := hrel
    have hwz := HB.out.size
    (simp only [World.size_alloc] at hwz)
    have HW := Lib.hid (HBX.out.trans (HB.out.mono (by omega)))
    have hwr := HW.out.size
    have r1 := (HB.out.cell (p := ⟨w.heap.size, 1, none⟩) (by show w.heap.size < w.heap.size + 1; omega)).trans (cell_newX (v := .int .i64 (i : Int)) rfl)
    have t1 := (HW.out.cell (p := ⟨gA, oA + i, none⟩) hgA).trans hc1
    have r4 := (HB.out.cell (p := ⟨w.heap.size, 4, none⟩) (by show w.heap.size < w.heap.size + 1; omega)).trans (cell_newX (v := .slice A1 es.length c1) rfl)
    have HB2 := Lib.hid (HR.out.below HW.out)
    by_cases hlt : k < lr
    · have hlt2 : k < ls.length := by rw [HLR.out]; exact hlt
      obtain ⟨rfl, hg2, c', g', o', hc, hf⟩ := HB2.out.at k hlt2
      have HF := Lib.hid hf
      have hlk := (HK.out.at k hlt2).1
      have HS := Lib.hid (List.take_succ_eq_append_getElem hlt2)
      have HE1 := Lib.hid (HE0.out.below HW.out)
      have HFT := Lib.hid (HFT0.out _ (List.getElem_mem hlt2))
      obtain ⟨K, hK⟩ : ∃ K, ls[k] = K := ⟨_, rfl⟩
      rw [hK] at hc HF HS hlk HFT
      have CH := Lib.hid (fun W hW hW2 => l6Holds (some ⟨g', o', none⟩) A1 g' o' c' ge oe c1 cs K es W (by rw [HK0.out]; decide) HFT.out hW hW2 hlk)
      have CC := Lib.hid (fun W hW => l3Own g' o' c' K W hW hlk)
      obtain ⟨kl, hkl⟩ : ∃ m, K.length = m := ⟨_, rfl⟩
      rw [hkl] at hc CC CH
      obtain ⟨ol, hol⟩ : ∃ m, o.length = m := ⟨_, rfl⟩
      rw [hol] at hol0
      have HOL := Lib.hid hol
      have HKL := Lib.hid hkl
      have i0' : (0 : Int) ≤ (k : Int) := by omega
      have i1' : (k : Int) < (lr : Int) := by omega
      have HS0 : (fun w' => w'.cell? ⟨w.heap.size, 1, none⟩ = some (.int .i64 (i : Int)) ∧ w'.cell? ⟨w.heap.size, 4, none⟩ = some (.slice A1 es.length c1) ∧ w'.cell? ⟨gA, oA + i, none⟩ = some (.slice (some ⟨h2, p2, none⟩) lr d2) ∧ w'.cell? ⟨h2, p2 + k, none⟩ = some (.slice (some ⟨g', o', none⟩) kl c') ∧ w'.cell? ⟨h2, p2 + k, none⟩ = some (.slice (some ⟨g', o', none⟩) kl c') ∧ w'.cell? ⟨h2, p2 + k, none⟩ = some (.slice (some ⟨g', o', none⟩) kl c') ∧ Fl w' g' o' (some ⟨g', o', none⟩) (flatV K) ∧ Fl w' ge oe A1 (flatP es) ∧ Bag w' (w.heap.size + 1) g c T o ∧ Below (w.heap.size + 1) (w.alloc (.cells #[.int .i64 2, .int .i64 (i : Int), .int .i64 b, .int .i64 n, .slice A1 es.length c1, .slice A2 ll c2] 35)) w' ∧ w.heap.size + 1 ≤ w'.heap.size) wr := ⟨r1, r4, t1, hc, hc, hc, HF.out, HE1.out, BAG.out, HB.out, hwz⟩
      rw [hol]
      clear hK hf hkl hol HFT
      by_cases hy : yesR es K = true
      · have HN : Hid (o ++ [K] = (ls.take (k + 1)).filter (yesR es)) := by show _ = _; rw [HS.out, List.filter_append, ← HO.out]; simp [hy]
        rw [hy] at CH
        clear hy HS HO
        go_wp2_with (fail)
        go_region_held_law (fun w' => w'.cell? ⟨w.heap.size, 1, none⟩ = some (.int .i64 (i : Int)) ∧ w'.cell? ⟨w.heap.size, 4, none⟩ = some (.slice A1 es.length c1) ∧ w'.cell? ⟨gA, oA + i, none⟩ = some (.slice (some ⟨h2, p2, none⟩) lr d2) ∧ w'.cell? ⟨h2, p2 + k, none⟩ = some (.slice (some ⟨g', o', none⟩) kl c') ∧ w'.cell? ⟨h2, p2 + k, none⟩ = some (.slice (some ⟨g', o', none⟩) kl c') ∧ w'.cell? ⟨h2, p2 + k, none⟩ = some (.slice (some ⟨g', o', none⟩) kl c') ∧ Fl w' g' o' (some ⟨g', o', none⟩) (flatV K) ∧ Fl w' ge oe A1 (flatP es) ∧ Bag w' (w.heap.size + 1) g c T o ∧ Below (w.heap.size + 1) (w.alloc (.cells #[.int .i64 2, .int .i64 (i : Int), .int .i64 b, .int .i64 n, .slice A1 es.length c1, .slice A2 ll c2] 35)) w' ∧ w.heap.size + 1 ≤ w'.heap.size) (first | exact keepC (by assumption) hbq | exact keepCD (by assumption) | assumption) (first | (go_at_call 54; (with_reducible refine (CH.out _ (keepC1 (by assumption)) (keepC2 (by assumption))).mono ?_); rintro e w1 ⟨rfl, hbq⟩))
        have HF1 := Lib.hid (keepC1 (by assumption))
        have BAG1 := Lib.hid (keepCB (by assumption))
        have HB1 := Lib.hid (keepCL (by assumption))
        have hwz9 := keepCZ (by assumption)
        clear BAG HF HB
        go_wp2_with (first
          | (go_at_call 53; (with_reducible refine (CC.out _ HF1.out).mono ?_); rintro e w2 ⟨g9, c9, rfl, hr9, hb2⟩; go_loud (have HR9 := Lib.hid hr9; have HBB := Lib.hid hb2; have HB2 := Lib.hid (HB1.out.trans (hb2.mono (by omega))); have hwz2 := HB2.out.size; (simp only [World.size_alloc] at hwz2); clear hb2 hr9))
          | (at_builtin; go_loud (refine wpList_append_block _ rfl (.tmp 68) (.tmp 78) 27 rfl (w.heap.size + 1) 50 i0 (.slice none 0 0) 1 24 Tryz.underlying27 hinf iz0 iz1 iz2 rfl (by decide) g ol c (T.map hdr) rfl (by have h := (BAG1.out.below HBB.out).own; rw [HOL.out] at h; exact h.alloc _) _ 1 1 [.slice (some ⟨g9, 0, none⟩) kl c9] rfl rfl (news_new (by first | rfl | simp)) (by simp [Value.oneCell']) (by unfold maxLen; omega) (by omega) (by first | omega | (simp; done) | (simp; omega)) ?_); intro g3 c3 w3 hown hgr hgg; go_loud (have HNB := Lib.hid (Bag.push3 BAG1.out HR9.out HBB.out (by rw [HOL.out]) (by have h := hown; rw [← HKL.out] at h; exact h) hgr hgg); have HB3 := Lib.hid (Below.grown (HB2.out.alloc hwz2 _) hgr (by simp; omega) (fun k hk => by obtain rfl := Option.some.inj hk; exact BAG1.out.lo.1)); clear hown hgr hgg)))
        exact ⟨⟨k + 1, g3, c3, _, o ++ [K], by omega, by go_num, by simp [HOL.out], by simp [HOL.out]; omega, HN, HNB, HB3⟩, by simp [intOf]; omega⟩
      · have HN : Hid (o = (ls.take (k + 1)).filter (yesR es)) := by show _ = _; rw [HS.out, List.filter_append, ← HO.out]; simp [hy]
        have hy : yesR es K = false := by simpa using hy
        rw [hy] at CH
        clear hy HS HO
        go_wp2_with (fail)
        go_region_held_law (fun w' => w'.cell? ⟨w.heap.size, 1, none⟩ = some (.int .i64 (i : Int)) ∧ w'.cell? ⟨w.heap.size, 4, none⟩ = some (.slice A1 es.length c1) ∧ w'.cell? ⟨gA, oA + i, none⟩ = some (.slice (some ⟨h2, p2, none⟩) lr d2) ∧ w'.cell? ⟨h2, p2 + k, none⟩ = some (.slice (some ⟨g', o', none⟩) kl c') ∧ w'.cell? ⟨h2, p2 + k, none⟩ = some (.slice (some ⟨g', o', none⟩) kl c') ∧ w'.cell? ⟨h2, p2 + k, none⟩ = some (.slice (some ⟨g', o', none⟩) kl c') ∧ Fl w' g' o' (some ⟨g', o', none⟩) (flatV K) ∧ Fl w' ge oe A1 (flatP es) ∧ Bag w' (w.heap.size + 1) g c T o ∧ Below (w.heap.size + 1) (w.alloc (.cells #[.int .i64 2, .int .i64 (i : Int), .int .i64 b, .int .i64 n, .slice A1 es.length c1, .slice A2 ll c2] 35)) w' ∧ w.heap.size + 1 ≤ w'.heap.size) (first | exact keepC (by assumption) hbq | exact keepCD (by assumption) | assumption) (first | (go_at_call 54; (with_reducible refine (CH.out _ (keepC1 (by assumption)) (keepC2 (by assumption))).mono ?_); rintro e w1 ⟨rfl, hbq⟩))
        have BAG1 := Lib.hid (keepCB (by assumption))
        have HB1 := Lib.hid (keepCL (by assumption))
        go_wp2_with (fail)
        exact ⟨⟨k + 1, g, c, T, o, by omega, by go_num, by rw [HOL.out], by rw [HOL.out]; omega, HN, BAG1, HB1⟩, by simp [intOf]; omega⟩
    · obtain rfl : k = lr := by omega
      have HO2 : Hid (o = ls.filter (yesR es)) := by show _ = _; have := HO.out; rwa [List.take_of_length_le (by rw [HLR.out]; exact Nat.le_refl _)] at this
      have hbagF := BAG.out
      rw [HO2.out] at hbagF
      have HBF := Lib.hid hbagF
      have hol9 : o.length = (ls.filter (yesR es)).length := by rw [HO2.out]
      rw [hol9]
      clear hbagF hol9
      go_wp2
      go_ret
      exact ⟨g, c, T, by first | rfl | simp, HBF.out.lower (by omega), HW.out⟩
set_option maxHeartbeats 4000000 in
theorem rows_6 (AT AA : Option Addr) (cT gA oA cA : Nat) (tb : Nat) (ev : List (List RT)) (i : Nat) (b : Int) (n : Int) (A1 A2 : Option Addr) (el c1 ll c2 : Nat) (w : World) (hA : R3 w gA oA AA ev) (hel : ev.length ≤ 2000000) (hi : i < ev.length) (hok : Ok2 ev[i]) :
    Calls Tryz.prog 35 #[.slice AT tb cT, .slice AA ev.length cA, .agg #[.int .i64 6, .int .i64 (i : Int), .int .i64 b, .int .i64 n, .slice A1 el c1, .slice A2 ll c2]] w (RetBag (onceI ev[i]) w) := by
  obtain ⟨i0, hinf, iz0, iz1, iz2⟩ := info_parts infoVS
  obtain ⟨rfl, hgA, B2, d2, h2, p2, hc1, hr⟩ := hA.at i hi
  have HK := Lib.hid hok
  have hlr := hok.1
  obtain ⟨ls, hls⟩ : ∃ ls, ev[i] = ls := ⟨_, rfl⟩
  rw [hls] at hc1 hr HK hlr ⊢
  have HR := Lib.hid hr
  obtain ⟨lr, hlr2⟩ : ∃ m, ls.length = m := ⟨_, rfl⟩
  have HLR := Lib.hid hlr2
  rw [hlr2] at hc1 hlr
  clear hls hA hok hr hlr2
  have n0 : (0 : Int) ≤ (i : Int) := by omega
  have n1 : (i : Int) < (ev.length : Int) := by omega
  have CO := Lib.hid (fun W hW => rowsOnceS B2 h2 p2 d2 ls W hW HK.out)
  unfold RetBag at CO
  rw [HLR.out] at CO
  have HBX : Hid (Below w.heap.size w ((w.alloc (.cells #[.int .i64 6, .int .i64 (i : Int), .int .i64 b, .int .i64 n, .slice A1 el c1, .slice A2 ll c2] 35)).alloc (.cells #[] 50))) := ((Below.refl _ _).alloc (Nat.le_refl _) _).alloc (by simp) _
  have t1 := (HBX.out.cell (p := ⟨gA, oA + i, none⟩) hgA).trans hc1
  have HR2 := Lib.hid (HR.out.below HBX.out)
  go_enter Tryz.func35, Tryz.ntmps35
  go_wp2_with (go_at_call 57; (with_reducible refine (CO.out _ HR2.out).mono ?_); rintro e w1 ⟨g, c, T, rfl, hb, hbel⟩)
  go_ret
  exact ⟨g, c, T, rfl, hb.lower (by simp; omega), HBX.out.trans (hbel.mono HBX.out.size)⟩
end Go.Proofs.YtacinjbaebimhaaGreat.Val
namespace Go.Proofs.YtacinjbaebimhaaGreat.Val
open Go.RowKit
set_option linter.unusedVariables false
set_option maxRecDepth 8000
theorem row_new {W W1 : World} {b1 b2 b3 b4 b5 b6 q1 q2 q3 q4 q5 q6 f1 f2 o1 o2 B g c N : Nat} {x1 x2 x3 x4 x5 x6 : Value} {F1 F2 : Option Addr} {X1 X2 : List Value} {T : List TT} {o : List RT} {BX : World} {t : TT} (h : W.cell? ⟨b1, q1, none⟩ = some x1 ∧ W.cell? ⟨b2, q2, none⟩ = some x2 ∧ W.cell? ⟨b3, q3, none⟩ = some x3 ∧ W.cell? ⟨b4, q4, none⟩ = some x4 ∧ W.cell? ⟨b5, q5, none⟩ = some x5 ∧ W.cell? ⟨b6, q6, none⟩ = some x6 ∧ Fl W f1 o1 F1 X1 ∧ Fl W f2 o2 F2 X2 ∧ Bag W B g c T o ∧ Below N BX W ∧ N ≤ W.heap.size) (hr : RowO W1 W.heap.size t) : RowO W1 N t ∧ (∀ u ∈ T, u.1 ≠ t.1) ∧ t.1 ≠ g := by
  have hb := keepCB h
  have hz := keepCZ h
  have hl := hr.lo
  exact ⟨hr.lower hz, fun u hu => by have := (hb.rows u hu).hi; omega, by have := hb.lo.2; omega⟩
/-- A row beside all others on which the test holds. -/
def besideI (es : List PT) (ms : List RT) (r : RT) : List RT := (ms.map fun q => r ++ q).filter (yesR es)
theorem beside_len (es : List PT) (ms : List RT) (r : RT) : (besideI es ms r).length ≤ ms.length := by
  have := List.length_filter_le (yesR es) (ms.map fun q => r ++ q)
  rw [List.length_map] at this
  exact this
theorem beside_two (es : List PT) (ls ms : List RT) (r : RT) (k m : Nat) (hl : ls.length ≤ 300) (hm : ms.length ≤ 300) : ((ls.take k).flatMap (besideI es ms) ++ besideI es (ms.take m) r).length ≤ 90300 := by
  have h1 := flat_len (ls.take k) (besideI es ms) 300 (fun x _ => Nat.le_trans (beside_len es ms x) hm)
  have h2 := beside_len es (ms.take m) r
  have h3 : (ls.take k).length ≤ 300 := by rw [List.length_take]; omega
  have h4 : (ls.take k).length * 300 ≤ 300 * 300 := Nat.mul_le_mul_right _ h3
  rw [List.length_append]
  rw [List.length_take] at h2
  omega
set_option maxHeartbeats 4000000 in
theorem rows_4 (AT AA : Option Addr) (cT gA oA cA : Nat) (tb : Nat) (ev : List (List RT)) (i j : Nat) (n : Int) (A1 A2 : Option Addr) (c1 ll c2 : Nat) (w : World) (hA : R3 w gA oA AA ev) (hel : ev.length ≤ 2000000) (hi : i < ev.length) (hok : Ok2 ev[i]) (hj : j < ev.length) (hok2 : Ok2 ev[j]) (es : List PT) (ge oe : Nat) (hE : Fl w ge oe A1 (flatP es)) (hle : es.length ≤ 2000000) (ca cb : List CT) (hk0 : kindI (ca ++ cb) es = 3) (hlc : (ca ++ cb).length ≤ 4) (hfa : ∀ r ∈ ev[i], fitB ca r = true) (hfb : ∀ r ∈ ev[j], fitB cb r = true) (hl3 : ev[i].length ≤ 300) (hm3 : ev[j].length ≤ 300) :
    Calls Tryz.prog 35 #[.slice AT tb cT, .slice AA ev.length cA, .agg #[.int .i64 4, .int .i64 (i : Int), .int .i64 (j : Int), .int .i64 n, .slice A1 es.length c1, .slice A2 ll c2]] w (RetBag (ev[i].flatMap (besideI es ev[j])) w) := by
  obtain ⟨i0, hinf, iz0, iz1, iz2⟩ := info_parts infoVS
  obtain ⟨rfl, hgA, B2, d2, h2, p2, hc1, hr⟩ := hA.at i hi
  have HK := Lib.hid hok
  have hlr := hok.1
  obtain ⟨ls, hls⟩ : ∃ ls, ev[i] = ls := ⟨_, rfl⟩
  rw [hls] at hc1 hr HK hlr hfa hl3 ⊢
  have HR := Lib.hid hr
  obtain ⟨lr, hlr2⟩ : ∃ m, ls.length = m := ⟨_, rfl⟩
  have HLR := Lib.hid hlr2
  rw [hlr2] at hc1 hlr hl3
  obtain ⟨-, -, B3, d3, h3, p3, hc2, hs⟩ := hA.at j hj
  have HKB := Lib.hid hok2
  have hmr := hok2.1
  obtain ⟨ms, hms⟩ : ∃ ms, ev[j] = ms := ⟨_, rfl⟩
  rw [hms] at hc2 hs HKB hmr hfb hm3 ⊢
  have HS9 := Lib.hid hs
  obtain ⟨mr, hmr2⟩ : ∃ m, ms.length = m := ⟨_, rfl⟩
  have HMR := Lib.hid hmr2
  rw [hmr2] at hc2 hmr hm3
  clear hls hA hok hr hlr2 hms hok2 hs hmr2
  have m0 : (0 : Int) ≤ (j : Int) := by omega
  have m1 : (j : Int) < (ev.length : Int) := by omega
  have n0 : (0 : Int) ≤ (i : Int) := by omega
  have n1 : (i : Int) < (ev.length : Int) := by omega
  have HK0 := Lib.hid hk0
  have HE0 := Lib.hid hE
  have HFA0 := Lib.hid hfa
  have HFB0 := Lib.hid hfb
  clear hE hfa hfb hk0
  have BAG0 := Lib.hid (Bag.emptyB (w.alloc (.cells #[.int .i64 4, .int .i64 (i : Int), .int .i64 (j : Int), .int .i64 n, .slice A1 es.length c1, .slice A2 ll c2] 35)) (B := w.heap.size + 1) (by simp))
  have HB0 := Lib.hid ((Below.refl (w.heap.size + 1) (w.alloc (.cells #[.int .i64 4, .int .i64 (i : Int), .int .i64 (j : Int), .int .i64 n, .slice A1 es.length c1, .slice A2 ll c2] 35))).alloc (by simp) (.cells #[] 50))
  have HBX : Hid (Below w.heap.size w (w.alloc (.cells #[.int .i64 4, .int .i64 (i : Int), .int .i64 (j : Int), .int .i64 n, .slice A1 es.length c1, .slice A2 ll c2] 35))) := (Below.refl _ _).alloc (Nat.le_refl _) _
  go_enter Tryz.func35, Tryz.ntmps35
  go_wp2
  go_loopw [7, 11] (fun ox kx wr => ∃ (k g c : Nat) (T : List TT) (o : List RT), k ≤ lr ∧ kx = .int .i64 k ∧ ox = .slice (some ⟨g, 0, none⟩) o.length c ∧ Hid (o = (ls.take k).flatMap (besideI es ms)) ∧ Hid (Bag wr (w.heap.size + 1) g c T o) ∧ Hid (Below (w.heap.size + 1) (w.alloc (.cells #[.int .i64 4, .int .i64 (i : Int), .int .i64 (j : Int), .int .i64 n, .slice A1 es.length c1, .slice A2 ll c2] 35)) wr)) (fun _ kx _ => lr - (intOf kx).toNat)
  case atStart => exact ⟨0, w.heap.size + 1, 0, [], [], Nat.zero_le _, rfl, by simp, rfl, by have h := BAG0; simp only [World.size_alloc] at h; exact h, HB0⟩
  case round =>
    clear BAG0 HB0
    obtain ⟨k, g, c, T, o, hk, rfl, rfl, HO, BAG, HB⟩ := hrel
    have hwz := HB.out.size
    (simp only [World.size_alloc] at hwz)
    have HW := Lib.hid (HBX.out.trans (HB.out.mono (by omega)))
    have hwr := HW.out.size
    have q1 := (HB.out.cell (p := ⟨w.heap.size, 1, none⟩) (by show w.heap.size < w.heap.size + 1; omega)).trans (cell_newX (v := .int .i64 (i : Int)) rfl)
    have q2 := (HB.out.cell (p := ⟨w.heap.size, 2, none⟩) (by show w.heap.size < w.heap.size + 1; omega)).trans (cell_newX (v := .int .i64 (j : Int)) rfl)
    have t1 := (HW.out.cell (p := ⟨gA, oA + i, none⟩) hgA).trans hc1
    have t2 := (HW.out.cell (p := ⟨gA, oA + j, none⟩) hgA).trans hc2
    by_cases hlt : k < lr
    · have hlt2 : k < ls.length := by rw [HLR.out]; exact hlt
      have HSK := Lib.hid (List.take_succ_eq_append_getElem hlt2)
      have HFK := Lib.hid (HFA0.out _ (List.getElem_mem hlt2))
      have hlk := (HK.out.at k hlt2).1
      have HRK := Lib.hid (fun W (hW : Below w.heap.size w W) => (HR.out.below hW).at k hlt2)
      obtain ⟨K, hK⟩ : ∃ K, ls[k] = K := ⟨_, rfl⟩
      rw [hK] at HSK HFK hlk HRK
      have i0' : (0 : Int) ≤ (k : Int) := by omega
      have i1' : (k : Int) < (lr : Int) := by omega
      clear hK
      go_wp2
      clear q1 q2 t1 t2
      go_loopw [7, 12] (fun ox mx wq => ∃ (m g c : Nat) (T : List TT) (o : List RT), m ≤ mr ∧ mx = .int .i64 m ∧ ox = .slice (some ⟨g, 0, none⟩) o.length c ∧ Hid (o = (ls.take k).flatMap (besideI es ms) ++ besideI es (ms.take m) K) ∧ Hid (Bag wq (w.heap.size + 1) g c T o) ∧ Hid (Below (w.heap.size + 1) (w.alloc (.cells #[.int .i64 4, .int .i64 (i : Int), .int .i64 (j : Int), .int .i64 n, .slice A1 es.length c1, .slice A2 ll c2] 35)) wq)) (fun _ mx _ => mr - (intOf mx).toNat)
      case atStart => exact ⟨0, g, c, T, o, Nat.zero_le _, rfl, rfl, by show _ = _; rw [HO.out]; simp [besideI], BAG, HB⟩
      case round =>
        clear BAG HB HW hwz hwr HO
        obtain ⟨m, g, c, T, o, hm, rfl, rfl, HO, BAG, HB⟩ := hrel
        have hwz := HB.out.size
        (simp only [World.size_alloc] at hwz)
        have HW := Lib.hid (HBX.out.trans (HB.out.mono (by omega)))
        have hwr := HW.out.size
        have q1 := (HB.out.cell (p := ⟨w.heap.size, 1, none⟩) (by show w.heap.size < w.heap.size + 1; omega)).trans (cell_newX (v := .int .i64 (i : Int)) rfl)
        have q2 := (HB.out.cell (p := ⟨w.heap.size, 2, none⟩) (by show w.heap.size < w.heap.size + 1; omega)).trans (cell_newX (v := .int .i64 (j : Int)) rfl)
        have t1 := (HW.out.cell (p := ⟨gA, oA + i, none⟩) hgA).trans hc1
        have t2 := (HW.out.cell (p := ⟨gA, oA + j, none⟩) hgA).trans hc2
        by_cases hltm : m < mr
        · have hltm2 : m < ms.length := by rw [HMR.out]; exact hltm
          have HSM := Lib.hid (List.take_succ_eq_append_getElem hltm2)
          have HFQ := Lib.hid (HFB0.out _ (List.getElem_mem hltm2))
          have hlq := (HKB.out.at m hltm2).1
          obtain ⟨rfl, hg2, c', g', o', hc, hf⟩ := HRK.out _ HW.out
          obtain ⟨rfl, hg3, c'', g'', o'', hd, hf2⟩ := (HS9.out.below HW.out).at m hltm2
          obtain ⟨Q, hQ⟩ : ∃ Q, ms[m] = Q := ⟨_, rfl⟩
          rw [hQ] at hd hf2 HSM HFQ hlq
          have HF := Lib.hid hf
          have HF2 := Lib.hid hf2
          have HE1 := Lib.hid (fun W (hW : Below w.heap.size w W) => HE0.out.below hW)
          have hft := fit_join HFK.out HFQ.out hlc
          have CJ := Lib.hid (fun W hW hW2 => l6Joined g' o' c' g'' o'' c'' K Q W hW hW2 hlk hlq)
          have CH := Lib.hid (fun gr rc W hW hW2 => l6Holds (some ⟨gr, 0, none⟩) A1 gr 0 rc ge oe c1 (ca ++ cb) (K ++ Q) es W (by rw [HK0.out]; decide) hft hW hW2 (by have := (fitB_iff.1 hft).2.2.1; omega))
          unfold RetRow at CJ
          have hkq : (K ++ Q).length = K.length + Q.length := List.length_append
          rw [hkq] at CJ CH
          obtain ⟨kl, hkl⟩ : ∃ x, K.length = x := ⟨_, rfl⟩
          obtain ⟨ql, hql⟩ : ∃ x, Q.length = x := ⟨_, rfl⟩
          rw [hkl] at hc CJ CH hkq
          rw [hql] at hd CJ CH hkq
          have hol0 : o.length ≤ 90300 := by rw [HO.out]; exact beside_two es ls ms K k m (by rw [HLR.out]; exact hl3) (by rw [HMR.out]; exact hm3)
          obtain ⟨ol, hol⟩ : ∃ x, o.length = x := ⟨_, rfl⟩
          rw [hol] at hol0
          have HOL := Lib.hid hol
          have HKL := Lib.hid hkq
          have j0' : (0 : Int) ≤ (m : Int) := by omega
          have j1' : (m : Int) < (mr : Int) := by omega
          have HS0 : (fun w' => w'.cell? ⟨w.heap.size, 1, none⟩ = some (.int .i64 (i : Int)) ∧ w'.cell? ⟨w.heap.size, 2, none⟩ = some (.int .i64 (j : Int)) ∧ w'.cell? ⟨gA, oA + i, none⟩ = some (.slice (some ⟨h2, p2, none⟩) lr d2) ∧ w'.cell? ⟨gA, oA + j, none⟩ = some (.slice (some ⟨h3, p3, none⟩) mr d3) ∧ w'.cell? ⟨h2, p2 + k, none⟩ = some (.slice (some ⟨g', o', none⟩) kl c') ∧ w'.cell? ⟨h3, p3 + m, none⟩ = some (.slice (some ⟨g'', o'', none⟩) ql c'') ∧ Fl w' g' o' (some ⟨g', o', none⟩) (flatV K) ∧ Fl w' g'' o'' (some ⟨g'', o'', none⟩) (flatV Q) ∧ Bag w' (w.heap.size + 1) g c T o ∧ Below (w.heap.size + 1) (w.alloc (.cells #[.int .i64 4, .int .i64 (i : Int), .int .i64 (j : Int), .int .i64 n, .slice A1 es.length c1, .slice A2 ll c2] 35)) w' ∧ w.heap.size + 1 ≤ w'.heap.size) wr := ⟨q1, q2, t1, t2, hc, hd, HF.out, HF2.out, BAG.out, HB.out, hwz⟩
          rw [hol]
          clear hf hf2 hQ hkl hql hol hft hkq HF HF2 BAG HB
          by_cases hy : yesR es (K ++ Q) = true
          · have HN : Hid (o ++ [K ++ Q] = (ls.take k).flatMap (besideI es ms) ++ besideI es (ms.take (m + 1)) K) := by
              show _ = _
              rw [HSM.out, HO.out, List.append_assoc]
              simp [besideI, hy]
            rw [hy] at CH
            go_wp2_with (fail)
            go_region_held_law (fun w' => w'.cell? ⟨w.heap.size, 1, none⟩ = some (.int .i64 (i : Int)) ∧ w'.cell? ⟨w.heap.size, 2, none⟩ = some (.int .i64 (j : Int)) ∧ w'.cell? ⟨gA, oA + i, none⟩ = some (.slice (some ⟨h2, p2, none⟩) lr d2) ∧ w'.cell? ⟨gA, oA + j, none⟩ = some (.slice (some ⟨h3, p3, none⟩) mr d3) ∧ w'.cell? ⟨h2, p2 + k, none⟩ = some (.slice (some ⟨g', o', none⟩) kl c') ∧ w'.cell? ⟨h3, p3 + m, none⟩ = some (.slice (some ⟨g'', o'', none⟩) ql c'') ∧ Fl w' g' o' (some ⟨g', o', none⟩) (flatV K) ∧ Fl w' g'' o'' (some ⟨g'', o'', none⟩) (flatV Q) ∧ Bag w' (w.heap.size + 1) g c T o ∧ Below (w.heap.size + 1) (w.alloc (.cells #[.int .i64 4, .int .i64 (i : Int), .int .i64 (j : Int), .int .i64 n, .slice A1 es.length c1, .slice A2 ll c2] 35)) w' ∧ w.heap.size + 1 ≤ w'.heap.size) (first | exact keepC (by assumption) hbq | exact keepCD (by assumption) | assumption) (first | (go_at_call 56; (with_reducible refine (CJ.out _ (keepC1 (by assumption)) (keepC2 (by assumption))).mono ?_); rintro e w1 ⟨g9, c9, rfl, hr9, hbq⟩; have RX := Lib.hid (row_new (by assumption) hr9)))
            have BAG1 : Hid (Bag w1 (w.heap.size + 1) g c T o) := keepCB (by assumption)
            have HB1 : Hid (Below (w.heap.size + 1) (w.alloc (.cells #[.int .i64 4, .int .i64 (i : Int), .int .i64 (j : Int), .int .i64 n, .slice A1 es.length c1, .slice A2 ll c2] 35)) w1) := keepCL (by assumption)
            have hz1 : w.heap.size + 1 ≤ w1.heap.size := keepCZ (by assumption)
            have HW1 := Lib.hid (HBX.out.trans (HB1.out.mono (by omega)))
            have s4 := (HB1.out.cell (p := ⟨w.heap.size, 4, none⟩) (by show w.heap.size < w.heap.size + 1; omega)).trans (cell_newX (v := .slice A1 es.length c1) rfl)
            go_wp2_with (first
              | (go_at_call 54; (with_reducible refine (CH.out _ _ _ RX.out.1.fl (HE1.out _ HW1.out)).mono ?_); rintro e w3 ⟨rfl, hb3⟩; go_loud (have HR3 := Lib.hid (RX.out.1.below hb3); have BAG3 := Lib.hid (BAG1.out.below hb3); have HB3 := Lib.hid (HB1.out.trans (hb3.mono hz1)); have hz3 := hb3.size; clear hb3))
              | (at_builtin; go_loud (refine wpList_append_block _ rfl (.tmp 149) (.tmp 151) 27 rfl (w.heap.size + 1) 50 i0 (.slice none 0 0) 1 24 Tryz.underlying27 hinf iz0 iz1 iz2 rfl (by decide) g ol c (T.map hdr) rfl (by have h := BAG3.out.own; rw [HOL.out] at h; exact h.alloc _) _ 1 1 [.slice (some ⟨g9, 0, none⟩) (kl + ql) c9] rfl rfl (news_new (by first | rfl | simp)) (by simp [Value.oneCell']) (by unfold maxLen; omega) (by omega) (by first | omega | (simp; done) | (simp; omega)) ?_); intro g4 c4 w4 hown hgr hgg; go_loud (have HNB := Lib.hid (Bag.push (t := (g9, c9, K ++ Q)) (BAG3.out.alloc _) (HR3.out.alloc _) RX.out.2.1 RX.out.2.2 (by rw [HOL.out]) (by have h := hown; rw [← HKL.out] at h; exact h) hgr hgg); have HB4 := Lib.hid (Below.grown (HB3.out.alloc (by omega) _) hgr (by simp; omega) (fun k hk => by obtain rfl := Option.some.inj hk; exact BAG1.out.lo.1)); clear hown hgr hgg)))
            exact ⟨⟨m + 1, g4, c4, _, o ++ [K ++ Q], by omega, by go_num, by rw [List.length_append, HOL.out]; rfl, HN, HNB, HB4⟩, by simp [intOf]; omega⟩
          · have HN : Hid (o = (ls.take k).flatMap (besideI es ms) ++ besideI es (ms.take (m + 1)) K) := by
              show _ = _
              rw [HSM.out, HO.out]
              simp [besideI, hy]
            have hy : yesR es (K ++ Q) = false := by simpa using hy
            rw [hy] at CH
            go_wp2_with (fail)
            go_region_held_law (fun w' => w'.cell? ⟨w.heap.size, 1, none⟩ = some (.int .i64 (i : Int)) ∧ w'.cell? ⟨w.heap.size, 2, none⟩ = some (.int .i64 (j : Int)) ∧ w'.cell? ⟨gA, oA + i, none⟩ = some (.slice (some ⟨h2, p2, none⟩) lr d2) ∧ w'.cell? ⟨gA, oA + j, none⟩ = some (.slice (some ⟨h3, p3, none⟩) mr d3) ∧ w'.cell? ⟨h2, p2 + k, none⟩ = some (.slice (some ⟨g', o', none⟩) kl c') ∧ w'.cell? ⟨h3, p3 + m, none⟩ = some (.slice (some ⟨g'', o'', none⟩) ql c'') ∧ Fl w' g' o' (some ⟨g', o', none⟩) (flatV K) ∧ Fl w' g'' o'' (some ⟨g'', o'', none⟩) (flatV Q) ∧ Bag w' (w.heap.size + 1) g c T o ∧ Below (w.heap.size + 1) (w.alloc (.cells #[.int .i64 4, .int .i64 (i : Int), .int .i64 (j : Int), .int .i64 n, .slice A1 es.length c1, .slice A2 ll c2] 35)) w' ∧ w.heap.size + 1 ≤ w'.heap.size) (first | exact keepC (by assumption) hbq | exact keepCD (by assumption) | assumption) (first | (go_at_call 56; (with_reducible refine (CJ.out _ (keepC1 (by assumption)) (keepC2 (by assumption))).mono ?_); rintro e w1 ⟨g9, c9, rfl, hr9, hbq⟩; have RX := Lib.hid (row_new (by assumption) hr9)))
            have BAG1 : Hid (Bag w1 (w.heap.size + 1) g c T o) := keepCB (by assumption)
            have HB1 : Hid (Below (w.heap.size + 1) (w.alloc (.cells #[.int .i64 4, .int .i64 (i : Int), .int .i64 (j : Int), .int .i64 n, .slice A1 es.length c1, .slice A2 ll c2] 35)) w1) := keepCL (by assumption)
            have hz1 : w.heap.size + 1 ≤ w1.heap.size := keepCZ (by assumption)
            have HW1 := Lib.hid (HBX.out.trans (HB1.out.mono (by omega)))
            have s4 := (HB1.out.cell (p := ⟨w.heap.size, 4, none⟩) (by show w.heap.size < w.heap.size + 1; omega)).trans (cell_newX (v := .slice A1 es.length c1) rfl)
            go_wp2_with ((go_at_call 54; (with_reducible refine (CH.out _ _ _ RX.out.1.fl (HE1.out _ HW1.out)).mono ?_); rintro e w3 ⟨rfl, hb3⟩; go_loud (have HR3 := Lib.hid (RX.out.1.below hb3); have BAG3 := Lib.hid (BAG1.out.below hb3); have HB3 := Lib.hid (HB1.out.trans (hb3.mono hz1)); have hz3 := hb3.size; clear hb3)))
            exact ⟨⟨m + 1, g, c, T, o, by omega, by go_num, by rw [HOL.out], HN, BAG3, HB3⟩, by simp [intOf]; omega⟩
        · obtain rfl : m = mr := by omega
          have HO2 : Hid (o = (ls.take (k + 1)).flatMap (besideI es ms)) := by
            show _ = _
            rw [HSK.out, List.flatMap_append, HO.out, List.take_of_length_le (l := ms) (by rw [HMR.out]; exact Nat.le_refl _)]
            simp
          go_wp2
          exact ⟨⟨k + 1, g, c, T, o, by omega, by go_num, rfl, HO2, BAG, HB⟩, by simp [intOf]; omega⟩
    · obtain rfl : k = lr := by omega
      have HO2 : Hid (o = ls.flatMap (besideI es ms)) := by show _ = _; have := HO.out; rwa [List.take_of_length_le (by rw [HLR.out]; exact Nat.le_refl _)] at this
      have hbagF := BAG.out
      rw [HO2.out] at hbagF
      have HBF := Lib.hid hbagF
      have hol9 : o.length = (ls.flatMap (besideI es ms)).length := by rw [HO2.out]
      rw [hol9]
      clear hbagF hol9
      go_wp2
      go_ret
      exact ⟨g, c, T, by first | rfl | simp, HBF.out.lower (by omega), HW.out⟩
end Go.Proofs.YtacinjbaebimhaaGreat.Val
namespace Go.Proofs.YtacinjbaebimhaaGreat.Val
open Go.RowKit
set_option linter.unusedVariables false
set_option maxRecDepth 8000
set_option maxHeartbeats 4000000 in
theorem rows_5 (AT AA : Option Addr) (cT gA oA cA : Nat) (tb : Nat) (ev : List (List RT)) (i j : Nat) (n : Int) (A1 A2 : Option Addr) (el c1 ll c2 : Nat) (w : World) (hA : R3 w gA oA AA ev) (hel : ev.length ≤ 2000000) (hi : i < ev.length) (hok : Ok2 ev[i]) (hj : j < ev.length) (hok2 : Ok2 ev[j]) :
    Calls Tryz.prog 35 #[.slice AT tb cT, .slice AA ev.length cA, .agg #[.int .i64 5, .int .i64 (i : Int), .int .i64 (j : Int), .int .i64 n, .slice A1 el c1, .slice A2 ll c2]] w (RetBag (ev[i] ++ ev[j]) w) := by
  obtain ⟨i0, hinf, iz0, iz1, iz2⟩ := info_parts infoVS
  obtain ⟨rfl, hgA, B2, d2, h2, p2, hc1, hr⟩ := hA.at i hi
  have HK := Lib.hid hok
  have hlr := hok.1
  obtain ⟨ls, hls⟩ : ∃ ls, ev[i] = ls := ⟨_, rfl⟩
  rw [hls] at hc1 hr HK hlr ⊢
  have HR := Lib.hid hr
  obtain ⟨lr, hlr2⟩ : ∃ m, ls.length = m := ⟨_, rfl⟩
  have HLR := Lib.hid hlr2
  rw [hlr2] at hc1 hlr
  obtain ⟨-, -, B3, d3, h3, p3, hc2, hs⟩ := hA.at j hj
  have HKB := Lib.hid hok2
  have hmr := hok2.1
  obtain ⟨ms, hms⟩ : ∃ ms, ev[j] = ms := ⟨_, rfl⟩
  rw [hms] at hc2 hs HKB hmr ⊢
  have HS9 := Lib.hid hs
  obtain ⟨mr, hmr2⟩ : ∃ m, ms.length = m := ⟨_, rfl⟩
  have HMR := Lib.hid hmr2
  rw [hmr2] at hc2 hmr
  clear hls hA hok hr hlr2 hms hok2 hs hmr2
  have m0 : (0 : Int) ≤ (j : Int) := by omega
  have m1 : (j : Int) < (ev.length : Int) := by omega
  have n0 : (0 : Int) ≤ (i : Int) := by omega
  have n1 : (i : Int) < (ev.length : Int) := by omega
  have BAG0 := Lib.hid (Bag.emptyB (w.alloc (.cells #[.int .i64 5, .int .i64 (i : Int), .int .i64 (j : Int), .int .i64 n, .slice A1 el c1, .slice A2 ll c2] 35)) (B := w.heap.size + 1) (by simp))
  have HB0 := Lib.hid ((Below.refl (w.heap.size + 1) (w.alloc (.cells #[.int .i64 5, .int .i64 (i : Int), .int .i64 (j : Int), .int .i64 n, .slice A1 el c1, .slice A2 ll c2] 35))).alloc (by simp) (.cells #[] 50))
  have HBX : Hid (Below w.heap.size w (w.alloc (.cells #[.int .i64 5, .int .i64 (i : Int), .int .i64 (j : Int), .int .i64 n, .slice A1 el c1, .slice A2 ll c2] 35))) := (Below.refl _ _).alloc (Nat.le_refl _) _
  go_enter Tryz.func35, Tryz.ntmps35
  go_wp2
  go_loopw [7, 14] (fun ox kx wr => ∃ (k g c : Nat) (T : List TT) (o : List RT), k ≤ lr ∧ kx = .int .i64 k ∧ ox = .slice (some ⟨g, 0, none⟩) o.length c ∧ o.length ≤ k ∧ Hid (o = ls.take k) ∧ Hid (Bag wr (w.heap.size + 1) g c T o) ∧ Hid (Below (w.heap.size + 1) (w.alloc (.cells #[.int .i64 5, .int .i64 (i : Int), .int .i64 (j : Int), .int .i64 n, .slice A1 el c1, .slice A2 ll c2] 35)) wr)) (fun _ kx _ => lr - (intOf kx).toNat)
  case atStart => exact ⟨0, w.heap.size + 1, 0, [], [], Nat.zero_le _, rfl, by simp, Nat.le_refl _, rfl, by have h := BAG0; simp only [World.size_alloc] at h; exact h, HB0⟩
  case round =>
    clear BAG0 HB0
    obtain ⟨k, g, c, T, o, hk, rfl, rfl, hol0, HO, BAG, HB⟩ := hrel
    have hwz := HB.out.size
    (simp only [World.size_alloc] at hwz)
    have HW := Lib.hid (HBX.out.trans (HB.out.mono (by omega)))
    have hwr := HW.out.size
    have r1 := (HB.out.cell (p := ⟨w.heap.size, 1, none⟩) (by show w.heap.size < w.heap.size + 1; omega)).trans (cell_newX (v := .int .i64 (i : Int)) rfl)
    have t1 := (HW.out.cell (p := ⟨gA, oA + i, none⟩) hgA).trans hc1
    have HB2 := Lib.hid (HR.out.below HW.out)
    by_cases hlt : k < lr
    · have hlt2 : k < ls.length := by rw [HLR.out]; exact hlt
      obtain ⟨rfl, hg2, c', g', o', hc, hf⟩ := HB2.out.at k hlt2
      have HF := Lib.hid hf
      have hlk := (HK.out.at k hlt2).1
      have HS := Lib.hid (List.take_succ_eq_append_getElem hlt2)
      obtain ⟨K, hK⟩ : ∃ K, ls[k] = K := ⟨_, rfl⟩
      rw [hK] at hc HF HS hlk
      have CC := Lib.hid (fun W hW => l3Own g' o' c' K W hW hlk)
      obtain ⟨kl, hkl⟩ : ∃ m, K.length = m := ⟨_, rfl⟩
      rw [hkl] at hc CC
      obtain ⟨ol, hol⟩ : ∃ m, o.length = m := ⟨_, rfl⟩
      rw [hol] at hol0
      have HOL := Lib.hid hol
      have HKL := Lib.hid hkl
      have i0' : (0 : Int) ≤ (k : Int) := by omega
      have i1' : (k : Int) < (lr : Int) := by omega
      have HN : Hid (o ++ [K] = ls.take (k + 1)) := by show _ = _; rw [HS.out, ← HO.out]
      rw [hol]
      clear hK hf hkl hol HS HO
      go_wp2_with (first
        | (go_at_call 53; (with_reducible refine (CC.out _ HF.out).mono ?_); rintro e w2 ⟨g9, c9, rfl, hr9, hb2⟩; go_loud (have HR9 := Lib.hid hr9; have HBB := Lib.hid hb2; have HB2 := Lib.hid (HB.out.trans (hb2.mono hwz)); have hwz2 := HB2.out.size; (simp only [World.size_alloc] at hwz2); clear hb2 hr9))
        | (at_builtin; go_loud (refine wpList_append_block _ rfl (.tmp 165) (.tmp 175) 27 rfl (w.heap.size + 1) 50 i0 (.slice none 0 0) 1 24 Tryz.underlying27 hinf iz0 iz1 iz2 rfl (by decide) g ol c (T.map hdr) rfl (by have h := (BAG.out.below HBB.out).own; rw [HOL.out] at h; exact h.alloc _) _ 1 1 [.slice (some ⟨g9, 0, none⟩) kl c9] rfl rfl (news_new (by first | rfl | simp)) (by simp [Value.oneCell']) (by unfold maxLen; omega) (by omega) (by first | omega | (simp; done) | (simp; omega)) ?_); intro g3 c3 w3 hown hgr hgg; go_loud (have HNB := Lib.hid (Bag.push3 BAG.out HR9.out HBB.out (by rw [HOL.out]) (by have h := hown; rw [← HKL.out] at h; exact h) hgr hgg); have HB3 := Lib.hid (Below.grown (HB2.out.alloc hwz2 _) hgr (by simp; omega) (fun k hk => by obtain rfl := Option.some.inj hk; exact BAG.out.lo.1)); clear hown hgr hgg)))
      exact ⟨⟨k + 1, g3, c3, _, o ++ [K], by omega, by go_num, by simp [HOL.out], by simp [HOL.out]; omega, HN, HNB, HB3⟩, by simp [intOf]; omega⟩
    · obtain rfl : lr = k := by omega
      have hkk : o.length ≤ lr := hol0
      have HO1 : Hid (o = ls) := by show _ = _; have := HO.out; rwa [List.take_of_length_le (by rw [HLR.out]; exact Nat.le_refl _)] at this
      go_wp2
      clear r1 t1 HB2 hwr hwz HW hlt hk hol0 HO
      go_loopw [7, 15] (fun ox kx wr => ∃ (k g c : Nat) (T : List TT) (o : List RT), k ≤ mr ∧ kx = .int .i64 k ∧ ox = .slice (some ⟨g, 0, none⟩) o.length c ∧ o.length ≤ lr + k ∧ Hid (o = ls ++ ms.take k) ∧ Hid (Bag wr (w.heap.size + 1) g c T o) ∧ Hid (Below (w.heap.size + 1) (w.alloc (.cells #[.int .i64 5, .int .i64 (i : Int), .int .i64 (j : Int), .int .i64 n, .slice A1 el c1, .slice A2 ll c2] 35)) wr)) (fun _ kx _ => mr - (intOf kx).toNat)
      case atStart => exact ⟨0, g, c, T, o, Nat.zero_le _, rfl, rfl, by omega, by show _ = _; rw [HO1.out]; simp, BAG, HB⟩
      case round =>
        clear BAG HB
        obtain ⟨k, g, c, T, o, hk, rfl, rfl, hol0, HO, BAG, HB⟩ := hrel
        have hwz := HB.out.size
        (simp only [World.size_alloc] at hwz)
        have HW := Lib.hid (HBX.out.trans (HB.out.mono (by omega)))
        have hwr := HW.out.size
        have r1 := (HB.out.cell (p := ⟨w.heap.size, 2, none⟩) (by show w.heap.size < w.heap.size + 1; omega)).trans (cell_newX (v := .int .i64 (j : Int)) rfl)
        have t1 := (HW.out.cell (p := ⟨gA, oA + j, none⟩) hgA).trans hc2
        have HB2 := Lib.hid (HS9.out.below HW.out)
        by_cases hlt : k < mr
        · have hlt2 : k < ms.length := by rw [HMR.out]; exact hlt
          obtain ⟨rfl, hg2, c', g', o', hc, hf⟩ := HB2.out.at k hlt2
          have HF := Lib.hid hf
          have hlk := (HKB.out.at k hlt2).1
          have HS := Lib.hid (List.take_succ_eq_append_getElem hlt2)
          obtain ⟨K, hK⟩ : ∃ K, ms[k] = K := ⟨_, rfl⟩
          rw [hK] at hc HF HS hlk
          have CC := Lib.hid (fun W hW => l3Own g' o' c' K W hW hlk)
          obtain ⟨kl, hkl⟩ : ∃ m, K.length = m := ⟨_, rfl⟩
          rw [hkl] at hc CC
          obtain ⟨ol, hol⟩ : ∃ m, o.length = m := ⟨_, rfl⟩
          rw [hol] at hol0
          have HOL := Lib.hid hol
          have HKL := Lib.hid hkl
          have i0' : (0 : Int) ≤ (k : Int) := by omega
          have i1' : (k : Int) < (mr : Int) := by omega
          have HN : Hid (o ++ [K] = ls ++ ms.take (k + 1)) := by show _ = _; rw [HS.out, ← List.append_assoc, ← HO.out]
          rw [hol]
          clear hK hf hkl hol HS HO
          go_wp2_with (first
            | (go_at_call 53; (with_reducible refine (CC.out _ HF.out).mono ?_); rintro e w2 ⟨g9, c9, rfl, hr9, hb2⟩; go_loud (have HR9 := Lib.hid hr9; have HBB := Lib.hid hb2; have HB2 := Lib.hid (HB.out.trans (hb2.mono hwz)); have hwz2 := HB2.out.size; (simp only [World.size_alloc] at hwz2); clear hb2 hr9))
            | (at_builtin; go_loud (refine wpList_append_block _ rfl (.tmp 187) (.tmp 197) 27 rfl (w.heap.size + 1) 50 i0 (.slice none 0 0) 1 24 Tryz.underlying27 hinf iz0 iz1 iz2 rfl (by decide) g ol c (T.map hdr) rfl (by have h := (BAG.out.below HBB.out).own; rw [HOL.out] at h; exact h.alloc _) _ 1 1 [.slice (some ⟨g9, 0, none⟩) kl c9] rfl rfl (news_new (by first | rfl | simp)) (by simp [Value.oneCell']) (by unfold maxLen; omega) (by omega) (by first | omega | (simp; done) | (simp; omega)) ?_); intro g3 c3 w3 hown hgr hgg; go_loud (have HNB := Lib.hid (Bag.push3 BAG.out HR9.out HBB.out (by rw [HOL.out]) (by have h := hown; rw [← HKL.out] at h; exact h) hgr hgg); have HB3 := Lib.hid (Below.grown (HB2.out.alloc hwz2 _) hgr (by simp; omega) (fun k hk => by obtain rfl := Option.some.inj hk; exact BAG.out.lo.1)); clear hown hgr hgg)))
          exact ⟨⟨k + 1, g3, c3, _, o ++ [K], by omega, by go_num, by simp [HOL.out], by simp [HOL.out]; omega, HN, HNB, HB3⟩, by simp [intOf]; omega⟩
        · obtain rfl : k = mr := by omega
          have hbagF := BAG.out
          have HO2 : Hid (o = ls ++ ms) := by show _ = _; have := HO.out; rwa [List.take_of_length_le (by rw [HMR.out]; exact Nat.le_refl _)] at this
          rw [HO2.out] at hbagF
          have HBF := Lib.hid hbagF
          have hol9 : o.length = (ls ++ ms).length := by rw [HO2.out]
          rw [hol9]
          clear hbagF hol9
          go_wp2
          go_ret
          exact ⟨g, c, T, by first | rfl | simp, HBF.out.lower (by omega), HW.out⟩
end Go.Proofs.YtacinjbaebimhaaGreat.Val
namespace Go.Proofs.YtacinjbaebimhaaGreat.Val
open Go.RowKit
set_option linter.unusedVariables false
set_option maxRecDepth 8000
theorem fits_all {cs : List CT} {ls : List RT} (h : rowsB cs ls = true) : ∀ r ∈ ls, fitB cs r = true := (rowsB_iff.1 h).2
theorem l6Rows (AT AA : Option Addr) (gT oT cT gA oA cA : Nat) (tb : List TB) (ev : List (List RT)) (cl : List (List CT)) (s : SP) (c : List CT) (A1 A2 : Option Addr) (g1 o1 c1 g2 o2 c2 : Nat) (w : World) (hT : Tbs w gT oT AT tb) (hok : OkT tb) (hA : R3 w gA oA AA ev) (hln : cl.length = ev.length) (hel : ev.length ≤ 2000000)
    (he : ∀ j, j < ev.length → rowsB (cl.getD j []) (ev.getD j []) = true ∧ (ev.getD j []).length ≤ 300) (hc : colS tb cl s = some c) (hE : Fl w g1 o1 A1 (flatP s.2.2.2.2.1)) (hN : Fl w g2 o2 A2 (s.2.2.2.2.2.map iv)) (hs : OkS1 s) :
    Calls Tryz.prog 35 #[.slice AT tb.length cT, .slice AA ev.length cA, aggS s A1 c1 A2 c2] w (RetBag (rowS tb ev s) w) := by
  have hin := colS_in hc
  have hrf := colS_refs hc
  obtain ⟨k, a, b, n, es, ns⟩ := s
  obtain ⟨l1, l2, l3⟩ := hs
  simp only at hE hN l1 l2 l3 hin hrf
  have hcol : colS tb cl (k, a, b, n, es, ns) = if fieldsN k a b n es.length ns.length = false then none else if k = 1 then (if inB n tb.length = true then some (tb.getD n.toNat ([], [])).1 else none) else if inB a cl.length = false ∨ inB b cl.length = false then none
      else if k = 2 then (if kindI (cl.getD a.toNat []) es = 3 then some (cl.getD a.toNat []) else none) else if k = 3 then takeC (cl.getD a.toNat []) ns else if k = 4 then joinC (cl.getD a.toNat []) (cl.getD b.toNat []) es else if k = 5 then bothC (cl.getD a.toNat []) (cl.getD b.toNat []) else if k = 6 then some (cl.getD a.toNat []) else none := rfl
  rw [hcol] at hc
  clear hcol
  have hrow : rowS tb ev (k, a, b, n, es, ns) = if k = 1 then (tb.getD n.toNat ([], [])).2 else if k = 2 then (ev.getD a.toNat []).filter (yesR es) else if k = 3 then (ev.getD a.toNat []).map fun r => ns.map fun t => r.getD t.toNat nilV
      else if k = 4 then (ev.getD a.toNat []).flatMap (besideI es (ev.getD b.toNat [])) else if k = 5 then ev.getD a.toNat [] ++ ev.getD b.toNat [] else if k = 6 then onceI (ev.getD a.toNat []) else [] := rfl
  show Calls Tryz.prog 35 #[.slice AT tb.length cT, .slice AA ev.length cA, .agg #[.int .i64 k, .int .i64 a, .int .i64 b, .int .i64 n, .slice A1 es.length c1, .slice A2 ns.length c2]] w (RetBag (rowS tb ev (k, a, b, n, es, ns)) w)
  rw [hrow]
  clear hrow
  by_cases hf : fieldsN k a b n es.length ns.length = false
  · rw [if_pos hf] at hc; cases hc
  rw [if_neg hf] at hc
  by_cases k1 : k = 1
  · rw [if_pos k1]
    obtain ⟨m, rfl, hm⟩ := inB_nat (hrf.1 k1)
    subst k1
    rw [Int.toNat_natCast, getD_lt hm]
    exact rows_1 AT AA gT oT cT gA oA cA tb ev.length a b m A1 A2 es.length c1 ns.length c2 w hT hm hok.1 (hok.at m hm).2
  rw [if_neg k1] at hc
  rw [if_neg k1]
  obtain ⟨ha, hb⟩ := hin k1
  rw [if_neg (by rintro (h | h)
                 · rw [ha] at h; cases h
                 · rw [hb] at h; cases h)] at hc
  rw [hln] at ha hb
  obtain ⟨i, rfl, hi⟩ := inB_nat ha
  obtain ⟨j, rfl, hj⟩ := inB_nat hb
  obtain ⟨fa, la⟩ := he i hi
  obtain ⟨fb, lb⟩ := he j hj
  simp only [Int.toNat_natCast] at hc ⊢
  rw [getD_lt hi] at fa la ⊢
  rw [getD_lt hj] at fb lb ⊢
  have oa := ok2_of fa (by omega)
  have ob := ok2_of fb (by omega)
  by_cases k2 : k = 2
  · rw [if_pos k2] at hc
    rw [if_pos k2]
    subst k2
    split at hc
    · rename_i hk
      exact rows_2 AT AA cT gA oA cA tb.length ev i j n A1 A2 c1 ns.length c2 w hA hel hi oa es g1 o1 hE l1 (cl.getD i []) hk (fits_all fa)
    · cases hc
  rw [if_neg k2] at hc
  rw [if_neg k2]
  by_cases k3 : k = 3
  · rw [if_pos k3] at hc
    rw [if_pos k3]
    subst k3
    refine rows_3 AT AA cT gA oA cA tb.length ev i j n A1 A2 es.length c1 c2 w hA hel hi oa ns g2 o2 hN l3 ?_
    unfold takeC at hc
    split at hc
    · rename_i h2
      have h3 := List.all_eq_true.1 h2.1
      intro r hr t ht
      have h4 := (fitB_iff.1 (fits_all fa r hr)).2.2.1
      rw [h4]
      exact h3 t ht
    · cases hc
  rw [if_neg k3] at hc
  rw [if_neg k3]
  by_cases k4 : k = 4
  · rw [if_pos k4] at hc
    rw [if_pos k4]
    subst k4
    unfold joinC at hc
    split at hc
    · rename_i h2
      exact rows_4 AT AA cT gA oA cA tb.length ev i j n A1 A2 c1 ns.length c2 w hA hel hi oa hj ob es g1 o1 hE l1 (cl.getD i []) (cl.getD j []) h2.2 h2.1 (fits_all fa) (fits_all fb) la lb
    · cases hc
  rw [if_neg k4] at hc
  rw [if_neg k4]
  by_cases k5 : k = 5
  · rw [if_pos k5]
    subst k5
    exact rows_5 AT AA cT gA oA cA tb.length ev i j n A1 A2 es.length c1 ns.length c2 w hA hel hi oa hj ob
  rw [if_neg k5] at hc
  rw [if_neg k5]
  by_cases k6 : k = 6
  · rw [if_pos k6]
    subst k6
    exact rows_6 AT AA cT gA oA cA tb.length ev i j n A1 A2 es.length c1 ns.length c2 w hA hel hi oa
  · rw [if_neg k6] at hc; cases hc
end Go.Proofs.YtacinjbaebimhaaGreat.Val
