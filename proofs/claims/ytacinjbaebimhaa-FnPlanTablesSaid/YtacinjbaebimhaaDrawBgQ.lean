/- A row put in its place (rowPut); impl.RowsSorted; spec.RowsSorted; What drawing rows of rows leaves (l20Bag, l20Two). -/
import Derived.Test.YtacinjbaebimhaaBagQ
import Derived.Test.YtacinjbaebimhaaDrawS2Q
import Derived.BigQuiet
namespace Go.Proofs.Ytacinjbaebimhaa.Val
open Go.RowKit
set_option linter.unusedSimpArgs false
set_option linter.unusedVariables false
set_option maxRecDepth 8000
theorem insL_end {α : Type} (D : List α) (x : α) : insL D D.length x = D ++ [x] := by simp [insL]
theorem insL_set {α : Type} (D : List α) (k : Nat) (y x : α) (hk : k ≤ D.length) : (insL D k y).set k x = insL D k x := by
  have hl : (D.take k).length = k := by simp; omega
  unfold insL
  rw [List.set_append_right _ _ (by omega), hl, Nat.sub_self, List.set_cons_zero]
theorem insL_shift {α : Type} (D : List α) (k : Nat) (hk : k < D.length) : insL D (k + 1) D[k] = insL D k D[k] := by
  unfold insL
  rw [List.take_succ_eq_append_getElem hk, List.append_assoc, List.drop_eq_getElem_cons hk]
  rfl
theorem posI_step {ls : List RT} {r : RT} {k : Nat} (hk : k < ls.length) : posI ls r (k + 1) = if 0 < rowI ls[k] r then posI ls r k else k + 1 := by
  have e : ls.getD k [] = ls[k] := by rw [List.getD_eq_getElem?_getD, List.getElem?_eq_getElem hk]; rfl
  simp only [posI, e]
/-- Headers with a place in between. -/
structure Mid (w : World) (B g cap n : Nat) (T : List TT) (t : TT) (k : Nat) (y : Value) : Prop where
  own : w.ownsRow B 83 1 (.slice (some ⟨g, 0, none⟩) n cap) n (insL (T.map hdr) k y)
  len : n = T.length + 1
  k : k ≤ T.length
  rows : ∀ u ∈ T, RowO w B u
  row : RowO w B t
  nd : ((T ++ [t]).map fun t => t.1).Nodup
  ng : ∀ u ∈ T ++ [t], u.1 ≠ g
theorem Mid.lo {w : World} {B g cap n k : Nat} {T : List TT} {t : TT} {y : Value} (h : Mid w B g cap n T t k y) : B ≤ g ∧ g < w.heap.size := h.own.lt g rfl
theorem Mid.below {w w' : World} {B g cap n k : Nat} {T : List TT} {t : TT} {y : Value} (h : Mid w B g cap n T t k y) (hb : Below w.heap.size w w') : Mid w' B g cap n T t k y :=
  ⟨own_keep h.own (hb.block _ h.lo.2), h.len, h.k, fun u hu => (h.rows u hu).below hb, h.row.below hb, h.nd, h.ng⟩
theorem Mid.cell {w : World} {B g cap n k : Nat} {T : List TT} {t : TT} {y : Value} (h : Mid w B g cap n T t k y) (j : Nat) (hj : j < k) (hj2 : j < T.length) : w.cell? ⟨g, j, none⟩ = some (hdr T[j]) := by
  have := h.len
  rw [h.own.cellAt j (by omega), insL_get _ _ _ (by have := h.k; simpa using this), if_pos hj, List.getElem?_map, List.getElem?_eq_getElem hj2]; rfl
theorem Mid.there {w : World} {B g cap n k : Nat} {T : List TT} {t : TT} {y : Value} (h : Mid w B g cap n T t k y) : ∃ v, w.cell? ⟨g, k, none⟩ = some v := by
  have := h.len
  have := h.k
  rw [h.own.cellAt k (by omega), insL_get _ _ _ (by simpa using h.k), if_neg (by omega), if_pos rfl]
  exact ⟨_, rfl⟩
theorem Mid.set {w : World} {B g cap n k : Nat} {T : List TT} {t : TT} {y : Value} (h : Mid w B g cap n T t k y) (x : Value) : Mid (w.setCell ⟨g, k, none⟩ x) B g cap n T t k x := by
  have hk : ∀ u : TT, u.1 ≠ g → (w.setCell ⟨g, k, none⟩ x).heap[u.1]? = w.heap[u.1]? := fun u hu => Below.heap_setCell _ _ _ _ hu
  refine ⟨?_, h.len, h.k, fun u hu => (h.rows u hu).keep (by simp [World.setCell]) (hk u (h.ng u (by simp [hu]))), h.row.keep (by simp [World.setCell]) (hk t (h.ng t (by simp))), h.nd, h.ng⟩
  have := (h.own.stored k x).1
  rwa [insL_set _ _ _ _ (by simpa using h.k)] at this
theorem Mid.shift {w : World} {B g cap n k : Nat} {T : List TT} {t : TT} (hk : k < T.length) (h : Mid w B g cap n T t (k + 1) (hdr T[k])) : Mid w B g cap n T t k (hdr T[k]) := by
  refine ⟨?_, h.len, by omega, h.rows, h.row, h.nd, h.ng⟩
  have h1 := h.own
  have e : hdr T[k] = (T.map hdr)[k]'(by simpa using hk) := by simp
  rw [e] at h1 ⊢
  rwa [insL_shift] at h1
theorem Mid.start {w : World} {B g cap : Nat} {T : List TT} {t : TT} {ls : List RT} {r : RT} (h : Bag w B g cap (T ++ [t]) (ls ++ [r])) : Mid w B g cap (ls.length + 1) T t T.length (hdr t) := by
  have hl := h.len
  simp only [List.length_append, List.length_singleton] at hl
  refine ⟨?_, by omega, Nat.le_refl _, fun u hu => h.rows u (by simp [hu]), h.rows t (by simp), h.nd, h.ng⟩
  have h1 := h.own
  rw [List.length_append, List.length_singleton, List.map_append] at h1
  have e : insL (T.map hdr) T.length (hdr t) = T.map hdr ++ [hdr t] := by
    have := insL_end (T.map hdr) (hdr t)
    rwa [List.length_map] at this
  rw [e]; exact h1
theorem Mid.done {w : World} {B g cap n k : Nat} {T : List TT} {t : TT} {ls : List RT} (hls : T.map (fun t => t.2.2) = ls) (hk : k = posI ls t.2.2 ls.length) (h : Mid w B g cap n T t k (hdr t)) : Bag w B g cap (insL T k t) (putI ls t.2.2) := by
  have hp := insL_perm T k t
  have hp2 : List.Perm (insL T k t) (T ++ [t]) := hp.trans (List.perm_append_singleton t T).symm
  have hll : ls.length = T.length := by rw [← hls, List.length_map]
  refine ⟨by rw [insL_map, hls, putI, ← hk], ?_, ?_, ?_, ?_⟩
  · rw [putI_len, insL_map, hll, ← h.len]; exact h.own
  · intro u hu
    rcases List.mem_cons.1 (hp.mem_iff.1 hu) with rfl | hu
    · exact h.row
    · exact h.rows u hu
  · exact (hp2.map _).nodup_iff.2 h.nd
  · exact fun u hu => h.ng u (hp2.mem_iff.1 hu)
def RetPut (B : Nat) (ls : List RT) (w : World) (e : Ending) (w' : World) : Prop := ∃ (g c : Nat) (T : List TT), e = .returned (.slice (some ⟨g, 0, none⟩) ls.length c) ∧ Bag w' B g c T ls ∧ Below B w w'
theorem rowPut (B g cap : Nat) (T : List TT) (ls : List RT) (g2 c2 : Nat) (r : RT) (w : World) (h : Bag w B g cap T ls) (ht : RowO w B (g2, c2, r)) (hn : ∀ u ∈ T, u.1 ≠ g2) (hg : g2 ≠ g) (hok : Ok2 ls) (hl : r.length ≤ 2000000) (hs : Short r) :
    Calls Try.prog 62 #[.slice (some ⟨g, 0, none⟩) ls.length cap, .slice (some ⟨g2, 0, none⟩) r.length c2] w (RetPut B (putI ls r) w) := by
  obtain ⟨i0, hi, iz0, iz1, iz2⟩ := info_parts infoVS
  have hll := hok.1
  have hBg := h.lo
  have HBAG := Lib.hid h
  have HROW := Lib.hid ht
  have HN := Lib.hid hn
  have HK := Lib.hid hok
  have HSH := Lib.hid hs
  have HTL := Lib.hid h.len
  have HEQ := Lib.hid h.eq
  clear h ht hn hok hs
  obtain ⟨rl, hrl⟩ : ∃ n, r.length = n := ⟨_, rfl⟩
  have HRL := Lib.hid hrl
  rw [hrl]
  rw [hrl] at hl
  clear hrl
  go_enter Try.func62, Try.ntmps62
  go_wp2_with (at_builtin; refine wpList_append_block _ rfl (.tmp 6) (.tmp 8) 40 rfl B 83 i0 (.slice none 0 0) 1 24 Try.underlying40 hi iz0 iz1 iz2 rfl (by decide) g ls.length cap (T.map hdr) rfl (HBAG.out.own.alloc _) _ 1 1 [.slice (some ⟨g2, 0, none⟩) rl c2] rfl rfl (news_new (by first | rfl | simp)) (by simp [Value.oneCell']) (by unfold maxLen; omega) (by omega) (by first | omega | (simp; done) | (simp; omega)) ?_; intro g3 c3 w3 hown hgr hgg; have HM0 := Lib.hid (Mid.start (Bag.push (t := (g2, c2, r)) (HBAG.out.alloc _) (HROW.out.alloc _) HN.out hg rfl (by have h := hown; rw [← HRL.out] at h; exact h) hgr hgg)); have HB0 := Lib.hid (Below.grown ((Below.refl B w).alloc (by omega) _) hgr (by simp; omega) (fun k hk => by obtain rfl := Option.some.inj hk; exact hBg.1)); clear hown hgr hgg)
  go_loopw [5] (fun ax wr => ∃ (k : Nat) (y : Value), k ≤ ls.length ∧ ax = .int .i64 k ∧ Hid (posI ls r ls.length = posI ls r k) ∧ Hid (Mid wr B g3 c3 (ls.length + 1) T (g2, c2, r) k y) ∧ Hid (Below B w wr)) (fun ax _ => (intOf ax).toNat)
  case atStart => exact ⟨ls.length, _, Nat.le_refl _, by go_num, rfl, by rw [← HTL.out]; rw [HTL.out] at *; exact HM0, HB0⟩
  case round =>
    clear HM0 HB0
    obtain ⟨k, y, hk, rfl, HP, HM, HB⟩ := hrel
    have HGZ := HM.out.lo
    have hHB := HB.out.size
    rcases k with _ | k
    · obtain ⟨v0, hv0⟩ := HM.out.there
      have hf0 := HM.out.own.frozenAt 0
      have l0 : (0 : Int) < (ls.length : Int) + 1 := by omega
      go_wp2
      go_ret
      refine ⟨g3, c3, _, ?_, Mid.done (t := (g2, c2, r)) (k := 0) HEQ.out ?_ (by have h := HM.out.set (hdr (g2, c2, r)); have e : hdr (g2, c2, r) = .slice (some ⟨g2, 0, none⟩) rl c2 := (by rw [hdr, HRL.out]); rw [← e]; exact h), HB.out.setCell (by simp only; omega) _⟩
      · rw [putI_len]; rfl
      · rw [HP.out]; rfl
    · have hkl : k < ls.length := by omega
      have hkT : k < T.length := by have := HTL.out; omega
      have hc := HM.out.cell k (by omega) hkT
      have hu := HM.out.rows T[k] (List.getElem_mem _)
      have hK : T[k].2.2 = ls[k] := by have h := HEQ.out; subst h; simp
      have HD := Lib.hid (fun W => Mid.shift (w := W) (B := B) (g := g3) (cap := c3) (n := ls.length + 1) (t := (g2, c2, r)) hkT)
      have HS := Lib.hid (posI_step (r := r) hkl)
      obtain ⟨hlr, hsr⟩ := HK.out.at k hkl
      obtain ⟨U, hU⟩ : ∃ U, T[k] = U := ⟨_, rfl⟩
      rw [hU] at hc hu hK HD
      obtain ⟨K, hK2⟩ : ∃ K, ls[k] = K := ⟨_, rfl⟩
      rw [hK2] at hK HS hlr hsr
      obtain ⟨ug, uc, uK⟩ := U
      simp only at hK
      subst hK
      have HF := Lib.hid hu.fl
      have C := Lib.hid (fun W hA hB => rowOrderI (some ⟨ug, 0, none⟩) (some ⟨g2, 0, none⟩) ug 0 g2 0 uc c2 uK r W hA hB hlr (by rw [HRL.out]; exact hl) hsr HSH.out)
      rw [HRL.out] at C
      obtain ⟨kl, hkl2⟩ : ∃ n, uK.length = n := ⟨_, rfl⟩
      have hd : hdr (ug, uc, uK) = .slice (some ⟨ug, 0, none⟩) kl uc := by rw [hdr, hkl2]
      rw [hkl2] at C
      rw [hd] at hc HD
      obtain ⟨E, hE⟩ : ∃ E, rowI uK r = E := ⟨_, rfl⟩
      rw [hE] at C HS
      clear hU hK2 hu hkl2 hd hlr hsr hE
      have i0' : (0 : Int) < (k : Int) + 1 := by omega
      have i1' : (k : Int) + 1 - 1 = (k : Int) := by omega
      have i2' : (0 : Int) ≤ (k : Int) := by omega
      have i3' : (k : Int) < (ls.length : Int) + 1 := by omega
      have i4' : (k : Int) + 1 < (ls.length : Int) + 1 := by omega
      by_cases hq : 0 < E
      · have HPN : Hid (posI ls r ls.length = posI ls r k) := by show _ = _; rw [HP.out, HS.out, if_pos hq]
        clear HS
        go_wp2_with (go_at_call 96; (with_reducible refine (C.out _ HF.out HM.out.row.fl).mono ?_); rintro e w1 ⟨rfl, hb1⟩; have HM1 := Lib.hid (HM.out.below hb1); have HB1 := Lib.hid (HB.out.trans (hb1.mono (by omega))); have hc1 := (hb1.cell (p := ⟨g3, k, none⟩) HGZ.2).trans hc; obtain ⟨v0, hv0⟩ := HM1.out.there; have hf0 := HM1.out.own.frozenAt (k + 1); clear hb1)
        exact ⟨⟨k, _, by omega, by go_num, HPN, HD.out _ (HM1.out.set _), HB1.out.setCell (by simp only; omega) _⟩, by first | (simp [intOf]; done) | (simp [intOf]; omega)⟩
      · have HPN : Hid (k + 1 = posI ls r ls.length) := by show _ = _; rw [HP.out, HS.out, if_neg hq]
        clear HS
        go_wp2_with (go_at_call 96; (with_reducible refine (C.out _ HF.out HM.out.row.fl).mono ?_); rintro e w1 ⟨rfl, hb1⟩; have HM1 := Lib.hid (HM.out.below hb1); have HB1 := Lib.hid (HB.out.trans (hb1.mono (by omega))); obtain ⟨v0, hv0⟩ := HM1.out.there; have hf0 := HM1.out.own.frozenAt (k + 1); clear hb1)
        go_ret
        refine ⟨g3, c3, _, ?_, Mid.done (t := (g2, c2, r)) (k := k + 1) HEQ.out HPN.out (by have h := HM1.out.set (hdr (g2, c2, r)); have e : hdr (g2, c2, r) = .slice (some ⟨g2, 0, none⟩) rl c2 := (by rw [hdr, HRL.out]); rw [← e]; exact h), HB1.out.setCell (by simp only; omega) _⟩
        rw [putI_len]; rfl
theorem sort_ok {ls : List RT} (h : Ok2 ls) (k : Nat) (o : List RT) (ho : o = sortI (ls.take k)) : Ok2 o := by
  subst ho
  refine h.sub (by rw [sortI_len]; have := h.1; simp; omega) (fun r hr => List.mem_of_mem_take ((sortI_perm _).mem_iff.1 hr))
theorem rowsSortedI (A : Option Addr) (g0 o0 cap : Nat) (ls : List RT) (w : World) (hA : Rws w g0 o0 A ls) (hok : Ok2 ls) :
    Calls Try.prog 32 #[.slice A ls.length cap] w (RetBag (sortI ls) w) := by
  have HA := Lib.hid hA
  have HK := Lib.hid hok
  have hl := hok.1
  clear hA hok
  have BAG0 := Lib.hid (Bag.empty w)
  have HB0 := Lib.hid ((Below.refl w.heap.size w).alloc (Nat.le_refl _) (.cells #[] 83))
  go_enter Try.func32, Try.ntmps32
  go_wp2
  go_loopw [3, 4] (fun ox ix wr => ∃ (k g c : Nat) (T : List TT) (o : List RT), k ≤ ls.length ∧ ix = .int .i64 k ∧ ox = .slice (some ⟨g, 0, none⟩) o.length c ∧ Hid (o = sortI (ls.take k)) ∧ Hid (Bag wr w.heap.size g c T o) ∧ Hid (Below w.heap.size w wr)) (fun _ ix _ => ls.length - (intOf ix).toNat)
  case atStart => exact ⟨0, w.heap.size, 0, [], [], Nat.zero_le _, rfl, rfl, rfl, BAG0, HB0⟩
  case round =>
    clear BAG0 HB0
    obtain ⟨k, g, c, T, o, hk, rfl, rfl, HO, BAG, HB⟩ := hrel
    have hwz := HB.out.size
    by_cases hlt : k < ls.length
    · obtain ⟨rfl, hg, c', g', o', hc, hf⟩ := (HA.out.below HB.out).at k hlt
      have HF := Lib.hid hf
      obtain ⟨hlr, hsr⟩ := HK.out.at k hlt
      have HS := Lib.hid (sortI_snoc ls k hlt)
      have OK := Lib.hid (sort_ok HK.out k o HO.out)
      have HLO := BAG.out.lo
      obtain ⟨K, hK⟩ : ∃ K, ls[k] = K := ⟨_, rfl⟩
      rw [hK] at hc HF HS hlr hsr
      clear hK hf
      have CC := Lib.hid (fun W hW => rowCopy g' o' c' K W hW hlr)
      have CP := Lib.hid (fun (W : World) (T2 : List TT) (g3 c3 : Nat) hW h2 h3 h4 => rowPut w.heap.size g c T2 o g3 c3 K W hW h2 h3 h4 OK.out hlr hsr)
      unfold RetPut at CP
      have HSO : Hid (putI o K = sortI (ls.take (k + 1))) := by show _ = _; rw [HS.out, HO.out]
      obtain ⟨Z, hZ⟩ : ∃ Z, putI o K = Z := ⟨_, rfl⟩
      rw [hZ] at CP HSO
      obtain ⟨kl, hkl⟩ : ∃ n, K.length = n := ⟨_, rfl⟩
      rw [hkl] at hc CC CP
      obtain ⟨ol, hol⟩ : ∃ n, o.length = n := ⟨_, rfl⟩
      rw [hol] at CP
      have i0' : (0 : Int) ≤ (k : Int) := by omega
      have i1' : (k : Int) < (ls.length : Int) := by omega
      rw [hol]
      clear hkl hol hZ HS HO hlr hsr
      go_wp2_with (first
        | (go_at_call 61; (with_reducible refine (CC.out _ HF.out).mono ?_); rintro e w1 ⟨g2, c2, rfl, hr2, hb2⟩; have HR2 := Lib.hid hr2; have BAG1 := Lib.hid (BAG.out.below hb2); have HB1 := Lib.hid (HB.out.trans (hb2.mono hwz)); have hwz1 := HB1.out.size; have HX := Lib.hid (fun u (hu : u ∈ T) => (BAG.out.rows u hu).hi); have hlo2 := hr2.lo; clear hb2 hr2 BAG HB)
        | (go_at_call 62; (with_reducible refine (CP.out _ T g2 c2 BAG1.out (HR2.out.lower (by omega)) (fun u hu => by have := HX.out u hu; omega) (by omega)).mono ?_); rintro e w2 ⟨g3, c3, T3, rfl, hbag, hb3⟩; have BAG2 := Lib.hid hbag; have HB2 := Lib.hid (HB1.out.trans hb3); clear hbag hb3 BAG1 HB1))
      exact ⟨⟨k + 1, g3, c3, T3, Z, by omega, by go_num, rfl, HSO, BAG2, HB2⟩, by simp [intOf]; omega⟩
    · obtain rfl : k = ls.length := by omega
      have HO2 : Hid (o = sortI ls) := by show _ = _; have := HO.out; rwa [List.take_length] at this
      obtain rfl := HO2.out
      go_wp2
      go_ret
      exact ⟨g, c, T, rfl, BAG.out, HB.out⟩
end Go.Proofs.Ytacinjbaebimhaa.Val
namespace Go.Proofs.Ytacinjbaebimhaa.Val
open Go.RowKit
set_option linter.unusedSimpArgs false
set_option linter.unusedVariables false
set_option maxRecDepth 20000
theorem step_block {P : Program} {w : World} {ops : Array Oper} {o : Oper} {a : Act} {K : Act → World → Prop} {Q : Exit → Act → World → Prop} {E : Prop} (hgd : o.guard = none) (s x : Operand) (t : TypeId)
    (ho : o.op = .call { callee := .builtin .append, args := #[s, x], argTypes := #[t, t] })
    (base : Nat) (e : TypeId) (i : TypeInfo) (z : Value) (size bytes : Nat) (ht : P.underlying t = some (.slice e)) (hi : P.info? e = some i) (hz : i.zero = some z)
    (hsize : i.size = size) (hby : i.bytes = bytes) (hzs : z.cells.size = size) (hsz : 0 < size)
    (g n cap : Nat) (xs : List Value) (hs : a.eval s = .slice (some ⟨g, 0, none⟩) n cap) (hown : w.ownsRow base e size (.slice (some ⟨g, 0, none⟩) n cap) n xs)
    (ad : Addr) (m c : Nat) (news : List Value) (hx : a.eval x = .slice (some ad) m c) (hl : news.length = m * size) (hnews : ∀ j u, news[j]? = some u → w.cell? (ad.add j) = some u) (h1 : ∀ u ∈ news, u.oneCell' = true)
    (h63 : n + m ≤ maxLen) (hbytes : (n + m) * bytes ≤ 140737488355328) (hbase : base ≤ w.heap.size)
    (h : ∀ g' cap' w', w'.ownsRow base e size (.slice (some ⟨g', 0, none⟩) (n + m) cap') (n + m) (xs ++ news) → w.grownBy w' (some g) → (g' = g ∨ w.heap.size ≤ g') → K (a.put o.dst (.slice (some ⟨g', 0, none⟩) (n + m) cap')) w') :
    if Region.wanted o (yielded ops a.tmps) = true then Oper.wp P o a w K Q else E := by
  have hw : Region.wanted o (yielded ops a.tmps) = true := by simp [Region.wanted, hgd]
  rw [if_pos hw]
  obtain ⟨g', cap', w', hr, h2, h3, h4⟩ := run_append_block (P := P) w base t o.type e i z size bytes ht hi hz hsize hby hzs hsz g n cap xs hown ad m c news hl hnews h1 h63 hbytes hbase
  unfold Oper.wp execOp
  simp only [ho, resolve, invoke, builtin, Sem.run_bind, Sem.run_pure, Result.andThen_ok, List.map_toArray, List.map_cons, List.map_nil, hs, hx, hr]
  exact h g' cap' w' h2 h3 h4
end Go.Proofs.Ytacinjbaebimhaa.Val
namespace Go.Proofs.Ytacinjbaebimhaa.Val
open Go.RowKit
set_option linter.unusedSimpArgs false
set_option linter.unusedVariables false
set_option maxRecDepth 8000
structure RowF (w : World) (B : Nat) (t : TT) : Prop where
  fl : Fl w t.1 0 (some ⟨t.1, 0, none⟩) (flatV t.2.2)
  lo : B ≤ t.1
  hi : t.1 < w.heap.size
theorem RowF.keep {w w' : World} {B : Nat} {t : TT} (h : RowF w B t) (hz : w.heap.size ≤ w'.heap.size) (hk : w'.heap[t.1]? = w.heap[t.1]?) : RowF w' B t :=
  ⟨h.fl.keep fun _ j => cellOf hk, h.lo, Nat.lt_of_lt_of_le h.hi hz⟩
theorem RowF.alloc {w : World} {B : Nat} {t : TT} (h : RowF w B t) (ob : Obj) : RowF (w.alloc ob) B t := h.keep (by simp) (Below.heap_alloc _ _ _ h.hi)
/-- Rows that were drawn: in blocks from B on. -/
structure BagW (w : World) (B g cap : Nat) (T : List TT) (ls : List RT) : Prop where
  eq : T.map (fun t => t.2.2) = ls
  own : w.ownsRow B 83 1 (.slice (some ⟨g, 0, none⟩) ls.length cap) ls.length (T.map hdr)
  rows : ∀ t ∈ T, RowF w B t
  ng : ∀ t ∈ T, t.1 ≠ g
theorem BagW.len {w : World} {B g cap : Nat} {T : List TT} {ls : List RT} (h : BagW w B g cap T ls) : T.length = ls.length := by rw [← h.eq, List.length_map]
theorem BagW.lo {w : World} {B g cap : Nat} {T : List TT} {ls : List RT} (h : BagW w B g cap T ls) : B ≤ g ∧ g < w.heap.size := h.own.lt g rfl
theorem BagW.keep {w w' : World} {B g cap : Nat} {T : List TT} {ls : List RT} (h : BagW w B g cap T ls) (hz : w.heap.size ≤ w'.heap.size) (hg : w'.heap[g]? = w.heap[g]?) (hk : ∀ t ∈ T, w'.heap[t.1]? = w.heap[t.1]?) : BagW w' B g cap T ls :=
  ⟨h.eq, own_keep h.own hg, fun t ht => (h.rows t ht).keep hz (hk t ht), h.ng⟩
theorem BagW.alloc {w : World} {B g cap : Nat} {T : List TT} {ls : List RT} (h : BagW w B g cap T ls) (ob : Obj) : BagW (w.alloc ob) B g cap T ls :=
  h.keep (by simp) (Below.heap_alloc _ _ _ h.lo.2) fun t ht => Below.heap_alloc _ _ _ (h.rows t ht).hi
theorem BagW.drew {w : World} {B g cap : Nat} {T : List TT} {ls : List RT} (h : BagW w B g cap T ls) : BagW w.drew B g cap T ls := h.keep (Nat.le_refl _) rfl fun t ht => rfl
theorem BagW.below {w w' : World} {B g cap : Nat} {T : List TT} {ls : List RT} (h : BagW w B g cap T ls) (hb : Below w.heap.size w w') : BagW w' B g cap T ls :=
  h.keep hb.size (hb.block _ h.lo.2) fun t ht => hb.block _ (h.rows t ht).hi
theorem BagW.only {w w' : World} {B g cap r : Nat} {T : List TT} {ls : List RT} (h : BagW w B g cap T ls) (hr : r < B) (ho : Only r w w') : BagW w' B g cap T ls :=
  h.keep ho.size (ho.block _ h.lo.2 (by have := h.lo.1; omega)) fun t ht => ho.block _ (h.rows t ht).hi (by have := (h.rows t ht).lo; omega)
theorem BagW.rws {w : World} {B g cap : Nat} {T : List TT} {ls : List RT} (h : BagW w B g cap T ls) : Rws w g 0 (some ⟨g, 0, none⟩) ls := by
  have hl := h.len
  refine ⟨fun _ => rfl, fun j hj => ?_⟩
  have hj2 : j < T.length := by omega
  have hr := h.rows T[j] (List.getElem_mem _)
  have he : ls[j] = T[j].2.2 := by
    have := h.eq
    subst this
    simp
  refine ⟨T[j].2.1, T[j].1, 0, ?_, ?_⟩
  · rw [Nat.zero_add, h.own.cellAt j (by omega), List.getElem?_map, List.getElem?_eq_getElem hj2, he]; rfl
  · rw [he]; exact hr.fl
theorem BagW.push {w w' : World} {B g cap g' cap' n : Nat} {T : List TT} {ls : List RT} {t : TT} (h : BagW w B g cap T ls) (ht : RowF w B t) (hg : t.1 ≠ g) (hnl : n = ls.length + 1)
    (hown : w'.ownsRow B 83 1 (.slice (some ⟨g', 0, none⟩) n cap') n (T.map hdr ++ [hdr t])) (hgr : w.grownBy w' (some g)) (hgg : g' = g ∨ w.heap.size ≤ g') : BagW w' B g' cap' (T ++ [t]) (ls ++ [t.2.2]) := by
  subst hnl
  have hk : ∀ u, RowF w B u → u.1 ≠ g → RowF w' B u := fun u hu hne => hu.keep hgr.size (hgr.block _ hu.hi (fun e => hne (Option.some.inj e)))
  refine ⟨by rw [List.map_append, h.eq]; rfl, ?_, ?_, ?_⟩
  · rw [List.length_append, List.map_append]; exact hown
  · intro u hu
    rcases List.mem_append.1 hu with hu | hu
    · exact hk u (h.rows u hu) (h.ng u hu)
    · obtain rfl := List.mem_singleton.1 hu
      exact hk _ ht hg
  · intro u hu e
    have hlt : u.1 < w.heap.size ∧ u.1 ≠ g := by
      rcases List.mem_append.1 hu with hu | hu
      · exact ⟨(h.rows u hu).hi, h.ng u hu⟩
      · obtain rfl := List.mem_singleton.1 hu
        exact ⟨ht.hi, hg⟩
    rcases hgg with hgg | hgg
    · exact hlt.2 (e.trans hgg)
    · omega
theorem RowF.of {w : World} {B g c : Nat} {vs : List VT} (h : Fl w g 0 (some ⟨g, 0, none⟩) (flatV vs)) (h0 : 0 < vs.length) (hB : B ≤ g) : RowF w B (g, c, vs) := by
  have hl := flatV_len vs
  exact ⟨h, hB, h.lt (by omega)⟩
theorem RowO.rowF {w : World} {B : Nat} {t : TT} (h : RowO w B t) : RowF w B t := ⟨h.fl, h.lo, h.hi⟩
theorem onlyBelow {g : Nat} {w w' : World} (hb : Below w.heap.size w w') : Only g w w' := ⟨hb.os, hb.tape, hb.output, hb.size, fun k hk _ => hb.block k hk⟩
theorem rdUnder {B r : Nat} {w w' : World} {p : Int} (h : RdOk B r w p) (hb : Below w.heap.size w w') : RdOk B r w' p :=
  h.keep hb.size fun k hk => hb.block k (by have := h.ge; have := h.lt; omega)
/-- Rows of few values, of short texts. -/
def Small (ls : List RT) : Prop := ls.length ≤ 6 ∧ ∀ x ∈ ls, x.length ≤ 110 ∧ Texts x
theorem Small.ok {ls : List RT} (h : Small ls) : Ok2 ls := ⟨by have := h.1; omega, fun r hr => ⟨by have := (h.2 r hr).1; omega, (h.2 r hr).2.short⟩⟩
theorem Small.app {ls : List RT} {x : RT} (h : ∀ x ∈ ls, x.length ≤ 110 ∧ Texts x) (hx : x.length ≤ 110 ∧ Texts x) : ∀ y ∈ ls ++ [x], y.length ≤ 110 ∧ Texts y := fun y hy => by
  rcases List.mem_append.1 hy with hy | hy
  · exact h y hy
  · obtain rfl := List.mem_singleton.1 hy; exact hx
/-- Two lists of rows were drawn. -/
def SeesR (w : World) (g c : Nat) (ls : List RT) : Prop := Rws w g 0 (some ⟨g, 0, none⟩) ls ∧ Small ls ∧ ls.length ≤ c ∧ c ≤ maxLen
theorem SeesR.below {w w' : World} {g c : Nat} {ls : List RT} (h : SeesR w g c ls) (hb : Below w.heap.size w w') : SeesR w' g c ls := ⟨h.1.below hb, h.2⟩
theorem SeesR.alloc {w : World} {g c : Nat} {ls : List RT} (h : SeesR w g c ls) (ob : Obj) : SeesR (w.alloc ob) g c ls := ⟨h.1.alloc ob, h.2⟩
theorem SeesR.drew {w : World} {g c : Nat} {ls : List RT} (h : SeesR w g c ls) : SeesR w.drew g c ls := ⟨h.1.drew, h.2⟩
theorem BagW.caps {w : World} {B g cap : Nat} {T : List TT} {ls : List RT} (h : BagW w B g cap T ls) : ls.length ≤ cap ∧ cap ≤ maxLen := own_caps h.own
end Go.Proofs.Ytacinjbaebimhaa.Val
