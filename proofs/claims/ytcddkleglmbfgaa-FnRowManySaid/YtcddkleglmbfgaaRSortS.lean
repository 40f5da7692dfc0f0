/- spec.RowsSorted. -/
import Derived.Test.YtcddkleglmbfgaaRPut
import Derived.BigQuiet
namespace Go.Proofs.Ytcddkleglmbfgaa.Val
open Go.RowKit
set_option linter.unusedVariables false
set_option maxRecDepth 20000
theorem l3OwnEnters (vs : Array Value) (w : World) : (callFunc 79 vs).run Try.prog w = .ok (.enter 79 vs) w := by
  go_simp
theorem step_callW {P : Program} {w : World} {ops : Array Oper} {o : Oper} {a : Act} {K : Act → World → Prop} {Q : Exit → Act → World → Prop} {E : Prop} (hw : Region.wanted o (yielded ops a.tmps) = true) (f : Nat) (args : Array Operand) (tys : Array TypeId)
    (ho : o.op = .call { callee := .value (.func f), args := args, argTypes := tys }) (hcf : ∀ (vs : Array Value) (w : World), (callFunc f vs).run P w = .ok (.enter f vs) w) (vals : Array Value) (hv : (args.toList.map a.eval).toArray = vals) {R : Ending → World → Prop} (hc : Calls P f vals w R) (h : ∀ e w', R e w' → ∃ v, e = .returned v ∧ K (a.put o.dst v) w') :
    if Region.wanted o (yielded ops a.tmps) = true then Oper.wp P o a w K Q else E := by
  have hrun : (execOp a.eval o).run P w = .ok (.enter f vals) w := by
    have hv2 : args.map a.eval = vals := by rw [← hv, ← Array.toList_map, Array.toArray_toList]
    subst hv2
    simp [execOp, ho, resolve, invoke, go_sem, hcf]
  rw [if_pos hw]
  unfold Oper.wp
  rw [hrun]
  refine hc.mono ?_
  intro e w' hR
  obtain ⟨v, rfl, hK⟩ := h e w' hR
  exact hK
theorem rowOrderSEnters (vs : Array Value) (w : World) : (callFunc 78 vs).run Try.prog w = .ok (.enter 78 vs) w := by
  go_simp
theorem step_block {P : Program} {w : World} {ops : Array Oper} {o : Oper} {a : Act} {K : Act → World → Prop} {Q : Exit → Act → World → Prop} {E : Prop} (hgd : o.guard = none) (s x : Operand) (t : TypeId)
    (ho : o.op = .call { callee := .builtin .append, args := #[s, x], argTypes := #[t, t] })
    (base : Nat) (e : TypeId) (i : TypeInfo) (z : Value) (size bytes : Nat) (ht : P.underlying t = some (.slice e)) (hi : P.info? e = some i) (hz : i.zero = some z)
    (hsize : i.size = size) (hby : i.bytes = bytes) (hzs : z.cells.size = size) (hsz : 0 < size)
    (g n cap : Nat) (xs : List Value) (hs : a.eval s = .slice (some ⟨g, 0, none⟩) n cap) (hown : w.ownsRow base e size (.slice (some ⟨g, 0, none⟩) n cap) n xs)
    (ad : Addr) (m c : Nat) (news : List Value) (hx : a.eval x = .slice (some ad) m c) (hl : news.length = m * size) (hnews : ∀ j u, news[j]? = some u → w.cell? (ad.add j) = some u) (h1 : ∀ u ∈ news, u.oneCell' = true)
    (h63 : n + m ≤ maxLen) (hbytes : (n + m) * bytes ≤ 140737488355328) (hbase : base ≤ w.heap.size)
    (h : ∀ g' cap' w', w'.ownsRow base e size (.slice (some ⟨g', 0, none⟩) (n + m) cap') (n + m) (xs ++ news) → w.grownBy w' (some g) → (g' = g ∨ w.heap.size ≤ g') → K (a.put o.dst (.slice (some ⟨g', 0, none⟩) (n + m) cap')) w') :
    if Region.wanted o (yielded ops a.tmps) = true then Oper.wp P o a w K Q else E := by
  have hw : Region.wanted o (yielded ops a.tmps) = true := by simp [Region.wanted, hgd]
  rw [if_pos hw]
  obtain ⟨g', cap', w', hr, h2, h3, h4⟩ := run_append_block (P := P) w base t o.type e i z size bytes ht hi hz hsize hby hzs hsz g n cap xs hown ad m c news hl hnews h1 h63 hbytes hbase
  unfold Oper.wp execOp
  simp only [ho, resolve, invoke, builtin, Sem.run_bind, Sem.run_pure, Result.andThen_ok, List.map_toArray, List.map_cons, List.map_nil, hs, hx, hr]
  exact h g' cap' w' h2 h3 h4
theorem hdr_one (T : List TT) : ∀ u ∈ T.map hdr, u.oneCell' = true := by
  intro u hu
  obtain ⟨t, -, rfl⟩ := List.mem_map.1 hu
  rfl
theorem news_take {W : World} {B g cap n : Nat} {e : TypeId} {D : List Value} (h : W.ownsRow B e 1 (.slice (some ⟨g, 0, none⟩) n cap) n D) (p : Nat) : ∀ j u, (D.take p)[j]? = some u → W.cell? ((⟨g, 0, none⟩ : Addr).add j) = some u := by
  intro j u hj
  refine h.cells (g := g) rfl j u ?_
  rw [List.getElem?_take] at hj
  split at hj
  · exact hj
  · simp at hj
theorem news_drop {W : World} {B g cap n : Nat} {e : TypeId} {D : List Value} (h : W.ownsRow B e 1 (.slice (some ⟨g, 0, none⟩) n cap) n D) (p : Nat) : ∀ j u, (D.drop p)[j]? = some u → W.cell? ((⟨g, p, none⟩ : Addr).add j) = some u := by
  intro j u hj
  rw [List.getElem?_drop] at hj
  have := h.cells (g := g) rfl (p + j) u hj
  rw [addNone] at this ⊢
  rwa [Nat.zero_add] at this
theorem rows_grown {w w' : World} {B g : Nat} {T : List TT} (h : ∀ u ∈ T, RowO w B u) (hgr : w.grownBy w' (some g)) (hn : ∀ u ∈ T, u.1 ≠ g) : ∀ u ∈ T, RowO w' B u :=
  fun u hu => (h u hu).keep hgr.size (hgr.block _ (h u hu).hi (fun e => hn u hu (Option.some.inj e)))
theorem row_grown {w w' : World} {B g : Nat} {u : TT} (h : RowO w B u) (hgr : w.grownBy w' (some g)) (hn : u.1 ≠ g) : RowO w' B u :=
  h.keep hgr.size (hgr.block _ h.hi (fun e => hn (Option.some.inj e)))
theorem own_grownB {w w' : World} {row B size n g cap : Nat} {e : TypeId} {xs : List Value} (h : w.ownsRow B e size (.slice (some ⟨g, 0, none⟩) n cap) n xs) (hg : w.grownBy w' (some row)) (hne : g ≠ row) : w'.ownsRow B e size (.slice (some ⟨g, 0, none⟩) n cap) n xs :=
  own_keep h (hg.block _ (h.lt g rfl).2 (fun e => hne (Option.some.inj e)))
theorem sort_end {w0 w' : World} {B g c g3 c3 n p : Nat} {T : List TT} {o : List RT} {t : TT} (hbag : Bag w0 B g c T o) (hr : ∀ u ∈ T, RowO w' B u) (ht : RowO w' B t) (hT : ∀ u ∈ T, u.1 ≠ t.1) (hg : ∀ u ∈ T, u.1 ≠ g3) (hgt : t.1 ≠ g3)
    (hown : w'.ownsRow B 30 1 (.slice (some ⟨g3, 0, none⟩) n c3) n ((T.map hdr).take p ++ hdr t :: (T.map hdr).drop p)) (hn : n = o.length + 1) (hp : p = posI o t.2.2 o.length) : Bag w' B g3 c3 (insL T p t) (putI o t.2.2) := by
  have hm : ∀ u, u ∈ insL T p t ↔ u = t ∨ u ∈ T := fun u => by rw [(insL_perm T p t).mem_iff, List.mem_cons]
  refine ⟨by rw [insL_map, hbag.eq, putI, ← hp], ?_, ?_, ?_, ?_⟩
  · rw [putI_len, ← hn, insL_map]; exact hown
  · intro u hu
    rcases (hm u).1 hu with rfl | hu
    · exact ht
    · exact hr u hu
  · refine ((insL_perm T p t).map _).nodup_iff.2 ?_
    rw [List.map_cons, List.nodup_cons]
    refine ⟨fun h => ?_, hbag.nd⟩
    obtain ⟨u, hu, e⟩ := List.mem_map.1 h
    exact hT u hu e
  · intro u hu
    rcases (hm u).1 hu with rfl | hu
    · exact hgt
    · exact hg u hu
set_option maxHeartbeats 8000000 in
theorem rowsSortedS (A : Option Addr) (g0 o0 cap : Nat) (ls : List RT) (w : World) (hA : Rws w g0 o0 A ls) (hok : Ok2 ls) :
    Calls Try.prog 34 #[.slice A ls.length cap] w (RetBag (sortI ls) w) := by
  obtain ⟨i0, hi, iz0, iz1, iz2⟩ := info_parts infoVS
  have HA := Lib.hid hA
  have HK := Lib.hid hok
  have hl := hok.1
  clear hA hok
  have BAG0 := Lib.hid (Bag.empty w)
  have HB0 := Lib.hid ((Below.refl w.heap.size w).alloc (Nat.le_refl _) (.cells #[] 30))
  go_enter Try.func34, Try.ntmps34
  go_wp2
  go_loopw [3, 4] (fun ox ix wr => ∃ (k g c : Nat) (T : List TT) (o : List RT), k ≤ ls.length ∧ ix = .int .i64 k ∧ ox = .slice (some ⟨g, 0, none⟩) o.length c ∧ Hid (o = sortI (ls.take k)) ∧ Hid (Bag wr w.heap.size g c T o) ∧ Hid (Below w.heap.size w wr)) (fun _ ix _ => ls.length - (intOf ix).toNat)
  case atStart => exact ⟨0, w.heap.size, 0, [], [], Nat.zero_le _, rfl, rfl, rfl, BAG0, HB0⟩
  case round =>
    clear BAG0 HB0
    obtain ⟨k, g, c, T, o, hk, rfl, rfl, HO, BAG, HB⟩ := hrel
    by_cases hlt : k < ls.length
    · obtain ⟨rfl, -, c', g', o', -, -⟩ := (HA.out.below HB.out).at k hlt
      obtain ⟨hlr, hsr⟩ := HK.out.at k hlt
      have HS := Lib.hid (sortI_snoc ls k hlt)
      have OK := Lib.hid (sort_ok HK.out k o HO.out)
      have hol2 : o.length ≤ 2000000 := OK.out.1
      have hoc := BAG.out.caps.1
      have HTL := Lib.hid BAG.out.len
      have HEQ := Lib.hid BAG.out.eq
      have HAT := Lib.hid (fun (W : World) (hW : Below w.heap.size w W) => (HA.out.below hW).at k hlt)
      obtain ⟨K, hK⟩ : ∃ K, ls[k] = K := ⟨_, rfl⟩
      rw [hK] at HS HAT hlr hsr
      clear hK
      have HSO : Hid (putI o K = sortI (ls.take (k + 1))) := by show _ = _; rw [HS.out, HO.out]
      have i0' : (0 : Int) ≤ (k : Int) := by omega
      have i1' : (k : Int) < (ls.length : Int) := by omega
      clear HS
      go_wp2
      go_loopw [5] (fun ax wr => ∃ (p : Nat), p ≤ o.length ∧ ax = .int .i64 p ∧ Hid (posI o K o.length = posI o K p) ∧ Hid (Bag wr w.heap.size g c T o) ∧ Hid (Below w.heap.size w wr)) (fun ax _ => (intOf ax).toNat)
      case atStart => exact ⟨o.length, Nat.le_refl _, rfl, rfl, BAG, HB⟩
      case round =>
        clear BAG HB
        obtain ⟨p, hp, rfl, HP, BAG, HB⟩ := hrel
        have hwz := HB.out.size
        obtain ⟨-, hg, c', g', o', hc, hf⟩ := HAT.out _ HB.out
        have HF := Lib.hid hf
        clear hf
        obtain ⟨kl, hkl⟩ : ∃ n, K.length = n := ⟨_, rfl⟩
        rw [hkl] at hc
        have HKL := Lib.hid hkl
        clear hkl
        rcases p with _ | p
        · have HPE : Hid (0 = posI o K o.length) := by show _ = _; rw [HP.out]; rfl
          go_wp2
          go_region
          all_goals have BAG1 := Lib.hid BAG.out.drew
          all_goals have HB1 := Lib.hid HB.out.drew
          obtain ⟨w1, hw1⟩ : ∃ x, x = wr.drew := ⟨_, rfl⟩
          rw [← hw1] at BAG1 HB1 ⊢
          clear hw1 BAG HB
          obtain ⟨-, hgX, cX, gX, oX, hcX, hfX⟩ := HAT.out _ HB1.out
          rw [HKL.out] at hcX
          have HFX := Lib.hid hfX
          have CC := Lib.hid (fun W hW => l3Own gX oX cX K W hW hlr)
          rw [HKL.out] at CC
          obtain ⟨P, hP⟩ : ∃ P, P = 0 := ⟨_, rfl⟩
          have hPo : P ≤ o.length := by omega
          have hPc : (P : Int) ≤ (c : Int) := by omega
          have hPP : ((P : Nat) : Int) = ((0 : Nat) : Int) := by omega
          have hP0 : (0 : Int) ≤ (P : Int) := by omega
          rw [← hP] at HPE
          rw [← hPP]
          clear hP hPP hfX
          have hws1 := HB1.out.size
          have hlo1 := BAG1.out.lo
          go_wp2_with (at_builtin; go_loud (refine wpList_append_block _ rfl (.tmp 33) (.tmp 36) 39 rfl w.heap.size 30 i0 (.slice none 0 0) 1 24 Try.underlying39 hi iz0 iz1 iz2 rfl (by decide) w1.heap.size 0 0 [] rfl (own_empty3 30 1 rfl (by omega)) ⟨g, 0, none⟩ P c ((T.map hdr).take P) rfl (by have := HTL.out; simp; omega) (news_take (BAG1.out.alloc _).own P) (fun u hu => hdr_one T u (List.mem_of_mem_take hu)) (by unfold maxLen; omega) (by omega) (by first | omega | (simp; done) | (simp; omega)) ?_); intro g4 c4 w4 hown hgr hgg; (try simp only [Nat.zero_add, List.nil_append] at hown); have OWN4 := Lib.hid hown; have RW4 := Lib.hid (rows_grown (fun u hu => (BAG1.out.rows u hu).alloc _) hgr (fun u hu => by have := (BAG1.out.rows u hu).hi; omega)); have hg4 : w1.heap.size ≤ g4 := (by rcases hgg with h | h <;> ((try simp at h); omega)); have hg4l := (hown.lt g4 rfl).2; have HBB := Lib.hid (Below.grown ((Below.refl w1.heap.size w1).alloc (Nat.le_refl _) _) hgr (by simp) (fun k hk => by obtain rfl := Option.some.inj hk; exact Nat.le_refl _)); have hc4 := (HBB.out.cell (p := ⟨g0, o0 + k, none⟩) hgX).trans hcX; have HF4 := Lib.hid (HFX.out.below HBB.out); have OG4 := Lib.hid (own_keep BAG1.out.own (HBB.out.block _ hlo1.2)); have HB4 := Lib.hid (HB1.out.trans (HBB.out.mono hws1)); have hws4 := HB4.out.size; have hbb4 := HBB.out.size; clear hown hgr hgg)
          by_cases hcp : c = P
          · have hcp2 : P = c := hcp.symm
            subst hcp2
            have hPn : o.length = P := by omega
            refine wp_region_any (by kernel_rfl) ?_
            try go_simp
            refine wpAny_take (i := 0) (v := ?_) rfl (by kernel_rfl) (by kernel_rfl) (by kernel_rfl) (fun _ _ _ h => h) (Or.inl ⟨by rfl, ?_⟩) ?_
            rotate_left 1
            · (intro w; go_simp)
              all_goals with_reducible rfl
            try go_simp
            refine wpAny_take (i := 1) (v := ?_) rfl (by kernel_rfl) (by kernel_rfl) (by kernel_rfl) (fun _ _ _ h => h) (Or.inl ⟨by rfl, ?_⟩) ?_
            rotate_left 1
            · (intro w; go_simp)
              all_goals with_reducible rfl
            try go_simp
            refine wpAny_take (i := 2) (v := ?_) rfl (by kernel_rfl) (by kernel_rfl) (by kernel_rfl) (fun _ _ _ h => h) (Or.inl ⟨by rfl, ?_⟩) ?_
            rotate_left 1
            · (intro w; go_simp)
              all_goals with_reducible rfl
            try go_simp
            refine wpAny_take (i := 8) (v := ?_) rfl (by kernel_rfl) (by kernel_rfl) (by kernel_rfl) (fun _ _ _ h => h) (Or.inl ⟨by rfl, ?_⟩) ?_
            rotate_left 1
            · (intro w; go_simp)
              all_goals with_reducible rfl
            try go_simp
            refine wpAny_take (i := 9) (v := ?_) rfl (by kernel_rfl) (by kernel_rfl) (by kernel_rfl) (fun _ _ _ h => h) (Or.inl ⟨by rfl, ?_⟩) ?_
            rotate_left 1
            · (intro w; go_simp)
              all_goals with_reducible rfl
            try go_simp
            refine wpAny_take (i := 3) (v := ?_) rfl (by kernel_rfl) (by kernel_rfl) (by kernel_rfl) (fun _ _ _ h => h) (Or.inl ⟨by rfl, ?_⟩) ?_
            rotate_left 1
            · (intro w; go_simp)
              all_goals with_reducible rfl
            try go_simp
            refine wpAny_take (i := 10) (v := ?_) rfl (by kernel_rfl) (by kernel_rfl) (by kernel_rfl) (fun _ _ _ h => h) (Or.inl ⟨by rfl, ?_⟩) ?_
            rotate_left 1
            · (intro w; go_simp)
              all_goals with_reducible rfl
            try go_simp
            refine wpAny_ready (rs := [4]) (by kernel_rfl) (by simp) ?_
            refine AllReady.cons rfl (fun K0 hK0 => ?_) AllReady.nil
            go_simp
            refine hK0 _ _ ?_
            clear hK0 K0
            refine wpAny_ready (rs := [5]) (by kernel_rfl) (by simp) ?_
            refine AllReady.cons rfl (fun K0 hK0 => ?_) AllReady.nil
            refine step_callW (by rfl) 79 _ _ rfl l3OwnEnters #[.slice (some ⟨gX, oX, none⟩) kl cX] rfl (CC.out _ HF4.out.drew) ?_
            rintro e w5 ⟨g5, c5, rfl, hr5, hb5⟩
            have OWN5 := Lib.hid (own_keep OWN4.out (hb5.block g4 hg4l))
            have RW5 := Lib.hid (fun u hu => (RW4.out u hu).drew.below hb5)
            have HR5 := Lib.hid (hr5.lower (B' := w.heap.size) hws4)
            have hlo5 := hr5.lo
            have hhi5 := hr5.hi
            have OG5 := Lib.hid (own_keep OG4.out (hb5.block g (OG4.out.lt g rfl).2))
            have HB5 := Lib.hid (HB4.out.drew.trans (hb5.mono hws4))
            have hws5 := HB5.out.size
            simp only at hlo5 hhi5
            have hlo6 : w4.heap.size ≤ g5 := hlo5
            clear hb5 hr5 OWN4 RW4 OG4 HB4 hlo5
            refine ⟨_, rfl, hK0 _ _ ?_⟩
            clear hK0 K0
            try go_simp
            refine wpAny_ready (rs := [6]) (by kernel_rfl) (by simp) ?_
            refine AllReady.cons rfl (fun K0 hK0 => ?_) AllReady.nil
            go_simp
            refine hK0 _ _ ?_
            clear hK0 K0
            refine wpAny_ready (rs := [7]) (by kernel_rfl) (by simp) ?_
            refine AllReady.cons rfl (fun K0 hK0 => ?_) AllReady.nil
            refine step_block rfl (.tmp 38) (.tmp 44) 39 rfl w.heap.size 30 i0 (.slice none 0 0) 1 24 Try.underlying39 hi iz0 iz1 iz2 rfl (by decide) g4 P c4 ((T.map hdr).take P) rfl (OWN5.out.alloc _) _ 1 1 [.slice (some ⟨g5, 0, none⟩) kl c5] rfl rfl (news_new (by first | rfl | simp)) (by simp [Value.oneCell']) (by unfold maxLen; omega) (by omega) (by first | omega | (simp; done) | (simp; omega)) ?_
            intro g6 c6 w6 hown hgr hgg
            have OWN6 := Lib.hid hown
            have RW6 := Lib.hid (rows_grown (fun u hu => (RW5.out u hu).alloc _) hgr (fun u hu => by have := (BAG1.out.rows u hu).hi; omega))
            have R6 := Lib.hid (row_grown (HR5.out.alloc _) hgr (by simp only; omega))
            have OG6 := Lib.hid (own_grownB (OG5.out.alloc _) hgr (by omega))
            have HB6 := Lib.hid (Below.grown (HB5.out.alloc hws5 _) hgr (by simp; omega) (fun k hk => by obtain rfl := Option.some.inj hk; omega))
            have hg6 : g6 = g4 ∨ w5.heap.size < g6 := (by rcases hgg with h | h <;> ((try simp at h); omega))
            have hg6l := (hown.lt g6 rfl).2
            have hz56 : w5.heap.size ≤ w6.heap.size := (by have := hgr.size; simp at this; omega)
            have hws6 := HB6.out.size
            clear hown hgr hgg OWN5 RW5 HR5 OG5 HB5
            refine hK0 _ _ ?_
            clear hK0 K0
            try go_simp
            refine wpAny_ready (rs := [11]) (by kernel_rfl) (by simp) ?_
            refine AllReady.cons rfl (fun K0 hK0 => ?_) AllReady.nil
            refine step_block rfl (.tmp 45) (.tmp 48) 39 rfl w.heap.size 30 i0 (.slice none 0 0) 1 24 Try.underlying39 hi iz0 iz1 iz2 rfl (by decide) g6 (P + 1) c6 ((T.map hdr).take P ++ [.slice (some ⟨g5, 0, none⟩) kl c5]) rfl OWN6.out _ _ _ ((T.map hdr).drop P) rfl (by have := HTL.out; simp; omega) (fun j u hj => absurd hj (by have := HTL.out; rw [List.drop_eq_nil_of_le (by simp; omega)]; simp)) (fun u hu => hdr_one T u (List.mem_of_mem_drop hu)) (by unfold maxLen; omega) (by omega) (by omega) ?_
            intro g7 c7 w7 hown hgr hgg
            have RW7 := Lib.hid (rows_grown RW6.out hgr (fun u hu => by have := (BAG1.out.rows u hu).hi; omega))
            have R7 := Lib.hid (row_grown R6.out hgr (by simp only; omega))
            have HB7 := Lib.hid (Below.grown HB6.out hgr hws6 (fun k hk => by obtain rfl := Option.some.inj hk; omega))
            have hg7 : g7 = g6 ∨ w6.heap.size ≤ g7 := hgg
            have BAG7 := Lib.hid (sort_end (g3 := g7) (c3 := c7) (t := (g5, c5, K)) BAG1.out RW7.out R7.out (fun u hu => by have := (BAG1.out.rows u hu).hi; simp only; omega) (fun u hu => by have := (BAG1.out.rows u hu).hi; omega) (by simp only; omega) (by have h := hown; rw [← HKL.out, List.append_assoc] at h; exact h) (by omega) HPE.out)
            clear hown hgr hgg RW6 R6 OG6 HB6 OWN6
            refine hK0 _ _ ?_
            clear hK0 K0
            try go_simp
            refine wpAny_take (i := 12) (v := ?_) rfl (by kernel_rfl) (by kernel_rfl) (by kernel_rfl) (fun _ _ _ h => h) (Or.inl ⟨by rfl, ?_⟩) ?_
            rotate_left 1
            · (intro w; go_simp)
              all_goals with_reducible rfl
            try go_simp
            refine wpAny_done (by kernel_rfl) ?_ _
            have HZL : (putI o K).length = o.length + 1 := putI_len _ _
            have HZ2 := Lib.hid HZL
            clear HZL
            go_wp2
            exact ⟨⟨k + 1, g7, c7, _, putI o K, by omega, by go_num, by rw [HZ2.out]; exact congrArg (fun n => Value.slice (some ⟨g7, 0, none⟩) n c7) (by omega), HSO, BAG7, HB7⟩, by simp [intOf]; omega⟩
          · skip
            refine wp_region_any (by kernel_rfl) ?_
            try go_simp
            refine wpAny_take (i := 0) (v := ?_) rfl (by kernel_rfl) (by kernel_rfl) (by kernel_rfl) (fun _ _ _ h => h) (Or.inl ⟨by rfl, ?_⟩) ?_
            rotate_left 1
            · (intro w; go_simp)
              all_goals with_reducible rfl
            try go_simp
            refine wpAny_take (i := 1) (v := ?_) rfl (by kernel_rfl) (by kernel_rfl) (by kernel_rfl) (fun _ _ _ h => h) (Or.inl ⟨by rfl, ?_⟩) ?_
            rotate_left 1
            · (intro w; go_simp)
              all_goals with_reducible rfl
            try go_simp
            refine wpAny_take (i := 2) (v := ?_) rfl (by kernel_rfl) (by kernel_rfl) (by kernel_rfl) (fun _ _ _ h => h) (Or.inl ⟨by rfl, ?_⟩) ?_
            rotate_left 1
            · (intro w; go_simp)
              all_goals with_reducible rfl
            try go_simp
            refine wpAny_take (i := 8) (v := ?_) rfl (by kernel_rfl) (by kernel_rfl) (by kernel_rfl) (fun _ _ _ h => h) (Or.inl ⟨by rfl, ?_⟩) ?_
            rotate_left 1
            · (intro w; go_simp)
              all_goals with_reducible rfl
            try go_simp
            refine wpAny_take (i := 9) (v := ?_) rfl (by kernel_rfl) (by kernel_rfl) (by kernel_rfl) (fun _ _ _ h => h) (Or.inl ⟨by rfl, ?_⟩) ?_
            rotate_left 1
            · (intro w; go_simp)
              all_goals with_reducible rfl
            try go_simp
            refine wpAny_take (i := 3) (v := ?_) rfl (by kernel_rfl) (by kernel_rfl) (by kernel_rfl) (fun _ _ _ h => h) (Or.inl ⟨by rfl, ?_⟩) ?_
            rotate_left 1
            · (intro w; go_simp)
              all_goals with_reducible rfl
            try go_simp
            refine wpAny_take (i := 10) (v := ?_) rfl (by kernel_rfl) (by kernel_rfl) (by kernel_rfl) (fun _ _ _ h => h) (Or.inl ⟨by rfl, ?_⟩) ?_
            rotate_left 1
            · (intro w; go_simp)
              all_goals with_reducible rfl
            try go_simp
            refine wpAny_ready (rs := [4]) (by kernel_rfl) (by simp) ?_
            refine AllReady.cons rfl (fun K0 hK0 => ?_) AllReady.nil
            go_simp
            refine hK0 _ _ ?_
            clear hK0 K0
            refine wpAny_ready (rs := [5]) (by kernel_rfl) (by simp) ?_
            refine AllReady.cons rfl (fun K0 hK0 => ?_) AllReady.nil
            refine step_callW (by rfl) 79 _ _ rfl l3OwnEnters #[.slice (some ⟨gX, oX, none⟩) kl cX] rfl (CC.out _ HF4.out.drew) ?_
            rintro e w5 ⟨g5, c5, rfl, hr5, hb5⟩
            have OWN5 := Lib.hid (own_keep OWN4.out (hb5.block g4 hg4l))
            have RW5 := Lib.hid (fun u hu => (RW4.out u hu).drew.below hb5)
            have HR5 := Lib.hid (hr5.lower (B' := w.heap.size) hws4)
            have hlo5 := hr5.lo
            have hhi5 := hr5.hi
            have OG5 := Lib.hid (own_keep OG4.out (hb5.block g (OG4.out.lt g rfl).2))
            have HB5 := Lib.hid (HB4.out.drew.trans (hb5.mono hws4))
            have hws5 := HB5.out.size
            simp only at hlo5 hhi5
            have hlo6 : w4.heap.size ≤ g5 := hlo5
            clear hb5 hr5 OWN4 RW4 OG4 HB4 hlo5
            refine ⟨_, rfl, hK0 _ _ ?_⟩
            clear hK0 K0
            try go_simp
            refine wpAny_ready (rs := [6]) (by kernel_rfl) (by simp) ?_
            refine AllReady.cons rfl (fun K0 hK0 => ?_) AllReady.nil
            go_simp
            refine hK0 _ _ ?_
            clear hK0 K0
            refine wpAny_ready (rs := [7]) (by kernel_rfl) (by simp) ?_
            refine AllReady.cons rfl (fun K0 hK0 => ?_) AllReady.nil
            refine step_block rfl (.tmp 38) (.tmp 44) 39 rfl w.heap.size 30 i0 (.slice none 0 0) 1 24 Try.underlying39 hi iz0 iz1 iz2 rfl (by decide) g4 P c4 ((T.map hdr).take P) rfl (OWN5.out.alloc _) _ 1 1 [.slice (some ⟨g5, 0, none⟩) kl c5] rfl rfl (news_new (by first | rfl | simp)) (by simp [Value.oneCell']) (by unfold maxLen; omega) (by omega) (by first | omega | (simp; done) | (simp; omega)) ?_
            intro g6 c6 w6 hown hgr hgg
            have OWN6 := Lib.hid hown
            have RW6 := Lib.hid (rows_grown (fun u hu => (RW5.out u hu).alloc _) hgr (fun u hu => by have := (BAG1.out.rows u hu).hi; omega))
            have R6 := Lib.hid (row_grown (HR5.out.alloc _) hgr (by simp only; omega))
            have OG6 := Lib.hid (own_grownB (OG5.out.alloc _) hgr (by omega))
            have HB6 := Lib.hid (Below.grown (HB5.out.alloc hws5 _) hgr (by simp; omega) (fun k hk => by obtain rfl := Option.some.inj hk; omega))
            have hg6 : g6 = g4 ∨ w5.heap.size < g6 := (by rcases hgg with h | h <;> ((try simp at h); omega))
            have hg6l := (hown.lt g6 rfl).2
            have hz56 : w5.heap.size ≤ w6.heap.size := (by have := hgr.size; simp at this; omega)
            have hws6 := HB6.out.size
            clear hown hgr hgg OWN5 RW5 HR5 OG5 HB5
            refine hK0 _ _ ?_
            clear hK0 K0
            try go_simp
            refine wpAny_ready (rs := [11]) (by kernel_rfl) (by simp) ?_
            refine AllReady.cons rfl (fun K0 hK0 => ?_) AllReady.nil
            refine step_block rfl (.tmp 45) (.tmp 48) 39 rfl w.heap.size 30 i0 (.slice none 0 0) 1 24 Try.underlying39 hi iz0 iz1 iz2 rfl (by decide) g6 (P + 1) c6 ((T.map hdr).take P ++ [.slice (some ⟨g5, 0, none⟩) kl c5]) rfl OWN6.out _ _ _ ((T.map hdr).drop P) rfl (by have := HTL.out; simp; omega) (news_drop OG6.out P) (fun u hu => hdr_one T u (List.mem_of_mem_drop hu)) (by unfold maxLen; omega) (by omega) (by omega) ?_
            intro g7 c7 w7 hown hgr hgg
            have RW7 := Lib.hid (rows_grown RW6.out hgr (fun u hu => by have := (BAG1.out.rows u hu).hi; omega))
            have R7 := Lib.hid (row_grown R6.out hgr (by simp only; omega))
            have HB7 := Lib.hid (Below.grown HB6.out hgr hws6 (fun k hk => by obtain rfl := Option.some.inj hk; omega))
            have hg7 : g7 = g6 ∨ w6.heap.size ≤ g7 := hgg
            have BAG7 := Lib.hid (sort_end (g3 := g7) (c3 := c7) (t := (g5, c5, K)) BAG1.out RW7.out R7.out (fun u hu => by have := (BAG1.out.rows u hu).hi; simp only; omega) (fun u hu => by have := (BAG1.out.rows u hu).hi; omega) (by simp only; omega) (by have h := hown; rw [← HKL.out, List.append_assoc] at h; exact h) (by omega) HPE.out)
            clear hown hgr hgg RW6 R6 OG6 HB6 OWN6
            refine hK0 _ _ ?_
            clear hK0 K0
            try go_simp
            refine wpAny_take (i := 12) (v := ?_) rfl (by kernel_rfl) (by kernel_rfl) (by kernel_rfl) (fun _ _ _ h => h) (Or.inl ⟨by rfl, ?_⟩) ?_
            rotate_left 1
            · (intro w; go_simp)
              all_goals with_reducible rfl
            try go_simp
            refine wpAny_done (by kernel_rfl) ?_ _
            have HZL : (putI o K).length = o.length + 1 := putI_len _ _
            have HZ2 := Lib.hid HZL
            clear HZL
            go_wp2
            exact ⟨⟨k + 1, g7, c7, _, putI o K, by omega, by go_num, by rw [HZ2.out]; exact congrArg (fun n => Value.slice (some ⟨g7, 0, none⟩) n c7) (by omega), HSO, BAG7, HB7⟩, by simp [intOf]; omega⟩
        · have hpo : p < o.length := by omega
          have HSS := Lib.hid (posI_step (r := K) hpo)
          obtain ⟨hlp, hsp⟩ := OK.out.at p hpo
          obtain ⟨-, hgz, cu, gu, ou, hcu, hfu⟩ := BAG.out.rws.at p hpo
          simp only [Nat.zero_add] at hcu
          obtain ⟨U, hU⟩ : ∃ U, o[p] = U := ⟨_, rfl⟩
          rw [hU] at HSS hlp hsp hcu hfu
          have HFU := Lib.hid hfu
          have CR := Lib.hid (fun W hA hB => rowOrderS (some ⟨gu, ou, none⟩) (some ⟨g', o', none⟩) gu ou g' o' cu c' U K W hA hB hlp hlr hsp hsr)
          rw [HKL.out] at CR
          obtain ⟨ul, hul⟩ : ∃ n, U.length = n := ⟨_, rfl⟩
          rw [hul] at hcu CR
          obtain ⟨E, hE⟩ : ∃ E, rowI U K = E := ⟨_, rfl⟩
          rw [hE] at CR HSS
          clear hE hul hU hfu hlp hsp
          have j0' : (0 : Int) < (p : Int) + 1 := by omega
          have j1' : (p : Int) + 1 - 1 = (p : Int) := by omega
          have j2' : (0 : Int) ≤ (p : Int) := by omega
          have j3' : (p : Int) < (o.length : Int) := by omega
          by_cases hq : 0 < E
          · have HPN : Hid (posI o K o.length = posI o K p) := by show _ = _; rw [HP.out, HSS.out, if_pos hq]
            clear HSS HP
            go_wp2
            refine wp_region_any (by kernel_rfl) ?_
            try go_simp
            refine wpAny_take (i := 0) (v := ?_) rfl (by kernel_rfl) (by kernel_rfl) (by kernel_rfl) (fun _ _ _ h => h) (Or.inl ⟨by rfl, ?_⟩) ?_
            rotate_left 1
            · (intro w; go_simp)
              all_goals with_reducible rfl
            try go_simp
            refine wpAny_take (i := 1) (v := .bool true) rfl (by kernel_rfl) (by kernel_rfl) (by kernel_rfl) (fun _ _ _ h => h) (Or.inl ⟨by rfl, ?_⟩) ?_
            · (intro w; go_simp)
              all_goals (first | omega | exact IntWalk.i64_in _ (by omega) | (simp; omega))
            try go_simp
            refine wpAny_take (i := 2) (v := ?_) rfl (by kernel_rfl) (by kernel_rfl) (by kernel_rfl) (fun _ _ _ h => h) (Or.inl ⟨by rfl, ?_⟩) ?_
            rotate_left 1
            · (intro w; go_simp)
              all_goals with_reducible rfl
            try go_simp
            refine wpAny_take (i := 3) (v := ?_) rfl (by kernel_rfl) (by kernel_rfl) (by kernel_rfl) (fun _ _ _ h => h) (Or.inl ⟨by rfl, ?_⟩) ?_
            rotate_left 1
            · (intro w; go_simp)
              all_goals with_reducible rfl
            try go_simp
            refine wpAny_take (i := 4) (v := ?_) rfl (by kernel_rfl) (by kernel_rfl) (by kernel_rfl) (fun _ _ _ h => h) (Or.inl ⟨by rfl, ?_⟩) ?_
            rotate_left 1
            · (intro w; go_simp)
              all_goals with_reducible rfl
            try go_simp
            refine wpAny_take (i := 5) (v := .int .i64 (p : Int)) rfl (by kernel_rfl) (by kernel_rfl) (by kernel_rfl) (fun _ _ _ h => h) (Or.inl ⟨by rfl, ?_⟩) ?_
            · (intro w; go_simp)
              all_goals (first | omega | exact IntWalk.i64_in _ (by omega) | (simp; omega))
            try go_simp
            refine wpAny_take (i := 6) (v := ?_) rfl (by kernel_rfl) (by kernel_rfl) (by kernel_rfl) (fun _ _ _ h => h) (Or.inl ⟨by rfl, ?_⟩) ?_
            rotate_left 1
            · (intro w; go_simp)
              all_goals with_reducible rfl
            try go_simp
            refine wpAny_take (i := 8) (v := ?_) rfl (by kernel_rfl) (by kernel_rfl) (by kernel_rfl) (fun _ _ _ h => h) (Or.inl ⟨by rfl, ?_⟩) ?_
            rotate_left 1
            · (intro w; go_simp)
              all_goals with_reducible rfl
            try go_simp
            refine wpAny_take (i := 9) (v := ?_) rfl (by kernel_rfl) (by kernel_rfl) (by kernel_rfl) (fun _ _ _ h => h) (Or.inl ⟨by rfl, ?_⟩) ?_
            rotate_left 1
            · (intro w; go_simp)
              all_goals with_reducible rfl
            try go_simp
            refine wpAny_take (i := 10) (v := ?_) rfl (by kernel_rfl) (by kernel_rfl) (by kernel_rfl) (fun _ _ _ h => h) (Or.inl ⟨by rfl, ?_⟩) ?_
            rotate_left 1
            · (intro w; go_simp)
              all_goals with_reducible rfl
            try go_simp
            refine wpAny_ready (rs := [7, 11]) (by kernel_rfl) (by simp) ?_
            refine AllReady.cons rfl (fun K0 hK0 => ?_) (AllReady.cons rfl (fun K0 hK0 => ?_) AllReady.nil)
            · go_simp
              refine hK0 _ _ ?_
              clear hK0 K0
              refine wpAny_ready (rs := [11]) (by kernel_rfl) (by simp) ?_
              refine AllReady.cons rfl (fun K0 hK0 => ?_) AllReady.nil
              go_simp
              refine hK0 _ _ ?_
              clear hK0 K0
              refine wpAny_ready (rs := [12]) (by kernel_rfl) (by simp) ?_
              refine AllReady.cons rfl (fun K0 hK0 => ?_) AllReady.nil
              refine step_callW (by rfl) 78 _ _ rfl rowOrderSEnters #[.slice (some ⟨gu, ou, none⟩) ul cu, .slice (some ⟨g', o', none⟩) kl c'] rfl (CR.out _ (by repeat (with_reducible first | exact HFU.out | apply Fl.drew)) (by repeat (with_reducible first | exact HF.out | apply Fl.drew))) ?_
              rintro e w1 ⟨rfl, hb1⟩
              have HB1 := Lib.hid (HB.out.drew.trans (hb1.mono hwz))
              have BAG1 := Lib.hid (BAG.out.drew.below hb1)
              clear hb1 HB BAG
              refine ⟨_, rfl, hK0 _ _ ?_⟩
              clear hK0 K0
              try go_simp
              refine wpAny_take (i := 13) (v := .bool true) rfl (by kernel_rfl) (by kernel_rfl) (by kernel_rfl) (fun _ _ _ h => h) (Or.inl ⟨by rfl, ?_⟩) ?_
              · (intro w; go_simp)
                all_goals (first | omega | exact IntWalk.i64_in _ (by omega) | (simp; omega))
              try go_simp
              refine wpAny_take (i := 14) (v := .bool true) rfl (by kernel_rfl) (by kernel_rfl) (by kernel_rfl) (fun _ _ _ h => h) (Or.inl ⟨by rfl, ?_⟩) ?_
              · (intro w; go_simp)
                all_goals (first | omega | exact IntWalk.i64_in _ (by omega) | (simp; omega))
              try go_simp
              refine wpAny_done (by kernel_rfl) ?_ _
              all_goals go_wp2
              all_goals exact ⟨⟨p, by omega, by go_num, HPN, BAG1, HB1⟩, by first | (simp [intOf]; done) | (simp [intOf]; omega)⟩
            · go_simp
              refine hK0 _ _ ?_
              clear hK0 K0
              refine wpAny_ready (rs := [7]) (by kernel_rfl) (by simp) ?_
              refine AllReady.cons rfl (fun K0 hK0 => ?_) AllReady.nil
              go_simp
              refine hK0 _ _ ?_
              clear hK0 K0
              refine wpAny_ready (rs := [12]) (by kernel_rfl) (by simp) ?_
              refine AllReady.cons rfl (fun K0 hK0 => ?_) AllReady.nil
              refine step_callW (by rfl) 78 _ _ rfl rowOrderSEnters #[.slice (some ⟨gu, ou, none⟩) ul cu, .slice (some ⟨g', o', none⟩) kl c'] rfl (CR.out _ (by repeat (with_reducible first | exact HFU.out | apply Fl.drew)) (by repeat (with_reducible first | exact HF.out | apply Fl.drew))) ?_
              rintro e w1 ⟨rfl, hb1⟩
              have HB1 := Lib.hid (HB.out.drew.trans (hb1.mono hwz))
              have BAG1 := Lib.hid (BAG.out.drew.below hb1)
              clear hb1 HB BAG
              refine ⟨_, rfl, hK0 _ _ ?_⟩
              clear hK0 K0
              try go_simp
              refine wpAny_take (i := 13) (v := .bool true) rfl (by kernel_rfl) (by kernel_rfl) (by kernel_rfl) (fun _ _ _ h => h) (Or.inl ⟨by rfl, ?_⟩) ?_
              · (intro w; go_simp)
                all_goals (first | omega | exact IntWalk.i64_in _ (by omega) | (simp; omega))
              try go_simp
              refine wpAny_take (i := 14) (v := .bool true) rfl (by kernel_rfl) (by kernel_rfl) (by kernel_rfl) (fun _ _ _ h => h) (Or.inl ⟨by rfl, ?_⟩) ?_
              · (intro w; go_simp)
                all_goals (first | omega | exact IntWalk.i64_in _ (by omega) | (simp; omega))
              try go_simp
              refine wpAny_done (by kernel_rfl) ?_ _
              all_goals go_wp2
              all_goals exact ⟨⟨p, by omega, by go_num, HPN, BAG1, HB1⟩, by first | (simp [intOf]; done) | (simp [intOf]; omega)⟩
          · have HPE : Hid (p + 1 = posI o K o.length) := by show _ = _; rw [HP.out, HSS.out, if_neg hq]
            clear HSS HP
            go_wp2
            refine wp_region_any (by kernel_rfl) ?_
            try go_simp
            refine wpAny_take (i := 0) (v := ?_) rfl (by kernel_rfl) (by kernel_rfl) (by kernel_rfl) (fun _ _ _ h => h) (Or.inl ⟨by rfl, ?_⟩) ?_
            rotate_left 1
            · (intro w; go_simp)
              all_goals with_reducible rfl
            try go_simp
            refine wpAny_take (i := 1) (v := .bool true) rfl (by kernel_rfl) (by kernel_rfl) (by kernel_rfl) (fun _ _ _ h => h) (Or.inl ⟨by rfl, ?_⟩) ?_
            · (intro w; go_simp)
              all_goals (first | omega | exact IntWalk.i64_in _ (by omega) | (simp; omega))
            try go_simp
            refine wpAny_take (i := 2) (v := ?_) rfl (by kernel_rfl) (by kernel_rfl) (by kernel_rfl) (fun _ _ _ h => h) (Or.inl ⟨by rfl, ?_⟩) ?_
            rotate_left 1
            · (intro w; go_simp)
              all_goals with_reducible rfl
            try go_simp
            refine wpAny_take (i := 3) (v := ?_) rfl (by kernel_rfl) (by kernel_rfl) (by kernel_rfl) (fun _ _ _ h => h) (Or.inl ⟨by rfl, ?_⟩) ?_
            rotate_left 1
            · (intro w; go_simp)
              all_goals with_reducible rfl
            try go_simp
            refine wpAny_take (i := 4) (v := ?_) rfl (by kernel_rfl) (by kernel_rfl) (by kernel_rfl) (fun _ _ _ h => h) (Or.inl ⟨by rfl, ?_⟩) ?_
            rotate_left 1
            · (intro w; go_simp)
              all_goals with_reducible rfl
            try go_simp
            refine wpAny_take (i := 5) (v := .int .i64 (p : Int)) rfl (by kernel_rfl) (by kernel_rfl) (by kernel_rfl) (fun _ _ _ h => h) (Or.inl ⟨by rfl, ?_⟩) ?_
            · (intro w; go_simp)
              all_goals (first | omega | exact IntWalk.i64_in _ (by omega) | (simp; omega))
            try go_simp
            refine wpAny_take (i := 6) (v := ?_) rfl (by kernel_rfl) (by kernel_rfl) (by kernel_rfl) (fun _ _ _ h => h) (Or.inl ⟨by rfl, ?_⟩) ?_
            rotate_left 1
            · (intro w; go_simp)
              all_goals with_reducible rfl
            try go_simp
            refine wpAny_take (i := 8) (v := ?_) rfl (by kernel_rfl) (by kernel_rfl) (by kernel_rfl) (fun _ _ _ h => h) (Or.inl ⟨by rfl, ?_⟩) ?_
            rotate_left 1
            · (intro w; go_simp)
              all_goals with_reducible rfl
            try go_simp
            refine wpAny_take (i := 9) (v := ?_) rfl (by kernel_rfl) (by kernel_rfl) (by kernel_rfl) (fun _ _ _ h => h) (Or.inl ⟨by rfl, ?_⟩) ?_
            rotate_left 1
            · (intro w; go_simp)
              all_goals with_reducible rfl
            try go_simp
            refine wpAny_take (i := 10) (v := ?_) rfl (by kernel_rfl) (by kernel_rfl) (by kernel_rfl) (fun _ _ _ h => h) (Or.inl ⟨by rfl, ?_⟩) ?_
            rotate_left 1
            · (intro w; go_simp)
              all_goals with_reducible rfl
            try go_simp
            refine wpAny_ready (rs := [7, 11]) (by kernel_rfl) (by simp) ?_
            refine AllReady.cons rfl (fun K0 hK0 => ?_) (AllReady.cons rfl (fun K0 hK0 => ?_) AllReady.nil)
            · go_simp
              refine hK0 _ _ ?_
              clear hK0 K0
              refine wpAny_ready (rs := [11]) (by kernel_rfl) (by simp) ?_
              refine AllReady.cons rfl (fun K0 hK0 => ?_) AllReady.nil
              go_simp
              refine hK0 _ _ ?_
              clear hK0 K0
              refine wpAny_ready (rs := [12]) (by kernel_rfl) (by simp) ?_
              refine AllReady.cons rfl (fun K0 hK0 => ?_) AllReady.nil
              refine step_callW (by rfl) 78 _ _ rfl rowOrderSEnters #[.slice (some ⟨gu, ou, none⟩) ul cu, .slice (some ⟨g', o', none⟩) kl c'] rfl (CR.out _ (by repeat (with_reducible first | exact HFU.out | apply Fl.drew)) (by repeat (with_reducible first | exact HF.out | apply Fl.drew))) ?_
              rintro e w1 ⟨rfl, hb1⟩
              have HB1 := Lib.hid (HB.out.drew.trans (hb1.mono hwz))
              have BAG1 := Lib.hid (BAG.out.drew.below hb1)
              clear hb1 HB BAG
              refine ⟨_, rfl, hK0 _ _ ?_⟩
              clear hK0 K0
              try go_simp
              refine wpAny_take (i := 13) (v := .bool false) rfl (by kernel_rfl) (by kernel_rfl) (by kernel_rfl) (fun _ _ _ h => h) (Or.inl ⟨by rfl, ?_⟩) ?_
              · (intro w; go_simp)
                all_goals (first | omega | exact IntWalk.i64_in _ (by omega) | (simp; omega))
              try go_simp
              refine wpAny_take (i := 14) (v := .bool false) rfl (by kernel_rfl) (by kernel_rfl) (by kernel_rfl) (fun _ _ _ h => h) (Or.inl ⟨by rfl, ?_⟩) ?_
              · (intro w; go_simp)
                all_goals (first | omega | exact IntWalk.i64_in _ (by omega) | (simp; omega))
              try go_simp
              refine wpAny_done (by kernel_rfl) ?_ _
              skip
              obtain ⟨-, hgX, cX, gX, oX, hcX, hfX⟩ := HAT.out _ HB1.out
              rw [HKL.out] at hcX
              have HFX := Lib.hid hfX
              have CC := Lib.hid (fun W hW => l3Own gX oX cX K W hW hlr)
              rw [HKL.out] at CC
              obtain ⟨P, hP⟩ : ∃ P, P = p + 1 := ⟨_, rfl⟩
              have hPo : P ≤ o.length := by omega
              have hPc : (P : Int) ≤ (c : Int) := by omega
              have hPP : ((P : Nat) : Int) = (p : Int) + 1 := by omega
              have hP0 : (0 : Int) ≤ (P : Int) := by omega
              rw [← hP] at HPE
              rw [← hPP]
              clear hP hPP hfX
              have hws1 := HB1.out.size
              have hlo1 := BAG1.out.lo
              go_wp2_with (at_builtin; go_loud (refine wpList_append_block _ rfl (.tmp 33) (.tmp 36) 39 rfl w.heap.size 30 i0 (.slice none 0 0) 1 24 Try.underlying39 hi iz0 iz1 iz2 rfl (by decide) w1.heap.size 0 0 [] rfl (own_empty3 30 1 rfl (by omega)) ⟨g, 0, none⟩ P c ((T.map hdr).take P) rfl (by have := HTL.out; simp; omega) (news_take (BAG1.out.alloc _).own P) (fun u hu => hdr_one T u (List.mem_of_mem_take hu)) (by unfold maxLen; omega) (by omega) (by first | omega | (simp; done) | (simp; omega)) ?_); intro g4 c4 w4 hown hgr hgg; (try simp only [Nat.zero_add, List.nil_append] at hown); have OWN4 := Lib.hid hown; have RW4 := Lib.hid (rows_grown (fun u hu => (BAG1.out.rows u hu).alloc _) hgr (fun u hu => by have := (BAG1.out.rows u hu).hi; omega)); have hg4 : w1.heap.size ≤ g4 := (by rcases hgg with h | h <;> ((try simp at h); omega)); have hg4l := (hown.lt g4 rfl).2; have HBB := Lib.hid (Below.grown ((Below.refl w1.heap.size w1).alloc (Nat.le_refl _) _) hgr (by simp) (fun k hk => by obtain rfl := Option.some.inj hk; exact Nat.le_refl _)); have hc4 := (HBB.out.cell (p := ⟨g0, o0 + k, none⟩) hgX).trans hcX; have HF4 := Lib.hid (HFX.out.below HBB.out); have OG4 := Lib.hid (own_keep BAG1.out.own (HBB.out.block _ hlo1.2)); have HB4 := Lib.hid (HB1.out.trans (HBB.out.mono hws1)); have hws4 := HB4.out.size; have hbb4 := HBB.out.size; clear hown hgr hgg)
              by_cases hcp : c = P
              · have hcp2 : P = c := hcp.symm
                subst hcp2
                have hPn : o.length = P := by omega
                refine wp_region_any (by kernel_rfl) ?_
                try go_simp
                refine wpAny_take (i := 0) (v := ?_) rfl (by kernel_rfl) (by kernel_rfl) (by kernel_rfl) (fun _ _ _ h => h) (Or.inl ⟨by rfl, ?_⟩) ?_
                rotate_left 1
                · (intro w; go_simp)
                  all_goals with_reducible rfl
                try go_simp
                refine wpAny_take (i := 1) (v := ?_) rfl (by kernel_rfl) (by kernel_rfl) (by kernel_rfl) (fun _ _ _ h => h) (Or.inl ⟨by rfl, ?_⟩) ?_
                rotate_left 1
                · (intro w; go_simp)
                  all_goals with_reducible rfl
                try go_simp
                refine wpAny_take (i := 2) (v := ?_) rfl (by kernel_rfl) (by kernel_rfl) (by kernel_rfl) (fun _ _ _ h => h) (Or.inl ⟨by rfl, ?_⟩) ?_
                rotate_left 1
                · (intro w; go_simp)
                  all_goals with_reducible rfl
                try go_simp
                refine wpAny_take (i := 8) (v := ?_) rfl (by kernel_rfl) (by kernel_rfl) (by kernel_rfl) (fun _ _ _ h => h) (Or.inl ⟨by rfl, ?_⟩) ?_
                rotate_left 1
                · (intro w; go_simp)
                  all_goals with_reducible rfl
                try go_simp
                refine wpAny_take (i := 9) (v := ?_) rfl (by kernel_rfl) (by kernel_rfl) (by kernel_rfl) (fun _ _ _ h => h) (Or.inl ⟨by rfl, ?_⟩) ?_
                rotate_left 1
                · (intro w; go_simp)
                  all_goals with_reducible rfl
                try go_simp
                refine wpAny_take (i := 3) (v := ?_) rfl (by kernel_rfl) (by kernel_rfl) (by kernel_rfl) (fun _ _ _ h => h) (Or.inl ⟨by rfl, ?_⟩) ?_
                rotate_left 1
                · (intro w; go_simp)
                  all_goals with_reducible rfl
                try go_simp
                refine wpAny_take (i := 10) (v := ?_) rfl (by kernel_rfl) (by kernel_rfl) (by kernel_rfl) (fun _ _ _ h => h) (Or.inl ⟨by rfl, ?_⟩) ?_
                rotate_left 1
                · (intro w; go_simp)
                  all_goals with_reducible rfl
                try go_simp
                refine wpAny_ready (rs := [4]) (by kernel_rfl) (by simp) ?_
                refine AllReady.cons rfl (fun K0 hK0 => ?_) AllReady.nil
                go_simp
                refine hK0 _ _ ?_
                clear hK0 K0
                refine wpAny_ready (rs := [5]) (by kernel_rfl) (by simp) ?_
                refine AllReady.cons rfl (fun K0 hK0 => ?_) AllReady.nil
                refine step_callW (by rfl) 79 _ _ rfl l3OwnEnters #[.slice (some ⟨gX, oX, none⟩) kl cX] rfl (CC.out _ HF4.out.drew) ?_
                rintro e w5 ⟨g5, c5, rfl, hr5, hb5⟩
                have OWN5 := Lib.hid (own_keep OWN4.out (hb5.block g4 hg4l))
                have RW5 := Lib.hid (fun u hu => (RW4.out u hu).drew.below hb5)
                have HR5 := Lib.hid (hr5.lower (B' := w.heap.size) hws4)
                have hlo5 := hr5.lo
                have hhi5 := hr5.hi
                have OG5 := Lib.hid (own_keep OG4.out (hb5.block g (OG4.out.lt g rfl).2))
                have HB5 := Lib.hid (HB4.out.drew.trans (hb5.mono hws4))
                have hws5 := HB5.out.size
                simp only at hlo5 hhi5
                have hlo6 : w4.heap.size ≤ g5 := hlo5
                clear hb5 hr5 OWN4 RW4 OG4 HB4 hlo5
                refine ⟨_, rfl, hK0 _ _ ?_⟩
                clear hK0 K0
                try go_simp
                refine wpAny_ready (rs := [6]) (by kernel_rfl) (by simp) ?_
                refine AllReady.cons rfl (fun K0 hK0 => ?_) AllReady.nil
                go_simp
                refine hK0 _ _ ?_
                clear hK0 K0
                refine wpAny_ready (rs := [7]) (by kernel_rfl) (by simp) ?_
                refine AllReady.cons rfl (fun K0 hK0 => ?_) AllReady.nil
                refine step_block rfl (.tmp 38) (.tmp 44) 39 rfl w.heap.size 30 i0 (.slice none 0 0) 1 24 Try.underlying39 hi iz0 iz1 iz2 rfl (by decide) g4 P c4 ((T.map hdr).take P) rfl (OWN5.out.alloc _) _ 1 1 [.slice (some ⟨g5, 0, none⟩) kl c5] rfl rfl (news_new (by first | rfl | simp)) (by simp [Value.oneCell']) (by unfold maxLen; omega) (by omega) (by first | omega | (simp; done) | (simp; omega)) ?_
                intro g6 c6 w6 hown hgr hgg
                have OWN6 := Lib.hid hown
                have RW6 := Lib.hid (rows_grown (fun u hu => (RW5.out u hu).alloc _) hgr (fun u hu => by have := (BAG1.out.rows u hu).hi; omega))
                have R6 := Lib.hid (row_grown (HR5.out.alloc _) hgr (by simp only; omega))
                have OG6 := Lib.hid (own_grownB (OG5.out.alloc _) hgr (by omega))
                have HB6 := Lib.hid (Below.grown (HB5.out.alloc hws5 _) hgr (by simp; omega) (fun k hk => by obtain rfl := Option.some.inj hk; omega))
                have hg6 : g6 = g4 ∨ w5.heap.size < g6 := (by rcases hgg with h | h <;> ((try simp at h); omega))
                have hg6l := (hown.lt g6 rfl).2
                have hz56 : w5.heap.size ≤ w6.heap.size := (by have := hgr.size; simp at this; omega)
                have hws6 := HB6.out.size
                clear hown hgr hgg OWN5 RW5 HR5 OG5 HB5
                refine hK0 _ _ ?_
                clear hK0 K0
                try go_simp
                refine wpAny_ready (rs := [11]) (by kernel_rfl) (by simp) ?_
                refine AllReady.cons rfl (fun K0 hK0 => ?_) AllReady.nil
                refine step_block rfl (.tmp 45) (.tmp 48) 39 rfl w.heap.size 30 i0 (.slice none 0 0) 1 24 Try.underlying39 hi iz0 iz1 iz2 rfl (by decide) g6 (P + 1) c6 ((T.map hdr).take P ++ [.slice (some ⟨g5, 0, none⟩) kl c5]) rfl OWN6.out _ _ _ ((T.map hdr).drop P) rfl (by have := HTL.out; simp; omega) (fun j u hj => absurd hj (by have := HTL.out; rw [List.drop_eq_nil_of_le (by simp; omega)]; simp)) (fun u hu => hdr_one T u (List.mem_of_mem_drop hu)) (by unfold maxLen; omega) (by omega) (by omega) ?_
                intro g7 c7 w7 hown hgr hgg
                have RW7 := Lib.hid (rows_grown RW6.out hgr (fun u hu => by have := (BAG1.out.rows u hu).hi; omega))
                have R7 := Lib.hid (row_grown R6.out hgr (by simp only; omega))
                have HB7 := Lib.hid (Below.grown HB6.out hgr hws6 (fun k hk => by obtain rfl := Option.some.inj hk; omega))
                have hg7 : g7 = g6 ∨ w6.heap.size ≤ g7 := hgg
                have BAG7 := Lib.hid (sort_end (g3 := g7) (c3 := c7) (t := (g5, c5, K)) BAG1.out RW7.out R7.out (fun u hu => by have := (BAG1.out.rows u hu).hi; simp only; omega) (fun u hu => by have := (BAG1.out.rows u hu).hi; omega) (by simp only; omega) (by have h := hown; rw [← HKL.out, List.append_assoc] at h; exact h) (by omega) HPE.out)
                clear hown hgr hgg RW6 R6 OG6 HB6 OWN6
                refine hK0 _ _ ?_
                clear hK0 K0
                try go_simp
                refine wpAny_take (i := 12) (v := ?_) rfl (by kernel_rfl) (by kernel_rfl) (by kernel_rfl) (fun _ _ _ h => h) (Or.inl ⟨by rfl, ?_⟩) ?_
                rotate_left 1
                · (intro w; go_simp)
                  all_goals with_reducible rfl
                try go_simp
                refine wpAny_done (by kernel_rfl) ?_ _
                have HZL : (putI o K).length = o.length + 1 := putI_len _ _
                have HZ2 := Lib.hid HZL
                clear HZL
                go_wp2
                exact ⟨⟨k + 1, g7, c7, _, putI o K, by omega, by go_num, by rw [HZ2.out]; exact congrArg (fun n => Value.slice (some ⟨g7, 0, none⟩) n c7) (by omega), HSO, BAG7, HB7⟩, by simp [intOf]; omega⟩
              · skip
                refine wp_region_any (by kernel_rfl) ?_
                try go_simp
                refine wpAny_take (i := 0) (v := ?_) rfl (by kernel_rfl) (by kernel_rfl) (by kernel_rfl) (fun _ _ _ h => h) (Or.inl ⟨by rfl, ?_⟩) ?_
                rotate_left 1
                · (intro w; go_simp)
                  all_goals with_reducible rfl
                try go_simp
                refine wpAny_take (i := 1) (v := ?_) rfl (by kernel_rfl) (by kernel_rfl) (by kernel_rfl) (fun _ _ _ h => h) (Or.inl ⟨by rfl, ?_⟩) ?_
                rotate_left 1
                · (intro w; go_simp)
                  all_goals with_reducible rfl
                try go_simp
                refine wpAny_take (i := 2) (v := ?_) rfl (by kernel_rfl) (by kernel_rfl) (by kernel_rfl) (fun _ _ _ h => h) (Or.inl ⟨by rfl, ?_⟩) ?_
                rotate_left 1
                · (intro w; go_simp)
                  all_goals with_reducible rfl
                try go_simp
                refine wpAny_take (i := 8) (v := ?_) rfl (by kernel_rfl) (by kernel_rfl) (by kernel_rfl) (fun _ _ _ h => h) (Or.inl ⟨by rfl, ?_⟩) ?_
                rotate_left 1
                · (intro w; go_simp)
                  all_goals with_reducible rfl
                try go_simp
                refine wpAny_take (i := 9) (v := ?_) rfl (by kernel_rfl) (by kernel_rfl) (by kernel_rfl) (fun _ _ _ h => h) (Or.inl ⟨by rfl, ?_⟩) ?_
                rotate_left 1
                · (intro w; go_simp)
                  all_goals with_reducible rfl
                try go_simp
                refine wpAny_take (i := 3) (v := ?_) rfl (by kernel_rfl) (by kernel_rfl) (by kernel_rfl) (fun _ _ _ h => h) (Or.inl ⟨by rfl, ?_⟩) ?_
                rotate_left 1
                · (intro w; go_simp)
                  all_goals with_reducible rfl
                try go_simp
                refine wpAny_take (i := 10) (v := ?_) rfl (by kernel_rfl) (by kernel_rfl) (by kernel_rfl) (fun _ _ _ h => h) (Or.inl ⟨by rfl, ?_⟩) ?_
                rotate_left 1
                · (intro w; go_simp)
                  all_goals with_reducible rfl
                try go_simp
                refine wpAny_ready (rs := [4]) (by kernel_rfl) (by simp) ?_
                refine AllReady.cons rfl (fun K0 hK0 => ?_) AllReady.nil
                go_simp
                refine hK0 _ _ ?_
                clear hK0 K0
                refine wpAny_ready (rs := [5]) (by kernel_rfl) (by simp) ?_
                refine AllReady.cons rfl (fun K0 hK0 => ?_) AllReady.nil
                refine step_callW (by rfl) 79 _ _ rfl l3OwnEnters #[.slice (some ⟨gX, oX, none⟩) kl cX] rfl (CC.out _ HF4.out.drew) ?_
                rintro e w5 ⟨g5, c5, rfl, hr5, hb5⟩
                have OWN5 := Lib.hid (own_keep OWN4.out (hb5.block g4 hg4l))
                have RW5 := Lib.hid (fun u hu => (RW4.out u hu).drew.below hb5)
                have HR5 := Lib.hid (hr5.lower (B' := w.heap.size) hws4)
                have hlo5 := hr5.lo
                have hhi5 := hr5.hi
                have OG5 := Lib.hid (own_keep OG4.out (hb5.block g (OG4.out.lt g rfl).2))
                have HB5 := Lib.hid (HB4.out.drew.trans (hb5.mono hws4))
                have hws5 := HB5.out.size
                simp only at hlo5 hhi5
                have hlo6 : w4.heap.size ≤ g5 := hlo5
                clear hb5 hr5 OWN4 RW4 OG4 HB4 hlo5
                refine ⟨_, rfl, hK0 _ _ ?_⟩
                clear hK0 K0
                try go_simp
                refine wpAny_ready (rs := [6]) (by kernel_rfl) (by simp) ?_
                refine AllReady.cons rfl (fun K0 hK0 => ?_) AllReady.nil
                go_simp
                refine hK0 _ _ ?_
                clear hK0 K0
                refine wpAny_ready (rs := [7]) (by kernel_rfl) (by simp) ?_
                refine AllReady.cons rfl (fun K0 hK0 => ?_) AllReady.nil
                refine step_block rfl (.tmp 38) (.tmp 44) 39 rfl w.heap.size 30 i0 (.slice none 0 0) 1 24 Try.underlying39 hi iz0 iz1 iz2 rfl (by decide) g4 P c4 ((T.map hdr).take P) rfl (OWN5.out.alloc _) _ 1 1 [.slice (some ⟨g5, 0, none⟩) kl c5] rfl rfl (news_new (by first | rfl | simp)) (by simp [Value.oneCell']) (by unfold maxLen; omega) (by omega) (by first | omega | (simp; done) | (simp; omega)) ?_
                intro g6 c6 w6 hown hgr hgg
                have OWN6 := Lib.hid hown
                have RW6 := Lib.hid (rows_grown (fun u hu => (RW5.out u hu).alloc _) hgr (fun u hu => by have := (BAG1.out.rows u hu).hi; omega))
                have R6 := Lib.hid (row_grown (HR5.out.alloc _) hgr (by simp only; omega))
                have OG6 := Lib.hid (own_grownB (OG5.out.alloc _) hgr (by omega))
                have HB6 := Lib.hid (Below.grown (HB5.out.alloc hws5 _) hgr (by simp; omega) (fun k hk => by obtain rfl := Option.some.inj hk; omega))
                have hg6 : g6 = g4 ∨ w5.heap.size < g6 := (by rcases hgg with h | h <;> ((try simp at h); omega))
                have hg6l := (hown.lt g6 rfl).2
                have hz56 : w5.heap.size ≤ w6.heap.size := (by have := hgr.size; simp at this; omega)
                have hws6 := HB6.out.size
                clear hown hgr hgg OWN5 RW5 HR5 OG5 HB5
                refine hK0 _ _ ?_
                clear hK0 K0
                try go_simp
                refine wpAny_ready (rs := [11]) (by kernel_rfl) (by simp) ?_
                refine AllReady.cons rfl (fun K0 hK0 => ?_) AllReady.nil
                refine step_block rfl (.tmp 45) (.tmp 48) 39 rfl w.heap.size 30 i0 (.slice none 0 0) 1 24 Try.underlying39 hi iz0 iz1 iz2 rfl (by decide) g6 (P + 1) c6 ((T.map hdr).take P ++ [.slice (some ⟨g5, 0, none⟩) kl c5]) rfl OWN6.out _ _ _ ((T.map hdr).drop P) rfl (by have := HTL.out; simp; omega) (news_drop OG6.out P) (fun u hu => hdr_one T u (List.mem_of_mem_drop hu)) (by unfold maxLen; omega) (by omega) (by omega) ?_
                intro g7 c7 w7 hown hgr hgg
                have RW7 := Lib.hid (rows_grown RW6.out hgr (fun u hu => by have := (BAG1.out.rows u hu).hi; omega))
                have R7 := Lib.hid (row_grown R6.out hgr (by simp only; omega))
                have HB7 := Lib.hid (Below.grown HB6.out hgr hws6 (fun k hk => by obtain rfl := Option.some.inj hk; omega))
                have hg7 : g7 = g6 ∨ w6.heap.size ≤ g7 := hgg
                have BAG7 := Lib.hid (sort_end (g3 := g7) (c3 := c7) (t := (g5, c5, K)) BAG1.out RW7.out R7.out (fun u hu => by have := (BAG1.out.rows u hu).hi; simp only; omega) (fun u hu => by have := (BAG1.out.rows u hu).hi; omega) (by simp only; omega) (by have h := hown; rw [← HKL.out, List.append_assoc] at h; exact h) (by omega) HPE.out)
                clear hown hgr hgg RW6 R6 OG6 HB6 OWN6
                refine hK0 _ _ ?_
                clear hK0 K0
                try go_simp
                refine wpAny_take (i := 12) (v := ?_) rfl (by kernel_rfl) (by kernel_rfl) (by kernel_rfl) (fun _ _ _ h => h) (Or.inl ⟨by rfl, ?_⟩) ?_
                rotate_left 1
                · (intro w; go_simp)
                  all_goals with_reducible rfl
                try go_simp
                refine wpAny_done (by kernel_rfl) ?_ _
                have HZL : (putI o K).length = o.length + 1 := putI_len _ _
                have HZ2 := Lib.hid HZL
                clear HZL
                go_wp2
                exact ⟨⟨k + 1, g7, c7, _, putI o K, by omega, by go_num, by rw [HZ2.out]; exact congrArg (fun n => Value.slice (some ⟨g7, 0, none⟩) n c7) (by omega), HSO, BAG7, HB7⟩, by simp [intOf]; omega⟩
            · go_simp
              refine hK0 _ _ ?_
              clear hK0 K0
              refine wpAny_ready (rs := [7]) (by kernel_rfl) (by simp) ?_
              refine AllReady.cons rfl (fun K0 hK0 => ?_) AllReady.nil
              go_simp
              refine hK0 _ _ ?_
              clear hK0 K0
              refine wpAny_ready (rs := [12]) (by kernel_rfl) (by simp) ?_
              refine AllReady.cons rfl (fun K0 hK0 => ?_) AllReady.nil
              refine step_callW (by rfl) 78 _ _ rfl rowOrderSEnters #[.slice (some ⟨gu, ou, none⟩) ul cu, .slice (some ⟨g', o', none⟩) kl c'] rfl (CR.out _ (by repeat (with_reducible first | exact HFU.out | apply Fl.drew)) (by repeat (with_reducible first | exact HF.out | apply Fl.drew))) ?_
              rintro e w1 ⟨rfl, hb1⟩
              have HB1 := Lib.hid (HB.out.drew.trans (hb1.mono hwz))
              have BAG1 := Lib.hid (BAG.out.drew.below hb1)
              clear hb1 HB BAG
              refine ⟨_, rfl, hK0 _ _ ?_⟩
              clear hK0 K0
              try go_simp
              refine wpAny_take (i := 13) (v := .bool false) rfl (by kernel_rfl) (by kernel_rfl) (by kernel_rfl) (fun _ _ _ h => h) (Or.inl ⟨by rfl, ?_⟩) ?_
              · (intro w; go_simp)
                all_goals (first | omega | exact IntWalk.i64_in _ (by omega) | (simp; omega))
              try go_simp
              refine wpAny_take (i := 14) (v := .bool false) rfl (by kernel_rfl) (by kernel_rfl) (by kernel_rfl) (fun _ _ _ h => h) (Or.inl ⟨by rfl, ?_⟩) ?_
              · (intro w; go_simp)
                all_goals (first | omega | exact IntWalk.i64_in _ (by omega) | (simp; omega))
              try go_simp
              refine wpAny_done (by kernel_rfl) ?_ _
              skip
              obtain ⟨-, hgX, cX, gX, oX, hcX, hfX⟩ := HAT.out _ HB1.out
              rw [HKL.out] at hcX
              have HFX := Lib.hid hfX
              have CC := Lib.hid (fun W hW => l3Own gX oX cX K W hW hlr)
              rw [HKL.out] at CC
              obtain ⟨P, hP⟩ : ∃ P, P = p + 1 := ⟨_, rfl⟩
              have hPo : P ≤ o.length := by omega
              have hPc : (P : Int) ≤ (c : Int) := by omega
              have hPP : ((P : Nat) : Int) = (p : Int) + 1 := by omega
              have hP0 : (0 : Int) ≤ (P : Int) := by omega
              rw [← hP] at HPE
              rw [← hPP]
              clear hP hPP hfX
              have hws1 := HB1.out.size
              have hlo1 := BAG1.out.lo
              go_wp2_with (at_builtin; go_loud (refine wpList_append_block _ rfl (.tmp 33) (.tmp 36) 39 rfl w.heap.size 30 i0 (.slice none 0 0) 1 24 Try.underlying39 hi iz0 iz1 iz2 rfl (by decide) w1.heap.size 0 0 [] rfl (own_empty3 30 1 rfl (by omega)) ⟨g, 0, none⟩ P c ((T.map hdr).take P) rfl (by have := HTL.out; simp; omega) (news_take (BAG1.out.alloc _).own P) (fun u hu => hdr_one T u (List.mem_of_mem_take hu)) (by unfold maxLen; omega) (by omega) (by first | omega | (simp; done) | (simp; omega)) ?_); intro g4 c4 w4 hown hgr hgg; (try simp only [Nat.zero_add, List.nil_append] at hown); have OWN4 := Lib.hid hown; have RW4 := Lib.hid (rows_grown (fun u hu => (BAG1.out.rows u hu).alloc _) hgr (fun u hu => by have := (BAG1.out.rows u hu).hi; omega)); have hg4 : w1.heap.size ≤ g4 := (by rcases hgg with h | h <;> ((try simp at h); omega)); have hg4l := (hown.lt g4 rfl).2; have HBB := Lib.hid (Below.grown ((Below.refl w1.heap.size w1).alloc (Nat.le_refl _) _) hgr (by simp) (fun k hk => by obtain rfl := Option.some.inj hk; exact Nat.le_refl _)); have hc4 := (HBB.out.cell (p := ⟨g0, o0 + k, none⟩) hgX).trans hcX; have HF4 := Lib.hid (HFX.out.below HBB.out); have OG4 := Lib.hid (own_keep BAG1.out.own (HBB.out.block _ hlo1.2)); have HB4 := Lib.hid (HB1.out.trans (HBB.out.mono hws1)); have hws4 := HB4.out.size; have hbb4 := HBB.out.size; clear hown hgr hgg)
              by_cases hcp : c = P
              · have hcp2 : P = c := hcp.symm
                subst hcp2
                have hPn : o.length = P := by omega
                refine wp_region_any (by kernel_rfl) ?_
                try go_simp
                refine wpAny_take (i := 0) (v := ?_) rfl (by kernel_rfl) (by kernel_rfl) (by kernel_rfl) (fun _ _ _ h => h) (Or.inl ⟨by rfl, ?_⟩) ?_
                rotate_left 1
                · (intro w; go_simp)
                  all_goals with_reducible rfl
                try go_simp
                refine wpAny_take (i := 1) (v := ?_) rfl (by kernel_rfl) (by kernel_rfl) (by kernel_rfl) (fun _ _ _ h => h) (Or.inl ⟨by rfl, ?_⟩) ?_
                rotate_left 1
                · (intro w; go_simp)
                  all_goals with_reducible rfl
                try go_simp
                refine wpAny_take (i := 2) (v := ?_) rfl (by kernel_rfl) (by kernel_rfl) (by kernel_rfl) (fun _ _ _ h => h) (Or.inl ⟨by rfl, ?_⟩) ?_
                rotate_left 1
                · (intro w; go_simp)
                  all_goals with_reducible rfl
                try go_simp
                refine wpAny_take (i := 8) (v := ?_) rfl (by kernel_rfl) (by kernel_rfl) (by kernel_rfl) (fun _ _ _ h => h) (Or.inl ⟨by rfl, ?_⟩) ?_
                rotate_left 1
                · (intro w; go_simp)
                  all_goals with_reducible rfl
                try go_simp
                refine wpAny_take (i := 9) (v := ?_) rfl (by kernel_rfl) (by kernel_rfl) (by kernel_rfl) (fun _ _ _ h => h) (Or.inl ⟨by rfl, ?_⟩) ?_
                rotate_left 1
                · (intro w; go_simp)
                  all_goals with_reducible rfl
                try go_simp
                refine wpAny_take (i := 3) (v := ?_) rfl (by kernel_rfl) (by kernel_rfl) (by kernel_rfl) (fun _ _ _ h => h) (Or.inl ⟨by rfl, ?_⟩) ?_
                rotate_left 1
                · (intro w; go_simp)
                  all_goals with_reducible rfl
                try go_simp
                refine wpAny_take (i := 10) (v := ?_) rfl (by kernel_rfl) (by kernel_rfl) (by kernel_rfl) (fun _ _ _ h => h) (Or.inl ⟨by rfl, ?_⟩) ?_
                rotate_left 1
                · (intro w; go_simp)
                  all_goals with_reducible rfl
                try go_simp
                refine wpAny_ready (rs := [4]) (by kernel_rfl) (by simp) ?_
                refine AllReady.cons rfl (fun K0 hK0 => ?_) AllReady.nil
                go_simp
                refine hK0 _ _ ?_
                clear hK0 K0
                refine wpAny_ready (rs := [5]) (by kernel_rfl) (by simp) ?_
                refine AllReady.cons rfl (fun K0 hK0 => ?_) AllReady.nil
                refine step_callW (by rfl) 79 _ _ rfl l3OwnEnters #[.slice (some ⟨gX, oX, none⟩) kl cX] rfl (CC.out _ HF4.out.drew) ?_
                rintro e w5 ⟨g5, c5, rfl, hr5, hb5⟩
                have OWN5 := Lib.hid (own_keep OWN4.out (hb5.block g4 hg4l))
                have RW5 := Lib.hid (fun u hu => (RW4.out u hu).drew.below hb5)
                have HR5 := Lib.hid (hr5.lower (B' := w.heap.size) hws4)
                have hlo5 := hr5.lo
                have hhi5 := hr5.hi
                have OG5 := Lib.hid (own_keep OG4.out (hb5.block g (OG4.out.lt g rfl).2))
                have HB5 := Lib.hid (HB4.out.drew.trans (hb5.mono hws4))
                have hws5 := HB5.out.size
                simp only at hlo5 hhi5
                have hlo6 : w4.heap.size ≤ g5 := hlo5
                clear hb5 hr5 OWN4 RW4 OG4 HB4 hlo5
                refine ⟨_, rfl, hK0 _ _ ?_⟩
                clear hK0 K0
                try go_simp
                refine wpAny_ready (rs := [6]) (by kernel_rfl) (by simp) ?_
                refine AllReady.cons rfl (fun K0 hK0 => ?_) AllReady.nil
                go_simp
                refine hK0 _ _ ?_
                clear hK0 K0
                refine wpAny_ready (rs := [7]) (by kernel_rfl) (by simp) ?_
                refine AllReady.cons rfl (fun K0 hK0 => ?_) AllReady.nil
                refine step_block rfl (.tmp 38) (.tmp 44) 39 rfl w.heap.size 30 i0 (.slice none 0 0) 1 24 Try.underlying39 hi iz0 iz1 iz2 rfl (by decide) g4 P c4 ((T.map hdr).take P) rfl (OWN5.out.alloc _) _ 1 1 [.slice (some ⟨g5, 0, none⟩) kl c5] rfl rfl (news_new (by first | rfl | simp)) (by simp [Value.oneCell']) (by unfold maxLen; omega) (by omega) (by first | omega | (simp; done) | (simp; omega)) ?_
                intro g6 c6 w6 hown hgr hgg
                have OWN6 := Lib.hid hown
                have RW6 := Lib.hid (rows_grown (fun u hu => (RW5.out u hu).alloc _) hgr (fun u hu => by have := (BAG1.out.rows u hu).hi; omega))
                have R6 := Lib.hid (row_grown (HR5.out.alloc _) hgr (by simp only; omega))
                have OG6 := Lib.hid (own_grownB (OG5.out.alloc _) hgr (by omega))
                have HB6 := Lib.hid (Below.grown (HB5.out.alloc hws5 _) hgr (by simp; omega) (fun k hk => by obtain rfl := Option.some.inj hk; omega))
                have hg6 : g6 = g4 ∨ w5.heap.size < g6 := (by rcases hgg with h | h <;> ((try simp at h); omega))
                have hg6l := (hown.lt g6 rfl).2
                have hz56 : w5.heap.size ≤ w6.heap.size := (by have := hgr.size; simp at this; omega)
                have hws6 := HB6.out.size
                clear hown hgr hgg OWN5 RW5 HR5 OG5 HB5
                refine hK0 _ _ ?_
                clear hK0 K0
                try go_simp
                refine wpAny_ready (rs := [11]) (by kernel_rfl) (by simp) ?_
                refine AllReady.cons rfl (fun K0 hK0 => ?_) AllReady.nil
                refine step_block rfl (.tmp 45) (.tmp 48) 39 rfl w.heap.size 30 i0 (.slice none 0 0) 1 24 Try.underlying39 hi iz0 iz1 iz2 rfl (by decide) g6 (P + 1) c6 ((T.map hdr).take P ++ [.slice (some ⟨g5, 0, none⟩) kl c5]) rfl OWN6.out _ _ _ ((T.map hdr).drop P) rfl (by have := HTL.out; simp; omega) (fun j u hj => absurd hj (by have := HTL.out; rw [List.drop_eq_nil_of_le (by simp; omega)]; simp)) (fun u hu => hdr_one T u (List.mem_of_mem_drop hu)) (by unfold maxLen; omega) (by omega) (by omega) ?_
                intro g7 c7 w7 hown hgr hgg
                have RW7 := Lib.hid (rows_grown RW6.out hgr (fun u hu => by have := (BAG1.out.rows u hu).hi; omega))
                have R7 := Lib.hid (row_grown R6.out hgr (by simp only; omega))
                have HB7 := Lib.hid (Below.grown HB6.out hgr hws6 (fun k hk => by obtain rfl := Option.some.inj hk; omega))
                have hg7 : g7 = g6 ∨ w6.heap.size ≤ g7 := hgg
                have BAG7 := Lib.hid (sort_end (g3 := g7) (c3 := c7) (t := (g5, c5, K)) BAG1.out RW7.out R7.out (fun u hu => by have := (BAG1.out.rows u hu).hi; simp only; omega) (fun u hu => by have := (BAG1.out.rows u hu).hi; omega) (by simp only; omega) (by have h := hown; rw [← HKL.out, List.append_assoc] at h; exact h) (by omega) HPE.out)
                clear hown hgr hgg RW6 R6 OG6 HB6 OWN6
                refine hK0 _ _ ?_
                clear hK0 K0
                try go_simp
                refine wpAny_take (i := 12) (v := ?_) rfl (by kernel_rfl) (by kernel_rfl) (by kernel_rfl) (fun _ _ _ h => h) (Or.inl ⟨by rfl, ?_⟩) ?_
                rotate_left 1
                · (intro w; go_simp)
                  all_goals with_reducible rfl
                try go_simp
                refine wpAny_done (by kernel_rfl) ?_ _
                have HZL : (putI o K).length = o.length + 1 := putI_len _ _
                have HZ2 := Lib.hid HZL
                clear HZL
                go_wp2
                exact ⟨⟨k + 1, g7, c7, _, putI o K, by omega, by go_num, by rw [HZ2.out]; exact congrArg (fun n => Value.slice (some ⟨g7, 0, none⟩) n c7) (by omega), HSO, BAG7, HB7⟩, by simp [intOf]; omega⟩
              · skip
                refine wp_region_any (by kernel_rfl) ?_
                try go_simp
                refine wpAny_take (i := 0) (v := ?_) rfl (by kernel_rfl) (by kernel_rfl) (by kernel_rfl) (fun _ _ _ h => h) (Or.inl ⟨by rfl, ?_⟩) ?_
                rotate_left 1
                · (intro w; go_simp)
                  all_goals with_reducible rfl
                try go_simp
                refine wpAny_take (i := 1) (v := ?_) rfl (by kernel_rfl) (by kernel_rfl) (by kernel_rfl) (fun _ _ _ h => h) (Or.inl ⟨by rfl, ?_⟩) ?_
                rotate_left 1
                · (intro w; go_simp)
                  all_goals with_reducible rfl
                try go_simp
                refine wpAny_take (i := 2) (v := ?_) rfl (by kernel_rfl) (by kernel_rfl) (by kernel_rfl) (fun _ _ _ h => h) (Or.inl ⟨by rfl, ?_⟩) ?_
                rotate_left 1
                · (intro w; go_simp)
                  all_goals with_reducible rfl
                try go_simp
                refine wpAny_take (i := 8) (v := ?_) rfl (by kernel_rfl) (by kernel_rfl) (by kernel_rfl) (fun _ _ _ h => h) (Or.inl ⟨by rfl, ?_⟩) ?_
                rotate_left 1
                · (intro w; go_simp)
                  all_goals with_reducible rfl
                try go_simp
                refine wpAny_take (i := 9) (v := ?_) rfl (by kernel_rfl) (by kernel_rfl) (by kernel_rfl) (fun _ _ _ h => h) (Or.inl ⟨by rfl, ?_⟩) ?_
                rotate_left 1
                · (intro w; go_simp)
                  all_goals with_reducible rfl
                try go_simp
                refine wpAny_take (i := 3) (v := ?_) rfl (by kernel_rfl) (by kernel_rfl) (by kernel_rfl) (fun _ _ _ h => h) (Or.inl ⟨by rfl, ?_⟩) ?_
                rotate_left 1
                · (intro w; go_simp)
                  all_goals with_reducible rfl
                try go_simp
                refine wpAny_take (i := 10) (v := ?_) rfl (by kernel_rfl) (by kernel_rfl) (by kernel_rfl) (fun _ _ _ h => h) (Or.inl ⟨by rfl, ?_⟩) ?_
                rotate_left 1
                · (intro w; go_simp)
                  all_goals with_reducible rfl
                try go_simp
                refine wpAny_ready (rs := [4]) (by kernel_rfl) (by simp) ?_
                refine AllReady.cons rfl (fun K0 hK0 => ?_) AllReady.nil
                go_simp
                refine hK0 _ _ ?_
                clear hK0 K0
                refine wpAny_ready (rs := [5]) (by kernel_rfl) (by simp) ?_
                refine AllReady.cons rfl (fun K0 hK0 => ?_) AllReady.nil
                refine step_callW (by rfl) 79 _ _ rfl l3OwnEnters #[.slice (some ⟨gX, oX, none⟩) kl cX] rfl (CC.out _ HF4.out.drew) ?_
                rintro e w5 ⟨g5, c5, rfl, hr5, hb5⟩
                have OWN5 := Lib.hid (own_keep OWN4.out (hb5.block g4 hg4l))
                have RW5 := Lib.hid (fun u hu => (RW4.out u hu).drew.below hb5)
                have HR5 := Lib.hid (hr5.lower (B' := w.heap.size) hws4)
                have hlo5 := hr5.lo
                have hhi5 := hr5.hi
                have OG5 := Lib.hid (own_keep OG4.out (hb5.block g (OG4.out.lt g rfl).2))
                have HB5 := Lib.hid (HB4.out.drew.trans (hb5.mono hws4))
                have hws5 := HB5.out.size
                simp only at hlo5 hhi5
                have hlo6 : w4.heap.size ≤ g5 := hlo5
                clear hb5 hr5 OWN4 RW4 OG4 HB4 hlo5
                refine ⟨_, rfl, hK0 _ _ ?_⟩
                clear hK0 K0
                try go_simp
                refine wpAny_ready (rs := [6]) (by kernel_rfl) (by simp) ?_
                refine AllReady.cons rfl (fun K0 hK0 => ?_) AllReady.nil
                go_simp
                refine hK0 _ _ ?_
                clear hK0 K0
                refine wpAny_ready (rs := [7]) (by kernel_rfl) (by simp) ?_
                refine AllReady.cons rfl (fun K0 hK0 => ?_) AllReady.nil
                refine step_block rfl (.tmp 38) (.tmp 44) 39 rfl w.heap.size 30 i0 (.slice none 0 0) 1 24 Try.underlying39 hi iz0 iz1 iz2 rfl (by decide) g4 P c4 ((T.map hdr).take P) rfl (OWN5.out.alloc _) _ 1 1 [.slice (some ⟨g5, 0, none⟩) kl c5] rfl rfl (news_new (by first | rfl | simp)) (by simp [Value.oneCell']) (by unfold maxLen; omega) (by omega) (by first | omega | (simp; done) | (simp; omega)) ?_
                intro g6 c6 w6 hown hgr hgg
                have OWN6 := Lib.hid hown
                have RW6 := Lib.hid (rows_grown (fun u hu => (RW5.out u hu).alloc _) hgr (fun u hu => by have := (BAG1.out.rows u hu).hi; omega))
                have R6 := Lib.hid (row_grown (HR5.out.alloc _) hgr (by simp only; omega))
                have OG6 := Lib.hid (own_grownB (OG5.out.alloc _) hgr (by omega))
                have HB6 := Lib.hid (Below.grown (HB5.out.alloc hws5 _) hgr (by simp; omega) (fun k hk => by obtain rfl := Option.some.inj hk; omega))
                have hg6 : g6 = g4 ∨ w5.heap.size < g6 := (by rcases hgg with h | h <;> ((try simp at h); omega))
                have hg6l := (hown.lt g6 rfl).2
                have hz56 : w5.heap.size ≤ w6.heap.size := (by have := hgr.size; simp at this; omega)
                have hws6 := HB6.out.size
                clear hown hgr hgg OWN5 RW5 HR5 OG5 HB5
                refine hK0 _ _ ?_
                clear hK0 K0
                try go_simp
                refine wpAny_ready (rs := [11]) (by kernel_rfl) (by simp) ?_
                refine AllReady.cons rfl (fun K0 hK0 => ?_) AllReady.nil
                refine step_block rfl (.tmp 45) (.tmp 48) 39 rfl w.heap.size 30 i0 (.slice none 0 0) 1 24 Try.underlying39 hi iz0 iz1 iz2 rfl (by decide) g6 (P + 1) c6 ((T.map hdr).take P ++ [.slice (some ⟨g5, 0, none⟩) kl c5]) rfl OWN6.out _ _ _ ((T.map hdr).drop P) rfl (by have := HTL.out; simp; omega) (news_drop OG6.out P) (fun u hu => hdr_one T u (List.mem_of_mem_drop hu)) (by unfold maxLen; omega) (by omega) (by omega) ?_
                intro g7 c7 w7 hown hgr hgg
                have RW7 := Lib.hid (rows_grown RW6.out hgr (fun u hu => by have := (BAG1.out.rows u hu).hi; omega))
                have R7 := Lib.hid (row_grown R6.out hgr (by simp only; omega))
                have HB7 := Lib.hid (Below.grown HB6.out hgr hws6 (fun k hk => by obtain rfl := Option.some.inj hk; omega))
                have hg7 : g7 = g6 ∨ w6.heap.size ≤ g7 := hgg
                have BAG7 := Lib.hid (sort_end (g3 := g7) (c3 := c7) (t := (g5, c5, K)) BAG1.out RW7.out R7.out (fun u hu => by have := (BAG1.out.rows u hu).hi; simp only; omega) (fun u hu => by have := (BAG1.out.rows u hu).hi; omega) (by simp only; omega) (by have h := hown; rw [← HKL.out, List.append_assoc] at h; exact h) (by omega) HPE.out)
                clear hown hgr hgg RW6 R6 OG6 HB6 OWN6
                refine hK0 _ _ ?_
                clear hK0 K0
                try go_simp
                refine wpAny_take (i := 12) (v := ?_) rfl (by kernel_rfl) (by kernel_rfl) (by kernel_rfl) (fun _ _ _ h => h) (Or.inl ⟨by rfl, ?_⟩) ?_
                rotate_left 1
                · (intro w; go_simp)
                  all_goals with_reducible rfl
                try go_simp
                refine wpAny_done (by kernel_rfl) ?_ _
                have HZL : (putI o K).length = o.length + 1 := putI_len _ _
                have HZ2 := Lib.hid HZL
                clear HZL
                go_wp2
                exact ⟨⟨k + 1, g7, c7, _, putI o K, by omega, by go_num, by rw [HZ2.out]; exact congrArg (fun n => Value.slice (some ⟨g7, 0, none⟩) n c7) (by omega), HSO, BAG7, HB7⟩, by simp [intOf]; omega⟩
    · obtain rfl : k = ls.length := by omega
      have HO2 : Hid (o = sortI ls) := by show _ = _; have := HO.out; rwa [List.take_length] at this
      obtain rfl := HO2.out
      go_wp2
      go_ret
      exact ⟨g, c, T, rfl, BAG.out, HB.out⟩
end Go.Proofs.Ytcddkleglmbfgaa.Val
