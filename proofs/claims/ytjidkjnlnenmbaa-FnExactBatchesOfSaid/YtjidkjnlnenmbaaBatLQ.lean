/- Lists of batches of one's own: compared, marked, told again. -/
import Derived.Test.YtjidkjnlnenmbaaBatCQ
namespace Go.Proofs.Ytjidkjnlnenmbaa.Val
open Go.RowKit
set_option linter.unusedVariables false
set_option linter.unusedSimpArgs false
set_option maxRecDepth 8000
/-- A flat row of one's own behind a header that may be nil. -/
def PkV (w : World) (B : Nat) (v : Value) (n : Nat) (xs : List Value) : Prop := (v = .slice none 0 0 ∧ n = 0 ∧ xs = []) ∨ ∃ g c, v = .slice (some ⟨g, 0, none⟩) n c ∧ FlO w B g c n xs
theorem PkV.of_own {w : World} {B n : Nat} {e : TypeId} {v : Value} {xs : List Value} (h : w.ownsRow B e 1 v n xs) : PkV w B v n xs := by
  have hh := h
  rcases h.2 with ⟨hv, hn⟩ | ⟨g, cap, cur, rfl, hB, _, h1, h2, _⟩
  · exact .inl ⟨hv, hn, List.eq_nil_of_length_eq_zero (by rw [h.1, hn])⟩
  · refine .inr ⟨g, cap, rfl, ⟨fun _ => rfl, fun j hj => ?_⟩, fun j hj => hh.frozenAt j, hB, (own_hi hh g rfl).2, h1, h2⟩
    rw [Nat.zero_add, hh.cellAt j (by rw [← hh.1]; exact hj), List.getElem?_eq_getElem hj]
theorem PkV.keep {w w' : World} {B n : Nat} {v : Value} {xs : List Value} (h : PkV w B v n xs) (hz : w.heap.size ≤ w'.heap.size) (hk : ∀ k, v.ownBlock = some k → w'.heap[k]? = w.heap[k]?) : PkV w' B v n xs := by
  rcases h with h | ⟨g, c, rfl, h⟩
  · exact .inl h
  · exact .inr ⟨g, c, rfl, h.keep hz (hk g rfl)⟩
theorem PkV.hi {w : World} {B n : Nat} {v : Value} {xs : List Value} (h : PkV w B v n xs) : ∀ k, v.ownBlock = some k → B ≤ k ∧ k < w.heap.size := by
  rcases h with ⟨rfl, -⟩ | ⟨g, c, rfl, h⟩
  · intro k hk; simp [Value.ownBlock] at hk
  · intro k hk
    obtain rfl : g = k := by simpa [Value.ownBlock] using hk
    exact ⟨h.lo, h.hi⟩
theorem PkV.lower {w : World} {B B' n : Nat} {v : Value} {xs : List Value} (h : PkV w B v n xs) (hB : B' ≤ B) : PkV w B' v n xs := by
  rcases h with h | ⟨g, c, h1, h⟩
  · exact .inl h
  · exact .inr ⟨g, c, h1, h.lower hB⟩
theorem PkV.fl {w : World} {B n : Nat} {v : Value} {xs : List Value} (h : PkV w B v n xs) : ∃ (A : Option Addr) (g c : Nat), v = .slice A n c ∧ Fl w g 0 A xs := by
  rcases h with ⟨rfl, rfl, rfl⟩ | ⟨g, c, rfl, h⟩
  · exact ⟨none, 0, 0, rfl, fun h => absurd h (by simp), fun j hj => absurd hj (by simp)⟩
  · exact ⟨_, g, c, rfl, h.fl⟩
/-- A batch of one's own, in a list: its headers, its columns, what is picked. -/
abbrev UB := Value × Value × List TT × List Bool
def baOf (u : UB) : BA := (u.2.2.1.map fun t => t.2.2, u.2.2.2)
def hdW (u : UB) : List Value := [u.1, u.2.1]
def blkW (u : UB) : List Nat := blkV u.1 u.2.2.1 ++ u.2.1.ownBlock.toList
structure BatU (w : World) (B : Nat) (u : UB) : Prop where
  bag : BagV w B u.1 u.2.2.1 (u.2.2.1.map fun t => t.2.2)
  pk : PkV w B u.2.1 u.2.2.2.length (u.2.2.2.map tv)
  ne : ∀ b ∈ blkV u.1 u.2.2.1, u.2.1.ownBlock ≠ some b
theorem BatU.hi {w : World} {B : Nat} {u : UB} (h : BatU w B u) : ∀ b ∈ blkW u, B ≤ b ∧ b < w.heap.size := by
  intro b hb
  rcases List.mem_append.1 hb with hb | hb
  · exact h.bag.hi b hb
  · exact h.pk.hi b (by simpa using hb)
theorem BatU.keep {w w' : World} {B : Nat} {u : UB} (h : BatU w B u) (hz : w.heap.size ≤ w'.heap.size) (hk : ∀ b ∈ blkW u, w'.heap[b]? = w.heap[b]?) : BatU w' B u :=
  ⟨h.bag.keep hz fun b hb => hk b (List.mem_append.2 (.inl hb)), h.pk.keep hz fun k hv => hk k (List.mem_append.2 (.inr (by simpa using hv))), h.ne⟩
theorem BatU.below {w w' : World} {B : Nat} {u : UB} (h : BatU w B u) (hb : Below w.heap.size w w') : BatU w' B u := h.keep hb.size fun b hm => hb.block _ (h.hi b hm).2
theorem BatU.lower {w : World} {B B' : Nat} {u : UB} (h : BatU w B u) (hB : B' ≤ B) : BatU w B' u := ⟨h.bag.lower hB, h.pk.lower hB, h.ne⟩
theorem flatW_get (U : List UB) (i : Nat) (h : i < U.length) : (U.flatMap hdW)[i * 2]? = some U[i].1 ∧ (U.flatMap hdW)[i * 2 + 1]? = some U[i].2.1 := by
  induction U generalizing i with
  | nil => simp at h
  | cons v vs ih =>
    cases i with
    | zero => simp [hdW]
    | succ i =>
      have := ih i (by simpa using h)
      rw [List.flatMap_cons, show (i + 1) * 2 = i * 2 + 1 + 1 by omega]
      simpa [hdW] using this
/-- A list of batches of one's own. -/
structure BLs (w : World) (B g cap : Nat) (U : List UB) (bas : List BA) : Prop where
  eq : U.map baOf = bas
  own : w.ownsRow B 30 2 (.slice (some ⟨g, 0, none⟩) bas.length cap) bas.length (U.flatMap hdW)
  bats : ∀ u ∈ U, BatU w B u
  pw : ∀ i j (hi : i < U.length) (hj : j < U.length), i ≠ j → ∀ b ∈ blkW U[i], b ∉ blkW U[j]
  ng : ∀ u ∈ U, g ∉ blkW u
theorem BLs.len {w : World} {B g cap : Nat} {U : List UB} {bas : List BA} (h : BLs w B g cap U bas) : U.length = bas.length := by rw [← h.eq, List.length_map]
theorem BLs.lo {w : World} {B g cap : Nat} {U : List UB} {bas : List BA} (h : BLs w B g cap U bas) : B ≤ g ∧ g < w.heap.size := h.own.lt g rfl
theorem BLs.hi {w : World} {B g cap : Nat} {U : List UB} {bas : List BA} (h : BLs w B g cap U bas) : ∀ b ∈ U.flatMap blkW, B ≤ b ∧ b < w.heap.size := by
  intro b hb
  obtain ⟨u, hu, hb⟩ := List.mem_flatMap.1 hb
  exact (h.bats u hu).hi b hb
theorem BLs.keep {w w' : World} {B g cap : Nat} {U : List UB} {bas : List BA} (h : BLs w B g cap U bas) (hz : w.heap.size ≤ w'.heap.size) (hg : w'.heap[g]? = w.heap[g]?) (hk : ∀ b ∈ U.flatMap blkW, w'.heap[b]? = w.heap[b]?) : BLs w' B g cap U bas :=
  ⟨h.eq, own_keep h.own hg, fun u hu => (h.bats u hu).keep hz fun b hb => hk b (List.mem_flatMap.2 ⟨u, hu, hb⟩), h.pw, h.ng⟩
theorem BLs.below {w w' : World} {B g cap : Nat} {U : List UB} {bas : List BA} (h : BLs w B g cap U bas) (hb : Below w.heap.size w w') : BLs w' B g cap U bas :=
  h.keep hb.size (hb.block _ h.lo.2) fun b hm => hb.block _ (h.hi b hm).2
theorem BLs.alloc {w : World} {B g cap : Nat} {U : List UB} {bas : List BA} (h : BLs w B g cap U bas) (ob : Obj) : BLs (w.alloc ob) B g cap U bas := h.below ((Below.refl _ _).alloc (Nat.le_refl _) _)
theorem BLs.drew {w : World} {B g cap : Nat} {U : List UB} {bas : List BA} (h : BLs w B g cap U bas) : BLs w.drew B g cap U bas := h.below ((Below.refl _ _).drew)
theorem BLs.lower {w : World} {B B' g cap : Nat} {U : List UB} {bas : List BA} (h : BLs w B g cap U bas) (hB : B' ≤ B) : BLs w B' g cap U bas := ⟨h.eq, own_lowerB h.own hB, fun u hu => (h.bats u hu).lower hB, h.pw, h.ng⟩
theorem BLs.empty (w : World) {X : Nat} (hX : w.heap.size = X) : BLs (w.alloc (.cells #[] 30)) X X 0 [] [] := by
  subst hX
  exact ⟨rfl, own_empty3 30 2 rfl (Nat.le_refl _), fun u hu => absurd hu (by simp), fun i j hi => absurd hi (by simp), fun u hu => absurd hu (by simp)⟩
theorem BLs.at {w : World} {B g cap : Nat} {U : List UB} {bas : List BA} (h : BLs w B g cap U bas) (j : Nat) (hj : j < bas.length) : g < w.heap.size ∧ ∃ (A1 : Option Addr) (c1 g1 : Nat) (A2 : Option Addr) (c2 g2 : Nat), w.cell? ⟨g, j * 2, none⟩ = some (.slice A1 bas[j].1.length c1) ∧ w.cell? ⟨g, j * 2 + 1, none⟩ = some (.slice A2 bas[j].2.length c2) ∧ BatR w A1 g1 0 A2 g2 0 bas[j].1 bas[j].2 := by
  have hl := h.len
  have hj2 : j < U.length := by omega
  have hu := h.bats U[j] (List.getElem_mem _)
  have he : bas[j] = baOf U[j] := by
    have := h.eq
    subst this
    simp
  obtain ⟨q0, q1⟩ := flatW_get U j hj2
  obtain ⟨A1, g1, c1, hv, hb⟩ := hu.bag.bagN
  obtain ⟨A2, g2, c2, hv2, hf⟩ := hu.pk.fl
  refine ⟨h.lo.2, A1, c1, g1, A2, c2, g2, ?_, ?_, ?_⟩
  · rw [h.own.cellAt _ (by omega), q0, hv, he]; rfl
  · rw [h.own.cellAt _ (by omega), q1, hv2, he]; rfl
  · rw [he]; exact ⟨hb.rws, hf⟩
/-- A batch more. -/
theorem BLs.push {w1 w2 w' : World} {B g cap g' cap' n : Nat} {U : List UB} {bas : List BA} {u : UB} {ob : Obj} (h : BLs w1 B g cap U bas) (hu : BatU w2 w1.heap.size u) (hb : Below w1.heap.size w1 w2) (hnl : n = bas.length + 1)
    (hown : w'.ownsRow B 30 2 (.slice (some ⟨g', 0, none⟩) n cap') n (U.flatMap hdW ++ hdW u)) (hgr : (w2.alloc ob).grownBy w' (some g)) (hgg : g' = g ∨ (w2.alloc ob).heap.size ≤ g') : BLs w' B g' cap' (U ++ [u]) (bas ++ [baOf u]) := by
  subst hnl
  have hl := h.len
  have hglo := h.lo
  have h2 := (h.below hb).alloc ob
  have hz2 : (w2.alloc ob).heap.size = w2.heap.size + 1 := by simp
  have huh := hu.hi
  have hbs := hb.size
  have hu2 : BatU (w2.alloc ob) w1.heap.size u := hu.below ((Below.refl _ _).alloc (Nat.le_refl _) _)
  have hk : ∀ b, b < (w2.alloc ob).heap.size → b ≠ g → w'.heap[b]? = (w2.alloc ob).heap[b]? := fun b hb hne => hgr.block _ hb (fun e => hne (Option.some.inj e))
  refine ⟨by rw [List.map_append, h.eq]; rfl, ?_, ?_, ?_, ?_⟩
  · rw [List.length_append, List.flatMap_append]
    simpa using hown
  · intro v hv
    rcases List.mem_append.1 hv with hv | hv
    · exact (h2.bats v hv).keep hgr.size fun b hb => hk b ((h2.bats v hv).hi b hb).2 (fun e => h.ng v hv (by rw [← e]; exact hb))
    · obtain rfl := List.mem_singleton.1 hv
      exact (hu2.lower (by omega)).keep hgr.size fun b hb => hk b (by have := (huh b hb).2; omega) (fun e => by have := (huh b hb).1; omega)
  · intro i j hi hj hij b hb1 hb2
    simp only [List.length_append, List.length_singleton] at hi hj
    have hold : ∀ k (hk : k < U.length), ∀ b ∈ blkW U[k], b < w1.heap.size := fun k hk b hb => ((h.bats _ (List.getElem_mem hk)).hi b hb).2
    by_cases h3 : i < U.length
    · rw [List.getElem_append_left h3] at hb1
      by_cases h4 : j < U.length
      · rw [List.getElem_append_left h4] at hb2
        exact h.pw i j h3 h4 hij b hb1 hb2
      · rw [List.getElem_append_right (by omega)] at hb2
        simp at hb2
        have := hold i h3 b hb1
        have := (huh b hb2).1
        omega
    · rw [List.getElem_append_right (by omega)] at hb1
      simp at hb1
      by_cases h4 : j < U.length
      · rw [List.getElem_append_left h4] at hb2
        have := hold j h4 b hb2
        have := (huh b hb1).1
        omega
      · omega
  · intro v hv e
    have hlt : g' < (w2.alloc ob).heap.size ∧ g' ≠ g := by
      rcases List.mem_append.1 hv with hv | hv
      · exact ⟨((h2.bats v hv).hi g' e).2, fun e2 => h.ng v hv (by rw [← e2]; exact e)⟩
      · obtain rfl := List.mem_singleton.1 hv
        exact ⟨by have := (huh g' e).2; omega, fun e2 => by have := (huh g' e).1; omega⟩
    rcases hgg with hgg | hgg
    · exact hlt.2 hgg
    · omega
def OkB (bas : List BA) : Prop := bas.length ≤ 2000000 ∧ ∀ b ∈ bas, Ok2 b.1 ∧ b.2.length ≤ 2000000
/-- Two lists of the same batches. -/
theorem eqBatchS (B B2 g g2 cA cB : Nat) (U V : List UB) (bas : List BA) (w : World) (hA : BLs w B g cA U bas) (hB : BLs w B2 g2 cB V bas) (hok : OkB bas) :
    Calls Try.prog 29 #[.slice (some ⟨g, 0, none⟩) bas.length cA, .slice (some ⟨g2, 0, none⟩) bas.length cB] w fun e w' => e = .returned (.bool true) ∧ Below w.heap.size w w' := by
  have HA := Lib.hid hA
  have HB := Lib.hid hB
  have HK := Lib.hid hok
  have hl := hok.1
  clear hA hB hok
  have e0 : ((bas.length : Int) != bas.length) = false := by simp
  go_enter Try.func29, Try.ntmps29
  go_wp2
  go_loopw [5] (fun ix wr => ∃ (k : Nat), k ≤ bas.length ∧ ix = .int .i64 k ∧ Hid (Below w.heap.size w wr)) (fun ix _ => bas.length - (intOf ix).toNat)
  case atStart => exact ⟨0, by omega, rfl, Below.refl _ _⟩
  case round =>
    obtain ⟨k, hk, rfl, HW⟩ := hrel
    by_cases hlt : k < bas.length
    · obtain ⟨hg, A1, c1, g1, A2, c2, p2, hc0, hc1, hr1⟩ := (HA.out.below HW.out).at k hlt
      obtain ⟨hg', B1, d1, h1, B2, d2, h2, hd0, hd1, hr2⟩ := (HB.out.below HW.out).at k hlt
      have HR1 := Lib.hid hr1
      have HR2 := Lib.hid hr2
      obtain ⟨hlc, hlr⟩ := HK.out.2 _ (List.getElem_mem hlt)
      obtain ⟨K, hK⟩ : ∃ K, bas[k] = K := ⟨_, rfl⟩
      rw [hK] at hc0 hc1 hd0 hd1 HR1 HR2 hlc hlr
      clear hK hr1 hr2
      obtain ⟨ls, bs⟩ := K
      simp only at hc0 hc1 hd0 hd1 HR1 HR2 hlc hlr
      have CE := Lib.hid (fun W a b => eqBatch A1 A2 B1 B2 g1 0 c1 p2 0 c2 h1 0 d1 h2 0 d2 ls bs W a b hlc hlr)
      obtain ⟨kl, hkl⟩ : ∃ n, ls.length = n := ⟨_, rfl⟩
      rw [hkl] at hc0 hd0 CE
      obtain ⟨kr, hkr⟩ : ∃ n, bs.length = n := ⟨_, rfl⟩
      rw [hkr] at hc1 hd1 CE
      clear hkl hkr hlc hlr
      have i0' : (0 : Int) ≤ (k : Int) := by omega
      have i1' : (k : Int) < (bas.length : Int) := by omega
      go_wp2
      go_region_with (go_at_call 16; (with_reducible refine (CE.out _ (by repeat (with_reducible first | exact HR1.out | apply BatR.drew)) (by repeat (with_reducible first | exact HR2.out | apply BatR.drew))).mono ?_); rintro e w1 ⟨rfl, hb1⟩; have HW1 := Lib.hid (HW.out.drew.trans (hb1.mono HW.out.size)); clear hb1 HW)
      all_goals go_wp2
      all_goals exact ⟨⟨k + 1, by omega, by go_num, HW1⟩, by simp [intOf]; omega⟩
    · obtain rfl : k = bas.length := by omega
      go_wp2
      go_ret
      exact ⟨rfl, HW.out⟩
theorem Bag.bagV {w : World} {B g c : Nat} {T : List TT} {ls : List RT} (h : Bag w B g c T ls) : BagV w B (.slice (some ⟨g, 0, none⟩) ls.length c) T ls :=
  ⟨h.eq, h.own, h.rows, h.nd, fun t ht e => h.ng t ht (by simpa [Value.ownBlock] using e.symm)⟩
theorem markBV (N B : Nat) (v : Value) (T : List TT) (w : World) (hN : 0 < N) (h : BagV w B v T (T.map fun t => t.2.2)) (hl : N + 3 * tot T ≤ 7000000) (hl2 : T.length ≤ 2000000) :
    Calls Try.prog 21 #[v, .int .i64 (N : Int)] w fun e w' => e = .returned (.int .i64 ((N + 3 * tot T : Nat) : Int)) ∧ BagV w' B v (markT N T) ((markT N T).map fun t => t.2.2) ∧ OnlyT (T.map fun t => t.1) w w' := by
  obtain ⟨A, g, c, rfl, hb⟩ := h.bagN
  rcases hb with ⟨rfl, hb⟩ | ⟨rfl, rfl, -, rfl⟩
  · refine (markValueSS N B g c _ T _ w hN hb (by simp) hl hl2).mono ?_
    rintro e w' ⟨rfl, h1, h2⟩
    refine ⟨rfl, ?_, h2⟩
    have := h1.bagV
    rw [List.length_map, markT_len] at this
    rwa [List.length_map]
  · refine (markNil (N : Int) w).mono ?_
    rintro e w' ⟨rfl, rfl⟩
    exact ⟨by simp [tot, total], h, OnlyT.refl _ _⟩
theorem heldBV (N B : Nat) (v : Value) (T : List TT) (w : World) (hN : 0 < N) (h : BagV w B v (markT N T) ((markT N T).map fun t => t.2.2)) (hl : N + 3 * tot T ≤ 7000000) (hl2 : T.length ≤ 2000000) :
    Calls Try.prog 22 #[v, .int .i64 (N : Int)] w fun e w' => e = .returned (.int .i64 ((N + 3 * tot T : Nat) : Int)) ∧ Below w.heap.size w w' := by
  obtain ⟨A, g, c, rfl, hb⟩ := h.bagN
  rcases hb with ⟨rfl, hb⟩ | ⟨rfl, rfl, hls, hT⟩
  · exact heldValueSS N B g c _ T _ w hN hb (by simp [markT_len]) hl hl2
  · have hT0 : T = [] := by
      cases T with
      | nil => rfl
      | cons t T => simp [markT] at hT
    subst hT0
    refine (heldNil (N : Int) w).mono ?_
    rintro e w' ⟨rfl, rfl⟩
    exact ⟨by simp [tot, total], Below.refl _ _⟩
theorem markPk (N B : Nat) (v : Value) (n : Nat) (xs : List Value) (w : World) (h : PkV w B v n xs) (hx : xs.length = n) (hl : N + n ≤ 7000000) :
    Calls Try.prog 65 #[v, .int .i64 (N : Int)] w fun e w' => e = .returned (.int .i64 ((N + n : Nat) : Int)) ∧ PkV w' B v n ((marksB N n).map tv) ∧ OnlyT v.ownBlock.toList w w' := by
  rcases h with ⟨rfl, rfl, rfl⟩ | ⟨g, c, rfl, h⟩
  · refine (markBoolSK N none 0 0 0 w (by omega) (fun h => absurd h (by omega)) (fun j hj => absurd hj (by simp [marksB]))).mono ?_
    rintro e w' ⟨rfl, hz, ho, hf⟩
    obtain rfl := hz rfl
    exact ⟨rfl, .inl ⟨rfl, rfl, rfl⟩, OnlyT.refl _ _⟩
  · refine (markBoolSK N (some ⟨g, 0, none⟩) g c n w hl (fun _ => rfl) (h.fill (by simp [marksB_len, hx]))).mono ?_
    rintro e w' ⟨rfl, hz, ho, hf⟩
    refine ⟨rfl, .inr ⟨g, c, rfl, ?_⟩, (OnlyT.refl _ _).only ho (by simp [Value.ownBlock])⟩
    have hln : ((marksB N n).map tv).length = n := by simp [marksB_len]
    have hf2 : Fill w' g ((marksB N n).map tv) ((marksB N n).map tv).length := by rw [hln]; exact hf
    exact ⟨hf2.fl, fun j hj => (hf2 j hj).2.1, h.lo, Nat.lt_of_lt_of_le h.hi ho.size, h.cap⟩
theorem heldPk (N B : Nat) (v : Value) (n : Nat) (w : World) (h : PkV w B v n ((marksB N n).map tv)) (hl : N + n ≤ 7000000) :
    Calls Try.prog 76 #[v, .int .i64 (N : Int)] w fun e w' => e = .returned (.int .i64 ((N + n : Nat) : Int)) ∧ Below w.heap.size w w' := by
  obtain ⟨A, g, c, rfl, hf⟩ := h.fl
  exact heldBoolSK N A g c n w hl hf
/-- How many marks a batch takes; a batch with marks from N on. -/
def szW (u : UB) : Nat := 3 * tot u.2.2.1 + u.2.2.2.length
def sumW (U : List UB) : Nat := (U.map szW).sum
def mkU (N : Nat) (u : UB) : UB := (u.1, u.2.1, markT N u.2.2.1, marksB (N + 3 * tot u.2.2.1) u.2.2.2.length)
theorem blk_mkU (N : Nat) (u : UB) : blkW (mkU N u) = blkW u := by simp only [blkW, mkU, blkV, markT_block]
theorem sumW_snoc (U : List UB) (k : Nat) (hk : k < U.length) : sumW (U.take (k + 1)) = sumW (U.take k) + szW U[k] := by
  rw [sumW, sumW, List.take_add_one, List.getElem?_eq_getElem hk]
  simp only [List.map_append, List.sum_append, Option.toList_some, List.map_cons, List.map_nil, List.sum_cons, List.sum_nil, Nat.add_zero]
theorem sumW_le (U : List UB) (k : Nat) : sumW (U.take k) ≤ sumW U := by
  have h : sumW (U.take k) + sumW (U.drop k) = sumW U := by
    rw [sumW, sumW, sumW, ← List.sum_append, ← List.map_append, List.take_append_drop]
  omega
/-- A list of batches with marks from N on. -/
structure BMk (w : World) (B g cap N : Nat) (U : List UB) : Prop where
  own : w.ownsRow B 30 2 (.slice (some ⟨g, 0, none⟩) U.length cap) U.length (U.flatMap hdW)
  bats : ∀ j (hj : j < U.length), BatU w B (mkU (N + sumW (U.take j)) U[j])
theorem BMk.below {w w' : World} {B g cap N : Nat} {U : List UB} (h : BMk w B g cap N U) (hb : Below w.heap.size w w') : BMk w' B g cap N U :=
  ⟨own_keep h.own (hb.block _ (h.own.lt g rfl).2), fun j hj => (h.bats j hj).below hb⟩
theorem OnlyT.mono {bs cs : List Nat} {w w1 w2 : World} (h : OnlyT bs w w1) (k : OnlyT cs w1 w2) (hs : ∀ b ∈ cs, b ∈ bs) : OnlyT bs w w2 := h.then (k.more hs)
set_option maxHeartbeats 2000000 in
theorem markBatchS (N B g cap : Nat) (U : List UB) (bas : List BA) (w : World) (hN : 0 < N) (h : BLs w B g cap U bas) (hl : N + sumW U ≤ 7000000) (hl2 : U.length ≤ 1048576) (hl3 : ∀ u ∈ U, u.2.2.1.length ≤ 2000000) :
    Calls Try.prog 32 #[.slice (some ⟨g, 0, none⟩) bas.length cap, .int .i64 (N : Int)] w fun e w' => e = .returned (.int .i64 ((N + sumW U : Nat) : Int)) ∧ BMk w' B g cap N U ∧ OnlyT (U.flatMap blkW) w w' := by
  have HPW := Lib.hid h.pw
  have HNG := Lib.hid h.ng
  have HL3 := Lib.hid hl3
  have hgs := h.lo.2
  have hlen := h.len
  have HOW := Lib.hid h.own
  have HBT : Hid (∀ j (hj : j < U.length), BatU w B (if j < 0 then mkU (N + sumW (U.take j)) U[j] else U[j])) := fun j hj => by rw [if_neg (by omega)]; exact h.bats _ (List.getElem_mem hj)
  rw [← hlen] at HOW
  rw [← hlen]
  clear h hlen hl3
  go_enter Try.func32, Try.ntmps32
  go_wp2
  go_loopw [1, 5] (fun kx ix wr => ∃ (k M : Nat), k ≤ U.length ∧ ix = .int .i64 (k : Int) ∧ kx = .int .i64 (M : Int) ∧ Hid (M = N + sumW (U.take k)) ∧ Hid (∀ j (hj : j < U.length), BatU wr B (if j < k then mkU (N + sumW (U.take j)) U[j] else U[j])) ∧ Hid (OnlyT (U.flatMap blkW) w wr)) (fun _ ix _ => U.length - (intOf ix).toNat)
  case atStart => exact ⟨0, N, Nat.zero_le _, rfl, rfl, rfl, HBT, OnlyT.refl _ _⟩
  case round =>
    clear HBT
    obtain ⟨k, M, hk, rfl, rfl, HM, HBT, HO⟩ := hrel
    by_cases hlt : k < U.length
    · have hu := HBT.out k hlt
      rw [if_neg (by omega)] at hu
      have hown := own_keep HOW.out (HO.out.block g hgs (fun e => by obtain ⟨v, hv, e⟩ := List.mem_flatMap.1 e; exact HNG.out v hv e))
      obtain ⟨q0, q1⟩ := flatW_get U k hlt
      have hc0 : wr.cell? ⟨g, k * 2, none⟩ = some U[k].1 := by rw [hown.cellAt _ (by omega), q0]
      have hc1 : wr.cell? ⟨g, k * 2 + 1, none⟩ = some U[k].2.1 := by rw [hown.cellAt _ (by omega), q1]
      have hgr : g < wr.heap.size := World.block_lt_of_cell? wr ⟨g, k * 2, none⟩ hc0
      have hsn := sumW_snoc U k hlt
      have hsl := sumW_le U (k + 1)
      have hl4 := HL3.out _ (List.getElem_mem hlt)
      have hsub : ∀ b ∈ blkW U[k], b ∈ U.flatMap blkW := fun b hb => List.mem_flatMap.2 ⟨_, List.getElem_mem hlt, hb⟩
      have hdis : ∀ j (hj : j < U.length), j ≠ k → ∀ b ∈ blkW U[j], b ∉ blkW U[k] := fun j hj hjk b hb => HPW.out j k hj hlt hjk b hb
      have hgk : g ∉ blkW U[k] := HNG.out _ (List.getElem_mem hlt)
      obtain ⟨V, hV⟩ : ∃ V, U[k] = V := ⟨_, rfl⟩
      rw [hV] at hu hc0 hc1 hsn hl4 hsub hdis hgk
      have HV := Lib.hid hV
      clear q0 q1 hown hV
      obtain ⟨v, v2, T, bs⟩ := V
      have hsz : szW (v, v2, T, bs) = 3 * tot T + bs.length := rfl
      have hM := HM.out
      obtain ⟨K2, hK2⟩ : ∃ K2, K2 = M + 3 * tot T := ⟨_, rfl⟩
      obtain ⟨K3, hK3⟩ : ∃ K3, K3 = K2 + bs.length := ⟨_, rfl⟩
      have C1 := Lib.hid (fun W hW => markBV M B v T W (by omega) hW (by omega) hl4)
      have C2 := Lib.hid (fun W xs hW hx => markPk K2 B v2 bs.length xs W hW hx (by omega))
      rw [← hK2] at C1
      rw [← hK3] at C2
      have HK3 : Hid (K3 = N + sumW (U.take (k + 1))) := by show _ = _; omega
      have HMK : Hid (mkU (N + sumW (U.take k)) (v, v2, T, bs) = (v, v2, markT M T, marksB K2 bs.length)) := by show _ = _; simp only [mkU]; rw [← hM, hK2]
      obtain ⟨A1, n1, c1, rfl⟩ : ∃ A n c, v = .slice A n c := by obtain ⟨A, c, hv⟩ := own_form hu.bag.own; exact ⟨A, _, c, hv⟩
      obtain ⟨A2, m2, c2, rfl⟩ : ∃ A n c, v2 = .slice A n c := by obtain ⟨A, g, c, hv, -⟩ := hu.pk.fl; exact ⟨A, bs.length, c, hv⟩
      have HU := Lib.hid hu
      have HDIS := Lib.hid hdis
      have HSUB := Lib.hid hsub
      have i0' : (0 : Int) ≤ (k : Int) := by omega
      have i1' : (k : Int) < (U.length : Int) := by omega
      clear hu hdis hsub hK2 hK3 hM hsn hsl hsz hl4
      have hTS : ∀ b ∈ T.map (fun t => t.1), b ∈ blkW (.slice A1 n1 c1, .slice A2 m2 c2, T, bs) := fun b hb => List.mem_append.2 (.inl (List.mem_append.2 (.inr hb)))
      have hPS : ∀ b ∈ (Value.slice A2 m2 c2).ownBlock.toList, b ∈ blkW (.slice A1 n1 c1, .slice A2 m2 c2, T, bs) := fun b hb => List.mem_append.2 (.inr hb)
      have HTS := Lib.hid hTS
      have HPS := Lib.hid hPS
      clear hTS hPS
      go_wp2_with (first
        | (go_at_call 21; (with_reducible refine (C1.out _ HU.out.bag).mono ?_); rintro e w1 ⟨rfl, hbv, ho⟩; go_loud (have HBV := Lib.hid hbv; have HO1 := Lib.hid ho; have hd1 := ho.cell (x := g) (j := k * 2 + 1) hc1 (fun hb => hgk (HTS.out g hb)); have hgr1 : g < w1.heap.size := Nat.lt_of_lt_of_le hgr ho.size; have HPK := Lib.hid (HU.out.pk.keep ho.size (fun b hv => ho.block b (HU.out.pk.hi b hv).2 (fun hb => HU.out.ne b (List.mem_append.2 (.inr hb)) hv))); clear hbv ho hc0 hc1))
        | (go_at_call 65; (with_reducible refine (C2.out _ _ HPK.out (by simp)).mono ?_); rintro e w2 ⟨rfl, hpk, ho2⟩; go_loud (have HPM := Lib.hid hpk; have HO2 := Lib.hid ho2; clear hpk ho2)))
      have HOC := Lib.hid ((HO1.out.more HTS.out).then (HO2.out.more HPS.out))
      refine ⟨⟨k + 1, K3, by omega, by go_num, rfl, HK3, ?_, HO.out.mono HOC.out HSUB.out⟩, by simp [intOf]; omega⟩
      show ∀ j (hj : j < U.length), BatU w2 B (if j < k + 1 then mkU (N + sumW (U.take j)) U[j] else U[j])
      intro j hj
      by_cases hjk : j = k
      · subst hjk
        rw [if_pos (by omega), HV.out, HMK.out]
        refine ⟨HBV.out.keep HO2.out.size fun b hb => ?_, ?_, ?_⟩
        · rw [show blkV (.slice A1 n1 c1) (markT M T) = blkV (.slice A1 n1 c1) T by simp only [blkV, markT_block]] at hb
          refine HO2.out.block b ?_ (fun h2 => HU.out.ne b hb (by simpa using h2))
          exact Nat.lt_of_lt_of_le (HU.out.bag.hi b hb).2 HO1.out.size
        · simp only [marksB_len]; exact HPM.out
        · simp only [blkV, markT_block]; exact HU.out.ne
      · have h1 := HBT.out j hj
        have h2 : (if j < k + 1 then mkU (N + sumW (U.take j)) U[j] else U[j]) = if j < k then mkU (N + sumW (U.take j)) U[j] else U[j] := by
          by_cases h3 : j < k
          · rw [if_pos h3, if_pos (by omega)]
          · rw [if_neg h3, if_neg (by omega)]
        rw [h2]
        have h4 : blkW (if j < k then mkU (N + sumW (U.take j)) U[j] else U[j]) = blkW U[j] := by split; exact blk_mkU _ _; rfl
        exact h1.keep HOC.out.size fun b hb => HOC.out.block b (h1.hi b hb).2 (HDIS.out j hj hjk b (by rw [← h4]; exact hb))
    · obtain rfl : k = U.length := by omega
      have HM2 : Hid (M = N + sumW U) := by show _ = _; have := HM.out; rwa [List.take_length] at this
      obtain rfl := HM2.out
      have HF : Hid (BMk wr B g cap N U) := ⟨own_keep HOW.out (HO.out.block g hgs (fun e => by obtain ⟨v, hv, e⟩ := List.mem_flatMap.1 e; exact HNG.out v hv e)), fun j hj => by have := HBT.out j hj; rwa [if_pos hj] at this⟩
      go_wp2
      go_ret
      exact ⟨rfl, HF.out, HO.out⟩
set_option maxHeartbeats 2000000 in
theorem heldBatchS (N B g cap n : Nat) (U : List UB) (w : World) (hN : 0 < N) (h : BMk w B g cap N U) (hn : n = U.length) (hl : N + sumW U ≤ 7000000) (hl2 : U.length ≤ 1048576) (hl3 : ∀ u ∈ U, u.2.2.1.length ≤ 2000000) :
    Calls Try.prog 33 #[.slice (some ⟨g, 0, none⟩) n cap, .int .i64 (N : Int)] w fun e w' => e = .returned (.int .i64 ((N + sumW U : Nat) : Int)) ∧ Below w.heap.size w w' := by
  subst hn
  have HL3 := Lib.hid hl3
  have HM0 := Lib.hid h
  clear h hl3
  go_enter Try.func33, Try.ntmps33
  go_wp2
  go_loopw [1, 5] (fun kx ix wr => ∃ (k M : Nat), k ≤ U.length ∧ ix = .int .i64 (k : Int) ∧ kx = .int .i64 (M : Int) ∧ Hid (M = N + sumW (U.take k)) ∧ Hid (Below w.heap.size w wr)) (fun _ ix _ => U.length - (intOf ix).toNat)
  case atStart => exact ⟨0, N, Nat.zero_le _, rfl, rfl, rfl, Below.refl _ _⟩
  case round =>
    obtain ⟨k, M, hk, rfl, rfl, HM, HB⟩ := hrel
    by_cases hlt : k < U.length
    · have hbm := HM0.out.below HB.out
      have hu := hbm.bats k hlt
      obtain ⟨q0, q1⟩ := flatW_get U k hlt
      have hc0 : wr.cell? ⟨g, k * 2, none⟩ = some U[k].1 := by rw [hbm.own.cellAt _ (by omega), q0]
      have hc1 : wr.cell? ⟨g, k * 2 + 1, none⟩ = some U[k].2.1 := by rw [hbm.own.cellAt _ (by omega), q1]
      have hgr : g < wr.heap.size := World.block_lt_of_cell? wr ⟨g, k * 2, none⟩ hc0
      have hsn := sumW_snoc U k hlt
      have hsl := sumW_le U (k + 1)
      have hl4 := HL3.out _ (List.getElem_mem hlt)
      obtain ⟨V, hV⟩ : ∃ V, U[k] = V := ⟨_, rfl⟩
      rw [hV] at hu hc0 hc1 hsn hl4
      clear q0 q1 hbm hV
      obtain ⟨v, v2, T, bs⟩ := V
      have hsz : szW (v, v2, T, bs) = 3 * tot T + bs.length := rfl
      have hM := HM.out
      simp only [mkU] at hu
      rw [← hM] at hu
      obtain ⟨K2, hK2⟩ : ∃ K2, K2 = M + 3 * tot T := ⟨_, rfl⟩
      obtain ⟨K3, hK3⟩ : ∃ K3, K3 = K2 + bs.length := ⟨_, rfl⟩
      rw [← hK2] at hu
      have C1 := Lib.hid (fun W hW => heldBV M B v T W (by omega) hW (by omega) hl4)
      have C2 := Lib.hid (fun W hW => heldPk K2 B v2 bs.length W hW (by omega))
      rw [← hK2] at C1
      rw [← hK3] at C2
      have HK3 : Hid (K3 = N + sumW (U.take (k + 1))) := by show _ = _; omega
      obtain ⟨A1, n1, c1, rfl⟩ : ∃ A n c, v = .slice A n c := by obtain ⟨A, c, hv⟩ := own_form hu.bag.own; exact ⟨A, _, c, hv⟩
      obtain ⟨A2, m2, c2, rfl⟩ : ∃ A n c, v2 = .slice A n c := by obtain ⟨A, g, c, hv, -⟩ := hu.pk.fl; exact ⟨A, (marksB K2 bs.length).length, c, hv⟩
      have HU := Lib.hid hu
      have i0' : (0 : Int) ≤ (k : Int) := by omega
      have i1' : (k : Int) < (U.length : Int) := by omega
      have j0' : ¬ ((K2 : Int) < 0) := by omega
      have j1' : ¬ ((K3 : Int) < 0) := by omega
      clear hu hK2 hK3 hM hsn hsl hsz hl4
      go_wp2_with (first
        | (go_at_call 22; (with_reducible refine (C1.out _ HU.out.bag).mono ?_); rintro e w1 ⟨rfl, hb1⟩; go_loud (have hd1 := (hb1.cell (p := ⟨g, k * 2 + 1, none⟩) hgr).trans hc1; have hgr1 : g < w1.heap.size := Nat.lt_of_lt_of_le hgr hb1.size; have HP1 := Lib.hid ((HU.out.below hb1).pk); have HB1 := Lib.hid (HB.out.trans (hb1.mono HB.out.size)); clear hb1 hc0 hc1))
        | (go_at_call 76; (with_reducible refine (C2.out _ (by have h := HP1.out; simp only [marksB_len] at h; exact h)).mono ?_); rintro e w2 ⟨rfl, hb2⟩; go_loud (have HB2 := Lib.hid (HB1.out.trans (hb2.mono HB1.out.size)); clear hb2)))
      exact ⟨⟨k + 1, K3, by omega, by go_num, rfl, HK3, HB2⟩, by simp [intOf]; omega⟩
    · obtain rfl : k = U.length := by omega
      have HM2 : Hid (M = N + sumW U) := by show _ = _; have := HM.out; rwa [List.take_length] at this
      obtain rfl := HM2.out
      go_wp2
      go_ret
      exact ⟨rfl, HB.out⟩
end Go.Proofs.Ytjidkjnlnenmbaa.Val
