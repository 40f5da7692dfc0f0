/- Marks laid in a plan of one's own, and told again (laws.markStepS, laws.heldStepS). -/
import Derived.Test.YtacinjbaebimhaaPartMKQ
import Derived.Test.YtacinjbaebimhaaTabXQ
namespace Go.Proofs.Ytacinjbaebimhaa.Val
open Go.RowKit
set_option linter.unusedSimpArgs false
set_option linter.unusedVariables false
set_option maxRecDepth 8000
/-- How many marks a step takes. -/
def szU (u : UP) : Nat := 4 + 5 * u.2.1.2.2.length + u.2.2.2.2.length
/-- A step with marks from N on. -/
def mk1 (N : Nat) (u : UP) : UP := (((N : Int), (N : Int) + 1, (N : Int) + 2, (N : Int) + 3), (u.2.1.1, u.2.1.2.1, marksPK (N + 4) u.2.1.2.2.length), (u.2.2.1, u.2.2.2.1, marksNK (N + 4 + 5 * u.2.1.2.2.length) u.2.2.2.2.length))
def markU (N : Nat) : List UP → List UP
  | [] => []
  | u :: U => mk1 N u :: markU (N + szU u) U
def sumU (U : List UP) : Nat := (U.map szU).sum
theorem markU_len (N : Nat) (U : List UP) : (markU N U).length = U.length := by
  induction U generalizing N with
  | nil => rfl
  | cons u U ih => simp [markU, ih]
theorem markU_app (N : Nat) (U V : List UP) : markU N (U ++ V) = markU N U ++ markU (N + sumU U) V := by
  induction U generalizing N with
  | nil => simp [markU, sumU]
  | cons u U ih =>
    simp only [List.cons_append, markU, ih, sumU, List.map_cons, List.sum_cons]
    rw [Nat.add_assoc]
theorem sumU_snoc (U : List UP) (k : Nat) (hk : k < U.length) : sumU (U.take (k + 1)) = sumU (U.take k) + szU U[k] := by
  rw [sumU, sumU, List.take_add_one, List.getElem?_eq_getElem hk]
  simp only [List.map_append, List.sum_append, Option.toList_some, List.map_cons, List.map_nil, List.sum_cons, List.sum_nil, Nat.add_zero]
theorem sumU_le (U : List UP) (k : Nat) : sumU (U.take k) ≤ sumU U := by
  have h : sumU (U.take k) + sumU (U.drop k) = sumU U := by
    rw [sumU, sumU, sumU, ← List.sum_append, ← List.map_append, List.take_append_drop]
  omega
/-- The first k steps marked. -/
def mixU (N : Nat) (U : List UP) (k : Nat) : List UP := markU N (U.take k) ++ U.drop k
theorem mixU_len (N : Nat) (U : List UP) (k : Nat) : (mixU N U k).length = U.length := by
  rw [mixU, List.length_append, markU_len, ← List.length_append, List.take_append_drop]
theorem mixU_all (N : Nat) (U : List UP) : mixU N U U.length = markU N U := by simp [mixU]
theorem mixU_at (N : Nat) (U : List UP) (k : Nat) (hk : k < U.length) (h2 : k < (mixU N U k).length) : (mixU N U k)[k]'h2 = U[k] := by
  have hl : (markU N (U.take k)).length = k := by rw [markU_len, List.length_take]; omega
  simp only [mixU]
  rw [List.getElem_append_right (by omega)]
  simp [hl]
theorem mixU_succ (N : Nat) (U : List UP) (k : Nat) (hk : k < U.length) : mixU N U (k + 1) = (mixU N U k).set k (mk1 (N + sumU (U.take k)) U[k]) := by
  have hl : (markU N (U.take k)).length = k := by rw [markU_len, List.length_take]; omega
  have ht : U.take (k + 1) = U.take k ++ [U[k]] := by rw [List.take_add_one, List.getElem?_eq_getElem hk]; rfl
  have hd : U.drop k = U[k] :: U.drop (k + 1) := List.drop_eq_getElem_cons hk
  rw [mixU, mixU, ht, markU_app, hd, List.set_append_right _ _ (by omega), hl, Nat.sub_self, List.set_cons_zero, List.append_assoc]
  rfl
theorem flat_set (V : List UP) (k : Nat) (hk : k < V.length) (u : UP) (hE : hdE u = hdE V[k]) (hL : hdL u = hdL V[k]) : ((((V.flatMap hdS).set (k * 6) (.int .i64 u.1.1)).set (k * 6 + 1) (.int .i64 u.1.2.1)).set (k * 6 + 2) (.int .i64 u.1.2.2.1)).set (k * 6 + 3) (.int .i64 u.1.2.2.2) = (V.set k u).flatMap hdS := by
  induction V generalizing k with
  | nil => simp at hk
  | cons v V ih =>
    cases k with
    | zero =>
      simp only [List.getElem_cons_zero] at hE hL
      simp [hdS, hE, hL]
    | succ k =>
      have := ih k (by simpa using hk) (by simpa using hE) (by simpa using hL)
      rw [List.set_cons_succ, List.flatMap_cons, List.flatMap_cons, ← this]
      rw [show (k + 1) * 6 = k * 6 + 6 by omega, show k * 6 + 6 + 1 = (k * 6 + 1) + 6 by omega, show k * 6 + 6 + 2 = (k * 6 + 2) + 6 by omega, show k * 6 + 6 + 3 = (k * 6 + 3) + 6 by omega]
      simp [hdS]
theorem blk_mk1 (N : Nat) (u : UP) : blkS (mk1 N u) = blkS u := rfl
theorem blk_mark (N : Nat) (U : List UP) : (markU N U).flatMap blkS = U.flatMap blkS := by
  induction U generalizing N with
  | nil => rfl
  | cons u U ih => rw [markU, List.flatMap_cons, List.flatMap_cons, ih, blk_mk1]
theorem blk_marks (N : Nat) (U : List UP) (j : Nat) (hj : j < (markU N U).length) (hj2 : j < U.length) : blkS ((markU N U)[j]'hj) = blkS U[j] := by
  induction U generalizing N j with
  | nil => simp at hj2
  | cons u U ih =>
    cases j with
    | zero => rfl
    | succ j => simp only [markU, List.getElem_cons_succ]; exact ih _ _ _ _
theorem blk_mix (N : Nat) (U : List UP) (k j : Nat) (hj : j < (mixU N U k).length) (hj2 : j < U.length) : blkS ((mixU N U k)[j]'hj) = blkS U[j] := by
  have hl : (markU N (U.take k)).length = min k U.length := by rw [markU_len, List.length_take]
  simp only [mixU]
  by_cases h : j < (markU N (U.take k)).length
  · rw [List.getElem_append_left h, blk_marks N (U.take k) j h (by rw [markU_len] at h; exact h), List.getElem_take]
  · rw [List.getElem_append_right (by omega), List.getElem_drop]
    congr 2
    omega
theorem hdE_mk1 (N : Nat) (u : UP) : hdE (mk1 N u) = hdE u := by simp [mk1, hdE, marksPK_len]
theorem hdL_mk1 (N : Nat) (u : UP) : hdL (mk1 N u) = hdL u := by simp [mk1, hdL, marksNK_len]
theorem markPartSZ (z : Int) (N : Nat) (hz : z = (N : Int)) (A : Option Addr) (g cap n : Nat) (w : World) (hl : N + 5 * n ≤ 7000000) (hA : 0 < n → A = some ⟨g, 0, none⟩) (hF : Fill w g (flatP (marksPK N n)) 0) : Calls Try.prog 73 #[.slice A n cap, .int .i64 z] w fun e w' => e = .returned (.int .i64 ((N : Int) + 5 * n)) ∧ (n = 0 → w' = w) ∧ Only g w w' ∧ Fill w' g (flatP (marksPK N n)) (n * 5) := by
  subst hz
  exact markPartSK N A g cap n w hl hA hF
theorem heldPartSZ (z : Int) (N : Nat) (hz : z = (N : Int)) (A : Option Addr) (g cap n : Nat) (w : World) (hl : N + 5 * n ≤ 7000000) (hF : Fl w g 0 A (flatP (marksPK N n))) : Calls Try.prog 75 #[.slice A n cap, .int .i64 z] w fun e w' => e = .returned (.int .i64 ((N : Int) + 5 * n)) ∧ Below w.heap.size w w' := by
  subst hz
  exact heldPartSK N A g cap n w hl hF
theorem markIntSZ (z : Int) (N : Nat) (hz : z = (N : Int)) (A : Option Addr) (g cap n : Nat) (w : World) (hl : N + n ≤ 7000000) (hA : 0 < n → A = some ⟨g, 0, none⟩) (hF : Fill w g ((marksNK N n).map iv) 0) : Calls Try.prog 74 #[.slice A n cap, .int .i64 z] w fun e w' => e = .returned (.int .i64 ((N : Int) + n)) ∧ (n = 0 → w' = w) ∧ Only g w w' ∧ Fill w' g ((marksNK N n).map iv) n := by
  subst hz
  exact markIntSK N A g cap n w hl hA hF
theorem heldIntSZ (z : Int) (N : Nat) (hz : z = (N : Int)) (A : Option Addr) (g cap n : Nat) (w : World) (hl : N + n ≤ 7000000) (hF : Fl w g 0 A ((marksNK N n).map iv)) : Calls Try.prog 76 #[.slice A n cap, .int .i64 z] w fun e w' => e = .returned (.int .i64 ((N : Int) + n)) ∧ Below w.heap.size w w' := by
  subst hz
  exact heldIntSK N A g cap n w hl hF
theorem FlO.marks {w w' : World} {B g c n : Nat} {xs ys : List Value} (h : FlO w B g c n xs) (hy : ys.length = xs.length) (hz : w.heap.size ≤ w'.heap.size) (hf : Fill w' g ys ys.length) : FlO w' B g c n ys :=
  ⟨hf.fl, fun j hj => (hf j hj).2.1, h.lo, Nat.lt_of_lt_of_le h.hi hz, h.cap⟩
set_option maxHeartbeats 4000000 in
theorem markStp (N B g cap n : Nat) (U : List UP) (ps : List SP) (w : World) (h : Stp w B g cap U ps) (hn : n = ps.length) (hl : N + sumU U ≤ 7000000) (hl2 : n ≤ 1048576) :
    Calls Try.prog 42 #[.slice (some ⟨g, 0, none⟩) n cap, .int .i64 (N : Int)] w fun e w' => e = .returned (.int .i64 ((N + sumU U : Nat) : Int)) ∧ Stp w' B g cap (markU N U) ((markU N U).map spOf) ∧ OnlyT (g :: U.flatMap blkS) w w' := by
  have HUL := h.len
  have hun : U.length = n := by omega
  have HND := Lib.hid h.nd
  have HNG := Lib.hid h.ng
  have hgs := h.lo.2
  have OW0 : Hid (w.ownsRow B 32 6 (.slice (some ⟨g, 0, none⟩) n cap) n (U.flatMap hdS)) := Lib.hid (by rw [hn]; exact h.own)
  have SO0 : Hid (∀ j (hj : j < (mixU N U 0).length), StpO w B ((mixU N U 0)[j]'hj)) := Lib.hid fun j hj => h.stps _ (List.getElem_mem hj)
  clear h hn HUL
  go_enter Try.func42, Try.ntmps42
  go_wp2
  go_loopw [1, 5] (fun kx ix wr => ∃ (k M : Nat), k ≤ n ∧ ix = .int .i64 (k : Int) ∧ kx = .int .i64 (M : Int) ∧ M = N + sumU (U.take k) ∧ Hid (wr.ownsRow B 32 6 (.slice (some ⟨g, 0, none⟩) n cap) n ((mixU N U k).flatMap hdS)) ∧ Hid (∀ j (hj : j < (mixU N U k).length), StpO wr B ((mixU N U k)[j]'hj)) ∧ Hid (OnlyT (g :: U.flatMap blkS) w wr)) (fun _ ix _ => n - (intOf ix).toNat)
  case atStart => exact ⟨0, N, Nat.zero_le _, rfl, rfl, by simp [sumU], OW0, SO0, OnlyT.refl _ _⟩
  case round =>
    clear OW0 SO0
    obtain ⟨k, M, hk, rfl, rfl, hM, OW, SO, HO⟩ := hrel
    by_cases hlt : k < n
    · have hku : k < U.length := by omega
      have hkm : k < (mixU N U k).length := by rw [mixU_len]; exact hku
      have hu := SO.out k hkm
      have hat := mixU_at N U k hku hkm
      rw [hat] at hu
      have hng := HNG.out _ (List.getElem_mem hku)
      have hnn := nodup_one HND.out (List.getElem_mem hku)
      have hsub : ∀ b ∈ blkS U[k], b ∈ g :: U.flatMap blkS := fun b hb => List.mem_cons_of_mem _ (List.mem_flatMap.2 ⟨_, List.getElem_mem hku, hb⟩)
      have hsn := sumU_snoc U k hku
      have hsl := sumU_le U (k + 1)
      have hcell := fun i (hi : i < 6) => OW.out.cellAt (k * 6 + i) (by omega)
      have hfr := fun i => OW.out.frozenAt (k * 6 + i)
      obtain ⟨f0, f1, f2, f3, f4, f5⟩ := flatS_get (mixU N U k) k hkm
      have x0 := hcell 0 (by omega)
      have x1 := hcell 1 (by omega)
      have x2 := hcell 2 (by omega)
      have x3 := hcell 3 (by omega)
      have x4 := hcell 4 (by omega)
      have x5 := hcell 5 (by omega)
      simp only [Nat.add_zero] at x0
      rw [f0] at x0
      rw [f1] at x1
      rw [f2] at x2
      rw [f3] at x3
      rw [f4, hat] at x4
      rw [f5, hat] at x5
      have y0 := hfr 0
      have y1 := hfr 1
      have y2 := hfr 2
      have y3 := hfr 3
      simp only [Nat.add_zero] at y0
      have HFS : Hid (((((mixU N U k).flatMap hdS).set (k * 6) (.int .i64 (M : Int))).set (k * 6 + 1) (.int .i64 ((M : Int) + 1)) |>.set (k * 6 + 2) (.int .i64 ((M : Int) + 1 + 1)) |>.set (k * 6 + 3) (.int .i64 ((M : Int) + 1 + 1 + 1))) = (mixU N U (k + 1)).flatMap hdS) := Lib.hid (by
        rw [show (M : Int) + 1 + 1 + 1 = (M : Int) + 3 by omega, show (M : Int) + 1 + 1 = (M : Int) + 2 by omega, mixU_succ N U k hku, ← hM]
        exact flat_set (mixU N U k) k hkm (mk1 M U[k]) (by rw [hdE_mk1, hat]) (by rw [hdL_mk1, hat]))
      have HF5 : Hid (((mixU N U (k + 1)).flatMap hdS)[k * 6 + 5]? = some (hdL U[k])) := Lib.hid (by
        have hk2 : k < (mixU N U (k + 1)).length := by rw [mixU_len]; exact hku
        have e : (mixU N U (k + 1))[k]'hk2 = mk1 M U[k] := by
          simp only [mixU_succ N U k hku, ← hM]
          rw [List.getElem_set_self]
        rw [(flatS_get (mixU N U (k + 1)) k hk2).2.2.2.2.2, e, hdL_mk1])
      have HSU : Hid (mixU N U (k + 1) = (mixU N U k).set k (mk1 M U[k])) := Lib.hid (by rw [mixU_succ N U k hku, ← hM])
      have HDJ : Hid (∀ j (hj : j < (mixU N U k).length), j ≠ k → ∀ b ∈ blkS U[k], b ∉ blkS ((mixU N U k)[j]'hj)) := Lib.hid (fun j hj hjk b hb hm => by
        have hj2 : j < U.length := by rw [mixU_len] at hj; exact hj
        have e : blkS ((mixU N U k)[j]'hj) = blkS U[j] := blk_mix N U k j hj hj2
        rw [e] at hm
        exact nodup_at HND.out hku hj2 (Ne.symm hjk) hb hm)
      have HGJ : Hid (∀ j (hj : j < (mixU N U k).length), g ∉ blkS ((mixU N U k)[j]'hj)) := Lib.hid (fun j hj hm => by
        have hj2 : j < U.length := by rw [mixU_len] at hj; exact hj
        rw [blk_mix N U k j hj hj2] at hm
        exact HNG.out _ (List.getElem_mem hj2) hm)
      clear f0 f1 f2 f3 f4 f5 hcell hfr hat
      obtain ⟨V, hV⟩ : ∃ V, U[k] = V := ⟨_, rfl⟩
      simp only [hV] at hu hng hnn hsub hsn HSU HDJ HF5 x4 x5
      have HSN := Lib.hid hsn
      obtain ⟨⟨n1, n2, n3, n4⟩, ⟨ge, ce, es⟩, gl, cl, ns⟩ := V
      have hszu : szU ((n1, n2, n3, n4), (ge, ce, es), gl, cl, ns) = 4 + 5 * es.length + ns.length := rfl
      rw [hszu] at hsn
      have hne1 : ge ≠ g := fun e => hng (by simp [blkS, e])
      have hne2 : gl ≠ g := fun e => hng (by simp [blkS, e])
      have hne3 : gl ≠ ge := fun e => by simp [blkS, e] at hnn
      simp only [hdE, hdL, hdF] at x4 x5 HF5
      have hMb : M + 4 + 5 * es.length + ns.length ≤ 7000000 := by omega
      have HMH := Lib.hid hM
      clear hM
      have FE := Lib.hid hu.e
      have FN := Lib.hid hu.l
      simp only at FE FN
      have hlP : (flatP (marksPK (M + 4) es.length)).length = (flatP es).length := by rw [flatP_len, flatP_len, marksPK_len]
      have hlN : ((marksNK (M + 4 + 5 * es.length) ns.length).map iv).length = (ns.map iv).length := by rw [List.length_map, List.length_map, marksNK_len]
      have HLP := Lib.hid hlP
      have HLN := Lib.hid hlN
      have hgeH := hu.e.hi
      have hglH := hu.l.hi
      simp only at hgeH hglH
      have C1 := Lib.hid (fun (z : Int) W (hz : z = ((M + 4 : Nat) : Int)) hW => markPartSZ z (M + 4) hz (some ⟨ge, 0, none⟩) ge ce es.length W (by omega) (fun _ => rfl) hW)
      have C2 := Lib.hid (fun (z : Int) W (hz : z = ((M + 4 + 5 * es.length : Nat) : Int)) hW => markIntSZ z (M + 4 + 5 * es.length) hz (some ⟨gl, 0, none⟩) gl cl ns.length W (by omega) (fun _ => rfl) hW)
      have hm0 : g ∈ g :: U.flatMap blkS := by simp
      have hm1 : ge ∈ g :: U.flatMap blkS := hsub _ (by simp [blkS])
      have hm2 : gl ∈ g :: U.flatMap blkS := hsub _ (by simp [blkS])
      have i0' : (0 : Int) ≤ (k : Int) := by omega
      have i1' : (k : Int) < (n : Int) := by omega
      have hgr : g < wr.heap.size := by have := HO.out.size; omega
      clear hu hnn hng hsub hsn hlP hlN hszu hsl
      go_wp2_with (first
        | (go_at_call 73; (with_reducible refine (C1.out _ _ (by omega) (FlO.fill (show FlO _ B ge ce es.length (flatP es) from (by repeat (with_reducible first | exact FE.out | refine FlO.set ?_ hne1 _ _))) HLP.out)).mono ?_); rintro e w1 ⟨rfl, hz, ho, hf⟩; have HW1 := Lib.hid ho; have HF1 := Lib.hid hf; have FN1 := Lib.hid (FlO.keep (show FlO _ B gl cl ns.length (ns.map iv) from (by repeat (with_reducible first | exact FN.out | refine FlO.set ?_ hne2 _ _))) ho.size (ho.block gl (by simp [World.setCell]; exact hglH) hne3)); have h9 := own_keep (World.ownsRow.stored (World.ownsRow.stored (World.ownsRow.stored (World.ownsRow.stored OW.out (k * 6) (.int .i64 (M : Int))).1 (k * 6 + 1) (.int .i64 ((M : Int) + 1))).1 (k * 6 + 2) (.int .i64 ((M : Int) + 1 + 1))).1 (k * 6 + 3) (.int .i64 ((M : Int) + 1 + 1 + 1))).1 (ho.block g (by simp [World.setCell]; exact hgr) (Ne.symm hne1)); rw [HFS.out] at h9; have OW1 := Lib.hid h9; have c5 := (h9.cellAt (k * 6 + 5) (by omega)).trans HF5.out; clear h9; clear hz hf ho)
        | (go_at_call 74; (with_reducible refine (C2.out _ _ (by omega) (FlO.fill FN1.out HLN.out)).mono ?_); rintro e w2 ⟨rfl, hz2, ho2, hf2⟩; have HW2 := Lib.hid ho2; have HF2 := Lib.hid hf2; clear hz2 ho2 hf2))
      have hs1 := HW1.out.size
      have hs2 := HW2.out.size
      simp [World.setCell] at hs1
      have HO4 := (((HO.out.set (j := k * 6) (v := .int .i64 (M : Int)) hm0).set (j := k * 6 + 1) (v := .int .i64 ((M : Int) + 1)) hm0).set (j := k * 6 + 2) (v := .int .i64 ((M : Int) + 1 + 1)) hm0).set (j := k * 6 + 3) (v := .int .i64 ((M : Int) + 1 + 1 + 1)) hm0
      have hEm : FlO w2 B ge ce es.length (flatP (marksPK (M + 4) es.length)) := by
        have h1 : FlO w1 B ge ce es.length (flatP (marksPK (M + 4) es.length)) := FE.out.marks HLP.out hs1 (by have h := HF1.out; rwa [show es.length * 5 = (flatP (marksPK (M + 4) es.length)).length by rw [flatP_len, marksPK_len]] at h)
        exact h1.keep hs2 (HW2.out.block ge h1.hi (Ne.symm hne3))
      have hLm : FlO w2 B gl cl ns.length ((marksNK (M + 4 + 5 * es.length) ns.length).map iv) := FN1.out.marks HLN.out hs2 (by have h := HF2.out; exact Eq.mp (congrArg (fun q => Fill w2 gl ((marksNK (M + 4 + 5 * es.length) ns.length).map iv) q) (show ns.length = ((marksNK (M + 4 + 5 * es.length) ns.length).map iv).length by rw [List.length_map, marksNK_len])) h)
      refine ⟨⟨k + 1, M + 4 + 5 * es.length + ns.length, by omega, by go_num, by go_num, by rw [HSN.out, HMH.out]; show _ = N + (sumU (U.take k) + (4 + 5 * es.length + ns.length)); omega, own_keep OW1.out (HW2.out.block g (by omega) (Ne.symm hne2)), ?_, (HO4.only HW1.out hm1).only HW2.out hm2⟩, by simp [intOf]; omega⟩
      show ∀ j (hj : j < (mixU N U (k + 1)).length), StpO w2 B ((mixU N U (k + 1))[j]'hj)
      rw [HSU.out]
      intro j hj
      by_cases hjk : j = k
      · subst hjk
        rw [List.getElem_set_self]
        exact ⟨by simpa [mk1, marksPK_len] using hEm, by simpa [mk1, marksNK_len] using hLm⟩
      · have hj2 : j < (mixU N U k).length := by simpa using hj
        rw [List.getElem_set_ne (Ne.symm hjk)]
        have h1 := SO.out j hj2
        refine h1.keep (by omega) fun b hb => ?_
        have hlt2 := (h1.hi b hb).2
        have hbg : b ≠ g := fun e => HGJ.out j hj2 (by rw [← e]; exact hb)
        have h2 := HW1.out.block b (by simp [World.setCell]; exact hlt2) (fun e => HDJ.out j hj2 hjk b (by rw [e]; simp [blkS]) hb)
        have h3 := HW2.out.block b (by omega) (fun e => HDJ.out j hj2 hjk b (by rw [e]; simp [blkS]) hb)
        exact h3.trans (h2.trans ((hsetNe hbg).trans ((hsetNe hbg).trans ((hsetNe hbg).trans (hsetNe hbg)))))
    · obtain rfl : k = n := by omega
      go_wp2
      go_ret
      have e1 : U.take k = U := List.take_of_length_le (by omega)
      have e2 : mixU N U k = markU N U := by rw [← hun]; exact mixU_all N U
      rw [e1] at hM
      have OWk := OW.out
      have SOk := SO.out
      simp only [e2] at OWk SOk
      exact ⟨by rw [hM]; rfl, ⟨rfl, by rw [List.length_map, markU_len, hun]; exact OWk, fun u hu => by obtain ⟨j, hj, rfl⟩ := List.mem_iff_getElem.1 hu; exact SOk j hj, by rw [blk_mark]; exact HND.out, fun u hu hm => by
        obtain ⟨j, hj, rfl⟩ := List.mem_iff_getElem.1 hu
        have hj2 : j < U.length := by rw [markU_len] at hj; exact hj
        rw [blk_marks N U j hj hj2] at hm
        exact HNG.out _ (List.getElem_mem hj2) hm⟩, HO.out⟩
end Go.Proofs.Ytacinjbaebimhaa.Val
