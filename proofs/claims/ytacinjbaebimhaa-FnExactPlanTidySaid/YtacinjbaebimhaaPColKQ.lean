/- Which fields a step may have: the reference's l6Fields; How many rows a step may have: the reference's l6Made; The columns of a step: the reference's l6Columns; The columns of a step that names steps ahead: the reference's l6Columns; The columns of a step that takes columns, or has two lists behind each other: the reference's l6Columns; The columns of a step that has two lists behind each other: the reference's l6Columns; The columns of a step: the reference's l6Columns, whole; The columns of all steps: the reference's l6All. -/
import Derived.Test.YtacinjbaebimhaaTabKQ
import Derived.Test.YtacinjbaebimhaaEKSQ
import Derived.BigQuiet
namespace Go.Proofs.Ytacinjbaebimhaa.Val
open Go.RowKit
set_option linter.unusedVariables false
set_option maxRecDepth 8000
def fieldsN (k a b n : Int) (el ll : Nat) : Bool :=
  (decide (k ≠ 1) || decide (a = 0)) && ((decide (k = 4) || decide (k = 5)) || decide (b = 0)) && (decide (k = 1) || decide (n = 0)) && ((decide (k = 2) || decide (k = 4)) || decide (el = 0)) && (decide (k = 3) || decide (ll = 0))
set_option maxHeartbeats 8000000 in
theorem l6Fields1 (a b n : Int) (A1 A2 : Option Addr) (el c1 ll c2 : Nat) (w : World) :
    Calls Try.prog 119 #[.agg #[.int .i64 1, .int .i64 a, .int .i64 b, .int .i64 n, .slice A1 el c1, .slice A2 ll c2]] w fun e w' => e = .returned (.bool (fieldsN 1 a b n el ll)) ∧ Below w.heap.size w w' := by
  by_cases ha : a = 0
  · subst ha
    by_cases hb : b = 0
    · subst hb
      by_cases he : el = 0
      · subst he
        by_cases hl : ll = 0
        · subst hl
          go_enter Try.func119, Try.ntmps119
          go_wp2_with (fail)
          go_ret
          exact ⟨retB (by simp [fieldsN, *]), (Below.refl _ _).alloc (Nat.le_refl _) _⟩
        · have gl : ¬ (ll : Int) = 0 := by omega
          go_enter Try.func119, Try.ntmps119
          go_wp2_with (fail)
          go_ret
          exact ⟨retB (by simp [fieldsN, *]), (Below.refl _ _).alloc (Nat.le_refl _) _⟩
      · have ge : ¬ (el : Int) = 0 := by omega
        go_enter Try.func119, Try.ntmps119
        go_wp2_with (fail)
        go_ret
        exact ⟨retB (by simp [fieldsN, *]), (Below.refl _ _).alloc (Nat.le_refl _) _⟩
    ·
      go_enter Try.func119, Try.ntmps119
      go_wp2_with (fail)
      go_ret
      exact ⟨retB (by simp [fieldsN, *]), (Below.refl _ _).alloc (Nat.le_refl _) _⟩
  ·
    go_enter Try.func119, Try.ntmps119
    go_wp2_with (fail)
    go_ret
    exact ⟨retB (by simp [fieldsN, *]), (Below.refl _ _).alloc (Nat.le_refl _) _⟩
set_option maxHeartbeats 8000000 in
theorem l6Fields2 (a b n : Int) (A1 A2 : Option Addr) (el c1 ll c2 : Nat) (w : World) :
    Calls Try.prog 119 #[.agg #[.int .i64 2, .int .i64 a, .int .i64 b, .int .i64 n, .slice A1 el c1, .slice A2 ll c2]] w fun e w' => e = .returned (.bool (fieldsN 2 a b n el ll)) ∧ Below w.heap.size w w' := by
  by_cases hb : b = 0
  · subst hb
    by_cases hn : n = 0
    · subst hn
      by_cases hl : ll = 0
      · subst hl
        go_enter Try.func119, Try.ntmps119
        go_wp2_with (fail)
        go_ret
        exact ⟨retB (by simp [fieldsN, *]), (Below.refl _ _).alloc (Nat.le_refl _) _⟩
      · have gl : ¬ (ll : Int) = 0 := by omega
        go_enter Try.func119, Try.ntmps119
        go_wp2_with (fail)
        go_ret
        exact ⟨retB (by simp [fieldsN, *]), (Below.refl _ _).alloc (Nat.le_refl _) _⟩
    ·
      go_enter Try.func119, Try.ntmps119
      go_wp2_with (fail)
      go_ret
      exact ⟨retB (by simp [fieldsN, *]), (Below.refl _ _).alloc (Nat.le_refl _) _⟩
  ·
    go_enter Try.func119, Try.ntmps119
    go_wp2_with (fail)
    go_ret
    exact ⟨retB (by simp [fieldsN, *]), (Below.refl _ _).alloc (Nat.le_refl _) _⟩
set_option maxHeartbeats 8000000 in
theorem l6Fields3 (a b n : Int) (A1 A2 : Option Addr) (el c1 ll c2 : Nat) (w : World) :
    Calls Try.prog 119 #[.agg #[.int .i64 3, .int .i64 a, .int .i64 b, .int .i64 n, .slice A1 el c1, .slice A2 ll c2]] w fun e w' => e = .returned (.bool (fieldsN 3 a b n el ll)) ∧ Below w.heap.size w w' := by
  by_cases hb : b = 0
  · subst hb
    by_cases hn : n = 0
    · subst hn
      by_cases he : el = 0
      · subst he
        go_enter Try.func119, Try.ntmps119
        go_wp2_with (fail)
        go_ret
        exact ⟨retB (by simp [fieldsN, *]), (Below.refl _ _).alloc (Nat.le_refl _) _⟩
      · have ge : ¬ (el : Int) = 0 := by omega
        go_enter Try.func119, Try.ntmps119
        go_wp2_with (fail)
        go_ret
        exact ⟨retB (by simp [fieldsN, *]), (Below.refl _ _).alloc (Nat.le_refl _) _⟩
    ·
      go_enter Try.func119, Try.ntmps119
      go_wp2_with (fail)
      go_ret
      exact ⟨retB (by simp [fieldsN, *]), (Below.refl _ _).alloc (Nat.le_refl _) _⟩
  ·
    go_enter Try.func119, Try.ntmps119
    go_wp2_with (fail)
    go_ret
    exact ⟨retB (by simp [fieldsN, *]), (Below.refl _ _).alloc (Nat.le_refl _) _⟩
set_option maxHeartbeats 8000000 in
theorem l6Fields4 (a b n : Int) (A1 A2 : Option Addr) (el c1 ll c2 : Nat) (w : World) :
    Calls Try.prog 119 #[.agg #[.int .i64 4, .int .i64 a, .int .i64 b, .int .i64 n, .slice A1 el c1, .slice A2 ll c2]] w fun e w' => e = .returned (.bool (fieldsN 4 a b n el ll)) ∧ Below w.heap.size w w' := by
  by_cases hn : n = 0
  · subst hn
    by_cases hl : ll = 0
    · subst hl
      go_enter Try.func119, Try.ntmps119
      go_wp2_with (fail)
      go_ret
      exact ⟨retB (by simp [fieldsN, *]), (Below.refl _ _).alloc (Nat.le_refl _) _⟩
    · have gl : ¬ (ll : Int) = 0 := by omega
      go_enter Try.func119, Try.ntmps119
      go_wp2_with (fail)
      go_ret
      exact ⟨retB (by simp [fieldsN, *]), (Below.refl _ _).alloc (Nat.le_refl _) _⟩
  ·
    go_enter Try.func119, Try.ntmps119
    go_wp2_with (fail)
    go_ret
    exact ⟨retB (by simp [fieldsN, *]), (Below.refl _ _).alloc (Nat.le_refl _) _⟩
set_option maxHeartbeats 8000000 in
theorem l6Fields5 (a b n : Int) (A1 A2 : Option Addr) (el c1 ll c2 : Nat) (w : World) :
    Calls Try.prog 119 #[.agg #[.int .i64 5, .int .i64 a, .int .i64 b, .int .i64 n, .slice A1 el c1, .slice A2 ll c2]] w fun e w' => e = .returned (.bool (fieldsN 5 a b n el ll)) ∧ Below w.heap.size w w' := by
  by_cases hn : n = 0
  · subst hn
    by_cases he : el = 0
    · subst he
      by_cases hl : ll = 0
      · subst hl
        go_enter Try.func119, Try.ntmps119
        go_wp2_with (fail)
        go_ret
        exact ⟨retB (by simp [fieldsN, *]), (Below.refl _ _).alloc (Nat.le_refl _) _⟩
      · have gl : ¬ (ll : Int) = 0 := by omega
        go_enter Try.func119, Try.ntmps119
        go_wp2_with (fail)
        go_ret
        exact ⟨retB (by simp [fieldsN, *]), (Below.refl _ _).alloc (Nat.le_refl _) _⟩
    · have ge : ¬ (el : Int) = 0 := by omega
      go_enter Try.func119, Try.ntmps119
      go_wp2_with (fail)
      go_ret
      exact ⟨retB (by simp [fieldsN, *]), (Below.refl _ _).alloc (Nat.le_refl _) _⟩
  ·
    go_enter Try.func119, Try.ntmps119
    go_wp2_with (fail)
    go_ret
    exact ⟨retB (by simp [fieldsN, *]), (Below.refl _ _).alloc (Nat.le_refl _) _⟩
set_option maxHeartbeats 8000000 in
theorem l6FieldsK (k : Int) (a b n : Int) (A1 A2 : Option Addr) (el c1 ll c2 : Nat) (w : World) (k1 : ¬ k = 1) (k2 : ¬ k = 2) (k3 : ¬ k = 3) (k4 : ¬ k = 4) (k5 : ¬ k = 5) :
    Calls Try.prog 119 #[.agg #[.int .i64 k, .int .i64 a, .int .i64 b, .int .i64 n, .slice A1 el c1, .slice A2 ll c2]] w fun e w' => e = .returned (.bool (fieldsN k a b n el ll)) ∧ Below w.heap.size w w' := by
  by_cases hb : b = 0
  · subst hb
    by_cases hn : n = 0
    · subst hn
      by_cases he : el = 0
      · subst he
        by_cases hl : ll = 0
        · subst hl
          go_enter Try.func119, Try.ntmps119
          go_wp2_with (fail)
          go_ret
          exact ⟨retB (by simp [fieldsN, *]), (Below.refl _ _).alloc (Nat.le_refl _) _⟩
        · have gl : ¬ (ll : Int) = 0 := by omega
          go_enter Try.func119, Try.ntmps119
          go_wp2_with (fail)
          go_ret
          exact ⟨retB (by simp [fieldsN, *]), (Below.refl _ _).alloc (Nat.le_refl _) _⟩
      · have ge : ¬ (el : Int) = 0 := by omega
        go_enter Try.func119, Try.ntmps119
        go_wp2_with (fail)
        go_ret
        exact ⟨retB (by simp [fieldsN, *]), (Below.refl _ _).alloc (Nat.le_refl _) _⟩
    ·
      go_enter Try.func119, Try.ntmps119
      go_wp2_with (fail)
      go_ret
      exact ⟨retB (by simp [fieldsN, *]), (Below.refl _ _).alloc (Nat.le_refl _) _⟩
  ·
    go_enter Try.func119, Try.ntmps119
    go_wp2_with (fail)
    go_ret
    exact ⟨retB (by simp [fieldsN, *]), (Below.refl _ _).alloc (Nat.le_refl _) _⟩
theorem l6Fields (k a b n : Int) (A1 A2 : Option Addr) (el c1 ll c2 : Nat) (w : World) :
    Calls Try.prog 119 #[.agg #[.int .i64 k, .int .i64 a, .int .i64 b, .int .i64 n, .slice A1 el c1, .slice A2 ll c2]] w fun e w' => e = .returned (.bool (fieldsN k a b n el ll)) ∧ Below w.heap.size w w' := by
  by_cases k1 : k = 1
  · subst k1; exact l6Fields1 a b n A1 A2 el c1 ll c2 w
  by_cases k2 : k = 2
  · subst k2; exact l6Fields2 a b n A1 A2 el c1 ll c2 w
  by_cases k3 : k = 3
  · subst k3; exact l6Fields3 a b n A1 A2 el c1 ll c2 w
  by_cases k4 : k = 4
  · subst k4; exact l6Fields4 a b n A1 A2 el c1 ll c2 w
  by_cases k5 : k = 5
  · subst k5; exact l6Fields5 a b n A1 A2 el c1 ll c2 w
  exact l6FieldsK k a b n A1 A2 el c1 ll c2 w k1 k2 k3 k4 k5
end Go.Proofs.Ytacinjbaebimhaa.Val
namespace Go.Proofs.Ytacinjbaebimhaa.Val
open Go.RowKit
set_option linter.unusedVariables false
set_option maxRecDepth 8000
def nv (n : Nat) : Value := .int .i64 (n : Int)
theorem Fl.nn {w : World} {g o : Nat} {A : Option Addr} {l : List Nat} (h : Fl w g o A (l.map nv)) (i : Nat) (hi : i < l.length) : A = some ⟨g, o, none⟩ ∧ g < w.heap.size ∧ w.cell? ⟨g, o + i, none⟩ = some (.int .i64 (l[i] : Int)) := by
  have hl : (l.map nv).length = l.length := List.length_map _
  refine ⟨h.ad (by omega), h.lt (by omega), ?_⟩
  rw [h.c i (by omega), List.getElem_map]; rfl
def madeN (ah : List Nat) (k a b : Int) : Nat :=
  if k = 1 then 6 else if k = 4 then ah.getD a.toNat 0 * ah.getD b.toNat 0 else if k = 5 then ah.getD a.toNat 0 + ah.getD b.toNat 0 else ah.getD a.toNat 0
set_option maxHeartbeats 2000000 in
theorem l6Made (A : Option Addr) (g o cap : Nat) (md : List Nat) (k a b n : Int) (A1 A2 : Option Addr) (el c1 ll c2 : Nat) (w : World) (h : Fl w g o A (md.map nv)) (hk : k ≠ 1 → inB a md.length = true ∧ inB b md.length = true) (hm : ∀ x ∈ md, x ≤ 300) :
    Calls Try.prog 84 #[.slice A md.length cap, .agg #[.int .i64 k, .int .i64 a, .int .i64 b, .int .i64 n, .slice A1 el c1, .slice A2 ll c2]] w fun e w' => e = .returned (.int .i64 (madeN md k a b : Int)) ∧ Below w.heap.size w w' := by
  have H := Lib.hid h
  have HK := Lib.hid hk
  have HM := Lib.hid hm
  clear h hk hm
  by_cases k1 : k = 1
  · subst k1
    go_enter Try.func84, Try.ntmps84
    go_wp2_with (fail)
    go_ret
    exact ⟨rfl, (Below.refl _ _).alloc (Nat.le_refl _) _⟩
  obtain ⟨ha, hb⟩ := HK.out k1
  obtain ⟨i, rfl, hi⟩ := inB_nat ha
  obtain ⟨j, rfl, hj⟩ := inB_nat hb
  obtain ⟨rfl, hg, ci⟩ := H.out.nn i hi
  obtain ⟨-, -, cj⟩ := H.out.nn j hj
  have mi := HM.out _ (List.getElem_mem hi)
  have mj := HM.out _ (List.getElem_mem hj)
  have ei : md.getD i 0 = md[i] := getD_lt hi 0
  have ej : md.getD j 0 = md[j] := getD_lt hj 0
  have HN : Hid (madeN md k (i : Int) (j : Int) = if k = 4 then md[i] * md[j] else if k = 5 then md[i] + md[j] else md[i]) := by show _ = _; rw [madeN, if_neg k1, Int.toNat_natCast, Int.toNat_natCast, ei, ej]
  obtain ⟨x, hx⟩ : ∃ x, md[i] = x := ⟨_, rfl⟩
  obtain ⟨y, hy⟩ : ∃ y, md[j] = y := ⟨_, rfl⟩
  rw [hx] at ci mi HN
  rw [hy] at cj mj HN
  clear hx hy ei ej ha hb
  have hxy : x * y ≤ 300 * 300 := Nat.mul_le_mul mi mj
  obtain ⟨z, hz⟩ : ∃ z : Int, (x : Int) * (y : Int) = z := ⟨_, rfl⟩
  have hz2 : ((x * y : Nat) : Int) = z := by rw [← hz]; simp
  have hz3 : 0 ≤ z ∧ z ≤ 90000 := by omega
  have HZ2 := Lib.hid hz2
  obtain ⟨hz4, hz5⟩ := hz3
  clear hxy hz2
  have p0 : (0 : Int) ≤ (i : Int) := by omega
  have p1 : (i : Int) < (md.length : Int) := by omega
  have p2 : (0 : Int) ≤ (j : Int) := by omega
  have p3 : (j : Int) < (md.length : Int) := by omega
  go_enter Try.func84, Try.ntmps84
  by_cases k4 : k = 4
  · subst k4
    go_wp2_with (fail)
    go_quiet (fail)
    go_wp2
    go_ret
    refine ⟨?_, below_drewN ((Below.refl _ _).alloc (Nat.le_refl _) _) _⟩
    have h := HN.out
    simp only [if_true] at h
    rw [h, HZ2.out]; rfl
  · by_cases k5 : k = 5
    · subst k5
      go_wp2_with (fail)
      go_quiet (fail)
      go_wp2
      go_ret
      refine ⟨?_, below_drewN ((Below.refl _ _).alloc (Nat.le_refl _) _) _⟩
      have h := HN.out
      simp at h
      rw [h]; rfl
    · go_wp2_with (fail)
      go_ret
      refine ⟨?_, (Below.refl _ _).alloc (Nat.le_refl _) _⟩
      have h := HN.out
      rw [if_neg k4, if_neg k5] at h
      rw [h]; rfl
end Go.Proofs.Ytacinjbaebimhaa.Val
namespace Go.Proofs.Ytacinjbaebimhaa.Val
open Go.RowKit
set_option linter.unusedVariables false
set_option maxRecDepth 8000
/-- Rows of columns that lie. -/
structure Cls (w : World) (g o : Nat) (A : Option Addr) (cl : List (List CT)) : Prop where
  ad : 0 < cl.length → A = some ⟨g, o, none⟩
  hd : ∀ j (h : j < cl.length), ∃ (c' g' o' : Nat), w.cell? ⟨g, o + j, none⟩ = some (.slice (some ⟨g', o', none⟩) cl[j].length c') ∧ Fl w g' o' (some ⟨g', o', none⟩) (flatC cl[j])
theorem Cls.below {w w' : World} {g o : Nat} {A : Option Addr} {cl : List (List CT)} (h : Cls w g o A cl) (hb : Below w.heap.size w w') : Cls w' g o A cl := by
  refine ⟨h.ad, fun j hj => ?_⟩
  obtain ⟨c', g', o', h1, h2⟩ := h.hd j hj
  exact ⟨c', g', o', (hb.cell (p := ⟨g, o + j, none⟩) (World.block_lt_of_cell? w ⟨g, o + j, none⟩ h1)).trans h1, h2.below hb⟩
theorem Cls.at {w : World} {g o : Nat} {A : Option Addr} {cl : List (List CT)} (h : Cls w g o A cl) (j : Nat) (hj : j < cl.length) : A = some ⟨g, o, none⟩ ∧ g < w.heap.size ∧ ∃ (c' g' o' : Nat), w.cell? ⟨g, o + j, none⟩ = some (.slice (some ⟨g', o', none⟩) cl[j].length c') ∧ Fl w g' o' (some ⟨g', o', none⟩) (flatC cl[j]) := by
  obtain ⟨c', g', o', h1, h2⟩ := h.hd j hj
  exact ⟨h.ad (by omega), World.block_lt_of_cell? w ⟨g, o + j, none⟩ h1, c', g', o', h1, h2⟩
theorem one_flatC (cs : List CT) : ∀ u ∈ flatC cs, u.oneCell' = true := by
  induction cs with
  | nil => intro u hu; simp [flatC] at hu
  | cons v vs ih =>
    intro u hu
    rw [flatC_cons] at hu
    simp only [List.mem_cons] at hu
    rcases hu with rfl | rfl | hu
    · rfl
    · rfl
    · exact ih u hu
theorem FlO.of_own {w : World} {B g c n size : Nat} {e : TypeId} {xs : List Value} (h : w.ownsRow B e size (.slice (some ⟨g, 0, none⟩) n c) n xs) : FlO w B g c n xs := by
  refine ⟨⟨fun _ => rfl, fun j hj => ?_⟩, fun j hj => h.frozenAt j, (h.lt g rfl).1, (h.lt g rfl).2, own_caps h⟩
  rw [Nat.zero_add, h.cellAt j (by rw [← h.1]; exact hj), List.getElem?_eq_getElem hj]
/-- Columns of one's own, and whether there are any. -/
def RetCols (r : Option (List CT)) (w : World) (e : Ending) (w' : World) : Prop := ∃ (g c : Nat) (cs : List CT) (ok : Bool), (e = .returned (.tuple #[.slice (some ⟨g, 0, none⟩) cs.length c, .bool ok]) ∧ FlO w' w.heap.size g c cs.length (flatC cs) ∧ (r = if ok = true then some cs else none)) ∧ Below w.heap.size w w'
set_option maxHeartbeats 2000000 in
theorem cols_F (AT AA : Option Addr) (cT cA : Nat) (tb ah : Nat) (k a b n : Int) (A1 A2 : Option Addr) (el c1 ll c2 : Nat) (w : World) (hf : fieldsN k a b n el ll = false) :
    Calls Try.prog 83 #[.slice AT tb cT, .slice AA ah cA, .agg #[.int .i64 k, .int .i64 a, .int .i64 b, .int .i64 n, .slice A1 el c1, .slice A2 ll c2]] w (RetCols none w) := by
  have C := Lib.hid (fun W => l6Fields k a b n A1 A2 el c1 ll c2 W)
  rw [hf] at C
  go_enter Try.func83, Try.ntmps83
  go_wp2_with (go_at_call 119; (with_reducible refine (C.out _).mono ?_); rintro e w1 ⟨rfl, hb1⟩; have HB := Lib.hid (((Below.refl w.heap.size w).alloc (Nat.le_refl _) _).trans (hb1.mono (by simp))); clear hb1)
  refine bodyPost_ret (v := .tuple #[.slice (some ⟨w1.heap.size, 0, none⟩) 0 0, .bool false]) (by simp [results, Try.results83, go_sem]) rfl ?_
  exact ⟨w1.heap.size, 0, [], false, ⟨rfl, FlO.of_own (own_empty3 37 2 rfl HB.out.size), rfl⟩, HB.out.alloc HB.out.size _⟩
set_option maxHeartbeats 2000000 in
theorem cols_T (AT AA : Option Addr) (gT oT cT cA : Nat) (tb : List TB) (ah : Nat) (a b n : Int) (A1 A2 : Option Addr) (el c1 ll c2 : Nat) (w : World) (hT : Tbs w gT oT AT tb) (hok : OkT tb) (hf : fieldsN 1 a b n el ll = true) :
    Calls Try.prog 83 #[.slice AT tb.length cT, .slice AA ah cA, .agg #[.int .i64 1, .int .i64 a, .int .i64 b, .int .i64 n, .slice A1 el c1, .slice A2 ll c2]] w (RetCols (if inB n tb.length = true then some (tb.getD n.toNat ([], [])).1 else none) w) := by
  obtain ⟨i0, hi, iz0, iz1, iz2⟩ := info_parts infoC
  have C := Lib.hid (fun W => l6Fields 1 a b n A1 A2 el c1 ll c2 W)
  rw [hf] at C
  have HT := Lib.hid hT
  have HK := Lib.hid hok
  have hl := hok.1
  clear hT hok
  have D := Lib.hid (fun W => l1In n 0 ((tb.length : Int) - 1) W)
  by_cases hin : inB n tb.length = true
  · obtain ⟨j, rfl, hj⟩ := inB_nat hin
    rw [show (decide ((0 : Int) ≤ (j : Int)) && decide ((j : Int) ≤ (tb.length : Int) - 1)) = true by simp; omega] at D
    rw [if_pos hin, Int.toNat_natCast, getD_lt hj]
    obtain ⟨rfl, hg, B1, d1, g1, o1, -, -, -, -, hc0, -, hf1, -, -, -, hni, -⟩ := HT.out.at j hj
    have hlc := (HK.out.at j hj).1
    obtain ⟨K, hK⟩ : ∃ K, tb[j].1 = K := ⟨_, rfl⟩
    rw [hK] at hc0 hf1 hlc ⊢
    clear hK
    have HF := Lib.hid hf1
    have p0 : (0 : Int) ≤ (j : Int) := by omega
    have p1 : (j : Int) < (tb.length : Int) := by omega
    obtain ⟨kl, hkl⟩ : ∃ m, K.length = m := ⟨_, rfl⟩
    rw [hkl] at hc0 hlc
    have hlf := Lib.hid (show (flatC K).length = kl * 2 by rw [flatC_len, hkl])
    have HKL := Lib.hid hkl
    clear hkl hf1
    rcases hni with rfl | ⟨rfl, rfl⟩
    · go_enter Try.func83, Try.ntmps83
      go_wp2_with (first
        | ((go_at_call 119; ((with_reducible refine (C.out _).mono ?_); (try (have hc10 := hc9; have hf10 := hf9; have hz10 := hz9; have hb10 := hb9; have hya_10 := hya_9; clear hc9 hf9 hz9 hb9 hya_9)); (try (have hc9 := hc8; have hf9 := hf8; have hz9 := hz8; have hb9 := hb8; have hya_9 := hya_8; clear hc8 hf8 hz8 hb8 hya_8)); (try (have hc8 := hc7; have hf8 := hf7; have hz8 := hz7; have hb8 := hb7; have hya_8 := hya_7; clear hc7 hf7 hz7 hb7 hya_7)); (try (have hc7 := hc6; have hf7 := hf6; have hz7 := hz6; have hb7 := hb6; have hya_7 := hya_6; clear hc6 hf6 hz6 hb6 hya_6)); (try (have hc6 := hc5; have hf6 := hf5; have hz6 := hz5; have hb6 := hb5; have hya_6 := hya_5; clear hc5 hf5 hz5 hb5 hya_5)); (try (have hc5 := hc4; have hf5 := hf4; have hz5 := hz4; have hb5 := hb4; have hya_5 := hya_4; clear hc4 hf4 hz4 hb4 hya_4)); (try (have hc4 := hc3; have hf4 := hf3; have hz4 := hz3; have hb4 := hb3; have hya_4 := hya_3; clear hc3 hf3 hz3 hb3 hya_3)); (try (have hc3 := hc2; have hf3 := hf2; have hz3 := hz2; have hb3 := hb2; have hya_3 := hya_2; clear hc2 hf2 hz2 hb2 hya_2)); (try (have hc2 := hc1; have hf2 := hf1; have hz2 := hz1; have hb2 := hb1; have hya_2 := hya_1; clear hc1 hf1 hz1 hb1 hya_1)); rintro e w1 ⟨rfl, hb1⟩; obtain ⟨hc1, hf1⟩ := bcell hb1; (try simp only [World.size_drew, World.cell?_drew, World.frozen?_drew] at hc1 hf1); have hz1 := hb1.size; (try simp at hz1); have hya_1 : w.heap.size < w1.heap.size := (by omega); have HB := Lib.hid (((Below.refl w.heap.size w).alloc (Nat.le_refl _) _).trans (hb1.mono (by simp))); have hc2 := (HB.out.cell (p := ⟨gT, oT + j * 2, none⟩) hg).trans hc0; have OWN := Lib.hid (own_empty3 (w := w1) (B := w.heap.size) 37 2 rfl HB.out.size); have hsz := HB.out.size; have hg1 : gT < w1.heap.size := Nat.lt_of_lt_of_le hg hsz; have HF1 := Lib.hid ((HF.out.below HB.out).alloc (.cells #[] 37)); clear hb1)))
        | (go_at_call 49; (with_reducible refine (D.out _).mono ?_); rintro e w2 ⟨rfl, rfl⟩)
        | (at_builtin; go_loud (refine wpList_append_block _ rfl (.tmp 28) (.tmp 34) 34 rfl w.heap.size 37 i0 (.agg #[.int .i64 0, .bool false]) 2 16 Try.underlying34 hi iz0 iz1 iz2 rfl (by decide) w1.heap.size 0 0 [] rfl OWN.out _ kl _ (flatC K) rfl hlf.out (news_flo HF1.out) (one_flatC K) (by unfold maxLen; omega) (by omega) (by first | omega | (simp; done) | (simp; omega)) ?_); intro g2 c3 w2 hown hgr hgg; (try simp only [Nat.zero_add, List.nil_append] at hown); have HO := Lib.hid hown; have HB2 := Lib.hid (Below.grown (HB.out.alloc HB.out.size _) hgr (by simp; omega) (fun k hk => by obtain rfl := Option.some.inj hk; exact HB.out.size)); clear hown hgr hgg))
      refine bodyPost_ret (v := .tuple #[.slice (some ⟨g2, 0, none⟩) kl c3, .bool true]) (by simp [results, Try.results83, go_sem]) rfl ?_
      exact ⟨g2, c3, K, true, ⟨by rw [HKL.out], by rw [HKL.out]; exact FlO.of_own HO.out, rfl⟩, HB2.out⟩
    · have hkz : kl = 0 := by
        rcases Nat.eq_zero_or_pos kl with h | h
        · exact h
        · exact absurd (HF.out.ad (by rw [hlf.out]; omega)) (by simp)
      subst hkz
      have hK0 : K = [] := List.eq_nil_of_length_eq_zero HKL.out
      subst hK0
      go_enter Try.func83, Try.ntmps83
      go_wp2_with (first
        | ((go_at_call 119; ((with_reducible refine (C.out _).mono ?_); (try (have hc10 := hc9; have hf10 := hf9; have hz10 := hz9; have hb10 := hb9; have hya_10 := hya_9; clear hc9 hf9 hz9 hb9 hya_9)); (try (have hc9 := hc8; have hf9 := hf8; have hz9 := hz8; have hb9 := hb8; have hya_9 := hya_8; clear hc8 hf8 hz8 hb8 hya_8)); (try (have hc8 := hc7; have hf8 := hf7; have hz8 := hz7; have hb8 := hb7; have hya_8 := hya_7; clear hc7 hf7 hz7 hb7 hya_7)); (try (have hc7 := hc6; have hf7 := hf6; have hz7 := hz6; have hb7 := hb6; have hya_7 := hya_6; clear hc6 hf6 hz6 hb6 hya_6)); (try (have hc6 := hc5; have hf6 := hf5; have hz6 := hz5; have hb6 := hb5; have hya_6 := hya_5; clear hc5 hf5 hz5 hb5 hya_5)); (try (have hc5 := hc4; have hf5 := hf4; have hz5 := hz4; have hb5 := hb4; have hya_5 := hya_4; clear hc4 hf4 hz4 hb4 hya_4)); (try (have hc4 := hc3; have hf4 := hf3; have hz4 := hz3; have hb4 := hb3; have hya_4 := hya_3; clear hc3 hf3 hz3 hb3 hya_3)); (try (have hc3 := hc2; have hf3 := hf2; have hz3 := hz2; have hb3 := hb2; have hya_3 := hya_2; clear hc2 hf2 hz2 hb2 hya_2)); (try (have hc2 := hc1; have hf2 := hf1; have hz2 := hz1; have hb2 := hb1; have hya_2 := hya_1; clear hc1 hf1 hz1 hb1 hya_1)); rintro e w1 ⟨rfl, hb1⟩; obtain ⟨hc1, hf1⟩ := bcell hb1; (try simp only [World.size_drew, World.cell?_drew, World.frozen?_drew] at hc1 hf1); have hz1 := hb1.size; (try simp at hz1); have hya_1 : w.heap.size < w1.heap.size := (by omega); have HB := Lib.hid (((Below.refl w.heap.size w).alloc (Nat.le_refl _) _).trans (hb1.mono (by simp))); have hc2 := (HB.out.cell (p := ⟨gT, oT + j * 2, none⟩) hg).trans hc0; have OWN := Lib.hid (own_empty3 (w := w1) (B := w.heap.size) 37 2 rfl HB.out.size); have hsz := HB.out.size; have hg1 : gT < w1.heap.size := Nat.lt_of_lt_of_le hg hsz; have HF1 := Lib.hid ((HF.out.below HB.out).alloc (.cells #[] 37)); clear hb1)))
        | (go_at_call 49; (with_reducible refine (D.out _).mono ?_); rintro e w2 ⟨rfl, rfl⟩)
        | (at_builtin; go_loud (refine wpList_append_own_none rfl (.tmp 28) (.tmp 34) 34 rfl w.heap.size 37 i0 2 Try.underlying34 hi _ 0 [] rfl OWN.out rfl ?_)))
      refine bodyPost_ret (v := .tuple #[.slice (some ⟨w1.heap.size, 0, none⟩) 0 0, .bool true]) (by simp [results, Try.results83, go_sem]) rfl ?_
      exact ⟨w1.heap.size, 0, [], true, ⟨rfl, FlO.of_own OWN.out, rfl⟩, HB.out.alloc HB.out.size _⟩
  · have hD : (decide ((0 : Int) ≤ n) && decide (n ≤ (tb.length : Int) - 1)) = false := by
      simp only [inB, Bool.and_eq_true, decide_eq_true_eq] at hin
      simp; omega
    rw [hD] at D
    rw [if_neg hin]
    go_enter Try.func83, Try.ntmps83
    go_wp2_with (first
      | ((go_at_call 119; ((with_reducible refine (C.out _).mono ?_); (try (have hc10 := hc9; have hf10 := hf9; have hz10 := hz9; have hb10 := hb9; have hya_10 := hya_9; clear hc9 hf9 hz9 hb9 hya_9)); (try (have hc9 := hc8; have hf9 := hf8; have hz9 := hz8; have hb9 := hb8; have hya_9 := hya_8; clear hc8 hf8 hz8 hb8 hya_8)); (try (have hc8 := hc7; have hf8 := hf7; have hz8 := hz7; have hb8 := hb7; have hya_8 := hya_7; clear hc7 hf7 hz7 hb7 hya_7)); (try (have hc7 := hc6; have hf7 := hf6; have hz7 := hz6; have hb7 := hb6; have hya_7 := hya_6; clear hc6 hf6 hz6 hb6 hya_6)); (try (have hc6 := hc5; have hf6 := hf5; have hz6 := hz5; have hb6 := hb5; have hya_6 := hya_5; clear hc5 hf5 hz5 hb5 hya_5)); (try (have hc5 := hc4; have hf5 := hf4; have hz5 := hz4; have hb5 := hb4; have hya_5 := hya_4; clear hc4 hf4 hz4 hb4 hya_4)); (try (have hc4 := hc3; have hf4 := hf3; have hz4 := hz3; have hb4 := hb3; have hya_4 := hya_3; clear hc3 hf3 hz3 hb3 hya_3)); (try (have hc3 := hc2; have hf3 := hf2; have hz3 := hz2; have hb3 := hb2; have hya_3 := hya_2; clear hc2 hf2 hz2 hb2 hya_2)); (try (have hc2 := hc1; have hf2 := hf1; have hz2 := hz1; have hb2 := hb1; have hya_2 := hya_1; clear hc1 hf1 hz1 hb1 hya_1)); rintro e w1 ⟨rfl, hb1⟩; obtain ⟨hc1, hf1⟩ := bcell hb1; (try simp only [World.size_drew, World.cell?_drew, World.frozen?_drew] at hc1 hf1); have hz1 := hb1.size; (try simp at hz1); have hya_1 : w.heap.size < w1.heap.size := (by omega); have HB := Lib.hid (((Below.refl w.heap.size w).alloc (Nat.le_refl _) _).trans (hb1.mono (by simp))); have OWN := Lib.hid (own_empty3 (w := w1) (B := w.heap.size) 37 2 rfl HB.out.size); clear hb1)))
      | (go_at_call 49; (with_reducible refine (D.out _).mono ?_); rintro e w2 ⟨rfl, rfl⟩))
    refine bodyPost_ret (v := .tuple #[.slice (some ⟨w1.heap.size, 0, none⟩) 0 0, .bool false]) (by simp [results, Try.results83, go_sem]) rfl ?_
    exact ⟨w1.heap.size, 0, [], false, ⟨rfl, FlO.of_own OWN.out, rfl⟩, HB.out.alloc HB.out.size _⟩
end Go.Proofs.Ytacinjbaebimhaa.Val
namespace Go.Proofs.Ytacinjbaebimhaa.Val
open Go.RowKit
set_option linter.unusedVariables false
set_option maxRecDepth 8000
set_option maxHeartbeats 4000000 in
theorem cols_6 (AT AA : Option Addr) (cT gA oA cA : Nat) (tb : Nat) (ah : List (List CT)) (i j : Nat) (n : Int) (A1 A2 : Option Addr) (el c1 ll c2 : Nat) (w : World) (hA : Cls w gA oA AA ah) (hal : ah.length ≤ 2000000) (hx : ∀ x ∈ ah, x.length ≤ 2000000) (hi : i < ah.length) (hj : j < ah.length) (hf : fieldsN 6 (i : Int) (j : Int) n el ll = true) :
    Calls Try.prog 83 #[.slice AT tb cT, .slice AA ah.length cA, .agg #[.int .i64 6, .int .i64 (i : Int), .int .i64 (j : Int), .int .i64 n, .slice A1 el c1, .slice A2 ll c2]] w (RetCols (some (ah.getD i [])) w) := by
  obtain ⟨i0, hinf, iz0, iz1, iz2⟩ := info_parts infoC
  have C := Lib.hid (fun W => l6Fields 6 (i : Int) (j : Int) n A1 A2 el c1 ll c2 W)
  rw [hf] at C
  have D := Lib.hid (fun (z : Int) W (h0 : 0 ≤ z) (h1 : z < (ah.length : Int)) => show Calls Try.prog 49 #[.int .i64 z, .int .i64 0, .int .i64 ((ah.length : Int) - 1)] W fun e w' => e = .returned (.bool true) ∧ W = w' by
    have h := l1In z 0 ((ah.length : Int) - 1) W
    rwa [show (decide ((0 : Int) ≤ z) && decide (z ≤ (ah.length : Int) - 1)) = true by simp; omega] at h)
  have HA := Lib.hid hA
  obtain ⟨rfl, hg, da, ga, oa, hca, hfa⟩ := HA.out.at i hi
  have hla := hx _ (List.getElem_mem hi)
  obtain ⟨X, hX⟩ : ∃ X, ah[i] = X := ⟨_, rfl⟩
  have HX := Lib.hid hX
  rw [hX] at hca hfa hla
  have HFA := Lib.hid hfa
  obtain ⟨xl, hxl⟩ : ∃ m, X.length = m := ⟨_, rfl⟩
  rw [hxl] at hca hla
  have hxf := Lib.hid (show (flatC X).length = xl * 2 by rw [flatC_len, hxl])
  have HXL := Lib.hid hxl
  clear hX hfa hxl
  have p0 : (0 : Int) ≤ (i : Int) := by omega
  have p1 : (i : Int) < (ah.length : Int) := by omega
  have p2 : (0 : Int) ≤ (j : Int) := by omega
  have p3 : (j : Int) < (ah.length : Int) := by omega
  rw [getD_lt hi, HX.out]
  go_enter Try.func83, Try.ntmps83
  go_wp2_with (first
    | ((go_at_call 119; ((with_reducible refine (C.out _).mono ?_); (try (have hc10 := hc9; have hf10 := hf9; have hz10 := hz9; have hb10 := hb9; have hya_10 := hya_9; clear hc9 hf9 hz9 hb9 hya_9)); (try (have hc9 := hc8; have hf9 := hf8; have hz9 := hz8; have hb9 := hb8; have hya_9 := hya_8; clear hc8 hf8 hz8 hb8 hya_8)); (try (have hc8 := hc7; have hf8 := hf7; have hz8 := hz7; have hb8 := hb7; have hya_8 := hya_7; clear hc7 hf7 hz7 hb7 hya_7)); (try (have hc7 := hc6; have hf7 := hf6; have hz7 := hz6; have hb7 := hb6; have hya_7 := hya_6; clear hc6 hf6 hz6 hb6 hya_6)); (try (have hc6 := hc5; have hf6 := hf5; have hz6 := hz5; have hb6 := hb5; have hya_6 := hya_5; clear hc5 hf5 hz5 hb5 hya_5)); (try (have hc5 := hc4; have hf5 := hf4; have hz5 := hz4; have hb5 := hb4; have hya_5 := hya_4; clear hc4 hf4 hz4 hb4 hya_4)); (try (have hc4 := hc3; have hf4 := hf3; have hz4 := hz3; have hb4 := hb3; have hya_4 := hya_3; clear hc3 hf3 hz3 hb3 hya_3)); (try (have hc3 := hc2; have hf3 := hf2; have hz3 := hz2; have hb3 := hb2; have hya_3 := hya_2; clear hc2 hf2 hz2 hb2 hya_2)); (try (have hc2 := hc1; have hf2 := hf1; have hz2 := hz1; have hb2 := hb1; have hya_2 := hya_1; clear hc1 hf1 hz1 hb1 hya_1)); rintro e w1 ⟨rfl, hb1⟩; obtain ⟨hc1, hf1⟩ := bcell hb1; (try simp only [World.size_drew, World.cell?_drew, World.frozen?_drew] at hc1 hf1); have hz1 := hb1.size; (try simp at hz1); have hya_1 : w.heap.size < w1.heap.size := (by omega); have HB := Lib.hid (((Below.refl w.heap.size w).alloc (Nat.le_refl _) _).trans (hb1.mono (by simp))); have hc2 := (HB.out.cell (p := ⟨gA, oA + i, none⟩) hg).trans hca; have OWN := Lib.hid (own_empty3 (w := w1) (B := w.heap.size + 1) 37 2 rfl (by omega)); have hsz := HB.out.size; have hg1 : gA < w1.heap.size := Nat.lt_of_lt_of_le hg hsz; have HF1 := Lib.hid ((HFA.out.below HB.out).alloc (.cells #[] 37)); clear hb1)))
    | (go_at_call 49; (with_reducible refine (D.out _ _ (by omega) (by omega)).mono ?_); rintro e w2 ⟨rfl, rfl⟩)
    | (at_builtin; go_loud (refine wpList_append_block _ rfl (.tmp 53) (.tmp 58) 34 rfl (w.heap.size + 1) 37 i0 (.agg #[.int .i64 0, .bool false]) 2 16 Try.underlying34 hinf iz0 iz1 iz2 rfl (by decide) w1.heap.size 0 0 [] rfl OWN.out _ xl _ (flatC X) rfl hxf.out (news_flo HF1.out) (one_flatC X) (by unfold maxLen; omega) (by omega) (by first | omega | (simp; done) | (simp; omega)) ?_); intro g2 c3 w2 hown hgr hgg; (try simp only [Nat.zero_add, List.nil_append] at hown); have HO := Lib.hid hown; have HB2 := Lib.hid (Below.grown (HB.out.alloc HB.out.size _) hgr (by simp; omega) (fun k hk => by obtain rfl := Option.some.inj hk; exact HB.out.size)); go_loud (have q : ∀ m v, (w.alloc (.cells #[.int .i64 6, .int .i64 (i : Int), .int .i64 (j : Int), .int .i64 n, .slice A1 el c1, .slice A2 ll c2] 32)).cell? ⟨w.heap.size, m, none⟩ = some v → w2.cell? ⟨w.heap.size, m, none⟩ = some v := (fun m v h => (cellOf (hgr.block w.heap.size (by simp; omega) (fun e => by have := Option.some.inj e; omega))).trans ((cellOf (Below.heap_alloc w1 _ _ (by omega))).trans ((hc1 w.heap.size m (by simp)).trans h))); have q0 := q 0 (.int .i64 6) (cell_newX rfl); have q1 := q 1 (.int .i64 (i : Int)) (cell_newX rfl); have q2 := q 2 (.int .i64 (j : Int)) (cell_newX rfl); have q4 := q 4 (.slice A1 el c1) (cell_newX rfl); have q5 := q 5 (.slice A2 ll c2) (cell_newX rfl); clear hown hgr hgg)))
  refine bodyPost_ret (v := .tuple #[.slice (some ⟨g2, 0, none⟩) xl c3, .bool true]) (by simp [results, Try.results83, go_sem]) rfl ?_
  exact ⟨g2, c3, X, true, ⟨by rw [HXL.out], by rw [HXL.out]; exact (FlO.of_own HO.out).lower (by omega), rfl⟩, HB2.out⟩
set_option maxHeartbeats 4000000 in
theorem cols_K (AT AA : Option Addr) (cT gA oA cA : Nat) (tb : Nat) (ah : List (List CT)) (k : Int) (i j : Nat) (n : Int) (A1 A2 : Option Addr) (el c1 ll c2 : Nat) (w : World) (hA : Cls w gA oA AA ah) (hal : ah.length ≤ 2000000) (hx : ∀ x ∈ ah, x.length ≤ 2000000) (hi : i < ah.length) (hj : j < ah.length) (k1 : ¬ k = 1) (k2 : ¬ k = 2) (k3 : ¬ k = 3) (k4 : ¬ k = 4) (k5 : ¬ k = 5) (k6 : ¬ k = 6) (hf : fieldsN k (i : Int) (j : Int) n el ll = true) :
    Calls Try.prog 83 #[.slice AT tb cT, .slice AA ah.length cA, .agg #[.int .i64 k, .int .i64 (i : Int), .int .i64 (j : Int), .int .i64 n, .slice A1 el c1, .slice A2 ll c2]] w (RetCols (none) w) := by
  obtain ⟨i0, hinf, iz0, iz1, iz2⟩ := info_parts infoC
  have C := Lib.hid (fun W => l6Fields k (i : Int) (j : Int) n A1 A2 el c1 ll c2 W)
  rw [hf] at C
  have D := Lib.hid (fun (z : Int) W (h0 : 0 ≤ z) (h1 : z < (ah.length : Int)) => show Calls Try.prog 49 #[.int .i64 z, .int .i64 0, .int .i64 ((ah.length : Int) - 1)] W fun e w' => e = .returned (.bool true) ∧ W = w' by
    have h := l1In z 0 ((ah.length : Int) - 1) W
    rwa [show (decide ((0 : Int) ≤ z) && decide (z ≤ (ah.length : Int) - 1)) = true by simp; omega] at h)
  have HA := Lib.hid hA
  obtain ⟨rfl, hg, da, ga, oa, hca, hfa⟩ := HA.out.at i hi
  have hla := hx _ (List.getElem_mem hi)
  obtain ⟨X, hX⟩ : ∃ X, ah[i] = X := ⟨_, rfl⟩
  have HX := Lib.hid hX
  rw [hX] at hca hfa hla
  have HFA := Lib.hid hfa
  obtain ⟨xl, hxl⟩ : ∃ m, X.length = m := ⟨_, rfl⟩
  rw [hxl] at hca hla
  have hxf := Lib.hid (show (flatC X).length = xl * 2 by rw [flatC_len, hxl])
  have HXL := Lib.hid hxl
  clear hX hfa hxl
  have p0 : (0 : Int) ≤ (i : Int) := by omega
  have p1 : (i : Int) < (ah.length : Int) := by omega
  have p2 : (0 : Int) ≤ (j : Int) := by omega
  have p3 : (j : Int) < (ah.length : Int) := by omega
  go_enter Try.func83, Try.ntmps83
  go_wp2_with (first
    | ((go_at_call 119; ((with_reducible refine (C.out _).mono ?_); (try (have hc10 := hc9; have hf10 := hf9; have hz10 := hz9; have hb10 := hb9; have hya_10 := hya_9; clear hc9 hf9 hz9 hb9 hya_9)); (try (have hc9 := hc8; have hf9 := hf8; have hz9 := hz8; have hb9 := hb8; have hya_9 := hya_8; clear hc8 hf8 hz8 hb8 hya_8)); (try (have hc8 := hc7; have hf8 := hf7; have hz8 := hz7; have hb8 := hb7; have hya_8 := hya_7; clear hc7 hf7 hz7 hb7 hya_7)); (try (have hc7 := hc6; have hf7 := hf6; have hz7 := hz6; have hb7 := hb6; have hya_7 := hya_6; clear hc6 hf6 hz6 hb6 hya_6)); (try (have hc6 := hc5; have hf6 := hf5; have hz6 := hz5; have hb6 := hb5; have hya_6 := hya_5; clear hc5 hf5 hz5 hb5 hya_5)); (try (have hc5 := hc4; have hf5 := hf4; have hz5 := hz4; have hb5 := hb4; have hya_5 := hya_4; clear hc4 hf4 hz4 hb4 hya_4)); (try (have hc4 := hc3; have hf4 := hf3; have hz4 := hz3; have hb4 := hb3; have hya_4 := hya_3; clear hc3 hf3 hz3 hb3 hya_3)); (try (have hc3 := hc2; have hf3 := hf2; have hz3 := hz2; have hb3 := hb2; have hya_3 := hya_2; clear hc2 hf2 hz2 hb2 hya_2)); (try (have hc2 := hc1; have hf2 := hf1; have hz2 := hz1; have hb2 := hb1; have hya_2 := hya_1; clear hc1 hf1 hz1 hb1 hya_1)); rintro e w1 ⟨rfl, hb1⟩; obtain ⟨hc1, hf1⟩ := bcell hb1; (try simp only [World.size_drew, World.cell?_drew, World.frozen?_drew] at hc1 hf1); have hz1 := hb1.size; (try simp at hz1); have hya_1 : w.heap.size < w1.heap.size := (by omega); have HB := Lib.hid (((Below.refl w.heap.size w).alloc (Nat.le_refl _) _).trans (hb1.mono (by simp))); have hc2 := (HB.out.cell (p := ⟨gA, oA + i, none⟩) hg).trans hca; have OWN := Lib.hid (own_empty3 (w := w1) (B := w.heap.size + 1) 37 2 rfl (by omega)); have hsz := HB.out.size; have hg1 : gA < w1.heap.size := Nat.lt_of_lt_of_le hg hsz; have HF1 := Lib.hid ((HFA.out.below HB.out).alloc (.cells #[] 37)); clear hb1)))
    | (go_at_call 49; (with_reducible refine (D.out _ _ (by omega) (by omega)).mono ?_); rintro e w2 ⟨rfl, rfl⟩)
    | (at_builtin; go_loud (refine wpList_append_block _ rfl (.tmp 53) (.tmp 58) 34 rfl (w.heap.size + 1) 37 i0 (.agg #[.int .i64 0, .bool false]) 2 16 Try.underlying34 hinf iz0 iz1 iz2 rfl (by decide) w1.heap.size 0 0 [] rfl OWN.out _ xl _ (flatC X) rfl hxf.out (news_flo HF1.out) (one_flatC X) (by unfold maxLen; omega) (by omega) (by first | omega | (simp; done) | (simp; omega)) ?_); intro g2 c3 w2 hown hgr hgg; (try simp only [Nat.zero_add, List.nil_append] at hown); have HO := Lib.hid hown; have HB2 := Lib.hid (Below.grown (HB.out.alloc HB.out.size _) hgr (by simp; omega) (fun k hk => by obtain rfl := Option.some.inj hk; exact HB.out.size)); go_loud (have q : ∀ m v, (w.alloc (.cells #[.int .i64 k, .int .i64 (i : Int), .int .i64 (j : Int), .int .i64 n, .slice A1 el c1, .slice A2 ll c2] 32)).cell? ⟨w.heap.size, m, none⟩ = some v → w2.cell? ⟨w.heap.size, m, none⟩ = some v := (fun m v h => (cellOf (hgr.block w.heap.size (by simp; omega) (fun e => by have := Option.some.inj e; omega))).trans ((cellOf (Below.heap_alloc w1 _ _ (by omega))).trans ((hc1 w.heap.size m (by simp)).trans h))); have q0 := q 0 (.int .i64 k) (cell_newX rfl); have q1 := q 1 (.int .i64 (i : Int)) (cell_newX rfl); have q2 := q 2 (.int .i64 (j : Int)) (cell_newX rfl); have q4 := q 4 (.slice A1 el c1) (cell_newX rfl); have q5 := q 5 (.slice A2 ll c2) (cell_newX rfl); clear hown hgr hgg)))
  refine bodyPost_ret (v := .tuple #[.slice (some ⟨w2.heap.size, 0, none⟩) 0 0, .bool false]) (by simp [results, Try.results83, go_sem]) rfl ?_
  exact ⟨w2.heap.size, 0, [], false, ⟨rfl, FlO.of_own (own_empty3 37 2 rfl HB2.out.size), rfl⟩, HB2.out.alloc HB2.out.size _⟩
set_option maxHeartbeats 4000000 in
theorem cols_2 (AT AA : Option Addr) (cT gA oA cA : Nat) (tb : Nat) (ah : List (List CT)) (i j : Nat) (n : Int) (A1 A2 : Option Addr) (c1 ll c2 : Nat) (w : World) (hA : Cls w gA oA AA ah) (hal : ah.length ≤ 2000000) (hx : ∀ x ∈ ah, x.length ≤ 2000000) (hi : i < ah.length) (hj : j < ah.length) (es : List PT) (ge oe : Nat) (hE : Fl w ge oe A1 (flatP es)) (hle : es.length ≤ 2000000) (hsh : ShortP es) (hf : fieldsN 2 (i : Int) (j : Int) n es.length ll = true) :
    Calls Try.prog 83 #[.slice AT tb cT, .slice AA ah.length cA, .agg #[.int .i64 2, .int .i64 (i : Int), .int .i64 (j : Int), .int .i64 n, .slice A1 es.length c1, .slice A2 ll c2]] w (RetCols (if kindI (ah.getD i []) es = 3 then some (ah.getD i []) else none) w) := by
  obtain ⟨i0, hinf, iz0, iz1, iz2⟩ := info_parts infoC
  have C := Lib.hid (fun W => l6Fields 2 (i : Int) (j : Int) n A1 A2 es.length c1 ll c2 W)
  rw [hf] at C
  have D := Lib.hid (fun (z : Int) W (h0 : 0 ≤ z) (h1 : z < (ah.length : Int)) => show Calls Try.prog 49 #[.int .i64 z, .int .i64 0, .int .i64 ((ah.length : Int) - 1)] W fun e w' => e = .returned (.bool true) ∧ W = w' by
    have h := l1In z 0 ((ah.length : Int) - 1) W
    rwa [show (decide ((0 : Int) ≤ z) && decide (z ≤ (ah.length : Int) - 1)) = true by simp; omega] at h)
  have HA := Lib.hid hA
  obtain ⟨rfl, hg, da, ga, oa, hca, hfa⟩ := HA.out.at i hi
  have hla := hx _ (List.getElem_mem hi)
  obtain ⟨X, hX⟩ : ∃ X, ah[i] = X := ⟨_, rfl⟩
  have HX := Lib.hid hX
  rw [hX] at hca hfa hla
  have HFA := Lib.hid hfa
  obtain ⟨xl, hxl⟩ : ∃ m, X.length = m := ⟨_, rfl⟩
  rw [hxl] at hca hla
  have hxf := Lib.hid (show (flatC X).length = xl * 2 by rw [flatC_len, hxl])
  have HXL := Lib.hid hxl
  clear hX hfa hxl
  have p0 : (0 : Int) ≤ (i : Int) := by omega
  have p1 : (i : Int) < (ah.length : Int) := by omega
  have p2 : (0 : Int) ≤ (j : Int) := by omega
  have p3 : (j : Int) < (ah.length : Int) := by omega
  rw [getD_lt hi, HX.out]
  have HE := Lib.hid hE
  have CK := Lib.hid (fun W g c hW hW2 => exprKindS (some ⟨g, 0, none⟩) A1 g 0 c ge oe c1 X es W hW hW2 (by have := HXL.out; omega) hle hsh)
  rw [HXL.out] at CK
  clear hE hsh
  go_enter Try.func83, Try.ntmps83
  go_wp2_with (first
    | ((go_at_call 119; ((with_reducible refine (C.out _).mono ?_); (try (have hc10 := hc9; have hf10 := hf9; have hz10 := hz9; have hb10 := hb9; have hya_10 := hya_9; clear hc9 hf9 hz9 hb9 hya_9)); (try (have hc9 := hc8; have hf9 := hf8; have hz9 := hz8; have hb9 := hb8; have hya_9 := hya_8; clear hc8 hf8 hz8 hb8 hya_8)); (try (have hc8 := hc7; have hf8 := hf7; have hz8 := hz7; have hb8 := hb7; have hya_8 := hya_7; clear hc7 hf7 hz7 hb7 hya_7)); (try (have hc7 := hc6; have hf7 := hf6; have hz7 := hz6; have hb7 := hb6; have hya_7 := hya_6; clear hc6 hf6 hz6 hb6 hya_6)); (try (have hc6 := hc5; have hf6 := hf5; have hz6 := hz5; have hb6 := hb5; have hya_6 := hya_5; clear hc5 hf5 hz5 hb5 hya_5)); (try (have hc5 := hc4; have hf5 := hf4; have hz5 := hz4; have hb5 := hb4; have hya_5 := hya_4; clear hc4 hf4 hz4 hb4 hya_4)); (try (have hc4 := hc3; have hf4 := hf3; have hz4 := hz3; have hb4 := hb3; have hya_4 := hya_3; clear hc3 hf3 hz3 hb3 hya_3)); (try (have hc3 := hc2; have hf3 := hf2; have hz3 := hz2; have hb3 := hb2; have hya_3 := hya_2; clear hc2 hf2 hz2 hb2 hya_2)); (try (have hc2 := hc1; have hf2 := hf1; have hz2 := hz1; have hb2 := hb1; have hya_2 := hya_1; clear hc1 hf1 hz1 hb1 hya_1)); rintro e w1 ⟨rfl, hb1⟩; obtain ⟨hc1, hf1⟩ := bcell hb1; (try simp only [World.size_drew, World.cell?_drew, World.frozen?_drew] at hc1 hf1); have hz1 := hb1.size; (try simp at hz1); have hya_1 : w.heap.size < w1.heap.size := (by omega); have HB := Lib.hid (((Below.refl w.heap.size w).alloc (Nat.le_refl _) _).trans (hb1.mono (by simp))); have hc2 := (HB.out.cell (p := ⟨gA, oA + i, none⟩) hg).trans hca; have OWN := Lib.hid (own_empty3 (w := w1) (B := w.heap.size + 1) 37 2 rfl (by omega)); have hsz := HB.out.size; have hg1 : gA < w1.heap.size := Nat.lt_of_lt_of_le hg hsz; have HF1 := Lib.hid ((HFA.out.below HB.out).alloc (.cells #[] 37)); clear hb1)))
    | (go_at_call 49; (with_reducible refine (D.out _ _ (by omega) (by omega)).mono ?_); rintro e w2 ⟨rfl, rfl⟩)
    | (at_builtin; go_loud (refine wpList_append_block _ rfl (.tmp 53) (.tmp 58) 34 rfl (w.heap.size + 1) 37 i0 (.agg #[.int .i64 0, .bool false]) 2 16 Try.underlying34 hinf iz0 iz1 iz2 rfl (by decide) w1.heap.size 0 0 [] rfl OWN.out _ xl _ (flatC X) rfl hxf.out (news_flo HF1.out) (one_flatC X) (by unfold maxLen; omega) (by omega) (by first | omega | (simp; done) | (simp; omega)) ?_); intro g2 c3 w2 hown hgr hgg; (try simp only [Nat.zero_add, List.nil_append] at hown); have HO := Lib.hid hown; have HB2 := Lib.hid (Below.grown (HB.out.alloc HB.out.size _) hgr (by simp; omega) (fun k hk => by obtain rfl := Option.some.inj hk; exact HB.out.size)); go_loud (have q : ∀ m v, (w.alloc (.cells #[.int .i64 2, .int .i64 (i : Int), .int .i64 (j : Int), .int .i64 n, .slice A1 es.length c1, .slice A2 ll c2] 32)).cell? ⟨w.heap.size, m, none⟩ = some v → w2.cell? ⟨w.heap.size, m, none⟩ = some v := (fun m v h => (cellOf (hgr.block w.heap.size (by simp; omega) (fun e => by have := Option.some.inj e; omega))).trans ((cellOf (Below.heap_alloc w1 _ _ (by omega))).trans ((hc1 w.heap.size m (by simp)).trans h))); have q0 := q 0 (.int .i64 2) (cell_newX rfl); have q1 := q 1 (.int .i64 (i : Int)) (cell_newX rfl); have q2 := q 2 (.int .i64 (j : Int)) (cell_newX rfl); have q4 := q 4 (.slice A1 es.length c1) (cell_newX rfl); have q5 := q 5 (.slice A2 ll c2) (cell_newX rfl); clear hown hgr hgg))
    | (go_at_call 120; (with_reducible refine (CK.out _ _ _ (FlO.of_own HO.out).fl (HE.out.below HB2.out)).mono ?_); rintro e w3 ⟨rfl, hb3⟩; have FO := Lib.hid ((FlO.of_own HO.out).below hb3); have HB3 := Lib.hid (HB2.out.trans (hb3.mono HB2.out.size)); clear hb3))
  all_goals (refine bodyPost_ret (v := .tuple #[.slice (some ⟨g2, 0, none⟩) xl c3, .bool (kindI X es == 3)]) (by simp [results, Try.results83, go_sem, *]) rfl ?_)
  all_goals exact ⟨g2, c3, X, _, ⟨by rw [HXL.out], by rw [HXL.out]; exact FO.out.lower (by omega), by simp [*]⟩, HB3.out⟩
set_option maxHeartbeats 4000000 in
theorem cols_4 (AT AA : Option Addr) (cT gA oA cA : Nat) (tb : Nat) (ah : List (List CT)) (i j : Nat) (n : Int) (A1 A2 : Option Addr) (c1 ll c2 : Nat) (w : World) (hA : Cls w gA oA AA ah) (hal : ah.length ≤ 2000000) (hx : ∀ x ∈ ah, x.length ≤ 2000000) (hi : i < ah.length) (hj : j < ah.length) (es : List PT) (ge oe : Nat) (hE : Fl w ge oe A1 (flatP es)) (hle : es.length ≤ 2000000) (hsh : ShortP es) (hf : fieldsN 4 (i : Int) (j : Int) n es.length ll = true) :
    Calls Try.prog 83 #[.slice AT tb cT, .slice AA ah.length cA, .agg #[.int .i64 4, .int .i64 (i : Int), .int .i64 (j : Int), .int .i64 n, .slice A1 es.length c1, .slice A2 ll c2]] w (RetCols (joinC (ah.getD i []) (ah.getD j []) es) w) := by
  obtain ⟨i0, hinf, iz0, iz1, iz2⟩ := info_parts infoC
  have C := Lib.hid (fun W => l6Fields 4 (i : Int) (j : Int) n A1 A2 es.length c1 ll c2 W)
  rw [hf] at C
  have D := Lib.hid (fun (z : Int) W (h0 : 0 ≤ z) (h1 : z < (ah.length : Int)) => show Calls Try.prog 49 #[.int .i64 z, .int .i64 0, .int .i64 ((ah.length : Int) - 1)] W fun e w' => e = .returned (.bool true) ∧ W = w' by
    have h := l1In z 0 ((ah.length : Int) - 1) W
    rwa [show (decide ((0 : Int) ≤ z) && decide (z ≤ (ah.length : Int) - 1)) = true by simp; omega] at h)
  have HA := Lib.hid hA
  obtain ⟨rfl, hg, da, ga, oa, hca, hfa⟩ := HA.out.at i hi
  have hla := hx _ (List.getElem_mem hi)
  obtain ⟨X, hX⟩ : ∃ X, ah[i] = X := ⟨_, rfl⟩
  have HX := Lib.hid hX
  rw [hX] at hca hfa hla
  have HFA := Lib.hid hfa
  obtain ⟨xl, hxl⟩ : ∃ m, X.length = m := ⟨_, rfl⟩
  rw [hxl] at hca hla
  have hxf := Lib.hid (show (flatC X).length = xl * 2 by rw [flatC_len, hxl])
  have HXL := Lib.hid hxl
  clear hX hfa hxl
  have p0 : (0 : Int) ≤ (i : Int) := by omega
  have p1 : (i : Int) < (ah.length : Int) := by omega
  have p2 : (0 : Int) ≤ (j : Int) := by omega
  have p3 : (j : Int) < (ah.length : Int) := by omega
  obtain ⟨-, -, db, gb, ob, hcb, hfb⟩ := HA.out.at j hj
  have hlb := hx _ (List.getElem_mem hj)
  obtain ⟨Y, hY⟩ : ∃ Y, ah[j] = Y := ⟨_, rfl⟩
  have HY := Lib.hid hY
  rw [hY] at hcb hfb hlb
  have HFB := Lib.hid hfb
  obtain ⟨yl, hyl⟩ : ∃ m, Y.length = m := ⟨_, rfl⟩
  rw [hyl] at hcb hlb
  have hyf := Lib.hid (show (flatC Y).length = yl * 2 by rw [flatC_len, hyl])
  have HYL := Lib.hid hyl
  clear hY hfb hyl
  rw [getD_lt hi, HX.out, getD_lt hj, HY.out]
  have HE := Lib.hid hE
  have hlxy : (X ++ Y).length = xl + yl := by rw [List.length_append, HXL.out, HYL.out]
  have HLXY := Lib.hid hlxy
  have HJ : Hid (joinC X Y es = if xl + yl ≤ 4 ∧ kindI (X ++ Y) es = 3 then some (X ++ Y) else none) := by show _ = _; rw [joinC, hlxy]
  by_cases h4 : xl + yl ≤ 4
  · have CK := Lib.hid (fun W g c hW hW2 => exprKindS (some ⟨g, 0, none⟩) A1 g 0 c ge oe c1 (X ++ Y) es W hW hW2 (by omega) hle hsh)
    rw [hlxy] at CK
    clear hE hsh hlxy
    go_enter Try.func83, Try.ntmps83
    go_wp2_with (first
      | ((go_at_call 119; ((with_reducible refine (C.out _).mono ?_); (try (have hc10 := hc9; have hf10 := hf9; have hz10 := hz9; have hb10 := hb9; have hya_10 := hya_9; clear hc9 hf9 hz9 hb9 hya_9)); (try (have hc9 := hc8; have hf9 := hf8; have hz9 := hz8; have hb9 := hb8; have hya_9 := hya_8; clear hc8 hf8 hz8 hb8 hya_8)); (try (have hc8 := hc7; have hf8 := hf7; have hz8 := hz7; have hb8 := hb7; have hya_8 := hya_7; clear hc7 hf7 hz7 hb7 hya_7)); (try (have hc7 := hc6; have hf7 := hf6; have hz7 := hz6; have hb7 := hb6; have hya_7 := hya_6; clear hc6 hf6 hz6 hb6 hya_6)); (try (have hc6 := hc5; have hf6 := hf5; have hz6 := hz5; have hb6 := hb5; have hya_6 := hya_5; clear hc5 hf5 hz5 hb5 hya_5)); (try (have hc5 := hc4; have hf5 := hf4; have hz5 := hz4; have hb5 := hb4; have hya_5 := hya_4; clear hc4 hf4 hz4 hb4 hya_4)); (try (have hc4 := hc3; have hf4 := hf3; have hz4 := hz3; have hb4 := hb3; have hya_4 := hya_3; clear hc3 hf3 hz3 hb3 hya_3)); (try (have hc3 := hc2; have hf3 := hf2; have hz3 := hz2; have hb3 := hb2; have hya_3 := hya_2; clear hc2 hf2 hz2 hb2 hya_2)); (try (have hc2 := hc1; have hf2 := hf1; have hz2 := hz1; have hb2 := hb1; have hya_2 := hya_1; clear hc1 hf1 hz1 hb1 hya_1)); rintro e w1 ⟨rfl, hb1⟩; obtain ⟨hc1, hf1⟩ := bcell hb1; (try simp only [World.size_drew, World.cell?_drew, World.frozen?_drew] at hc1 hf1); have hz1 := hb1.size; (try simp at hz1); have hya_1 : w.heap.size < w1.heap.size := (by omega); have HB := Lib.hid (((Below.refl w.heap.size w).alloc (Nat.le_refl _) _).trans (hb1.mono (by simp))); have hc2 := (HB.out.cell (p := ⟨gA, oA + i, none⟩) hg).trans hca; have OWN := Lib.hid (own_empty3 (w := w1) (B := w.heap.size + 1) 37 2 rfl (by omega)); have hsz := HB.out.size; have hg1 : gA < w1.heap.size := Nat.lt_of_lt_of_le hg hsz; have HF1 := Lib.hid ((HFA.out.below HB.out).alloc (.cells #[] 37)); clear hb1)))
      | (go_at_call 49; (with_reducible refine (D.out _ _ (by omega) (by omega)).mono ?_); rintro e w2 ⟨rfl, rfl⟩)
      | (at_builtin; go_loud (refine wpList_append_block _ rfl (.tmp 53) (.tmp 58) 34 rfl (w.heap.size + 1) 37 i0 (.agg #[.int .i64 0, .bool false]) 2 16 Try.underlying34 hinf iz0 iz1 iz2 rfl (by decide) w1.heap.size 0 0 [] rfl OWN.out _ xl _ (flatC X) rfl hxf.out (news_flo HF1.out) (one_flatC X) (by unfold maxLen; omega) (by omega) (by first | omega | (simp; done) | (simp; omega)) ?_); intro g2 c3 w2 hown hgr hgg; (try simp only [Nat.zero_add, List.nil_append] at hown); have HO := Lib.hid hown; have HB2 := Lib.hid (Below.grown (HB.out.alloc HB.out.size _) hgr (by simp; omega) (fun k hk => by obtain rfl := Option.some.inj hk; exact HB.out.size)); go_loud (have q : ∀ m v, (w.alloc (.cells #[.int .i64 4, .int .i64 (i : Int), .int .i64 (j : Int), .int .i64 n, .slice A1 es.length c1, .slice A2 ll c2] 32)).cell? ⟨w.heap.size, m, none⟩ = some v → w2.cell? ⟨w.heap.size, m, none⟩ = some v := (fun m v h => (cellOf (hgr.block w.heap.size (by simp; omega) (fun e => by have := Option.some.inj e; omega))).trans ((cellOf (Below.heap_alloc w1 _ _ (by omega))).trans ((hc1 w.heap.size m (by simp)).trans h))); have q0 := q 0 (.int .i64 4) (cell_newX rfl); have q1 := q 1 (.int .i64 (i : Int)) (cell_newX rfl); have q2 := q 2 (.int .i64 (j : Int)) (cell_newX rfl); have q4 := q 4 (.slice A1 es.length c1) (cell_newX rfl); have q5 := q 5 (.slice A2 ll c2) (cell_newX rfl);have hc4 := (HB2.out.cell (p := ⟨gA, oA + j, none⟩) hg).trans hcb; have HFB2 := Lib.hid (HFB.out.below HB2.out); have HQ := Lib.hid q; have hg2l := (HO.out.lt g2 rfl).1; have hg2h := (HO.out.lt g2 rfl).2; clear hown hgr hgg))
      | (at_builtin; go_loud (refine wpList_append_block _ rfl (.tmp 108) (.tmp 113) 34 rfl (w.heap.size + 1) 37 i0 (.agg #[.int .i64 0, .bool false]) 2 16 Try.underlying34 hinf iz0 iz1 iz2 rfl (by decide) g2 xl c3 (flatC X) rfl HO.out _ yl _ (flatC Y) rfl hyf.out (news_flo HFB2.out) (one_flatC Y) (by unfold maxLen; omega) (by omega) (by have := HB2.out.size; omega) ?_); intro g3 c4 w3 hown hgr hgg; have HO3 := Lib.hid hown; have HB3 := Lib.hid (Below.grown HB2.out hgr HB2.out.size (fun k hk => by obtain rfl := Option.some.inj hk; omega)); go_loud (have q9 : ∀ m v, (w.alloc (.cells #[.int .i64 4, .int .i64 (i : Int), .int .i64 (j : Int), .int .i64 n, .slice A1 es.length c1, .slice A2 ll c2] 32)).cell? ⟨w.heap.size, m, none⟩ = some v → w3.cell? ⟨w.heap.size, m, none⟩ = some v := (fun m v h => (cellOf (hgr.block w.heap.size (by omega) (fun e => by have := Option.some.inj e; omega))).trans (HQ.out m v h)); have q94 := q9 4 (.slice A1 es.length c1) (cell_newX rfl); clear hown hgr hgg))
      | (go_at_call 120; (with_reducible refine (CK.out _ _ _ (by rw [flatC_app]; exact (FlO.of_own HO3.out).fl) (HE.out.below HB3.out)).mono ?_); rintro e w4 ⟨rfl, hb4⟩; have FO := Lib.hid ((FlO.of_own HO3.out).below hb4); have HB4 := Lib.hid (HB3.out.trans (hb4.mono HB3.out.size)); clear hb4))
    refine bodyPost_ret (v := .tuple #[.slice (some ⟨g3, 0, none⟩) (xl + yl) c4, .bool (kindI (X ++ Y) es == 3)]) (by simp [results, Try.results83, go_sem]) rfl ?_
    exact ⟨g3, c4, X ++ Y, _, ⟨by rw [HLXY.out], by rw [HLXY.out, flatC_app]; exact (FO.out).lower (by omega), by rw [HJ.out]; simp [h4]⟩, HB4.out⟩
  · clear hE hsh hlxy
    go_enter Try.func83, Try.ntmps83
    go_wp2_with (first
      | ((go_at_call 119; ((with_reducible refine (C.out _).mono ?_); (try (have hc10 := hc9; have hf10 := hf9; have hz10 := hz9; have hb10 := hb9; have hya_10 := hya_9; clear hc9 hf9 hz9 hb9 hya_9)); (try (have hc9 := hc8; have hf9 := hf8; have hz9 := hz8; have hb9 := hb8; have hya_9 := hya_8; clear hc8 hf8 hz8 hb8 hya_8)); (try (have hc8 := hc7; have hf8 := hf7; have hz8 := hz7; have hb8 := hb7; have hya_8 := hya_7; clear hc7 hf7 hz7 hb7 hya_7)); (try (have hc7 := hc6; have hf7 := hf6; have hz7 := hz6; have hb7 := hb6; have hya_7 := hya_6; clear hc6 hf6 hz6 hb6 hya_6)); (try (have hc6 := hc5; have hf6 := hf5; have hz6 := hz5; have hb6 := hb5; have hya_6 := hya_5; clear hc5 hf5 hz5 hb5 hya_5)); (try (have hc5 := hc4; have hf5 := hf4; have hz5 := hz4; have hb5 := hb4; have hya_5 := hya_4; clear hc4 hf4 hz4 hb4 hya_4)); (try (have hc4 := hc3; have hf4 := hf3; have hz4 := hz3; have hb4 := hb3; have hya_4 := hya_3; clear hc3 hf3 hz3 hb3 hya_3)); (try (have hc3 := hc2; have hf3 := hf2; have hz3 := hz2; have hb3 := hb2; have hya_3 := hya_2; clear hc2 hf2 hz2 hb2 hya_2)); (try (have hc2 := hc1; have hf2 := hf1; have hz2 := hz1; have hb2 := hb1; have hya_2 := hya_1; clear hc1 hf1 hz1 hb1 hya_1)); rintro e w1 ⟨rfl, hb1⟩; obtain ⟨hc1, hf1⟩ := bcell hb1; (try simp only [World.size_drew, World.cell?_drew, World.frozen?_drew] at hc1 hf1); have hz1 := hb1.size; (try simp at hz1); have hya_1 : w.heap.size < w1.heap.size := (by omega); have HB := Lib.hid (((Below.refl w.heap.size w).alloc (Nat.le_refl _) _).trans (hb1.mono (by simp))); have hc2 := (HB.out.cell (p := ⟨gA, oA + i, none⟩) hg).trans hca; have OWN := Lib.hid (own_empty3 (w := w1) (B := w.heap.size + 1) 37 2 rfl (by omega)); have hsz := HB.out.size; have hg1 : gA < w1.heap.size := Nat.lt_of_lt_of_le hg hsz; have HF1 := Lib.hid ((HFA.out.below HB.out).alloc (.cells #[] 37)); clear hb1)))
      | (go_at_call 49; (with_reducible refine (D.out _ _ (by omega) (by omega)).mono ?_); rintro e w2 ⟨rfl, rfl⟩)
      | (at_builtin; go_loud (refine wpList_append_block _ rfl (.tmp 53) (.tmp 58) 34 rfl (w.heap.size + 1) 37 i0 (.agg #[.int .i64 0, .bool false]) 2 16 Try.underlying34 hinf iz0 iz1 iz2 rfl (by decide) w1.heap.size 0 0 [] rfl OWN.out _ xl _ (flatC X) rfl hxf.out (news_flo HF1.out) (one_flatC X) (by unfold maxLen; omega) (by omega) (by first | omega | (simp; done) | (simp; omega)) ?_); intro g2 c3 w2 hown hgr hgg; (try simp only [Nat.zero_add, List.nil_append] at hown); have HO := Lib.hid hown; have HB2 := Lib.hid (Below.grown (HB.out.alloc HB.out.size _) hgr (by simp; omega) (fun k hk => by obtain rfl := Option.some.inj hk; exact HB.out.size)); go_loud (have q : ∀ m v, (w.alloc (.cells #[.int .i64 4, .int .i64 (i : Int), .int .i64 (j : Int), .int .i64 n, .slice A1 es.length c1, .slice A2 ll c2] 32)).cell? ⟨w.heap.size, m, none⟩ = some v → w2.cell? ⟨w.heap.size, m, none⟩ = some v := (fun m v h => (cellOf (hgr.block w.heap.size (by simp; omega) (fun e => by have := Option.some.inj e; omega))).trans ((cellOf (Below.heap_alloc w1 _ _ (by omega))).trans ((hc1 w.heap.size m (by simp)).trans h))); have q0 := q 0 (.int .i64 4) (cell_newX rfl); have q1 := q 1 (.int .i64 (i : Int)) (cell_newX rfl); have q2 := q 2 (.int .i64 (j : Int)) (cell_newX rfl); have q4 := q 4 (.slice A1 es.length c1) (cell_newX rfl); have q5 := q 5 (.slice A2 ll c2) (cell_newX rfl);have hc4 := (HB2.out.cell (p := ⟨gA, oA + j, none⟩) hg).trans hcb; have HFB2 := Lib.hid (HFB.out.below HB2.out); have HQ := Lib.hid q; have hg2l := (HO.out.lt g2 rfl).1; have hg2h := (HO.out.lt g2 rfl).2; clear hown hgr hgg))
      | (at_builtin; go_loud (refine wpList_append_block _ rfl (.tmp 108) (.tmp 113) 34 rfl (w.heap.size + 1) 37 i0 (.agg #[.int .i64 0, .bool false]) 2 16 Try.underlying34 hinf iz0 iz1 iz2 rfl (by decide) g2 xl c3 (flatC X) rfl HO.out _ yl _ (flatC Y) rfl hyf.out (news_flo HFB2.out) (one_flatC Y) (by unfold maxLen; omega) (by omega) (by have := HB2.out.size; omega) ?_); intro g3 c4 w3 hown hgr hgg; have HO3 := Lib.hid hown; have HB3 := Lib.hid (Below.grown HB2.out hgr HB2.out.size (fun k hk => by obtain rfl := Option.some.inj hk; omega)); go_loud (have q9 : ∀ m v, (w.alloc (.cells #[.int .i64 4, .int .i64 (i : Int), .int .i64 (j : Int), .int .i64 n, .slice A1 es.length c1, .slice A2 ll c2] 32)).cell? ⟨w.heap.size, m, none⟩ = some v → w3.cell? ⟨w.heap.size, m, none⟩ = some v := (fun m v h => (cellOf (hgr.block w.heap.size (by omega) (fun e => by have := Option.some.inj e; omega))).trans (HQ.out m v h)); have q94 := q9 4 (.slice A1 es.length c1) (cell_newX rfl); clear hown hgr hgg)))
    refine bodyPost_ret (v := .tuple #[.slice (some ⟨g3, 0, none⟩) (xl + yl) c4, .bool false]) (by simp [results, Try.results83, go_sem]) rfl ?_
    exact ⟨g3, c4, X ++ Y, false, ⟨by rw [HLXY.out], by rw [HLXY.out, flatC_app]; exact (FlO.of_own HO3.out).lower (by omega), by rw [HJ.out]; simp [h4]⟩, HB3.out⟩
end Go.Proofs.Ytacinjbaebimhaa.Val
namespace Go.Proofs.Ytacinjbaebimhaa.Val
open Go.RowKit
set_option linter.unusedVariables false
set_option maxRecDepth 8000
theorem takeC_no {X : List CT} {ns : List Int} {k : Nat} (hk : k < ns.length) (h : inB ns[k] X.length = false) : takeC X ns = none := by
  unfold takeC
  rw [if_neg]
  rintro ⟨h1, -⟩
  rw [List.all_eq_true] at h1
  have := h1 _ (List.getElem_mem hk)
  rw [h] at this; cases this
set_option maxHeartbeats 4000000 in
theorem cols_3 (AT AA : Option Addr) (cT gA oA cA : Nat) (tb : Nat) (ah : List (List CT)) (i j : Nat) (n : Int) (A1 A2 : Option Addr) (el c1 c2 : Nat) (w : World) (hA : Cls w gA oA AA ah) (hal : ah.length ≤ 2000000) (hx : ∀ x ∈ ah, x.length ≤ 2000000) (hi : i < ah.length) (hj : j < ah.length) (ns : List Int) (gn on : Nat) (hE : Fl w gn on A2 (ns.map iv)) (hle : ns.length ≤ 2000000) (hf : fieldsN 3 (i : Int) (j : Int) n el ns.length = true) :
    Calls Try.prog 83 #[.slice AT tb cT, .slice AA ah.length cA, .agg #[.int .i64 3, .int .i64 (i : Int), .int .i64 (j : Int), .int .i64 n, .slice A1 el c1, .slice A2 ns.length c2]] w (RetCols (takeC (ah.getD i []) ns) w) := by
  obtain ⟨i0, hinf, iz0, iz1, iz2⟩ := info_parts infoC
  have C := Lib.hid (fun W => l6Fields 3 (i : Int) (j : Int) n A1 A2 el c1 ns.length c2 W)
  rw [hf] at C
  have D := Lib.hid (fun (z : Int) W (h0 : 0 ≤ z) (h1 : z < (ah.length : Int)) => show Calls Try.prog 49 #[.int .i64 z, .int .i64 0, .int .i64 ((ah.length : Int) - 1)] W fun e w' => e = .returned (.bool true) ∧ W = w' by
    have h := l1In z 0 ((ah.length : Int) - 1) W
    rwa [show (decide ((0 : Int) ≤ z) && decide (z ≤ (ah.length : Int) - 1)) = true by simp; omega] at h)
  have HA := Lib.hid hA
  obtain ⟨rfl, hg, da, ga, oa, hca, hfa⟩ := HA.out.at i hi
  have hla := hx _ (List.getElem_mem hi)
  obtain ⟨X, hX⟩ : ∃ X, ah[i] = X := ⟨_, rfl⟩
  have HX := Lib.hid hX
  rw [hX] at hca hfa hla
  have HFA := Lib.hid hfa
  obtain ⟨xl, hxl⟩ : ∃ m, X.length = m := ⟨_, rfl⟩
  rw [hxl] at hca hla
  have hxf := Lib.hid (show (flatC X).length = xl * 2 by rw [flatC_len, hxl])
  have HXL := Lib.hid hxl
  clear hX hfa hxl
  have p0 : (0 : Int) ≤ (i : Int) := by omega
  have p1 : (i : Int) < (ah.length : Int) := by omega
  have p2 : (0 : Int) ≤ (j : Int) := by omega
  have p3 : (j : Int) < (ah.length : Int) := by omega
  rw [getD_lt hi, HX.out]
  have HE := Lib.hid hE
  have HS : Hid (takeC X ns = if ns.all (fun t => inB t xl) = true ∧ ns.length ≤ 4 then some (ns.map fun t => X.getD t.toNat (0, false)) else none) := by show _ = _; rw [takeC, HXL.out]
  have HNO : Hid (∀ k (hk : k < ns.length), inB ns[k] xl = false → takeC X ns = none) := fun k hk h => takeC_no hk (by rw [HXL.out]; exact h)
  have D2 := Lib.hid (fun (z : Int) W => l1In z 0 ((xl : Int) - 1) W)
  clear hE
  go_enter Try.func83, Try.ntmps83
  go_wp2_with (first
    | ((go_at_call 119; ((with_reducible refine (C.out _).mono ?_); (try (have hc10 := hc9; have hf10 := hf9; have hz10 := hz9; have hb10 := hb9; have hya_10 := hya_9; clear hc9 hf9 hz9 hb9 hya_9)); (try (have hc9 := hc8; have hf9 := hf8; have hz9 := hz8; have hb9 := hb8; have hya_9 := hya_8; clear hc8 hf8 hz8 hb8 hya_8)); (try (have hc8 := hc7; have hf8 := hf7; have hz8 := hz7; have hb8 := hb7; have hya_8 := hya_7; clear hc7 hf7 hz7 hb7 hya_7)); (try (have hc7 := hc6; have hf7 := hf6; have hz7 := hz6; have hb7 := hb6; have hya_7 := hya_6; clear hc6 hf6 hz6 hb6 hya_6)); (try (have hc6 := hc5; have hf6 := hf5; have hz6 := hz5; have hb6 := hb5; have hya_6 := hya_5; clear hc5 hf5 hz5 hb5 hya_5)); (try (have hc5 := hc4; have hf5 := hf4; have hz5 := hz4; have hb5 := hb4; have hya_5 := hya_4; clear hc4 hf4 hz4 hb4 hya_4)); (try (have hc4 := hc3; have hf4 := hf3; have hz4 := hz3; have hb4 := hb3; have hya_4 := hya_3; clear hc3 hf3 hz3 hb3 hya_3)); (try (have hc3 := hc2; have hf3 := hf2; have hz3 := hz2; have hb3 := hb2; have hya_3 := hya_2; clear hc2 hf2 hz2 hb2 hya_2)); (try (have hc2 := hc1; have hf2 := hf1; have hz2 := hz1; have hb2 := hb1; have hya_2 := hya_1; clear hc1 hf1 hz1 hb1 hya_1)); rintro e w1 ⟨rfl, hb1⟩; obtain ⟨hc1, hf1⟩ := bcell hb1; (try simp only [World.size_drew, World.cell?_drew, World.frozen?_drew] at hc1 hf1); have hz1 := hb1.size; (try simp at hz1); have hya_1 : w.heap.size < w1.heap.size := (by omega); have HB := Lib.hid (((Below.refl w.heap.size w).alloc (Nat.le_refl _) _).trans (hb1.mono (by simp))); have hc2 := (HB.out.cell (p := ⟨gA, oA + i, none⟩) hg).trans hca; have OWN := Lib.hid (own_empty3 (w := w1) (B := w.heap.size + 1) 37 2 rfl (by omega)); have hsz := HB.out.size; have hg1 : gA < w1.heap.size := Nat.lt_of_lt_of_le hg hsz; have HF1 := Lib.hid ((HFA.out.below HB.out).alloc (.cells #[] 37)); clear hb1)))
    | (go_at_call 49; (with_reducible refine (D.out _ _ (by omega) (by omega)).mono ?_); rintro e w2 ⟨rfl, rfl⟩)
    | (at_builtin; go_loud (refine wpList_append_block _ rfl (.tmp 53) (.tmp 58) 34 rfl (w.heap.size + 1) 37 i0 (.agg #[.int .i64 0, .bool false]) 2 16 Try.underlying34 hinf iz0 iz1 iz2 rfl (by decide) w1.heap.size 0 0 [] rfl OWN.out _ xl _ (flatC X) rfl hxf.out (news_flo HF1.out) (one_flatC X) (by unfold maxLen; omega) (by omega) (by first | omega | (simp; done) | (simp; omega)) ?_); intro g2 c3 w2 hown hgr hgg; (try simp only [Nat.zero_add, List.nil_append] at hown); have HO := Lib.hid hown; have HB2 := Lib.hid (Below.grown (HB.out.alloc HB.out.size _) hgr (by simp; omega) (fun k hk => by obtain rfl := Option.some.inj hk; exact HB.out.size)); go_loud (have q : ∀ m v, (w.alloc (.cells #[.int .i64 3, .int .i64 (i : Int), .int .i64 (j : Int), .int .i64 n, .slice A1 el c1, .slice A2 ns.length c2] 32)).cell? ⟨w.heap.size, m, none⟩ = some v → w2.cell? ⟨w.heap.size, m, none⟩ = some v := (fun m v h => (cellOf (hgr.block w.heap.size (by simp; omega) (fun e => by have := Option.some.inj e; omega))).trans ((cellOf (Below.heap_alloc w1 _ _ (by omega))).trans ((hc1 w.heap.size m (by simp)).trans h))); have q0 := q 0 (.int .i64 3) (cell_newX rfl); have q1 := q 1 (.int .i64 (i : Int)) (cell_newX rfl); have q2 := q 2 (.int .i64 (j : Int)) (cell_newX rfl); have q4 := q 4 (.slice A1 el c1) (cell_newX rfl); have q5 := q 5 (.slice A2 ns.length c2) (cell_newX rfl);have HG2 := Lib.hid (FlO.of_own HO.out); have hg2 := HG2.out.lo; have hg2h := HG2.out.hi; have hqs : w.heap.size < w2.heap.size := (by omega); have HE2 := Lib.hid (HE.out.below HB2.out); have OWN2 := Lib.hid (own_empty3 (w := w2) (B := w2.heap.size) 37 2 rfl (Nat.le_refl _)); clear hown hgr hgg)))
  go_loopw [9, 10] (fun ox kx wr => ∃ (k g c : Nat), k ≤ ns.length ∧ kx = .int .i64 k ∧ ox = .slice (some ⟨g, 0, none⟩) k c ∧ Hid ((ns.take k).all (fun t => inB t xl) = true) ∧ Hid (wr.ownsRow w2.heap.size 37 2 (.slice (some ⟨g, 0, none⟩) k c) k (flatC ((ns.take k).map fun t => X.getD t.toNat (0, false)))) ∧ Hid (Below w2.heap.size w2 wr)) (fun _ kx _ => ns.length - (intOf kx).toNat)
  case atStart => exact ⟨0, w2.heap.size, 0, Nat.zero_le _, rfl, rfl, rfl, OWN2, (Below.refl _ _).alloc (Nat.le_refl _) _⟩
  case round =>
    clear OWN2
    obtain ⟨k, g4, c4, hk, rfl, rfl, HL, HW, HB3⟩ := hrel
    have hs3 := HB3.out.size
    have r0 := (HB3.out.cell (p := ⟨w.heap.size, 0, none⟩) hqs).trans q0
    have r5 := (HB3.out.cell (p := ⟨w.heap.size, 5, none⟩) hqs).trans q5
    by_cases hlt : k < ns.length
    · obtain ⟨rfl, hgn, cn⟩ := (HE2.out.below HB3.out).n k hlt
      have HSN := Lib.hid (all_snoc (fun t => inB t xl) ns k hlt)
      have HTK := Lib.hid (List.take_succ_eq_append_getElem hlt)
      have HN1 := Lib.hid (HNO.out k hlt)
      obtain ⟨K, hK⟩ : ∃ K, ns[k] = K := ⟨_, rfl⟩
      rw [hK] at cn HSN HN1 HTK
      clear hK
      have i0' : (0 : Int) ≤ (k : Int) := by omega
      have i1' : (k : Int) < (ns.length : Int) := by omega
      by_cases hin : inB K xl = true
      · obtain ⟨m, rfl, hm⟩ := inB_nat hin
        have D3 := Lib.hid (fun W => D2.out (m : Int) W)
        rw [show (decide ((0 : Int) ≤ (m : Int)) && decide ((m : Int) ≤ (xl : Int) - 1)) = true by simp; omega] at D3
        have hmx : m < X.length := by rw [HXL.out]; exact hm
        obtain ⟨-, hga, c0, c1'⟩ := (HG2.out.fl.below HB3.out).cl m hmx
        have hgd : X.getD m (0, false) = X[m] := getD_lt hmx _
        obtain ⟨V, hV⟩ : ∃ V, X[m] = V := ⟨_, rfl⟩
        rw [hV] at c0 c1' hgd
        obtain ⟨vk, ve⟩ := V
        simp only [Nat.zero_add] at c0 c1'
        have HGD := Lib.hid hgd
        have j0' : (0 : Int) ≤ (m : Int) := by omega
        have j1' : (m : Int) < (xl : Int) := by omega
        clear hV hgd hmx hin
        have hfl := Lib.hid (show flatC ((ns.take (k + 1)).map fun t => X.getD t.toNat (0, false)) = flatC ((ns.take k).map fun t => X.getD t.toNat (0, false)) ++ [.int .i64 vk, .bool ve] by
          rw [HTK.out, List.map_append, flatC_app]; simp only [List.map_cons, List.map_nil, Int.toNat_natCast, HGD.out]; rfl)
        have hgs := (HW.out.lt g4 rfl).1
        go_wp2_with (first
          | (go_at_call 49; (with_reducible refine (D3.out _).mono ?_); rintro e w4 ⟨rfl, rfl⟩)
          | (at_builtin; go_loud (refine wpList_append_block _ rfl (.tmp 91) (.tmp 100) 34 rfl w2.heap.size 37 i0 (.agg #[.int .i64 0, .bool false]) 2 16 Try.underlying34 hinf iz0 iz1 iz2 rfl (by decide) g4 k c4 (flatC ((ns.take k).map fun t => X.getD t.toNat (0, false))) rfl (HW.out.alloc _) _ 1 1 [.int .i64 vk, .bool ve] rfl rfl (news_new (by first | rfl | simp)) (by simp [Value.oneCell']) (by unfold maxLen; omega) (by omega) (by first | omega | (simp; done) | (simp; omega)) ?_); intro g5 c5 w5 hown hgr hgg; rw [← hfl.out] at hown; have HW5 := Lib.hid hown; have HB5 := Lib.hid (Below.grown (HB3.out.alloc hs3 _) hgr (by simp; omega) (fun k hk => by obtain rfl := Option.some.inj hk; exact hgs)); clear hown hgr hgg))
        exact ⟨⟨k + 1, g5, c5, by omega, by go_num, rfl, by show _ = _; rw [HSN.out, HL.out]; simp [inB]; omega, HW5, HB5⟩, by simp [intOf]; omega⟩
      · have hin2 : inB K xl = false := by simpa using hin
        have D3 := Lib.hid (fun W => D2.out K W)
        rw [show (decide ((0 : Int) ≤ K) && decide (K ≤ (xl : Int) - 1)) = false by simp only [inB, Bool.and_eq_false_iff, decide_eq_false_iff_not] at hin2; simp; omega] at D3
        have HN2 := Lib.hid (HN1.out hin2)
        go_wp2_with (go_at_call 49; (with_reducible refine (D3.out _).mono ?_); rintro e w4 ⟨rfl, rfl⟩)
        refine bodyPost_ret (v := .tuple #[.slice (some ⟨wr.heap.size, 0, none⟩) 0 0, .bool false]) (by simp [results, Try.results83, go_sem]) rfl ?_
        have HBr := HB2.out.trans (HB3.out.mono (by omega))
        exact ⟨wr.heap.size, 0, [], false, ⟨rfl, FlO.of_own (own_empty3 37 2 rfl HBr.size), by rw [HN2.out]; rfl⟩, HBr.alloc HBr.size _⟩
    · obtain rfl : k = ns.length := by omega
      have HBr := Lib.hid (HB2.out.trans (HB3.out.mono (by omega)))
      have hal2 := HL.out
      rw [List.take_length] at hal2
      have HO5 := HW.out
      rw [List.take_length] at HO5
      have HOO := Lib.hid HO5
      have HAL := Lib.hid hal2
      clear hal2 HO5
      go_wp2
      refine bodyPost_ret (v := .tuple #[.slice (some ⟨g4, 0, none⟩) ns.length c4, .bool (decide ((ns.length : Int) ≤ 4))]) (by simp [results, Try.results83, go_sem]) rfl ?_
      have e4 : decide ((ns.length : Int) ≤ 4) = decide (ns.length ≤ 4) := decide_eq_decide.2 (by omega)
      refine ⟨g4, c4, ns.map (fun t => X.getD t.toNat (0, false)), decide ((ns.length : Int) ≤ 4), ⟨by rw [List.length_map], by rw [List.length_map]; exact (FlO.of_own HOO.out).lower (by omega), ?_⟩, HBr.out⟩
      rw [HS.out, HAL.out, e4]
      simp
end Go.Proofs.Ytacinjbaebimhaa.Val
namespace Go.Proofs.Ytacinjbaebimhaa.Val
open Go.RowKit
set_option linter.unusedVariables false
set_option maxRecDepth 8000
def orC (X Y : List CT) : List CT := (X.zip Y).map fun p => (p.1.1, p.1.2 || p.2.2)
theorem flatC_set (Z : List CT) (k : Nat) (hk : k < Z.length) (b : Bool) : (flatC Z).set (k * 2 + 1) (.bool b) = flatC (Z.set k (Z[k].1, b)) := by
  induction Z generalizing k with
  | nil => simp at hk
  | cons z Z ih =>
    cases k with
    | zero => rfl
    | succ k =>
      have := ih k (by simpa using hk)
      rw [flatC_cons, show (k + 1) * 2 + 1 = k * 2 + 1 + 1 + 1 by omega, List.set_cons_succ, List.set_cons_succ, this]
      rfl
theorem bothC_no {X Y : List CT} {k : Nat} (hk : k < X.length) (hl : X.length = Y.length) (h : ¬ X[k].1 = (Y[k]'(by omega)).1) : bothC X Y = none := by
  unfold bothC
  rw [if_neg]
  rintro ⟨-, h1⟩
  rw [List.all_eq_true] at h1
  have := h1 (X[k], Y[k]'(by omega)) (by rw [List.mem_iff_getElem]; exact ⟨k, by rw [List.length_zip]; omega, by simp⟩)
  simp at this
  exact h this
theorem bothC_yes {X Y : List CT} (hl : X.length = Y.length) (h : ∀ k (hk : k < X.length), X[k].1 = (Y[k]'(by omega)).1) : bothC X Y = some (orC X Y) := by
  unfold bothC orC
  rw [if_pos]
  refine ⟨hl, ?_⟩
  rw [List.all_eq_true]
  intro p hp
  obtain ⟨k, hk, rfl⟩ := List.mem_iff_getElem.1 hp
  rw [List.length_zip] at hk
  simp [h k (by omega)]
theorem orC_len {X Y : List CT} (hl : X.length = Y.length) : (orC X Y).length = X.length := by rw [orC, List.length_map, List.length_zip]; omega
theorem orC_get {X Y : List CT} {k : Nat} (hl : X.length = Y.length) (hk : k < X.length) : (orC X Y)[k]'(by rw [orC_len hl]; exact hk) = (X[k].1, X[k].2 || (Y[k]'(by omega)).2) := by
  simp [orC]
/-- The first k columns are done. -/
def mixC (X Y : List CT) (k : Nat) : List CT := (orC X Y).take k ++ X.drop k
theorem mixC_len {X Y : List CT} (hl : X.length = Y.length) (k : Nat) : (mixC X Y k).length = X.length := by
  rw [mixC, List.length_append, List.length_take, List.length_drop, orC_len hl]; omega
theorem mixC_get {X Y : List CT} {k : Nat} (hl : X.length = Y.length) (hk : k < X.length) : (mixC X Y k)[k]'(by rw [mixC_len hl]; exact hk) = X[k] := by
  have h1 : ((orC X Y).take k).length = k := by rw [List.length_take, orC_len hl]; omega
  simp only [mixC]
  rw [List.getElem_append_right (by omega)]
  simp [h1]
theorem mixC_succ {X Y : List CT} {k : Nat} (hl : X.length = Y.length) (hk : k < X.length) : (mixC X Y k).set k (X[k].1, X[k].2 || (Y[k]'(by omega)).2) = mixC X Y (k + 1) := by
  have h1 : ((orC X Y).take k).length = k := by rw [List.length_take, orC_len hl]; omega
  have ho := orC_get hl hk
  rw [mixC, setX _ _ _ _ h1 hk, mixC, List.take_succ_eq_append_getElem (by rw [orC_len hl]; exact hk), ho]
set_option maxHeartbeats 4000000 in
theorem cols_5 (AT AA : Option Addr) (cT gA oA cA : Nat) (tb : Nat) (ah : List (List CT)) (i j : Nat) (n : Int) (A1 A2 : Option Addr) (el c1 ll c2 : Nat) (w : World) (hA : Cls w gA oA AA ah) (hal : ah.length ≤ 2000000) (hx : ∀ x ∈ ah, x.length ≤ 2000000) (hi : i < ah.length) (hj : j < ah.length) (hf : fieldsN 5 (i : Int) (j : Int) n el ll = true) :
    Calls Try.prog 83 #[.slice AT tb cT, .slice AA ah.length cA, .agg #[.int .i64 5, .int .i64 (i : Int), .int .i64 (j : Int), .int .i64 n, .slice A1 el c1, .slice A2 ll c2]] w (RetCols (bothC (ah.getD i []) (ah.getD j [])) w) := by
  obtain ⟨i0, hinf, iz0, iz1, iz2⟩ := info_parts infoC
  have C := Lib.hid (fun W => l6Fields 5 (i : Int) (j : Int) n A1 A2 el c1 ll c2 W)
  rw [hf] at C
  have D := Lib.hid (fun (z : Int) W (h0 : 0 ≤ z) (h1 : z < (ah.length : Int)) => show Calls Try.prog 49 #[.int .i64 z, .int .i64 0, .int .i64 ((ah.length : Int) - 1)] W fun e w' => e = .returned (.bool true) ∧ W = w' by
    have h := l1In z 0 ((ah.length : Int) - 1) W
    rwa [show (decide ((0 : Int) ≤ z) && decide (z ≤ (ah.length : Int) - 1)) = true by simp; omega] at h)
  have HA := Lib.hid hA
  obtain ⟨rfl, hg, da, ga, oa, hca, hfa⟩ := HA.out.at i hi
  have hla := hx _ (List.getElem_mem hi)
  obtain ⟨X, hX⟩ : ∃ X, ah[i] = X := ⟨_, rfl⟩
  have HX := Lib.hid hX
  rw [hX] at hca hfa hla
  have HFA := Lib.hid hfa
  obtain ⟨xl, hxl⟩ : ∃ m, X.length = m := ⟨_, rfl⟩
  rw [hxl] at hca hla
  have hxf := Lib.hid (show (flatC X).length = xl * 2 by rw [flatC_len, hxl])
  have HXL := Lib.hid hxl
  clear hX hfa hxl
  have p0 : (0 : Int) ≤ (i : Int) := by omega
  have p1 : (i : Int) < (ah.length : Int) := by omega
  have p2 : (0 : Int) ≤ (j : Int) := by omega
  have p3 : (j : Int) < (ah.length : Int) := by omega
  obtain ⟨-, -, db, gb, ob, hcb, hfb⟩ := HA.out.at j hj
  have hlb := hx _ (List.getElem_mem hj)
  obtain ⟨Y, hY⟩ : ∃ Y, ah[j] = Y := ⟨_, rfl⟩
  have HY := Lib.hid hY
  rw [hY] at hcb hfb hlb
  have HFB := Lib.hid hfb
  obtain ⟨yl, hyl⟩ : ∃ m, Y.length = m := ⟨_, rfl⟩
  rw [hyl] at hcb hlb
  have hyf := Lib.hid (show (flatC Y).length = yl * 2 by rw [flatC_len, hyl])
  have HYL := Lib.hid hyl
  have hgbl : 0 < (flatC Y).length → gb < w.heap.size := fun h => hfb.lt h
  clear hY hfb hyl
  rw [getD_lt hi, HX.out, getD_lt hj, HY.out]
  by_cases hlen : xl = yl
  · subst hlen
    have e0 : ((xl : Int) != (xl : Int)) = false := by simp
    go_enter Try.func83, Try.ntmps83
    go_wp2_with (first
      | ((go_at_call 119; ((with_reducible refine (C.out _).mono ?_); (try (have hc10 := hc9; have hf10 := hf9; have hz10 := hz9; have hb10 := hb9; have hya_10 := hya_9; clear hc9 hf9 hz9 hb9 hya_9)); (try (have hc9 := hc8; have hf9 := hf8; have hz9 := hz8; have hb9 := hb8; have hya_9 := hya_8; clear hc8 hf8 hz8 hb8 hya_8)); (try (have hc8 := hc7; have hf8 := hf7; have hz8 := hz7; have hb8 := hb7; have hya_8 := hya_7; clear hc7 hf7 hz7 hb7 hya_7)); (try (have hc7 := hc6; have hf7 := hf6; have hz7 := hz6; have hb7 := hb6; have hya_7 := hya_6; clear hc6 hf6 hz6 hb6 hya_6)); (try (have hc6 := hc5; have hf6 := hf5; have hz6 := hz5; have hb6 := hb5; have hya_6 := hya_5; clear hc5 hf5 hz5 hb5 hya_5)); (try (have hc5 := hc4; have hf5 := hf4; have hz5 := hz4; have hb5 := hb4; have hya_5 := hya_4; clear hc4 hf4 hz4 hb4 hya_4)); (try (have hc4 := hc3; have hf4 := hf3; have hz4 := hz3; have hb4 := hb3; have hya_4 := hya_3; clear hc3 hf3 hz3 hb3 hya_3)); (try (have hc3 := hc2; have hf3 := hf2; have hz3 := hz2; have hb3 := hb2; have hya_3 := hya_2; clear hc2 hf2 hz2 hb2 hya_2)); (try (have hc2 := hc1; have hf2 := hf1; have hz2 := hz1; have hb2 := hb1; have hya_2 := hya_1; clear hc1 hf1 hz1 hb1 hya_1)); rintro e w1 ⟨rfl, hb1⟩; obtain ⟨hc1, hf1⟩ := bcell hb1; (try simp only [World.size_drew, World.cell?_drew, World.frozen?_drew] at hc1 hf1); have hz1 := hb1.size; (try simp at hz1); have hya_1 : w.heap.size < w1.heap.size := (by omega); have HB := Lib.hid (((Below.refl w.heap.size w).alloc (Nat.le_refl _) _).trans (hb1.mono (by simp))); have hc2 := (HB.out.cell (p := ⟨gA, oA + i, none⟩) hg).trans hca; have OWN := Lib.hid (own_empty3 (w := w1) (B := w.heap.size + 1) 37 2 rfl (by omega)); have hsz := HB.out.size; have hg1 : gA < w1.heap.size := Nat.lt_of_lt_of_le hg hsz; have HF1 := Lib.hid ((HFA.out.below HB.out).alloc (.cells #[] 37)); clear hb1)))
      | (go_at_call 49; (with_reducible refine (D.out _ _ (by omega) (by omega)).mono ?_); rintro e w2 ⟨rfl, rfl⟩)
      | (at_builtin; go_loud (refine wpList_append_block _ rfl (.tmp 53) (.tmp 58) 34 rfl (w.heap.size + 1) 37 i0 (.agg #[.int .i64 0, .bool false]) 2 16 Try.underlying34 hinf iz0 iz1 iz2 rfl (by decide) w1.heap.size 0 0 [] rfl OWN.out _ xl _ (flatC X) rfl hxf.out (news_flo HF1.out) (one_flatC X) (by unfold maxLen; omega) (by omega) (by first | omega | (simp; done) | (simp; omega)) ?_); intro g2 c3 w2 hown hgr hgg; (try simp only [Nat.zero_add, List.nil_append] at hown); have HO := Lib.hid hown; have HB2 := Lib.hid (Below.grown (HB.out.alloc HB.out.size _) hgr (by simp; omega) (fun k hk => by obtain rfl := Option.some.inj hk; exact HB.out.size)); go_loud (have q : ∀ m v, (w.alloc (.cells #[.int .i64 5, .int .i64 (i : Int), .int .i64 (j : Int), .int .i64 n, .slice A1 el c1, .slice A2 ll c2] 32)).cell? ⟨w.heap.size, m, none⟩ = some v → w2.cell? ⟨w.heap.size, m, none⟩ = some v := (fun m v h => (cellOf (hgr.block w.heap.size (by simp; omega) (fun e => by have := Option.some.inj e; omega))).trans ((cellOf (Below.heap_alloc w1 _ _ (by omega))).trans ((hc1 w.heap.size m (by simp)).trans h))); have q0 := q 0 (.int .i64 5) (cell_newX rfl); have q1 := q 1 (.int .i64 (i : Int)) (cell_newX rfl); have q2 := q 2 (.int .i64 (j : Int)) (cell_newX rfl); have q4 := q 4 (.slice A1 el c1) (cell_newX rfl); have q5 := q 5 (.slice A2 ll c2) (cell_newX rfl);have HG2 := Lib.hid (FlO.of_own HO.out); have HQ := Lib.hid q; have hg2 := HG2.out.lo; have hg2h := HG2.out.hi; have hqs : w.heap.size < w2.heap.size := (by omega); have hc4 := (HB2.out.cell (p := ⟨gA, oA + j, none⟩) hg).trans hcb; have HFB2 := Lib.hid (HFB.out.below HB2.out); clear hown hgr hgg)))
    have HLE := Lib.hid (show X.length = Y.length by rw [HXL.out, HYL.out])
    go_loopw [12] (fun kx wr => ∃ (k : Nat), k ≤ xl ∧ kx = .int .i64 k ∧ Hid (∀ m (hm : m < X.length) (hm2 : m < Y.length), m < k → X[m].1 = Y[m].1) ∧ Hid (wr.ownsRow (w.heap.size + 1) 37 2 (.slice (some ⟨g2, 0, none⟩) xl c3) xl (flatC (mixC X Y k))) ∧ Hid (Only g2 w2 wr)) (fun kx _ => xl - (intOf kx).toNat)
    case atStart => exact ⟨0, Nat.zero_le _, rfl, fun m _ _ h => absurd h (by omega), by show World.ownsRow _ _ _ _ _ _ _; simpa [mixC] using HO.out, Only.refl _ _⟩
    case round =>
      obtain ⟨k, hk, rfl, HL, HW, HON⟩ := hrel
      have r0 := (HON.out.cell w.heap.size 0 hqs (by omega)).trans q0
      have r2 := (HON.out.cell w.heap.size 2 hqs (by omega)).trans q2
      by_cases hlt : k < xl
      · have hkx : k < X.length := by rw [HXL.out]; exact hlt
        have hky : k < Y.length := by rw [HYL.out]; exact hlt
        have r4 := (HON.out.cell gA (oA + j) (by omega) (by omega)).trans hc4
        have HW1 := Lib.hid (FlO.of_own HW.out)
        have hcl := HW1.out.fl.cl k (by rw [mixC_len HLE.out]; exact hkx)
        rw [mixC_get HLE.out hkx] at hcl
        obtain ⟨-, hga, c0, c1'⟩ := hcl
        obtain ⟨-, hgb, b0, b1⟩ := (HFB2.out.only HON.out (fun h => by have := hgbl h; omega)).cl k hky
        have hms := mixC_succ HLE.out hkx
        have hfs := flatC_set (mixC X Y k) k (by rw [mixC_len HLE.out]; exact hkx)
        have hfz := HW.out.frozenAt (k * 2 + 1)
        have HN := Lib.hid (fun h => bothC_no hkx HLE.out h)
        have HEQ : Hid (∀ h : X[k].1 = Y[k].1, ∀ m (hm : m < X.length) (hm2 : m < Y.length), m < k + 1 → X[m].1 = Y[m].1) := fun h m hm hm2 hmk => by
          by_cases e : m = k
          · subst e; exact h
          · exact HL.out m hm hm2 (by omega)
        have hget := mixC_get HLE.out hkx
        obtain ⟨V, hV⟩ : ∃ V, X[k] = V := ⟨_, rfl⟩
        obtain ⟨Z, hZ⟩ : ∃ Z, Y[k] = Z := ⟨_, rfl⟩
        rw [hget] at hfs
        rw [hV] at c0 c1' hms HN HEQ hfs
        rw [hZ] at b0 b1 hms HN HEQ
        obtain ⟨xk, xe⟩ := V
        obtain ⟨yk, ye⟩ := Z
        simp only [Nat.zero_add] at c0 c1' b0 b1 hms HN HEQ hfs
        have HMS := Lib.hid hms
        have HFS := Lib.hid hfs
        have i0' : (0 : Int) ≤ (k : Int) := by omega
        have i1' : (k : Int) < (xl : Int) := by omega
        clear hms hfs hV hZ hget
        by_cases hq : xk = yk
        · subst hq
          have e1 : (xk != xk) = false := by simp
          cases xe with
          | false =>
            go_wp2_with (fail)
            go_quiet (fail)
            go_wp2_with (fail)
            have hst := (show World.ownsRow (wr.drewN nq) _ _ _ _ _ _ from HW.out).stored (k * 2 + 1) (.bool ye)
            have h3 := hst.1
            rw [HFS.out, show ((xk, ye) : CT) = (xk, false || ye) from rfl, HMS.out] at h3
            exact ⟨⟨k + 1, by omega, by go_num, HEQ.out (by first | rfl | trivial), h3, (HON.out.drewN nq).trans (Only.set _ _ _)⟩, by simp [intOf]; omega⟩
          | true =>
            go_wp2_with (fail)
            go_quiet (fail)
            go_wp2_with (fail)
            have hst := (show World.ownsRow (wr.drewN nq) _ _ _ _ _ _ from HW.out).stored (k * 2 + 1) (.bool true)
            have h3 := hst.1
            rw [HFS.out, show ((xk, true) : CT) = (xk, true || ye) from rfl, HMS.out] at h3
            exact ⟨⟨k + 1, by omega, by go_num, HEQ.out (by first | rfl | trivial), h3, (HON.out.drewN nq).trans (Only.set _ _ _)⟩, by simp [intOf]; omega⟩
        · have e1 : (xk != yk) = true := by simp [hq]
          go_wp2_with (fail)
          go_quiet (fail)
          go_wp2_with (fail)
          have HN2 := HN.out (by first | exact hq | exact fun h => h | simp)
          have HBr := below_drewN (HB2.out.trans (HON.out.below (by omega) HB2.out.size)) nq
          refine bodyPost_ret (v := .tuple #[.slice (some ⟨wr.heap.size, 0, none⟩) 0 0, .bool false]) (by simp [results, Try.results83, go_sem]) rfl ?_
          exact ⟨wr.heap.size, 0, [], false, ⟨rfl, FlO.of_own (own_empty3 37 2 rfl HBr.size), by rw [HN2]; rfl⟩, HBr.alloc HBr.size _⟩
      · obtain rfl : k = xl := by omega
        go_wp2
        refine bodyPost_ret (v := .tuple #[.slice (some ⟨g2, 0, none⟩) k c3, .bool true]) (by simp [results, Try.results83, go_sem]) rfl ?_
        have hfin : mixC X Y k = orC X Y := by
          have h1 := HXL.out
          rw [mixC, List.take_of_length_le (by have := orC_len HLE.out; omega), List.drop_eq_nil_of_le (by omega), List.append_nil]
        have HWF := HW.out
        rw [hfin] at HWF
        refine ⟨g2, c3, orC X Y, true, ⟨by rw [orC_len HLE.out, HXL.out], by rw [orC_len HLE.out, HXL.out]; exact (FlO.of_own HWF).lower (by omega), ?_⟩, HB2.out.trans (HON.out.below (by omega) HB2.out.size)⟩
        rw [bothC_yes HLE.out (fun m hm => HL.out m hm (by have := HLE.out; omega) (by have := HXL.out; omega))]; rfl
  · have e0 : ((xl : Int) != (yl : Int)) = true := by simp; omega
    go_enter Try.func83, Try.ntmps83
    go_wp2_with (first
      | ((go_at_call 119; ((with_reducible refine (C.out _).mono ?_); (try (have hc10 := hc9; have hf10 := hf9; have hz10 := hz9; have hb10 := hb9; have hya_10 := hya_9; clear hc9 hf9 hz9 hb9 hya_9)); (try (have hc9 := hc8; have hf9 := hf8; have hz9 := hz8; have hb9 := hb8; have hya_9 := hya_8; clear hc8 hf8 hz8 hb8 hya_8)); (try (have hc8 := hc7; have hf8 := hf7; have hz8 := hz7; have hb8 := hb7; have hya_8 := hya_7; clear hc7 hf7 hz7 hb7 hya_7)); (try (have hc7 := hc6; have hf7 := hf6; have hz7 := hz6; have hb7 := hb6; have hya_7 := hya_6; clear hc6 hf6 hz6 hb6 hya_6)); (try (have hc6 := hc5; have hf6 := hf5; have hz6 := hz5; have hb6 := hb5; have hya_6 := hya_5; clear hc5 hf5 hz5 hb5 hya_5)); (try (have hc5 := hc4; have hf5 := hf4; have hz5 := hz4; have hb5 := hb4; have hya_5 := hya_4; clear hc4 hf4 hz4 hb4 hya_4)); (try (have hc4 := hc3; have hf4 := hf3; have hz4 := hz3; have hb4 := hb3; have hya_4 := hya_3; clear hc3 hf3 hz3 hb3 hya_3)); (try (have hc3 := hc2; have hf3 := hf2; have hz3 := hz2; have hb3 := hb2; have hya_3 := hya_2; clear hc2 hf2 hz2 hb2 hya_2)); (try (have hc2 := hc1; have hf2 := hf1; have hz2 := hz1; have hb2 := hb1; have hya_2 := hya_1; clear hc1 hf1 hz1 hb1 hya_1)); rintro e w1 ⟨rfl, hb1⟩; obtain ⟨hc1, hf1⟩ := bcell hb1; (try simp only [World.size_drew, World.cell?_drew, World.frozen?_drew] at hc1 hf1); have hz1 := hb1.size; (try simp at hz1); have hya_1 : w.heap.size < w1.heap.size := (by omega); have HB := Lib.hid (((Below.refl w.heap.size w).alloc (Nat.le_refl _) _).trans (hb1.mono (by simp))); have hc2 := (HB.out.cell (p := ⟨gA, oA + i, none⟩) hg).trans hca; have OWN := Lib.hid (own_empty3 (w := w1) (B := w.heap.size + 1) 37 2 rfl (by omega)); have hsz := HB.out.size; have hg1 : gA < w1.heap.size := Nat.lt_of_lt_of_le hg hsz; have HF1 := Lib.hid ((HFA.out.below HB.out).alloc (.cells #[] 37)); clear hb1)))
      | (go_at_call 49; (with_reducible refine (D.out _ _ (by omega) (by omega)).mono ?_); rintro e w2 ⟨rfl, rfl⟩)
      | (at_builtin; go_loud (refine wpList_append_block _ rfl (.tmp 53) (.tmp 58) 34 rfl (w.heap.size + 1) 37 i0 (.agg #[.int .i64 0, .bool false]) 2 16 Try.underlying34 hinf iz0 iz1 iz2 rfl (by decide) w1.heap.size 0 0 [] rfl OWN.out _ xl _ (flatC X) rfl hxf.out (news_flo HF1.out) (one_flatC X) (by unfold maxLen; omega) (by omega) (by first | omega | (simp; done) | (simp; omega)) ?_); intro g2 c3 w2 hown hgr hgg; (try simp only [Nat.zero_add, List.nil_append] at hown); have HO := Lib.hid hown; have HB2 := Lib.hid (Below.grown (HB.out.alloc HB.out.size _) hgr (by simp; omega) (fun k hk => by obtain rfl := Option.some.inj hk; exact HB.out.size)); go_loud (have q : ∀ m v, (w.alloc (.cells #[.int .i64 5, .int .i64 (i : Int), .int .i64 (j : Int), .int .i64 n, .slice A1 el c1, .slice A2 ll c2] 32)).cell? ⟨w.heap.size, m, none⟩ = some v → w2.cell? ⟨w.heap.size, m, none⟩ = some v := (fun m v h => (cellOf (hgr.block w.heap.size (by simp; omega) (fun e => by have := Option.some.inj e; omega))).trans ((cellOf (Below.heap_alloc w1 _ _ (by omega))).trans ((hc1 w.heap.size m (by simp)).trans h))); have q0 := q 0 (.int .i64 5) (cell_newX rfl); have q1 := q 1 (.int .i64 (i : Int)) (cell_newX rfl); have q2 := q 2 (.int .i64 (j : Int)) (cell_newX rfl); have q4 := q 4 (.slice A1 el c1) (cell_newX rfl); have q5 := q 5 (.slice A2 ll c2) (cell_newX rfl);have HG2 := Lib.hid (FlO.of_own HO.out); have HQ := Lib.hid q; have hg2 := HG2.out.lo; have hg2h := HG2.out.hi; have hqs : w.heap.size < w2.heap.size := (by omega); have hc4 := (HB2.out.cell (p := ⟨gA, oA + j, none⟩) hg).trans hcb; have HFB2 := Lib.hid (HFB.out.below HB2.out); clear hown hgr hgg)))
    refine bodyPost_ret (v := .tuple #[.slice (some ⟨w2.heap.size, 0, none⟩) 0 0, .bool false]) (by simp [results, Try.results83, go_sem]) rfl ?_
    exact ⟨w2.heap.size, 0, [], false, ⟨rfl, FlO.of_own (own_empty3 37 2 rfl HB2.out.size), by simp [bothC, HXL.out, HYL.out, hlen]⟩, HB2.out.alloc HB2.out.size _⟩
end Go.Proofs.Ytacinjbaebimhaa.Val
namespace Go.Proofs.Ytacinjbaebimhaa.Val
open Go.RowKit
set_option linter.unusedVariables false
set_option maxRecDepth 8000
set_option maxHeartbeats 4000000 in
theorem cols_AB (AT AA : Option Addr) (cT cA : Nat) (tb ah : Nat) (k a b n : Int) (A1 A2 : Option Addr) (el c1 ll c2 : Nat) (w : World) (hal : ah ≤ 2000000) (k1 : ¬ k = 1) (hin : ¬ (inB a ah = true ∧ inB b ah = true)) (hf : fieldsN k a b n el ll = true) :
    Calls Try.prog 83 #[.slice AT tb cT, .slice AA ah cA, .agg #[.int .i64 k, .int .i64 a, .int .i64 b, .int .i64 n, .slice A1 el c1, .slice A2 ll c2]] w (RetCols none w) := by
  have C := Lib.hid (fun W => l6Fields k a b n A1 A2 el c1 ll c2 W)
  rw [hf] at C
  have e : ∀ z : Int, (decide ((0 : Int) ≤ z) && decide (z ≤ (ah : Int) - 1)) = inB z ah := fun z => by rw [inB]; congr 1; exact decide_eq_decide.2 (by omega)
  by_cases ha : inB a ah = true
  · have hb : inB b ah = false := by
      cases h : inB b ah with
      | false => rfl
      | true => exact absurd ⟨ha, h⟩ hin
    have D1 := Lib.hid (fun W => l1In a 0 ((ah : Int) - 1) W)
    have D2 := Lib.hid (fun W => l1In b 0 ((ah : Int) - 1) W)
    rw [e, ha] at D1
    rw [e, hb] at D2
    by_cases hab : a = b
    · subst hab; rw [ha] at hb; cases hb
    go_enter Try.func83, Try.ntmps83
    go_wp2_with (first
      | ((go_at_call 119; ((with_reducible refine (C.out _).mono ?_); (try (have hc10 := hc9; have hf10 := hf9; have hz10 := hz9; have hb10 := hb9; have hya_10 := hya_9; clear hc9 hf9 hz9 hb9 hya_9)); (try (have hc9 := hc8; have hf9 := hf8; have hz9 := hz8; have hb9 := hb8; have hya_9 := hya_8; clear hc8 hf8 hz8 hb8 hya_8)); (try (have hc8 := hc7; have hf8 := hf7; have hz8 := hz7; have hb8 := hb7; have hya_8 := hya_7; clear hc7 hf7 hz7 hb7 hya_7)); (try (have hc7 := hc6; have hf7 := hf6; have hz7 := hz6; have hb7 := hb6; have hya_7 := hya_6; clear hc6 hf6 hz6 hb6 hya_6)); (try (have hc6 := hc5; have hf6 := hf5; have hz6 := hz5; have hb6 := hb5; have hya_6 := hya_5; clear hc5 hf5 hz5 hb5 hya_5)); (try (have hc5 := hc4; have hf5 := hf4; have hz5 := hz4; have hb5 := hb4; have hya_5 := hya_4; clear hc4 hf4 hz4 hb4 hya_4)); (try (have hc4 := hc3; have hf4 := hf3; have hz4 := hz3; have hb4 := hb3; have hya_4 := hya_3; clear hc3 hf3 hz3 hb3 hya_3)); (try (have hc3 := hc2; have hf3 := hf2; have hz3 := hz2; have hb3 := hb2; have hya_3 := hya_2; clear hc2 hf2 hz2 hb2 hya_2)); (try (have hc2 := hc1; have hf2 := hf1; have hz2 := hz1; have hb2 := hb1; have hya_2 := hya_1; clear hc1 hf1 hz1 hb1 hya_1)); rintro e w1 ⟨rfl, hb1⟩; obtain ⟨hc1, hf1⟩ := bcell hb1; (try simp only [World.size_drew, World.cell?_drew, World.frozen?_drew] at hc1 hf1); have hz1 := hb1.size; (try simp at hz1); have hya_1 : w.heap.size < w1.heap.size := (by omega); have HB := Lib.hid (((Below.refl w.heap.size w).alloc (Nat.le_refl _) _).trans (hb1.mono (by simp))); have OWN := Lib.hid (own_empty3 (w := w1) (B := w.heap.size) 37 2 rfl HB.out.size); clear hb1)))
      | (go_at_call 49; (with_reducible refine (D1.out _).mono ?_); rintro e w2 ⟨rfl, rfl⟩)
      | (go_at_call 49; (with_reducible refine (D2.out _).mono ?_); rintro e w2 ⟨rfl, rfl⟩))
    refine bodyPost_ret (v := .tuple #[.slice (some ⟨w1.heap.size, 0, none⟩) 0 0, .bool false]) (by simp [results, Try.results83, go_sem]) rfl ?_
    exact ⟨w1.heap.size, 0, [], false, ⟨rfl, FlO.of_own OWN.out, rfl⟩, HB.out.alloc HB.out.size _⟩
  · have ha : inB a ah = false := by simpa using ha
    have D1 := Lib.hid (fun W => l1In a 0 ((ah : Int) - 1) W)
    rw [e, ha] at D1
    go_enter Try.func83, Try.ntmps83
    go_wp2_with (first
      | ((go_at_call 119; ((with_reducible refine (C.out _).mono ?_); (try (have hc10 := hc9; have hf10 := hf9; have hz10 := hz9; have hb10 := hb9; have hya_10 := hya_9; clear hc9 hf9 hz9 hb9 hya_9)); (try (have hc9 := hc8; have hf9 := hf8; have hz9 := hz8; have hb9 := hb8; have hya_9 := hya_8; clear hc8 hf8 hz8 hb8 hya_8)); (try (have hc8 := hc7; have hf8 := hf7; have hz8 := hz7; have hb8 := hb7; have hya_8 := hya_7; clear hc7 hf7 hz7 hb7 hya_7)); (try (have hc7 := hc6; have hf7 := hf6; have hz7 := hz6; have hb7 := hb6; have hya_7 := hya_6; clear hc6 hf6 hz6 hb6 hya_6)); (try (have hc6 := hc5; have hf6 := hf5; have hz6 := hz5; have hb6 := hb5; have hya_6 := hya_5; clear hc5 hf5 hz5 hb5 hya_5)); (try (have hc5 := hc4; have hf5 := hf4; have hz5 := hz4; have hb5 := hb4; have hya_5 := hya_4; clear hc4 hf4 hz4 hb4 hya_4)); (try (have hc4 := hc3; have hf4 := hf3; have hz4 := hz3; have hb4 := hb3; have hya_4 := hya_3; clear hc3 hf3 hz3 hb3 hya_3)); (try (have hc3 := hc2; have hf3 := hf2; have hz3 := hz2; have hb3 := hb2; have hya_3 := hya_2; clear hc2 hf2 hz2 hb2 hya_2)); (try (have hc2 := hc1; have hf2 := hf1; have hz2 := hz1; have hb2 := hb1; have hya_2 := hya_1; clear hc1 hf1 hz1 hb1 hya_1)); rintro e w1 ⟨rfl, hb1⟩; obtain ⟨hc1, hf1⟩ := bcell hb1; (try simp only [World.size_drew, World.cell?_drew, World.frozen?_drew] at hc1 hf1); have hz1 := hb1.size; (try simp at hz1); have hya_1 : w.heap.size < w1.heap.size := (by omega); have HB := Lib.hid (((Below.refl w.heap.size w).alloc (Nat.le_refl _) _).trans (hb1.mono (by simp))); have OWN := Lib.hid (own_empty3 (w := w1) (B := w.heap.size) 37 2 rfl HB.out.size); clear hb1)))
      | (go_at_call 49; (with_reducible refine (D1.out _).mono ?_); rintro e w2 ⟨rfl, rfl⟩))
    refine bodyPost_ret (v := .tuple #[.slice (some ⟨w1.heap.size, 0, none⟩) 0 0, .bool false]) (by simp [results, Try.results83, go_sem]) rfl ?_
    exact ⟨w1.heap.size, 0, [], false, ⟨rfl, FlO.of_own OWN.out, rfl⟩, HB.out.alloc HB.out.size _⟩
theorem l6Columns (AT AA : Option Addr) (gT oT cT gA oA cA : Nat) (tb : List TB) (ah : List (List CT)) (s : SP) (A1 A2 : Option Addr) (g1 o1 c1 g2 o2 c2 : Nat) (w : World) (hT : Tbs w gT oT AT tb) (hok : OkT tb) (hA : Cls w gA oA AA ah) (hal : ah.length ≤ 2000000) (hx : ∀ x ∈ ah, x.length ≤ 2000000)
    (hE : Fl w g1 o1 A1 (flatP s.2.2.2.2.1)) (hN : Fl w g2 o2 A2 (s.2.2.2.2.2.map iv)) (hs : OkS1 s) :
    Calls Try.prog 83 #[.slice AT tb.length cT, .slice AA ah.length cA, aggS s A1 c1 A2 c2] w (RetCols (colS tb ah s) w) := by
  obtain ⟨k, a, b, n, es, ns⟩ := s
  obtain ⟨l1, l2, l3⟩ := hs
  simp only at hE hN l1 l2 l3
  have hcol : colS tb ah (k, a, b, n, es, ns) = if fieldsN k a b n es.length ns.length = false then none else if k = 1 then (if inB n tb.length = true then some (tb.getD n.toNat ([], [])).1 else none) else if inB a ah.length = false ∨ inB b ah.length = false then none
      else if k = 2 then (if kindI (ah.getD a.toNat []) es = 3 then some (ah.getD a.toNat []) else none) else if k = 3 then takeC (ah.getD a.toNat []) ns else if k = 4 then joinC (ah.getD a.toNat []) (ah.getD b.toNat []) es else if k = 5 then bothC (ah.getD a.toNat []) (ah.getD b.toNat []) else if k = 6 then some (ah.getD a.toNat []) else none := rfl
  show Calls Try.prog 83 #[.slice AT tb.length cT, .slice AA ah.length cA, .agg #[.int .i64 k, .int .i64 a, .int .i64 b, .int .i64 n, .slice A1 es.length c1, .slice A2 ns.length c2]] w (RetCols (colS tb ah (k, a, b, n, es, ns)) w)
  rw [hcol]
  clear hcol
  by_cases hf : fieldsN k a b n es.length ns.length = false
  · rw [if_pos hf]
    exact cols_F AT AA cT cA tb.length ah.length k a b n A1 A2 es.length c1 ns.length c2 w hf
  rw [if_neg hf]
  have hf : fieldsN k a b n es.length ns.length = true := by simpa using hf
  by_cases k1 : k = 1
  · rw [if_pos k1]
    subst k1
    exact cols_T AT AA gT oT cT cA tb ah.length a b n A1 A2 es.length c1 ns.length c2 w hT hok hf
  rw [if_neg k1]
  by_cases hab : inB a ah.length = false ∨ inB b ah.length = false
  · rw [if_pos hab]
    refine cols_AB AT AA cT cA tb.length ah.length k a b n A1 A2 es.length c1 ns.length c2 w hal k1 ?_ hf
    rintro ⟨h1, h2⟩
    rcases hab with h | h
    · rw [h1] at h; cases h
    · rw [h2] at h; cases h
  rw [if_neg hab]
  have ha : inB a ah.length = true := by
    cases h : inB a ah.length with
    | false => exact absurd (.inl h) hab
    | true => rfl
  have hb : inB b ah.length = true := by
    cases h : inB b ah.length with
    | false => exact absurd (.inr h) hab
    | true => rfl
  obtain ⟨i, rfl, hi⟩ := inB_nat ha
  obtain ⟨j, rfl, hj⟩ := inB_nat hb
  simp only [Int.toNat_natCast]
  by_cases k2 : k = 2
  · rw [if_pos k2]; subst k2
    exact cols_2 AT AA cT gA oA cA tb.length ah i j n A1 A2 c1 ns.length c2 w hA hal hx hi hj es g1 o1 hE l1 l2 hf
  rw [if_neg k2]
  by_cases k3 : k = 3
  · rw [if_pos k3]; subst k3
    exact cols_3 AT AA cT gA oA cA tb.length ah i j n A1 A2 es.length c1 c2 w hA hal hx hi hj ns g2 o2 hN l3 hf
  rw [if_neg k3]
  by_cases k4 : k = 4
  · rw [if_pos k4]; subst k4
    exact cols_4 AT AA cT gA oA cA tb.length ah i j n A1 A2 c1 ns.length c2 w hA hal hx hi hj es g1 o1 hE l1 l2 hf
  rw [if_neg k4]
  by_cases k5 : k = 5
  · rw [if_pos k5]; subst k5
    exact cols_5 AT AA cT gA oA cA tb.length ah i j n A1 A2 es.length c1 ns.length c2 w hA hal hx hi hj hf
  rw [if_neg k5]
  by_cases k6 : k = 6
  · rw [if_pos k6]; subst k6
    exact cols_6 AT AA cT gA oA cA tb.length ah i j n A1 A2 es.length c1 ns.length c2 w hA hal hx hi hj hf
  rw [if_neg k6]
  exact cols_K AT AA cT gA oA cA tb.length ah k i j n A1 A2 es.length c1 ns.length c2 w hA hal hx hi hj k1 k2 k3 k4 k5 k6 hf
end Go.Proofs.Ytacinjbaebimhaa.Val
namespace Go.Proofs.Ytacinjbaebimhaa.Val
open Go.RowKit
set_option linter.unusedVariables false
set_option maxRecDepth 8000
abbrev CC := Nat × Nat × List CT
def hdQ (t : CC) : Value := .slice (some ⟨t.1, 0, none⟩) t.2.2.length t.2.1
/-- Rows of columns of one's own. -/
structure CBag (w : World) (B g cap : Nat) (T : List CC) (cl : List (List CT)) : Prop where
  eq : T.map (fun t => t.2.2) = cl
  own : w.ownsRow B 34 1 (.slice (some ⟨g, 0, none⟩) cl.length cap) cl.length (T.map hdQ)
  rows : ∀ t ∈ T, FlO w B t.1 t.2.1 t.2.2.length (flatC t.2.2)
  ng : ∀ t ∈ T, t.1 ≠ g
theorem CBag.len {w : World} {B g cap : Nat} {T : List CC} {cl : List (List CT)} (h : CBag w B g cap T cl) : T.length = cl.length := by rw [← h.eq, List.length_map]
theorem CBag.lo {w : World} {B g cap : Nat} {T : List CC} {cl : List (List CT)} (h : CBag w B g cap T cl) : B ≤ g ∧ g < w.heap.size := h.own.lt g rfl
theorem CBag.keep {w w' : World} {B g cap : Nat} {T : List CC} {cl : List (List CT)} (h : CBag w B g cap T cl) (hz : w.heap.size ≤ w'.heap.size) (hg : w'.heap[g]? = w.heap[g]?) (hk : ∀ t ∈ T, w'.heap[t.1]? = w.heap[t.1]?) : CBag w' B g cap T cl :=
  ⟨h.eq, own_keep h.own hg, fun t ht => (h.rows t ht).keep hz (hk t ht), h.ng⟩
theorem CBag.below {w w' : World} {B g cap : Nat} {T : List CC} {cl : List (List CT)} (h : CBag w B g cap T cl) (hb : Below w.heap.size w w') : CBag w' B g cap T cl :=
  h.keep hb.size (hb.block _ h.lo.2) fun t ht => hb.block _ (h.rows t ht).hi
theorem CBag.empty (w : World) {B : Nat} (hB : B ≤ w.heap.size) : CBag (w.alloc (.cells #[] 34)) B w.heap.size 0 [] [] :=
  ⟨rfl, own_empty3 34 1 rfl hB, fun t ht => absurd ht (by simp), fun t ht => absurd ht (by simp)⟩
theorem CBag.cls {w : World} {B g cap : Nat} {T : List CC} {cl : List (List CT)} (h : CBag w B g cap T cl) : Cls w g 0 (some ⟨g, 0, none⟩) cl := by
  have hl := h.len
  refine ⟨fun _ => rfl, fun j hj => ?_⟩
  have hj2 : j < T.length := by omega
  have hr := h.rows T[j] (List.getElem_mem _)
  have he : cl[j] = T[j].2.2 := by
    have := h.eq
    subst this
    simp
  refine ⟨T[j].2.1, T[j].1, 0, ?_, ?_⟩
  · rw [Nat.zero_add, h.own.cellAt j (by omega), List.getElem?_map, List.getElem?_eq_getElem hj2, he]; rfl
  · rw [he]; exact hr.fl
/-- A header more. -/
theorem CBag.push {w w' : World} {B g cap g' cap' n : Nat} {T : List CC} {cl : List (List CT)} {t : CC} (h : CBag w B g cap T cl) (ht : FlO w B t.1 t.2.1 t.2.2.length (flatC t.2.2)) (hg : t.1 ≠ g) (hnl : n = cl.length + 1)
    (hown : w'.ownsRow B 34 1 (.slice (some ⟨g', 0, none⟩) n cap') n (T.map hdQ ++ [hdQ t])) (hgr : w.grownBy w' (some g)) (hgg : g' = g ∨ w.heap.size ≤ g') : CBag w' B g' cap' (T ++ [t]) (cl ++ [t.2.2]) := by
  subst hnl
  have hk : ∀ u : CC, FlO w B u.1 u.2.1 u.2.2.length (flatC u.2.2) → u.1 ≠ g → FlO w' B u.1 u.2.1 u.2.2.length (flatC u.2.2) := fun u hu hne => hu.keep hgr.size (hgr.block _ hu.hi (fun e => hne (Option.some.inj e)))
  refine ⟨by rw [List.map_append, h.eq]; rfl, ?_, ?_, ?_⟩
  · rw [List.length_append, List.map_append]; exact hown
  · intro u hu
    rcases List.mem_append.1 hu with hu | hu
    · exact hk u (h.rows u hu) (h.ng u hu)
    · obtain rfl := List.mem_singleton.1 hu
      exact hk _ ht hg
  · intro u hu e
    have hlt : u.1 < w.heap.size ∧ u.1 ≠ g := by
      rcases List.mem_append.1 hu with hu | hu
      · exact ⟨(h.rows u hu).hi, h.ng u hu⟩
      · obtain rfl := List.mem_singleton.1 hu
        exact ⟨ht.hi, hg⟩
    rcases hgg with hgg | hgg
    · exact hlt.2 (e.trans hgg)
    · omega
theorem infoCS : (Try.prog.info? 34).map (fun i => (i.zero, i.size, i.bytes)) = some (some (.slice none 0 0), 1, 24) := by kernel_rfl
theorem colS_in {tb : List TB} {ah : List (List CT)} {s : SP} {c : List CT} (h : colS tb ah s = some c) (hk : s.1 ≠ 1) : inB s.2.1 ah.length = true ∧ inB s.2.2.1 ah.length = true := by
  unfold colS at h
  split at h
  · cases h
  split at h
  · cases h
  · rename_i hn
    constructor
    · cases hx : inB s.2.1 ah.length with
      | false => exact absurd (.inl hx) hn
      | true => rfl
    · cases hx : inB s.2.2.1 ah.length with
      | false => exact absurd (.inr hx) hn
      | true => rfl
theorem colS_small {tb : List TB} {ah : List (List CT)} {s : SP} {c : List CT} (h : colS tb ah s = some c) (hok : OkT tb) (hx : ∀ x ∈ ah, x.length ≤ 2000000) : c.length ≤ 2000000 := by
  have hin := colS_in h
  unfold colS at h
  split at h
  · cases h
  split at h
  · split at h
    · rename_i h1
      obtain ⟨k, e, hk⟩ := inB_nat h1
      rw [e, Int.toNat_natCast, getD_lt hk] at h
      obtain rfl := Option.some.inj h
      exact (hok.at k hk).1
    · cases h
  rename_i hk1
  obtain ⟨ha, hb⟩ := hin hk1
  obtain ⟨i, ea, hi⟩ := inB_nat ha
  obtain ⟨j, eb, hj⟩ := inB_nat hb
  have hA : (ah.getD s.2.1.toNat []).length ≤ 2000000 := by rw [ea, Int.toNat_natCast, getD_lt hi]; exact hx _ (List.getElem_mem _)
  split at h
  · cases h
  split at h
  · split at h
    · obtain rfl := Option.some.inj h; exact hA
    · cases h
  split at h
  · unfold takeC at h
    split at h
    · rename_i h2
      obtain rfl := Option.some.inj h
      rw [List.length_map]; have := h2.2; omega
    · cases h
  split at h
  · unfold joinC at h
    split at h
    · rename_i h2
      obtain rfl := Option.some.inj h
      have := h2.1; omega
    · cases h
  split at h
  · unfold bothC at h
    split at h
    · obtain rfl := Option.some.inj h
      rw [List.length_map, List.length_zip]; omega
    · cases h
  split at h
  · obtain rfl := Option.some.inj h; exact hA
  · cases h
/-- Steps so far: their columns are few, their rows, too. -/
def SmallA (st : List (List CT) × List Nat) : Prop := (∀ x ∈ st.1, x.length ≤ 2000000) ∧ ∀ x ∈ st.2, x ≤ 300
theorem allI_small {tb : List TB} {p : List SP} (hok : OkT tb) : ∀ k, k ≤ p.length → ∀ st, allI tb (p.take k) = some st → SmallA st := by
  intro k
  induction k with
  | zero =>
    intro _ st h
    have : st = ([], []) := (Option.some.inj h).symm
    subst this
    exact ⟨fun x hx => absurd hx (by simp), fun x hx => absurd hx (by simp)⟩
  | succ k ih =>
    intro hk st h
    rw [allI_take tb p k (by omega)] at h
    rcases hq : allI tb (p.take k) with _ | s0
    · rw [hq] at h; cases h
    · rw [hq] at h
      obtain ⟨c, hc, hm, rfl⟩ := stepS_some (st := s0) h
      obtain ⟨h1, h2⟩ := ih (by omega) s0 hq
      refine ⟨fun x hx => ?_, fun x hx => ?_⟩
      · rcases List.mem_append.1 hx with hx | hx
        · exact h1 x hx
        · obtain rfl := List.mem_singleton.1 hx
          exact colS_small hc hok h1
      · rcases List.mem_append.1 hx with hx | hx
        · exact h2 x hx
        · obtain rfl := List.mem_singleton.1 hx; exact hm
theorem allI_none {tb : List TB} {p : List SP} {k : Nat} (hk : k ≤ p.length) (h : allI tb (p.take k) = none) : allI tb p = none := by
  rcases hp : allI tb p with _ | st
  · rfl
  · have := allI_pre (tb := tb) (p := p) (by rw [hp]; rfl) k
    rw [h] at this; cases this
/-- Columns of all steps, and whether all have some. -/
def RetAll (r : Option (List (List CT) × List Nat)) (w : World) (e : Ending) (w' : World) : Prop := ∃ (g c : Nat) (T : List CC) (cl : List (List CT)) (ok : Bool), (e = .returned (.tuple #[.slice (some ⟨g, 0, none⟩) cl.length c, .bool ok]) ∧ CBag w' w.heap.size g c T cl ∧ (r.map (fun st => st.1) = if ok = true then some cl else none)) ∧ Below w.heap.size w w'
theorem ret_none {ok : Bool} {cs : List CT} (h : none = if ok = true then some cs else none) : ok = false := by
  cases ok with
  | false => rfl
  | true => simp at h
theorem ret_some {ok : Bool} {cs c0 : List CT} (h : some c0 = if ok = true then some cs else none) : ok = true ∧ cs = c0 := by
  cases ok with
  | false => simp at h
  | true => simp at h; exact ⟨rfl, h.symm⟩
set_option maxHeartbeats 4000000 in
theorem l6All (AT AP : Option Addr) (gT oT cT gP oP cP : Nat) (tb : List TB) (p : List SP) (w : World) (hT : Tbs w gT oT AT tb) (hok : OkT tb) (hP : Sps w gP oP AP p) (hps : OkS p) :
    Calls Try.prog 47 #[.slice AT tb.length cT, .slice AP p.length cP] w (RetAll (allI tb p) w) := by
  obtain ⟨i0, hi, iz0, iz1, iz2⟩ := info_parts infoCS
  obtain ⟨j0, hj, jz0, jz1, jz2⟩ := info_parts infoN
  have HT := Lib.hid hT
  have HK := Lib.hid hok
  have HP := Lib.hid hP
  have HS := Lib.hid hps
  have hpl := hps.1
  clear hT hok hP hps
  go_enter Try.func47, Try.ntmps47
  go_wp2
  go_loopw [6, 7, 8] (fun ox mx kx wr => ∃ (k g c gm cm : Nat) (T : List CC) (cl : List (List CT)) (md : List Nat), k ≤ p.length ∧ kx = .int .i64 k ∧ ox = .slice (some ⟨g, 0, none⟩) k c ∧ mx = .slice (some ⟨gm, 0, none⟩) k cm ∧ Hid (allI tb (p.take k) = some (cl, md)) ∧ Hid (CBag wr w.heap.size g c T cl) ∧ Hid (wr.ownsRow w.heap.size 3 1 (.slice (some ⟨gm, 0, none⟩) k cm) k (md.map nv)) ∧ Hid (g ≠ gm ∧ ∀ t ∈ T, t.1 ≠ gm) ∧ Hid (Below w.heap.size w wr)) (fun _ _ kx _ => p.length - (intOf kx).toNat)
  case atStart =>
    refine ⟨0, w.heap.size, 0, w.heap.size + 1, 0, [], [], [], Nat.zero_le _, rfl, rfl, by simp, rfl, ?_, ?_, ?_, ((Below.refl _ _).alloc (Nat.le_refl _) _).alloc (by simp) _⟩
    · exact (CBag.empty w (Nat.le_refl _)).below ((Below.refl _ _).alloc (Nat.le_refl _) _)
    · exact own_empty3 3 1 (by simp) (by simp)
    · exact ⟨by omega, fun t ht => absurd ht (by simp)⟩
  case round =>
    obtain ⟨k, g, c, gm, cm, T, cl, md, hk, rfl, rfl, rfl, HAL, HC, HM, HNG, HB⟩ := hrel
    have hwz := HB.out.size
    by_cases hlt : k < p.length
    · obtain ⟨rfl, hgP, A1, c1, g1, o1, A2, c2, g2, o2, x0, x1, x2, x3, x4, x5, hf1, hf2, -⟩ := HP.out.at k hlt
      have hok1 := HS.out.at k hlt
      have HTK := Lib.hid (allI_take tb p k hlt)
      have HNO : Hid (allI tb (p.take (k + 1)) = none → allI tb p = none) := fun h => allI_none hlt h
      obtain ⟨hcl, hmd⟩ := allI_len HAL.out
      obtain ⟨hs1, hs2⟩ := allI_small HK.out k hk _ HAL.out
      rw [List.length_take, Nat.min_eq_left (by omega)] at hcl hmd
      simp only at hcl hmd hs1 hs2
      obtain ⟨S, hS⟩ : ∃ S, p[k] = S := ⟨_, rfl⟩
      rw [hS] at x0 x1 x2 x3 x4 x5 hf1 hf2 hok1 HTK
      clear hS
      have HTS : Hid (allI tb (p.take (k + 1)) = stepS tb (cl, md) S) := by show _ = _; rw [HTK.out, HAL.out]; rfl
      have HIN := Lib.hid (fun c h => colS_in (tb := tb) (ah := cl) (s := S) (c := c) h)
      have CL := Lib.hid (fun W hT hA hE hN => l6Columns AT (some ⟨g, 0, none⟩) gT oT cT g 0 c tb cl S A1 A2 g1 o1 c1 g2 o2 c2 W hT HK.out hA (by omega) hs1 hE hN hok1)
      have HM2 := Lib.hid (fun W h hk => l6Made (some ⟨gm, 0, none⟩) gm 0 cm md S.1 S.2.1 S.2.2.1 S.2.2.2.1 A1 A2 S.2.2.2.2.1.length c1 S.2.2.2.2.2.length c2 W h hk hs2)
      unfold RetCols aggS at CL
      rw [hcl] at CL
      rw [hmd] at HM2
      have HST : Hid (stepS tb (cl, md) S = match colS tb cl S with | none => none | some c => if 300 < madeN md S.1 S.2.1 S.2.2.1 then none else some (cl ++ [c], md ++ [madeN md S.1 S.2.1 S.2.2.1])) := rfl
      obtain ⟨s1, s2, s3, s4, es, ns⟩ := S
      simp only at x0 x1 x2 x3 x4 x5 hf1 hf2 CL HM2 HIN
      have HE := Lib.hid hf1
      have HN := Lib.hid hf2
      have HX := Lib.hid (fun W (hW : Below w.heap.size w W) => And.intro ((hW.cell (p := ⟨gP, oP + k * 6, none⟩) hgP).trans x0) (And.intro ((hW.cell (p := ⟨gP, oP + k * 6 + 1, none⟩) hgP).trans x1) (And.intro ((hW.cell (p := ⟨gP, oP + k * 6 + 2, none⟩) hgP).trans x2) (And.intro ((hW.cell (p := ⟨gP, oP + k * 6 + 3, none⟩) hgP).trans x3) (And.intro ((hW.cell (p := ⟨gP, oP + k * 6 + 4, none⟩) hgP).trans x4) ((hW.cell (p := ⟨gP, oP + k * 6 + 5, none⟩) hgP).trans x5))))))
      obtain ⟨r0, r1, r2, r3, r4, r5⟩ := HX.out wr HB.out
      have HCL := Lib.hid hcl
      have HMD := Lib.hid hmd
      have i0' : (0 : Int) ≤ (k : Int) := by omega
      have i1' : (k : Int) < (p.length : Int) := by omega
      clear hf1 hf2 x0 x1 x2 x3 x4 x5 hok1 hs1 hs2 HTK hcl hmd
      obtain ⟨el, hel⟩ : ∃ m, es.length = m := ⟨_, rfl⟩
      rw [hel] at r4 CL HM2
      obtain ⟨nl, hnl⟩ : ∃ m, ns.length = m := ⟨_, rfl⟩
      rw [hnl] at r5 CL HM2
      rcases hcs : colS tb cl (s1, s2, s3, s4, es, ns) with _ | c0
      · rw [hcs] at CL
        have HF : Hid (allI tb p = none) := HNO.out (by rw [HTS.out, HST.out, hcs])
        clear hcs
        go_wp2_with (go_at_call 83; (with_reducible refine (CL.out _ (HT.out.below HB.out) HC.out.cls (HE.out.below HB.out) (HN.out.below HB.out)).mono ?_); rintro e w1 ⟨gc, cc, cs, ok, ⟨rfl, hf, hr⟩, hb1⟩; (obtain rfl : ok = false := ret_none hr); have HB1 := Lib.hid (HB.out.trans (hb1.mono hwz)); clear hb1 hf hr)
        refine bodyPost_ret (v := .tuple #[.slice (some ⟨w1.heap.size, 0, none⟩) 0 0, .bool false]) (by simp [results, Try.results47, go_sem]) rfl ?_
        exact ⟨w1.heap.size, 0, [], [], false, ⟨rfl, CBag.empty w1 HB1.out.size, by rw [HF.out]; rfl⟩, HB1.out.alloc HB1.out.size _⟩
      · rw [hcs] at CL
        have hin := HIN.out c0 (by first | exact hcs | rfl)
        rw [HCL.out] at hin
        obtain ⟨mv, hmv⟩ : ∃ m, madeN md s1 s2 s3 = m := ⟨_, rfl⟩
        have HST2 : Hid (stepS tb (cl, md) (s1, s2, s3, s4, es, ns) = if 300 < mv then none else some (cl ++ [c0], md ++ [mv])) := by show _ = _; rw [HST.out, hcs]; simp only [hmv]
        have HM3 := Lib.hid (fun W h => HM2.out W h hin)
        rw [hmv] at HM3
        clear hcs hmv hin HIN HM2
        have hgm := (HM.out.lt gm rfl).2
        have hgl := HC.out.lo.2
        by_cases h300 : mv ≤ 300
        · have HNX : Hid (allI tb (p.take (k + 1)) = some (cl ++ [c0], md ++ [mv])) := by show _ = _; rw [HTS.out, HST2.out, if_neg (by omega)]
          have q300 : ¬ ((mv : Int) > 300) := by omega
          go_wp2_with (first
            | (go_at_call 83; (with_reducible refine (CL.out _ (HT.out.below HB.out) HC.out.cls (HE.out.below HB.out) (HN.out.below HB.out)).mono ?_); rintro e w1 ⟨gc, cc, cs, ok, ⟨rfl, hf, hr⟩, hb1⟩; (obtain ⟨rfl, rfl⟩ := ret_some hr); go_loud (have HF1 := Lib.hid hf; have HC1 := Lib.hid (HC.out.below hb1); have HMM1 := Lib.hid (own_below HM.out hb1); have hz1 := hb1.size; have HB1 := Lib.hid (HB.out.trans (hb1.mono hwz)); have hgc := hf.lo; clear hb1 hf hr))
            | (at_builtin; go_loud (refine wpList_append_block _ rfl (.tmp 32) (.tmp 34) 71 rfl w.heap.size 34 i0 (.slice none 0 0) 1 24 Try.underlying71 hi iz0 iz1 iz2 rfl (by decide) g k c (T.map hdQ) rfl (by have h := HC1.out.own; rw [HCL.out] at h; exact h.alloc _) _ 1 1 [.slice (some ⟨gc, 0, none⟩) cs.length cc] rfl rfl (news_new (by first | rfl | simp)) (by simp [Value.oneCell']) (by unfold maxLen; omega) (by omega) (by first | omega | (simp; done) | (simp; omega)) ?_); intro g3 c3 w3 hown hgr hgg; go_loud (have HB3 := Lib.hid (Below.grown (HB1.out.alloc HB1.out.size _) hgr (by simp; omega) (fun k hk => by obtain rfl := Option.some.inj hk; exact HC.out.lo.1)); have HC3 := Lib.hid (CBag.push (t := (gc, cc, cs)) (HC1.out.below ((Below.refl _ _).alloc (Nat.le_refl _) _)) ((HF1.out.lower (by omega)).below ((Below.refl _ _).alloc (Nat.le_refl _) _)) (by simp only; omega) (by rw [HCL.out]) hown hgr hgg); have HMM3 := Lib.hid (own_keep (HMM1.out.alloc _) (hgr.block gm (by simp; omega) (fun e => HNG.out.1 (Option.some.inj e).symm))); have HNG3 : Hid (g3 ≠ gm ∧ ∀ t ∈ T ++ [(gc, cc, cs)], t.1 ≠ gm) := (And.intro (by rcases hgg with h | h; rw [h]; exact HNG.out.1; (simp at h; omega)) (fun t ht => by rcases List.mem_append.1 ht with h | h; exact HNG.out.2 t h; (obtain rfl := List.mem_singleton.1 h; simp only; omega))); have hz3 := hgr.size; (simp at hz3); obtain ⟨y0, y1, y2, y3, y4, y5⟩ := HX.out w3 HB3.out; clear hown hgr hgg))
            | (go_at_call 84; (with_reducible refine (HM3.out _ (FlO.of_own HMM3.out).fl).mono ?_); rintro e w4 ⟨rfl, hb4⟩; go_loud (have HC4 := Lib.hid (HC3.out.below hb4); have HMM4 := Lib.hid (own_below HMM3.out hb4); have HB4 := Lib.hid (HB3.out.trans (hb4.mono HB3.out.size)); have hz4 := hb4.size; clear hb4))
            | (at_builtin; go_loud (refine wpList_append_block _ rfl (.tmp 36) (.tmp 43) 30 rfl w.heap.size 3 j0 (.int .i64 0) 1 8 Try.underlying30 hj jz0 jz1 jz2 rfl (by decide) gm k cm (md.map nv) rfl (HMM4.out.alloc _) _ 1 1 [.int .i64 (mv : Int)] rfl rfl (news_new (by first | rfl | simp)) (by simp [Value.oneCell']) (by unfold maxLen; omega) (by omega) (by first | omega | (simp; done) | (simp; omega)) ?_); intro g5 c5 w5 hown hgr hgg; go_loud (have HB5 := Lib.hid (Below.grown (HB4.out.alloc HB4.out.size _) hgr (by simp; omega) (fun k hk => by obtain rfl := Option.some.inj hk; exact (HM.out.lt gm rfl).1)); have HC5 := Lib.hid (CBag.keep (HC4.out.below ((Below.refl _ _).alloc (Nat.le_refl _) _)) hgr.size (hgr.block g3 (by have := HC4.out.lo.2; simp; omega) (fun e => HNG3.out.1 (Option.some.inj e))) (fun t ht => hgr.block t.1 (by have := (HC4.out.rows t ht).hi; simp; omega) (fun e => HNG3.out.2 t ht (Option.some.inj e)))); have HNG5 : Hid (g3 ≠ g5 ∧ ∀ t ∈ T ++ [(gc, cc, cs)], t.1 ≠ g5) := (And.intro (by rcases hgg with h | h; rw [h]; exact HNG3.out.1; (have := HC4.out.lo.2; simp at h; omega)) (fun t ht => by rcases hgg with h | h; rw [h]; exact HNG3.out.2 t ht; (have := (HC4.out.rows t ht).hi; simp at h; omega))); have HMM5 := Lib.hid (show World.ownsRow _ _ _ _ _ _ ((md ++ [mv]).map nv) from by rw [List.map_append]; exact hown); have hcm : w5.cell? ⟨g5, k, none⟩ = some (.int .i64 (mv : Int)) := (by rw [hown.cellAt k (by omega), List.getElem?_append_right (by rw [List.length_map, HMD.out]; exact Nat.le_refl _), List.length_map, HMD.out, Nat.sub_self]; rfl); clear hown hgr hgg)))
          exact ⟨⟨k + 1, g3, c3, g5, c5, _, _, _, by omega, by go_num, rfl, rfl, HNX, HC5, HMM5, HNG5, HB5⟩, by simp [intOf]; omega⟩
        · have HNX : Hid (allI tb p = none) := HNO.out (by rw [HTS.out, HST2.out, if_pos (by omega)])
          have q300 : ((mv : Int) > 300) := by omega
          go_wp2_with (first
            | (go_at_call 83; (with_reducible refine (CL.out _ (HT.out.below HB.out) HC.out.cls (HE.out.below HB.out) (HN.out.below HB.out)).mono ?_); rintro e w1 ⟨gc, cc, cs, ok, ⟨rfl, hf, hr⟩, hb1⟩; (obtain ⟨rfl, rfl⟩ := ret_some hr); go_loud (have HF1 := Lib.hid hf; have HC1 := Lib.hid (HC.out.below hb1); have HMM1 := Lib.hid (own_below HM.out hb1); have hz1 := hb1.size; have HB1 := Lib.hid (HB.out.trans (hb1.mono hwz)); have hgc := hf.lo; clear hb1 hf hr))
            | (at_builtin; go_loud (refine wpList_append_block _ rfl (.tmp 32) (.tmp 34) 71 rfl w.heap.size 34 i0 (.slice none 0 0) 1 24 Try.underlying71 hi iz0 iz1 iz2 rfl (by decide) g k c (T.map hdQ) rfl (by have h := HC1.out.own; rw [HCL.out] at h; exact h.alloc _) _ 1 1 [.slice (some ⟨gc, 0, none⟩) cs.length cc] rfl rfl (news_new (by first | rfl | simp)) (by simp [Value.oneCell']) (by unfold maxLen; omega) (by omega) (by first | omega | (simp; done) | (simp; omega)) ?_); intro g3 c3 w3 hown hgr hgg; go_loud (have HB3 := Lib.hid (Below.grown (HB1.out.alloc HB1.out.size _) hgr (by simp; omega) (fun k hk => by obtain rfl := Option.some.inj hk; exact HC.out.lo.1)); have HC3 := Lib.hid (CBag.push (t := (gc, cc, cs)) (HC1.out.below ((Below.refl _ _).alloc (Nat.le_refl _) _)) ((HF1.out.lower (by omega)).below ((Below.refl _ _).alloc (Nat.le_refl _) _)) (by simp only; omega) (by rw [HCL.out]) hown hgr hgg); have HMM3 := Lib.hid (own_keep (HMM1.out.alloc _) (hgr.block gm (by simp; omega) (fun e => HNG.out.1 (Option.some.inj e).symm))); have HNG3 : Hid (g3 ≠ gm ∧ ∀ t ∈ T ++ [(gc, cc, cs)], t.1 ≠ gm) := (And.intro (by rcases hgg with h | h; rw [h]; exact HNG.out.1; (simp at h; omega)) (fun t ht => by rcases List.mem_append.1 ht with h | h; exact HNG.out.2 t h; (obtain rfl := List.mem_singleton.1 h; simp only; omega))); have hz3 := hgr.size; (simp at hz3); obtain ⟨y0, y1, y2, y3, y4, y5⟩ := HX.out w3 HB3.out; clear hown hgr hgg))
            | (go_at_call 84; (with_reducible refine (HM3.out _ (FlO.of_own HMM3.out).fl).mono ?_); rintro e w4 ⟨rfl, hb4⟩; go_loud (have HC4 := Lib.hid (HC3.out.below hb4); have HMM4 := Lib.hid (own_below HMM3.out hb4); have HB4 := Lib.hid (HB3.out.trans (hb4.mono HB3.out.size)); have hz4 := hb4.size; clear hb4))
            | (at_builtin; go_loud (refine wpList_append_block _ rfl (.tmp 36) (.tmp 43) 30 rfl w.heap.size 3 j0 (.int .i64 0) 1 8 Try.underlying30 hj jz0 jz1 jz2 rfl (by decide) gm k cm (md.map nv) rfl (HMM4.out.alloc _) _ 1 1 [.int .i64 (mv : Int)] rfl rfl (news_new (by first | rfl | simp)) (by simp [Value.oneCell']) (by unfold maxLen; omega) (by omega) (by first | omega | (simp; done) | (simp; omega)) ?_); intro g5 c5 w5 hown hgr hgg; go_loud (have HB5 := Lib.hid (Below.grown (HB4.out.alloc HB4.out.size _) hgr (by simp; omega) (fun k hk => by obtain rfl := Option.some.inj hk; exact (HM.out.lt gm rfl).1)); have HC5 := Lib.hid (CBag.keep (HC4.out.below ((Below.refl _ _).alloc (Nat.le_refl _) _)) hgr.size (hgr.block g3 (by have := HC4.out.lo.2; simp; omega) (fun e => HNG3.out.1 (Option.some.inj e))) (fun t ht => hgr.block t.1 (by have := (HC4.out.rows t ht).hi; simp; omega) (fun e => HNG3.out.2 t ht (Option.some.inj e)))); have HNG5 : Hid (g3 ≠ g5 ∧ ∀ t ∈ T ++ [(gc, cc, cs)], t.1 ≠ g5) := (And.intro (by rcases hgg with h | h; rw [h]; exact HNG3.out.1; (have := HC4.out.lo.2; simp at h; omega)) (fun t ht => by rcases hgg with h | h; rw [h]; exact HNG3.out.2 t ht; (have := (HC4.out.rows t ht).hi; simp at h; omega))); have HMM5 := Lib.hid (show World.ownsRow _ _ _ _ _ _ ((md ++ [mv]).map nv) from by rw [List.map_append]; exact hown); have hcm : w5.cell? ⟨g5, k, none⟩ = some (.int .i64 (mv : Int)) := (by rw [hown.cellAt k (by omega), List.getElem?_append_right (by rw [List.length_map, HMD.out]; exact Nat.le_refl _), List.length_map, HMD.out, Nat.sub_self]; rfl); clear hown hgr hgg)))
          refine bodyPost_ret (v := .tuple #[.slice (some ⟨w5.heap.size, 0, none⟩) 0 0, .bool false]) (by simp [results, Try.results47, go_sem]) rfl ?_
          exact ⟨w5.heap.size, 0, [], [], false, ⟨rfl, CBag.empty w5 HB5.out.size, by rw [HNX.out]; rfl⟩, HB5.out.alloc HB5.out.size _⟩
    · obtain rfl : k = p.length := by omega
      have HAF := HAL.out
      rw [List.take_length] at HAF
      have HAL2 := Lib.hid HAF
      obtain ⟨hcl, -⟩ := allI_len HAF
      simp only at hcl
      have HCL := Lib.hid hcl
      clear HAF hcl
      go_wp2
      refine bodyPost_ret (v := .tuple #[.slice (some ⟨g, 0, none⟩) p.length c, .bool true]) (by simp [results, Try.results47, go_sem]) rfl ?_
      exact ⟨g, c, T, cl, true, ⟨by rw [HCL.out], HC.out, by rw [HAL2.out]; rfl⟩, HB.out⟩
end Go.Proofs.Ytacinjbaebimhaa.Val
