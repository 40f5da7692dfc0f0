/- Rows of structs: flat cells behind one address, what keeps them, what fills them. -/
import Derived.Test.YtjidkjnlnenmbaaTMath
import Derived.Test.YtjidkjnlnenmbaaRd
import Derived.Laws.OwnMore
namespace Go.Proofs.Ytjidkjnlnenmbaa.Val
open Go.RowKit
set_option linter.unusedVariables false
/-- The cells xs lie in block g from cell o on (where there are any), and A leads to them. -/
structure Fl (w : World) (g o : Nat) (A : Option Addr) (xs : List Value) : Prop where
  ad : 0 < xs.length → A = some ⟨g, o, none⟩
  c : ∀ j (h : j < xs.length), w.cell? ⟨g, o + j, none⟩ = some xs[j]
theorem Fl.lt {w : World} {g o : Nat} {A : Option Addr} {xs : List Value} (h : Fl w g o A xs) (h0 : 0 < xs.length) : g < w.heap.size := World.block_lt_of_cell? w ⟨g, o + 0, none⟩ (h.c 0 h0)
theorem Fl.keep {w w' : World} {g o : Nat} {A : Option Addr} {xs : List Value} (h : Fl w g o A xs) (hk : g < w.heap.size → ∀ j, w'.cell? ⟨g, j, none⟩ = w.cell? ⟨g, j, none⟩) : Fl w' g o A xs :=
  ⟨h.ad, fun j hj => (hk (h.lt (by omega)) _).trans (h.c j hj)⟩
theorem Fl.below {w w' : World} {g o : Nat} {A : Option Addr} {xs : List Value} (h : Fl w g o A xs) (hb : Below w.heap.size w w') : Fl w' g o A xs :=
  h.keep fun hg j => hb.cell (p := ⟨g, j, none⟩) hg
theorem Fl.alloc {w : World} {g o : Nat} {A : Option Addr} {xs : List Value} (h : Fl w g o A xs) (ob : Obj) : Fl (w.alloc ob) g o A xs :=
  h.below ((Below.refl _ _).alloc (Nat.le_refl _) _)
theorem Fl.drew {w : World} {g o : Nat} {A : Option Addr} {xs : List Value} (h : Fl w g o A xs) : Fl w.drew g o A xs := ⟨h.ad, h.c⟩
theorem Fl.only {w w' : World} {g o r : Nat} {A : Option Addr} {xs : List Value} (h : Fl w g o A xs) (ho : Only r w w') (hr : 0 < xs.length → g ≠ r) : Fl w' g o A xs :=
  ⟨h.ad, fun j hj => (ho.cell _ _ (h.lt (by omega)) (hr (by omega))).trans (h.c j hj)⟩
theorem Fl.take {w : World} {g o : Nat} {A : Option Addr} {xs ys : List Value} (h : Fl w g o A xs) (hp : ys <+: xs) : Fl w g o A ys := by
  obtain ⟨zs, rfl⟩ := hp
  refine ⟨fun h0 => h.ad (by simp; omega), fun j hj => ?_⟩
  rw [h.c j (by simp; omega), List.getElem_append_left hj]
theorem offNe {b b' o o' : Nat} (h : o ≠ o' ∨ b ≠ b') : (⟨b, o, none⟩ : Addr) ≠ ⟨b', o', none⟩ := by intro e; injection e; omega
/-- The first m cells of block H hold what they should; all of them can be written. -/
def Fill (w : World) (H : Nat) (xs : List Value) (m : Nat) : Prop := ∀ j (hj : j < xs.length), (∃ v, w.cell? ⟨H, j, none⟩ = some v) ∧ w.frozen? ⟨H, j, none⟩ = false ∧ (j < m → w.cell? ⟨H, j, none⟩ = some xs[j])
theorem Fill.set {w : World} {H m : Nat} {xs : List Value} {u : Value} (h : Fill w H xs m) (hu : xs[m]? = some u) : Fill (w.setCell ⟨H, m, none⟩ u) H xs (m + 1) := by
  intro j hj
  obtain ⟨hml, hmu⟩ := List.getElem?_eq_some_iff.1 hu
  obtain ⟨⟨v, hv⟩, hf, hc⟩ := h j hj
  refine ⟨?_, by rw [World.frozen?_setCell]; exact hf, fun hjm => ?_⟩
  · by_cases e : j = m
    · subst e; exact ⟨_, World.cell?_setCell_same _ _ _ hv⟩
    · exact ⟨v, by rw [World.cell?_setCell_other _ _ _ _ (offNe (by omega))]; exact hv⟩
  · by_cases e : j = m
    · subst e; rw [World.cell?_setCell_same _ _ _ hv, hmu]
    · rw [World.cell?_setCell_other _ _ _ _ (offNe (by omega))]; exact hc (by omega)
theorem Fill.below {w w' : World} {H m : Nat} {xs : List Value} (h : Fill w H xs m) (hb : Below w.heap.size w w') : Fill w' H xs m := by
  intro j hj
  obtain ⟨⟨v, hv⟩, hf, hc⟩ := h j hj
  have hg := World.block_lt_of_cell? w _ hv
  refine ⟨⟨v, (hb.cell (p := ⟨H, j, none⟩) hg).trans hv⟩, (hb.frozen (p := ⟨H, j, none⟩) hg).trans hf, fun hjm => (hb.cell (p := ⟨H, j, none⟩) hg).trans (hc hjm)⟩
theorem Fill.alloc {w : World} {H m : Nat} {xs : List Value} (h : Fill w H xs m) (ob : Obj) : Fill (w.alloc ob) H xs m := h.below ((Below.refl _ _).alloc (Nat.le_refl _) _)
theorem Fill.drew {w : World} {H m : Nat} {xs : List Value} (h : Fill w H xs m) : Fill w.drew H xs m := fun j hj => h j hj
theorem Fill.fl {w : World} {H : Nat} {xs : List Value} (h : Fill w H xs xs.length) : Fl w H 0 (some ⟨H, 0, none⟩) xs :=
  ⟨fun _ => rfl, fun j hj => by rw [Nat.zero_add]; exact (h j hj).2.2 hj⟩
theorem Fill.fz {w : World} {H m : Nat} {xs : List Value} (h : Fill w H xs m) : ∀ j, j < xs.length → w.frozen? ⟨H, j, none⟩ = false := fun j hj => (h j hj).2.1
theorem Fill.made {w : World} {base g cap n size : Nat} {e : TypeId} {zs xs : List Value} (h : w.ownsRow base e size (.slice (some ⟨g, 0, none⟩) n cap) n zs) (hx : xs.length = n * size) : Fill w g xs 0 := by
  intro j hj
  refine ⟨?_, h.frozenAt j, fun hj0 => absurd hj0 (by omega)⟩
  rw [h.cellAt j (by omega), List.getElem?_eq_getElem (show j < zs.length by rw [h.1]; omega)]
  exact ⟨_, rfl⟩
/-- What a row of one's own shows. -/
theorem fl_of_own {w : World} {B size n : Nat} {e : TypeId} {v : Value} {xs : List Value} (h : w.ownsRow B e size v n xs) : ∃ (g : Nat) (A : Option Addr) (cap : Nat), v = .slice A n cap ∧ Fl w g 0 A xs ∧ (0 < xs.length → B ≤ g) ∧ n ≤ cap ∧ cap ≤ maxLen ∧ (∀ k, v.ownBlock = some k → k = g) := by
  have hh := h
  rcases h.2 with ⟨rfl, h0⟩ | ⟨g, cap, cur, rfl, hB, _, h1, h2, _⟩
  · have : xs = [] := List.eq_nil_of_length_eq_zero (by rw [h.1, h0]; omega)
    subst this
    refine ⟨0, none, 0, by rw [h0], ⟨fun hp => absurd hp (by simp), fun j hj => absurd hj (by simp)⟩, fun hp => absurd hp (by simp), by omega, by omega, fun k hk => by simp [Value.ownBlock] at hk⟩
  · refine ⟨g, _, cap, rfl, ⟨fun _ => rfl, fun j hj => ?_⟩, fun _ => hB, h1, h2, fun k hk => by simpa [Value.ownBlock] using hk.symm⟩
    rw [Nat.zero_add, hh.cellAt j (by rw [← hh.1]; exact hj), List.getElem?_eq_getElem hj]
/-! ### Values -/
abbrev VT := Int × Int × ByteArray
def flatV (vs : List VT) : List Value := vs.flatMap fun v => [.int .i64 v.1, .int .i64 v.2.1, .string v.2.2]
theorem flatV_nil : flatV [] = [] := rfl
theorem flatV_cons (v : VT) (vs : List VT) : flatV (v :: vs) = .int .i64 v.1 :: .int .i64 v.2.1 :: .string v.2.2 :: flatV vs := rfl
theorem flatV_app (a b : List VT) : flatV (a ++ b) = flatV a ++ flatV b := List.flatMap_append
theorem flatV_len (vs : List VT) : (flatV vs).length = vs.length * 3 := by
  induction vs with
  | nil => rfl
  | cons v vs ih => rw [flatV_cons, List.length_cons, List.length_cons, List.length_cons, ih, List.length_cons]; omega
theorem flatV_get (vs : List VT) (i : Nat) (h : i < vs.length) : (flatV vs)[i * 3]? = some (.int .i64 vs[i].1) ∧ (flatV vs)[i * 3 + 1]? = some (.int .i64 vs[i].2.1) ∧ (flatV vs)[i * 3 + 2]? = some (.string vs[i].2.2) := by
  induction vs generalizing i with
  | nil => simp at h
  | cons v vs ih =>
    cases i with
    | zero => rw [flatV_cons]; simp
    | succ i =>
      have := ih i (by simpa using h)
      rw [flatV_cons, show (i + 1) * 3 = i * 3 + 3 by omega]
      simpa using this
theorem flatV_take (vs : List VT) (k : Nat) : flatV (vs.take k) <+: flatV vs := by
  refine ⟨flatV (vs.drop k), ?_⟩
  rw [← flatV_app, List.take_append_drop]
theorem Fl.v {w : World} {g o : Nat} {A : Option Addr} {vs : List VT} (h : Fl w g o A (flatV vs)) (i : Nat) (hi : i < vs.length) : A = some ⟨g, o, none⟩ ∧ g < w.heap.size ∧ w.cell? ⟨g, o + i * 3, none⟩ = some (.int .i64 vs[i].1) ∧ w.cell? ⟨g, o + i * 3 + 1, none⟩ = some (.int .i64 vs[i].2.1) ∧ w.cell? ⟨g, o + i * 3 + 2, none⟩ = some (.string vs[i].2.2) := by
  have hl := flatV_len vs
  have hg := flatV_get vs i hi
  have c := fun (j : Nat) (u : Value) (hu : (flatV vs)[j]? = some u) => (by
    obtain ⟨h1, h2⟩ := List.getElem?_eq_some_iff.1 hu
    rw [h.c j h1, h2] : w.cell? ⟨g, o + j, none⟩ = some u)
  refine ⟨h.ad (by omega), h.lt (by omega), c _ _ hg.1, ?_, ?_⟩
  · have := c _ _ hg.2.1; rwa [← Nat.add_assoc] at this
  · have := c _ _ hg.2.2; rwa [← Nat.add_assoc] at this
/-! ### Columns -/
abbrev CT := Int × Bool
def flatC (cs : List CT) : List Value := cs.flatMap fun c => [.int .i64 c.1, .bool c.2]
theorem flatC_nil : flatC [] = [] := rfl
theorem flatC_cons (c : CT) (cs : List CT) : flatC (c :: cs) = .int .i64 c.1 :: .bool c.2 :: flatC cs := rfl
theorem flatC_app (a b : List CT) : flatC (a ++ b) = flatC a ++ flatC b := List.flatMap_append
theorem flatC_len (cs : List CT) : (flatC cs).length = cs.length * 2 := by
  induction cs with
  | nil => rfl
  | cons v vs ih => rw [flatC_cons, List.length_cons, List.length_cons, ih, List.length_cons]; omega
theorem flatC_get (cs : List CT) (i : Nat) (h : i < cs.length) : (flatC cs)[i * 2]? = some (.int .i64 cs[i].1) ∧ (flatC cs)[i * 2 + 1]? = some (.bool cs[i].2) := by
  induction cs generalizing i with
  | nil => simp at h
  | cons v vs ih =>
    cases i with
    | zero => rw [flatC_cons]; simp
    | succ i =>
      have := ih i (by simpa using h)
      rw [flatC_cons, show (i + 1) * 2 = i * 2 + 2 by omega]
      simpa using this
theorem flatC_take (cs : List CT) (k : Nat) : flatC (cs.take k) <+: flatC cs := by
  refine ⟨flatC (cs.drop k), ?_⟩
  rw [← flatC_app, List.take_append_drop]
theorem Fl.cl {w : World} {g o : Nat} {A : Option Addr} {cs : List CT} (h : Fl w g o A (flatC cs)) (i : Nat) (hi : i < cs.length) : A = some ⟨g, o, none⟩ ∧ g < w.heap.size ∧ w.cell? ⟨g, o + i * 2, none⟩ = some (.int .i64 cs[i].1) ∧ w.cell? ⟨g, o + i * 2 + 1, none⟩ = some (.bool cs[i].2) := by
  have hl := flatC_len cs
  have hg := flatC_get cs i hi
  have c := fun (j : Nat) (u : Value) (hu : (flatC cs)[j]? = some u) => (by
    obtain ⟨h1, h2⟩ := List.getElem?_eq_some_iff.1 hu
    rw [h.c j h1, h2] : w.cell? ⟨g, o + j, none⟩ = some u)
  refine ⟨h.ad (by omega), h.lt (by omega), c _ _ hg.1, ?_⟩
  have := c _ _ hg.2; rwa [← Nat.add_assoc] at this
end Go.Proofs.Ytjidkjnlnenmbaa.Val
