/- What the draw of FnExprMoved leaves (DrawMovedRow). -/
import Derived.Test.YtcddkleglmbfgaaDrawA
namespace Go.Proofs.Ytcddkleglmbfgaa.Val
open Go.RowKit
set_option linter.unusedVariables false
set_option linter.unusedSimpArgs false
set_option maxRecDepth 4000
def ivs (π : List Nat) : List Value := (π.map Int.ofNat).map iv
theorem ivs_len (π : List Nat) : (ivs π).length = π.length := by simp [ivs]
theorem ins_perm {π : List Nat} {k m : Nat} (h : π.Perm (List.range k)) : (π.take m ++ [k] ++ π.drop m).Perm (List.range (k + 1)) := by
  rw [List.range_succ, List.append_assoc, List.singleton_append]
  refine List.perm_middle.trans ?_
  rw [List.take_append_drop]
  exact (List.Perm.cons k h).trans (List.perm_append_singleton k (List.range k)).symm
theorem one_ivs (l : List Value) (h : ∀ u ∈ l, ∃ n : Int, u = .int .i64 n) : ∀ u ∈ l, u.oneCell' = true := by
  intro u hu
  obtain ⟨n, rfl⟩ := h u hu
  simp [Value.oneCell']
theorem ivs_int (π : List Nat) : ∀ u ∈ ivs π, ∃ n : Int, u = .int .i64 n := by
  intro u hu
  simp only [ivs, iv, List.map_map, List.mem_map] at hu
  obtain ⟨n, -, rfl⟩ := hu
  exact ⟨_, rfl⟩
theorem news_sub {W : World} {g : Nat} {xs : List Value} (h : Fl W g 0 (some ⟨g, 0, none⟩) xs) (o : Nat) : ∀ j u, (xs.drop o)[j]? = some u → W.cell? ((⟨g, o, none⟩ : Addr).add j) = some u := by
  intro j u hj
  obtain ⟨hl, rfl⟩ := List.getElem?_eq_some_iff.1 hj
  have := h.c (o + j) (by simp at hl; omega)
  rw [Nat.zero_add] at this
  have ha : (⟨g, o, none⟩ : Addr).add j = ⟨g, o + j, none⟩ := by unfold Addr.add; split <;> simp_all
  rw [ha, this]
  simp
theorem news_sub0 {W : World} {g : Nat} {xs : List Value} (h : Fl W g 0 (some ⟨g, 0, none⟩) xs) (m : Nat) : ∀ j u, (xs.take m)[j]? = some u → W.cell? ((⟨g, 0, none⟩ : Addr).add j) = some u := by
  intro j u hj
  obtain ⟨hl, rfl⟩ := List.getElem?_eq_some_iff.1 hj
  have := h.c j (by simp at hl; omega)
  rw [Nat.zero_add] at this
  have ha : (⟨g, 0, none⟩ : Addr).add j = ⟨g, j, none⟩ := by unfold Addr.add; split <;> simp_all
  rw [ha, this]
  simp
theorem news_one {W : World} {b : Nat} {u : Value} (h : W.cell? ⟨b, 0, none⟩ = some u) : ∀ j v, [u][j]? = some v → W.cell? ((⟨b, 0, none⟩ : Addr).add j) = some v := by
  intro j v hj
  rcases j with _ | j
  · simp only [List.getElem?_cons_zero, Option.some.injEq] at hj
    rw [← hj, ← h]
    rfl
  · simp at hj
theorem ins_len {π : List Nat} {k m : Nat} (hm : m ≤ π.length) : (π.take m ++ [k] ++ π.drop m).length = m + 1 + (π.length - m) := by
  simp [Nat.min_eq_left hm]
  omega
theorem ins_ivs (π : List Nat) (k m : Nat) : ivs (π.take m ++ [k] ++ π.drop m) = (ivs π).take m ++ [.int .i64 (k : Int)] ++ (ivs π).drop m := by
  simp [ivs, List.map_take, List.map_drop, iv]
theorem ins_own {W : World} {B B' g c k m : Nat} {π : List Nat} (hm : m ≤ π.length) (hB : B ≤ B') (h : W.ownsRow B' 3 1 (.slice (some ⟨g, 0, none⟩) (m + 1 + (π.length - m)) c) (m + 1 + (π.length - m)) ((ivs π).take m ++ [.int .i64 (k : Int)] ++ (ivs π).drop m)) : W.ownsRow B 3 1 (.slice (some ⟨g, 0, none⟩) (π.take m ++ [k] ++ π.drop m).length c) (π.take m ++ [k] ++ π.drop m).length (ivs (π.take m ++ [k] ++ π.drop m)) := by
  rw [ins_len hm, ins_ivs]
  exact own_lower h hB
theorem one_sub {l : List Nat} {ys : List Value} (h : ∀ u ∈ ys, u ∈ ivs l) : ∀ u ∈ ys, u.oneCell' = true := fun u hu => one_ivs _ (ivs_int l) u (h u hu)
def DrewM (w : World) (e : Ending) (w' : World) : Prop := ∃ (cs : List CT) (vs : List VT) (ps : List PT) (tt : List Int) (g c g2 c2 g3 c3 gt ct : Nat), e = .returned (.tuple #[.slice (some ⟨g, 0, none⟩) cs.length c, .slice (some ⟨g2, 0, none⟩) vs.length c2, .slice (some ⟨g3, 0, none⟩) ps.length c3, .slice (some ⟨gt, 0, none⟩) tt.length ct]) ∧ (0 < cs.length ∧ cs.length ≤ 6) ∧ (0 < vs.length ∧ vs.length ≤ 20) ∧ ps.length ≤ 65 ∧ (tt.length = cs.length + 1 ∨ ∃ π : List Nat, tt = π.map Int.ofNat ∧ π.Perm (List.range cs.length)) ∧ Texts vs ∧ TextsP ps ∧ Fl w' g 0 (some ⟨g, 0, none⟩) (flatC cs) ∧ Fl w' g2 0 (some ⟨g2, 0, none⟩) (flatV vs) ∧ Fl w' g3 0 (some ⟨g3, 0, none⟩) (flatP ps) ∧ Fl w' gt 0 (some ⟨gt, 0, none⟩) (tt.map iv) ∧ (g3 < w'.heap.size ∧ gt < w'.heap.size) ∧ Below w.heap.size w w'
theorem drewM_end {w wo wS W : World} {r g c g2 c2 g3 c3 gt ct n B : Nat} {cs : List CT} {vs : List VT} {ps : List PT} (tt : List Int) (HF : Fl wS g 0 (some ⟨g, 0, none⟩) (flatC cs)) (KF : Fl wS g2 0 (some ⟨g2, 0, none⟩) (flatV vs)) (PF : Fl wS g3 0 (some ⟨g3, 0, none⟩) (flatP ps)) (HO : Only r wS W) (HOo : Only r wo wS) (HBo : Below w.heap.size w wo) (h1 : g ≠ r) (h2 : g2 ≠ r) (h3 : g3 ≠ r) (hr : w.heap.size ≤ r) (hz : w.heap.size ≤ wo.heap.size) (hc : 0 < cs.length ∧ cs.length ≤ 6) (hv : 0 < vs.length ∧ vs.length ≤ 20) (hp : ps.length ≤ 65) (htt : tt.length = cs.length + 1 ∨ ∃ π : List Nat, tt = π.map Int.ofNat ∧ π.Perm (List.range cs.length)) (HT : Texts vs) (HTP : TextsP ps) (hg3 : g3 < wS.heap.size) (hn : n = tt.length) (hO : W.ownsRow B 3 1 (.slice (some ⟨gt, 0, none⟩) n ct) n (tt.map iv)) : DrewM w (.returned (.tuple #[.slice (some ⟨g, 0, none⟩) cs.length c, .slice (some ⟨g2, 0, none⟩) vs.length c2, .slice (some ⟨g3, 0, none⟩) ps.length c3, .slice (some ⟨gt, 0, none⟩) n ct])) W := by
  subst hn
  have hs := HO.size
  exact ⟨cs, vs, ps, tt, g, c, g2, c2, g3, c3, gt, ct, rfl, hc, hv, hp, htt, HT, HTP, HF.only HO (fun _ => h1), KF.only HO (fun _ => h2), PF.only HO (fun _ => h3), fl_sliceP hO, ⟨by omega, (own_cap hO).2.1⟩, HBo.trans ((HOo.trans HO).below hr hz)⟩
theorem pickEntersM (vs : Array Value) (w : World) : (callFunc 104 vs).run Try.prog w = .ok (.enter 104 vs) w := by
  go_simp
end Go.Proofs.Ytcddkleglmbfgaa.Val
