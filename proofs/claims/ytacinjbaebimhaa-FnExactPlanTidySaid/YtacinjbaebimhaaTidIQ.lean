/- Copies of steps: the program's partsCopy, numbersCopy, stepCopy. -/
import Derived.Test.YtacinjbaebimhaaPImpQ
import Derived.Deep.RegionHeld
namespace Go.Proofs.Ytacinjbaebimhaa.Val
open Go.RowKit
set_option linter.unusedSimpArgs false
set_option linter.unusedVariables false
set_option maxRecDepth 8000
theorem one_flatP (es : List PT) : ∀ u ∈ flatP es, u.oneCell' = true := by
  intro u hu
  obtain ⟨p, -, hp⟩ := List.mem_flatMap.1 (show u ∈ es.flatMap _ from hu)
  simp only [List.mem_cons, List.not_mem_nil, or_false] at hp
  rcases hp with rfl | rfl | rfl | rfl | rfl <;> rfl
theorem one_iv (l : List Int) : ∀ u ∈ l.map iv, u.oneCell' = true := by
  intro u hu
  obtain ⟨p, -, rfl⟩ := List.mem_map.1 hu
  rfl
theorem partsCopy (A : Option Addr) (cap g o : Nat) (es : List PT) (w : World) (hA : Fl w g o A (flatP es)) (hN : Nice A cap g o) (hc : es.length ≤ cap) (hl : es.length ≤ 2000000) :
    Calls Try.prog 148 #[.slice A es.length cap] w (RetFl es.length (flatP es) w) := by
  obtain ⟨i0, hi, iz0, iz1, iz2⟩ := info_parts infoP
  have FA := Lib.hid hA
  have NA := Lib.hid hN
  have LP := Lib.hid (flatP_len es)
  have LO := Lib.hid (one_flatP es)
  have HB := Lib.hid ((Below.refl w.heap.size w).alloc (Nat.le_refl _) (.cells #[] 93))
  obtain ⟨n, hn⟩ : ∃ n, es.length = n := ⟨_, rfl⟩
  rw [hn] at hc hl LP ⊢
  clear hA hN hn
  go_enter Try.func148, Try.ntmps148
  go_wp2_with (at_builtin; refine wpList_append_nice _ rfl (.tmp 3) (.tmp 4) 29 rfl w.heap.size 93 i0 (.agg #[.int .i64 0, .int .i64 0, .int .i64 0, .int .i64 0, .string ⟨#[]⟩]) 5 48 Try.underlying29 hi iz0 iz1 iz2 rfl (by decide) w.heap.size 0 0 [] rfl (own_empty3 93 5 rfl (Nat.le_refl _)) A n cap g o NA.out hc (flatP es) rfl LP.out (FA.out.below HB.out) LO.out (by unfold maxLen; omega) (by omega) (by simp) ?_; intro g1 c1 w1 hown hgr hgg; (try simp only [Nat.zero_add, List.nil_append] at hown ⊢); have OW := Lib.hid hown; have HB1 := Lib.hid (Below.grown HB.out hgr (by simp) (fun k hk => by obtain rfl := Option.some.inj hk; exact Nat.le_refl _)); clear hown hgr hgg)
  go_ret
  exact ⟨g1, c1, rfl, FlO.of_own OW.out, HB1.out⟩
theorem numbersCopy (A : Option Addr) (cap g o : Nat) (l : List Int) (w : World) (hA : Fl w g o A (l.map iv)) (hN : Nice A cap g o) (hc : l.length ≤ cap) (hl : l.length ≤ 2000000) :
    Calls Try.prog 149 #[.slice A l.length cap] w (RetFl l.length (l.map iv) w) := by
  obtain ⟨i0, hi, iz0, iz1, iz2⟩ := info_parts infoN
  have FA := Lib.hid hA
  have NA := Lib.hid hN
  have LP : Hid ((l.map iv).length = l.length) := Lib.hid (List.length_map ..)
  have LO := Lib.hid (one_iv l)
  have HB := Lib.hid ((Below.refl w.heap.size w).alloc (Nat.le_refl _) (.cells #[] 3))
  obtain ⟨n, hn⟩ : ∃ n, l.length = n := ⟨_, rfl⟩
  rw [hn] at hc hl LP ⊢
  clear hA hN hn
  go_enter Try.func149, Try.ntmps149
  go_wp2_with (at_builtin; refine wpList_append_nice _ rfl (.tmp 3) (.tmp 4) 30 rfl w.heap.size 3 i0 (.int .i64 0) 1 8 Try.underlying30 hi iz0 iz1 iz2 rfl (by decide) w.heap.size 0 0 [] rfl (own_empty3 3 1 rfl (Nat.le_refl _)) A n cap g o NA.out hc (l.map iv) rfl (by rw [LP.out, Nat.mul_one]) (FA.out.below HB.out) LO.out (by unfold maxLen; omega) (by omega) (by simp) ?_; intro g1 c1 w1 hown hgr hgg; (try simp only [Nat.zero_add, List.nil_append] at hown ⊢); have OW := Lib.hid hown; have HB1 := Lib.hid (Below.grown HB.out hgr (by simp) (fun k hk => by obtain rfl := Option.some.inj hk; exact Nat.le_refl _)); clear hown hgr hgg)
  go_ret
  exact ⟨g1, c1, rfl, FlO.of_own OW.out, HB1.out⟩
/-- A box that holds a step. -/
def BoxS (w : World) (B b : Nat) (vs : List Value) : Prop := w.ownsRow B 32 6 (.slice (some ⟨b, 0, none⟩) 1 1) 1 vs
theorem BoxS.new {w : World} {B b : Nat} (hb : w.heap.size = b) (hB : B ≤ b) (v0 v1 v2 v3 v4 v5 : Value) : BoxS (w.alloc (.cells #[v0, v1, v2, v3, v4, v5] 32)) B b [v0, v1, v2, v3, v4, v5] := by
  subst hb
  exact ⟨rfl, .inr ⟨w.heap.size, 1, _, rfl, hB, heap_alloc_new w _, Nat.le_refl _, by decide, rfl, rfl⟩⟩
theorem BoxS.lo {w : World} {B b : Nat} {vs : List Value} (h : BoxS w B b vs) : B ≤ b ∧ b < w.heap.size := World.ownsRow.lt h b rfl
theorem BoxS.below {w w' : World} {B b : Nat} {vs : List Value} (h : BoxS w B b vs) (hb : Below w.heap.size w w') : BoxS w' B b vs := own_keep h (hb.block _ h.lo.2)
theorem BoxS.facts {w : World} {B b : Nat} {v0 v1 v2 v3 v4 v5 : Value} (h : BoxS w B b [v0, v1, v2, v3, v4, v5]) : (w.cell? ⟨b, 0, none⟩ = some v0 ∧ w.cell? ⟨b, 1, none⟩ = some v1 ∧ w.cell? ⟨b, 2, none⟩ = some v2 ∧ w.cell? ⟨b, 3, none⟩ = some v3 ∧ w.cell? ⟨b, 4, none⟩ = some v4 ∧ w.cell? ⟨b, 5, none⟩ = some v5) ∧ w.frozen? ⟨b, 0, none⟩ = false ∧ w.frozen? ⟨b, 1, none⟩ = false ∧ w.frozen? ⟨b, 2, none⟩ = false ∧ w.frozen? ⟨b, 3, none⟩ = false ∧ w.frozen? ⟨b, 4, none⟩ = false ∧ w.frozen? ⟨b, 5, none⟩ = false := by
  have c := fun (j : Nat) (hj : j < 1 * 6) => World.ownsRow.cellAt h j hj
  have f := fun (j : Nat) => World.ownsRow.frozenAt h j
  exact ⟨⟨c 0 (by decide), c 1 (by decide), c 2 (by decide), c 3 (by decide), c 4 (by decide), c 5 (by decide)⟩, f 0, f 1, f 2, f 3, f 4, f 5⟩
theorem BoxS.put {w : World} {B b : Nat} {v0 v1 v2 v3 v4 v5 : Value} (h : BoxS w B b [v0, v1, v2, v3, v4, v5]) (u0 u1 u2 u3 u4 u5 : Value) :
    BoxS ((((((w.setCell ⟨b, 0, none⟩ u0).setCell ⟨b, 1, none⟩ u1).setCell ⟨b, 2, none⟩ u2).setCell ⟨b, 3, none⟩ u3).setCell ⟨b, 4, none⟩ u4).setCell ⟨b, 5, none⟩ u5) B b [u0, u1, u2, u3, u4, u5] :=
  (World.ownsRow.stored (World.ownsRow.stored (World.ownsRow.stored (World.ownsRow.stored (World.ownsRow.stored (World.ownsRow.stored h 0 u0).1 1 u1).1 2 u2).1 3 u3).1 4 u4).1 5 u5).1
theorem partsCopyEnters (vs : Array Value) (w : World) : (callFunc 148 vs).run Try.prog w = .ok (.enter 148 vs) w := by
  go_simp
theorem numbersCopyEnters (vs : Array Value) (w : World) : (callFunc 149 vs).run Try.prog w = .ok (.enter 149 vs) w := by
  go_simp
/-- A block is as it was. -/
def KeptAt (X : Nat) (W w : World) : Prop := w.heap[X]? = W.heap[X]?
theorem kept_put {X b : Nat} (hb : X ≠ b) {W w : World} (h : KeptAt X W w) (u0 u1 u2 u3 u4 u5 : Value) : KeptAt X W ((((((w.setCell ⟨b, 0, none⟩ u0).setCell ⟨b, 1, none⟩ u1).setCell ⟨b, 2, none⟩ u2).setCell ⟨b, 3, none⟩ u3).setCell ⟨b, 4, none⟩ u4).setCell ⟨b, 5, none⟩ u5) := by
  unfold KeptAt at *
  rw [Below.heap_setCell _ ⟨b, 5, none⟩ _ _ hb, Below.heap_setCell _ ⟨b, 4, none⟩ _ _ hb, Below.heap_setCell _ ⟨b, 3, none⟩ _ _ hb, Below.heap_setCell _ ⟨b, 2, none⟩ _ _ hb, Below.heap_setCell _ ⟨b, 1, none⟩ _ _ hb, Below.heap_setCell _ ⟨b, 0, none⟩ _ _ hb, h]
/-- A step of one's own, as a function gives it. -/
def RetStp1 (k a b n : Int) (es : List PT) (ns : List Int) (w : World) (e : Ending) (w' : World) : Prop := ∃ (gE cE gL cL : Nat), e = .returned (.agg #[.int .i64 k, .int .i64 a, .int .i64 b, .int .i64 n, .slice (some ⟨gE, 0, none⟩) es.length cE, .slice (some ⟨gL, 0, none⟩) ns.length cL]) ∧ FlO w' w.heap.size gE cE es.length (flatP es) ∧ FlO w' w.heap.size gL cL ns.length (ns.map iv) ∧ gE ≠ gL ∧ Below w.heap.size w w'
set_option maxHeartbeats 4000000 in
theorem stepCopy (k a b n : Int) (es : List PT) (ns : List Int) (A1 A2 : Option Addr) (c1 g1 o1 c2 g2 o2 : Nat) (w : World) (h1 : Fl w g1 o1 A1 (flatP es)) (h2 : Fl w g2 o2 A2 (ns.map iv)) (n1 : Nice A1 c1 g1 o1) (n2 : Nice A2 c2 g2 o2) (l1 : es.length ≤ c1) (l2 : ns.length ≤ c2) (m1 : es.length ≤ 2000000) (m2 : ns.length ≤ 2000000) :
    Calls Try.prog 133 #[.agg #[.int .i64 k, .int .i64 a, .int .i64 b, .int .i64 n, .slice A1 es.length c1, .slice A2 ns.length c2]] w (RetStp1 k a b n es ns w) := by
  have E1 := Lib.hid (fun W (hb : Below w.heap.size w W) => partsCopy A1 c1 g1 o1 es W (h1.below hb) n1 l1 m1)
  have E2 := Lib.hid (fun W (hb : Below w.heap.size w W) => numbersCopy A2 c2 g2 o2 ns W (h2.below hb) n2 l2 m2)
  clear h1 h2 n1 n2 l1 l2 m1 m2
  go_enter Try.func133, Try.ntmps133
  go_upto_region 1 with fail
  obtain ⟨X, hX⟩ : ∃ X, w.heap.size = X := ⟨_, rfl⟩
  have BP := Lib.hid ((BoxS.new (w := w) (B := w.heap.size) hX (by omega) (.int .i64 k) (.int .i64 a) (.int .i64 b) (.int .i64 n) (.slice A1 es.length c1) (.slice A2 ns.length c2)).below ((Below.refl _ _).alloc (Nat.le_refl _) (.cells #[.int .i64 0, .int .i64 0, .int .i64 0, .int .i64 0, .slice none 0 0, .slice none 0 0] 32)))
  have BR := Lib.hid (BoxS.new (w := w.alloc (.cells #[.int .i64 k, .int .i64 a, .int .i64 b, .int .i64 n, .slice A1 es.length c1, .slice A2 ns.length c2] 32)) (B := w.heap.size) (b := X + 1) (by simp [hX]) (by omega) (.int .i64 0) (.int .i64 0) (.int .i64 0) (.int .i64 0) (.slice none 0 0) (.slice none 0 0))
  have HW : Hid (Below w.heap.size w ((w.alloc (.cells #[.int .i64 k, .int .i64 a, .int .i64 b, .int .i64 n, .slice A1 es.length c1, .slice A2 ns.length c2] 32)).alloc (.cells #[.int .i64 0, .int .i64 0, .int .i64 0, .int .i64 0, .slice none 0 0, .slice none 0 0] 32))) := Lib.hid (((Below.refl _ _).alloc (Nat.le_refl _) _).alloc (by simp) _)
  have hWs : ((w.alloc (.cells #[.int .i64 k, .int .i64 a, .int .i64 b, .int .i64 n, .slice A1 es.length c1, .slice A2 ns.length c2] 32)).alloc (.cells #[.int .i64 0, .int .i64 0, .int .i64 0, .int .i64 0, .slice none 0 0, .slice none 0 0] 32)).heap.size = X + 2 := by simp [hX]
  have hXX : X ≠ X + 1 := by omega
  rw [hX]
  generalize (w.alloc (.cells #[.int .i64 k, .int .i64 a, .int .i64 b, .int .i64 n, .slice A1 es.length c1, .slice A2 ns.length c2] 32)).alloc (.cells #[.int .i64 0, .int .i64 0, .int .i64 0, .int .i64 0, .slice none 0 0, .slice none 0 0] 32) = W at BP BR HW hWs ⊢
  obtain ⟨⟨x0, x1, x2, x3, x4, x5⟩, -⟩ := BP.out.facts
  have E5 := Lib.hid (fun W2 (hb : Below W.heap.size W W2) => E1.out W2 (HW.out.trans (hb.mono HW.out.size)))
  have E6 := Lib.hid (fun W2 (hb : Below W.heap.size W W2) => E2.out W2 (HW.out.trans (hb.mono HW.out.size)))
  refine wp_region_held_drew (S := fun w' => KeptAt X W w') (by kernel_rfl) rfl (fun hS1 => ?_)
  have HB := Lib.hid ((Below.refl W.heap.size W).drew)
  refine wpAnyH_take (i := 0) (v := ?_) rfl (by kernel_rfl) (by kernel_rfl) (by kernel_rfl) (fun _ _ _ h => h) (Or.inl ⟨by rfl, ?_⟩) hS1 ?_
  rotate_left 1
  · (intro w hSw; go_simp)
    all_goals with_reducible rfl
  try go_simp
  refine wpAnyH_take (i := 1) (v := ?_) rfl (by kernel_rfl) (by kernel_rfl) (by kernel_rfl) (fun _ _ _ h => h) (Or.inl ⟨by rfl, ?_⟩) hS1 ?_
  rotate_left 1
  · (intro w hSw; have hSx : KeptAt X W w := hSw; have ex : w.cell? ⟨X, 0, none⟩ = some (.int .i64 k) := (cellOf hSx).trans x0; go_simp)
    all_goals with_reducible rfl
  try go_simp
  refine wpAnyH_take (i := 2) (v := ?_) rfl (by kernel_rfl) (by kernel_rfl) (by kernel_rfl) (fun _ _ _ h => h) (Or.inl ⟨by rfl, ?_⟩) hS1 ?_
  rotate_left 1
  · (intro w hSw; go_simp)
    all_goals with_reducible rfl
  try go_simp
  refine wpAnyH_take (i := 3) (v := ?_) rfl (by kernel_rfl) (by kernel_rfl) (by kernel_rfl) (fun _ _ _ h => h) (Or.inl ⟨by rfl, ?_⟩) hS1 ?_
  rotate_left 1
  · (intro w hSw; have hSx : KeptAt X W w := hSw; have ex : w.cell? ⟨X, 1, none⟩ = some (.int .i64 a) := (cellOf hSx).trans x1; go_simp)
    all_goals with_reducible rfl
  try go_simp
  refine wpAnyH_take (i := 4) (v := ?_) rfl (by kernel_rfl) (by kernel_rfl) (by kernel_rfl) (fun _ _ _ h => h) (Or.inl ⟨by rfl, ?_⟩) hS1 ?_
  rotate_left 1
  · (intro w hSw; go_simp)
    all_goals with_reducible rfl
  try go_simp
  refine wpAnyH_take (i := 5) (v := ?_) rfl (by kernel_rfl) (by kernel_rfl) (by kernel_rfl) (fun _ _ _ h => h) (Or.inl ⟨by rfl, ?_⟩) hS1 ?_
  rotate_left 1
  · (intro w hSw; have hSx : KeptAt X W w := hSw; have ex : w.cell? ⟨X, 2, none⟩ = some (.int .i64 b) := (cellOf hSx).trans x2; go_simp)
    all_goals with_reducible rfl
  try go_simp
  refine wpAnyH_take (i := 6) (v := ?_) rfl (by kernel_rfl) (by kernel_rfl) (by kernel_rfl) (fun _ _ _ h => h) (Or.inl ⟨by rfl, ?_⟩) hS1 ?_
  rotate_left 1
  · (intro w hSw; go_simp)
    all_goals with_reducible rfl
  try go_simp
  refine wpAnyH_take (i := 7) (v := ?_) rfl (by kernel_rfl) (by kernel_rfl) (by kernel_rfl) (fun _ _ _ h => h) (Or.inl ⟨by rfl, ?_⟩) hS1 ?_
  rotate_left 1
  · (intro w hSw; have hSx : KeptAt X W w := hSw; have ex : w.cell? ⟨X, 3, none⟩ = some (.int .i64 n) := (cellOf hSx).trans x3; go_simp)
    all_goals with_reducible rfl
  try go_simp
  refine wpAnyH_take (i := 8) (v := ?_) rfl (by kernel_rfl) (by kernel_rfl) (by kernel_rfl) (fun _ _ _ h => h) (Or.inl ⟨by rfl, ?_⟩) hS1 ?_
  rotate_left 1
  · (intro w hSw; go_simp)
    all_goals with_reducible rfl
  try go_simp
  refine wpAnyH_take (i := 9) (v := ?_) rfl (by kernel_rfl) (by kernel_rfl) (by kernel_rfl) (fun _ _ _ h => h) (Or.inl ⟨by rfl, ?_⟩) hS1 ?_
  rotate_left 1
  · (intro w hSw; have hSx : KeptAt X W w := hSw; have ex : w.cell? ⟨X, 4, none⟩ = some (.slice A1 es.length c1) := (cellOf hSx).trans x4; go_simp)
    all_goals with_reducible rfl
  try go_simp
  refine wpAnyH_take (i := 11) (v := ?_) rfl (by kernel_rfl) (by kernel_rfl) (by kernel_rfl) (fun _ _ _ h => h) (Or.inl ⟨by rfl, ?_⟩) hS1 ?_
  rotate_left 1
  · (intro w hSw; go_simp)
    all_goals with_reducible rfl
  try go_simp
  refine wpAnyH_take (i := 12) (v := ?_) rfl (by kernel_rfl) (by kernel_rfl) (by kernel_rfl) (fun _ _ _ h => h) (Or.inl ⟨by rfl, ?_⟩) hS1 ?_
  rotate_left 1
  · (intro w hSw; have hSx : KeptAt X W w := hSw; have ex : w.cell? ⟨X, 5, none⟩ = some (.slice A2 ns.length c2) := (cellOf hSx).trans x5; go_simp)
    all_goals with_reducible rfl
  try go_simp
  refine wpAnyH_ready (rs := [10]) (by kernel_rfl) (by simp) ?_
  refine AllReadyH.cons rfl (fun K0 hK0 => ?_) AllReadyH.nil
  refine step_call rfl 148 _ _ rfl partsCopyEnters #[.slice A1 es.length c1] rfl (E5.out _ (HB.out)) ?_
  rintro e wA2 ⟨gE, cE, rfl, hfl, hb⟩
  have FE := Lib.hid (hfl.lower HB.out.size)
  have hsep10 : ∀ y, y < W.heap.size → y ≠ gE := fun y hy => by have := FE.out.lo; omega
  have OLDFE := Lib.hid (FE.out)
  have HBn := Lib.hid (HB.out.trans (hb.mono HB.out.size))
  clear hb hfl
  clear HB
  have HB := HBn
  clear HBn
  refine ⟨_, rfl, hK0.out _ _ (HB.out.block X (by have := HB.out.size; omega)) (fun hS3 => ?_)⟩
  clear hK0 K0
  try go_simp
  refine wpAnyH_ready (rs := [13]) (by kernel_rfl) (by simp) ?_
  refine AllReadyH.cons rfl (fun K0 hK0 => ?_) AllReadyH.nil
  refine step_call rfl 149 _ _ rfl numbersCopyEnters #[.slice A2 ns.length c2] rfl (E6.out _ (HB.out)) ?_
  rintro e wA4 ⟨gL, cL, rfl, hfl, hb⟩
  have FEn := Lib.hid (FE.out.below hb)
  clear FE
  have FE := FEn
  clear FEn
  have FL := Lib.hid (hfl.lower HB.out.size)
  have hsep13 : ∀ y, y < W.heap.size → y ≠ gL := fun y hy => by have := FL.out.lo; omega
  have hne : gL ≠ gE := fun e => by have h1 := hfl.lo; have h2 := OLDFE.out.hi; omega
  have OLDFL := Lib.hid (FL.out)
  have HBn := Lib.hid (HB.out.trans (hb.mono HB.out.size))
  clear hb hfl
  clear HB
  have HB := HBn
  clear HBn
  refine ⟨_, rfl, hK0.out _ _ (HB.out.block X (by have := HB.out.size; omega)) (fun hS5 => ?_)⟩
  clear hK0 K0
  try go_simp
  refine wpAnyH_take (i := 14) (v := ?_) rfl (by kernel_rfl) (by kernel_rfl) (by kernel_rfl) (fun _ _ _ h => h) (Or.inl ⟨by rfl, ?_⟩) hS5 ?_
  rotate_left 1
  · (intro w hSw; go_simp)
    all_goals with_reducible rfl
  try go_simp
  refine wpAnyH_ready (rs := [15]) (by kernel_rfl) (by simp) ?_
  refine AllReadyH.cons rfl (fun K0 hK0 => ?_) AllReadyH.nil
  obtain ⟨⟨z0, z1, z2, z3, z4, z5⟩, y0, y1, y2, y3, y4, y5⟩ := (BR.out.below HB.out).facts
  go_simp
  refine hK0.out _ _ (kept_put hXX hS5 _ _ _ _ _ _) (fun hS99 => ?_)
  clear hK0 K0
  try go_simp
  refine wpAnyH_done (by kernel_rfl) ?_ _
  go_wp2
  obtain ⟨⟨q0, q1, q2, q3, q4, q5⟩, -⟩ := ((BR.out.below HB.out).put (.int .i64 k) (.int .i64 a) (.int .i64 b) (.int .i64 n) (.slice (some ⟨gE, 0, none⟩) es.length cE) (.slice (some ⟨gL, 0, none⟩) ns.length cL)).facts
  have hszE := FE.out.lo
  have hszL := FL.out.lo
  refine bodyPost_ret (v := .agg #[.int .i64 k, .int .i64 a, .int .i64 b, .int .i64 n, .slice (some ⟨gE, 0, none⟩) es.length cE, .slice (some ⟨gL, 0, none⟩) ns.length cL]) (by simp [results, Try.results133, go_sem, q0, q1, q2, q3, q4, q5]) rfl ⟨gE, cE, gL, cL, rfl, (FE.out.keep (by simp) (kept_put (by omega) rfl  (.int .i64 k)  (.int .i64 a)  (.int .i64 b)  (.int .i64 n)  (.slice (some ⟨gE, 0, none⟩) es.length cE)  (.slice (some ⟨gL, 0, none⟩) ns.length cL))).lower (by omega), (FL.out.keep (by simp) (kept_put (by omega) rfl (.int .i64 k) (.int .i64 a) (.int .i64 b) (.int .i64 n) (.slice (some ⟨gE, 0, none⟩) es.length cE) (.slice (some ⟨gL, 0, none⟩) ns.length cL))).lower (by omega), fun e => hne e.symm, ?_⟩
  have HBw := HW.out.trans (HB.out.mono HW.out.size)
  exact (((((HBw.setCell (by simp only; omega) _).setCell (by simp only; omega) _).setCell (by simp only; omega) _).setCell (by simp only; omega) _).setCell (by simp only; omega) _).setCell (by simp only; omega) _
end Go.Proofs.Ytacinjbaebimhaa.Val
