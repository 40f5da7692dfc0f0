/- Rows of values of one's own; What stands after a part (spec.l4Do): the shape of the answer, and the cells on top; What stands after a part (spec.l4Do): one value; What stands after a part (spec.l4Do): a sum; What stands after a part (spec.l4Do): a comparison; What stands after a part (spec.l4Do): and; What stands after a part (spec.l4Do): or; What stands after a part (spec.l4Do): not; What stands after a part (spec.l4Do): none; What stands after a part, whatever it is (spec.l4Do). -/
import Derived.Test.YtacinjbaebimhaaGreatEStepKQ
import Derived.Test.YtacinjbaebimhaaGreatEMathAQ
import Derived.Test.YtacinjbaebimhaaGreatEVSQ
import Derived.Test.YtacinjbaebimhaaGreatEPVKQ
import Derived.Deep.RegionLaw
namespace Go.Proofs.YtacinjbaebimhaaGreat.Val
open Go.RowKit
set_option linter.unusedVariables false
theorem fl_slice {W : World} {B g n cap size : Nat} {ty : TypeId} {xs : List Value} (h : W.ownsRow B ty size (.slice (some ⟨g, 0, none⟩) n cap) n xs) : Fl W g 0 (some ⟨g, 0, none⟩) xs := by
  refine ⟨fun _ => rfl, fun j hj => ?_⟩
  rw [Nat.zero_add, h.cellAt j (by rw [← h.1]; exact hj), List.getElem?_eq_getElem hj]
theorem revV_split {vs : List VT} (t : Nat) : flatV vs.reverse = flatV (vs.drop t).reverse ++ flatV (vs.take t).reverse := by rw [← flatV_app, ← List.reverse_append, List.take_append_drop]
theorem revV_len {vs : List VT} {m t : Nat} (hl : vs.length = m + t) : (flatV (vs.drop t).reverse).length = m * 3 := by rw [flatV_len, List.length_reverse, List.length_drop, hl]; omega
theorem fl_tailV1 {W : World} {B g m t cap : Nat} {ty : TypeId} {vs : List VT} (hcm : ¬ cap = m) (h : W.ownsRow B ty 3 (.slice (some ⟨g, 0, none⟩) (m + t) cap) (m + t) (flatV vs.reverse)) (hl : vs.length = m + t) : Fl W g (m * 3) (some ⟨g, m * 3, none⟩) (flatV (vs.take t).reverse) := by
  have F := fl_slice h
  rw [revV_split t] at F
  have hm := revV_len hl
  refine ⟨fun _ => rfl, fun j hj => ?_⟩
  have := F.c (m * 3 + j) (by rw [List.length_append]; omega)
  rw [Nat.zero_add] at this
  rw [this, List.getElem_append_right (by omega)]
  simp only [hm, Nat.add_sub_cancel_left]
theorem fl_tailV0 {W : World} {B g m t : Nat} {ty : TypeId} {vs : List VT} (h : W.ownsRow B ty 3 (.slice (some ⟨g, 0, none⟩) (m + t) m) (m + t) (flatV vs.reverse)) (hl : vs.length = m + t) : Fl W g m (some ⟨g, 0, none⟩) (flatV (vs.take t).reverse) := by
  obtain ⟨-, -, hc, -⟩ := own_cap h
  have ht : t = 0 := by omega
  subst ht
  exact ⟨fun h0 => absurd h0 (by simp [flatV]), fun j hj => absurd hj (by simp [flatV])⟩
theorem own_dropV {W : World} {B g m t cap : Nat} {ty : TypeId} {vs : List VT} (h : W.ownsRow B ty 3 (.slice (some ⟨g, 0, none⟩) (m + t) cap) (m + t) (flatV vs.reverse)) (hl : vs.length = m + t) : W.ownsRow B ty 3 (.slice (some ⟨g, 0, none⟩) m cap) m (flatV (vs.drop t).reverse) := by
  have := own_take h (m := m) (by omega)
  rwa [revV_split t, List.take_append_of_le_length (by rw [revV_len hl]; omega), List.take_of_length_le (by rw [revV_len hl]; omega)] at this
theorem run_val {cs : List CT} {row : List VT} {ps : List PT} {k : Nat} {p : PT} {st st' : List Int} {vs : List VT} (hk : k < ps.length) (hp : ps[k] = p) (hv : runV row (ps.take k) [] = vs) (hs : stepK cs p st = some st') (hty : Typ vs st) (hf : fitB cs row = true) : runV row (ps.take (k + 1)) [] = stepV row p vs ∧ Typ (stepV row p vs) st' := by
  refine ⟨?_, step_typ hf hty hs⟩
  rw [List.take_succ_eq_append_getElem hk, runV_cat, hv, hp]; rfl
end Go.Proofs.YtacinjbaebimhaaGreat.Val
namespace Go.Proofs.YtacinjbaebimhaaGreat.Val
open Go.RowKit
set_option linter.unusedVariables false
def DoPost (us : List VT) (B : Nat) (w : World) (e : Ending) (w' : World) : Prop := ∃ (g cap : Nat), e = .returned (.slice (some ⟨g, 0, none⟩) us.length cap) ∧ Below B w w' ∧ w'.ownsRow B 54 3 (.slice (some ⟨g, 0, none⟩) us.length cap) us.length (flatV us.reverse)
theorem do_post {us : List VT} {B n : Nat} {w w' : World} {v : Value} {xs : List Value} (hb : Below B w w') (ho : w'.ownsRow B 54 3 v n xs) (hn : n = us.length) (h0 : 0 < n) (hx : xs = flatV us.reverse) : DoPost us B w (.returned v) w' := by
  subst hn hx
  rcases ho.2 with ⟨-, hz⟩ | ⟨g, cap, cur, rfl, -⟩
  · omega
  · exact ⟨g, cap, rfl, hb, ho⟩
theorem own_cellV {w : World} {B g cap n : Nat} {e : TypeId} {vs : List VT} (h : w.ownsRow B e 3 (.slice (some ⟨g, 0, none⟩) n cap) n (flatV vs)) (i : Nat) (v : VT) (hi : vs[i]? = some v) : w.cell? ⟨g, i * 3, none⟩ = some (.int .i64 v.1) ∧ w.cell? ⟨g, i * 3 + 1, none⟩ = some (.int .i64 v.2.1) ∧ w.cell? ⟨g, i * 3 + 2, none⟩ = some (.string v.2.2) := by
  obtain ⟨hl, rfl⟩ := List.getElem?_eq_some_iff.1 hi
  obtain ⟨-, -, c0, c1, c2⟩ := (fl_slice h).v i hl
  simp only [Nat.zero_add] at c0 c1 c2
  exact ⟨c0, c1, c2⟩
theorem own_top2 {w : World} {B g cap n : Nat} {e : TypeId} {a b : VT} {q : List VT} (h : w.ownsRow B e 3 (.slice (some ⟨g, 0, none⟩) n cap) n (flatV (a :: b :: q).reverse)) : (w.cell? ⟨g, q.length * 3, none⟩ = some (.int .i64 b.1) ∧ w.cell? ⟨g, q.length * 3 + 1, none⟩ = some (.int .i64 b.2.1) ∧ w.cell? ⟨g, q.length * 3 + 2, none⟩ = some (.string b.2.2)) ∧ w.cell? ⟨g, (q.length + 1) * 3, none⟩ = some (.int .i64 a.1) ∧ w.cell? ⟨g, (q.length + 1) * 3 + 1, none⟩ = some (.int .i64 a.2.1) ∧ w.cell? ⟨g, (q.length + 1) * 3 + 2, none⟩ = some (.string a.2.2) :=
  ⟨own_cellV h q.length b (by simp), own_cellV h (q.length + 1) a (by simp)⟩
theorem own_top1 {w : World} {B g cap n : Nat} {e : TypeId} {a : VT} {q : List VT} (h : w.ownsRow B e 3 (.slice (some ⟨g, 0, none⟩) n cap) n (flatV (a :: q).reverse)) : w.cell? ⟨g, q.length * 3, none⟩ = some (.int .i64 a.1) ∧ w.cell? ⟨g, q.length * 3 + 1, none⟩ = some (.int .i64 a.2.1) ∧ w.cell? ⟨g, q.length * 3 + 2, none⟩ = some (.string a.2.2) :=
  own_cellV h q.length a (by simp)
theorem own_fewV {w : World} {B g cap : Nat} {e : TypeId} {l x : List VT} (h : w.ownsRow B e 3 (.slice (some ⟨g, 0, none⟩) (x ++ l).length cap) (x ++ l).length (flatV (x ++ l).reverse)) : w.ownsRow B e 3 (.slice (some ⟨g, 0, none⟩) l.length cap) l.length (flatV l.reverse) := by
  have := own_take h (m := l.length) (by simp)
  rwa [List.reverse_append, flatV_app, List.take_append_of_le_length (by rw [flatV_len, List.length_reverse]; omega), List.take_of_length_le (by rw [flatV_len, List.length_reverse]; omega)] at this
theorem below_of_same {P : Program} {f : Nat} {args : Array Value} {w : World} {r : Ending} (h : Calls P f args w fun e w' => e = r ∧ w = w') : Calls P f args w fun e w' => e = r ∧ Below w.heap.size w w' := h.mono (by rintro e w' ⟨rfl, rfl⟩; exact ⟨rfl, Below.refl _ _⟩)
end Go.Proofs.YtacinjbaebimhaaGreat.Val
namespace Go.Proofs.YtacinjbaebimhaaGreat.Val
open Go.RowKit
set_option linter.unusedVariables false
set_option linter.unusedSimpArgs false
set_option maxRecDepth 20000
set_option maxHeartbeats 4000000 in
theorem l4Do1 (R : Option Addr) (rl rc g cap : Nat) (n k1 n1 : Int) (s1 : ByteArray) (q : List VT) (B : Nat) (w : World) (own : w.ownsRow B 54 3 (.slice (some ⟨g, 0, none⟩) q.length cap) q.length (flatV q.reverse)) (hB : B ≤ w.heap.size) (hst : q.length ≤ 100) : Calls Tryz.prog 85 #[.slice R rl rc, .slice (some ⟨g, 0, none⟩) q.length cap, .agg #[.int .i64 1, .int .i64 n, .int .i64 k1, .int .i64 n1, .string s1]] w (DoPost ((k1, n1, s1) :: q) B w) := by
  have OQ := Lib.hid own
  obtain ⟨hBg, hg, hc1, hc2⟩ := own_cap own
  clear own
  have hgn : ¬ (w.heap.size = g) := by omega
  have hg1 : g < w.heap.size + 1 := by omega
  obtain ⟨i0, hi, iz0, iz1, iz2⟩ := info_parts infoV
  go_enter Tryz.func85, Tryz.ntmps85
  go_wp2_with (at_builtin; refine wpList_append_own _ rfl (.tmp 14) (.tmp 17) 50 rfl B 54 i0 (.agg #[.int .i64 0, .int .i64 0, .string ⟨#[]⟩]) 3 32 Tryz.underlying50 hi iz0 iz1 iz2 rfl (by decide) (.slice (some ⟨g, 0, none⟩) q.length cap) q.length (flatV q.reverse) rfl (by repeat (with_reducible first | exact OQ.out | apply World.ownsRow.alloc | apply own_drew)) _ 1 1 [.int .i64 k1, .int .i64 n1, .string s1] rfl rfl (news_new (by first | rfl | simp)) (by simp [Value.oneCell']) (by unfold maxLen; omega) (by omega) (by skip; first | omega | (simp; done) | (simp; omega)) ?_; intro v2 w2 hown2 hgr2 _; have OWN2 := Lib.hid hown2; have HB2 := Lib.hid (Below.grown (B := B) (a := w) (by repeat (with_reducible first | exact Below.refl _ _ | refine Below.alloc ?_ (by first | omega | (simp; done) | (simp; omega)) _ | apply Below.drew)) hgr2 (by skip; first | omega | (simp; done) | (simp; omega)) (fun k hk => (OQ.out.lt k hk).1)); clear hown2 hgr2)
  all_goals (go_ret; refine do_post HB2.out OWN2.out rfl (by simp) ?_; simp [flatV_app, flatV])
set_option maxHeartbeats 4000000 in
theorem l4Do2 (R : Option Addr) (gr orr rc g cap N : Nat) (vk vn : Int) (s : ByteArray) (row q : List VT) (B : Nat) (w : World) (hR : Fl w gr orr R (flatV row)) (hN : N < row.length) (hl : row.length ≤ 2000000) (own : w.ownsRow B 54 3 (.slice (some ⟨g, 0, none⟩) q.length cap) q.length (flatV q.reverse)) (hB : B ≤ w.heap.size) (hst : q.length ≤ 100) : Calls Tryz.prog 85 #[.slice R row.length rc, .slice (some ⟨g, 0, none⟩) q.length cap, .agg #[.int .i64 2, .int .i64 N, .int .i64 vk, .int .i64 vn, .string s]] w (DoPost (row[N] :: q) B w) := by
  obtain ⟨rfl, hgr, c0, c1, c2⟩ := hR.v N hN
  clear hR
  obtain ⟨r, hr⟩ : ∃ r, row[N] = r := ⟨_, rfl⟩
  rw [hr] at c0 c1 c2 ⊢
  clear hr
  obtain ⟨k1, n1, s1⟩ := r
  simp only at c0 c1 c2
  have i0' : (0 : Int) ≤ (N : Int) := by omega
  have i1' : (N : Int) < (row.length : Int) := by omega
  have OQ := Lib.hid own
  obtain ⟨hBg, hg, hc1, hc2⟩ := own_cap own
  clear own
  have hgn : ¬ (w.heap.size = g) := by omega
  have hg1 : g < w.heap.size + 1 := by omega
  obtain ⟨i0, hi, iz0, iz1, iz2⟩ := info_parts infoV
  go_enter Tryz.func85, Tryz.ntmps85
  go_wp2_with (at_builtin; refine wpList_append_own _ rfl (.tmp 21) (.tmp 27) 50 rfl B 54 i0 (.agg #[.int .i64 0, .int .i64 0, .string ⟨#[]⟩]) 3 32 Tryz.underlying50 hi iz0 iz1 iz2 rfl (by decide) (.slice (some ⟨g, 0, none⟩) q.length cap) q.length (flatV q.reverse) rfl (by repeat (with_reducible first | exact OQ.out | apply World.ownsRow.alloc | apply own_drew)) _ 1 1 [.int .i64 k1, .int .i64 n1, .string s1] rfl rfl (news_new (by first | rfl | simp)) (by simp [Value.oneCell']) (by unfold maxLen; omega) (by omega) (by skip; first | omega | (simp; done) | (simp; omega)) ?_; intro v2 w2 hown2 hgr2 _; have OWN2 := Lib.hid hown2; have HB2 := Lib.hid (Below.grown (B := B) (a := w) (by repeat (with_reducible first | exact Below.refl _ _ | refine Below.alloc ?_ (by first | omega | (simp; done) | (simp; omega)) _ | apply Below.drew)) hgr2 (by skip; first | omega | (simp; done) | (simp; omega)) (fun k hk => (OQ.out.lt k hk).1)); clear hown2 hgr2)
  all_goals (go_ret; refine do_post HB2.out OWN2.out rfl (by simp) ?_; simp [flatV_app, flatV])
end Go.Proofs.YtacinjbaebimhaaGreat.Val
namespace Go.Proofs.YtacinjbaebimhaaGreat.Val
open Go.RowKit
set_option linter.unusedVariables false
set_option linter.unusedSimpArgs false
set_option maxRecDepth 20000
theorem l4SumEnters (vs : Array Value) (w : World) : (callFunc 98 vs).run Tryz.prog w = .ok (.enter 98 vs) w := by
  go_simp
set_option maxHeartbeats 8000000 in
theorem l4Do3 (R : Option Addr) (rl rc g cap : Nat) (n vk vn k1 n1 k2 n2 : Int) (s s1 s2 : ByteArray) (q : List VT) (B : Nat) (w : World) (own : w.ownsRow B 54 3 (.slice (some ⟨g, 0, none⟩) (q.length + 1 + 1) cap) (q.length + 1 + 1) (flatV ((k2, n2, s2) :: (k1, n1, s1) :: q).reverse)) (hB : B ≤ w.heap.size) (hst : q.length ≤ 100) (h1 : -9999 ≤ n1) (h2 : n1 ≤ 9999) (h3 : -9999 ≤ n2) (h4 : n2 ≤ 9999) : Calls Tryz.prog 85 #[.slice R rl rc, .slice (some ⟨g, 0, none⟩) (q.length + 1 + 1) cap, .agg #[.int .i64 3, .int .i64 n, .int .i64 vk, .int .i64 vn, .string s]] w (DoPost (sumV (k1, n1, s1) (k2, n2, s2) :: q) B w) := by
  obtain ⟨⟨b0, b1, b2⟩, a0, a1, a2⟩ := own_top2 own
  simp only at a0 a1 a2 b0 b1 b2
  have OQ := Lib.hid (own_fewV (x := [(k2, n2, s2), (k1, n1, s1)]) (l := q) own)
  obtain ⟨hBg, hg, hc1, hc2⟩ := own_cap own
  clear own
  have hgn : ¬ (w.heap.size = g) := by omega
  have hg1 : g < w.heap.size + 1 := by omega
  obtain ⟨i0, hi, iz0, iz1, iz2⟩ := info_parts infoV
  have e2 : IntKind.i64.wrap ((q.length : Int) + 1 + 1 - 2) = q.length := by rw [show (q.length : Int) + 1 + 1 - 2 = q.length by omega]; exact IntWalk.i64_in _ (by omega)
  have e1 : IntKind.i64.wrap ((q.length : Int) + 1) = (q.length : Int) + 1 := IntWalk.i64_in _ (by omega)
  have e0 : IntKind.i64.wrap (q.length : Int) = q.length := IntWalk.i64_in _ (by omega)
  have ec : (q.length : Int) ≤ (cap : Int) := by omega
  have ep : (0 : Int) ≤ (q.length : Int) := by omega
  have eq1 : (q.length : Int) < (q.length : Int) + 1 := by omega
  have eq2 : (q.length : Int) < (q.length : Int) + 1 + 1 := by omega
  have eq3 : (0 : Int) ≤ (q.length : Int) + 1 := by omega
  have eq4 : (q.length : Int) + 1 < (q.length : Int) + 1 + 1 := by omega
  have ek : ¬ (cap = q.length) := by omega
  have CS := Lib.hid (fun w => sumS k1 n1 k2 n2 s1 s2 w h1 h2 h3 h4)
  obtain ⟨r, hr⟩ : ∃ r, sumV (k1, n1, s1) (k2, n2, s2) = r := ⟨_, rfl⟩
  rw [hr] at CS ⊢
  clear hr
  obtain ⟨kr, nr, sr⟩ := r
  unfold aggV at CS
  simp only at CS
  go_enter Tryz.func85, Tryz.ntmps85
  go_upto_region 8 with (fail)
  go_region_law (first
    | ((fail_if_success (have _ := S1)); refine step_call rfl 98 _ _ rfl l4SumEnters #[.agg #[.int .i64 k1, .int .i64 n1, .string s1], .agg #[.int .i64 k2, .int .i64 n2, .string s2]] rfl (CS.out _) ?_; rintro e w1 ⟨rfl, hb1⟩; have OWn := Lib.hid (own_below (by repeat (with_reducible first | exact OQ.out | apply World.ownsRow.alloc | apply own_drew)) hb1); have HBn : Hid (Below B w w1) := Below.trans (by repeat (with_reducible first | exact Below.refl _ _ | refine Below.alloc ?_ (by first | omega | (simp; done) | (simp; omega)) _ | apply Below.drew)) (Below.mono hb1 (by first | omega | (simp; omega))); (try clear HB); have HB := HBn; clear HBn; clear OQ; have OQ := OWn; clear OWn; obtain ⟨hc1, hf1⟩ := bcell hb1; (try simp only [World.size_drew, World.cell?_drew, World.frozen?_drew] at hc1 hf1); have hz1 := hb1.size; (try simp at hz1); clear hb1; have S1 := True.intro; refine ⟨_, rfl, ?_⟩)
    | (refine step_own rfl (.tmp 34) (.tmp 46) 50 rfl B 54 i0 (.agg #[.int .i64 0, .int .i64 0, .string ⟨#[]⟩]) 3 32 Tryz.underlying50 hi iz0 iz1 iz2 rfl (by decide) (.slice (some ⟨g, 0, none⟩) q.length cap) q.length (flatV q.reverse) rfl (by repeat (with_reducible first | exact OQ.out | apply World.ownsRow.alloc | apply own_drew)) _ 1 1 [.int .i64 kr, .int .i64 nr, .string sr] rfl rfl (news_new (by first | rfl | simp)) (by simp [Value.oneCell']) (by unfold maxLen; omega) (by omega) (by have := HB.out.size; first | omega | (simp; done) | (simp; omega)) ?_; intro v2 w2 hown2 hgr2 _; have OWN2 := Lib.hid hown2; have HB2 := Lib.hid (Below.grown (B := B) (a := w) (by repeat (with_reducible first | exact Below.refl _ _ | exact HB.out | refine Below.alloc ?_ (by first | omega | (simp; done) | (simp; omega)) _ | apply Below.drew)) hgr2 (by have := HB.out.size; first | omega | (simp; done) | (simp; omega)) (fun k hk => (OQ.out.lt k hk).1)); clear hown2 hgr2))
  all_goals (try go_wp2_with (fail))
  all_goals (go_ret; refine do_post HB2.out OWN2.out rfl (by simp) ?_; simp [flatV_app, flatV])
end Go.Proofs.YtacinjbaebimhaaGreat.Val
namespace Go.Proofs.YtacinjbaebimhaaGreat.Val
open Go.RowKit
set_option linter.unusedVariables false
set_option linter.unusedSimpArgs false
set_option maxRecDepth 20000
theorem compareEnters (vs : Array Value) (w : World) : (callFunc 99 vs).run Tryz.prog w = .ok (.enter 99 vs) w := by
  go_simp
theorem valueOfEnters4 (vs : Array Value) (w : World) : (callFunc 72 vs).run Tryz.prog w = .ok (.enter 72 vs) w := by
  go_simp
set_option maxHeartbeats 8000000 in
theorem l4Do4 (R : Option Addr) (rl rc g cap : Nat) (n vk vn k1 n1 k2 n2 : Int) (s s1 s2 : ByteArray) (q : List VT) (B : Nat) (w : World) (own : w.ownsRow B 54 3 (.slice (some ⟨g, 0, none⟩) (q.length + 1 + 1) cap) (q.length + 1 + 1) (flatV ((k2, n2, s2) :: (k1, n1, s1) :: q).reverse)) (hB : B ≤ w.heap.size) (hst : q.length ≤ 100) (hs1 : s1.size ≤ maxLen) (hs2 : s2.size ≤ maxLen) : Calls Tryz.prog 85 #[.slice R rl rc, .slice (some ⟨g, 0, none⟩) (q.length + 1 + 1) cap, .agg #[.int .i64 4, .int .i64 n, .int .i64 vk, .int .i64 vn, .string s]] w (DoPost (ofT (compI n k1 n1 s1 k2 n2 s2) :: q) B w) := by
  obtain ⟨⟨b0, b1, b2⟩, a0, a1, a2⟩ := own_top2 own
  simp only at a0 a1 a2 b0 b1 b2
  have OQ := Lib.hid (own_fewV (x := [(k2, n2, s2), (k1, n1, s1)]) (l := q) own)
  obtain ⟨hBg, hg, hc1, hc2⟩ := own_cap own
  clear own
  have hgn : ¬ (w.heap.size = g) := by omega
  have hg1 : g < w.heap.size + 1 := by omega
  obtain ⟨i0, hi, iz0, iz1, iz2⟩ := info_parts infoV
  have e2 : IntKind.i64.wrap ((q.length : Int) + 1 + 1 - 2) = q.length := by rw [show (q.length : Int) + 1 + 1 - 2 = q.length by omega]; exact IntWalk.i64_in _ (by omega)
  have e1 : IntKind.i64.wrap ((q.length : Int) + 1) = (q.length : Int) + 1 := IntWalk.i64_in _ (by omega)
  have e0 : IntKind.i64.wrap (q.length : Int) = q.length := IntWalk.i64_in _ (by omega)
  have ec : (q.length : Int) ≤ (cap : Int) := by omega
  have ep : (0 : Int) ≤ (q.length : Int) := by omega
  have eq1 : (q.length : Int) < (q.length : Int) + 1 := by omega
  have eq2 : (q.length : Int) < (q.length : Int) + 1 + 1 := by omega
  have eq3 : (0 : Int) ≤ (q.length : Int) + 1 := by omega
  have eq4 : (q.length : Int) + 1 < (q.length : Int) + 1 + 1 := by omega
  have ek : ¬ (cap = q.length) := by omega
  have CC := Lib.hid (fun w => compareS n k1 n1 k2 n2 s1 s2 w hs1 hs2)
  obtain ⟨X, hX⟩ : ∃ x, compI n k1 n1 s1 k2 n2 s2 = x := ⟨_, rfl⟩
  rw [hX] at CC ⊢
  clear hX
  have CV := Lib.hid (fun w => valueOfS X w)
  rw [vO_of] at CV
  obtain ⟨r, hr⟩ : ∃ r, ofT X = r := ⟨_, rfl⟩
  rw [hr] at CV ⊢
  clear hr
  obtain ⟨kr, nr, sr⟩ := r
  unfold aggV at CV
  simp only at CV
  go_enter Tryz.func85, Tryz.ntmps85
  go_upto_region 8 with (fail)
  go_region_law (first
    | ((fail_if_success (have _ := S1)); refine step_call rfl 99 _ _ rfl compareEnters #[.int .i64 n, .agg #[.int .i64 k1, .int .i64 n1, .string s1], .agg #[.int .i64 k2, .int .i64 n2, .string s2]] rfl (CC.out _) ?_; rintro e w1 ⟨rfl, hb1⟩; have OWn := Lib.hid (own_below (by repeat (with_reducible first | exact OQ.out | apply World.ownsRow.alloc | apply own_drew)) hb1); have HBn : Hid (Below B w w1) := Below.trans (by repeat (with_reducible first | exact Below.refl _ _ | refine Below.alloc ?_ (by first | omega | (simp; done) | (simp; omega)) _ | apply Below.drew)) (Below.mono hb1 (by first | omega | (simp; omega))); (try clear HB); have HB := HBn; clear HBn; clear OQ; have OQ := OWn; clear OWn; obtain ⟨hc1, hf1⟩ := bcell hb1; (try simp only [World.size_drew, World.cell?_drew, World.frozen?_drew] at hc1 hf1); have hz1 := hb1.size; (try simp at hz1); clear hb1; have S1 := True.intro; refine ⟨_, rfl, ?_⟩)
    | (have _ := S1; (fail_if_success (have _ := S2)); refine step_call rfl 72 _ _ rfl valueOfEnters4 #[.int .i64 X] rfl (CV.out _) ?_; rintro e w1 ⟨rfl, hb1⟩; have OWn := Lib.hid (own_below (by repeat (with_reducible first | exact OQ.out | apply World.ownsRow.alloc | apply own_drew)) hb1); have HBn : Hid (Below B w w1) := Below.trans (by repeat (with_reducible first | exact Below.refl _ _ | exact HB.out | refine Below.alloc ?_ (by first | omega | (simp; done) | (simp; omega)) _ | apply Below.drew)) (Below.mono hb1 (by have := HB.out.size; first | omega | (simp; omega))); (try clear HB); have HB := HBn; clear HBn; clear OQ; have OQ := OWn; clear OWn; obtain ⟨hc1, hf1⟩ := bcell hb1; (try simp only [World.size_drew, World.cell?_drew, World.frozen?_drew] at hc1 hf1); have hz1 := hb1.size; (try simp at hz1); clear hb1; have S2 := True.intro; refine ⟨_, rfl, ?_⟩)
    | (refine step_own rfl (.tmp 53) (.tmp 68) 50 rfl B 54 i0 (.agg #[.int .i64 0, .int .i64 0, .string ⟨#[]⟩]) 3 32 Tryz.underlying50 hi iz0 iz1 iz2 rfl (by decide) (.slice (some ⟨g, 0, none⟩) q.length cap) q.length (flatV q.reverse) rfl (by repeat (with_reducible first | exact OQ.out | apply World.ownsRow.alloc | apply own_drew)) _ 1 1 [.int .i64 kr, .int .i64 nr, .string sr] rfl rfl (news_new (by first | rfl | simp)) (by simp [Value.oneCell']) (by unfold maxLen; omega) (by omega) (by have := HB.out.size; first | omega | (simp; done) | (simp; omega)) ?_; intro v2 w2 hown2 hgr2 _; have OWN2 := Lib.hid hown2; have HB2 := Lib.hid (Below.grown (B := B) (a := w) (by repeat (with_reducible first | exact Below.refl _ _ | exact HB.out | refine Below.alloc ?_ (by first | omega | (simp; done) | (simp; omega)) _ | apply Below.drew)) hgr2 (by have := HB.out.size; first | omega | (simp; done) | (simp; omega)) (fun k hk => (OQ.out.lt k hk).1)); clear hown2 hgr2))
  all_goals (try go_wp2_with (fail))
  all_goals (go_ret; refine do_post HB2.out OWN2.out rfl (by simp) ?_; simp [flatV_app, flatV])
end Go.Proofs.YtacinjbaebimhaaGreat.Val
namespace Go.Proofs.YtacinjbaebimhaaGreat.Val
open Go.RowKit
set_option linter.unusedVariables false
set_option linter.unusedSimpArgs false
set_option maxRecDepth 20000
theorem truthOfEnters5 (vs : Array Value) (w : World) : (callFunc 101 vs).run Tryz.prog w = .ok (.enter 101 vs) w := by
  go_simp
theorem andOfSEnters (vs : Array Value) (w : World) : (callFunc 100 vs).run Tryz.prog w = .ok (.enter 100 vs) w := by
  go_simp
theorem valueOfEnters5 (vs : Array Value) (w : World) : (callFunc 72 vs).run Tryz.prog w = .ok (.enter 72 vs) w := by
  go_simp
set_option maxHeartbeats 8000000 in
theorem l4Do5 (R : Option Addr) (rl rc g cap : Nat) (n vk vn k1 n1 k2 n2 : Int) (s s1 s2 : ByteArray) (q : List VT) (B : Nat) (w : World) (own : w.ownsRow B 54 3 (.slice (some ⟨g, 0, none⟩) (q.length + 1 + 1) cap) (q.length + 1 + 1) (flatV ((k2, n2, s2) :: (k1, n1, s1) :: q).reverse)) (hB : B ≤ w.heap.size) (hst : q.length ≤ 100) (hs1 : s1.size ≤ maxLen) (hs2 : s2.size ≤ maxLen) : Calls Tryz.prog 85 #[.slice R rl rc, .slice (some ⟨g, 0, none⟩) (q.length + 1 + 1) cap, .agg #[.int .i64 5, .int .i64 n, .int .i64 vk, .int .i64 vn, .string s]] w (DoPost (ofT (andI (toI k1 n1 s1) (toI k2 n2 s2)) :: q) B w) := by
  obtain ⟨⟨b0, b1, b2⟩, a0, a1, a2⟩ := own_top2 own
  simp only at a0 a1 a2 b0 b1 b2
  have OQ := Lib.hid (own_fewV (x := [(k2, n2, s2), (k1, n1, s1)]) (l := q) own)
  obtain ⟨hBg, hg, hc1, hc2⟩ := own_cap own
  clear own
  have hgn : ¬ (w.heap.size = g) := by omega
  have hg1 : g < w.heap.size + 1 := by omega
  obtain ⟨i0, hi, iz0, iz1, iz2⟩ := info_parts infoV
  have e2 : IntKind.i64.wrap ((q.length : Int) + 1 + 1 - 2) = q.length := by rw [show (q.length : Int) + 1 + 1 - 2 = q.length by omega]; exact IntWalk.i64_in _ (by omega)
  have e1 : IntKind.i64.wrap ((q.length : Int) + 1) = (q.length : Int) + 1 := IntWalk.i64_in _ (by omega)
  have e0 : IntKind.i64.wrap (q.length : Int) = q.length := IntWalk.i64_in _ (by omega)
  have ec : (q.length : Int) ≤ (cap : Int) := by omega
  have ep : (0 : Int) ≤ (q.length : Int) := by omega
  have eq1 : (q.length : Int) < (q.length : Int) + 1 := by omega
  have eq2 : (q.length : Int) < (q.length : Int) + 1 + 1 := by omega
  have eq3 : (0 : Int) ≤ (q.length : Int) + 1 := by omega
  have eq4 : (q.length : Int) + 1 < (q.length : Int) + 1 + 1 := by omega
  have ek : ¬ (cap = q.length) := by omega
  have C1 := Lib.hid (fun w => truthOfS k1 n1 s1 w hs1)
  have C2 := Lib.hid (fun w => truthOfS k2 n2 s2 w hs2)
  obtain ⟨X1, hX1⟩ : ∃ x, toI k1 n1 s1 = x := ⟨_, rfl⟩
  obtain ⟨X2, hX2⟩ : ∃ x, toI k2 n2 s2 = x := ⟨_, rfl⟩
  rw [hX1] at C1 ⊢
  rw [hX2] at C2 ⊢
  clear hX1 hX2
  have CA := Lib.hid (fun w => andOfS X1 X2 w)
  obtain ⟨X, hX⟩ : ∃ x, andI X1 X2 = x := ⟨_, rfl⟩
  rw [hX] at CA ⊢
  clear hX
  have CV := Lib.hid (fun w => valueOfS X w)
  rw [vO_of] at CV
  obtain ⟨r, hr⟩ : ∃ r, ofT X = r := ⟨_, rfl⟩
  rw [hr] at CV ⊢
  clear hr
  obtain ⟨kr, nr, sr⟩ := r
  unfold aggV at CV
  simp only at CV
  go_enter Tryz.func85, Tryz.ntmps85
  go_upto_region 8 with (fail)
  go_region_law (first
    | ((fail_if_success (have _ := S1)); refine step_call rfl 101 _ _ rfl truthOfEnters5 #[.agg #[.int .i64 k1, .int .i64 n1, .string s1]] rfl (C1.out _) ?_; rintro e w1 ⟨rfl, hb1⟩; have OWn := Lib.hid (own_below (by repeat (with_reducible first | exact OQ.out | apply World.ownsRow.alloc | apply own_drew)) hb1); have HBn : Hid (Below B w w1) := Below.trans (by repeat (with_reducible first | exact Below.refl _ _ | refine Below.alloc ?_ (by first | omega | (simp; done) | (simp; omega)) _ | apply Below.drew)) (Below.mono hb1 (by first | omega | (simp; omega))); (try clear HB); have HB := HBn; clear HBn; clear OQ; have OQ := OWn; clear OWn; obtain ⟨hc1, hf1⟩ := bcell hb1; (try simp only [World.size_drew, World.cell?_drew, World.frozen?_drew] at hc1 hf1); have hz1 := hb1.size; (try simp at hz1); clear hb1; have S1 := True.intro; refine ⟨_, rfl, ?_⟩)
    | (have _ := S1; (fail_if_success (have _ := S2)); refine step_call rfl 101 _ _ rfl truthOfEnters5 #[.agg #[.int .i64 k2, .int .i64 n2, .string s2]] rfl (C2.out _) ?_; rintro e w1 ⟨rfl, hb1⟩; have OWn := Lib.hid (own_below (by repeat (with_reducible first | exact OQ.out | apply World.ownsRow.alloc | apply own_drew)) hb1); have HBn : Hid (Below B w w1) := Below.trans (by repeat (with_reducible first | exact Below.refl _ _ | exact HB.out | refine Below.alloc ?_ (by first | omega | (simp; done) | (simp; omega)) _ | apply Below.drew)) (Below.mono hb1 (by have := HB.out.size; first | omega | (simp; omega))); (try clear HB); have HB := HBn; clear HBn; clear OQ; have OQ := OWn; clear OWn; obtain ⟨hc1, hf1⟩ := bcell hb1; (try simp only [World.size_drew, World.cell?_drew, World.frozen?_drew] at hc1 hf1); have hz1 := hb1.size; (try simp at hz1); clear hb1; have S2 := True.intro; refine ⟨_, rfl, ?_⟩)
    | (have _ := S2; (fail_if_success (have _ := S3)); refine step_call rfl 100 _ _ rfl andOfSEnters #[.int .i64 X1, .int .i64 X2] rfl (CA.out _) ?_; rintro e w1 ⟨rfl, hb1⟩; have OWn := Lib.hid (own_below (by repeat (with_reducible first | exact OQ.out | apply World.ownsRow.alloc | apply own_drew)) hb1); have HBn : Hid (Below B w w1) := Below.trans (by repeat (with_reducible first | exact Below.refl _ _ | exact HB.out | refine Below.alloc ?_ (by first | omega | (simp; done) | (simp; omega)) _ | apply Below.drew)) (Below.mono hb1 (by have := HB.out.size; first | omega | (simp; omega))); (try clear HB); have HB := HBn; clear HBn; clear OQ; have OQ := OWn; clear OWn; obtain ⟨hc1, hf1⟩ := bcell hb1; (try simp only [World.size_drew, World.cell?_drew, World.frozen?_drew] at hc1 hf1); have hz1 := hb1.size; (try simp at hz1); clear hb1; have S3 := True.intro; refine ⟨_, rfl, ?_⟩)
    | (have _ := S3; (fail_if_success (have _ := S4)); refine step_call rfl 72 _ _ rfl valueOfEnters5 #[.int .i64 X] rfl (CV.out _) ?_; rintro e w1 ⟨rfl, hb1⟩; have OWn := Lib.hid (own_below (by repeat (with_reducible first | exact OQ.out | apply World.ownsRow.alloc | apply own_drew)) hb1); have HBn : Hid (Below B w w1) := Below.trans (by repeat (with_reducible first | exact Below.refl _ _ | exact HB.out | refine Below.alloc ?_ (by first | omega | (simp; done) | (simp; omega)) _ | apply Below.drew)) (Below.mono hb1 (by have := HB.out.size; first | omega | (simp; omega))); (try clear HB); have HB := HBn; clear HBn; clear OQ; have OQ := OWn; clear OWn; obtain ⟨hc1, hf1⟩ := bcell hb1; (try simp only [World.size_drew, World.cell?_drew, World.frozen?_drew] at hc1 hf1); have hz1 := hb1.size; (try simp at hz1); clear hb1; have S4 := True.intro; refine ⟨_, rfl, ?_⟩)
    | (refine step_own rfl (.tmp 75) (.tmp 90) 50 rfl B 54 i0 (.agg #[.int .i64 0, .int .i64 0, .string ⟨#[]⟩]) 3 32 Tryz.underlying50 hi iz0 iz1 iz2 rfl (by decide) (.slice (some ⟨g, 0, none⟩) q.length cap) q.length (flatV q.reverse) rfl (by repeat (with_reducible first | exact OQ.out | apply World.ownsRow.alloc | apply own_drew)) _ 1 1 [.int .i64 kr, .int .i64 nr, .string sr] rfl rfl (news_new (by first | rfl | simp)) (by simp [Value.oneCell']) (by unfold maxLen; omega) (by omega) (by have := HB.out.size; first | omega | (simp; done) | (simp; omega)) ?_; intro v2 w2 hown2 hgr2 _; have OWN2 := Lib.hid hown2; have HB2 := Lib.hid (Below.grown (B := B) (a := w) (by repeat (with_reducible first | exact Below.refl _ _ | exact HB.out | refine Below.alloc ?_ (by first | omega | (simp; done) | (simp; omega)) _ | apply Below.drew)) hgr2 (by have := HB.out.size; first | omega | (simp; done) | (simp; omega)) (fun k hk => (OQ.out.lt k hk).1)); clear hown2 hgr2))
  all_goals (try go_wp2_with (fail))
  all_goals (go_ret; refine do_post HB2.out OWN2.out rfl (by simp) ?_; simp [flatV_app, flatV])
end Go.Proofs.YtacinjbaebimhaaGreat.Val
namespace Go.Proofs.YtacinjbaebimhaaGreat.Val
open Go.RowKit
set_option linter.unusedVariables false
set_option linter.unusedSimpArgs false
set_option maxRecDepth 20000
theorem truthOfEnters6 (vs : Array Value) (w : World) : (callFunc 101 vs).run Tryz.prog w = .ok (.enter 101 vs) w := by
  go_simp
theorem orOfSEnters (vs : Array Value) (w : World) : (callFunc 102 vs).run Tryz.prog w = .ok (.enter 102 vs) w := by
  go_simp
theorem valueOfEnters6 (vs : Array Value) (w : World) : (callFunc 72 vs).run Tryz.prog w = .ok (.enter 72 vs) w := by
  go_simp
set_option maxHeartbeats 8000000 in
theorem l4Do6 (R : Option Addr) (rl rc g cap : Nat) (n vk vn k1 n1 k2 n2 : Int) (s s1 s2 : ByteArray) (q : List VT) (B : Nat) (w : World) (own : w.ownsRow B 54 3 (.slice (some ⟨g, 0, none⟩) (q.length + 1 + 1) cap) (q.length + 1 + 1) (flatV ((k2, n2, s2) :: (k1, n1, s1) :: q).reverse)) (hB : B ≤ w.heap.size) (hst : q.length ≤ 100) (hs1 : s1.size ≤ maxLen) (hs2 : s2.size ≤ maxLen) : Calls Tryz.prog 85 #[.slice R rl rc, .slice (some ⟨g, 0, none⟩) (q.length + 1 + 1) cap, .agg #[.int .i64 6, .int .i64 n, .int .i64 vk, .int .i64 vn, .string s]] w (DoPost (ofT (orI (toI k1 n1 s1) (toI k2 n2 s2)) :: q) B w) := by
  obtain ⟨⟨b0, b1, b2⟩, a0, a1, a2⟩ := own_top2 own
  simp only at a0 a1 a2 b0 b1 b2
  have OQ := Lib.hid (own_fewV (x := [(k2, n2, s2), (k1, n1, s1)]) (l := q) own)
  obtain ⟨hBg, hg, hc1, hc2⟩ := own_cap own
  clear own
  have hgn : ¬ (w.heap.size = g) := by omega
  have hg1 : g < w.heap.size + 1 := by omega
  obtain ⟨i0, hi, iz0, iz1, iz2⟩ := info_parts infoV
  have e2 : IntKind.i64.wrap ((q.length : Int) + 1 + 1 - 2) = q.length := by rw [show (q.length : Int) + 1 + 1 - 2 = q.length by omega]; exact IntWalk.i64_in _ (by omega)
  have e1 : IntKind.i64.wrap ((q.length : Int) + 1) = (q.length : Int) + 1 := IntWalk.i64_in _ (by omega)
  have e0 : IntKind.i64.wrap (q.length : Int) = q.length := IntWalk.i64_in _ (by omega)
  have ec : (q.length : Int) ≤ (cap : Int) := by omega
  have ep : (0 : Int) ≤ (q.length : Int) := by omega
  have eq1 : (q.length : Int) < (q.length : Int) + 1 := by omega
  have eq2 : (q.length : Int) < (q.length : Int) + 1 + 1 := by omega
  have eq3 : (0 : Int) ≤ (q.length : Int) + 1 := by omega
  have eq4 : (q.length : Int) + 1 < (q.length : Int) + 1 + 1 := by omega
  have ek : ¬ (cap = q.length) := by omega
  have C1 := Lib.hid (fun w => truthOfS k1 n1 s1 w hs1)
  have C2 := Lib.hid (fun w => truthOfS k2 n2 s2 w hs2)
  obtain ⟨X1, hX1⟩ : ∃ x, toI k1 n1 s1 = x := ⟨_, rfl⟩
  obtain ⟨X2, hX2⟩ : ∃ x, toI k2 n2 s2 = x := ⟨_, rfl⟩
  rw [hX1] at C1 ⊢
  rw [hX2] at C2 ⊢
  clear hX1 hX2
  have CA := Lib.hid (fun w => orOfS X1 X2 w)
  obtain ⟨X, hX⟩ : ∃ x, orI X1 X2 = x := ⟨_, rfl⟩
  rw [hX] at CA ⊢
  clear hX
  have CV := Lib.hid (fun w => valueOfS X w)
  rw [vO_of] at CV
  obtain ⟨r, hr⟩ : ∃ r, ofT X = r := ⟨_, rfl⟩
  rw [hr] at CV ⊢
  clear hr
  obtain ⟨kr, nr, sr⟩ := r
  unfold aggV at CV
  simp only at CV
  go_enter Tryz.func85, Tryz.ntmps85
  go_upto_region 8 with (fail)
  go_region_law (first
    | ((fail_if_success (have _ := S1)); refine step_call rfl 101 _ _ rfl truthOfEnters6 #[.agg #[.int .i64 k1, .int .i64 n1, .string s1]] rfl (C1.out _) ?_; rintro e w1 ⟨rfl, hb1⟩; have OWn := Lib.hid (own_below (by repeat (with_reducible first | exact OQ.out | apply World.ownsRow.alloc | apply own_drew)) hb1); have HBn : Hid (Below B w w1) := Below.trans (by repeat (with_reducible first | exact Below.refl _ _ | refine Below.alloc ?_ (by first | omega | (simp; done) | (simp; omega)) _ | apply Below.drew)) (Below.mono hb1 (by first | omega | (simp; omega))); (try clear HB); have HB := HBn; clear HBn; clear OQ; have OQ := OWn; clear OWn; obtain ⟨hc1, hf1⟩ := bcell hb1; (try simp only [World.size_drew, World.cell?_drew, World.frozen?_drew] at hc1 hf1); have hz1 := hb1.size; (try simp at hz1); clear hb1; have S1 := True.intro; refine ⟨_, rfl, ?_⟩)
    | (have _ := S1; (fail_if_success (have _ := S2)); refine step_call rfl 101 _ _ rfl truthOfEnters6 #[.agg #[.int .i64 k2, .int .i64 n2, .string s2]] rfl (C2.out _) ?_; rintro e w1 ⟨rfl, hb1⟩; have OWn := Lib.hid (own_below (by repeat (with_reducible first | exact OQ.out | apply World.ownsRow.alloc | apply own_drew)) hb1); have HBn : Hid (Below B w w1) := Below.trans (by repeat (with_reducible first | exact Below.refl _ _ | exact HB.out | refine Below.alloc ?_ (by first | omega | (simp; done) | (simp; omega)) _ | apply Below.drew)) (Below.mono hb1 (by have := HB.out.size; first | omega | (simp; omega))); (try clear HB); have HB := HBn; clear HBn; clear OQ; have OQ := OWn; clear OWn; obtain ⟨hc1, hf1⟩ := bcell hb1; (try simp only [World.size_drew, World.cell?_drew, World.frozen?_drew] at hc1 hf1); have hz1 := hb1.size; (try simp at hz1); clear hb1; have S2 := True.intro; refine ⟨_, rfl, ?_⟩)
    | (have _ := S2; (fail_if_success (have _ := S3)); refine step_call rfl 102 _ _ rfl orOfSEnters #[.int .i64 X1, .int .i64 X2] rfl (CA.out _) ?_; rintro e w1 ⟨rfl, hb1⟩; have OWn := Lib.hid (own_below (by repeat (with_reducible first | exact OQ.out | apply World.ownsRow.alloc | apply own_drew)) hb1); have HBn : Hid (Below B w w1) := Below.trans (by repeat (with_reducible first | exact Below.refl _ _ | exact HB.out | refine Below.alloc ?_ (by first | omega | (simp; done) | (simp; omega)) _ | apply Below.drew)) (Below.mono hb1 (by have := HB.out.size; first | omega | (simp; omega))); (try clear HB); have HB := HBn; clear HBn; clear OQ; have OQ := OWn; clear OWn; obtain ⟨hc1, hf1⟩ := bcell hb1; (try simp only [World.size_drew, World.cell?_drew, World.frozen?_drew] at hc1 hf1); have hz1 := hb1.size; (try simp at hz1); clear hb1; have S3 := True.intro; refine ⟨_, rfl, ?_⟩)
    | (have _ := S3; (fail_if_success (have _ := S4)); refine step_call rfl 72 _ _ rfl valueOfEnters6 #[.int .i64 X] rfl (CV.out _) ?_; rintro e w1 ⟨rfl, hb1⟩; have OWn := Lib.hid (own_below (by repeat (with_reducible first | exact OQ.out | apply World.ownsRow.alloc | apply own_drew)) hb1); have HBn : Hid (Below B w w1) := Below.trans (by repeat (with_reducible first | exact Below.refl _ _ | exact HB.out | refine Below.alloc ?_ (by first | omega | (simp; done) | (simp; omega)) _ | apply Below.drew)) (Below.mono hb1 (by have := HB.out.size; first | omega | (simp; omega))); (try clear HB); have HB := HBn; clear HBn; clear OQ; have OQ := OWn; clear OWn; obtain ⟨hc1, hf1⟩ := bcell hb1; (try simp only [World.size_drew, World.cell?_drew, World.frozen?_drew] at hc1 hf1); have hz1 := hb1.size; (try simp at hz1); clear hb1; have S4 := True.intro; refine ⟨_, rfl, ?_⟩)
    | (refine step_own rfl (.tmp 97) (.tmp 112) 50 rfl B 54 i0 (.agg #[.int .i64 0, .int .i64 0, .string ⟨#[]⟩]) 3 32 Tryz.underlying50 hi iz0 iz1 iz2 rfl (by decide) (.slice (some ⟨g, 0, none⟩) q.length cap) q.length (flatV q.reverse) rfl (by repeat (with_reducible first | exact OQ.out | apply World.ownsRow.alloc | apply own_drew)) _ 1 1 [.int .i64 kr, .int .i64 nr, .string sr] rfl rfl (news_new (by first | rfl | simp)) (by simp [Value.oneCell']) (by unfold maxLen; omega) (by omega) (by have := HB.out.size; first | omega | (simp; done) | (simp; omega)) ?_; intro v2 w2 hown2 hgr2 _; have OWN2 := Lib.hid hown2; have HB2 := Lib.hid (Below.grown (B := B) (a := w) (by repeat (with_reducible first | exact Below.refl _ _ | exact HB.out | refine Below.alloc ?_ (by first | omega | (simp; done) | (simp; omega)) _ | apply Below.drew)) hgr2 (by have := HB.out.size; first | omega | (simp; done) | (simp; omega)) (fun k hk => (OQ.out.lt k hk).1)); clear hown2 hgr2))
  all_goals (try go_wp2_with (fail))
  all_goals (go_ret; refine do_post HB2.out OWN2.out rfl (by simp) ?_; simp [flatV_app, flatV])
end Go.Proofs.YtacinjbaebimhaaGreat.Val
namespace Go.Proofs.YtacinjbaebimhaaGreat.Val
open Go.RowKit
set_option linter.unusedVariables false
set_option linter.unusedSimpArgs false
set_option maxRecDepth 20000
theorem truthOfEnters7 (vs : Array Value) (w : World) : (callFunc 101 vs).run Tryz.prog w = .ok (.enter 101 vs) w := by
  go_simp
theorem notOfSEnters (vs : Array Value) (w : World) : (callFunc 103 vs).run Tryz.prog w = .ok (.enter 103 vs) w := by
  go_simp
theorem valueOfEnters7 (vs : Array Value) (w : World) : (callFunc 72 vs).run Tryz.prog w = .ok (.enter 72 vs) w := by
  go_simp
set_option maxHeartbeats 8000000 in
theorem l4Do7 (R : Option Addr) (rl rc g cap : Nat) (n vk vn k1 n1 : Int) (s s1 : ByteArray) (q : List VT) (B : Nat) (w : World) (own : w.ownsRow B 54 3 (.slice (some ⟨g, 0, none⟩) (q.length + 1) cap) (q.length + 1) (flatV ((k1, n1, s1) :: q).reverse)) (hB : B ≤ w.heap.size) (hst : q.length ≤ 100) (hs1 : s1.size ≤ maxLen) : Calls Tryz.prog 85 #[.slice R rl rc, .slice (some ⟨g, 0, none⟩) (q.length + 1) cap, .agg #[.int .i64 7, .int .i64 n, .int .i64 vk, .int .i64 vn, .string s]] w (DoPost (ofT (notI (toI k1 n1 s1)) :: q) B w) := by
  obtain ⟨a0, a1, a2⟩ := own_top1 own
  simp only at a0 a1 a2
  have OQ := Lib.hid (own_fewV (x := [(k1, n1, s1)]) (l := q) own)
  obtain ⟨hBg, hg, hc1, hc2⟩ := own_cap own
  clear own
  have hgn : ¬ (w.heap.size = g) := by omega
  have hg1 : g < w.heap.size + 1 := by omega
  obtain ⟨i0, hi, iz0, iz1, iz2⟩ := info_parts infoV
  have e2 : IntKind.i64.wrap ((q.length : Int) + 1 + 1 - 2) = q.length := by rw [show (q.length : Int) + 1 + 1 - 2 = q.length by omega]; exact IntWalk.i64_in _ (by omega)
  have e1 : IntKind.i64.wrap ((q.length : Int) + 1) = (q.length : Int) + 1 := IntWalk.i64_in _ (by omega)
  have e0 : IntKind.i64.wrap (q.length : Int) = q.length := IntWalk.i64_in _ (by omega)
  have ec : (q.length : Int) ≤ (cap : Int) := by omega
  have ep : (0 : Int) ≤ (q.length : Int) := by omega
  have eq1 : (q.length : Int) < (q.length : Int) + 1 := by omega
  have eq2 : (q.length : Int) < (q.length : Int) + 1 + 1 := by omega
  have eq3 : (0 : Int) ≤ (q.length : Int) + 1 := by omega
  have eq4 : (q.length : Int) + 1 < (q.length : Int) + 1 + 1 := by omega
  have ek : ¬ (cap = q.length) := by omega
  have C1 := Lib.hid (fun w => truthOfS k1 n1 s1 w hs1)
  obtain ⟨X1, hX1⟩ : ∃ x, toI k1 n1 s1 = x := ⟨_, rfl⟩
  rw [hX1] at C1 ⊢
  clear hX1
  have CA := Lib.hid (fun w => notOfS X1 w)
  obtain ⟨X, hX⟩ : ∃ x, notI X1 = x := ⟨_, rfl⟩
  rw [hX] at CA ⊢
  clear hX
  have CV := Lib.hid (fun w => valueOfS X w)
  rw [vO_of] at CV
  obtain ⟨r, hr⟩ : ∃ r, ofT X = r := ⟨_, rfl⟩
  rw [hr] at CV ⊢
  clear hr
  obtain ⟨kr, nr, sr⟩ := r
  unfold aggV at CV
  simp only at CV
  go_enter Tryz.func85, Tryz.ntmps85
  go_upto_region 8 with (fail)
  go_region_law (first
    | ((fail_if_success (have _ := S1)); refine step_call rfl 101 _ _ rfl truthOfEnters7 #[.agg #[.int .i64 k1, .int .i64 n1, .string s1]] rfl (C1.out _) ?_; rintro e w1 ⟨rfl, hb1⟩; have OWn := Lib.hid (own_below (by repeat (with_reducible first | exact OQ.out | apply World.ownsRow.alloc | apply own_drew)) hb1); have HBn : Hid (Below B w w1) := Below.trans (by repeat (with_reducible first | exact Below.refl _ _ | refine Below.alloc ?_ (by first | omega | (simp; done) | (simp; omega)) _ | apply Below.drew)) (Below.mono hb1 (by first | omega | (simp; omega))); (try clear HB); have HB := HBn; clear HBn; clear OQ; have OQ := OWn; clear OWn; obtain ⟨hc1, hf1⟩ := bcell hb1; (try simp only [World.size_drew, World.cell?_drew, World.frozen?_drew] at hc1 hf1); have hz1 := hb1.size; (try simp at hz1); clear hb1; have S1 := True.intro; refine ⟨_, rfl, ?_⟩)
    | (have _ := S1; (fail_if_success (have _ := S2)); refine step_call rfl 103 _ _ rfl notOfSEnters #[.int .i64 X1] rfl (CA.out _) ?_; rintro e w1 ⟨rfl, hb1⟩; have OWn := Lib.hid (own_below (by repeat (with_reducible first | exact OQ.out | apply World.ownsRow.alloc | apply own_drew)) hb1); have HBn : Hid (Below B w w1) := Below.trans (by repeat (with_reducible first | exact Below.refl _ _ | exact HB.out | refine Below.alloc ?_ (by first | omega | (simp; done) | (simp; omega)) _ | apply Below.drew)) (Below.mono hb1 (by have := HB.out.size; first | omega | (simp; omega))); (try clear HB); have HB := HBn; clear HBn; clear OQ; have OQ := OWn; clear OWn; obtain ⟨hc1, hf1⟩ := bcell hb1; (try simp only [World.size_drew, World.cell?_drew, World.frozen?_drew] at hc1 hf1); have hz1 := hb1.size; (try simp at hz1); clear hb1; have S2 := True.intro; refine ⟨_, rfl, ?_⟩)
    | (have _ := S2; (fail_if_success (have _ := S3)); refine step_call rfl 72 _ _ rfl valueOfEnters7 #[.int .i64 X] rfl (CV.out _) ?_; rintro e w1 ⟨rfl, hb1⟩; have OWn := Lib.hid (own_below (by repeat (with_reducible first | exact OQ.out | apply World.ownsRow.alloc | apply own_drew)) hb1); have HBn : Hid (Below B w w1) := Below.trans (by repeat (with_reducible first | exact Below.refl _ _ | exact HB.out | refine Below.alloc ?_ (by first | omega | (simp; done) | (simp; omega)) _ | apply Below.drew)) (Below.mono hb1 (by have := HB.out.size; first | omega | (simp; omega))); (try clear HB); have HB := HBn; clear HBn; clear OQ; have OQ := OWn; clear OWn; obtain ⟨hc1, hf1⟩ := bcell hb1; (try simp only [World.size_drew, World.cell?_drew, World.frozen?_drew] at hc1 hf1); have hz1 := hb1.size; (try simp at hz1); clear hb1; have S3 := True.intro; refine ⟨_, rfl, ?_⟩)
    | (refine step_own rfl (.tmp 119) (.tmp 128) 50 rfl B 54 i0 (.agg #[.int .i64 0, .int .i64 0, .string ⟨#[]⟩]) 3 32 Tryz.underlying50 hi iz0 iz1 iz2 rfl (by decide) (.slice (some ⟨g, 0, none⟩) q.length cap) q.length (flatV q.reverse) rfl (by repeat (with_reducible first | exact OQ.out | apply World.ownsRow.alloc | apply own_drew)) _ 1 1 [.int .i64 kr, .int .i64 nr, .string sr] rfl rfl (news_new (by first | rfl | simp)) (by simp [Value.oneCell']) (by unfold maxLen; omega) (by omega) (by have := HB.out.size; first | omega | (simp; done) | (simp; omega)) ?_; intro v2 w2 hown2 hgr2 _; have OWN2 := Lib.hid hown2; have HB2 := Lib.hid (Below.grown (B := B) (a := w) (by repeat (with_reducible first | exact Below.refl _ _ | exact HB.out | refine Below.alloc ?_ (by first | omega | (simp; done) | (simp; omega)) _ | apply Below.drew)) hgr2 (by have := HB.out.size; first | omega | (simp; done) | (simp; omega)) (fun k hk => (OQ.out.lt k hk).1)); clear hown2 hgr2))
  all_goals (try go_wp2_with (fail))
  all_goals (go_ret; refine do_post HB2.out OWN2.out rfl (by simp) ?_; simp [flatV_app, flatV])
end Go.Proofs.YtacinjbaebimhaaGreat.Val
namespace Go.Proofs.YtacinjbaebimhaaGreat.Val
open Go.RowKit
set_option linter.unusedVariables false
set_option linter.unusedSimpArgs false
set_option maxRecDepth 20000
theorem l2BoolEnters (vs : Array Value) (w : World) : (callFunc 104 vs).run Tryz.prog w = .ok (.enter 104 vs) w := by
  go_simp
theorem valueOfEnters8 (vs : Array Value) (w : World) : (callFunc 72 vs).run Tryz.prog w = .ok (.enter 72 vs) w := by
  go_simp
set_option maxHeartbeats 8000000 in
theorem l4Do8 (R : Option Addr) (rl rc g cap : Nat) (n vk vn k1 n1 : Int) (s s1 : ByteArray) (q : List VT) (B : Nat) (w : World) (own : w.ownsRow B 54 3 (.slice (some ⟨g, 0, none⟩) (q.length + 1) cap) (q.length + 1) (flatV ((k1, n1, s1) :: q).reverse)) (hB : B ≤ w.heap.size) (hst : q.length ≤ 100) : Calls Tryz.prog 85 #[.slice R rl rc, .slice (some ⟨g, 0, none⟩) (q.length + 1) cap, .agg #[.int .i64 8, .int .i64 n, .int .i64 vk, .int .i64 vn, .string s]] w (DoPost (ofT (if k1 = 0 then 1 else 0) :: q) B w) := by
  obtain ⟨a0, a1, a2⟩ := own_top1 own
  simp only at a0 a1 a2
  have OQ := Lib.hid (own_fewV (x := [(k1, n1, s1)]) (l := q) own)
  obtain ⟨hBg, hg, hc1, hc2⟩ := own_cap own
  clear own
  have hgn : ¬ (w.heap.size = g) := by omega
  have hg1 : g < w.heap.size + 1 := by omega
  obtain ⟨i0, hi, iz0, iz1, iz2⟩ := info_parts infoV
  have e2 : IntKind.i64.wrap ((q.length : Int) + 1 + 1 - 2) = q.length := by rw [show (q.length : Int) + 1 + 1 - 2 = q.length by omega]; exact IntWalk.i64_in _ (by omega)
  have e1 : IntKind.i64.wrap ((q.length : Int) + 1) = (q.length : Int) + 1 := IntWalk.i64_in _ (by omega)
  have e0 : IntKind.i64.wrap (q.length : Int) = q.length := IntWalk.i64_in _ (by omega)
  have ec : (q.length : Int) ≤ (cap : Int) := by omega
  have ep : (0 : Int) ≤ (q.length : Int) := by omega
  have eq1 : (q.length : Int) < (q.length : Int) + 1 := by omega
  have eq2 : (q.length : Int) < (q.length : Int) + 1 + 1 := by omega
  have eq3 : (0 : Int) ≤ (q.length : Int) + 1 := by omega
  have eq4 : (q.length : Int) + 1 < (q.length : Int) + 1 + 1 := by omega
  have ek : ¬ (cap = q.length) := by omega
  obtain ⟨b, hb⟩ : ∃ b, (k1 == 0) = b := ⟨_, rfl⟩
  have CA := Lib.hid (fun w => below_of_same (l2Bool b w))
  obtain ⟨X, hX⟩ : ∃ x, (if b = true then (1 : Int) else 0) = x := ⟨_, rfl⟩
  rw [show (if k1 = 0 then (1 : Int) else 0) = if b = true then 1 else 0 by rw [← hb]; simp, hX]
  rw [hX] at CA
  clear hX
  have CV := Lib.hid (fun w => valueOfS X w)
  rw [vO_of] at CV
  obtain ⟨r, hr⟩ : ∃ r, ofT X = r := ⟨_, rfl⟩
  rw [hr] at CV ⊢
  clear hr
  obtain ⟨kr, nr, sr⟩ := r
  unfold aggV at CV
  simp only at CV
  go_enter Tryz.func85, Tryz.ntmps85
  go_upto_region 8 with (fail)
  go_region_law (first
    | ((fail_if_success (have _ := S1)); refine step_call rfl 104 _ _ rfl l2BoolEnters #[.bool b] rfl (CA.out _) ?_; rintro e w1 ⟨rfl, hb1⟩; have OWn := Lib.hid (own_below (by repeat (with_reducible first | exact OQ.out | apply World.ownsRow.alloc | apply own_drew)) hb1); have HBn : Hid (Below B w w1) := Below.trans (by repeat (with_reducible first | exact Below.refl _ _ | refine Below.alloc ?_ (by first | omega | (simp; done) | (simp; omega)) _ | apply Below.drew)) (Below.mono hb1 (by first | omega | (simp; omega))); (try clear HB); have HB := HBn; clear HBn; clear OQ; have OQ := OWn; clear OWn; obtain ⟨hc1, hf1⟩ := bcell hb1; (try simp only [World.size_drew, World.cell?_drew, World.frozen?_drew] at hc1 hf1); have hz1 := hb1.size; (try simp at hz1); clear hb1; have S1 := True.intro; refine ⟨_, rfl, ?_⟩)
    | (have _ := S1; (fail_if_success (have _ := S2)); refine step_call rfl 72 _ _ rfl valueOfEnters8 #[.int .i64 X] rfl (CV.out _) ?_; rintro e w1 ⟨rfl, hb1⟩; have OWn := Lib.hid (own_below (by repeat (with_reducible first | exact OQ.out | apply World.ownsRow.alloc | apply own_drew)) hb1); have HBn : Hid (Below B w w1) := Below.trans (by repeat (with_reducible first | exact Below.refl _ _ | exact HB.out | refine Below.alloc ?_ (by first | omega | (simp; done) | (simp; omega)) _ | apply Below.drew)) (Below.mono hb1 (by have := HB.out.size; first | omega | (simp; omega))); (try clear HB); have HB := HBn; clear HBn; clear OQ; have OQ := OWn; clear OWn; obtain ⟨hc1, hf1⟩ := bcell hb1; (try simp only [World.size_drew, World.cell?_drew, World.frozen?_drew] at hc1 hf1); have hz1 := hb1.size; (try simp at hz1); clear hb1; have S2 := True.intro; refine ⟨_, rfl, ?_⟩)
    | (refine step_own rfl (.tmp 133) (.tmp 143) 50 rfl B 54 i0 (.agg #[.int .i64 0, .int .i64 0, .string ⟨#[]⟩]) 3 32 Tryz.underlying50 hi iz0 iz1 iz2 rfl (by decide) (.slice (some ⟨g, 0, none⟩) q.length cap) q.length (flatV q.reverse) rfl (by repeat (with_reducible first | exact OQ.out | apply World.ownsRow.alloc | apply own_drew)) _ 1 1 [.int .i64 kr, .int .i64 nr, .string sr] rfl rfl (news_new (by first | rfl | simp)) (by simp [Value.oneCell']) (by unfold maxLen; omega) (by omega) (by have := HB.out.size; first | omega | (simp; done) | (simp; omega)) ?_; intro v2 w2 hown2 hgr2 _; have OWN2 := Lib.hid hown2; have HB2 := Lib.hid (Below.grown (B := B) (a := w) (by repeat (with_reducible first | exact Below.refl _ _ | exact HB.out | refine Below.alloc ?_ (by first | omega | (simp; done) | (simp; omega)) _ | apply Below.drew)) hgr2 (by have := HB.out.size; first | omega | (simp; done) | (simp; omega)) (fun k hk => (OQ.out.lt k hk).1)); clear hown2 hgr2))
  all_goals (try go_wp2_with (fail))
  all_goals (go_ret; refine do_post HB2.out OWN2.out rfl (by simp) ?_; simp [flatV_app, flatV])
end Go.Proofs.YtacinjbaebimhaaGreat.Val
namespace Go.Proofs.YtacinjbaebimhaaGreat.Val
open Go.RowKit
set_option linter.unusedVariables false
theorem step_vlen {cs : List CT} {row : List VT} {p : PT} {st st' : List Int} {vs : List VT} (h : stepK cs p st = some st') (ht : Typ vs st) : (stepV row p vs).length ≤ vs.length + 1 := by
  rw [val_put h ht.len]
  simp
theorem l4DoA (R : Option Addr) (gr orr rc g cap : Nat) (cs : List CT) (row vs : List VT) (st st' : List Int) (p : PT) (B : Nat) (w : World) (hR : Fl w gr orr R (flatV row)) (hs : stepK cs p st = some st') (hty : Typ vs st) (hf : fitB cs row = true) (hl : row.length ≤ 2000000) (own : w.ownsRow B 54 3 (.slice (some ⟨g, 0, none⟩) vs.length cap) vs.length (flatV vs.reverse)) (hB : B ≤ w.heap.size) (hst : vs.length ≤ 100) : Calls Tryz.prog 85 #[.slice R row.length rc, .slice (some ⟨g, 0, none⟩) vs.length cap, aggP p] w (DoPost (stepV row p vs) B w) := by
  obtain ⟨hfd, htk⟩ := step_has hs
  rw [← hty.len] at htk
  rw [val_put hs hty.len]
  have hok := typ_ok hty
  clear hs hty
  obtain ⟨k, n, vk, vn, s⟩ := p
  simp only [fieldB] at hfd
  unfold aggP
  simp only [takesI] at htk ⊢
  rcases kind_eight k with rfl | rfl | rfl | rfl | rfl | rfl | rfl | rfl | ⟨h1, h2, h3, h4, h5, h6, h7, h8⟩
  case inr.inr.inr.inr.inr.inr.inr.inr => simp [h1, h2, h3, h4, h5, h6, h7, h8] at hfd
  · exact l4Do1 R _ _ g cap n vk vn s vs B w own hB hst
  · simp at hfd
    obtain ⟨-, hn0, hn1⟩ := hfd
    simp only [fitB, Bool.and_eq_true, decide_eq_true_eq] at hf
    obtain ⟨N, rfl⟩ : ∃ N : Nat, n = N := ⟨n.toNat, by omega⟩
    have hN : N < row.length := by have := hf.1.2; omega
    have := l4Do2 R gr orr rc g cap N vk vn s row vs B w hR hN hl own hB hst
    simpa [putV, List.getD_eq_getElem?_getD, List.getElem?_eq_getElem hN] using this
  all_goals (rcases vs with _ | ⟨a, _ | ⟨b, q⟩⟩)
  all_goals try (simp at htk; done)
  all_goals (try (simp only [List.length_cons] at hst))
  · obtain ⟨h1, h2⟩ := ok_num (hok b (by simp)); obtain ⟨h3, h4⟩ := ok_num (hok a (by simp))
    exact l4Do3 R _ _ g cap n vk vn _ _ _ _ s _ _ q B w own hB (by omega) h1 h2 h3 h4
  · exact l4Do4 R _ _ g cap n vk vn _ _ _ _ s _ _ q B w own hB (by omega) (ok_size (hok b (by simp))) (ok_size (hok a (by simp)))
  · exact l4Do5 R _ _ g cap n vk vn _ _ _ _ s _ _ q B w own hB (by omega) (ok_size (hok b (by simp))) (ok_size (hok a (by simp)))
  · exact l4Do6 R _ _ g cap n vk vn _ _ _ _ s _ _ q B w own hB (by omega) (ok_size (hok b (by simp))) (ok_size (hok a (by simp)))
  · exact l4Do7 R _ _ g cap n vk vn _ _ s _ [] B w own hB (by simp) (ok_size (hok a (by simp)))
  · exact l4Do7 R _ _ g cap n vk vn _ _ s _ (b :: q) B w own hB (by simp; omega) (ok_size (hok a (by simp)))
  · exact l4Do8 R _ _ g cap n vk vn _ _ s _ [] B w own hB (by simp)
  · exact l4Do8 R _ _ g cap n vk vn _ _ s _ (b :: q) B w own hB (by simp; omega)
end Go.Proofs.YtacinjbaebimhaaGreat.Val
