/- BatchesOf's exact law: how large the batches are, what marks leave. -/
import Derived.Test.YtjidkjnlnenmbaaBatKQ
import Derived.Test.YtjidkjnlnenmbaaFlPQ
import Derived.Test.YtjidkjnlnenmbaaRowMQ
namespace Go.Proofs.Ytjidkjnlnenmbaa.Val
open Go.RowKit
set_option linter.unusedVariables false
set_option linter.unusedSimpArgs false
set_option maxRecDepth 8000
def sumA (bas : List BA) : Nat := (bas.map fun b => 3 * total b.1 + b.2.length).sum
theorem total_const {ls : List RT} {m : Nat} (h : ∀ r ∈ ls, r.length = m) : total ls = m * ls.length := by
  induction ls with
  | nil => simp [total]
  | cons r ls ih =>
    have h1 := h r (by simp)
    have h2 := ih (fun x hx => h x (by simp [hx]))
    simp only [total, List.map_cons, List.sum_cons, List.length_cons] at h2 ⊢
    rw [h2, h1, Nat.mul_add]; omega
theorem bat_cols (m s : Nat) (ls : List RT) (k : Nat) : total (batK m s ls k).1 = m * (chk s ls k).length := by
  rw [total_const (m := (chk s ls k).length)]
  · simp only [batK, List.length_map, List.length_range]; exact Nat.mul_comm _ _
  · intro r hr
    simp only [batK, List.mem_map] at hr
    obtain ⟨j, -, rfl⟩ := hr
    exact acr_len _ _
theorem sum_bats (m s : Nat) (ls : List RT) (K : Nat) : sumA ((List.range K).map (batK m s ls)) = (3 * m + 1) * min (K * s) ls.length := by
  induction K with
  | zero => simp [sumA]
  | succ K ih =>
    have hb : 3 * total (batK m s ls K).1 + (batK m s ls K).2.length = (3 * m + 1) * (chk s ls K).length := by
      rw [bat_cols]
      simp only [batK, List.length_replicate]
      rw [Nat.add_mul, Nat.mul_assoc]; omega
    rw [bats_snoc]
    unfold sumA at ih ⊢
    rw [List.map_append, List.sum_append, ih]
    simp only [List.map_cons, List.map_nil, List.sum_cons, List.sum_nil, Nat.add_zero]
    rw [hb, chk_len, ← Nat.mul_add]
    congr 1
    rw [Nat.add_mul]
    omega
theorem bats_small (cs : List CT) (ls : List RT) (s : Int) (hok : Ok2 ls) (hl : ls.length + total ls ≤ 1048576) (hc : cs.length ≤ 1048576) : OkB (batsI cs ls s) ∧ sumA (batsI cs ls s) ≤ 3145728 ∧ (batsI cs ls s).length ≤ 1048576 := by
  unfold batsI
  by_cases hE : rowsB cs ls = true ∧ 1 ≤ s ∧ s ≤ 4
  · rw [if_pos hE]
    obtain ⟨hr, h1, h4⟩ := hE
    obtain ⟨S, rfl⟩ : ∃ S : Nat, s = (S : Int) := ⟨s.toNat, by omega⟩
    rw [Int.toNat_natCast]
    have hlen := rowsB_len hr
    have htot := total_const hlen
    have hK : (ls.length + S - 1) / S ≤ ls.length := by
      rcases (by omega : S = 1 ∨ S = 2 ∨ S = 3 ∨ S = 4) with rfl | rfl | rfl | rfl <;> omega
    have hcl : (cutB cs.length S ls).length ≤ ls.length := by simp only [cutB, List.length_map, List.length_range]; exact hK
    refine ⟨⟨by omega, ?_⟩, ?_, by omega⟩
    · intro b hb
      simp only [cutB, List.mem_map] at hb
      obtain ⟨k, -, rfl⟩ := hb
      have hcm := chk_len S ls k
      refine ⟨⟨by simp only [batK, List.length_map, List.length_range]; omega, ?_⟩, by simp only [batK, List.length_replicate]; omega⟩
      intro r hr2
      simp only [batK, List.mem_map] at hr2
      obtain ⟨j, -, rfl⟩ := hr2
      exact ⟨by rw [acr_len]; omega, short_acr (fun c hc2 => (hok.2 c (chk_mem hc2)).2) j⟩
    · rw [cutB, sum_bats]
      have h5 : (3 * cs.length + 1) * min ((ls.length + S - 1) / S * S) ls.length ≤ (3 * cs.length + 1) * ls.length := Nat.mul_le_mul_left _ (Nat.min_le_right _ _)
      have h6 : (3 * cs.length + 1) * ls.length = 3 * total ls + ls.length := by rw [htot, Nat.add_mul, Nat.mul_assoc]; omega
      omega
  · rw [if_neg hE]
    exact ⟨⟨by simp, fun b hb => absurd hb (by simp)⟩, by simp [sumA], by simp⟩
theorem sumW_eq (U : List UB) : sumW U = sumA (U.map baOf) := by
  unfold sumW sumA
  rw [List.map_map]
  rfl
theorem BLs.under {w : World} {B g cap : Nat} {U : List UB} {bas : List BA} (h : BLs w B g cap U bas) : ∀ b ∈ g :: U.flatMap blkW, b < w.heap.size := by
  intro b hb
  rcases List.mem_cons.1 hb with rfl | hb
  · exact h.lo.2
  · exact (h.hi b hb).2
theorem BLs.loI {w w' : World} {B g cap lo hi : Nat} {U : List UB} {bas : List BA} (h : BLs w B g cap U bas) (hu : ∀ b ∈ g :: U.flatMap blkW, b < lo) (ho : OnlyI lo hi w w') : BLs w' B g cap U bas :=
  h.keep ho.size (ho.block _ h.lo.2 (.inl (hu _ (by simp)))) fun b hb => ho.block _ (h.hi b hb).2 (.inl (hu _ (List.mem_cons_of_mem _ hb)))
theorem BLs.hiI {w w' : World} {B g cap lo hi : Nat} {U : List UB} {bas : List BA} (h : BLs w B g cap U bas) (hB : hi ≤ B) (ho : OnlyI lo hi w w') : BLs w' B g cap U bas :=
  h.keep ho.size (ho.block _ h.lo.2 (.inr (by have := h.lo.1; omega))) fun b hb => ho.block _ (h.hi b hb).2 (.inr (by have := (h.hi b hb).1; omega))
theorem BLN.below {w w' : World} {B g c : Nat} {A : Option Addr} {U : List UB} {bas : List BA} (h : BLN w B A g c U bas) (hb : Below w.heap.size w w') : BLN w' B A g c U bas := by
  rcases h with ⟨h1, h⟩ | h
  · exact .inl ⟨h1, h.below hb⟩
  · exact .inr h
theorem BLN.alloc {w : World} {B g c : Nat} {A : Option Addr} {U : List UB} {bas : List BA} (h : BLN w B A g c U bas) (ob : Obj) : BLN (w.alloc ob) B A g c U bas := h.below ((Below.refl _ _).alloc (Nat.le_refl _) _)
theorem BLN.drew {w : World} {B g c : Nat} {A : Option Addr} {U : List UB} {bas : List BA} (h : BLN w B A g c U bas) : BLN w.drew B A g c U bas := h.below ((Below.refl _ _).drew)
theorem BLN.hiI {w w' : World} {B g c lo hi : Nat} {A : Option Addr} {U : List UB} {bas : List BA} (h : BLN w B A g c U bas) (hB : hi ≤ B) (ho : OnlyI lo hi w w') : BLN w' B A g c U bas := by
  rcases h with ⟨h1, h⟩ | h
  · exact .inl ⟨h1, h.hiI hB ho⟩
  · exact .inr h
theorem BLN.eq {w : World} {B g c : Nat} {A : Option Addr} {U : List UB} {bas : List BA} (h : BLN w B A g c U bas) : U.map baOf = bas := by
  rcases h with ⟨rfl, h⟩ | ⟨rfl, -, rfl, rfl⟩
  · exact h.eq
  · rfl
/-- Marked batches, or nil. -/
def BMN (w : World) (B : Nat) (A : Option Addr) (g c : Nat) (U : List UB) : Prop := (A = some ⟨g, 0, none⟩ ∧ BMk w B g c 1 U) ∨ (A = none ∧ c = 0 ∧ U = [])
theorem BMN.below {w w' : World} {B g c : Nat} {A : Option Addr} {U : List UB} (h : BMN w B A g c U) (hb : Below w.heap.size w w') : BMN w' B A g c U := by
  rcases h with ⟨h1, h⟩ | h
  · exact .inl ⟨h1, h.below hb⟩
  · exact .inr h
theorem BMN.alloc {w : World} {B g c : Nat} {A : Option Addr} {U : List UB} (h : BMN w B A g c U) (ob : Obj) : BMN (w.alloc ob) B A g c U := h.below ((Below.refl _ _).alloc (Nat.le_refl _) _)
theorem BMN.drew {w : World} {B g c : Nat} {A : Option Addr} {U : List UB} (h : BMN w B A g c U) : BMN w.drew B A g c U := h.below ((Below.refl _ _).drew)
theorem eqNilB (g c : Nat) (w : World) : Calls Try.prog 29 #[.slice none 0 0, .slice (some ⟨g, 0, none⟩) 0 c] w fun e w' => e = .returned (.bool true) ∧ Below w.heap.size w w' := by
  go_enter Try.func29, Try.ntmps29
  go_wp2
  go_loopw [5] (fun kx wr => kx = .int .i64 0 ∧ wr = w) (fun _ _ => 0)
  case atStart => exact ⟨rfl, rfl⟩
  case round =>
    obtain ⟨rfl, rfl⟩ := hrel
    go_wp2
    go_ret
    exact ⟨rfl, Below.refl _ _⟩
theorem markNilB (n : Int) (w : World) : Calls Try.prog 32 #[.slice none 0 0, .int .i64 n] w fun e w' => e = .returned (.int .i64 n) ∧ w = w' := by
  go_enter Try.func32, Try.ntmps32
  go_wp2
  go_loopw [1, 5] (fun nx kx wr => nx = .int .i64 n ∧ kx = .int .i64 0 ∧ wr = w) (fun _ _ _ => 0)
  case atStart => exact ⟨rfl, rfl, rfl⟩
  case round =>
    obtain ⟨rfl, rfl, rfl⟩ := hrel
    go_wp2
    go_ret
    exact ⟨rfl, rfl⟩
theorem heldNilB (n : Int) (w : World) : Calls Try.prog 33 #[.slice none 0 0, .int .i64 n] w fun e w' => e = .returned (.int .i64 n) ∧ w = w' := by
  go_enter Try.func33, Try.ntmps33
  go_wp2
  go_loopw [1, 5] (fun nx kx wr => nx = .int .i64 n ∧ kx = .int .i64 0 ∧ wr = w) (fun _ _ _ => 0)
  case atStart => exact ⟨rfl, rfl, rfl⟩
  case round =>
    obtain ⟨rfl, rfl, rfl⟩ := hrel
    go_wp2
    go_ret
    exact ⟨rfl, rfl⟩
theorem eqBLN (B B2 : Nat) (A : Option Addr) (g g2 c c2 : Nat) (U V : List UB) (bas : List BA) (w : World) (hA : BLN w B A g c U bas) (hB : BLs w B2 g2 c2 V bas) (hok : OkB bas) :
    Calls Try.prog 29 #[.slice A bas.length c, .slice (some ⟨g2, 0, none⟩) bas.length c2] w fun e w' => e = .returned (.bool true) ∧ Below w.heap.size w w' := by
  rcases hA with ⟨rfl, h⟩ | ⟨rfl, rfl, rfl, rfl⟩
  · exact eqBatchS B B2 g g2 c c2 U V bas w h hB hok
  · exact eqNilB g2 c2 w
theorem cols_small {U : List UB} {bas : List BA} (h : U.map baOf = bas) (hok : OkB bas) : ∀ u ∈ U, u.2.2.1.length ≤ 2000000 := by
  intro u hu
  have h1 := (hok.2 (baOf u) (by rw [← h]; exact List.mem_map_of_mem hu)).1.1
  simpa [baOf] using h1
theorem markBLN (M B : Nat) (A : Option Addr) (g c : Nat) (U : List UB) (bas : List BA) (w : World) (h : BLN w B A g c U bas) (hM : M = 1 + sumA bas) (hl : M ≤ 7000000) (hl2 : bas.length ≤ 1048576) (hok : OkB bas) :
    Calls Try.prog 32 #[.slice A bas.length c, .int .i64 1] w fun e w' => e = .returned (.int .i64 (M : Int)) ∧ BMN w' B A g c U ∧ OnlyI B w.heap.size w w' := by
  rcases h with ⟨rfl, h⟩ | ⟨rfl, rfl, rfl, rfl⟩
  · have he := h.eq
    have hs : sumW U = sumA bas := by rw [sumW_eq, he]
    have hlen := h.len
    have hhi := h.hi
    refine (markBatchS 1 B g c U bas w (by omega) h (by omega) (by omega) (cols_small he hok)).mono ?_
    rintro e w' ⟨rfl, h1, h2⟩
    exact ⟨by rw [hM, hs], .inl ⟨rfl, h1⟩, OnlyT.toI h2 hhi⟩
  · subst hM
    refine (markNilB 1 w).mono ?_
    rintro e w' ⟨rfl, rfl⟩
    exact ⟨rfl, .inr ⟨rfl, rfl, rfl⟩, OnlyI.refl _ _ _⟩
theorem heldBLN (M B : Nat) (A : Option Addr) (g c : Nat) (U : List UB) (bas : List BA) (w : World) (hU : U.map baOf = bas) (h : BMN w B A g c U) (hM : M = 1 + sumA bas) (hl : M ≤ 7000000) (hl2 : bas.length ≤ 1048576) (hok : OkB bas) :
    Calls Try.prog 33 #[.slice A bas.length c, .int .i64 1] w fun e w' => e = .returned (.int .i64 (M : Int)) ∧ Below w.heap.size w w' := by
  have hlen : U.length = bas.length := by rw [← hU, List.length_map]
  have hs : sumW U = sumA bas := by rw [sumW_eq, hU]
  rcases h with ⟨rfl, h⟩ | ⟨rfl, rfl, rfl⟩
  · refine (heldBatchS 1 B g c bas.length U w (by omega) h (by omega) (by omega) (by omega) (cols_small hU hok)).mono ?_
    rintro e w' ⟨rfl, hb⟩
    exact ⟨by rw [hM, hs], hb⟩
  · subst hU
    subst hM
    refine (heldNilB 1 w).mono ?_
    rintro e w' ⟨rfl, rfl⟩
    exact ⟨rfl, Below.refl _ _⟩
/-- Columns that were copied. -/
structure ColX (w : World) (g : Nat) (cs : List CT) : Prop where
  fl : Fl w g 0 (some ⟨g, 0, none⟩) (flatC cs)
  fz : ∀ j, j < (flatC cs).length → w.frozen? ⟨g, j, none⟩ = false
theorem ColX.below {w w' : World} {g : Nat} {cs : List CT} (h : ColX w g cs) (hb : Below w.heap.size w w') : ColX w' g cs :=
  ⟨h.fl.below hb, fun j hj => (hb.frozen (p := ⟨g, j, none⟩) (h.fl.lt (by omega))).trans (h.fz j hj)⟩
theorem ColX.alloc {w : World} {g : Nat} {cs : List CT} (h : ColX w g cs) (ob : Obj) : ColX (w.alloc ob) g cs := h.below ((Below.refl _ _).alloc (Nat.le_refl _) _)
theorem ColX.drew {w : World} {g : Nat} {cs : List CT} (h : ColX w g cs) : ColX w.drew g cs := h.below ((Below.refl _ _).drew)
theorem ColX.free {w : World} {g : Nat} {cs : List CT} (h : ColX w g cs) : Free w g (cs.length * 2) := by
  have hl := flatC_len cs
  intro j hj
  exact ⟨⟨_, by have := h.fl.c j (by omega); rwa [Nat.zero_add] at this⟩, h.fz j (by omega)⟩
theorem Bag.leafT {w : World} {B g cap : Nat} {T : List TT} {ls : List RT} (h : Bag w B g cap T ls) : ∀ b ∈ T.map (fun t => t.1), B ≤ b ∧ b < w.heap.size := by
  intro b hb
  obtain ⟨t, ht, rfl⟩ := List.mem_map.1 hb
  exact ⟨(h.rows t ht).lo, (h.rows t ht).hi⟩
theorem onlyI_of {n r lo hi : Nat} {w w' : World} (hz : n = 0 → w' = w) (ho : Only r w w') (h : lo ≤ r ∧ (0 < n → r < hi)) : OnlyI lo hi w w' := by
  rcases Nat.eq_zero_or_pos n with h0 | h0
  · rw [hz h0]; exact OnlyI.refl _ _ _
  · exact ho.toI ⟨h.1, h.2 h0⟩
/-- The marks of n columns. -/
def marksCQ (N n : Nat) : List CT := (List.range n).map fun (i : Nat) => ((N : Int) + 2 * (i : Int), (((N : Int) + 2 * (i : Int) + 1) % 3 == 0))
theorem marksCQ_len (N n : Nat) : (marksCQ N n).length = n := by simp [marksCQ]
theorem marksCQ_get (N n i : Nat) (h : i < n) : (flatC (marksCQ N n))[i * 2]? = some (.int .i64 ((N : Int) + 2 * i)) ∧ (flatC (marksCQ N n))[i * 2 + 1]? = some (.bool ((((N : Int) + 2 * (i : Int) + 1) % 3 == 0))) := by
  have hg := flatC_get (marksCQ N n) i (by rw [marksCQ_len]; exact h)
  have e : (marksCQ N n)[i]'(by rw [marksCQ_len]; exact h) = ((N : Int) + 2 * i, (((N : Int) + 2 * (i : Int) + 1) % 3 == 0)) := by simp [marksCQ]
  rw [e] at hg
  exact hg
set_option maxHeartbeats 1000000 in
theorem markColumnSQ (N : Nat) (A : Option Addr) (g cap n : Nat) (w : World) (hl : N + 2 * n ≤ 7000000) (hA : 0 < n → A = some ⟨g, 0, none⟩) (hF : Fill w g (flatC (marksCQ N n)) 0) : Calls Try.prog 31 #[.slice A n cap, .int .i64 (N : Int)] w fun e w' => e = .returned (.int .i64 ((N : Int) + 2 * n)) ∧ (n = 0 → w' = w) ∧ Only g w w' ∧ Fill w' g (flatC (marksCQ N n)) (n * 2) := by
  have HA := Lib.hid hF
  have HAD := Lib.hid hA
  clear hF hA
  go_enter Try.func31, Try.ntmps31
  go_wp2
  go_loopw [1, 5] (fun kx ix wr => ∃ (k : Nat), k ≤ n ∧ ix = .int .i64 k ∧ kx = .int .i64 ((N : Int) + 2 * k) ∧ Hid (Fill wr g (flatC (marksCQ N n)) (k * 2)) ∧ Hid (k = 0 → wr = w) ∧ Hid (Only g w wr)) (fun _ ix _ => n - (intOf ix).toNat)
  case atStart => exact ⟨0, Nat.zero_le _, rfl, rfl, HA, fun _ => rfl, Only.refl _ _⟩
  case round =>
    obtain ⟨k, hk, rfl, rfl, HF, HZ, HO⟩ := hrel
    by_cases hlt : k < n
    · obtain rfl := HAD.out (by omega)
      obtain ⟨u0, u1⟩ := marksCQ_get N n k hlt
      have hlen : (flatC (marksCQ N n)).length = n * 2 := by rw [flatC_len, marksCQ_len]
      have F1 := Lib.hid (HF.out.set u0)
      have F2 := Lib.hid (F1.out.set u1)
      have O1 := Lib.hid (HO.out.trans (Only.set wr (k * 2) (.int .i64 ((N : Int) + 2 * k))))
      have O2 := Lib.hid (fun u => O1.out.trans (Only.set _ (k * 2 + 1) u))
      obtain ⟨⟨v0, hv0⟩, f0, -⟩ := HF.out (k * 2) (by omega)
      obtain ⟨⟨v1, hv1⟩, f1, -⟩ := F1.out (k * 2 + 1) (by omega)
      have e1 : Int.tmod ((N : Int) + 2 * k + 1) 3 = ((N : Int) + 2 * k + 1) % 3 := Int.tmod_eq_emod_of_nonneg (by omega)
      have i0' : (0 : Int) ≤ (k : Int) := by omega
      have i1' : (k : Int) < (n : Int) := by omega
      clear u0 u1 hlen
      go_wp2
      exact ⟨⟨k + 1, by omega, by go_num, by go_num, by rw [show (k + 1) * 2 = k * 2 + 1 + 1 by omega]; exact F2.out, fun h => absurd h (by omega), O2.out _⟩, by simp [intOf]; omega⟩
    · obtain rfl : k = n := by omega
      go_wp2
      go_ret
      exact ⟨rfl, HZ.out, HO.out, HF.out⟩
theorem ColX.fill {w : World} {g : Nat} {cs : List CT} (h : ColX w g cs) (ys : List Value) (hy : ys.length = cs.length * 2) : Fill w g ys 0 := by
  have hf := h.free
  intro j hj
  obtain ⟨h1, h2⟩ := hf j (by omega)
  exact ⟨h1, h2, fun h0 => absurd h0 (by omega)⟩
end Go.Proofs.Ytjidkjnlnenmbaa.Val
