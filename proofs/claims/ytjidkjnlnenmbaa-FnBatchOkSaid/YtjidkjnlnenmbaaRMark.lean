/- Marks laid in rows of rows, and told again. -/
import Derived.Test.YtjidkjnlnenmbaaBag
import Derived.Test.YtjidkjnlnenmbaaRowM
namespace Go.Proofs.Ytjidkjnlnenmbaa.Val
open Go.RowKit
set_option linter.unusedVariables false
set_option maxRecDepth 8000
/-- The marks of n values. -/
def marksK (N n : Nat) : List VT := (List.range n).map fun (i : Nat) => ((N : Int) + 3 * (i : Int), (N : Int) + 1 + 3 * (i : Int), mT (N + 2 + 3 * i))
theorem marksK_len (N n : Nat) : (marksK N n).length = n := by simp [marksK]
theorem marksK_get (N n i : Nat) (h : i < n) : (flatV (marksK N n))[i * 3]? = some (.int .i64 ((N : Int) + 3 * i)) ∧ (flatV (marksK N n))[i * 3 + 1]? = some (.int .i64 ((N : Int) + 1 + 3 * i)) ∧ (flatV (marksK N n))[i * 3 + 2]? = some (.string (mT (N + 2 + 3 * i))) := by
  have hg := flatV_get (marksK N n) i (by rw [marksK_len]; exact h)
  have e : (marksK N n)[i]'(by rw [marksK_len]; exact h) = ((N : Int) + 3 * i, (N : Int) + 1 + 3 * i, mT (N + 2 + 3 * i)) := by simp [marksK]
  rw [e] at hg
  exact hg
set_option maxHeartbeats 1000000 in
theorem markValueSK (N : Nat) (A : Option Addr) (g cap n : Nat) (w : World) (hN : 0 < N) (hl : N + 3 * n ≤ 7000000) (hA : 0 < n → A = some ⟨g, 0, none⟩) (hF : Fill w g (flatV (marksK N n)) 0) : Calls Try.prog 41 #[.slice A n cap, .int .i64 (N : Int)] w fun e w' => e = .returned (.int .i64 ((N : Int) + 3 * n)) ∧ (n = 0 → w' = w) ∧ Only g w w' ∧ Fill w' g (flatV (marksK N n)) (n * 3) := by
  have HA := Lib.hid hF
  have HAD := Lib.hid hA
  clear hF hA
  go_enter Try.func41, Try.ntmps41
  go_wp2
  go_loopw [1, 5] (fun kx ix wr => ∃ (k : Nat), k ≤ n ∧ ix = .int .i64 k ∧ kx = .int .i64 ((N : Int) + 3 * k) ∧ Hid (Fill wr g (flatV (marksK N n)) (k * 3)) ∧ Hid (k = 0 → wr = w) ∧ Hid (Only g w wr)) (fun _ ix _ => n - (intOf ix).toNat)
  case atStart => exact ⟨0, Nat.zero_le _, rfl, rfl, HA, fun _ => rfl, Only.refl _ _⟩
  case round =>
    obtain ⟨k, hk, rfl, rfl, HF, HZ, HO⟩ := hrel
    by_cases hlt : k < n
    · obtain rfl := HAD.out (by omega)
      obtain ⟨u0, u1, u2⟩ := marksK_get N n k hlt
      have hlen : (flatV (marksK N n)).length = n * 3 := by rw [flatV_len, marksK_len]
      have F1 := Lib.hid (HF.out.set u0)
      have F2 := Lib.hid (F1.out.set u1)
      have U2 := Lib.hid u2
      have O1 := Lib.hid (HO.out.trans (Only.set wr (k * 3) (.int .i64 ((N : Int) + 3 * k))))
      have O2 := Lib.hid (O1.out.trans (Only.set _ (k * 3 + 1) (.int .i64 ((N : Int) + 1 + 3 * k))))
      obtain ⟨⟨v0, hv0⟩, f0, -⟩ := HF.out (k * 3) (by omega)
      obtain ⟨⟨v1, hv1⟩, f1, -⟩ := F1.out (k * 3 + 1) (by omega)
      have HL := Lib.hid hlen
      have i0' : (0 : Int) ≤ (k : Int) := by omega
      have i1' : (k : Int) < (n : Int) := by omega
      have j0' : (N : Int) + 3 * k + 1 = (N : Int) + 1 + 3 * k := by omega
      clear u0 u1 u2 hlen
      go_wp2_with (go_at_call 87; (with_reducible refine (markTextPZ _ (N + 2 + 3 * k) _ (by omega) (by omega) (by omega)).mono ?_); rintro e w3 ⟨rfl, hb3⟩; have F3 := Lib.hid (F2.out.below hb3); have O3 := Lib.hid (O2.out.trans (only_of_below hb3)); obtain ⟨⟨v2, hv2⟩, f2, -⟩ := F3.out (k * 3 + 2) (by have := HL.out; omega); clear hb3)
      exact ⟨⟨k + 1, by omega, by go_num, by go_num, by rw [show (k + 1) * 3 = k * 3 + 1 + 1 + 1 by omega]; exact F3.out.set U2.out, fun h => absurd h (by omega), O3.out.trans (Only.set _ _ _)⟩, by simp [intOf]; omega⟩
    · obtain rfl : k = n := by omega
      go_wp2
      go_ret
      exact ⟨rfl, HZ.out, HO.out, HF.out⟩
set_option maxHeartbeats 1000000 in
theorem heldValueSK (N : Nat) (A : Option Addr) (g cap n : Nat) (w : World) (hN : 0 < N) (hl : N + 3 * n ≤ 7000000) (hF : Fl w g 0 A (flatV (marksK N n))) : Calls Try.prog 42 #[.slice A n cap, .int .i64 (N : Int)] w fun e w' => e = .returned (.int .i64 ((N : Int) + 3 * n)) ∧ Below w.heap.size w w' := by
  have HF := Lib.hid hF
  clear hF
  go_enter Try.func42, Try.ntmps42
  go_wp2
  go_loopw [1, 5] (fun kx ix wr => ∃ (k : Nat), k ≤ n ∧ ix = .int .i64 k ∧ kx = .int .i64 ((N : Int) + 3 * k) ∧ Hid (Below w.heap.size w wr)) (fun _ ix _ => n - (intOf ix).toNat)
  case atStart => exact ⟨0, Nat.zero_le _, rfl, rfl, Below.refl _ _⟩
  case round =>
    obtain ⟨k, hk, rfl, rfl, HB⟩ := hrel
    by_cases hlt : k < n
    · have hB := HB.out.size
      have hv := (HF.out.below HB.out).v k (by rw [marksK_len]; exact hlt)
      have e : (marksK N n)[k]'(by rw [marksK_len]; exact hlt) = ((N : Int) + 3 * k, (N : Int) + 1 + 3 * k, mT (N + 2 + 3 * k)) := by simp [marksK]
      rw [e] at hv
      obtain ⟨rfl, hg, c0, c1, c2⟩ := hv
      simp only [Nat.zero_add] at c0 c1 c2
      clear e
      obtain ⟨T, hT⟩ : ∃ T, mT (N + 2 + 3 * k) = T := ⟨_, rfl⟩
      have CM := Lib.hid (fun z W hz => markTextPZ z (N + 2 + 3 * k) W hz (by omega) (by omega))
      rw [hT] at CM c2
      clear hT
      have i0' : (0 : Int) ≤ (k : Int) := by omega
      have i1' : (k : Int) < (n : Int) := by omega
      have j0' : (N : Int) + 3 * k + 1 = (N : Int) + 1 + 3 * k := by omega
      have HS0 : wr.cell? ⟨g, k * 3 + 2, none⟩ = some (.string T) ∧ g < wr.heap.size ∧ Below w.heap.size w wr ∧ w.heap.size ≤ wr.heap.size := ⟨c2, hg, HB.out, hB⟩
      clear c2
      go_wp2_with (fail)
      go_region_held_law (fun w' => w'.cell? ⟨g, k * 3 + 2, none⟩ = some (.string T) ∧ g < w'.heap.size ∧ Below w.heap.size w w' ∧ w.heap.size ≤ w'.heap.size) (first | exact keepM (by assumption) hbq | exact keepMD (by assumption) | assumption) (first | (go_at_call 87; (with_reducible refine (CM.out _ _ (by omega)).mono ?_); rintro e w1 ⟨rfl, hbq⟩))
      have HW : w1.cell? ⟨g, k * 3 + 2, none⟩ = some (.string T) ∧ g < w1.heap.size ∧ Below w.heap.size w w1 ∧ w.heap.size ≤ w1.heap.size := by assumption
      go_wp2
      exact ⟨⟨k + 1, by omega, by go_num, by go_num, HW.2.2.1⟩, by simp [intOf]; omega⟩
    · obtain rfl : k = n := by omega
      go_wp2
      go_ret
      exact ⟨rfl, HB.out⟩
/-- What a row, rows are after their marks. -/
def markR (N : Nat) (t : TT) : TT := (t.1, t.2.1, marksK N t.2.2.length)
def tot (T : List TT) : Nat := total (T.map fun t => t.2.2)
def markT (N : Nat) : List TT → List TT
  | [] => []
  | t :: T => markR N t :: markT (N + 3 * t.2.2.length) T
theorem tot_cons (t : TT) (T : List TT) : tot (t :: T) = t.2.2.length + tot T := by simp [tot, total]
theorem tot_snoc (T : List TT) (k : Nat) (h : k < T.length) : tot (T.take (k + 1)) = tot (T.take k) + T[k].2.2.length := by
  rw [tot, List.take_succ_eq_append_getElem h, List.map_append, total, List.map_append, List.sum_append]; simp [tot, total]
theorem markT_app (N : Nat) (T : List TT) (t : TT) : markT N (T ++ [t]) = markT N T ++ [markR (N + 3 * tot T) t] := by
  induction T generalizing N with
  | nil => simp [markT, tot, total]
  | cons u T ih => simp only [List.cons_append, markT, ih, tot_cons]; rw [show N + 3 * u.2.2.length + 3 * tot T = N + 3 * (u.2.2.length + tot T) by omega]
theorem markT_len (N : Nat) (T : List TT) : (markT N T).length = T.length := by
  induction T generalizing N with
  | nil => rfl
  | cons u T ih => simp [markT, ih]
theorem markR_hdr (N : Nat) (t : TT) : hdr (markR N t) = hdr t := by simp [hdr, markR, marksK_len]
theorem markT_hdr (N : Nat) (T : List TT) : (markT N T).map hdr = T.map hdr := by
  induction T generalizing N with
  | nil => rfl
  | cons u T ih => simp [markT, ih, markR_hdr]
theorem markT_block (N : Nat) (T : List TT) : (markT N T).map (fun t => t.1) = T.map (fun t => t.1) := by
  induction T generalizing N with
  | nil => rfl
  | cons u T ih => simp [markT, ih, markR]
theorem markT_tot (N : Nat) (T : List TT) : tot (markT N T) = tot T := by
  induction T generalizing N with
  | nil => rfl
  | cons u T ih => rw [markT, tot_cons, tot_cons, ih, markR, marksK_len]
theorem markT_get (N : Nat) (T : List TT) (k : Nat) (h : k < T.length) (h' : k < (markT N T).length) : (markT N T)[k] = markR (N + 3 * tot (T.take k)) T[k] := by
  induction T generalizing N k with
  | nil => simp at h
  | cons u T ih =>
    cases k with
    | zero => simp [markT, tot, total]
    | succ k =>
      simp only [markT, List.getElem_cons_succ, List.take_succ_cons, tot_cons]
      rw [ih (N + 3 * u.2.2.length) k (by simpa using h) (by rw [markT_len]; simpa using h), show N + 3 * u.2.2.length + 3 * tot (T.take k) = N + 3 * (u.2.2.length + tot (T.take k)) by omega]
/-- No block but those of bs turned. -/
structure OnlyT (bs : List Nat) (w w' : World) : Prop where
  os : w'.os = w.os
  tape : w'.tape = w.tape
  output : w'.output = w.output
  size : w.heap.size ≤ w'.heap.size
  block : ∀ k, k < w.heap.size → k ∉ bs → w'.heap[k]? = w.heap[k]?
theorem OnlyT.refl (bs : List Nat) (w : World) : OnlyT bs w w := ⟨rfl, rfl, rfl, Nat.le_refl _, fun _ _ _ => rfl⟩
theorem OnlyT.only {bs : List Nat} {w w1 w2 : World} {r : Nat} (h : OnlyT bs w w1) (ho : Only r w1 w2) (hr : r ∈ bs) : OnlyT bs w w2 :=
  ⟨ho.os.trans h.os, ho.tape.trans h.tape, ho.output.trans h.output, Nat.le_trans h.size ho.size, fun k hk hkb => (ho.block k (Nat.lt_of_lt_of_le hk h.size) (fun e => hkb (e ▸ hr))).trans (h.block k hk hkb)⟩
theorem OnlyT.below {bs : List Nat} {w w1 : World} {N : Nat} (h : OnlyT bs w w1) (hN : N ≤ w.heap.size) (hb : ∀ b ∈ bs, N ≤ b) : Below N w w1 :=
  ⟨h.os, h.tape, h.output, h.size, fun k hk => h.block k (by omega) (fun e => by have := hb k e; omega)⟩
theorem RowO.fill {w : World} {B : Nat} {t : TT} (h : RowO w B t) (xs : List Value) (hx : xs.length = (flatV t.2.2).length) : Fill w t.1 xs 0 := by
  intro j hj
  have hj2 : j < (flatV t.2.2).length := by omega
  refine ⟨⟨_, by have := h.fl.c j hj2; rwa [Nat.zero_add] at this⟩, h.fz j hj2, fun h0 => absurd h0 (by omega)⟩
theorem RowO.marked {w w' : World} {B N : Nat} {t : TT} (h : RowO w B t) (ho : Only t.1 w w') (hf : Fill w' t.1 (flatV (marksK N t.2.2.length)) (t.2.2.length * 3)) : RowO w' B (markR N t) := by
  have hl : (flatV (marksK N t.2.2.length)).length = t.2.2.length * 3 := by rw [flatV_len, marksK_len]
  rw [← hl] at hf
  exact ⟨hf.fl, hf.fz, h.lo, Nat.lt_of_lt_of_le h.hi ho.size⟩
/-- A row of the rows was marked. -/
theorem Bag.marked {w w' : World} {B g cap N : Nat} {T1 T2 : List TT} {t : TT} {ls : List RT} (h : Bag w B g cap (T1 ++ t :: T2) ls) (ho : Only t.1 w w') (hf : Fill w' t.1 (flatV (marksK N t.2.2.length)) (t.2.2.length * 3)) : Bag w' B g cap (T1 ++ markR N t :: T2) ((T1 ++ markR N t :: T2).map fun t => t.2.2) := by
  have hm : t ∈ T1 ++ t :: T2 := by simp
  have hg := h.ng t hm
  have hlo := h.lo
  have hll := h.len
  have hne : ∀ u, u ∈ T1 ∨ u ∈ T2 → u.1 ≠ t.1 := by
    have h1 := h.nd
    rw [List.map_append, List.map_cons, List.nodup_append] at h1
    intro u hu e
    rcases hu with hu | hu
    · exact h1.2.2 u.1 (List.mem_map_of_mem (f := fun t : TT => t.1) hu) t.1 (by simp) e
    · have h2 := (List.nodup_cons.1 h1.2.1).1
      exact h2 (by rw [← e]; exact List.mem_map_of_mem (f := fun t : TT => t.1) hu)
  refine ⟨rfl, ?_, ?_, ?_, ?_⟩
  · rw [List.length_map]
    have e1 : (T1 ++ markR N t :: T2).length = ls.length := by rw [← hll]; simp
    have e2 : (T1 ++ markR N t :: T2).map hdr = (T1 ++ t :: T2).map hdr := by simp [markR_hdr]
    rw [e1, e2]
    exact own_keep h.own (ho.block g hlo.2 (fun e => hg e.symm))
  · intro u hu
    rcases List.mem_append.1 hu with hu | hu
    · have h3 := h.rows u (by simp [hu])
      exact h3.keep ho.size (ho.block _ h3.hi (hne u (.inl hu)))
    · rcases List.mem_cons.1 hu with rfl | hu
      · exact (h.rows t hm).marked ho hf
      · have h3 := h.rows u (by simp [hu])
        exact h3.keep ho.size (ho.block _ h3.hi (hne u (.inr hu)))
  · have h1 := h.nd
    simpa [markR] using h1
  · intro u hu
    rcases List.mem_append.1 hu with hu | hu
    · exact h.ng u (by simp [hu])
    · rcases List.mem_cons.1 hu with rfl | hu
      · exact hg
      · exact h.ng u (by simp [hu])
theorem only_same {r : Nat} {w w' : World} (h : w' = w) : Only r w w' := by subst h; exact Only.refl _ _
theorem tot_get_le (T : List TT) (k : Nat) (h : k < T.length) : tot (T.take k) + T[k].2.2.length ≤ tot T := by
  have h1 := tot_snoc T k h
  have h2 : tot (T.take (k + 1)) + tot (T.drop (k + 1)) = tot T := by
    rw [tot, tot, tot, total, total, total, ← List.sum_append, ← List.map_append, ← List.map_append, List.take_append_drop]
  omega
theorem markValueSS (N B g cap n : Nat) (T : List TT) (ls : List RT) (w : World) (hN : 0 < N) (h : Bag w B g cap T ls) (hn : n = T.length) (hl : N + 3 * tot T ≤ 7000000) (hl2 : T.length ≤ 2000000) :
    Calls Try.prog 21 #[.slice (some ⟨g, 0, none⟩) n cap, .int .i64 (N : Int)] w fun e w' => e = .returned (.int .i64 ((N + 3 * tot T : Nat) : Int)) ∧ Bag w' B g cap (markT N T) ((markT N T).map fun t => t.2.2) ∧ OnlyT (T.map fun t => t.1) w w' := by
  subst hn
  have HBAG := Lib.hid h
  have h0 := Lib.hid h.eq
  clear h
  go_enter Try.func21, Try.ntmps21
  go_wp2
  go_loopw [1, 5] (fun kx ix wr => ∃ (k K : Nat), k ≤ T.length ∧ ix = .int .i64 k ∧ kx = .int .i64 (K : Int) ∧ Hid (K = N + 3 * tot (T.take k)) ∧ Hid (∃ ms, Bag wr B g cap (markT N (T.take k) ++ T.drop k) ms) ∧ Hid (OnlyT (T.map fun t => t.1) w wr)) (fun _ ix _ => T.length - (intOf ix).toNat)
  case atStart => exact ⟨0, N, Nat.zero_le _, rfl, rfl, rfl, ⟨ls, HBAG.out⟩, OnlyT.refl _ _⟩
  case round =>
    clear HBAG
    obtain ⟨k, K, hk, rfl, rfl, HK, HBG, HO⟩ := hrel
    by_cases hlt : k < T.length
    · obtain ⟨ms, hbag⟩ := HBG.out
      have hTL : (markT N (T.take k)).length = k := by rw [markT_len]; simp; omega
      have hdrop := List.drop_eq_getElem_cons hlt
      rw [hdrop] at hbag
      have htk := tot_snoc T k hlt
      have htl := tot_get_le T k hlt
      have happ := markT_app N (T.take k) T[k]
      rw [← List.take_succ_eq_append_getElem hlt] at happ
      obtain ⟨U, hU⟩ : ∃ U, T[k] = U := ⟨_, rfl⟩
      have hUm : U ∈ T := by rw [← hU]; exact List.getElem_mem _
      rw [hU] at hbag htk htl happ
      have hK := HK.out
      rw [← hK] at happ
      have hlen := hbag.len
      have hc : wr.cell? ⟨g, k, none⟩ = some (hdr U) := by
        have h1 : k < (markT N (T.take k) ++ U :: T.drop (k + 1)).length := by rw [List.length_append, hTL]; simp
        rw [hbag.own.cellAt k (by omega), List.getElem?_map, List.getElem?_append_right (by omega), hTL]; simp
      have hu := hbag.rows U (by simp)
      have hg := hbag.lo.2
      obtain ⟨ub, uc, ur⟩ := U
      have HF := Lib.hid (hu.fill (flatV (marksK K ur.length)) (by simp [flatV_len, marksK_len]))
      have HBG2 := Lib.hid hbag
      have HAPP := Lib.hid happ
      have hK0 : 0 < K := by omega
      have hKb : K + 3 * ur.length ≤ 7000000 := by simp only at htl; omega
      have CM := Lib.hid (fun W hW => markValueSK K (some ⟨ub, 0, none⟩) ub uc ur.length W hK0 hKb (fun _ => rfl) hW)
      have hd : hdr (ub, uc, ur) = .slice (some ⟨ub, 0, none⟩) ur.length uc := rfl
      rw [hd] at hc
      have HTK := Lib.hid htk
      have i0' : (0 : Int) ≤ (k : Int) := by omega
      have i1' : (k : Int) < (T.length : Int) := by omega
      have hbs : ub ∈ T.map (fun t => t.1) := List.mem_map.2 ⟨_, hUm, rfl⟩
      clear hbag hdrop happ hu hd htk hU hUm hTL hlen HBG
      obtain ⟨ul, hul⟩ : ∃ n, ur.length = n := ⟨_, rfl⟩
      have HUL := Lib.hid hul
      rw [hul] at hc CM hKb
      clear hul htl hK
      go_wp2_with (go_at_call 41; (with_reducible refine (CM.out _ (by have h := HF.out; rw [HUL.out] at h; exact h)).mono ?_); rintro e w1 ⟨rfl, hz, ho, hf⟩; have HB1 := Lib.hid (Bag.marked (N := K) HBG2.out ho (by simp only; rw [HUL.out]; exact hf)); have HO1 := Lib.hid (HO.out.only ho hbs); clear ho hf hz HO HBG2)
      have HX : Hid (∃ ms, Bag w1 B g cap (markT N (T.take (k + 1)) ++ T.drop (k + 1)) ms) := ⟨_, by rw [HAPP.out, List.append_assoc]; exact HB1.out⟩
      refine ⟨⟨k + 1, K + 3 * ul, by omega, by go_num, by go_num, ?_, HX, HO1⟩, by simp [intOf]; omega⟩
      · show _ = _
        have h1 := HTK.out
        have h2 := HK.out
        have h3 := HUL.out
        (try simp only at h1)
        rw [h1, h2, ← h3]; omega
    · obtain rfl : k = T.length := by omega
      obtain ⟨ms, hbag⟩ := HBG.out
      rw [List.take_length, List.drop_length, List.append_nil] at hbag
      have HK2 : Hid (K = N + 3 * tot T) := by show _ = _; have := HK.out; rwa [List.take_length] at this
      obtain rfl := HK2.out
      have HBG3 : Hid (Bag wr B g cap (markT N T) ((markT N T).map fun t => t.2.2)) := by have h := hbag.eq; subst h; exact hbag
      clear hbag HBG
      go_wp2
      go_ret
      exact ⟨rfl, HBG3.out, HO.out⟩
theorem heldValueSS (N B g cap n : Nat) (T : List TT) (ls : List RT) (w : World) (hN : 0 < N) (h : Bag w B g cap (markT N T) ls) (hn : n = T.length) (hl : N + 3 * tot T ≤ 7000000) (hl2 : T.length ≤ 2000000) :
    Calls Try.prog 22 #[.slice (some ⟨g, 0, none⟩) n cap, .int .i64 (N : Int)] w fun e w' => e = .returned (.int .i64 ((N + 3 * tot T : Nat) : Int)) ∧ Below w.heap.size w w' := by
  subst hn
  have HBAG := Lib.hid h
  clear h
  go_enter Try.func22, Try.ntmps22
  go_wp2
  go_loopw [1, 5] (fun kx ix wr => ∃ (k K : Nat), k ≤ T.length ∧ ix = .int .i64 k ∧ kx = .int .i64 (K : Int) ∧ Hid (K = N + 3 * tot (T.take k)) ∧ Hid (Below w.heap.size w wr)) (fun _ ix _ => T.length - (intOf ix).toNat)
  case atStart => exact ⟨0, N, Nat.zero_le _, rfl, rfl, rfl, Below.refl _ _⟩
  case round =>
    obtain ⟨k, K, hk, rfl, rfl, HK, HW⟩ := hrel
    by_cases hlt : k < T.length
    · have hml : k < (markT N T).length := by rw [markT_len]; exact hlt
      have htk := tot_snoc T k hlt
      have htl := tot_get_le T k hlt
      have hget := markT_get N T k hlt hml
      have hbag := HBAG.out.below HW.out
      have hlen := hbag.len
      have hc : wr.cell? ⟨g, k, none⟩ = some (hdr (markT N T)[k]) := by
        rw [hbag.own.cellAt k (by omega), List.getElem?_map, List.getElem?_eq_getElem hml]; rfl
      have hu := hbag.rows (markT N T)[k] (List.getElem_mem _)
      have hg := hbag.lo.2
      rw [hget, ← HK.out] at hu
      rw [hget, ← HK.out, markR_hdr] at hc
      obtain ⟨U, hU⟩ : ∃ U, T[k] = U := ⟨_, rfl⟩
      rw [hU] at hu hc htk htl
      obtain ⟨ub, uc, ur⟩ := U
      have hK := HK.out
      have HF := Lib.hid hu.fl
      have hK0 : 0 < K := by omega
      have hKb : K + 3 * ur.length ≤ 7000000 := by simp only at htl; omega
      have CM := Lib.hid (fun W hW => heldValueSK K (some ⟨ub, 0, none⟩) ub uc ur.length W hK0 hKb hW)
      have hd : hdr (ub, uc, ur) = .slice (some ⟨ub, 0, none⟩) ur.length uc := rfl
      rw [hd] at hc
      have HTK := Lib.hid htk
      have i0' : (0 : Int) ≤ (k : Int) := by omega
      have i1' : (k : Int) < (T.length : Int) := by omega
      clear hbag hget hu hd htk hU hlen hml
      obtain ⟨ul, hul⟩ : ∃ n, ur.length = n := ⟨_, rfl⟩
      have HUL := Lib.hid hul
      rw [hul] at hc CM hKb
      clear hul htl hK
      have hnn : ¬ ((K : Int) + 3 * (ul : Int) < 0) := by omega
      go_wp2_with (go_at_call 42; (with_reducible refine (CM.out _ (by have h := HF.out; simp only [markR] at h; rw [HUL.out] at h; exact h)).mono ?_); rintro e w1 ⟨rfl, hb1⟩; have HW1 := Lib.hid (HW.out.trans (hb1.mono HW.out.size)); clear hb1 HW)
      refine ⟨⟨k + 1, K + 3 * ul, by omega, by go_num, by go_num, ?_, HW1⟩, by simp [intOf]; omega⟩
      show _ = _
      have h1 := HTK.out
      have h2 := HK.out
      have h3 := HUL.out
      (try simp only at h1)
      rw [h1, h2, ← h3]; omega
    · obtain rfl : k = T.length := by omega
      have HK2 : Hid (K = N + 3 * tot T) := by show _ = _; have := HK.out; rwa [List.take_length] at this
      obtain rfl := HK2.out
      go_wp2
      go_ret
      exact ⟨rfl, HW.out⟩
/-- All blocks of the rows lie below. -/
def Under (N g : Nat) (T : List TT) : Prop := g < N ∧ ∀ t ∈ T, t.1 < N
theorem Bag.under {w : World} {B g cap : Nat} {T : List TT} {ls : List RT} (h : Bag w B g cap T ls) : Under w.heap.size g T := ⟨h.lo.2, fun t ht => (h.rows t ht).hi⟩
theorem Bag.onlyLo {w w' : World} {B g cap N : Nat} {T : List TT} {ls : List RT} {bs : List Nat} (h : Bag w B g cap T ls) (hu : Under N g T) (ho : OnlyT bs w w') (hb : ∀ b ∈ bs, N ≤ b) : Bag w' B g cap T ls :=
  h.keep ho.size (ho.block _ h.lo.2 (fun e => by have := hb _ e; have := hu.1; omega)) (fun t ht => ho.block _ (h.rows t ht).hi (fun e => by have := hb _ e; have := hu.2 t ht; omega))
theorem Bag.onlyHi {w w' : World} {B g cap : Nat} {T : List TT} {ls : List RT} {bs : List Nat} (h : Bag w B g cap T ls) (ho : OnlyT bs w w') (hb : ∀ b ∈ bs, b < B) : Bag w' B g cap T ls :=
  h.keep ho.size (ho.block _ h.lo.2 (fun e => by have := hb _ e; have := h.lo.1; omega)) (fun t ht => ho.block _ (h.rows t ht).hi (fun e => by have := hb _ e; have := (h.rows t ht).lo; omega))
theorem Bag.above {w : World} {B g cap : Nat} {T : List TT} {ls : List RT} (h : Bag w B g cap T ls) : ∀ b ∈ T.map (fun t => t.1), B ≤ b := by
  intro b hb
  obtain ⟨t, ht, rfl⟩ := List.mem_map.1 hb
  exact (h.rows t ht).lo
theorem Under.all {N g : Nat} {T : List TT} (h : Under N g T) : ∀ b ∈ T.map (fun t => t.1), b < N := by
  intro b hb
  obtain ⟨t, ht, rfl⟩ := List.mem_map.1 hb
  exact h.2 t ht
theorem Bag.tot {w : World} {B g cap : Nat} {T : List TT} {ls : List RT} (h : Bag w B g cap T ls) : tot T = total ls := by rw [← h.eq]; rfl
theorem markSS (N M B g cap n : Nat) (T : List TT) (ls : List RT) (w : World) (hN : 0 < N) (h : Bag w B g cap T ls) (hn : n = ls.length) (hM : M = N + 3 * total ls) (hl : M ≤ 7000000) (hl2 : ls.length ≤ 2000000) :
    Calls Try.prog 21 #[.slice (some ⟨g, 0, none⟩) n cap, .int .i64 (N : Int)] w fun e w' => e = .returned (.int .i64 (M : Int)) ∧ Bag w' B g cap (markT N T) ((markT N T).map fun t => t.2.2) ∧ OnlyT (T.map fun t => t.1) w w' := by
  have h1 := h.tot
  have h2 := h.len
  have := markValueSS N B g cap n T ls w hN h (by omega) (by omega) (by omega)
  rwa [h1, ← hM] at this
theorem heldSS (N M B g cap n : Nat) (T : List TT) (zs ls : List RT) (w : World) (hN : 0 < N) (h : Bag w B g cap (markT N T) ls) (hT : T.map (fun t => t.2.2) = zs) (hn : n = zs.length) (hM : M = N + 3 * total zs) (hl : M ≤ 7000000) (hl2 : zs.length ≤ 2000000) :
    Calls Try.prog 22 #[.slice (some ⟨g, 0, none⟩) n cap, .int .i64 (N : Int)] w fun e w' => e = .returned (.int .i64 (M : Int)) ∧ Below w.heap.size w w' := by
  have h1 : tot T = total zs := by rw [← hT]; rfl
  have h2 : T.length = zs.length := by rw [← hT, List.length_map]
  have := heldValueSS N B g cap n T ls w hN h (by omega) (by omega) (by omega)
  rwa [h1, ← hM] at this
end Go.Proofs.Ytjidkjnlnenmbaa.Val
