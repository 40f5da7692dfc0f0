/- Batches: rows of truths, batches that are arguments: opened, measured, copied, compared, marked. -/
import Derived.Test.YtjidkjnlnenmbaaFlK
import Derived.Test.YtjidkjnlnenmbaaOpenS
import Derived.Test.YtjidkjnlnenmbaaLSS
import Derived.Test.YtjidkjnlnenmbaaRMark
namespace Go.Proofs.Ytjidkjnlnenmbaa.Val
open Go.ChangeShapes Go.WideShapes Go.ChangeAt Go.RowKit Go.Deep
set_option linter.unusedVariables false
set_option maxRecDepth 8000
/-! ### Truths -/
def tv (b : Bool) : Value := .bool b
theorem Fl.b {w : World} {g o : Nat} {A : Option Addr} {l : List Bool} (h : Fl w g o A (l.map tv)) (i : Nat) (hi : i < l.length) : A = some ⟨g, o, none⟩ ∧ g < w.heap.size ∧ w.cell? ⟨g, o + i, none⟩ = some (.bool l[i]) := by
  have hl : (l.map tv).length = l.length := List.length_map _
  refine ⟨h.ad (by omega), h.lt (by omega), ?_⟩
  rw [h.c i (by omega), List.getElem_map]; rfl
theorem one_tv (l : List Bool) : ∀ u ∈ l.map tv, u.oneCell' = true := by
  intro u hu
  obtain ⟨b, -, rfl⟩ := List.mem_map.1 hu
  rfl
theorem infoTv : (Try.prog.info? 4).map (fun i => (i.zero, i.size, i.bytes)) = some (some (.bool false), 1, 1) := by kernel_rfl
theorem infoBS : (Try.prog.info? 23).map (fun i => (i.zero, i.size, i.bytes)) = some (some (.slice none 0 0), 1, 24) := by kernel_rfl
theorem szBoolR (A : Option Addr) (n cap : Nat) (left : Int) (w : World) (h0 : 0 ≤ left) (h1 : left ≤ 1048576) (hn : n ≤ maxLen) : Calls Try.prog 58 #[.slice A n cap, .int .i64 left] w fun e w' => ∃ r : Int, (e = .returned (.int .i64 r) ∧ r ≤ left ∧ (0 ≤ r → r + (n : Int) ≤ left)) ∧ Below w.heap.size w w' := by
  unfold maxLen at hn
  go_enter Try.func58, Try.ntmps58
  go_wp2
  all_goals go_ret
  · exact ⟨-1, ⟨rfl, by omega, fun h => absurd h (by omega)⟩, Below.refl _ _⟩
  · exact ⟨_, ⟨rfl, by omega, by omega⟩, Below.refl _ _⟩
theorem toBoolS (A : Option Addr) (g0 o cap : Nat) (l : List Bool) (w : World) (h : Fl w g0 o A (l.map tv)) (hl : l.length ≤ 1048576) : Calls Try.prog 60 #[.slice A l.length cap] w (RetFl l.length (l.map tv) w) := by
  obtain ⟨i0, hi, hz0, hz1', hz2⟩ := info_parts infoTv
  have HA := Lib.hid h
  clear h
  have hfl : (l.map tv).length = l.length := List.length_map _
  have hfl1 : (l.map tv).length = l.length * 1 := by omega
  go_enter Try.func60, Try.ntmps60
  go_wp2_with (at_make; refine wpList_make_full w rfl _ _ 23 rfl w.heap.size 4 i0 (.bool false) 1 Try.underlying23 hi hz0 hz1' .i64 .i64 l.length l.length l.length rfl rfl rfl rfl (by rw [hz2]; omega) (by unfold maxLen; omega) (Nat.le_refl _) ?_; intro w0 hown hgr)
  have HB0 : Hid (Below w.heap.size w w0) := Below.grown (Below.refl _ _) hgr (Nat.le_refl _) (by intro k hk; cases hk)
  have HC0 : Hid (Fill w0 w.heap.size (l.map tv) 0) := Fill.made hown hfl1
  have hsz0 := (hown.lt w.heap.size rfl).2
  clear hown hgr
  go_wp2
  go_loopw [4] (fun ix wr => ∃ k : Nat, k ≤ l.length ∧ ix = .int .i64 k ∧ w.heap.size < wr.heap.size ∧ Hid (Below w.heap.size w wr) ∧ Hid (Fill wr w.heap.size (l.map tv) k)) (fun ix _ => l.length - (intOf ix).toNat)
  case atStart => exact ⟨0, by omega, rfl, hsz0, HB0, HC0⟩
  case round =>
    obtain ⟨k, hk, rfl, hsz, HB, HF⟩ := hrel
    clear HB0 HC0
    by_cases hlt : k < l.length
    · obtain ⟨rfl, hg, -⟩ := HA.out.b k hlt
      obtain ⟨-, hg2, c0⟩ := (HA.out.below HB.out).b k hlt
      have u0 : (l.map tv)[k]? = some (.bool l[k]) := by rw [List.getElem?_map, List.getElem?_eq_getElem hlt]; rfl
      obtain ⟨K, hK⟩ : ∃ K, l[k] = K := ⟨_, rfl⟩
      rw [hK] at c0 u0
      have U0 := Lib.hid u0
      obtain ⟨⟨v0, hv0⟩, hf0, -⟩ := HF.out k (by omega)
      clear hK u0
      have i0' : (0 : Int) ≤ (k : Int) := by omega
      have i1' : (k : Int) < (l.length : Int) := by omega
      go_wp2
      exact ⟨⟨k + 1, by omega, by go_num, (by simp [World.setCell]; exact hsz), HB.out.setCell (Nat.le_refl _) _, HF.out.set U0.out⟩, by simp [intOf]; omega⟩
    · obtain rfl : k = l.length := by omega
      go_wp2
      go_ret
      rw [← hfl] at HF
      exact ⟨w.heap.size, l.length, rfl, ⟨HF.out.fl, HF.out.fz, Nat.le_refl _, hsz, Nat.le_refl _, by unfold maxLen; omega⟩, HB.out⟩
/-- Two rows of the same truths. -/
theorem eqBoolS (A B : Option Addr) (g g' o o' cA cB : Nat) (l : List Bool) (w : World) (hA : Fl w g o A (l.map tv)) (hB : Fl w g' o' B (l.map tv)) (hl : l.length ≤ 2000000) :
    Calls Try.prog 62 #[.slice A l.length cA, .slice B l.length cB] w fun e w' => e = .returned (.bool true) ∧ Below w.heap.size w w' := by
  have HA := Lib.hid hA
  have HB := Lib.hid hB
  clear hA hB
  have e0 : ((l.length : Int) != l.length) = false := by simp
  go_enter Try.func62, Try.ntmps62
  go_wp2
  go_loopw [5] (fun ix wr => ∃ (k : Nat), k ≤ l.length ∧ ix = .int .i64 k ∧ Hid (Below w.heap.size w wr)) (fun ix _ => l.length - (intOf ix).toNat)
  case atStart => exact ⟨0, by omega, rfl, Below.refl _ _⟩
  case round =>
    obtain ⟨k, hk, rfl, HW⟩ := hrel
    by_cases hlt : k < l.length
    · obtain ⟨rfl, -, -⟩ := HA.out.b k hlt
      obtain ⟨rfl, -, -⟩ := HB.out.b k hlt
      obtain ⟨-, hg2, c0⟩ := (HA.out.below HW.out).b k hlt
      obtain ⟨-, hg2', d0⟩ := (HB.out.below HW.out).b k hlt
      obtain ⟨K, hK⟩ : ∃ K, l[k] = K := ⟨_, rfl⟩
      rw [hK] at c0 d0
      clear hK
      have e1 : (K != K) = false := by simp
      have i0' : (0 : Int) ≤ (k : Int) := by omega
      have i1' : (k : Int) < (l.length : Int) := by omega
      go_wp2
      all_goals (try go_region)
      all_goals (try go_wp2)
      all_goals first
        | exact ⟨⟨k + 1, by omega, by go_num, HW⟩, by simp [intOf]; omega⟩
        | exact ⟨⟨k + 1, by omega, by go_num, HW.out.drew⟩, by simp [intOf]; omega⟩
    · obtain rfl : k = l.length := by omega
      go_wp2
      go_ret
      exact ⟨rfl, HW.out⟩
/-- The marks of n truths. -/
def marksB (N n : Nat) : List Bool := (List.range n).map fun (i : Nat) => (((N : Int) + (i : Int)) % 3 == 0)
theorem marksB_len (N n : Nat) : (marksB N n).length = n := by simp [marksB]
theorem marksB_get (N n i : Nat) (h : i < n) : ((marksB N n).map tv)[i]? = some (.bool ((((N : Int) + (i : Int)) % 3 == 0))) := by
  rw [List.getElem?_map, List.getElem?_eq_getElem (by rw [marksB_len]; exact h)]
  simp [marksB, tv]
theorem markBoolSK (N : Nat) (A : Option Addr) (g cap n : Nat) (w : World) (hl : N + n ≤ 7000000) (hA : 0 < n → A = some ⟨g, 0, none⟩) (hF : Fill w g ((marksB N n).map tv) 0) : Calls Try.prog 65 #[.slice A n cap, .int .i64 (N : Int)] w fun e w' => e = .returned (.int .i64 ((N : Int) + n)) ∧ (n = 0 → w' = w) ∧ Only g w w' ∧ Fill w' g ((marksB N n).map tv) n := by
  have HA := Lib.hid hF
  have HAD := Lib.hid hA
  clear hF hA
  go_enter Try.func65, Try.ntmps65
  go_wp2
  go_loopw [1, 5] (fun kx ix wr => ∃ (k : Nat), k ≤ n ∧ ix = .int .i64 k ∧ kx = .int .i64 ((N : Int) + k) ∧ Hid (Fill wr g ((marksB N n).map tv) k) ∧ Hid (k = 0 → wr = w) ∧ Hid (Only g w wr)) (fun _ ix _ => n - (intOf ix).toNat)
  case atStart => exact ⟨0, Nat.zero_le _, rfl, by go_num, HA, fun _ => rfl, Only.refl _ _⟩
  case round =>
    obtain ⟨k, hk, rfl, rfl, HF, HZ, HO⟩ := hrel
    by_cases hlt : k < n
    · obtain rfl := HAD.out (by omega)
      have U0 := Lib.hid (marksB_get N n k hlt)
      have hlen : ((marksB N n).map tv).length = n := by rw [List.length_map, marksB_len]
      have F1 := Lib.hid (HF.out.set U0.out)
      have O1 := Lib.hid (fun u => HO.out.trans (Only.set wr k u))
      obtain ⟨⟨v0, hv0⟩, f0, -⟩ := HF.out k (by omega)
      have e1 : Int.tmod ((N : Int) + k) 3 = ((N : Int) + k) % 3 := Int.tmod_eq_emod_of_nonneg (by omega)
      have i0' : (0 : Int) ≤ (k : Int) := by omega
      have i1' : (k : Int) < (n : Int) := by omega
      clear hlen
      go_wp2
      exact ⟨⟨k + 1, by omega, by go_num, by go_num, F1.out, fun h => absurd h (by omega), O1.out _⟩, by simp [intOf]; omega⟩
    · obtain rfl : k = n := by omega
      go_wp2
      go_ret
      exact ⟨rfl, HZ.out, HO.out, HF.out⟩
theorem heldBoolSK (N : Nat) (A : Option Addr) (g cap n : Nat) (w : World) (hl : N + n ≤ 7000000) (hF : Fl w g 0 A ((marksB N n).map tv)) : Calls Try.prog 76 #[.slice A n cap, .int .i64 (N : Int)] w fun e w' => e = .returned (.int .i64 ((N : Int) + n)) ∧ Below w.heap.size w w' := by
  have HF := Lib.hid hF
  clear hF
  go_enter Try.func76, Try.ntmps76
  go_wp2
  go_loopw [1, 5] (fun kx ix wr => ∃ (k : Nat), k ≤ n ∧ ix = .int .i64 k ∧ kx = .int .i64 ((N : Int) + k) ∧ Hid (Below w.heap.size w wr)) (fun _ ix _ => n - (intOf ix).toNat)
  case atStart => exact ⟨0, Nat.zero_le _, rfl, by go_num, Below.refl _ _⟩
  case round =>
    obtain ⟨k, hk, rfl, rfl, HB⟩ := hrel
    by_cases hlt : k < n
    · have hv := (HF.out.below HB.out).b k (by rw [marksB_len]; exact hlt)
      have e : (marksB N n)[k]'(by rw [marksB_len]; exact hlt) = (((N : Int) + (k : Int)) % 3 == 0) := by simp [marksB]
      rw [e] at hv
      obtain ⟨rfl, hg, c0⟩ := hv
      simp only [Nat.zero_add] at c0
      clear e
      have e1 : Int.tmod ((N : Int) + k) 3 = ((N : Int) + k) % 3 := Int.tmod_eq_emod_of_nonneg (by omega)
      have i0' : (0 : Int) ≤ (k : Int) := by omega
      have i1' : (k : Int) < (n : Int) := by omega
      go_wp2
      all_goals exact ⟨⟨k + 1, by omega, by go_num, by go_num, HB⟩, by simp [intOf]; omega⟩
    · obtain rfl : k = n := by omega
      go_wp2
      go_ret
      exact ⟨rfl, HB.out⟩
/-! ### Batches -/
abbrev BA := List RT × List Bool
theorem szBatch (A1 A2 : Option Addr) (g1 o1 c1 c2 : Nat) (ls : List RT) (bs : List Bool) (left : Int) (w : World) (h1 : RwsA w g1 o1 A1 ls) (h0 : 0 ≤ left) (hl : left ≤ 1048576) (hm : ls.length ≤ maxLen) (hs : Fit2 ls) (hn : bs.length ≤ maxLen) :
    Calls Try.prog 12 #[.agg #[.slice A1 ls.length c1, .slice A2 bs.length c2], .int .i64 left] w fun e w' => ∃ r : Int, (e = .returned (.int .i64 r) ∧ r ≤ left ∧ (0 ≤ r → r + (ls.length : Int) + (total ls : Int) + (bs.length : Int) ≤ left)) ∧ Below w.heap.size w w' := by
  have H1 := Lib.hid h1
  have C1 := Lib.hid (fun W hW => szValueSS A1 g1 o1 c1 ls left W hW h0 hl hm hs)
  have C2 := Lib.hid (fun r W (hr : 0 ≤ r) (hr1 : r ≤ 1048576) => szBoolR A2 bs.length c2 r W hr hr1 hn)
  clear h1 hs
  have HB := Lib.hid (Below.refl w.heap.size w)
  have S0 := True.intro
  go_enter Try.func12, Try.ntmps12
  go_wp2_with (first
    | ((go_at_call 24; ((with_reducible refine (C1.out _ (H1.out.below (by repeat (with_reducible first | exact HB.out | refine Below.alloc ?_ (by first | omega | (have := HB.out.size; omega) | (simp; done) | (have := HB.out.size; simp; omega)) _ | apply Below.drew)))).mono ?_); (try (have hc10 := hc9; have hf10 := hf9; have hz10 := hz9; have hb10 := hb9; have hya_10 := hya_9; clear hc9 hf9 hz9 hb9 hya_9)); (try (have hc9 := hc8; have hf9 := hf8; have hz9 := hz8; have hb9 := hb8; have hya_9 := hya_8; clear hc8 hf8 hz8 hb8 hya_8)); (try (have hc8 := hc7; have hf8 := hf7; have hz8 := hz7; have hb8 := hb7; have hya_8 := hya_7; clear hc7 hf7 hz7 hb7 hya_7)); (try (have hc7 := hc6; have hf7 := hf6; have hz7 := hz6; have hb7 := hb6; have hya_7 := hya_6; clear hc6 hf6 hz6 hb6 hya_6)); (try (have hc6 := hc5; have hf6 := hf5; have hz6 := hz5; have hb6 := hb5; have hya_6 := hya_5; clear hc5 hf5 hz5 hb5 hya_5)); (try (have hc5 := hc4; have hf5 := hf4; have hz5 := hz4; have hb5 := hb4; have hya_5 := hya_4; clear hc4 hf4 hz4 hb4 hya_4)); (try (have hc4 := hc3; have hf4 := hf3; have hz4 := hz3; have hb4 := hb3; have hya_4 := hya_3; clear hc3 hf3 hz3 hb3 hya_3)); (try (have hc3 := hc2; have hf3 := hf2; have hz3 := hz2; have hb3 := hb2; have hya_3 := hya_2; clear hc2 hf2 hz2 hb2 hya_2)); (try (have hc2 := hc1; have hf2 := hf1; have hz2 := hz1; have hb2 := hb1; have hya_2 := hya_1; clear hc1 hf1 hz1 hb1 hya_1)); rintro e w1 ⟨r1, rfl, hr1, hr2, hb1⟩; obtain ⟨hc1, hf1⟩ := bcell hb1; (try simp only [World.size_drew, World.cell?_drew, World.frozen?_drew] at hc1 hf1); have hz1 := hb1.size; (try simp at hz1); have hya_1 : w.heap.size < w1.heap.size := (by omega); have HBn : Hid (Below w.heap.size w w1) := Below.trans (by repeat (with_reducible first | exact HB.out | refine Below.alloc ?_ (by first | omega | (have := HB.out.size; omega) | (simp; done) | (have := HB.out.size; simp; omega)) _ | apply Below.drew)) (Below.mono hb1 (by have := HB.out.size; first | omega | (simp; done) | (simp; omega))); clear HB; have HB := HBn; clear HBn)))
    | ((go_at_call 58; ((with_reducible refine (C2.out _ _ (by omega) (by omega)).mono ?_); (try (have hc10 := hc9; have hf10 := hf9; have hz10 := hz9; have hb10 := hb9; have hya_10 := hya_9; clear hc9 hf9 hz9 hb9 hya_9)); (try (have hc9 := hc8; have hf9 := hf8; have hz9 := hz8; have hb9 := hb8; have hya_9 := hya_8; clear hc8 hf8 hz8 hb8 hya_8)); (try (have hc8 := hc7; have hf8 := hf7; have hz8 := hz7; have hb8 := hb7; have hya_8 := hya_7; clear hc7 hf7 hz7 hb7 hya_7)); (try (have hc7 := hc6; have hf7 := hf6; have hz7 := hz6; have hb7 := hb6; have hya_7 := hya_6; clear hc6 hf6 hz6 hb6 hya_6)); (try (have hc6 := hc5; have hf6 := hf5; have hz6 := hz5; have hb6 := hb5; have hya_6 := hya_5; clear hc5 hf5 hz5 hb5 hya_5)); (try (have hc5 := hc4; have hf5 := hf4; have hz5 := hz4; have hb5 := hb4; have hya_5 := hya_4; clear hc4 hf4 hz4 hb4 hya_4)); (try (have hc4 := hc3; have hf4 := hf3; have hz4 := hz3; have hb4 := hb3; have hya_4 := hya_3; clear hc3 hf3 hz3 hb3 hya_3)); (try (have hc3 := hc2; have hf3 := hf2; have hz3 := hz2; have hb3 := hb2; have hya_3 := hya_2; clear hc2 hf2 hz2 hb2 hya_2)); (try (have hc2 := hc1; have hf2 := hf1; have hz2 := hz1; have hb2 := hb1; have hya_2 := hya_1; clear hc1 hf1 hz1 hb1 hya_1)); rintro e w1 ⟨r2, ⟨rfl, hr3, hr4⟩, hb1⟩; obtain ⟨hc1, hf1⟩ := bcell hb1; (try simp only [World.size_drew, World.cell?_drew, World.frozen?_drew] at hc1 hf1); have hz1 := hb1.size; (try simp at hz1); have hya_1 : w.heap.size < w1.heap.size := (by omega); have HBn : Hid (Below w.heap.size w w1) := Below.trans (by repeat (with_reducible first | exact HB.out | refine Below.alloc ?_ (by first | omega | (have := HB.out.size; omega) | (simp; done) | (have := HB.out.size; simp; omega)) _ | apply Below.drew)) (Below.mono hb1 (by have := HB.out.size; first | omega | (simp; done) | (simp; omega))); clear HB; have HB := HBn; clear HBn))))
  all_goals go_ret
  · exact ⟨-1, ⟨rfl, by omega, fun h => absurd h (by omega)⟩, HB.out⟩
  · exact ⟨-1, ⟨rfl, by omega, fun h => absurd h (by omega)⟩, HB.out⟩
  · exact ⟨r2, ⟨rfl, by omega, fun h => by have := hr4 h; have := hr2 (by omega); omega⟩, HB.out⟩
/-- A batch of one's own: its columns, what is picked. -/
structure BatO (w : World) (B g c : Nat) (T : List TT) (gp cp : Nat) (ls : List RT) (bs : List Bool) : Prop where
  bag : Bag w B g c T ls
  pk : FlO w B gp cp bs.length (bs.map tv)
  ne : gp ≠ g
  nt : ∀ t ∈ T, t.1 ≠ gp
theorem BatO.below {w w' : World} {B g c gp cp : Nat} {T : List TT} {ls : List RT} {bs : List Bool} (h : BatO w B g c T gp cp ls bs) (hb : Below w.heap.size w w') : BatO w' B g c T gp cp ls bs := ⟨h.bag.below hb, h.pk.below hb, h.ne, h.nt⟩
theorem BatO.alloc {w : World} {B g c gp cp : Nat} {T : List TT} {ls : List RT} {bs : List Bool} (h : BatO w B g c T gp cp ls bs) (ob : Obj) : BatO (w.alloc ob) B g c T gp cp ls bs := h.below ((Below.refl _ _).alloc (Nat.le_refl _) _)
theorem BatO.drew {w : World} {B g c gp cp : Nat} {T : List TT} {ls : List RT} {bs : List Bool} (h : BatO w B g c T gp cp ls bs) : BatO w.drew B g c T gp cp ls bs := h.below ((Below.refl _ _).drew)
/-- Batches that lie. -/
structure BatR (w : World) (A1 : Option Addr) (g1 o1 : Nat) (A2 : Option Addr) (g2 o2 : Nat) (ls : List RT) (bs : List Bool) : Prop where
  cs : Rws w g1 o1 A1 ls
  pk : Fl w g2 o2 A2 (bs.map tv)
theorem BatR.below {w w' : World} {A1 A2 : Option Addr} {g1 o1 g2 o2 : Nat} {ls : List RT} {bs : List Bool} (h : BatR w A1 g1 o1 A2 g2 o2 ls bs) (hb : Below w.heap.size w w') : BatR w' A1 g1 o1 A2 g2 o2 ls bs := ⟨h.cs.below hb, h.pk.below hb⟩
theorem BatR.alloc {w : World} {A1 A2 : Option Addr} {g1 o1 g2 o2 : Nat} {ls : List RT} {bs : List Bool} (h : BatR w A1 g1 o1 A2 g2 o2 ls bs) (ob : Obj) : BatR (w.alloc ob) A1 g1 o1 A2 g2 o2 ls bs := h.below ((Below.refl _ _).alloc (Nat.le_refl _) _)
theorem BatR.drew {w : World} {A1 A2 : Option Addr} {g1 o1 g2 o2 : Nat} {ls : List RT} {bs : List Bool} (h : BatR w A1 g1 o1 A2 g2 o2 ls bs) : BatR w.drew A1 g1 o1 A2 g2 o2 ls bs := h.below ((Below.refl _ _).drew)
theorem BatO.r {w : World} {B g c gp cp : Nat} {T : List TT} {ls : List RT} {bs : List Bool} (h : BatO w B g c T gp cp ls bs) : BatR w (some ⟨g, 0, none⟩) g 0 (some ⟨gp, 0, none⟩) gp 0 ls bs := ⟨h.bag.rws, h.pk.fl⟩
def RetBat (ls : List RT) (bs : List Bool) (w : World) (e : Ending) (w' : World) : Prop := ∃ (g c : Nat) (T : List TT) (gp cp : Nat), (e = .returned (.agg #[.slice (some ⟨g, 0, none⟩) ls.length c, .slice (some ⟨gp, 0, none⟩) bs.length cp]) ∧ BatO w' w.heap.size g c T gp cp ls bs) ∧ Below w.heap.size w w'
theorem toBatch (A1 A2 : Option Addr) (g1 o1 c1 g2 o2 c2 : Nat) (ls : List RT) (bs : List Bool) (w : World) (h1 : RwsA w g1 o1 A1 ls) (h2 : Fl w g2 o2 A2 (bs.map tv)) (hl1 : ls.length ≤ 1048576) (ht : total ls ≤ 1048576) (hl2 : bs.length ≤ 1048576) :
    Calls Try.prog 14 #[.agg #[.slice A1 ls.length c1, .slice A2 bs.length c2]] w (RetBat ls bs w) := by
  have H1 := Lib.hid h1
  have H2 := Lib.hid h2
  have C1 := Lib.hid (fun W hW => toValueSS A1 g1 o1 c1 ls W hW hl1 ht)
  have C2 := Lib.hid (fun W hW => toBoolS A2 g2 o2 c2 bs W hW hl2)
  unfold RetBag at C1
  unfold RetFl at C2
  clear h1 h2 ht
  go_enter Try.func14, Try.ntmps14
  go_wp2_with (first
    | ((go_at_call 27; ((with_reducible refine (C1.out _ (H1.out.below (by repeat (with_reducible first | exact Below.refl _ _ | refine Below.setCell ?_ (by first | omega | (simp; done) | (simp; omega)) _ | refine Below.alloc ?_ (by first | omega | (simp; done) | (simp; omega)) _)))).mono ?_); (try (have hc10 := hc9; have hf10 := hf9; have hz10 := hz9; have hb10 := hb9; have hya_10 := hya_9; have hyb_10 := hyb_9; have hyc_10 := hyc_9; clear hc9 hf9 hz9 hb9 hya_9 hyb_9 hyc_9)); (try (have hc9 := hc8; have hf9 := hf8; have hz9 := hz8; have hb9 := hb8; have hya_9 := hya_8; have hyb_9 := hyb_8; have hyc_9 := hyc_8; clear hc8 hf8 hz8 hb8 hya_8 hyb_8 hyc_8)); (try (have hc8 := hc7; have hf8 := hf7; have hz8 := hz7; have hb8 := hb7; have hya_8 := hya_7; have hyb_8 := hyb_7; have hyc_8 := hyc_7; clear hc7 hf7 hz7 hb7 hya_7 hyb_7 hyc_7)); (try (have hc7 := hc6; have hf7 := hf6; have hz7 := hz6; have hb7 := hb6; have hya_7 := hya_6; have hyb_7 := hyb_6; have hyc_7 := hyc_6; clear hc6 hf6 hz6 hb6 hya_6 hyb_6 hyc_6)); (try (have hc6 := hc5; have hf6 := hf5; have hz6 := hz5; have hb6 := hb5; have hya_6 := hya_5; have hyb_6 := hyb_5; have hyc_6 := hyc_5; clear hc5 hf5 hz5 hb5 hya_5 hyb_5 hyc_5)); (try (have hc5 := hc4; have hf5 := hf4; have hz5 := hz4; have hb5 := hb4; have hya_5 := hya_4; have hyb_5 := hyb_4; have hyc_5 := hyc_4; clear hc4 hf4 hz4 hb4 hya_4 hyb_4 hyc_4)); (try (have hc4 := hc3; have hf4 := hf3; have hz4 := hz3; have hb4 := hb3; have hya_4 := hya_3; have hyb_4 := hyb_3; have hyc_4 := hyc_3; clear hc3 hf3 hz3 hb3 hya_3 hyb_3 hyc_3)); (try (have hc3 := hc2; have hf3 := hf2; have hz3 := hz2; have hb3 := hb2; have hya_3 := hya_2; have hyb_3 := hyb_2; have hyc_3 := hyc_2; clear hc2 hf2 hz2 hb2 hya_2 hyb_2 hyc_2)); (try (have hc2 := hc1; have hf2 := hf1; have hz2 := hz1; have hb2 := hb1; have hya_2 := hya_1; have hyb_2 := hyb_1; have hyc_2 := hyc_1; clear hc1 hf1 hz1 hb1 hya_1 hyb_1 hyc_1)); rintro e w1 ⟨gr, cr, T, rfl, hbag, hb1⟩; obtain ⟨hc1, hf1⟩ := bcell hb1; (try simp only [World.size_drew, World.cell?_drew, World.frozen?_drew] at hc1 hf1); have hz1 := hb1.size; (try simp at hz1); have hya_1 : w.heap.size < w1.heap.size := (by omega); have hyb_1 : w.heap.size + 1 < w1.heap.size := (by omega); have hyc_1 : w.heap.size + 1 + 1 < w1.heap.size := (by omega); have BG := Lib.hid (hbag.lower (B' := w.heap.size + 3) (by simp)); have HB1 : Hid (Below w.heap.size w w1) := (show Below _ _ _ by (refine Below.trans ?_ (hb1.mono (by simp; omega))); repeat (with_reducible first | exact Below.refl _ _ | refine Below.setCell ?_ (by first | omega | (simp; done) | (simp; omega)) _ | refine Below.alloc ?_ (by first | omega | (simp; done) | (simp; omega)) _)); clear hbag)))
    | ((go_at_call 60; ((with_reducible refine (C2.out _ (H2.out.below (HB1.out.setCell (by first | omega | (simp; done) | (simp; omega)) _))).mono ?_); (try (have hc10 := hc9; have hf10 := hf9; have hz10 := hz9; have hb10 := hb9; have hya_10 := hya_9; have hyb_10 := hyb_9; have hyc_10 := hyc_9; clear hc9 hf9 hz9 hb9 hya_9 hyb_9 hyc_9)); (try (have hc9 := hc8; have hf9 := hf8; have hz9 := hz8; have hb9 := hb8; have hya_9 := hya_8; have hyb_9 := hyb_8; have hyc_9 := hyc_8; clear hc8 hf8 hz8 hb8 hya_8 hyb_8 hyc_8)); (try (have hc8 := hc7; have hf8 := hf7; have hz8 := hz7; have hb8 := hb7; have hya_8 := hya_7; have hyb_8 := hyb_7; have hyc_8 := hyc_7; clear hc7 hf7 hz7 hb7 hya_7 hyb_7 hyc_7)); (try (have hc7 := hc6; have hf7 := hf6; have hz7 := hz6; have hb7 := hb6; have hya_7 := hya_6; have hyb_7 := hyb_6; have hyc_7 := hyc_6; clear hc6 hf6 hz6 hb6 hya_6 hyb_6 hyc_6)); (try (have hc6 := hc5; have hf6 := hf5; have hz6 := hz5; have hb6 := hb5; have hya_6 := hya_5; have hyb_6 := hyb_5; have hyc_6 := hyc_5; clear hc5 hf5 hz5 hb5 hya_5 hyb_5 hyc_5)); (try (have hc5 := hc4; have hf5 := hf4; have hz5 := hz4; have hb5 := hb4; have hya_5 := hya_4; have hyb_5 := hyb_4; have hyc_5 := hyc_4; clear hc4 hf4 hz4 hb4 hya_4 hyb_4 hyc_4)); (try (have hc4 := hc3; have hf4 := hf3; have hz4 := hz3; have hb4 := hb3; have hya_4 := hya_3; have hyb_4 := hyb_3; have hyc_4 := hyc_3; clear hc3 hf3 hz3 hb3 hya_3 hyb_3 hyc_3)); (try (have hc3 := hc2; have hf3 := hf2; have hz3 := hz2; have hb3 := hb2; have hya_3 := hya_2; have hyb_3 := hyb_2; have hyc_3 := hyc_2; clear hc2 hf2 hz2 hb2 hya_2 hyb_2 hyc_2)); (try (have hc2 := hc1; have hf2 := hf1; have hz2 := hz1; have hb2 := hb1; have hya_2 := hya_1; have hyb_2 := hyb_1; have hyc_2 := hyc_1; clear hc1 hf1 hz1 hb1 hya_1 hyb_1 hyc_1)); rintro e w1 ⟨gp, cp, rfl, hpk, hb1⟩; obtain ⟨hc1, hf1⟩ := bcell hb1; (try simp only [World.size_drew, World.cell?_drew, World.frozen?_drew] at hc1 hf1); have hz1 := hb1.size; (try simp at hz1); have hya_1 : w.heap.size < w1.heap.size := (by omega); have hyb_1 : w.heap.size + 1 < w1.heap.size := (by omega); have hyc_1 : w.heap.size + 1 + 1 < w1.heap.size := (by omega); have BG2 := Lib.hid ((BG.out.setFar (b := w.heap.size + 1 + 1) (by omega) 0 (.slice (some ⟨gr, 0, none⟩) ls.length cr)).below hb1); have HB2 := Lib.hid ((HB1.out.setCell (p := ⟨w.heap.size + 1 + 1, 0, none⟩) (by show w.heap.size ≤ w.heap.size + 1 + 1; omega) (.slice (some ⟨gr, 0, none⟩) ls.length cr)).trans (hb1.mono (by have := HB1.out.size; simp [World.setCell]; omega))); have HU := Lib.hid BG.out.under; have FP := Lib.hid (hpk.lower (B' := w.heap.size + 3) (by simp [World.setCell]; omega)); have FN := Lib.hid (show _ ≤ gp from by have := hpk.lo; simp [World.setCell] at this; exact this); clear hpk))))
  have q := fun j => hc1 (w.heap.size + 1) j (by simp [World.setCell]; omega)
  have q2 := fun j => hc2 (w.heap.size + 1) j (by simp)
  clear hc1 hc2 hf1 hf2
  refine bodyPost_ret (v := .agg #[.slice (some ⟨gr, 0, none⟩) ls.length cr, .slice (some ⟨gp, 0, none⟩) bs.length cp]) (by simp [results, Try.results14, go_sem, q, q2]) rfl ?_
  refine ⟨gr, cr, T, gp, cp, ⟨rfl, ⟨?_, ?_, ?_, ?_⟩⟩, ?_⟩
  · refine Bag.lower (B := w.heap.size + 3) ?_ (by omega)
    (try dsimp only)
    repeat (with_reducible first | exact BG2.out | refine Bag.setFar ?_ (by omega) _ _)
  · refine FlO.lower (B := w.heap.size + 3) ?_ (by omega)
    (try dsimp only)
    repeat (with_reducible first | exact FP.out | refine FlO.set ?_ (by have := FP.out.lo; omega) _ _)
  · have := FN.out; have := HU.out.1; omega
  · intro t ht; have := FN.out; have := HU.out.2 t ht; omega
  · repeat (with_reducible first | exact HB2.out | refine Below.setCell ?_ (by first | omega | (simp; done) | (simp; omega)) _)
theorem eqBatch (A1 A2 B1 B2 : Option Addr) (g1 o1 c1 g2 o2 c2 h1 p1 d1 h2 p2 d2 : Nat) (ls : List RT) (bs : List Bool) (w : World) (ha : BatR w A1 g1 o1 A2 g2 o2 ls bs) (hb : BatR w B1 h1 p1 B2 h2 p2 ls bs) (hok : Ok2 ls) (hl : bs.length ≤ 2000000) :
    Calls Try.prog 16 #[.agg #[.slice A1 ls.length c1, .slice A2 bs.length c2], .agg #[.slice B1 ls.length d1, .slice B2 bs.length d2]] w fun e w' => e = .returned (.bool true) ∧ Below w.heap.size w w' := by
  have HA := Lib.hid ha
  have HC := Lib.hid hb
  have CR := Lib.hid (fun W hA hB => eqValueSS A1 B1 g1 h1 o1 p1 c1 d1 ls W hA hB hok)
  have CE := Lib.hid (fun W hA hB => eqBoolS A2 B2 g2 h2 o2 p2 c2 d2 bs W hA hB hl)
  clear ha hb hok hl
  have HB := Lib.hid (Below.refl w.heap.size w)
  have S0 := True.intro
  go_enter Try.func16, Try.ntmps16
  go_wp2_with (first
    | ((go_at_call 19; ((with_reducible refine (CR.out _ (HA.out.below (by repeat (with_reducible first | exact HB.out | refine Below.alloc ?_ (by first | omega | (have := HB.out.size; omega) | (simp; done) | (have := HB.out.size; simp; omega)) _ | apply Below.drew))).cs (HC.out.below (by repeat (with_reducible first | exact HB.out | refine Below.alloc ?_ (by first | omega | (have := HB.out.size; omega) | (simp; done) | (have := HB.out.size; simp; omega)) _ | apply Below.drew))).cs).mono ?_); (try (have hc10 := hc9; have hf10 := hf9; have hz10 := hz9; have hb10 := hb9; have hya_10 := hya_9; have hyb_10 := hyb_9; clear hc9 hf9 hz9 hb9 hya_9 hyb_9)); (try (have hc9 := hc8; have hf9 := hf8; have hz9 := hz8; have hb9 := hb8; have hya_9 := hya_8; have hyb_9 := hyb_8; clear hc8 hf8 hz8 hb8 hya_8 hyb_8)); (try (have hc8 := hc7; have hf8 := hf7; have hz8 := hz7; have hb8 := hb7; have hya_8 := hya_7; have hyb_8 := hyb_7; clear hc7 hf7 hz7 hb7 hya_7 hyb_7)); (try (have hc7 := hc6; have hf7 := hf6; have hz7 := hz6; have hb7 := hb6; have hya_7 := hya_6; have hyb_7 := hyb_6; clear hc6 hf6 hz6 hb6 hya_6 hyb_6)); (try (have hc6 := hc5; have hf6 := hf5; have hz6 := hz5; have hb6 := hb5; have hya_6 := hya_5; have hyb_6 := hyb_5; clear hc5 hf5 hz5 hb5 hya_5 hyb_5)); (try (have hc5 := hc4; have hf5 := hf4; have hz5 := hz4; have hb5 := hb4; have hya_5 := hya_4; have hyb_5 := hyb_4; clear hc4 hf4 hz4 hb4 hya_4 hyb_4)); (try (have hc4 := hc3; have hf4 := hf3; have hz4 := hz3; have hb4 := hb3; have hya_4 := hya_3; have hyb_4 := hyb_3; clear hc3 hf3 hz3 hb3 hya_3 hyb_3)); (try (have hc3 := hc2; have hf3 := hf2; have hz3 := hz2; have hb3 := hb2; have hya_3 := hya_2; have hyb_3 := hyb_2; clear hc2 hf2 hz2 hb2 hya_2 hyb_2)); (try (have hc2 := hc1; have hf2 := hf1; have hz2 := hz1; have hb2 := hb1; have hya_2 := hya_1; have hyb_2 := hyb_1; clear hc1 hf1 hz1 hb1 hya_1 hyb_1)); rintro e w1 ⟨rfl, hb1⟩; obtain ⟨hc1, hf1⟩ := bcell hb1; (try simp only [World.size_drew, World.cell?_drew, World.frozen?_drew] at hc1 hf1); have hz1 := hb1.size; (try simp at hz1); have hya_1 : w.heap.size < w1.heap.size := (by omega); have hyb_1 : w.heap.size + 1 < w1.heap.size := (by omega); have HBn : Hid (Below w.heap.size w w1) := Below.trans (by repeat (with_reducible first | exact HB.out | refine Below.alloc ?_ (by first | omega | (have := HB.out.size; omega) | (simp; done) | (have := HB.out.size; simp; omega)) _ | apply Below.drew)) (Below.mono hb1 (by have := HB.out.size; first | omega | (simp; done) | (simp; omega))); clear HB; have HB := HBn; clear HBn)))
    | ((go_at_call 62; ((with_reducible refine (CE.out _ (HA.out.below (by repeat (with_reducible first | exact HB.out | refine Below.alloc ?_ (by first | omega | (have := HB.out.size; omega) | (simp; done) | (have := HB.out.size; simp; omega)) _ | apply Below.drew))).pk (HC.out.below (by repeat (with_reducible first | exact HB.out | refine Below.alloc ?_ (by first | omega | (have := HB.out.size; omega) | (simp; done) | (have := HB.out.size; simp; omega)) _ | apply Below.drew))).pk).mono ?_); (try (have hc10 := hc9; have hf10 := hf9; have hz10 := hz9; have hb10 := hb9; have hya_10 := hya_9; have hyb_10 := hyb_9; clear hc9 hf9 hz9 hb9 hya_9 hyb_9)); (try (have hc9 := hc8; have hf9 := hf8; have hz9 := hz8; have hb9 := hb8; have hya_9 := hya_8; have hyb_9 := hyb_8; clear hc8 hf8 hz8 hb8 hya_8 hyb_8)); (try (have hc8 := hc7; have hf8 := hf7; have hz8 := hz7; have hb8 := hb7; have hya_8 := hya_7; have hyb_8 := hyb_7; clear hc7 hf7 hz7 hb7 hya_7 hyb_7)); (try (have hc7 := hc6; have hf7 := hf6; have hz7 := hz6; have hb7 := hb6; have hya_7 := hya_6; have hyb_7 := hyb_6; clear hc6 hf6 hz6 hb6 hya_6 hyb_6)); (try (have hc6 := hc5; have hf6 := hf5; have hz6 := hz5; have hb6 := hb5; have hya_6 := hya_5; have hyb_6 := hyb_5; clear hc5 hf5 hz5 hb5 hya_5 hyb_5)); (try (have hc5 := hc4; have hf5 := hf4; have hz5 := hz4; have hb5 := hb4; have hya_5 := hya_4; have hyb_5 := hyb_4; clear hc4 hf4 hz4 hb4 hya_4 hyb_4)); (try (have hc4 := hc3; have hf4 := hf3; have hz4 := hz3; have hb4 := hb3; have hya_4 := hya_3; have hyb_4 := hyb_3; clear hc3 hf3 hz3 hb3 hya_3 hyb_3)); (try (have hc3 := hc2; have hf3 := hf2; have hz3 := hz2; have hb3 := hb2; have hya_3 := hya_2; have hyb_3 := hyb_2; clear hc2 hf2 hz2 hb2 hya_2 hyb_2)); (try (have hc2 := hc1; have hf2 := hf1; have hz2 := hz1; have hb2 := hb1; have hya_2 := hya_1; have hyb_2 := hyb_1; clear hc1 hf1 hz1 hb1 hya_1 hyb_1)); rintro e w1 ⟨rfl, hb1⟩; obtain ⟨hc1, hf1⟩ := bcell hb1; (try simp only [World.size_drew, World.cell?_drew, World.frozen?_drew] at hc1 hf1); have hz1 := hb1.size; (try simp at hz1); have hya_1 : w.heap.size < w1.heap.size := (by omega); have hyb_1 : w.heap.size + 1 < w1.heap.size := (by omega); have HBn : Hid (Below w.heap.size w w1) := Below.trans (by repeat (with_reducible first | exact HB.out | refine Below.alloc ?_ (by first | omega | (have := HB.out.size; omega) | (simp; done) | (have := HB.out.size; simp; omega)) _ | apply Below.drew)) (Below.mono hb1 (by have := HB.out.size; first | omega | (simp; done) | (simp; omega))); clear HB; have HB := HBn; clear HBn))))
  all_goals (go_ret; exact ⟨retB (by first | rfl | simp), HB.out⟩)
/-! ### Arguments -/
theorem open_bools {H : Type} {enc : TypeId × Value → H} {W : World} {v : Value} {d : DataW H} {p : List MemPlace} {A0 : Option Addr} {l0 c0 : Nat} (hv : v = .slice A0 l0 c0) (h : DataW.Trod enc Try.prog W 0 (fun _ => true) true 23 v d p) :
    ∃ (A : Option Addr) (cap g o : Nat) (l : List Bool), v = .slice A l.length cap ∧ l.length ≤ maxLen ∧ Fl W g o A (l.map tv) := by
  obtain ⟨fuel, hf⟩ := h
  rcases open_slice1 Try.underlying23 (by kernel_rfl) hf with ⟨hcs, _⟩ | ⟨a, len, cap, m, n, V, D, Pl, hcs, _, hl, hm, hmm, _, hx⟩
  · subst hv
    simp [Value.cells] at hcs
    obtain ⟨rfl, rfl, rfl⟩ := hcs
    exact ⟨none, 0, 0, 0, [], rfl, Nat.zero_le _, ⟨fun hp => absurd hp (by simp), fun j hj => absurd hj (by simp)⟩⟩
  · subst hv
    simp [Value.cells] at hcs
    obtain ⟨rfl, rfl, rfl⟩ := hcs
    simp only [if_true] at hmm
    subst hmm
    obtain ⟨b, off, sp⟩ := a
    have ex : ∀ i, i < l0 → ∃ q : Bool, W.cell? ((⟨b, off, sp⟩ : Addr).add i) = some (.bool q) := by
      intro i hi
      obtain ⟨h1, h2⟩ := hx i (by omega)
      obtain ⟨q, e1, _⟩ := DataW.trod_bool Try.underlying4 h2
      simp only [List.cons.injEq, and_true] at e1
      exact ⟨q, by rw [h1, e1]⟩
    obtain ⟨q, hq⟩ := choose_lt ex
    refine ⟨some ⟨b, off, sp⟩, m, b, off, (List.range l0).map q, by simp, by simp; omega, ?_, ?_⟩
    · intro h0
      simp at h0
      have := spot_none rfl (hq 0 h0)
      rw [this]
    · intro j hj
      simp at hj
      have := spot_none rfl (hq 0 (by omega))
      subst this
      have h1 := hq j hj
      rw [add_none] at h1
      rw [h1]
      simp [tv]
theorem is_sliceB {H : Type} {enc : TypeId × Value → H} {W : World} {t e : TypeId} {n : Nat} {u : Value} {x : DataW H × List MemPlace} (ht : Try.prog.underlying t = some (.slice e)) (h : DataW.trod enc Try.prog W 0 (fun _ => true) true n t [u] = some x) : ∃ A1 l1 c1, u = .slice A1 l1 c1 := by
  rcases open_slice ht h with ⟨hcs, _⟩ | ⟨a, len, cap, m, n, D, Pl, hcs, _⟩
  · exact ⟨none, 0, 0, by simpa using hcs⟩
  · exact ⟨some a, len, cap, by simpa using hcs⟩
theorem slice_one {H : Type} {enc : TypeId × Value → H} {W : World} {t e : TypeId} {n : Nat} {u : Value} {x : DataW H × List MemPlace} (ht : Try.prog.underlying t = some (.slice e)) (h : DataW.trod enc Try.prog W 0 (fun _ => true) true n t [u] = some x) : (∃ A1 l1 c1, u = .slice A1 l1 c1) ∧ DataW.Trod enc Try.prog W 0 (fun _ => true) true t u x.1 x.2 := by
  obtain ⟨A1, l1, c1, rfl⟩ := is_sliceB ht h
  exact ⟨⟨_, _, _, rfl⟩, n, h⟩
/-! ### Marks of a batch that nobody reads -/
def leafB (gp : Nat) (T : List TT) : List Nat := gp :: T.map fun t => t.1
theorem BatO.leafs {w : World} {B g c gp cp : Nat} {T : List TT} {ls : List RT} {bs : List Bool} (h : BatO w B g c T gp cp ls bs) : ∀ b ∈ leafB gp T, B ≤ b ∧ b < w.heap.size := by
  intro b hb
  simp only [leafB, List.mem_cons, List.mem_map] at hb
  rcases hb with rfl | ⟨t, ht, rfl⟩
  · exact ⟨h.pk.lo, h.pk.hi⟩
  · exact ⟨(h.bag.rows t ht).lo, (h.bag.rows t ht).hi⟩
theorem OnlyT.more {bs cs : List Nat} {w w' : World} (h : OnlyT bs w w') (hs : ∀ b ∈ bs, b ∈ cs) : OnlyT cs w w' := ⟨h.os, h.tape, h.output, h.size, fun k hk hc => h.block k hk (fun hb => hc (hs k hb))⟩
theorem OnlyT.alloc {bs : List Nat} {w w' : World} (h : OnlyT bs w w') (ob : Obj) : OnlyT bs w (w'.alloc ob) :=
  ⟨h.os, h.tape, h.output, Nat.le_trans h.size (by simp), fun k hk hb => (((Below.refl w'.heap.size w').alloc (Nat.le_refl _) ob).block k (Nat.lt_of_lt_of_le hk h.size)).trans (h.block k hk hb)⟩
theorem OnlyT.of_below {bs : List Nat} {w w' : World} (h : Below w.heap.size w w') : OnlyT bs w w' := ⟨h.os, h.tape, h.output, h.size, fun k hk _ => h.block k hk⟩
theorem OnlyT.then {bs : List Nat} {w w1 w2 : World} (h : OnlyT bs w w1) (k : OnlyT bs w1 w2) : OnlyT bs w w2 :=
  ⟨k.os.trans h.os, k.tape.trans h.tape, k.output.trans h.output, Nat.le_trans h.size k.size, fun b hb hbb => (k.block b (Nat.lt_of_lt_of_le hb h.size) hbb).trans (h.block b hb hbb)⟩
theorem OnlyT.cell {bs : List Nat} {w w' : World} (h : OnlyT bs w w') {x j : Nat} {v : Value} (hc : w.cell? ⟨x, j, none⟩ = some v) (hx : x ∉ bs) : w'.cell? ⟨x, j, none⟩ = some v :=
  (cellOf (h.block x (World.block_lt_of_cell? w ⟨x, j, none⟩ hc) hx)).trans hc
theorem markBatch1 (B g c gp cp M : Nat) (T : List TT) (ls : List RT) (bs : List Bool) (w : World) (h : BatO w B g c T gp cp ls bs) (hM : M = 1 + 3 * total ls + bs.length) (hl : M ≤ 7000000) (hl2 : ls.length ≤ 2000000) :
    Calls Try.prog 20 #[.agg #[.slice (some ⟨g, 0, none⟩) ls.length c, .slice (some ⟨gp, 0, none⟩) bs.length cp], .int .i64 1] w fun e w' => e = .returned (.int .i64 (M : Int)) ∧ OnlyT (leafB gp T) w w' := by
  obtain ⟨K, hK⟩ : ∃ K, K = 1 + 3 * total ls := ⟨_, rfl⟩
  have HBO := Lib.hid (h.alloc (.cells #[.slice (some ⟨g, 0, none⟩) ls.length c, .slice (some ⟨gp, 0, none⟩) bs.length cp] 30))
  have hgp := h.pk.hi
  have HU := Lib.hid h.leafs
  have C1 := Lib.hid (fun W hW => markSS 1 K B g c ls.length T ls W (by omega) hW rfl hK (by omega) hl2)
  have C2 := Lib.hid (fun W hW => markBoolSK K (some ⟨gp, 0, none⟩) gp cp bs.length W (by omega) (fun _ => rfl) hW)
  have k3 : ((1 : Nat) : Int) = 1 := rfl
  rw [k3] at C1
  have k4 : ((K : Int) + (bs.length : Int)) = (M : Int) := by omega
  rw [k4] at C2
  clear k3 k4 h hK hM
  go_enter Try.func20, Try.ntmps20
  go_wp2_with (first
    | (go_at_call 21; (with_reducible refine (C1.out _ HBO.out.bag).mono ?_); rintro e w1 ⟨rfl, -, ho⟩; have HO := Lib.hid ((OnlyT.of_below ((Below.refl _ _).alloc (Nat.le_refl _) _)).then (ho.more (cs := leafB gp T) (fun b hb => by simp only [leafB, List.mem_cons]; exact .inr hb))); have c1' := ho.cell (x := w.heap.size) (j := 1) (v := .slice (some ⟨gp, 0, none⟩) bs.length cp) (by simp [go_sem]) (fun hb => by have := (HU.out w.heap.size (by simp only [leafB, List.mem_cons]; exact .inr hb)).2; omega); have c0' := ho.cell (x := w.heap.size) (j := 0) (v := .slice (some ⟨g, 0, none⟩) ls.length c) (by simp [go_sem]) (fun hb => by have := (HU.out w.heap.size (by simp only [leafB, List.mem_cons]; exact .inr hb)).2; omega); have HP := Lib.hid (HBO.out.pk.keep ho.size (ho.block gp (by simp; omega) (fun hb => by obtain ⟨t, ht, e⟩ := List.mem_map.1 hb; exact HBO.out.nt t ht e))); clear ho)
    | (go_at_call 65; go_loud (with_reducible refine (C2.out _ (HP.out.fill (by simp [marksB_len]))).mono ?_); rintro e w2 ⟨rfl, -, ho, -⟩; go_loud (have HO2 := Lib.hid (HO.out.only ho (by simp [leafB])); clear ho)))
  go_ret
  exact ⟨rfl, HO2.out⟩
end Go.Proofs.Ytjidkjnlnenmbaa.Val
