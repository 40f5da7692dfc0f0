/- Batches: rows of truths, batches that are arguments: opened, measured, copied, compared, marked. -/
import Derived.Test.YtjidkjnlnenmbaaFlKQ
import Derived.Test.YtjidkjnlnenmbaaOpenSQ
import Derived.Test.YtjidkjnlnenmbaaLSSQ
import Derived.Test.YtjidkjnlnenmbaaRMarkQ
namespace Go.Proofs.Ytjidkjnlnenmbaa.Val
open Go.ChangeShapes Go.WideShapes Go.ChangeAt Go.RowKit Go.Deep
set_option linter.unusedVariables false
set_option maxRecDepth 8000
def tv (b : Bool) : Value := .bool b
theorem Fl.b {w : World} {g o : Nat} {A : Option Addr} {l : List Bool} (h : Fl w g o A (l.map tv)) (i : Nat) (hi : i < l.length) : A = some ⟨g, o, none⟩ ∧ g < w.heap.size ∧ w.cell? ⟨g, o + i, none⟩ = some (.bool l[i]) := by
  have hl : (l.map tv).length = l.length := List.length_map _
  refine ⟨h.ad (by omega), h.lt (by omega), ?_⟩
  rw [h.c i (by omega), List.getElem_map]; rfl
theorem infoTv : (Try.prog.info? 4).map (fun i => (i.zero, i.size, i.bytes)) = some (some (.bool false), 1, 1) := by kernel_rfl
/-- Two rows of the same truths. -/
theorem eqBoolS (A B : Option Addr) (g g' o o' cA cB : Nat) (l : List Bool) (w : World) (hA : Fl w g o A (l.map tv)) (hB : Fl w g' o' B (l.map tv)) (hl : l.length ≤ 2000000) :
    Calls Try.prog 62 #[.slice A l.length cA, .slice B l.length cB] w fun e w' => e = .returned (.bool true) ∧ Below w.heap.size w w' := by
  have HA := Lib.hid hA
  have HB := Lib.hid hB
  clear hA hB
  have e0 : ((l.length : Int) != l.length) = false := by simp
  go_enter Try.func62, Try.ntmps62
  go_wp2
  go_loopw [5] (fun ix wr => ∃ (k : Nat), k ≤ l.length ∧ ix = .int .i64 k ∧ Hid (Below w.heap.size w wr)) (fun ix _ => l.length - (intOf ix).toNat)
  case atStart => exact ⟨0, by omega, rfl, Below.refl _ _⟩
  case round =>
    obtain ⟨k, hk, rfl, HW⟩ := hrel
    by_cases hlt : k < l.length
    · obtain ⟨rfl, -, -⟩ := HA.out.b k hlt
      obtain ⟨rfl, -, -⟩ := HB.out.b k hlt
      obtain ⟨-, hg2, c0⟩ := (HA.out.below HW.out).b k hlt
      obtain ⟨-, hg2', d0⟩ := (HB.out.below HW.out).b k hlt
      obtain ⟨K, hK⟩ : ∃ K, l[k] = K := ⟨_, rfl⟩
      rw [hK] at c0 d0
      clear hK
      have e1 : (K != K) = false := by simp
      have i0' : (0 : Int) ≤ (k : Int) := by omega
      have i1' : (k : Int) < (l.length : Int) := by omega
      go_wp2
      all_goals (try go_region)
      all_goals (try go_wp2)
      all_goals first
        | exact ⟨⟨k + 1, by omega, by go_num, HW⟩, by simp [intOf]; omega⟩
        | exact ⟨⟨k + 1, by omega, by go_num, HW.out.drew⟩, by simp [intOf]; omega⟩
    · obtain rfl : k = l.length := by omega
      go_wp2
      go_ret
      exact ⟨rfl, HW.out⟩
/-- The marks of n truths. -/
def marksB (N n : Nat) : List Bool := (List.range n).map fun (i : Nat) => (((N : Int) + (i : Int)) % 3 == 0)
theorem marksB_len (N n : Nat) : (marksB N n).length = n := by simp [marksB]
theorem marksB_get (N n i : Nat) (h : i < n) : ((marksB N n).map tv)[i]? = some (.bool ((((N : Int) + (i : Int)) % 3 == 0))) := by
  rw [List.getElem?_map, List.getElem?_eq_getElem (by rw [marksB_len]; exact h)]
  simp [marksB, tv]
theorem markBoolSK (N : Nat) (A : Option Addr) (g cap n : Nat) (w : World) (hl : N + n ≤ 7000000) (hA : 0 < n → A = some ⟨g, 0, none⟩) (hF : Fill w g ((marksB N n).map tv) 0) : Calls Try.prog 65 #[.slice A n cap, .int .i64 (N : Int)] w fun e w' => e = .returned (.int .i64 ((N : Int) + n)) ∧ (n = 0 → w' = w) ∧ Only g w w' ∧ Fill w' g ((marksB N n).map tv) n := by
  have HA := Lib.hid hF
  have HAD := Lib.hid hA
  clear hF hA
  go_enter Try.func65, Try.ntmps65
  go_wp2
  go_loopw [1, 5] (fun kx ix wr => ∃ (k : Nat), k ≤ n ∧ ix = .int .i64 k ∧ kx = .int .i64 ((N : Int) + k) ∧ Hid (Fill wr g ((marksB N n).map tv) k) ∧ Hid (k = 0 → wr = w) ∧ Hid (Only g w wr)) (fun _ ix _ => n - (intOf ix).toNat)
  case atStart => exact ⟨0, Nat.zero_le _, rfl, by go_num, HA, fun _ => rfl, Only.refl _ _⟩
  case round =>
    obtain ⟨k, hk, rfl, rfl, HF, HZ, HO⟩ := hrel
    by_cases hlt : k < n
    · obtain rfl := HAD.out (by omega)
      have U0 := Lib.hid (marksB_get N n k hlt)
      have hlen : ((marksB N n).map tv).length = n := by rw [List.length_map, marksB_len]
      have F1 := Lib.hid (HF.out.set U0.out)
      have O1 := Lib.hid (fun u => HO.out.trans (Only.set wr k u))
      obtain ⟨⟨v0, hv0⟩, f0, -⟩ := HF.out k (by omega)
      have e1 : Int.tmod ((N : Int) + k) 3 = ((N : Int) + k) % 3 := Int.tmod_eq_emod_of_nonneg (by omega)
      have i0' : (0 : Int) ≤ (k : Int) := by omega
      have i1' : (k : Int) < (n : Int) := by omega
      clear hlen
      go_wp2
      exact ⟨⟨k + 1, by omega, by go_num, by go_num, F1.out, fun h => absurd h (by omega), O1.out _⟩, by simp [intOf]; omega⟩
    · obtain rfl : k = n := by omega
      go_wp2
      go_ret
      exact ⟨rfl, HZ.out, HO.out, HF.out⟩
theorem heldBoolSK (N : Nat) (A : Option Addr) (g cap n : Nat) (w : World) (hl : N + n ≤ 7000000) (hF : Fl w g 0 A ((marksB N n).map tv)) : Calls Try.prog 76 #[.slice A n cap, .int .i64 (N : Int)] w fun e w' => e = .returned (.int .i64 ((N : Int) + n)) ∧ Below w.heap.size w w' := by
  have HF := Lib.hid hF
  clear hF
  go_enter Try.func76, Try.ntmps76
  go_wp2
  go_loopw [1, 5] (fun kx ix wr => ∃ (k : Nat), k ≤ n ∧ ix = .int .i64 k ∧ kx = .int .i64 ((N : Int) + k) ∧ Hid (Below w.heap.size w wr)) (fun _ ix _ => n - (intOf ix).toNat)
  case atStart => exact ⟨0, Nat.zero_le _, rfl, by go_num, Below.refl _ _⟩
  case round =>
    obtain ⟨k, hk, rfl, rfl, HB⟩ := hrel
    by_cases hlt : k < n
    · have hv := (HF.out.below HB.out).b k (by rw [marksB_len]; exact hlt)
      have e : (marksB N n)[k]'(by rw [marksB_len]; exact hlt) = (((N : Int) + (k : Int)) % 3 == 0) := by simp [marksB]
      rw [e] at hv
      obtain ⟨rfl, hg, c0⟩ := hv
      simp only [Nat.zero_add] at c0
      clear e
      have e1 : Int.tmod ((N : Int) + k) 3 = ((N : Int) + k) % 3 := Int.tmod_eq_emod_of_nonneg (by omega)
      have i0' : (0 : Int) ≤ (k : Int) := by omega
      have i1' : (k : Int) < (n : Int) := by omega
      go_wp2
      all_goals exact ⟨⟨k + 1, by omega, by go_num, by go_num, HB⟩, by simp [intOf]; omega⟩
    · obtain rfl : k = n := by omega
      go_wp2
      go_ret
      exact ⟨rfl, HB.out⟩
abbrev BA := List RT × List Bool
/-- A batch of one's own: its columns, what is picked. -/
structure BatO (w : World) (B g c : Nat) (T : List TT) (gp cp : Nat) (ls : List RT) (bs : List Bool) : Prop where
  bag : Bag w B g c T ls
  pk : FlO w B gp cp bs.length (bs.map tv)
  ne : gp ≠ g
  nt : ∀ t ∈ T, t.1 ≠ gp
theorem BatO.below {w w' : World} {B g c gp cp : Nat} {T : List TT} {ls : List RT} {bs : List Bool} (h : BatO w B g c T gp cp ls bs) (hb : Below w.heap.size w w') : BatO w' B g c T gp cp ls bs := ⟨h.bag.below hb, h.pk.below hb, h.ne, h.nt⟩
theorem BatO.alloc {w : World} {B g c gp cp : Nat} {T : List TT} {ls : List RT} {bs : List Bool} (h : BatO w B g c T gp cp ls bs) (ob : Obj) : BatO (w.alloc ob) B g c T gp cp ls bs := h.below ((Below.refl _ _).alloc (Nat.le_refl _) _)
theorem BatO.drew {w : World} {B g c gp cp : Nat} {T : List TT} {ls : List RT} {bs : List Bool} (h : BatO w B g c T gp cp ls bs) : BatO w.drew B g c T gp cp ls bs := h.below ((Below.refl _ _).drew)
/-- Batches that lie. -/
structure BatR (w : World) (A1 : Option Addr) (g1 o1 : Nat) (A2 : Option Addr) (g2 o2 : Nat) (ls : List RT) (bs : List Bool) : Prop where
  cs : Rws w g1 o1 A1 ls
  pk : Fl w g2 o2 A2 (bs.map tv)
theorem BatR.below {w w' : World} {A1 A2 : Option Addr} {g1 o1 g2 o2 : Nat} {ls : List RT} {bs : List Bool} (h : BatR w A1 g1 o1 A2 g2 o2 ls bs) (hb : Below w.heap.size w w') : BatR w' A1 g1 o1 A2 g2 o2 ls bs := ⟨h.cs.below hb, h.pk.below hb⟩
theorem BatR.alloc {w : World} {A1 A2 : Option Addr} {g1 o1 g2 o2 : Nat} {ls : List RT} {bs : List Bool} (h : BatR w A1 g1 o1 A2 g2 o2 ls bs) (ob : Obj) : BatR (w.alloc ob) A1 g1 o1 A2 g2 o2 ls bs := h.below ((Below.refl _ _).alloc (Nat.le_refl _) _)
theorem BatR.drew {w : World} {A1 A2 : Option Addr} {g1 o1 g2 o2 : Nat} {ls : List RT} {bs : List Bool} (h : BatR w A1 g1 o1 A2 g2 o2 ls bs) : BatR w.drew A1 g1 o1 A2 g2 o2 ls bs := h.below ((Below.refl _ _).drew)
theorem BatO.r {w : World} {B g c gp cp : Nat} {T : List TT} {ls : List RT} {bs : List Bool} (h : BatO w B g c T gp cp ls bs) : BatR w (some ⟨g, 0, none⟩) g 0 (some ⟨gp, 0, none⟩) gp 0 ls bs := ⟨h.bag.rws, h.pk.fl⟩
theorem eqBatch (A1 A2 B1 B2 : Option Addr) (g1 o1 c1 g2 o2 c2 h1 p1 d1 h2 p2 d2 : Nat) (ls : List RT) (bs : List Bool) (w : World) (ha : BatR w A1 g1 o1 A2 g2 o2 ls bs) (hb : BatR w B1 h1 p1 B2 h2 p2 ls bs) (hok : Ok2 ls) (hl : bs.length ≤ 2000000) :
    Calls Try.prog 16 #[.agg #[.slice A1 ls.length c1, .slice A2 bs.length c2], .agg #[.slice B1 ls.length d1, .slice B2 bs.length d2]] w fun e w' => e = .returned (.bool true) ∧ Below w.heap.size w w' := by
  have HA := Lib.hid ha
  have HC := Lib.hid hb
  have CR := Lib.hid (fun W hA hB => eqValueSS A1 B1 g1 h1 o1 p1 c1 d1 ls W hA hB hok)
  have CE := Lib.hid (fun W hA hB => eqBoolS A2 B2 g2 h2 o2 p2 c2 d2 bs W hA hB hl)
  clear ha hb hok hl
  have HB := Lib.hid (Below.refl w.heap.size w)
  have S0 := True.intro
  go_enter Try.func16, Try.ntmps16
  go_wp2_with (first
    | ((go_at_call 19; ((with_reducible refine (CR.out _ (HA.out.below (by repeat (with_reducible first | exact HB.out | refine Below.alloc ?_ (by first | omega | (have := HB.out.size; omega) | (simp; done) | (have := HB.out.size; simp; omega)) _ | apply Below.drew))).cs (HC.out.below (by repeat (with_reducible first | exact HB.out | refine Below.alloc ?_ (by first | omega | (have := HB.out.size; omega) | (simp; done) | (have := HB.out.size; simp; omega)) _ | apply Below.drew))).cs).mono ?_); (try (have hc10 := hc9; have hf10 := hf9; have hz10 := hz9; have hb10 := hb9; have hya_10 := hya_9; have hyb_10 := hyb_9; clear hc9 hf9 hz9 hb9 hya_9 hyb_9)); (try (have hc9 := hc8; have hf9 := hf8; have hz9 := hz8; have hb9 := hb8; have hya_9 := hya_8; have hyb_9 := hyb_8; clear hc8 hf8 hz8 hb8 hya_8 hyb_8)); (try (have hc8 := hc7; have hf8 := hf7; have hz8 := hz7; have hb8 := hb7; have hya_8 := hya_7; have hyb_8 := hyb_7; clear hc7 hf7 hz7 hb7 hya_7 hyb_7)); (try (have hc7 := hc6; have hf7 := hf6; have hz7 := hz6; have hb7 := hb6; have hya_7 := hya_6; have hyb_7 := hyb_6; clear hc6 hf6 hz6 hb6 hya_6 hyb_6)); (try (have hc6 := hc5; have hf6 := hf5; have hz6 := hz5; have hb6 := hb5; have hya_6 := hya_5; have hyb_6 := hyb_5; clear hc5 hf5 hz5 hb5 hya_5 hyb_5)); (try (have hc5 := hc4; have hf5 := hf4; have hz5 := hz4; have hb5 := hb4; have hya_5 := hya_4; have hyb_5 := hyb_4; clear hc4 hf4 hz4 hb4 hya_4 hyb_4)); (try (have hc4 := hc3; have hf4 := hf3; have hz4 := hz3; have hb4 := hb3; have hya_4 := hya_3; have hyb_4 := hyb_3; clear hc3 hf3 hz3 hb3 hya_3 hyb_3)); (try (have hc3 := hc2; have hf3 := hf2; have hz3 := hz2; have hb3 := hb2; have hya_3 := hya_2; have hyb_3 := hyb_2; clear hc2 hf2 hz2 hb2 hya_2 hyb_2)); (try (have hc2 := hc1; have hf2 := hf1; have hz2 := hz1; have hb2 := hb1; have hya_2 := hya_1; have hyb_2 := hyb_1; clear hc1 hf1 hz1 hb1 hya_1 hyb_1)); rintro e w1 ⟨rfl, hb1⟩; obtain ⟨hc1, hf1⟩ := bcell hb1; (try simp only [World.size_drew, World.cell?_drew, World.frozen?_drew] at hc1 hf1); have hz1 := hb1.size; (try simp at hz1); have hya_1 : w.heap.size < w1.heap.size := (by omega); have hyb_1 : w.heap.size + 1 < w1.heap.size := (by omega); have HBn : Hid (Below w.heap.size w w1) := Below.trans (by repeat (with_reducible first | exact HB.out | refine Below.alloc ?_ (by first | omega | (have := HB.out.size; omega) | (simp; done) | (have := HB.out.size; simp; omega)) _ | apply Below.drew)) (Below.mono hb1 (by have := HB.out.size; first | omega | (simp; done) | (simp; omega))); clear HB; have HB := HBn; clear HBn)))
    | ((go_at_call 62; ((with_reducible refine (CE.out _ (HA.out.below (by repeat (with_reducible first | exact HB.out | refine Below.alloc ?_ (by first | omega | (have := HB.out.size; omega) | (simp; done) | (have := HB.out.size; simp; omega)) _ | apply Below.drew))).pk (HC.out.below (by repeat (with_reducible first | exact HB.out | refine Below.alloc ?_ (by first | omega | (have := HB.out.size; omega) | (simp; done) | (have := HB.out.size; simp; omega)) _ | apply Below.drew))).pk).mono ?_); (try (have hc10 := hc9; have hf10 := hf9; have hz10 := hz9; have hb10 := hb9; have hya_10 := hya_9; have hyb_10 := hyb_9; clear hc9 hf9 hz9 hb9 hya_9 hyb_9)); (try (have hc9 := hc8; have hf9 := hf8; have hz9 := hz8; have hb9 := hb8; have hya_9 := hya_8; have hyb_9 := hyb_8; clear hc8 hf8 hz8 hb8 hya_8 hyb_8)); (try (have hc8 := hc7; have hf8 := hf7; have hz8 := hz7; have hb8 := hb7; have hya_8 := hya_7; have hyb_8 := hyb_7; clear hc7 hf7 hz7 hb7 hya_7 hyb_7)); (try (have hc7 := hc6; have hf7 := hf6; have hz7 := hz6; have hb7 := hb6; have hya_7 := hya_6; have hyb_7 := hyb_6; clear hc6 hf6 hz6 hb6 hya_6 hyb_6)); (try (have hc6 := hc5; have hf6 := hf5; have hz6 := hz5; have hb6 := hb5; have hya_6 := hya_5; have hyb_6 := hyb_5; clear hc5 hf5 hz5 hb5 hya_5 hyb_5)); (try (have hc5 := hc4; have hf5 := hf4; have hz5 := hz4; have hb5 := hb4; have hya_5 := hya_4; have hyb_5 := hyb_4; clear hc4 hf4 hz4 hb4 hya_4 hyb_4)); (try (have hc4 := hc3; have hf4 := hf3; have hz4 := hz3; have hb4 := hb3; have hya_4 := hya_3; have hyb_4 := hyb_3; clear hc3 hf3 hz3 hb3 hya_3 hyb_3)); (try (have hc3 := hc2; have hf3 := hf2; have hz3 := hz2; have hb3 := hb2; have hya_3 := hya_2; have hyb_3 := hyb_2; clear hc2 hf2 hz2 hb2 hya_2 hyb_2)); (try (have hc2 := hc1; have hf2 := hf1; have hz2 := hz1; have hb2 := hb1; have hya_2 := hya_1; have hyb_2 := hyb_1; clear hc1 hf1 hz1 hb1 hya_1 hyb_1)); rintro e w1 ⟨rfl, hb1⟩; obtain ⟨hc1, hf1⟩ := bcell hb1; (try simp only [World.size_drew, World.cell?_drew, World.frozen?_drew] at hc1 hf1); have hz1 := hb1.size; (try simp at hz1); have hya_1 : w.heap.size < w1.heap.size := (by omega); have hyb_1 : w.heap.size + 1 < w1.heap.size := (by omega); have HBn : Hid (Below w.heap.size w w1) := Below.trans (by repeat (with_reducible first | exact HB.out | refine Below.alloc ?_ (by first | omega | (have := HB.out.size; omega) | (simp; done) | (have := HB.out.size; simp; omega)) _ | apply Below.drew)) (Below.mono hb1 (by have := HB.out.size; first | omega | (simp; done) | (simp; omega))); clear HB; have HB := HBn; clear HBn))))
  all_goals (go_ret; exact ⟨retB (by first | rfl | simp), HB.out⟩)
theorem OnlyT.more {bs cs : List Nat} {w w' : World} (h : OnlyT bs w w') (hs : ∀ b ∈ bs, b ∈ cs) : OnlyT cs w w' := ⟨h.os, h.tape, h.output, h.size, fun k hk hc => h.block k hk (fun hb => hc (hs k hb))⟩
theorem OnlyT.alloc {bs : List Nat} {w w' : World} (h : OnlyT bs w w') (ob : Obj) : OnlyT bs w (w'.alloc ob) :=
  ⟨h.os, h.tape, h.output, Nat.le_trans h.size (by simp), fun k hk hb => (((Below.refl w'.heap.size w').alloc (Nat.le_refl _) ob).block k (Nat.lt_of_lt_of_le hk h.size)).trans (h.block k hk hb)⟩
theorem OnlyT.then {bs : List Nat} {w w1 w2 : World} (h : OnlyT bs w w1) (k : OnlyT bs w1 w2) : OnlyT bs w w2 :=
  ⟨k.os.trans h.os, k.tape.trans h.tape, k.output.trans h.output, Nat.le_trans h.size k.size, fun b hb hbb => (k.block b (Nat.lt_of_lt_of_le hb h.size) hbb).trans (h.block b hb hbb)⟩
theorem OnlyT.cell {bs : List Nat} {w w' : World} (h : OnlyT bs w w') {x j : Nat} {v : Value} (hc : w.cell? ⟨x, j, none⟩ = some v) (hx : x ∉ bs) : w'.cell? ⟨x, j, none⟩ = some v :=
  (cellOf (h.block x (World.block_lt_of_cell? w ⟨x, j, none⟩ hc) hx)).trans hc
end Go.Proofs.Ytjidkjnlnenmbaa.Val
