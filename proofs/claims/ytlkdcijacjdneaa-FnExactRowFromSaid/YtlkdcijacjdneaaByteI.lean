/- What ValueBytes (impl) leaves. -/
import Derived.Test.YtlkdcijacjdneaaByt
import Derived.Test.YtlkdcijacjdneaaTxt
import Derived.Lib.AppendStr
import Derived.OwnWalk
namespace Go.Proofs.Ytlkdcijacjdneaa.Val
open Go.RowKit
theorem info5 : (Try.prog.info? 5).map (fun i => (i.zero, i.size, i.bytes)) = some (some (.int .u8 0), 1, 1) := by kernel_rfl
def bv (c : UInt8) : Value := .int .u8 c.toNat
theorem own_built {w : World} {B : Nat} (e : TypeId) (u : Value) (hB : B ≤ w.heap.size) : (w.alloc (.cells #[u] e)).ownsRow B e 1 (.slice (some ⟨w.heap.size, 0, none⟩) 1 1) 1 [u] :=
  ⟨rfl, .inr ⟨w.heap.size, 1, #[u], rfl, hB, heap_alloc_new w _, Nat.le_refl _, by decide, rfl, rfl⟩⟩
theorem bv_of (x : Int) (h0 : 0 ≤ x) (h1 : x < 256) : bv (UInt8.ofNat x.toNat) = .int .u8 x := by
  unfold bv
  have : (UInt8.ofNat x.toNat).toNat = x.toNat := by rw [UInt8.toNat_ofNat']; omega
  rw [this]; congr 1; omega
/-- What ValueBytes leaves: a row of its own, from the world's first free block on, that holds the bytes L. -/
def BPost (L : List UInt8) (w : World) (e : Ending) (w' : World) : Prop := ∃ v, e = .returned v ∧ w'.ownsRow w.heap.size 5 1 v L.length (L.map bv) ∧ Below w.heap.size w w'
theorem vb1 (n : Int) (s : ByteArray) (w : World) (hs : s.size ≤ maxLen) (hok : okB 1 n s = true) (h0 : -9999 ≤ n) (h1 : n ≤ 9999) : Calls Try.prog 51 #[.agg #[.int .i64 1, .int .i64 n, .string s]] w (BPost [1, UInt8.ofNat ((n + 10000) / 256).toNat, UInt8.ofNat ((n + 10000) % 256).toNat] w) := by
  obtain ⟨i0, hi, hz0, hz1', hz2⟩ := info_parts info5
  have q0 : 0 ≤ (n + 10000) / 256 := by omega
  have q1 : (n + 10000) / 256 < 256 := by omega
  have r0 : 0 ≤ (n + 10000) % 256 := by omega
  have r1 : (n + 10000) % 256 < 256 := by omega
  go_enter Try.func51, Try.ntmps51
  go_wp2_with (first | (go_at_call 56; ((with_reducible refine (valueOk _ _ _ _ (by assumption)).mono ?_); (try (have hc10 := hc9; have hf10 := hf9; have hz10 := hz9; have hb10 := hb9; have hya_10 := hya_9; clear hc9 hf9 hz9 hb9 hya_9)); (try (have hc9 := hc8; have hf9 := hf8; have hz9 := hz8; have hb9 := hb8; have hya_9 := hya_8; clear hc8 hf8 hz8 hb8 hya_8)); (try (have hc8 := hc7; have hf8 := hf7; have hz8 := hz7; have hb8 := hb7; have hya_8 := hya_7; clear hc7 hf7 hz7 hb7 hya_7)); (try (have hc7 := hc6; have hf7 := hf6; have hz7 := hz6; have hb7 := hb6; have hya_7 := hya_6; clear hc6 hf6 hz6 hb6 hya_6)); (try (have hc6 := hc5; have hf6 := hf5; have hz6 := hz5; have hb6 := hb5; have hya_6 := hya_5; clear hc5 hf5 hz5 hb5 hya_5)); (try (have hc5 := hc4; have hf5 := hf4; have hz5 := hz4; have hb5 := hb4; have hya_5 := hya_4; clear hc4 hf4 hz4 hb4 hya_4)); (try (have hc4 := hc3; have hf4 := hf3; have hz4 := hz3; have hb4 := hb3; have hya_4 := hya_3; clear hc3 hf3 hz3 hb3 hya_3)); (try (have hc3 := hc2; have hf3 := hf2; have hz3 := hz2; have hb3 := hb2; have hya_3 := hya_2; clear hc2 hf2 hz2 hb2 hya_2)); (try (have hc2 := hc1; have hf2 := hf1; have hz2 := hz1; have hb2 := hb1; have hya_2 := hya_1; clear hc1 hf1 hz1 hb1 hya_1)); rintro e w1 ⟨rfl, hb1⟩; obtain ⟨hc1, hf1⟩ := bcell hb1; (try simp only [World.size_drew, World.cell?_drew, World.frozen?_drew] at hc1 hf1); have hz1 := hb1.size; (try simp at hz1); have hya_1 : w.heap.size < w1.heap.size := (by omega); (try (have hx6 := hx5; have hn6 := hn5)); (try (have hx5 := hx4; have hn5 := hn4)); (try (have hx4 := hx3; have hn4 := hn3)); (try (have hx3 := hx2; have hn3 := hn2)); (try (have hx2 := hx1; have hn2 := hn1)); (try (have hx1 := Nat.lt_of_succ_le hz1; have hn1 := Nat.ne_of_lt hx1)))) | (at_builtin; refine wpList_append_own _ rfl _ _ 22 rfl w.heap.size 5 i0 (.int .u8 0) 1 1 Try.underlying22 hi hz0 hz1' hz2 rfl (by decide) _ 1 [.int .u8 1] rfl ((own_built 5 (.int .u8 1) (by omega)).alloc _) ⟨w1.heap.size + 1, 0, none⟩ 2 2 [.int .u8 ((n + 10000) / 256), .int .u8 ((n + 10000) % 256)] rfl rfl ?c1 ?c2 ?c3 ?c4 ?c5 ?_))
  case c1 =>
    intro j u hj
    match j with
    | 0 => simp at hj; subst hj; simp [go_sem, Addr.add]
    | 1 => simp at hj; subst hj; simp [go_sem, Addr.add]
    | k + 2 => simp at hj
  case c2 => simp [Value.oneCell']
  case c3 => decide
  case c4 => decide
  case c5 => simp; omega
  intro v' w2 hown hgr _
  have HOWN := Lib.hid hown
  have HG : Hid (Below w.heap.size w w2) := Below.grown (w := _) (by (repeat (with_reducible first | exact Below.refl _ _ | exact HBD.out | (refine Below.trans ?_ (Below.mono hb1 (by first | omega | (simp; done) | (simp; omega))); clear hb1) | (refine Below.trans ?_ (Below.mono hb2 (by first | omega | (simp; done) | (simp; omega))); clear hb2) | (refine Below.trans ?_ (Below.mono hb3 (by first | omega | (simp; done) | (simp; omega))); clear hb3) | (refine Below.trans ?_ (Below.mono hb4 (by first | omega | (simp; done) | (simp; omega))); clear hb4) | (refine Below.trans ?_ (Below.mono hb5 (by first | omega | (simp; done) | (simp; omega))); clear hb5) | (refine Below.trans ?_ (Below.mono hb6 (by first | omega | (simp; done) | (simp; omega))); clear hb6) | (refine Below.trans ?_ (Below.mono hb7 (by first | omega | (simp; done) | (simp; omega))); clear hb7) | (refine Below.trans ?_ (Below.mono hb8 (by first | omega | (simp; done) | (simp; omega))); clear hb8) | (refine Below.trans ?_ (Below.mono hb9 (by first | omega | (simp; done) | (simp; omega))); clear hb9) | (refine Below.trans ?_ (Below.mono hb10 (by first | omega | (simp; done) | (simp; omega))); clear hb10) | refine Below.alloc ?_ (by first | omega | (simp; done) | (simp; omega)) _ | refine Below.setCell ?_ (by first | omega | (simp; done) | (simp; omega)) _ | refine Below.drew ?_))) hgr (by simp; omega) (by intro k hk; simp [Value.ownBlock] at hk; omega)
  clear hown hgr
  go_wp2
  go_ret
  exact ⟨v', rfl, by show w2.ownsRow _ _ _ _ 3 [bv 1, bv _, bv _]; rw [bv_of _ q0 q1, bv_of _ r0 r1]; exact HOWN.out, HG.out⟩
theorem vb3 (n : Int) (s : ByteArray) (w : World) (hs : s.size ≤ maxLen) (hok : okB 3 n s = true) (h0 : 0 ≤ n) (h1 : n ≤ 1) : Calls Try.prog 51 #[.agg #[.int .i64 3, .int .i64 n, .string s]] w (BPost [3, UInt8.ofNat n.toNat] w) := by
  obtain ⟨i0, hi, hz0, hz1', hz2⟩ := info_parts info5
  have h2 : n < 256 := by omega
  go_enter Try.func51, Try.ntmps51
  go_wp2_with (first | (go_at_call 56; ((with_reducible refine (valueOk _ _ _ _ (by assumption)).mono ?_); (try (have hc10 := hc9; have hf10 := hf9; have hz10 := hz9; have hb10 := hb9; have hya_10 := hya_9; clear hc9 hf9 hz9 hb9 hya_9)); (try (have hc9 := hc8; have hf9 := hf8; have hz9 := hz8; have hb9 := hb8; have hya_9 := hya_8; clear hc8 hf8 hz8 hb8 hya_8)); (try (have hc8 := hc7; have hf8 := hf7; have hz8 := hz7; have hb8 := hb7; have hya_8 := hya_7; clear hc7 hf7 hz7 hb7 hya_7)); (try (have hc7 := hc6; have hf7 := hf6; have hz7 := hz6; have hb7 := hb6; have hya_7 := hya_6; clear hc6 hf6 hz6 hb6 hya_6)); (try (have hc6 := hc5; have hf6 := hf5; have hz6 := hz5; have hb6 := hb5; have hya_6 := hya_5; clear hc5 hf5 hz5 hb5 hya_5)); (try (have hc5 := hc4; have hf5 := hf4; have hz5 := hz4; have hb5 := hb4; have hya_5 := hya_4; clear hc4 hf4 hz4 hb4 hya_4)); (try (have hc4 := hc3; have hf4 := hf3; have hz4 := hz3; have hb4 := hb3; have hya_4 := hya_3; clear hc3 hf3 hz3 hb3 hya_3)); (try (have hc3 := hc2; have hf3 := hf2; have hz3 := hz2; have hb3 := hb2; have hya_3 := hya_2; clear hc2 hf2 hz2 hb2 hya_2)); (try (have hc2 := hc1; have hf2 := hf1; have hz2 := hz1; have hb2 := hb1; have hya_2 := hya_1; clear hc1 hf1 hz1 hb1 hya_1)); rintro e w1 ⟨rfl, hb1⟩; obtain ⟨hc1, hf1⟩ := bcell hb1; (try simp only [World.size_drew, World.cell?_drew, World.frozen?_drew] at hc1 hf1); have hz1 := hb1.size; (try simp at hz1); have hya_1 : w.heap.size < w1.heap.size := (by omega); (try (have hx6 := hx5; have hn6 := hn5)); (try (have hx5 := hx4; have hn5 := hn4)); (try (have hx4 := hx3; have hn4 := hn3)); (try (have hx3 := hx2; have hn3 := hn2)); (try (have hx2 := hx1; have hn2 := hn1)); (try (have hx1 := Nat.lt_of_succ_le hz1; have hn1 := Nat.ne_of_lt hx1)))) | (at_builtin; refine wpList_append_own _ rfl _ _ 22 rfl w.heap.size 5 i0 (.int .u8 0) 1 1 Try.underlying22 hi hz0 hz1' hz2 rfl (by decide) _ 1 [.int .u8 3] rfl ((own_built 5 (.int .u8 3) (by omega)).alloc _) ⟨w1.heap.size + 1, 0, none⟩ 1 1 [.int .u8 n] rfl rfl ?c1 ?c2 ?c3 ?c4 ?c5 ?_))
  case c1 =>
    intro j u hj
    match j with
    | 0 => simp at hj; subst hj; simp [go_sem, Addr.add]
    | k + 1 => simp at hj
  case c2 => simp [Value.oneCell']
  case c3 => decide
  case c4 => decide
  case c5 => simp; omega
  intro v' w2 hown hgr _
  have HOWN := Lib.hid hown
  have HG : Hid (Below w.heap.size w w2) := Below.grown (w := _) (by (repeat (with_reducible first | exact Below.refl _ _ | exact HBD.out | (refine Below.trans ?_ (Below.mono hb1 (by first | omega | (simp; done) | (simp; omega))); clear hb1) | (refine Below.trans ?_ (Below.mono hb2 (by first | omega | (simp; done) | (simp; omega))); clear hb2) | (refine Below.trans ?_ (Below.mono hb3 (by first | omega | (simp; done) | (simp; omega))); clear hb3) | (refine Below.trans ?_ (Below.mono hb4 (by first | omega | (simp; done) | (simp; omega))); clear hb4) | (refine Below.trans ?_ (Below.mono hb5 (by first | omega | (simp; done) | (simp; omega))); clear hb5) | (refine Below.trans ?_ (Below.mono hb6 (by first | omega | (simp; done) | (simp; omega))); clear hb6) | (refine Below.trans ?_ (Below.mono hb7 (by first | omega | (simp; done) | (simp; omega))); clear hb7) | (refine Below.trans ?_ (Below.mono hb8 (by first | omega | (simp; done) | (simp; omega))); clear hb8) | (refine Below.trans ?_ (Below.mono hb9 (by first | omega | (simp; done) | (simp; omega))); clear hb9) | (refine Below.trans ?_ (Below.mono hb10 (by first | omega | (simp; done) | (simp; omega))); clear hb10) | refine Below.alloc ?_ (by first | omega | (simp; done) | (simp; omega)) _ | refine Below.setCell ?_ (by first | omega | (simp; done) | (simp; omega)) _ | refine Below.drew ?_))) hgr (by simp; omega) (by intro k hk; simp [Value.ownBlock] at hk; omega)
  clear hown hgr
  go_wp2
  go_ret
  exact ⟨v', rfl, by show w2.ownsRow _ _ _ _ 2 [bv 3, bv _]; rw [bv_of _ h0 h2]; exact HOWN.out, HG.out⟩
theorem vb0 (s : ByteArray) (w : World) (hs : s.size ≤ maxLen) (hok : okB 0 0 s = true) : Calls Try.prog 51 #[.agg #[.int .i64 0, .int .i64 0, .string s]] w (BPost [0] w) := by
  go_enter Try.func51, Try.ntmps51
  go_wp2_with ((go_at_call 56; ((with_reducible refine (valueOk _ _ _ _ (by assumption)).mono ?_); (try (have hc10 := hc9; have hf10 := hf9; have hz10 := hz9; have hb10 := hb9; have hya_10 := hya_9; clear hc9 hf9 hz9 hb9 hya_9)); (try (have hc9 := hc8; have hf9 := hf8; have hz9 := hz8; have hb9 := hb8; have hya_9 := hya_8; clear hc8 hf8 hz8 hb8 hya_8)); (try (have hc8 := hc7; have hf8 := hf7; have hz8 := hz7; have hb8 := hb7; have hya_8 := hya_7; clear hc7 hf7 hz7 hb7 hya_7)); (try (have hc7 := hc6; have hf7 := hf6; have hz7 := hz6; have hb7 := hb6; have hya_7 := hya_6; clear hc6 hf6 hz6 hb6 hya_6)); (try (have hc6 := hc5; have hf6 := hf5; have hz6 := hz5; have hb6 := hb5; have hya_6 := hya_5; clear hc5 hf5 hz5 hb5 hya_5)); (try (have hc5 := hc4; have hf5 := hf4; have hz5 := hz4; have hb5 := hb4; have hya_5 := hya_4; clear hc4 hf4 hz4 hb4 hya_4)); (try (have hc4 := hc3; have hf4 := hf3; have hz4 := hz3; have hb4 := hb3; have hya_4 := hya_3; clear hc3 hf3 hz3 hb3 hya_3)); (try (have hc3 := hc2; have hf3 := hf2; have hz3 := hz2; have hb3 := hb2; have hya_3 := hya_2; clear hc2 hf2 hz2 hb2 hya_2)); (try (have hc2 := hc1; have hf2 := hf1; have hz2 := hz1; have hb2 := hb1; have hya_2 := hya_1; clear hc1 hf1 hz1 hb1 hya_1)); rintro e w1 ⟨rfl, hb1⟩; obtain ⟨hc1, hf1⟩ := bcell hb1; (try simp only [World.size_drew, World.cell?_drew, World.frozen?_drew] at hc1 hf1); have hz1 := hb1.size; (try simp at hz1); have hya_1 : w.heap.size < w1.heap.size := (by omega); (try (have hx6 := hx5; have hn6 := hn5)); (try (have hx5 := hx4; have hn5 := hn4)); (try (have hx4 := hx3; have hn4 := hn3)); (try (have hx3 := hx2; have hn3 := hn2)); (try (have hx2 := hx1; have hn2 := hn1)); (try (have hx1 := Nat.lt_of_succ_le hz1; have hn1 := Nat.ne_of_lt hx1)))))
  go_ret
  exact ⟨_, rfl, own_built 5 (.int .u8 0) (by omega), by (repeat (with_reducible first | exact Below.refl _ _ | exact HBD.out | (refine Below.trans ?_ (Below.mono hb1 (by first | omega | (simp; done) | (simp; omega))); clear hb1) | (refine Below.trans ?_ (Below.mono hb2 (by first | omega | (simp; done) | (simp; omega))); clear hb2) | (refine Below.trans ?_ (Below.mono hb3 (by first | omega | (simp; done) | (simp; omega))); clear hb3) | (refine Below.trans ?_ (Below.mono hb4 (by first | omega | (simp; done) | (simp; omega))); clear hb4) | (refine Below.trans ?_ (Below.mono hb5 (by first | omega | (simp; done) | (simp; omega))); clear hb5) | (refine Below.trans ?_ (Below.mono hb6 (by first | omega | (simp; done) | (simp; omega))); clear hb6) | (refine Below.trans ?_ (Below.mono hb7 (by first | omega | (simp; done) | (simp; omega))); clear hb7) | (refine Below.trans ?_ (Below.mono hb8 (by first | omega | (simp; done) | (simp; omega))); clear hb8) | (refine Below.trans ?_ (Below.mono hb9 (by first | omega | (simp; done) | (simp; omega))); clear hb9) | (refine Below.trans ?_ (Below.mono hb10 (by first | omega | (simp; done) | (simp; omega))); clear hb10) | refine Below.alloc ?_ (by first | omega | (simp; done) | (simp; omega)) _ | refine Below.setCell ?_ (by first | omega | (simp; done) | (simp; omega)) _ | refine Below.drew ?_))⟩
theorem vbNo (k n : Int) (s : ByteArray) (w : World) (hs : s.size ≤ maxLen) (hok : okB k n s = false) : Calls Try.prog 51 #[.agg #[.int .i64 k, .int .i64 n, .string s]] w (BPost [] w) := by
  go_enter Try.func51, Try.ntmps51
  go_wp2_with ((go_at_call 56; ((with_reducible refine (valueOk _ _ _ _ (by assumption)).mono ?_); (try (have hc10 := hc9; have hf10 := hf9; have hz10 := hz9; have hb10 := hb9; have hya_10 := hya_9; clear hc9 hf9 hz9 hb9 hya_9)); (try (have hc9 := hc8; have hf9 := hf8; have hz9 := hz8; have hb9 := hb8; have hya_9 := hya_8; clear hc8 hf8 hz8 hb8 hya_8)); (try (have hc8 := hc7; have hf8 := hf7; have hz8 := hz7; have hb8 := hb7; have hya_8 := hya_7; clear hc7 hf7 hz7 hb7 hya_7)); (try (have hc7 := hc6; have hf7 := hf6; have hz7 := hz6; have hb7 := hb6; have hya_7 := hya_6; clear hc6 hf6 hz6 hb6 hya_6)); (try (have hc6 := hc5; have hf6 := hf5; have hz6 := hz5; have hb6 := hb5; have hya_6 := hya_5; clear hc5 hf5 hz5 hb5 hya_5)); (try (have hc5 := hc4; have hf5 := hf4; have hz5 := hz4; have hb5 := hb4; have hya_5 := hya_4; clear hc4 hf4 hz4 hb4 hya_4)); (try (have hc4 := hc3; have hf4 := hf3; have hz4 := hz3; have hb4 := hb3; have hya_4 := hya_3; clear hc3 hf3 hz3 hb3 hya_3)); (try (have hc3 := hc2; have hf3 := hf2; have hz3 := hz2; have hb3 := hb2; have hya_3 := hya_2; clear hc2 hf2 hz2 hb2 hya_2)); (try (have hc2 := hc1; have hf2 := hf1; have hz2 := hz1; have hb2 := hb1; have hya_2 := hya_1; clear hc1 hf1 hz1 hb1 hya_1)); rintro e w1 ⟨rfl, hb1⟩; obtain ⟨hc1, hf1⟩ := bcell hb1; (try simp only [World.size_drew, World.cell?_drew, World.frozen?_drew] at hc1 hf1); have hz1 := hb1.size; (try simp at hz1); have hya_1 : w.heap.size < w1.heap.size := (by omega); (try (have hx6 := hx5; have hn6 := hn5)); (try (have hx5 := hx4; have hn5 := hn4)); (try (have hx4 := hx3; have hn4 := hn3)); (try (have hx3 := hx2; have hn3 := hn2)); (try (have hx2 := hx1; have hn2 := hn1)); (try (have hx1 := Nat.lt_of_succ_le hz1; have hn1 := Nat.ne_of_lt hx1)))))
  go_ret
  exact ⟨_, rfl, World.ownsRow_nil _ _ _ _, by (repeat (with_reducible first | exact Below.refl _ _ | exact HBD.out | (refine Below.trans ?_ (Below.mono hb1 (by first | omega | (simp; done) | (simp; omega))); clear hb1) | (refine Below.trans ?_ (Below.mono hb2 (by first | omega | (simp; done) | (simp; omega))); clear hb2) | (refine Below.trans ?_ (Below.mono hb3 (by first | omega | (simp; done) | (simp; omega))); clear hb3) | (refine Below.trans ?_ (Below.mono hb4 (by first | omega | (simp; done) | (simp; omega))); clear hb4) | (refine Below.trans ?_ (Below.mono hb5 (by first | omega | (simp; done) | (simp; omega))); clear hb5) | (refine Below.trans ?_ (Below.mono hb6 (by first | omega | (simp; done) | (simp; omega))); clear hb6) | (refine Below.trans ?_ (Below.mono hb7 (by first | omega | (simp; done) | (simp; omega))); clear hb7) | (refine Below.trans ?_ (Below.mono hb8 (by first | omega | (simp; done) | (simp; omega))); clear hb8) | (refine Below.trans ?_ (Below.mono hb9 (by first | omega | (simp; done) | (simp; omega))); clear hb9) | (refine Below.trans ?_ (Below.mono hb10 (by first | omega | (simp; done) | (simp; omega))); clear hb10) | refine Below.alloc ?_ (by first | omega | (simp; done) | (simp; omega)) _ | refine Below.setCell ?_ (by first | omega | (simp; done) | (simp; omega)) _ | refine Below.drew ?_))⟩
theorem strCells_bv (s : ByteArray) : Lib.strCells s = s.data.toList.map bv := by
  unfold Lib.strCells bv; simp
theorem vb2 (s : ByteArray) (w : World) (hs : s.size ≤ maxLen) (hok : okB 2 0 s = true) (h1 : s.size ≤ 6) : Calls Try.prog 51 #[.agg #[.int .i64 2, .int .i64 0, .string s]] w (BPost (2 :: UInt8.ofNat s.size :: s.data.toList) w) := by
  obtain ⟨i0, hi, hz0, hz1', hz2⟩ := info_parts info5
  have h2 : (s.size : Int) < 256 := by omega
  have h3 : 0 ≤ (s.size : Int) := by omega
  go_enter Try.func51, Try.ntmps51
  go_wp2_with (first | (go_at_call 56; ((with_reducible refine (valueOk _ _ _ _ (by assumption)).mono ?_); (try (have hc10 := hc9; have hf10 := hf9; have hz10 := hz9; have hb10 := hb9; have hya_10 := hya_9; clear hc9 hf9 hz9 hb9 hya_9)); (try (have hc9 := hc8; have hf9 := hf8; have hz9 := hz8; have hb9 := hb8; have hya_9 := hya_8; clear hc8 hf8 hz8 hb8 hya_8)); (try (have hc8 := hc7; have hf8 := hf7; have hz8 := hz7; have hb8 := hb7; have hya_8 := hya_7; clear hc7 hf7 hz7 hb7 hya_7)); (try (have hc7 := hc6; have hf7 := hf6; have hz7 := hz6; have hb7 := hb6; have hya_7 := hya_6; clear hc6 hf6 hz6 hb6 hya_6)); (try (have hc6 := hc5; have hf6 := hf5; have hz6 := hz5; have hb6 := hb5; have hya_6 := hya_5; clear hc5 hf5 hz5 hb5 hya_5)); (try (have hc5 := hc4; have hf5 := hf4; have hz5 := hz4; have hb5 := hb4; have hya_5 := hya_4; clear hc4 hf4 hz4 hb4 hya_4)); (try (have hc4 := hc3; have hf4 := hf3; have hz4 := hz3; have hb4 := hb3; have hya_4 := hya_3; clear hc3 hf3 hz3 hb3 hya_3)); (try (have hc3 := hc2; have hf3 := hf2; have hz3 := hz2; have hb3 := hb2; have hya_3 := hya_2; clear hc2 hf2 hz2 hb2 hya_2)); (try (have hc2 := hc1; have hf2 := hf1; have hz2 := hz1; have hb2 := hb1; have hya_2 := hya_1; clear hc1 hf1 hz1 hb1 hya_1)); rintro e w1 ⟨rfl, hb1⟩; obtain ⟨hc1, hf1⟩ := bcell hb1; (try simp only [World.size_drew, World.cell?_drew, World.frozen?_drew] at hc1 hf1); have hz1 := hb1.size; (try simp at hz1); have hya_1 : w.heap.size < w1.heap.size := (by omega); (try (have hx6 := hx5; have hn6 := hn5)); (try (have hx5 := hx4; have hn5 := hn4)); (try (have hx4 := hx3; have hn4 := hn3)); (try (have hx3 := hx2; have hn3 := hn2)); (try (have hx2 := hx1; have hn2 := hn1)); (try (have hx1 := Nat.lt_of_succ_le hz1; have hn1 := Nat.ne_of_lt hx1)))) | (at_builtin; refine wpList_append_own _ rfl _ _ 22 rfl w.heap.size 5 i0 (.int .u8 0) 1 1 Try.underlying22 hi hz0 hz1' hz2 rfl (by decide) _ 1 [.int .u8 2] rfl ((own_built 5 (.int .u8 2) (by omega)).alloc _) ⟨w1.heap.size + 1, 0, none⟩ 1 1 [.int .u8 s.size] rfl rfl ?c1 ?c2 ?c3 ?c4 ?c5 ?_))
  case c1 =>
    intro j u hj
    match j with
    | 0 => simp at hj; subst hj; simp [go_sem, Addr.add]
    | k + 1 => simp at hj
  case c2 => simp [Value.oneCell']
  case c3 => decide
  case c4 => decide
  case c5 => simp; omega
  intro v' w2 hown hgr _
  have HOWN := Lib.hid hown
  have hsz := hgr.size
  have hcell := hgr.cell (a := ⟨w.heap.size, 2, none⟩) (v := .string s) (by simp [go_sem, *]) (by simp [Value.ownBlock]; omega)
  have HG : Hid (Below w.heap.size w w2) := Below.grown (w := _) (by (repeat (with_reducible first | exact Below.refl _ _ | exact HBD.out | (refine Below.trans ?_ (Below.mono hb1 (by first | omega | (simp; done) | (simp; omega))); clear hb1) | (refine Below.trans ?_ (Below.mono hb2 (by first | omega | (simp; done) | (simp; omega))); clear hb2) | (refine Below.trans ?_ (Below.mono hb3 (by first | omega | (simp; done) | (simp; omega))); clear hb3) | (refine Below.trans ?_ (Below.mono hb4 (by first | omega | (simp; done) | (simp; omega))); clear hb4) | (refine Below.trans ?_ (Below.mono hb5 (by first | omega | (simp; done) | (simp; omega))); clear hb5) | (refine Below.trans ?_ (Below.mono hb6 (by first | omega | (simp; done) | (simp; omega))); clear hb6) | (refine Below.trans ?_ (Below.mono hb7 (by first | omega | (simp; done) | (simp; omega))); clear hb7) | (refine Below.trans ?_ (Below.mono hb8 (by first | omega | (simp; done) | (simp; omega))); clear hb8) | (refine Below.trans ?_ (Below.mono hb9 (by first | omega | (simp; done) | (simp; omega))); clear hb9) | (refine Below.trans ?_ (Below.mono hb10 (by first | omega | (simp; done) | (simp; omega))); clear hb10) | refine Below.alloc ?_ (by first | omega | (simp; done) | (simp; omega)) _ | refine Below.setCell ?_ (by first | omega | (simp; done) | (simp; omega)) _ | refine Below.drew ?_))) hgr (by simp; omega) (by intro k hk; simp [Value.ownBlock] at hk; omega)
  clear hown hgr
  simp at hsz
  have hb2 : w.heap.size ≤ w2.heap.size := by omega
  go_wp2_with (at_builtin; refine Lib.wpList_append_own_string _ rfl _ _ 22 9 rfl w.heap.size 5 i0 Try.underlying22 Try.underlying9 hi hz0 hz1' hz2 _ 2 _ rfl HOWN.out s rfl ?d1 ?d2 ?d3 ?_)
  case d1 => unfold maxLen; omega
  case d2 => omega
  case d3 => omega
  intro v3 w3 hown3 hgr3 _
  have HG3 : Hid (Below w.heap.size w w3) := HG.out.grown hgr3 hb2 (fun k hk => (HOWN.out.lt k hk).1)
  have HX : Hid (w3.ownsRow w.heap.size 5 1 v3 (2 :: UInt8.ofNat s.size :: s.data.toList).length ((2 :: UInt8.ofNat s.size :: s.data.toList).map bv)) := by
    have hl : (2 :: UInt8.ofNat s.size :: s.data.toList).length = 2 + s.size := by
      have : s.data.toList.length = s.size := by simp
      simp only [List.length_cons, this]; omega
    have e2 : bv (UInt8.ofNat s.size) = .int .u8 s.size := by
      have := bv_of (s.size : Int) h3 h2
      rwa [Int.toNat_natCast] at this
    show w3.ownsRow _ _ _ _ _ _
    rw [hl, List.map_cons, List.map_cons, e2, ← strCells_bv]
    exact hown3
  clear hown3 hgr3 hcell
  go_wp2
  go_ret
  exact ⟨v3, rfl, HX.out, HG3.out⟩
def bytesL (k n : Int) (s : ByteArray) : List UInt8 :=
  if okB k n s = false then [] else if k = 1 then [1, UInt8.ofNat ((n + 10000) / 256).toNat, UInt8.ofNat ((n + 10000) % 256).toNat] else if k = 2 then 2 :: UInt8.ofNat s.size :: s.data.toList else if k = 3 then [3, UInt8.ofNat n.toNat] else [0]
theorem valueBytesI (k n : Int) (s : ByteArray) (w : World) (hs : s.size ≤ maxLen) : Calls Try.prog 51 #[.agg #[.int .i64 k, .int .i64 n, .string s]] w (BPost (bytesL k n s) w) := by
  rcases ok_cases k n s with h | ⟨rfl, rfl, hl, h⟩ | ⟨rfl, h1, h2, hl, h⟩ | ⟨rfl, rfl, hz, hl, h⟩ | ⟨rfl, rfl, hl, h⟩ | ⟨rfl, rfl, hl, h⟩
  · have : bytesL k n s = [] := by simp [bytesL, h]
    rw [this]; exact vbNo k n s w hs h
  · have : bytesL 0 0 s = [0] := by simp [bytesL, h]
    rw [this]; exact vb0 s w hs h
  · have : bytesL 1 n s = [1, UInt8.ofNat ((n + 10000) / 256).toNat, UInt8.ofNat ((n + 10000) % 256).toNat] := by simp [bytesL, h]
    rw [this]; exact vb1 n s w hs h h1 h2
  · have : bytesL 2 0 s = 2 :: UInt8.ofNat s.size :: s.data.toList := by simp [bytesL, h]
    rw [this]; exact vb2 s w hs h hz
  · have : bytesL 3 0 s = [3, UInt8.ofNat (0 : Int).toNat] := by simp [bytesL, h]
    rw [this]; exact vb3 0 s w hs h (by omega) (by omega)
  · have : bytesL 3 1 s = [3, UInt8.ofNat (1 : Int).toNat] := by simp [bytesL, h]
    rw [this]; exact vb3 1 s w hs h (by omega) (by omega)
end Go.Proofs.Ytlkdcijacjdneaa.Val
