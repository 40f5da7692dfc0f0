/- What the draws of chapter 4 leave (DrawExprKind, DrawExprValue, DrawExprHolds, DrawExprColumns). -/
import Derived.Test.YtcgjnilkbdamjabDrawW
namespace Go.Proofs.Ytcgjnilkbdamjab.Val
open Go.RowKit
set_option linter.unusedVariables false
set_option linter.unusedSimpArgs false
theorem fl_sliceP {W : World} {B g n cap size : Nat} {ty : TypeId} {xs : List Value} (h : W.ownsRow B ty size (.slice (some ⟨g, 0, none⟩) n cap) n xs) : Fl W g 0 (some ⟨g, 0, none⟩) xs := by
  refine ⟨fun _ => rfl, fun j hj => ?_⟩
  rw [Nat.zero_add, h.cellAt j (by rw [← h.1]; exact hj), List.getElem?_eq_getElem hj]
theorem own_sliceY {W : World} {B size n : Nat} {ty : TypeId} {v : Value} {xs : List Value} (h : W.ownsRow B ty size v n xs) (h0 : v = .slice none 0 0 → False) : ∃ g cap, v = .slice (some ⟨g, 0, none⟩) n cap := by
  rcases h.2 with ⟨hz, -⟩ | ⟨g, cap, cur, hv, -⟩
  · exact (h0 hz).elim
  · exact ⟨g, cap, hv⟩
theorem news_fl {W : World} {g : Nat} {A : Option Addr} {xs : List Value} (h : Fl W g 0 A xs) : ∀ j u, xs[j]? = some u → W.cell? ((⟨g, 0, none⟩ : Addr).add j) = some u := by
  intro j u hj
  obtain ⟨hl, rfl⟩ := List.getElem?_eq_some_iff.1 hj
  have := h.c j hl
  rw [Nat.zero_add] at this
  have ha : (⟨g, 0, none⟩ : Addr).add j = ⟨g, j, none⟩ := by unfold Addr.add; split <;> simp_all
  rw [ha]
  exact this
theorem own_grown {w w' : World} {row : Option Nat} {B size n g cap : Nat} {e : TypeId} {xs : List Value} (h : w.ownsRow B e size (.slice (some ⟨g, 0, none⟩) n cap) n xs) (hg : w.grownBy w' row) (hne : row = some g → False) : w'.ownsRow B e size (.slice (some ⟨g, 0, none⟩) n cap) n xs := by
  refine ⟨h.1, ?_⟩
  rcases h.2 with h0 | ⟨g2, cap2, cur, h1, h2, h3, h4⟩
  · exact .inl h0
  · have hgg : g = g2 := by
      injection h1 with e1 e2 e3
      injection e1 with e1
      injection e1
    subst hgg
    exact .inr ⟨g, cap2, cur, h1, h2, by rw [hg.block g (Array.getElem?_eq_some_iff.1 h3).1 (fun h => hne h.symm)]; exact h3, h4⟩
def DrewCVP (w : World) (e : Ending) (w' : World) : Prop := ∃ (cs : List CT) (vs : List VT) (ps : List PT) (g c g2 c2 g3 c3 : Nat), e = .returned (.tuple #[.slice (some ⟨g, 0, none⟩) cs.length c, .slice (some ⟨g2, 0, none⟩) vs.length c2, .slice (some ⟨g3, 0, none⟩) ps.length c3]) ∧ (0 < cs.length ∧ cs.length ≤ 6) ∧ (0 < vs.length ∧ vs.length ≤ 20) ∧ ps.length ≤ 65 ∧ Texts vs ∧ TextsP ps ∧ Fl w' g 0 (some ⟨g, 0, none⟩) (flatC cs) ∧ Fl w' g2 0 (some ⟨g2, 0, none⟩) (flatV vs) ∧ Fl w' g3 0 (some ⟨g3, 0, none⟩) (flatP ps) ∧ g3 < w'.heap.size ∧ Below w.heap.size w w'
def DrewCP (w : World) (e : Ending) (w' : World) : Prop := ∃ (cs : List CT) (ps : List PT) (g c g3 c3 : Nat), e = .returned (.tuple #[.slice (some ⟨g, 0, none⟩) cs.length c, .slice (some ⟨g3, 0, none⟩) ps.length c3]) ∧ (0 < cs.length ∧ cs.length ≤ 6) ∧ ps.length ≤ 65 ∧ TextsP ps ∧ Fl w' g 0 (some ⟨g, 0, none⟩) (flatC cs) ∧ Fl w' g3 0 (some ⟨g3, 0, none⟩) (flatP ps) ∧ g3 < w'.heap.size ∧ Below w.heap.size w w'
set_option maxHeartbeats 4000000 in
theorem drawExprValue (a : Option Addr) (len cap : Nat) (zs : List Int) (w : World) (h : IsRow .u8 w a len cap zs) : Calls Try.prog 20 #[.slice a len cap] w (DrewCVP w) := by
  have HI := Lib.hid h
  clear h
  go_enter Try.func20, Try.ntmps20
  go_wp2_with (first
    | (go_at_call 26; (with_reducible refine (l20Open _ _ _ zs _ HI.out).mono ?_); rintro e w1 ⟨r, rfl, hr, hb⟩; have HB := Lib.hid hb; have HR := Lib.hid hr; have hrge := hr.ge; have hrlt := hr.lt; clear hb hr)
    | (go_at_call 44; (with_reducible refine (l20Asked w.heap.size r 9 0 _ HR.out (by omega) (by omega) (by omega)).mono ?_); rintro e w2 ⟨cs, g, c, vs, g2, c2, ps, g3, c3, q, rfl, hc, hv, hps, ht, htp, -, hf, hf2, hown, -, ho, -⟩; have hf3 := fl_sliceP hown; have hg3 := (own_cap hown).2.1; have HF := Lib.hid hf; have HF2 := Lib.hid hf2; have HF3 := Lib.hid hf3; have HT := Lib.hid ht; have HTP := Lib.hid htp; have HB2 := Lib.hid (HB.out.trans (ho.below hrge HB.out.size)); clear hf hf2 hf3 hown ht htp ho))
  exact bodyPost_ret (v := .tuple #[.slice (some ⟨g, 0, none⟩) cs.length c, .slice (some ⟨g2, 0, none⟩) vs.length c2, .slice (some ⟨g3, 0, none⟩) ps.length c3]) (by simp [results, Try.results20, go_sem]) rfl ⟨cs, vs, ps, g, c, g2, c2, g3, c3, rfl, hc, hv, hps, HT.out, HTP.out, HF.out, HF2.out, HF3.out, hg3, HB2.out⟩
end Go.Proofs.Ytcgjnilkbdamjab.Val
