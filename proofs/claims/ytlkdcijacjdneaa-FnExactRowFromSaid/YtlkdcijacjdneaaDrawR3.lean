/- What the draws of chapter 3 leave. -/
import Derived.Test.YtlkdcijacjdneaaDrawS2
namespace Go.Proofs.Ytlkdcijacjdneaa.Val
open Go.RowKit
set_option linter.unusedVariables false
/-- Columns, a row, in rows of their own. -/
def CsAt (w : World) (g : Nat) (cap : Nat) (cs : List CT) : Prop := 0 < cs.length ∧ cs.length ≤ 6 ∧ cs.length ≤ cap ∧ cap ≤ maxLen ∧ Fl w g 0 (some ⟨g, 0, none⟩) (flatC cs)
def VsAt (w : World) (g : Nat) (cap : Nat) (vs : List VT) : Prop := vs.length ≤ 9 ∧ Texts vs ∧ vs.length ≤ cap ∧ cap ≤ maxLen ∧ Fl w g 0 (some ⟨g, 0, none⟩) (flatV vs)
theorem CsAt.below {w w' : World} {g cap : Nat} {cs : List CT} (h : CsAt w g cap cs) (hb : Below w.heap.size w w') : CsAt w' g cap cs := ⟨h.1, h.2.1, h.2.2.1, h.2.2.2.1, h.2.2.2.2.below hb⟩
theorem VsAt.below {w w' : World} {g cap : Nat} {vs : List VT} (h : VsAt w g cap vs) (hb : Below w.heap.size w w') : VsAt w' g cap vs := ⟨h.1, h.2.1, h.2.2.1, h.2.2.2.1, h.2.2.2.2.below hb⟩
def DrewCs (w : World) (e : Ending) (w' : World) : Prop := ∃ (cs : List CT) (g cap : Nat), e = .returned (.slice (some ⟨g, 0, none⟩) cs.length cap) ∧ CsAt w' g cap cs ∧ Below w.heap.size w w'
def DrewVs (w : World) (e : Ending) (w' : World) : Prop := ∃ (vs : List VT) (g cap : Nat), e = .returned (.slice (some ⟨g, 0, none⟩) vs.length cap) ∧ VsAt w' g cap vs ∧ Below w.heap.size w w'
theorem drawColumnsOk (a : Option Addr) (len cap : Nat) (zs : List Int) (w : World) (h : IsRow .u8 w a len cap zs) : Calls Try.prog 16 #[.slice a len cap] w (DrewCs w) := by
  have HI := Lib.hid h
  clear h
  go_enter Try.func16, Try.ntmps16
  go_wp2_with (first | (go_at_call 53; (with_reducible refine (l20Open _ _ _ zs _ HI.out).mono ?_); rintro e w1 ⟨r, rfl, hr, hb⟩; have HB := Lib.hid hb; have HR := Lib.hid hr; clear hb hr) | (go_at_call 52; (with_reducible refine (l20Columns w.heap.size r 3 0 _ HR.out (by omega) (by omega)).mono ?_); rintro e w2 ⟨cs, g, c, q, rfl, h0, h6, h7, h8, hg, hf, hq, ho, hr2⟩; have HF := Lib.hid hf; have HB2 := Lib.hid (HB.out.trans (ho.below HR.out.ge HB.out.size)); clear hf ho hr2))
  go_ret
  exact ⟨cs, g, c, rfl, ⟨h0, h6, h7, h8, HF.out⟩, HB2.out⟩
theorem drawRowOk (a : Option Addr) (len cap : Nat) (zs : List Int) (w : World) (h : IsRow .u8 w a len cap zs) : Calls Try.prog 20 #[.slice a len cap] w (DrewVs w) := by
  have HI := Lib.hid h
  clear h
  go_enter Try.func20, Try.ntmps20
  go_wp2_with (first | (go_at_call 53; (with_reducible refine (l20Open _ _ _ zs _ HI.out).mono ?_); rintro e w1 ⟨r, rfl, hr, hb⟩; have HB := Lib.hid hb; have HR := Lib.hid hr; clear hb hr) | (go_at_call 57; (with_reducible refine (l20Any w.heap.size r 2 0 _ HR.out (by omega) (by omega)).mono ?_); rintro e w2 ⟨vs, g, c, q, rfl, h0, h6, ht, h7, h8, hg, hf, hq, ho, hr2⟩; have HF := Lib.hid hf; have HT := Lib.hid ht; have HB2 := Lib.hid (HB.out.trans (ho.below HR.out.ge HB.out.size)); clear hf ho hr2 ht))
  go_ret
  exact ⟨vs, g, c, rfl, ⟨by omega, HT.out, h7, h8, HF.out⟩, HB2.out⟩
theorem drawRowBytes (a : Option Addr) (len cap : Nat) (zs : List Int) (w : World) (h : IsRow .u8 w a len cap zs) : Calls Try.prog 31 #[.slice a len cap] w (DrewVs w) := by
  have HI := Lib.hid h
  clear h
  go_enter Try.func31, Try.ntmps31
  go_wp2_with (first | (go_at_call 53; (with_reducible refine (l20Open _ _ _ zs _ HI.out).mono ?_); rintro e w1 ⟨r, rfl, hr, hb⟩; have HB := Lib.hid hb; have HR := Lib.hid hr; clear hb hr) | (go_at_call 57; (with_reducible refine (l20Any w.heap.size r 9 0 _ HR.out (by omega) (by omega)).mono ?_); rintro e w2 ⟨vs, g, c, q, rfl, h0, h6, ht, h7, h8, hg, hf, hq, ho, hr2⟩; have HF := Lib.hid hf; have HT := Lib.hid ht; have HB2 := Lib.hid (HB.out.trans (ho.below HR.out.ge HB.out.size)); clear hf ho hr2 ht))
  go_ret
  exact ⟨vs, g, c, rfl, ⟨by omega, HT.out, h7, h8, HF.out⟩, HB2.out⟩
/-- Two rows. -/
def DrewVsVs (w : World) (e : Ending) (w' : World) : Prop := ∃ (us vs : List VT) (g c g2 c2 : Nat), e = .returned (.tuple #[.slice (some ⟨g, 0, none⟩) us.length c, .slice (some ⟨g2, 0, none⟩) vs.length c2]) ∧ 0 < us.length ∧ us.length ≤ 9 ∧ vs.length ≤ 9 ∧ Texts us ∧ Texts vs ∧ us.length ≤ c ∧ c ≤ maxLen ∧ Fl w' g 0 (some ⟨g, 0, none⟩) (flatV us) ∧ Fl w' g2 0 (some ⟨g2, 0, none⟩) (flatV vs) ∧ Below w.heap.size w w'
def DrewCsVs (w : World) (e : Ending) (w' : World) : Prop := ∃ (cs : List CT) (vs : List VT) (g c g2 c2 : Nat), e = .returned (.tuple #[.slice (some ⟨g, 0, none⟩) cs.length c, .slice (some ⟨g2, 0, none⟩) vs.length c2]) ∧ 0 < cs.length ∧ cs.length ≤ 6 ∧ vs.length ≤ 9 ∧ Texts vs ∧ Fl w' g 0 (some ⟨g, 0, none⟩) (flatC cs) ∧ Fl w' g2 0 (some ⟨g2, 0, none⟩) (flatV vs) ∧ Below w.heap.size w w'
theorem drawRowFits (a : Option Addr) (len cap : Nat) (zs : List Int) (w : World) (h : IsRow .u8 w a len cap zs) : Calls Try.prog 24 #[.slice a len cap] w (DrewCsVs w) := by
  have HI := Lib.hid h
  clear h
  go_enter Try.func24, Try.ntmps24
  go_wp2_with (first | (go_at_call 53; (with_reducible refine (l20Open _ _ _ zs _ HI.out).mono ?_); rintro e w1 ⟨r, rfl, hr, hb⟩; have HB := Lib.hid hb; have HR := Lib.hid hr; have hrge := hr.ge; have hrlt := hr.lt; clear hb hr) | ((fail_if_success (have _ := FC)); go_at_call 52; (with_reducible refine (l20Columns w.heap.size r 9 0 _ HR.out (by omega) (by omega)).mono ?_); rintro e wx ⟨cs, gc, cc, qc, rfl, hc0, hc6, hc7, hc8, hgc1, hfc, hqc, ho, hr2⟩; have HBn := Lib.hid (HB.out.trans (ho.below hrge HB.out.size)); clear HB HR; have HB := HBn; have HR := Lib.hid hr2; clear HBn hr2; have FC := Lib.hid hfc; have hgc : gc ≠ r := (by omega); clear hfc; clear ho))
  have hrl := HR.out.lt
  have hq0 := HR.out.p0
  go_wp2_with ((go_at_call 59; (with_reducible refine (l20Fit w.heap.size r gc cc cs 3 qc _ HR.out (by omega) (by omega) FC.out hgc hc0 (by omega)).mono ?_); rintro e wx ⟨vs, ga, ca, qa, rfl, ha0, ha1, hat, hac, hac2, hag, hfa, hqa, ho, hr2⟩; have HBn := Lib.hid (HB.out.trans (ho.below hrge HB.out.size)); have FCn := Lib.hid (Fl.only FC.out ho (fun _ => hgc)); clear FC; have FC := FCn; clear FCn; clear HB HR; have HB := HBn; have HR := Lib.hid hr2; clear HBn hr2; have FA := Lib.hid hfa; have HT := Lib.hid hat; clear hfa hat; clear ho))
  exact bodyPost_ret (v := .tuple #[.slice (some ⟨gc, 0, none⟩) cs.length cc, .slice (some ⟨ga, 0, none⟩) vs.length ca]) (by simp [results, Try.results24, go_sem]) rfl ⟨cs, vs, gc, cc, ga, ca, rfl, hc0, hc6, by omega, HT.out, FC.out, FA.out, HB.out⟩
theorem drawRowOrder (a : Option Addr) (len cap : Nat) (zs : List Int) (w : World) (h : IsRow .u8 w a len cap zs) : Calls Try.prog 27 #[.slice a len cap] w (DrewVsVs w) := by
  have HI := Lib.hid h
  clear h
  go_enter Try.func27, Try.ntmps27
  go_wp2_with (first | (go_at_call 53; (with_reducible refine (l20Open _ _ _ zs _ HI.out).mono ?_); rintro e w1 ⟨r, rfl, hr, hb⟩; have HB := Lib.hid hb; have HR := Lib.hid hr; have hrge := hr.ge; have hrlt := hr.lt; clear hb hr) | ((fail_if_success (have _ := FC)); go_at_call 52; (with_reducible refine (l20Columns w.heap.size r 0 0 _ HR.out (by omega) (by omega)).mono ?_); rintro e wx ⟨cs, gc, cc, qc, rfl, hc0, hc6, hc7, hc8, hgc1, hfc, hqc, ho, hr2⟩; have HBn := Lib.hid (HB.out.trans (ho.below hrge HB.out.size)); clear HB HR; have HB := HBn; have HR := Lib.hid hr2; clear HBn hr2; have FC := Lib.hid hfc; have hgc : gc ≠ r := (by omega); clear hfc; clear ho))
  have hrl := HR.out.lt
  have hq0 := HR.out.p0
  go_wp2_with ((fail_if_success (have _ := FA)); (go_at_call 59; (with_reducible refine (l20Fit w.heap.size r gc cc cs 9 qc _ HR.out (by omega) (by omega) FC.out hgc hc0 (by omega)).mono ?_); rintro e wx ⟨us, ga, ca, qa, rfl, ha0, ha1, hat, hac, hac2, hag, hfa, hqa, ho, hr2⟩; have HBn := Lib.hid (HB.out.trans (ho.below hrge HB.out.size)); have FCn := Lib.hid (Fl.only FC.out ho (fun _ => hgc)); clear FC; have FC := FCn; clear FCn; clear HB HR; have HB := HBn; have HR := Lib.hid hr2; clear HBn hr2; have FA := Lib.hid hfa; have HT := Lib.hid hat; clear hfa hat; have hga : ga ≠ r := (by omega); clear ho))
  have hrl2 := HR.out.lt
  have hq02 := HR.out.p0
  go_wp2_with (first
    | ((fail_if_success (have _ := FB)); (go_at_call 59; (with_reducible refine (l20Fit w.heap.size r gc cc cs 9 qa _ HR.out (by omega) (by omega) FC.out hgc hc0 (by omega)).mono ?_); rintro e wx ⟨vs, gb, cb, qb, rfl, hb0, hb1, hbt, hbc, hbc2, hbg, hfb, hqb, ho, hr2⟩; have HBn := Lib.hid (HB.out.trans (ho.below hrge HB.out.size)); have FCn := Lib.hid (Fl.only FC.out ho (fun _ => hgc)); clear FC; have FC := FCn; clear FCn; have FAn := Lib.hid (Fl.only FA.out ho (fun _ => hga)); clear FA; have FA := FAn; clear FAn; clear HB HR; have HB := HBn; have HR := Lib.hid hr2; clear HBn hr2; have FB := Lib.hid hfb; have HTB := Lib.hid hbt; clear hfb hbt; have hgb : gb ≠ r := (by omega); clear ho))
    | ((fail_if_success (have _ := P4)); (go_at_call 61; (with_reducible refine (pick w.heap.size r 4 qb _ HR.out (by omega)).mono ?_); rintro e wx ⟨m4, rfl, h40, h41, -, ho, hr2⟩; have HBn := Lib.hid (HB.out.trans (ho.below hrge HB.out.size)); have FAn := Lib.hid (Fl.only FA.out ho (fun _ => hga)); clear FA; have FA := FAn; clear FAn; have FBn := Lib.hid (Fl.only FB.out ho (fun _ => hgb)); clear FB; have FB := FBn; clear FBn; clear HB HR; have HB := HBn; have HR := Lib.hid hr2; clear HBn hr2; have P4 := True.intro; clear ho))
    | ((go_at_call 61; (with_reducible refine (pick w.heap.size r ((vs.length : Int) + 1) _ _ HR.out (by omega)).mono ?_); rintro e wx ⟨mi, rfl, hi0, hi1, -, ho, hr2⟩; have HBn := Lib.hid (HB.out.trans (ho.below hrge HB.out.size)); have FAn := Lib.hid (Fl.only FA.out ho (fun _ => hga)); clear FA; have FA := FAn; clear FAn; have FBn := Lib.hid (Fl.only FB.out ho (fun _ => hgb)); clear FB; have FB := FBn; clear FBn; clear HB HR; have HB := HBn; have HR := Lib.hid hr2; clear HBn hr2; have hi1 := hi1 (by omega); obtain ⟨ix, rfl⟩ : ∃ i : Nat, mi = (i : Int) := ⟨mi.toNat, by omega⟩; have j1 : (ix : Int) ≤ (cb : Int) := (by omega); clear ho)))
  · have hit : (vs.take ix).length = ix := by simp; omega
    exact bodyPost_ret (v := .tuple #[.slice (some ⟨ga, 0, none⟩) us.length ca, .slice (some ⟨gb, 0, none⟩) ix cb]) (by simp [results, Try.results27, go_sem]) rfl ⟨us, vs.take ix, ga, ca, gb, cb, by rw [hit], ha0, by omega, by omega, HT.out, HTB.out.take ix, hac, hac2, FA.out, FB.out.take (flatV_take vs ix), HB.out⟩
  · exact bodyPost_ret (v := .tuple #[.slice (some ⟨ga, 0, none⟩) us.length ca, .slice (some ⟨gb, 0, none⟩) vs.length cb]) (by simp [results, Try.results27, go_sem]) rfl ⟨us, vs, ga, ca, gb, cb, rfl, ha0, by omega, by omega, HT.out, HTB.out, hac, hac2, FA.out, FB.out, HB.out⟩
end Go.Proofs.Ytlkdcijacjdneaa.Val
