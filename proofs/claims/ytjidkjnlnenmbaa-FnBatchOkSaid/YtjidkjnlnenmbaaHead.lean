/- Facts of the whole program: its head. -/
import Derived.Test.YtjidkjnlnenmbaaRows
import Derived.ProofKit
namespace Go.Proofs.Ytjidkjnlnenmbaa.Val
open Go.RowKit
theorem own : ownKnob Try.prog.godebug = none := by kernel_rfl
theorem laidOut : laidOutB Try.prog = true := by kernel_rfl
def ioH : List Char := ([104, 97, 114, 110, 101, 115, 115] : List Nat).map Char.ofNat
def ioS : List Char := ([54, 54, 49, 57, 53, 54, 52, 97, 101, 51, 97, 56, 56, 57, 102, 56, 55, 48, 56, 97, 53, 99, 53, 54, 54, 100, 55, 97, 49, 100, 100, 51, 51, 100, 48, 100, 56, 52, 55, 57, 53, 100, 55, 55, 55, 57, 51, 53, 51, 57, 54, 56, 53, 53, 55, 48, 101, 49, 52, 101, 48, 99, 56, 51] : List Nat).map Char.ofNat
def ioC : List Char := ([99, 117, 116] : List Nat).map Char.ofNat
def ioB : List Char := ([97, 116, 32, 108, 111, 111, 112, 46, 101, 120, 97, 109, 112, 108, 101, 47, 116, 97, 98, 108, 101, 104, 111, 117, 115, 101, 47, 108, 97, 119, 115, 46, 70, 110, 69, 120, 97, 99, 116, 66, 97, 116, 99, 104, 79, 107, 32, 108, 111, 111, 112, 46, 101, 120, 97, 109, 112, 108, 101, 47, 116, 97, 98, 108, 101, 104, 111, 117, 115, 101, 47, 108, 97, 119, 115, 46, 70, 110, 69, 120, 97, 99, 116, 66, 97, 116, 99, 104, 82, 111, 119, 115, 32, 108, 111, 111, 112, 46, 101, 120, 97, 109, 112, 108, 101, 47, 116, 97, 98, 108, 101, 104, 111, 117, 115, 101, 47, 108, 97, 119, 115, 46, 70, 110, 69, 120, 97, 99, 116, 66, 97, 116, 99, 104, 101, 115, 79, 102, 32, 108, 111, 111, 112, 46, 101, 120, 97, 109, 112, 108, 101, 47, 116, 97, 98, 108, 101, 104, 111, 117, 115, 101, 47, 108, 97, 119, 115, 46, 70, 110, 69, 120, 97, 99, 116, 66, 97, 116, 99, 104, 86, 97, 108, 117, 101, 115, 32, 108, 111, 111, 112, 46, 101, 120, 97, 109, 112, 108, 101, 47, 116, 97, 98, 108, 101, 104, 111, 117, 115, 101, 47, 108, 97, 119, 115, 46, 70, 110, 66, 97, 116, 99, 104, 79, 107, 32, 108, 111, 111, 112, 46, 101, 120, 97, 109, 112, 108, 101, 47, 116, 97, 98, 108, 101, 104, 111, 117, 115, 101, 47, 108, 97, 119, 115, 46, 70, 110, 66, 97, 116, 99, 104, 82, 111, 119, 115, 32, 108, 111, 111, 112, 46, 101, 120, 97, 109, 112, 108, 101, 47, 116, 97, 98, 108, 101, 104, 111, 117, 115, 101, 47, 108, 97, 119, 115, 46, 70, 110, 66, 97, 116, 99, 104, 101, 115, 79, 102, 32, 108, 111, 111, 112, 46, 101, 120, 97, 109, 112, 108, 101, 47, 116, 97, 98, 108, 101, 104, 111, 117, 115, 101, 47, 108, 97, 119, 115, 46, 70, 110, 66, 97, 116, 99, 104, 86, 97, 108, 117, 101, 115, 32, 108, 111, 111, 112, 46, 101, 120, 97, 109, 112, 108, 101, 47, 116, 97, 98, 108, 101, 104, 111, 117, 115, 101, 47, 108, 97, 119, 115, 46, 70, 110, 66, 97, 116, 99, 104, 80, 105, 99, 107, 101, 100] : List Nat).map Char.ofNat
theorem io : Try.prog.initOrder.toList = ioH ++ Char.ofNat 32 :: (ioS ++ Char.ofNat 32 :: (ioC ++ Char.ofNat 32 :: ioB)) := by
  have h : Try.prog.initOrder = String.ofList (ioH ++ Char.ofNat 32 :: (ioS ++ Char.ofNat 32 :: (ioC ++ Char.ofNat 32 :: ioB))) := by kernel_rfl
  rw [h, String.toList_ofList]
theorem words_ne (l : List Char) : wordsSigns l ≠ [] := by
  unfold wordsSigns; split
  · simp
  · simp
  · split <;> simp
theorem words_blank (b : List Char) : wordsSigns (Char.ofNat 32 :: b) = [] :: wordsSigns b := rfl
theorem words_other (c : Char) (r : List Char) (h : c ≠ Char.ofNat 32) : wordsSigns (c :: r) = match wordsSigns r with | w :: ws => (c :: w) :: ws | [] => [[c]] := by
  rw [wordsSigns]
  · rfl
  · exact fun e => h e
theorem words_cut (a b : List Char) : wordsSigns (a ++ Char.ofNat 32 :: b) = wordsSigns a ++ wordsSigns b := by
  induction a with
  | nil => rfl
  | cons c r ih =>
    by_cases h : c = Char.ofNat 32
    · subst h
      rw [List.cons_append, words_blank, words_blank, ih]; rfl
    · rw [List.cons_append, words_other c _ h, words_other c _ h, ih]
      cases hw : wordsSigns r with
      | nil => exact absurd hw (words_ne r)
      | cons w ws => rfl
theorem words_one (l : List Char) (h : l.all (fun c => c.toNat != 32) = true) : wordsSigns l = [l] := by
  induction l with
  | nil => rfl
  | cons c r ih =>
    simp only [List.all_cons, Bool.and_eq_true, bne_iff_ne] at h
    rw [words_other c r (fun e => h.1 (by rw [e]; rfl)), ih h.2]
theorem heads_of {s b : List Char} (hs : s = ioH ++ Char.ofNat 32 :: (ioS ++ Char.ofNat 32 :: (ioC ++ Char.ofNat 32 :: b))) : behindMainWord (wordsSigns s) = ioC :: wordsSigns b := by
  rw [hs, words_cut, words_cut, words_cut, words_one ioH (by kernel_rfl), words_one ioS (by kernel_rfl), words_one ioC (by kernel_rfl)]
  have h : ((ioH == "harness".toList || ioH == "ownmain".toList) && isSumSigns ioS) = true := by kernel_rfl
  show (if ((ioH == "harness".toList || ioH == "ownmain".toList) && isSumSigns ioS) = true then ioC :: wordsSigns b else ioH :: ioS :: ioC :: wordsSigns b) = _
  rw [if_pos h]
theorem make_of {P : Program} {R : List (List Char)} (h : behindMainWord (wordsSigns P.initOrder.toList) = ioC :: R) : P.make = some .cut := by
  have e1 : (ioC == "gc".toList || ioC == "spec".toList) = false := by kernel_rfl
  have e2 : (ioC == "cut".toList) = true := by kernel_rfl
  unfold Program.make; rw [h]
  simp only [e1, e2, Bool.true_or, if_true]
  rfl
theorem lifts_none {R : List (List Char)} : ∀ l : List String, l.all (fun o => !(ioC == o.toList)) = true → stripLifts l (ioC :: R) = ([], ioC :: R) := by
  intro l
  induction l with
  | nil => intro _; rfl
  | cons o os ih =>
    intro h
    simp only [List.all_cons, Bool.and_eq_true, Bool.not_eq_true'] at h
    unfold stripLifts
    rw [if_neg (by rw [h.1]; decide)]
    exact ih h.2
theorem final_of {P : Program} {R : List (List Char)} (h : behindMainWord (wordsSigns P.initOrder.toList) = ioC :: R) : P.liftsFinal = false := by
  have e2 : (some ioC == some "cut".toList) = true := by kernel_rfl
  have e3 : (some ioC == some "carried".toList) = false := by kernel_rfl
  unfold Program.liftsFinal Program.headLifts; rw [h]
  simp only [lifts_none liftWords (by kernel_rfl), List.head?_cons, e2, e3, Bool.false_and, Bool.false_or, if_true]
  rfl
theorem enter_of {P : Program} {R : List (List Char)} (h : behindMainWord (wordsSigns P.initOrder.toList) = ioC :: R) (h1 : P.laysLater = false) (h2 : P.bearsReflect = false) (h3 : P.doorFits [] = true) : P.mayEnter = true := by
  have e1 : (ioC == "gc".toList || ioC == "spec".toList) = false := by kernel_rfl
  have e2 : (some ioC == some "cut".toList) = true := by kernel_rfl
  have e3 : (ioC == "carried".toList) = false := by kernel_rfl
  unfold Program.mayEnter; rw [h]
  simp only [lifts_none liftWords (by kernel_rfl), List.head?_cons, e1, e2, e3, h1, h2, h3, Bool.false_and, Bool.false_or, Bool.not_false, Bool.or_true, Bool.and_true, List.contains_nil]
theorem mkCut : Try.prog.make = some .cut := make_of (heads_of io)
theorem enters : Try.prog.mayEnter = true := enter_of (heads_of io) (by kernel_rfl) (by kernel_rfl) (by kernel_rfl)
theorem noFinal : Try.prog.liftsFinal = false := final_of (heads_of io)
end Go.Proofs.Ytjidkjnlnenmbaa.Val
