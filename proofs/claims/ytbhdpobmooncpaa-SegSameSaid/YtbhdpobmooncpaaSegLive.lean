/- The page's example; any bytes, by the document's own answer. -/
import Derived.Test.YtbhdpobmooncpaaSegOpt
import Derived.Test.YtbhdpobmooncpaaSegRefG
import Derived.Test.YtbhdpobmooncpaaIpFacts
namespace Go.Proofs.Ytbhdpobmooncpaa
set_option linter.unusedVariables false
set_option linter.unusedSimpArgs false
open Go.ChangeShapes Go.WideShapes Go.ChangeAt Go.RowKit

def exT : Sgm := ⟨0, 0, 0, 0, 0, 0, 1460, 8, []⟩
theorem exT_opts : exT.opts = [2, 4, 5, 180, 1, 3, 3, 7] := by decide +kernel
theorem exT_ok : exT.Ok := ⟨trivial, by decide, by decide, by decide, by decide, by decide, by decide, by decide, by decide, by decide, by decide⟩

set_option maxHeartbeats 1000000 in
theorem segLive_any (w : World) : Calls Try.prog 8 #[] w fun e w' => e = .returned (.bool true) ∧ Grow w w' := by
  have hip : isSgm w (SgmV exT (.slice none 0 0)) exT := ⟨_, rfl, Byt.nil _, exT_ok⟩
  have O := sOptions_any _ exT w hip (by decide) (by decide) (by decide) (by decide)
  rw [exT_opts] at O
  go_enter Try.func8, Try.ntmps8
  go_wp2_with fail
  refine O.mono ?_
  rintro e w3 ⟨u, rfl, ho3, hg3⟩
  obtain ⟨A, n, c, rfl, _⟩ := ho3.byt.form2
  have c1 := str1 ho3.byt
  unfold strV at c1
  go_wp2_with fail
  go_ret
  exact ⟨rfl, hg3⟩

theorem RGet9_any (s d : Nat) (v : Value) (l : List UInt8) (w : World) (hs : s < 4294967296) (hd4 : d < 4294967296) (h : Byt w v l) (hl : l.length ≤ 1000000) :
    Calls Try.prog 19 #[.int .u32 (s : Int), .int .u32 (d : Int), v] w fun e w' => ∃ vd, e = .returned (.tuple #[SgmV (tres s d l) vd, .int .i64 (tcode s d l)]) ∧ Byt w' vd (tres s d l).data ∧ Grow w w' := by
  unfold tres
  by_cases hc : tcode s d l = 0
  · rw [if_pos hc, hc]
    exact RGet9_good s d v l w hs hd4 h hl hc
  · rw [if_neg hc]
    have fin : ∀ n : Int, tcode s d l = n → Calls Try.prog 19 #[.int .u32 (s : Int), .int .u32 (d : Int), v] w (fun e w' => e = .returned (.tuple #[SgmV zeroT (.slice none 0 0), .int .i64 n]) ∧ Grow w w') → Calls Try.prog 19 #[.int .u32 (s : Int), .int .u32 (d : Int), v] w fun e w' => ∃ vd, e = .returned (.tuple #[SgmV zeroT vd, .int .i64 (tcode s d l)]) ∧ Byt w' vd zeroT.data ∧ Grow w w' := by
      intro n hn hC
      refine hC.mono ?_
      rintro e w' ⟨rfl, hg⟩
      exact ⟨_, by rw [hn], Byt.nil _, hg⟩
    by_cases h1 : l.length < 20
    · have e1 : smcode l = 2 := by unfold smcode; rw [if_pos h1]
      exact fin 2 (by unfold tcode; rw [e1]; rfl) (RGet9_few s d v l w hs hd4 h hl h1)
    by_cases h2 : shead l < 20
    · have e1 : smcode l = 3 := by unfold smcode; rw [if_neg h1, if_pos h2]
      exact fin 3 (by unfold tcode; rw [e1]; rfl) (RGet9_form s d v l w hs hd4 h hl (by omega) h2)
    by_cases h3 : l.length < shead l
    · have e1 : smcode l = 2 := by unfold smcode; rw [if_neg h1, if_neg h2, if_pos h3]
      exact fin 2 (by unfold tcode; rw [e1]; rfl) (RGet9_short s d v l w hs hd4 h hl (by omega) (by omega) h3)
    have e1 : smcode l = 0 := by unfold smcode; rw [if_neg h1, if_neg h2, if_neg h3]
    have e2 : ¬ (smcode l ≠ 0) := by simp [e1]
    by_cases h4 : tsum s d l = 65535
    · have e3 : tcode s d l = (sro l).2.2 := by unfold tcode; rw [if_neg e2, if_neg (by simp [h4])]
      exact fin _ e3 (RGet9_opts s d v l w hs hd4 h hl (by omega) (by omega) (by omega) h4 (by rw [← e3]; exact hc))
    · exact fin 4 (by unfold tcode; rw [if_neg e2, if_pos h4]) (RGet9_sum s d v l w hs hd4 h hl (by omega) (by omega) (by omega) h4)
end Go.Proofs.Ytbhdpobmooncpaa
