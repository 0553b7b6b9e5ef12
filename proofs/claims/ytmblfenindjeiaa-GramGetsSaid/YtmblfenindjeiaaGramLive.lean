/- The page's example. -/
import Derived.Test.YtmblfenindjeiaaGram
import Derived.Test.YtmblfenindjeiaaIpFacts
namespace Go.Proofs.Ytmblfenindjeiaa
set_option linter.unusedVariables false
set_option linter.unusedSimpArgs false
open Go.ChangeShapes Go.WideShapes Go.ChangeAt Go.RowKit

def exG : Gram := ⟨1, 2, [9]⟩
theorem exG_bytes : exG.bytes 0 = [0, 1, 0, 2, 0, 9, 0, 0, 9] := by decide +kernel
theorem exG_ok : exG.Ok := ⟨trivial, by decide, by decide⟩

set_option maxHeartbeats 1000000 in
theorem gramLive_any (w : World) : Calls Try.prog 6 #[] w fun e w' => e = .returned (.bool true) ∧ Grow w w' := by
  obtain ⟨W1, hW1⟩ : ∃ W1, W1 = w.alloc (.cells #[.int .u8 9] 5) := ⟨_, rfl⟩
  have hg1 : Grow w W1 := by rw [hW1]; exact Grow.alloc w _
  have hb1 : Byt W1 (.slice (some ⟨w.heap.size, 0, none⟩) 1 1) [9] := by
    rw [hW1]
    exact (Own.lit w #[.int .u8 9] [9] rfl (by unfold maxLen; simp)).byt
  have hip : isGram W1 (GramV exG (.slice (some ⟨w.heap.size, 0, none⟩) 1 1)) exG := ⟨_, rfl, hb1, exG_ok⟩
  go_enter Try.func6, Try.ntmps6
  go_wp2_with fail
  rw [← hW1]
  clear hW1
  refine (gBare_good _ exG _ hip (by decide)).mono ?_
  rw [exG_bytes]
  rintro e w3 ⟨u, rfl, ho3, hg3⟩
  obtain ⟨A, n, c, rfl, _⟩ := ho3.byt.form2
  go_wp2_with fail
  refine (gramCode_any 0 _ (by omega) (by omega)).mono ?_
  rintro e w' ⟨rfl, rfl⟩
  have c1 := str1 ho3.byt
  unfold strV at c1
  go_wp2_with fail
  go_ret
  exact ⟨rfl, hg1.trans hg3⟩
end Go.Proofs.Ytmblfenindjeiaa
