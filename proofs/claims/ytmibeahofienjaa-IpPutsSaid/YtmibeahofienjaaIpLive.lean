/- The page's example. -/
import Derived.Test.YtmibeahofienjaaIpPutW
namespace Go.Proofs.Ytmibeahofienjaa
set_option linter.unusedVariables false
set_option linter.unusedSimpArgs false
open Go.ChangeShapes Go.WideShapes Go.ChangeAt Go.RowKit

def exP : Pkt := ⟨0, 0, false, false, 0, 64, 17, 167772161, 167772162, [], [1]⟩
theorem exP_bytes : exP.bytes = [69, 0, 0, 21, 0, 0, 0, 0, 64, 17, 102, 214, 10, 0, 0, 1, 10, 0, 0, 2, 1] := by decide +kernel
theorem exP_ok : exP.Ok := ⟨by decide, by decide, by decide, by decide, by decide, by decide, by decide, by decide⟩

set_option maxHeartbeats 1000000 in
theorem ipLive_any (w : World) : Calls Try.prog 10 #[] w fun e w' => e = .returned (.bool true) ∧ Grow w w' := by
  have hd : Byt (w.alloc (.cells #[.int .u8 1] 5)) (.slice (some ⟨w.heap.size, 0, none⟩) 1 1) [1] := (Own.lit w #[.int .u8 1] [1] rfl (by unfold maxLen; simp)).byt
  have hip : Ip (w.alloc (.cells #[.int .u8 1] 5)) (ipV exP (.slice none 0 0) (.slice (some ⟨w.heap.size, 0, none⟩) 1 1)) exP := ⟨_, _, rfl, Byt.nil _, hd, exP_ok⟩
  go_enter Try.func10, Try.ntmps10
  go_wp2_with fail
  refine (Put_good _ exP _ hip ⟨by decide, by decide⟩ (by decide)).mono ?_
  rw [exP_bytes]
  rintro e w2 ⟨u, rfl, ho, hg2⟩
  obtain ⟨A, n, c, rfl, _⟩ := ho.byt.form2
  go_wp2_with fail
  refine (code_any 0 _ (by omega) (by omega)).mono ?_
  rintro e w' ⟨rfl, rfl⟩
  have c1 := str1 ho.byt
  unfold strV at c1
  go_wp2_with fail
  go_ret
  exact ⟨rfl, (Grow.alloc _ _).trans hg2⟩
end Go.Proofs.Ytmibeahofienjaa
