/- The document's own answer: what any message is about. -/
import Derived.Test.YtbnnacohkemnhaaIcmRCause
import Derived.Test.YtbnnacohkemnhaaIcmRCauseA
import Derived.Test.YtbnnacohkemnhaaIcmRCauseB
namespace Go.Proofs.Ytbnnacohkemnhaa
set_option linter.unusedVariables false
set_option linter.unusedSimpArgs false
open Go.ChangeShapes Go.WideShapes Go.ChangeAt Go.RowKit

theorem RCause7_any (v : Value) (k : Icm) (w : World) (h : isIcm w v k) (hs : k.data.length ≤ 1000000) :
    Calls Try.prog 23 #[v] w fun e w' => ∃ vo vd, e = .returned (.tuple #[ipV (cres k) vo vd, .int .i64 (ccode k)]) ∧ Byt w' vo (cres k).opts ∧ Byt w' vd (cres k).data ∧ Grow w w' := by
  unfold cres
  by_cases hc : ccode k = 0
  · rw [if_pos hc, hc]
    have h1 : k.kind = 3 ∨ k.kind = 11 := of_decide_eq_true (show decide (k.kind = 3 ∨ k.kind = 11) = true from ((told_iff k).1 hc).err)
    rcases h1 with h1 | h1
    · exact RCause7_goodA v k w h hs hc (by rw [h1]; rfl)
    · exact RCause7_goodB v k w h hs hc (by rw [h1]; rfl) (by rw [h1]; rfl)
  · rw [if_neg hc]
    refine (RCause7_bad v k w h hs hc).mono ?_
    rintro e w' ⟨rfl, hg⟩
    exact ⟨_, _, rfl, Byt.nil _, Byt.nil _, hg⟩
end Go.Proofs.Ytbnnacohkemnhaa
