/- The document's own answer: bytes as a packet, any bytes. -/
import Derived.Test.YtmibeahofienjaaIpRGetG
namespace Go.Proofs.Ytmibeahofienjaa
set_option linter.unusedVariables false
set_option linter.unusedSimpArgs false
open Go.ChangeShapes Go.WideShapes Go.ChangeAt Go.RowKit

theorem RGetP_any (v : Value) (l : List UInt8) (w : World) (h : Byt w v l) (hl : l.length ≤ 1000000) :
    Calls Try.prog 21 #[v] w fun e w' => ∃ vo vd, e = .returned (.tuple #[ipV (res l) vo vd, .int .i64 (mcode l)]) ∧ Byt w' vo (res l).opts ∧ Byt w' vd (res l).data ∧ Grow w w' := by
  unfold res
  by_cases hc : mcode l = 0
  · rw [if_pos hc, hc]
    exact RGet_good v l w h hl hc
  · rw [if_neg hc]
    refine (RGet_bad v l w h hl hc).mono ?_
    rintro e w' ⟨rfl, hg⟩
    exact ⟨_, _, rfl, Byt.nil _, Byt.nil _, hg⟩
end Go.Proofs.Ytmibeahofienjaa
