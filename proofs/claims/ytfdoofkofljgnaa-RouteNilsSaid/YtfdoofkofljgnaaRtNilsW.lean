/- RouteNils, walked, as its frame wants it. -/
import Derived.Test.YtfdoofkofljgnaaRtLive
import Derived.Test.YtfdoofkofljgnaaRtOpen
namespace Go.Proofs.Ytfdoofkofljgnaa
set_option linter.unusedVariables false
theorem routeNils_walk (w : World) {v : Value} {x : Rt} (h : v = rtV x ∧ x.Ok) (n : Int) (hn : 0 ≤ n ∧ n ≤ 4294967295) :
    Calls Try.prog 5 #[v, .int .u32 n] w fun e w' => e = .returned (.bool true) ∧ Grow w w' := by
  obtain ⟨rfl, _⟩ := h
  exact RouteNils_walk x n w
end Go.Proofs.Ytfdoofkofljgnaa
