/- A row of calls, in a world that only grew. -/
import Derived.Test.YtfdoofkofljgnaaRtPlayed
namespace Go.Proofs.Ytfdoofkofljgnaa
set_option linter.unusedVariables false
theorem Acts.grow {w w' : World} {v : Value} {l : List (Bool × Rt)} (h : Acts w v l) (g : Grow w w') : Acts w' v l := by
  obtain ⟨A, c, rfl, hl, hm, hc, ho⟩ := h
  refine ⟨A, c, rfl, hl, hm, fun hp => ?_, ho⟩
  obtain ⟨b, off, rfl, hb, hcell⟩ := hc hp
  exact ⟨b, off, rfl, Nat.lt_of_lt_of_le hb g.size, fun j hj => ⟨(g.cell (p := ⟨b, off + j * 6, none⟩) hb).trans (hcell j hj).1, (hcell j hj).2.grow g hb⟩⟩
end Go.Proofs.Ytfdoofkofljgnaa
