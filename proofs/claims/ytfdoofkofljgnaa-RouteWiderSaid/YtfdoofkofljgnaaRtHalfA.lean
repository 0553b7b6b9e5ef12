/- The reference's Add, on that predicate. -/
import Derived.Test.YtfdoofkofljgnaaRtHalf
import Derived.Test.YtfdoofkofljgnaaRtRAddG
namespace Go.Proofs.Ytfdoofkofljgnaa
set_option linter.unusedVariables false
open Go.ChangeShapes Go.WideShapes Go.ChangeAt Go.RowKit Go.Shelf
theorem Half.radd {w0 w : World} {v : Value} {r : List Rt} {x : Rt} (hx : x.Ok) (h : Half w0 w v r (raddL r x)) : Calls Try.prog 21 #[v, rtV x] w fun e w' => ∃ v', e = .returned (.tuple #[v', .int .i64 (raddE r x)]) ∧ Half w0 w' v' (raddL r x) (raddL r x) := by
  refine (RAdd_any w v r h.rts (Nat.le_trans h.len (by decide)) x hx).mono ?_
  rintro e w1 ⟨v', he, hR, hN, hg⟩
  exact ⟨v', he, h.fresh hR hN hg⟩
theorem Half.radds {w0 w : World} {v : Value} {r : List Rt} {x : Rt} (h0 : Half w0 w v r r) (hx : x.Ok) : ∀ w1, Half w0 w1 v r (raddL r x) → Calls Try.prog 21 #[v, rtV x] w1 fun e w' => ∃ v', e = .returned (.tuple #[v', .int .i64 (raddE r x)]) ∧ Half w0 w' v' (raddL r x) (raddL r x) := fun w1 h => h.radd hx
theorem Half.rrems {w0 w : World} {v : Value} {r : List Rt} (h0 : Half w0 w v r r) (n b c : Int) : ∀ w1, Half w0 w1 v r (rremL r n b c) → Calls Try.prog 20 #[v, .int .u32 n, .int .i64 b, .int .i64 c] w1 fun e w' => ∃ v', e = .returned (.tuple #[v', .int .i64 (rremE r n b c)]) ∧ Half w0 w' v' (rremL r n b c) (rremL r n b c) := fun w1 h => h.rrem
end Go.Proofs.Ytfdoofkofljgnaa
