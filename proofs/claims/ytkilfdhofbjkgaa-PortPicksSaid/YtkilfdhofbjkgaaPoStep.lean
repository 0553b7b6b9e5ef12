/- A step of the law: any call. -/
import Derived.Test.YtkilfdhofbjkgaaPoStep0
import Derived.Test.YtkilfdhofbjkgaaPoStep1
import Derived.Test.YtkilfdhofbjkgaaPoStep2
import Derived.Test.YtkilfdhofbjkgaaPoStep3
import Derived.Test.YtkilfdhofbjkgaaPoStep4
import Derived.Test.YtkilfdhofbjkgaaPoStep5
namespace Go.Proofs.Ytkilfdhofbjkgaa
set_option linter.unusedVariables false
set_option linter.unusedSimpArgs false
open Go.ChangeShapes Go.WideShapes Go.ChangeAt Go.RowKit

theorem stepT {Pp : PoT} (I : OIf Pp) (w0 w : World) (g0 : Grow w0 w) (pb : Nat) (t : Prt) (h : Pp w w0.heap.size pb t) (v : Value) (hr : RTb w w0.heap.size v t) (x : Pa) (hx : x.Ok) : Calls Try.prog 10 #[.pointer (some ⟨pb, 0, none⟩), v, .agg #[.int .i64 x.d, .int .i64 x.o, .int .u32 x.q.l.ad, .int .u16 x.q.l.po, .int .u32 x.q.r.ad, .int .u16 x.q.r.po]] w (StPost Pp w0 w pb (stT t x)) := by
  obtain ⟨d, o, q⟩ := x
  obtain ⟨_, ho, hq⟩ := hx
  unfold stT
  simp only at ho hq ⊢
  by_cases h0 : d = 0
  · subst h0
    rw [if_pos rfl]
    exact step_0 I w0 w g0 pb t h v hr q hq o ho
  rw [if_neg h0]
  by_cases h1 : d = 1
  · subst h1
    rw [if_pos rfl]
    exact step_1 I w0 w g0 pb t h v hr q hq o ho
  rw [if_neg h1]
  by_cases h2 : d = 2
  · subst h2
    rw [if_pos rfl]
    exact step_2 I w0 w g0 pb t h v hr q hq o ho
  rw [if_neg h2]
  by_cases h3 : d = 3
  · subst h3
    rw [if_pos rfl]
    exact step_3 I w0 w g0 pb t h v hr q hq o ho
  rw [if_neg h3]
  by_cases h4 : d = 4
  · subst h4
    rw [if_pos rfl]
    exact step_4 I w0 w g0 pb t h v hr q hq o ho
  rw [if_neg h4]
  exact step_5 I w0 w g0 pb t h v hr q hq o ho d h0 h1 h2 h3 h4
end Go.Proofs.Ytkilfdhofbjkgaa
