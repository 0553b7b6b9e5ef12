/- Contracts: the calls of none. -/
import Derived.Test.YtdgbieapgmjjhaaAgPsh
namespace Go.Proofs.Ytdgbieapgmjjhaa
set_option linter.unusedVariables false
set_option linter.unusedSimpArgs false
open Go.ChangeShapes Go.WideShapes Go.ChangeAt Go.RowKit

theorem aPush_nil (w : World) (a b r : Int) : Calls Try.prog 9 #[.pointer none, .agg #[.int .i64 a, .int .i64 b, .int .i64 r]] w fun e w' => e = .returned (.int .i64 7) ∧ Grow w w' := by
  go_enter Try.func9, Try.ntmps9
  go_wp2_with fail
  go_ret
  exact ⟨rfl, Grow.alloc _ _⟩
theorem aMove_nil (w : World) (a b r : Int) : Calls Try.prog 11 #[.pointer none, .int .i64 a, .int .i64 b, .int .i64 r] w fun e w' => e = .returned (.int .i64 7) ∧ w' = w := by
  go_enter Try.func11, Try.ntmps11
  go_wp2_with fail
  go_ret
  exact ⟨rfl, rfl⟩
theorem aDrop_nil (w : World) (a : Int) : Calls Try.prog 13 #[.pointer none, .int .i64 a] w fun e w' => e = .returned (.bool false) ∧ w' = w := by
  go_enter Try.func13, Try.ntmps13
  go_wp2_with fail
  go_ret
  exact ⟨rfl, rfl⟩
theorem aAll_nil (w : World) : Calls Try.prog 20 #[.pointer none] w fun e w' => e = .returned (.slice none 0 0) ∧ w' = w := by
  go_enter Try.func20, Try.ntmps20
  go_wp2_with fail
  go_ret
  exact ⟨rfl, rfl⟩
theorem aPop_nil (w : World) (now : Int) : Calls Try.prog 15 #[.pointer none, .int .i64 now] w fun e w' => e = .returned (.slice none 0 0) ∧ Grow w w' := by
  have c0 := aTop_nil w
  go_enter Try.func15, Try.ntmps15
  go_wp2_with fail
  go_loopg [5] 0 (fun gk s5 wr => gk = 0 ∧ s5 = .slice none 0 0 ∧ wr = w)
  case atStart => exact ⟨rfl, rfl, rfl⟩
  case round =>
    obtain ⟨rfl, rfl, rfl⟩ := hrel
    go_wp2_with fail
    refine c0.mono ?_
    rintro e w2 ⟨rfl, g2⟩
    have H2 := Lib.hid g2
    clear c0 g2
    go_wp2_with fail
    go_ret
    exact ⟨rfl, Grow.trans H2.out (Grow.alloc _ _)⟩
end Go.Proofs.Ytdgbieapgmjjhaa
