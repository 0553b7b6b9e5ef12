/- HosePlays: its walk, where much is asked or the room is none. -/
import Derived.Test.YteohepgpghmioaaHsPl
namespace Go.Proofs.Yteohepgpghmioaa
set_option linter.unusedVariables false
set_option linter.unusedSimpArgs false
open Go.ChangeShapes Go.WideShapes Go.ChangeAt Go.RowKit

set_option maxRecDepth 100000 in
set_option maxHeartbeats 1000000 in
theorem hplays_cases (w : World) (mo : Int) {v : Value} {l : List Ha} (hl : Has w v l) (hq : mo < 1 ∨ 1048576 < mo) : Calls Try.prog 3 #[.int .i64 mo, v] w fun e w' => e = .returned (.bool true) ∧ Below w.heap.size w w' := by
  have cM := much_any w v l hl
  obtain ⟨A, c, rfl, _⟩ := hl
  have c0 := hlive_any w
  have c1 := hNew_not w mo hq
  have HC := Lib.hid (fun x w => code_any x w)
  generalize l.length = n at *
  by_cases q : mo < 1
  · have d1 : decide (mo < 1) = true := decide_eq_true q
    clear hq q
    go_enter Try.func3, Try.ntmps3
    go_wp2_with fail
    refine cM.mono ?_
    rintro e w' ⟨bb, rfl, _, hw⟩
    subst w'
    clear cM
    cases bb with
    | true =>
      go_wp2_with fail
      refine c0.mono ?_
      rintro e w' ⟨rfl, hg⟩
      have HG := Lib.hid hg
      clear c0 hg
      go_wp2_with fail
      go_ret
      exact ⟨rfl, HG.out⟩
    | false =>
      go_wp2_with fail
      refine c1.mono ?_
      rintro e w' ⟨rfl, hw⟩
      subst w'
      clear c1
      go_wp2_with fail
      refine (HC.out _ _).mono ?_
      rintro e w' ⟨rfl, hw⟩
      subst w'
      go_wp2_with fail
      refine c0.mono ?_
      rintro e w' ⟨rfl, hg⟩
      have HG := Lib.hid hg
      clear c0 hg
      go_wp2_with fail
      go_ret
      exact ⟨rfl, HG.out⟩
  · have d1 : decide (mo < 1) = false := decide_eq_false q
    have d2 : 1048576 < mo := by omega
    clear hq q
    go_enter Try.func3, Try.ntmps3
    go_wp2_with fail
    refine cM.mono ?_
    rintro e w' ⟨bb, rfl, _, hw⟩
    subst w'
    clear cM
    cases bb with
    | true =>
      go_wp2_with fail
      refine c0.mono ?_
      rintro e w' ⟨rfl, hg⟩
      have HG := Lib.hid hg
      clear c0 hg
      go_wp2_with fail
      go_ret
      exact ⟨rfl, HG.out⟩
    | false =>
      go_wp2_with fail
      refine c1.mono ?_
      rintro e w' ⟨rfl, hw⟩
      subst w'
      clear c1
      go_wp2_with fail
      refine (HC.out _ _).mono ?_
      rintro e w' ⟨rfl, hw⟩
      subst w'
      go_wp2_with fail
      refine c0.mono ?_
      rintro e w' ⟨rfl, hg⟩
      have HG := Lib.hid hg
      clear c0 hg
      go_wp2_with fail
      go_ret
      exact ⟨rfl, HG.out⟩
end Go.Proofs.Yteohepgpghmioaa
