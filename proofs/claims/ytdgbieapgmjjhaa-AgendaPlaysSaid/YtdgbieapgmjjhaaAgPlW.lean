/- AgendaPlays: its walk. -/
import Derived.Test.YtdgbieapgmjjhaaAgPlA
import Derived.Deep.CutBlock
import Derived.Deep.RegionWith
namespace Go.Proofs.Ytdgbieapgmjjhaa
set_option linter.unusedVariables false
set_option linter.unusedSimpArgs false
open Go.ChangeShapes Go.WideShapes Go.ChangeAt Go.RowKit

set_option maxRecDepth 100000 in
set_option maxHeartbeats 4000000 in
theorem aplays_long (w : World) (mo : Int) {v : Value} {l : List Aa} (hl : Aas w v l) (h : 150 < l.length) : Calls Try.prog 3 #[.int .i64 mo, v] w fun e w' => e = .returned (.bool true) ∧ Below w.heap.size w w' := by
  obtain ⟨A, c, rfl, _⟩ := hl
  have c0 := alive_any w
  have i0 : (150 : Int) < (l.length : Int) := by omega
  generalize l.length = n at *
  go_enter Try.func3, Try.ntmps3
  go_wp2_with fail
  refine c0.mono ?_
  rintro e w' ⟨rfl, hg⟩
  have HG := Lib.hid hg
  clear c0 hg
  go_wp2_with fail
  go_ret
  exact ⟨rfl, HG.out⟩
set_option maxRecDepth 100000 in
set_option maxHeartbeats 4000000 in
theorem aplays_out (w : World) (mo : Int) {v : Value} {l : List Aa} (hl : Aas w v l) (h : l.length ≤ 150) (hn : mo < 1 ∨ 4096 < mo) : Calls Try.prog 3 #[.int .i64 mo, v] w fun e w' => e = .returned (.bool true) ∧ Below w.heap.size w w' := by
  obtain ⟨A, c, rfl, _⟩ := hl
  have c0 := alive_any w
  have c1 := aNew_not w mo hn
  have i0 : ¬ ((150 : Int) < (l.length : Int)) := by omega
  have HC := Lib.hid (fun x w => code_any x w)
  generalize l.length = n at *
  by_cases q : mo < 1
  · have d1 : decide (mo < 1) = true := decide_eq_true q
    clear hn q h
    go_enter Try.func3, Try.ntmps3
    go_wp2_with fail
    refine c1.mono ?_
    rintro e w' ⟨rfl, hw⟩
    subst w'
    clear c1
    go_wp2_with fail
    refine (HC.out _ _).mono ?_
    rintro e w' ⟨rfl, hw⟩
    subst w'
    go_wp2_with fail
    refine c0.mono ?_
    rintro e w' ⟨rfl, hg⟩
    have HG := Lib.hid hg
    clear c0 hg
    go_wp2_with fail
    go_ret
    exact ⟨rfl, HG.out⟩
  · have d1 : decide (mo < 1) = false := decide_eq_false q
    have d2 : 4096 < mo := by omega
    clear hn q h
    go_enter Try.func3, Try.ntmps3
    go_wp2_with fail
    refine c1.mono ?_
    rintro e w' ⟨rfl, hw⟩
    subst w'
    clear c1
    go_wp2_with fail
    refine (HC.out _ _).mono ?_
    rintro e w' ⟨rfl, hw⟩
    subst w'
    go_wp2_with fail
    refine c0.mono ?_
    rintro e w' ⟨rfl, hg⟩
    have HG := Lib.hid hg
    clear c0 hg
    go_wp2_with fail
    go_ret
    exact ⟨rfl, HG.out⟩
end Go.Proofs.Ytdgbieapgmjjhaa
