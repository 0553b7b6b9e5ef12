/- Contract: whether more is asked than a statement asks. -/
import Derived.Test.YteohepgpghmioaaHsLive
namespace Go.Proofs.Yteohepgpghmioaa
set_option linter.unusedVariables false
set_option linter.unusedSimpArgs false
open Go.ChangeShapes Go.WideShapes Go.ChangeAt Go.RowKit

def MuchSays (w : World) (l : List Ha) (e : Ending) (w' : World) : Prop := ∃ b : Bool, e = .returned (.bool b) ∧ (b = false → l.length ≤ 200) ∧ w' = w
set_option maxRecDepth 10000 in
set_option maxHeartbeats 1000000 in
theorem much_any (w : World) (v : Value) (l : List Ha) (h : Has w v l) : Calls Try.prog 6 #[v] w (MuchSays w l) := by
  obtain ⟨A, c, rfl, hlc, hcm, hok, hat⟩ := id h
  have HAT := Lib.hid (And.intro hat hok)
  unfold maxLen at hcm
  obtain ⟨N, hN⟩ : ∃ N, N = l.length := ⟨_, rfl⟩
  rw [← hN] at hlc ⊢
  have HN := Lib.hid hN
  clear hat hok h hN
  go_enter Try.func6, Try.ntmps6
  go_wp2_with fail
  go_loopg [3, 4] (200 : Nat) (fun gk s3 s4 wr => ∃ (i : Nat) (z : Int), i ≤ 200 ∧ i ≤ N ∧ gk = 200 - i ∧ s3 = .int .i64 z ∧ s4 = .int .i64 (i : Int) ∧ wr = w)
  case atStart => exact ⟨0, 0, by omega, by omega, rfl, rfl, rfl, rfl⟩
  case round =>
    obtain ⟨i, z, hi1, hi2, rfl, rfl, rfl, hw⟩ := hrel
    subst wr
    by_cases hiN : i < N
    case neg =>
      have d1 : decide ((i : Int) < (N : Int)) = false := decide_eq_false (by omega)
      have d2 : ¬ (200 : Int) < (N : Int) := by omega
      have hge : N ≤ i := by omega
      go_wp2_with fail
      go_ret
      exact ⟨_, rfl, fun _ => by have := HN.out; omega, rfl⟩
    have d1 : decide ((i : Int) < (N : Int)) = true := decide_eq_true (by omega)
    by_cases hi200 : i < 200
    case neg =>
      have d2 : decide ((i : Int) < 200) = false := decide_eq_false (by omega)
      have d3 : (200 : Int) < (N : Int) := by omega
      clear hi200
      go_wp2_with fail
      go_ret
      exact ⟨true, rfl, fun h => (by cases h), rfl⟩
    have d2 : decide ((i : Int) < 200) = true := decide_eq_true (by omega)
    have hil : i < l.length := by have := HN.out; omega
    obtain ⟨b, off, rfl, hb, hc⟩ := HAT.out.1 (by omega)
    obtain ⟨_, _, _, x3⟩ := hc i _ (List.getElem?_eq_getElem hil)
    have hbyt := (HAT.out.2 _ (List.getElem_mem hil)).2.2.2
    generalize l[i] = a at *
    obtain ⟨ad, aa, an, ab, av⟩ := a
    simp only at x3 hbyt
    obtain ⟨Ab, cb, rfl, _⟩ := hbyt.form
    have hic : (i : Int) < (N : Int) := by omega
    have n5 : IntKind.i64.wrap ((i : Int) + 1) = ((i + 1 : Nat) : Int) := by rw [IntKind.wrap_i64]; omega
    have N5 := Lib.hid n5
    clear hc hbyt n5
    obtain ⟨y, hy⟩ : ∃ y, y = IntKind.i64.wrap (z + (ab.length : Int)) := ⟨_, rfl⟩
    have hyy : IntKind.i64.wrap (z + (ab.length : Int)) = y := hy.symm
    clear hy
    generalize ab.length = k at *
    by_cases hL : 50000 < y
    · go_wp2_with fail
      go_ret
      exact ⟨true, rfl, fun h => (by cases h), rfl⟩
    · go_wp2_with fail
      go_roundg (200 - (i + 1))
      case measure => omega
      case rel => exact ⟨i + 1, y, by omega, by omega, rfl, rfl, by go_num, rfl⟩
end Go.Proofs.Yteohepgpghmioaa
