/- Contract: whether more is asked than a statement asks. -/
import Derived.Test.YtkblgigpgpjjlaaUdLive
namespace Go.Proofs.Ytkblgigpgpjjlaa
set_option linter.unusedVariables false
set_option linter.unusedSimpArgs false
open Go.ChangeShapes Go.WideShapes Go.ChangeAt Go.RowKit

def MuchU (w : World) (l : List Ua) (e : Ending) (w' : World) : Prop := ∃ b : Bool, e = .returned (.bool b) ∧ (b = false → l.length ≤ 100 ∧ ∀ x ∈ l, x.m.d.length ≤ 20000) ∧ w' = w
set_option maxRecDepth 10000 in
set_option maxHeartbeats 1000000 in
theorem umuch_any (w : World) (v : Value) (l : List Ua) (h : Uas w v l) : Calls Try.prog 6 #[v] w (MuchU w l) := by
  obtain ⟨A, c, rfl, hlc, hcm, hok, hat⟩ := id h
  have HAT := Lib.hid (And.intro hat hok)
  unfold maxLen at hcm
  obtain ⟨N, hN⟩ : ∃ N, N = l.length := ⟨_, rfl⟩
  rw [← hN] at hlc ⊢
  have HN := Lib.hid hN
  clear hat hok h hN
  go_enter Try.func6, Try.ntmps6
  go_wp2_with fail
  go_loopg [3, 4] (100 : Nat) (fun gk s3 s4 wr => ∃ (i z : Nat), i ≤ 100 ∧ i ≤ N ∧ gk = 100 - i ∧ s3 = .int .i64 (z : Int) ∧ s4 = .int .i64 (i : Int) ∧ wr = w ∧ Hid (z ≤ 20000 ∧ ∀ j x, j < i → l[j]? = some x → x.m.d.length ≤ 20000))
  case atStart => exact ⟨0, 0, by omega, by omega, rfl, rfl, rfl, rfl, by omega, fun j x hj => absurd hj (Nat.not_lt_zero _)⟩
  case round =>
    obtain ⟨i, z, hi1, hi2, rfl, rfl, rfl, hw, HZ⟩ := hrel
    subst wr
    by_cases hiN : i < N
    case neg =>
      have d1 : decide ((i : Int) < (N : Int)) = false := decide_eq_false (by omega)
      have d2 : ¬ (100 : Int) < (N : Int) := by omega
      have hge : N ≤ i := by omega
      go_wp2_with fail
      go_ret
      exact ⟨_, rfl, fun _ => ⟨by have := HN.out; omega, fun x hx => by
        obtain ⟨j, hj⟩ := List.getElem?_of_mem hx
        exact HZ.out.2 j x (by have := (List.getElem?_eq_some_iff.1 hj).1; have := HN.out; omega) hj⟩, rfl⟩
    have d1 : decide ((i : Int) < (N : Int)) = true := decide_eq_true (by omega)
    by_cases hi200 : i < 100
    case neg =>
      have d2 : decide ((i : Int) < 100) = false := decide_eq_false (by omega)
      have d3 : (100 : Int) < (N : Int) := by omega
      clear hi200
      go_wp2_with fail
      go_ret
      exact ⟨true, rfl, fun h => (by cases h), rfl⟩
    have d2 : decide ((i : Int) < 100) = true := decide_eq_true (by omega)
    have hil : i < l.length := by have := HN.out; omega
    obtain ⟨b, off, rfl, hb, hc⟩ := HAT.out.1 (by omega)
    have hli := List.getElem?_eq_getElem hil
    obtain ⟨_, _, _, _, x4⟩ := hc i _ hli
    have hbyt := (HAT.out.2 _ (List.getElem_mem hil)).2.2.2
    generalize l[i] = a at *
    obtain ⟨ad, an, ⟨af, aA, am, ac, ab⟩⟩ := a
    simp only at x4 hbyt
    have hlen : am = ab.length := by
      obtain ⟨A', c', e, -⟩ := hbyt.1.form
      injection e
    have hbig := hbyt.2
    rw [← hlen] at hbig
    have hic : (i : Int) < (N : Int) := by omega
    have n6 : IntKind.i64.wrap ((z : Int) + (am : Int)) = ((z + am : Nat) : Int) := by rw [IntWalk.i64_in _ (by have := HZ.out.1; omega)]; omega
    obtain ⟨y, hy⟩ : ∃ y, y = z + am := ⟨_, rfl⟩
    rw [← hy] at n6
    have HY := Lib.hid (And.intro hy (And.intro hlen hli))
    have n5 : IntKind.i64.wrap ((i : Int) + 1) = ((i + 1 : Nat) : Int) := by rw [IntKind.wrap_i64]; omega
    have N5 := Lib.hid n5
    clear hc hbyt n5 hbig hy hlen hli
    by_cases hL : 20000 < y
    · have d4 : decide ((20000 : Int) < (y : Int)) = true := decide_eq_true (by omega)
      go_wp2_with fail
      go_ret
      exact ⟨true, rfl, fun h => (by cases h), rfl⟩
    · have d4 : decide ((20000 : Int) < (y : Int)) = false := decide_eq_false (by omega)
      go_wp2_with fail
      go_roundg (100 - (i + 1))
      case measure => omega
      case rel =>
        refine ⟨i + 1, y, by omega, by omega, rfl, rfl, by go_num, rfl, by omega, fun j x hj hx => ?_⟩
        rcases Nat.lt_or_ge j i with q | q
        · exact HZ.out.2 j x q hx
        · obtain rfl : j = i := by omega
          have h1 := HY.out
          rw [h1.2.2] at hx
          cases hx
          show ab.length ≤ 20000
          omega
end Go.Proofs.Ytkblgigpgpjjlaa
