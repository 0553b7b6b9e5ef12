/- Layer 4 (trail): errors as values; contracts: New, At, From. -/
import Derived.Test.YtmfgbanckehcgaaDoorRows
import Derived.Test.YtmfgbanckehcgaaDoorRead
import Derived.Test.YtmfgbanckehcgaaDoorNum
import Derived.LaidEql
import Derived.Stop.Asserts
import Derived.WalkKit
import Derived.ProofKit
import Derived.OpenShut
import Derived.ShutString
import Derived.ChangeOld
import Derived.Below
import Derived.BigQuiet
import Derived.Deep.QuietTactic
import Derived.WalkSpells
import Derived.WalkLawsBesides
import Derived.Outline
import Derived.Lib.Hide
import Derived.Handy
namespace Go.Proofs.YtmfgbanckehcgaaDoor
set_option linter.unusedVariables false
set_option linter.unusedSimpArgs false
open Go.ChangeShapes Go.WideShapes Go.ChangeAt Go.RowKit

/-- A number as an error: none for 0. -/
def errV (n : Int) : Value := if n = 0 then .nilIface else .iface 30 (.int .i64 n)
/-- An error at a place. -/
def slipV (p : ByteArray × Int) (v : Value) : Value := .iface 63 (.agg #[.string p.1, .int .i64 p.2, v])
/-- An error at places, the outermost first. -/
def madeV (l : List (ByteArray × Int)) (n : Int) : Value := if n = 0 then .nilIface else l.foldr slipV (.iface 30 (.int .i64 n))

theorem errV_zero : errV 0 = .nilIface := rfl
theorem errV_not {n : Int} (h : n ≠ 0) : errV n = .iface 30 (.int .i64 n) := if_neg h
theorem madeV_zero (l : List (ByteArray × Int)) : madeV l 0 = .nilIface := rfl
theorem madeV_nil (n : Int) : madeV [] n = errV n := rfl
theorem madeV_cons {n : Int} (h : n ≠ 0) (p : ByteArray × Int) (l : List (ByteArray × Int)) : madeV (p :: l) n = slipV p (madeV l n) := by
  simp [madeV, h]
theorem madeV_iface {n : Int} (h : n ≠ 0) (l : List (ByteArray × Int)) : ∃ t v, madeV l n = .iface t v := by
  cases l with
  | nil => exact ⟨_, _, by rw [madeV_nil, errV_not h]⟩
  | cons p r => exact ⟨_, _, by rw [madeV_cons h]; rfl⟩

theorem New_any (n : Int) (w : World) : Calls Tryd.prog 20 #[.int .i64 n] w fun e w' => e = .returned (errV n) ∧ w = w' := by
  by_cases h : n = 0
  · subst h
    go_enter Tryd.func20, Tryd.ntmps20
    go_wp2_with fail
    go_ret
    exact ⟨rfl, rfl⟩
  · rw [errV_not h]
    have hd : (n == 0) = false := by simpa using h
    go_enter Tryd.func20, Tryd.ntmps20
    go_wp2_with fail
    go_ret
    exact ⟨rfl, rfl⟩

theorem At_nil (s : ByteArray) (k : Int) (w : World) : Calls Tryd.prog 21 #[.string s, .int .i64 k, .nilIface] w fun e w' => e = .returned .nilIface ∧ w = w' := by
  go_enter Tryd.func21, Tryd.ntmps21
  go_wp2_with fail
  go_ret
  exact ⟨rfl, rfl⟩
theorem At_iface (s : ByteArray) (k : Int) (t : TypeId) (v : Value) (w : World) : Calls Tryd.prog 21 #[.string s, .int .i64 k, .iface t v] w fun e w' => e = .returned (slipV (s, k) (.iface t v)) ∧ w = w' := by
  go_enter Tryd.func21, Tryd.ntmps21
  go_wp2_with fail
  go_ret
  exact ⟨rfl, rfl⟩
theorem At_made (p : ByteArray × Int) (l : List (ByteArray × Int)) (n : Int) (w : World) : Calls Tryd.prog 21 #[.string p.1, .int .i64 p.2, madeV l n] w fun e w' => e = .returned (madeV (p :: l) n) ∧ w = w' := by
  by_cases h : n = 0
  · subst h
    exact At_nil _ _ _
  · obtain ⟨t, v, hv⟩ := madeV_iface h l
    rw [madeV_cons h, hv]
    exact At_iface _ _ _ _ _

theorem From_any (n : Int) (h : -9223372036854775808 ≤ n ∧ n ≤ 9223372036854775807) (w : World) :
    Calls Tryd.prog 18 #[.int .i64 n] w fun e w' => e = .returned (errV (if 0 ≤ n then 0 else if n = -9223372036854775808 then 1 else -n)) ∧ w = w' := by
  by_cases h0 : 0 ≤ n
  · rw [if_pos h0]
    go_enter Tryd.func18, Tryd.ntmps18
    go_wp2_with fail
    go_ret
    exact ⟨rfl, rfl⟩
  · rw [if_neg h0]
    have h0' : decide (0 ≤ n) = false := decide_eq_false h0
    by_cases h1 : n = -9223372036854775808
    · subst h1
      go_enter Tryd.func18, Tryd.ntmps18
      go_wp2_with fail
      go_ret
      exact ⟨rfl, rfl⟩
    · rw [if_neg h1, errV_not (by omega)]
      have hd : (n == -9223372036854775808) = false := by simpa using h1
      have hn : IntKind.i64.wrap (-n) = -n := IntWalk.i64_in _ (by omega)
      go_enter Tryd.func18, Tryd.ntmps18
      go_wp2_with fail
      go_ret
      exact ⟨rfl, rfl⟩
end Go.Proofs.YtmfgbanckehcgaaDoor
