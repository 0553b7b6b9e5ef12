/- Contracts: bit, network, allowed, byCost, code; the reference's narrow, rises. -/
import Derived.Test.YtfdoofkofljgnaaRt
import Derived.Deep.LoopGhost
import Derived.Deep.DeepCutAuto
import Derived.Deep.RegionWith
import Derived.BigQuiet
import Derived.Lib.Hide
namespace Go.Proofs.Ytfdoofkofljgnaa
set_option linter.unusedVariables false
set_option linter.unusedSimpArgs false
open Go.ChangeShapes Go.WideShapes Go.ChangeAt Go.RowKit

/-- The bit that decides between the halves of a net of j bits. -/
def bitOf (a : Int) (j : Nat) : Int := if j ≤ 31 then a / sz ((j : Int) + 1) % 2 else 0
theorem bitOf_two (a : Int) (j : Nat) : bitOf a j = 0 ∨ bitOf a j = 1 := by
  unfold bitOf
  split
  · omega
  · exact .inl rfl
theorem bit_num (a : Int) (j : Nat) (ha : 0 ≤ a ∧ a ≤ 4294967295) (hj : j ≤ 32) : a * 2 ^ j % 4294967296 / 2147483648 = bitOf a j := by
  unfold bitOf sz
  have : j = 0 ∨ j = 1 ∨ j = 2 ∨ j = 3 ∨ j = 4 ∨ j = 5 ∨ j = 6 ∨ j = 7 ∨ j = 8 ∨ j = 9 ∨ j = 10 ∨ j = 11 ∨ j = 12 ∨ j = 13 ∨ j = 14 ∨ j = 15 ∨ j = 16 ∨ j = 17 ∨ j = 18 ∨ j = 19 ∨ j = 20 ∨ j = 21 ∨ j = 22 ∨ j = 23 ∨ j = 24 ∨ j = 25 ∨ j = 26 ∨ j = 27 ∨ j = 28 ∨ j = 29 ∨ j = 30 ∨ j = 31 ∨ j = 32 := by omega
  rcases this with rfl | rfl | rfl | rfl | rfl | rfl | rfl | rfl | rfl | rfl | rfl | rfl | rfl | rfl | rfl | rfl | rfl | rfl | rfl | rfl | rfl | rfl | rfl | rfl | rfl | rfl | rfl | rfl | rfl | rfl | rfl | rfl | rfl <;> simp <;> omega

set_option maxHeartbeats 400000 in
theorem bit_any (a : Int) (j : Nat) (ha : 0 ≤ a ∧ a ≤ 4294967295) (hj : j ≤ 32) (w : World) : Calls Try.prog 39 #[.int .u32 a, .int .i64 (j : Int)] w fun e w' => e = .returned (.int .u32 (bitOf a j)) ∧ w = w' := by
  have e1 := bit_num a j ha hj
  have H := Lib.hid e1
  clear e1
  go_enter Try.func39, Try.ntmps39
  go_wp2_with fail
  go_ret
  exact ⟨by rw [← H.out]; rfl, rfl⟩

/-- May a route have this Net and Bits? -/
def netB (n b : Int) : Bool := decide (0 ≤ b ∧ b ≤ 32 ∧ netOf n b = n)
theorem network_any (n b : Int) (hn : 0 ≤ n ∧ n ≤ 4294967295) (w : World) : Calls Try.prog 40 #[.int .u32 n, .int .i64 b] w fun e w' => e = .returned (.bool (netB n b)) ∧ w = w' := by
  by_cases hb : 0 ≤ b ∧ b ≤ 32
  · have e : netB n b = (netOf n b == n) := by
      unfold netB
      by_cases h : netOf n b = n
      · rw [decide_eq_true ⟨hb.1, hb.2, h⟩]; simp [h]
      · rw [decide_eq_false (fun k => h k.2.2)]; simp [h]
    rw [e]
    go_enter Try.func40, Try.ntmps40
    go_wp2_with fail
    refine (Net_any _ _ hn hb _).mono ?_
    rintro e w' ⟨rfl, rfl⟩
    go_wp2_with fail
    go_ret
    exact ⟨rfl, rfl⟩
  · have e : netB n b = false := decide_eq_false (fun k => hb ⟨k.1, k.2.1⟩)
    rw [e]
    go_enter Try.func40, Try.ntmps40
    go_wp2_with fail
    refine (Net_not _ _ (by omega) _).mono ?_
    rintro e w' ⟨rfl, rfl⟩
    go_wp2_with fail
    go_ret
    exact ⟨rfl, rfl⟩

theorem code_any (n : Int) (w : World) : Calls Try.prog 15 #[.int .i64 n] w fun e w' => e = .returned (.int .i64 n) ∧ w = w' := by
  go_enter Try.func15, Try.ntmps15
  go_wp2_with fail
  go_ret
  exact ⟨rfl, rfl⟩

set_option maxHeartbeats 1000000 in
theorem allowed_any (r : Rt) (hr : r.Ok) (w : World) : Calls Try.prog 30 #[rtV r] w fun e w' => e = .returned (.bool r.good) ∧ Grow w w' := by
  obtain ⟨net, bits, via, iface, cost⟩ := r
  have hn : 0 ≤ net ∧ net ≤ 4294967295 := ⟨hr.n0, hr.n1⟩
  by_cases h1 : netB net bits = true
  · have h1' : 0 ≤ bits ∧ bits ≤ 32 ∧ netOf net bits = net := of_decide_eq_true h1
    have cN := fun w => network_any net bits hn w
    rw [h1] at cN
    by_cases h2 : 0 ≤ iface
    · by_cases h3 : iface < 16
      · by_cases h4 : 0 ≤ cost
        · have e : Rt.good ⟨net, bits, via, iface, cost⟩ = decide (cost ≤ 65535) := by
            unfold Rt.good
            exact decide_eq_decide.2 ⟨fun h => h.2.2.2.2.2.2, fun h => ⟨h1'.1, h1'.2.1, h1'.2.2, h2, (by show iface ≤ 15; omega), h4, h⟩⟩
          rw [e]
          clear h1 h1' e
          unfold rtV
          go_enter Try.func30, Try.ntmps30
          go_wp2_with fail
          refine (cN _).mono ?_
          rintro e w' ⟨rfl, rfl⟩
          go_wp2_with fail
          go_ret
          exact ⟨rfl, Grow.alloc _ _⟩
        · have e : Rt.good ⟨net, bits, via, iface, cost⟩ = false := decide_eq_false (fun h => h4 h.2.2.2.2.2.1)
          have d4 : decide (0 ≤ cost) = false := decide_eq_false h4
          rw [e]
          clear h1 h1' e
          unfold rtV
          go_enter Try.func30, Try.ntmps30
          go_wp2_with fail
          refine (cN _).mono ?_
          rintro e w' ⟨rfl, rfl⟩
          go_wp2_with fail
          go_ret
          exact ⟨rfl, Grow.alloc _ _⟩
      · have e : Rt.good ⟨net, bits, via, iface, cost⟩ = false := decide_eq_false (fun h => h3 (by have h' : iface ≤ 15 := h.2.2.2.2.1; omega))
        have d3 : decide (iface < 16) = false := decide_eq_false h3
        rw [e]
        clear h1 h1' e
        unfold rtV
        go_enter Try.func30, Try.ntmps30
        go_wp2_with fail
        refine (cN _).mono ?_
        rintro e w' ⟨rfl, rfl⟩
        go_wp2_with fail
        go_ret
        exact ⟨rfl, Grow.alloc _ _⟩
    · have e : Rt.good ⟨net, bits, via, iface, cost⟩ = false := decide_eq_false (fun h => h2 h.2.2.2.1)
      have d2 : decide (0 ≤ iface) = false := decide_eq_false h2
      rw [e]
      clear h1 h1' e
      unfold rtV
      go_enter Try.func30, Try.ntmps30
      go_wp2_with fail
      refine (cN _).mono ?_
      rintro e w' ⟨rfl, rfl⟩
      go_wp2_with fail
      go_ret
      exact ⟨rfl, Grow.alloc _ _⟩
  · have h1' : netB net bits = false := by simpa using h1
    have e : Rt.good ⟨net, bits, via, iface, cost⟩ = false := decide_eq_false (fun h => h1 (decide_eq_true ⟨h.1, h.2.1, h.2.2.1⟩))
    have cN := fun w => network_any net bits hn w
    rw [h1'] at cN
    rw [e]
    clear h1 h1' e
    unfold rtV
    go_enter Try.func30, Try.ntmps30
    go_wp2_with fail
    refine (cN _).mono ?_
    rintro e w' ⟨rfl, rfl⟩
    go_wp2_with fail
    go_ret
    exact ⟨rfl, Grow.alloc _ _⟩

set_option maxHeartbeats 1000000 in
theorem narrow_any (x y : Rt) (w : World) : Calls Try.prog 23 #[rtV x, rtV y] w fun e w' => e = .returned (.bool (narrowB x y)) ∧ Grow w w' := by
  obtain ⟨n1, b1, v1, i1, c1⟩ := x
  obtain ⟨n2, b2, v2, i2, c2⟩ := y
  have hg : ∀ o o' : Obj, Grow w ((w.alloc o).alloc o') := fun o o' => (Grow.alloc _ _).trans (Grow.alloc _ _)
  rcases Int.lt_trichotomy b2 b1 with h | h | h
  · have e : narrowB ⟨n1, b1, v1, i1, c1⟩ ⟨n2, b2, v2, i2, c2⟩ = true := by rw [narrow_iff]; exact .inl h
    have d1 : decide (b2 < b1) = true := decide_eq_true h
    rw [e]
    clear e
    unfold rtV
    go_enter Try.func23, Try.ntmps23
    go_wp2_with fail
    go_ret
    exact ⟨rfl, hg _ _⟩
  · subst h
    have e : narrowB ⟨n1, b2, v1, i1, c1⟩ ⟨n2, b2, v2, i2, c2⟩ = decide (c1 < c2) := by
      rw [Bool.eq_iff_iff, narrow_iff, decide_eq_true_iff]; simp
    have d1 : decide (b2 < b2) = false := by simp
    rw [e]
    clear e
    unfold rtV
    go_enter Try.func23, Try.ntmps23
    go_wp2_with fail
    go_ret
    exact ⟨rfl, hg _ _⟩
  · have e : narrowB ⟨n1, b1, v1, i1, c1⟩ ⟨n2, b2, v2, i2, c2⟩ = false := by
      rw [Bool.eq_false_iff]; intro k; rw [narrow_iff] at k; simp at k; omega
    have d1 : decide (b2 < b1) = false := decide_eq_false (by omega)
    have d2 : (b1 == b2) = false := by simp; omega
    rw [e]
    clear e
    unfold rtV
    go_enter Try.func23, Try.ntmps23
    go_wp2_with fail
    go_ret
    exact ⟨rfl, hg _ _⟩

set_option maxHeartbeats 1000000 in
theorem rises_any (x y : Rt) (w : World) : Calls Try.prog 26 #[rtV x, rtV y] w fun e w' => e = .returned (.bool (risesB x y)) ∧ Grow w w' := by
  obtain ⟨n1, b1, v1, i1, c1⟩ := x
  obtain ⟨n2, b2, v2, i2, c2⟩ := y
  have hg : ∀ o o' : Obj, Grow w ((w.alloc o).alloc o') := fun o o' => (Grow.alloc _ _).trans (Grow.alloc _ _)
  by_cases hn : n1 = n2
  · subst hn
    have d0 : (n1 == n1) = true := by simp
    rcases Int.lt_trichotomy b1 b2 with h | h | h
    · have e : risesB ⟨n1, b1, v1, i1, c1⟩ ⟨n1, b2, v2, i2, c2⟩ = true := by rw [rises_iff]; exact .inr ⟨rfl, .inl h⟩
      have d1 : decide (b1 < b2) = true := decide_eq_true h
      rw [e]
      clear e
      unfold rtV
      go_enter Try.func26, Try.ntmps26
      go_wp2_with fail
      go_ret
      exact ⟨rfl, hg _ _⟩
    · subst h
      have e : risesB ⟨n1, b1, v1, i1, c1⟩ ⟨n1, b1, v2, i2, c2⟩ = decide (c1 < c2) := by
        rw [Bool.eq_iff_iff, rises_iff, decide_eq_true_iff]; simp
      have d1 : decide (b1 < b1) = false := by simp
      rw [e]
      clear e
      unfold rtV
      go_enter Try.func26, Try.ntmps26
      go_wp2_with fail
      go_ret
      exact ⟨rfl, hg _ _⟩
    · have e : risesB ⟨n1, b1, v1, i1, c1⟩ ⟨n1, b2, v2, i2, c2⟩ = false := by
        rw [Bool.eq_false_iff]; intro k; rw [rises_iff] at k; simp at k; omega
      have d1 : decide (b1 < b2) = false := decide_eq_false (by omega)
      have d2 : (b1 == b2) = false := by simp; omega
      rw [e]
      clear e
      unfold rtV
      go_enter Try.func26, Try.ntmps26
      go_wp2_with fail
      go_ret
      exact ⟨rfl, hg _ _⟩
  · have d0 : (n1 == n2) = false := by simpa using hn
    have e : risesB ⟨n1, b1, v1, i1, c1⟩ ⟨n2, b2, v2, i2, c2⟩ = decide (n1 < n2) := by
      rw [Bool.eq_iff_iff, rises_iff, decide_eq_true_iff]; simp [hn]
    rw [e]
    clear e
    unfold rtV
    go_enter Try.func26, Try.ntmps26
    go_wp2_with fail
    go_ret
    exact ⟨rfl, hg _ _⟩
end Go.Proofs.Ytfdoofkofljgnaa
