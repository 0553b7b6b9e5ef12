/- Contracts: Read; the reference's Peek. -/
import Derived.Test.YteohepgpghmioaaHsPeek
namespace Go.Proofs.Yteohepgpghmioaa
set_option linter.unusedVariables false
set_option linter.unusedSimpArgs false
open Go.ChangeShapes Go.WideShapes Go.ChangeAt Go.RowKit

section
variable {w w' : World} {base ab g m i o : Nat} {r : List UInt8}
def ReadPost (w : World) (base ab g m i o : Nat) (r : List UInt8) (d : Nat) (e : Ending) (w' : World) : Prop := ∃ v, e = .returned v ∧ Own w' w.heap.size v (r.take d) ∧ Hs w' base ab g m i (o + d) (r.drop d) ∧ Chg ab g w w'
theorem pk_front (r : List UInt8) (n : Int) : pk r 0 n = r.take (fst n r.length) := by
  unfold pk fst
  by_cases q : n < 1
  · rw [if_pos (.inr q), show n.toNat = 0 by omega, Nat.zero_min, List.take_zero]
  · rw [if_neg (by omega), Int.toNat_zero, List.drop_zero]
    rcases Nat.le_total n.toNat r.length with h | h
    · rw [Nat.min_eq_left h]
    · rw [Nat.min_eq_right h, List.take_of_length_le h, List.take_of_length_le (Nat.le_refl _)]
theorem hRead_any (h : Hs w base ab g m i o r) (n : Int) : Calls Try.prog 12 #[.pointer (some ⟨ab, 0, none⟩), .int .i64 n] w (ReadPost w base ab g m i o r (fst n r.length)) := by
  have c0 := hPeek_any h 0 n
  unfold PeekPost at c0
  rw [pk_front] at c0
  have hd : fst n r.length ≤ r.length := by unfold fst; omega
  generalize fst n r.length = d at *
  have HH := Lib.hid (And.intro h hd)
  clear h hd
  go_enter Try.func12, Try.ntmps12
  go_wp2_with fail
  refine c0.mono ?_
  rintro e w1 ⟨v, rfl, hv, g1⟩
  obtain ⟨A, c, hform, _⟩ := hv.byt.form
  have hl : (r.take d).length = d := by rw [List.length_take]; have := HH.out.2; omega
  rw [hl] at hform
  subst hform
  have c1 := hDrop_any (HH.out.1.grow g1) (d : Int)
  unfold DropPost at c1
  rw [show fst (d : Int) r.length = d by unfold fst; have := HH.out.2; omega] at c1
  have H1 := Lib.hid (And.intro hv g1)
  clear c0 hv g1 hl
  go_wp2_with fail
  refine c1.mono ?_
  rintro e w2 ⟨rfl, h2, k2⟩
  have H2 : Hid (ReadPost w base ab g m i o r d (.returned (.slice A d c)) w2) := by
    have hlt := HH.out.1.lt
    refine ⟨_, rfl, k2.own H1.out.1 (fun e => ?_) (fun e => ?_), h2, (Chg.of_grow H1.out.2).trans k2⟩
    · have := (H1.out.1.lt e).2; omega
    · have := (H1.out.1.lt e).2; omega
  clear c1 h2 k2
  go_wp2_with fail
  go_ret
  exact H2.out
end
theorem rPeek_none (w : World) (v : Value) (r : List UInt8) (hv : Byt w v r) (a n : Int) (hn : a < 0 ∨ n < 0 ∨ (r.length : Int) ≤ a) : Calls Try.prog 15 #[v, .int .i64 a, .int .i64 n] w fun e w' => e = .returned (.slice none 0 0) ∧ w' = w := by
  obtain ⟨A, c, rfl, _⟩ := hv.form
  clear hv
  generalize r.length = k at *
  by_cases q1 : a < 0
  · have d1 : decide (a < 0) = true := decide_eq_true q1
    go_enter Try.func15, Try.ntmps15
    go_wp2_with fail
    go_ret
    exact ⟨rfl, rfl⟩
  · have d1 : decide (a < 0) = false := decide_eq_false q1
    by_cases q2 : n < 0
    · have d2 : decide (n < 0) = true := decide_eq_true q2
      clear hn q1 q2
      go_enter Try.func15, Try.ntmps15
      go_wp2_with fail
      go_ret
      exact ⟨rfl, rfl⟩
    · have d2 : decide (n < 0) = false := decide_eq_false q2
      have d3 : decide ((k : Int) ≤ a) = true := decide_eq_true (by omega)
      clear hn q1 q2
      go_enter Try.func15, Try.ntmps15
      go_wp2_with fail
      go_ret
      exact ⟨rfl, rfl⟩
set_option maxHeartbeats 1000000 in
theorem rPeek_some (w : World) (v : Value) (r : List UInt8) (hv : Byt w v r) (a : Nat) (n : Int) (ha : a < r.length) (hn : 0 ≤ n) (hr : r.length ≤ 2000000) : Calls Try.prog 15 #[v, .int .i64 (a : Int), .int .i64 n] w fun e w' => ∃ v', e = .returned v' ∧ Byt w v' (pk r (a : Int) n) ∧ w' = w := by
  obtain ⟨A, c, rfl, h1, h2⟩ := hv.form
  obtain ⟨N, hN⟩ : ∃ N, N = min n.toNat (r.length - a) := ⟨_, rfl⟩
  have e1 : pk r (a : Int) n = (r.take (a + N)).drop a := by
    rw [List.drop_take, Nat.add_sub_cancel_left]
    unfold pk
    by_cases q : n < 1
    · rw [if_pos (.inr q), show N = 0 by omega, List.take_zero]
    · rw [if_neg (by omega), Int.toNat_natCast, hN]
      rcases Nat.le_total n.toNat (r.length - a) with q | q
      · rw [Nat.min_eq_left q]
      · rw [Nat.min_eq_right q, List.take_of_length_le (by rw [List.length_drop]; omega), List.take_of_length_le (by rw [List.length_drop]; omega)]
  obtain ⟨b, off, rfl, hat⟩ := hv.at_ (by omega)
  have hb : Byt w (.slice (some ⟨b, off + a, none⟩) (a + N - a) (c - a)) (pk r (a : Int) n) := by
    rw [e1]
    have := hv.cut (lo := a) (hi := a + N) (by omega) (by omega)
    rw [if_neg (by omega)] at this
    simpa only [Option.map_some, add_at] using this
  have HB := Lib.hid hb
  obtain ⟨d, hd⟩ : ∃ d, d = r.length - a := ⟨_, rfl⟩
  have e2 : IntKind.i64.wrap ((r.length : Int) - (a : Int)) = (d : Int) := by rw [IntKind.wrap_i64]; omega
  have d1 : decide ((a : Int) < 0) = false := decide_eq_false (by omega)
  have d2 : decide (n < 0) = false := decide_eq_false (by omega)
  have d3 : decide ((r.length : Int) ≤ (a : Int)) = false := decide_eq_false (by omega)
  have d3' : decide (r.length ≤ a) = false := decide_eq_false (by omega)
  have i1 : ¬ c = a := by omega
  have i2 : a ≤ c := by omega
  have e3 : IntKind.i64.wrap ((a : Int) + (N : Int)) = ((a + N : Nat) : Int) := by rw [IntKind.wrap_i64]; omega
  have i3 : ((a + N : Nat) : Int) ≤ (c : Int) := by omega
  have i4 : a + N ≤ c := by omega
  unfold maxLen at h2
  by_cases q : (d : Int) < n
  · obtain rfl : N = d := by omega
    clear hv hb e1 hd hN ha hat
    generalize r.length = K at *
    go_enter Try.func15, Try.ntmps15
    go_wp2_with fail
    go_ret
    exact ⟨_, rfl, HB.out, rfl⟩
  · obtain rfl : n = (N : Int) := by omega
    have q' : ¬ d < N := by omega
    clear hv hb e1 hd hN ha hn hat
    generalize r.length = K at *
    go_enter Try.func15, Try.ntmps15
    go_wp2_with fail
    go_ret
    refine ⟨_, rfl, ?_, rfl⟩
    have := HB.out
    rwa [Nat.add_sub_cancel_left] at this
theorem rPeek_any (w : World) (v : Value) (r : List UInt8) (hv : Byt w v r) (a : Int) (n : Int) (hr : r.length ≤ 2000000) : Calls Try.prog 15 #[v, .int .i64 a, .int .i64 n] w fun e w' => ∃ v', e = .returned v' ∧ Byt w v' (pk r a n) ∧ w' = w := by
  by_cases q : a < 0 ∨ n < 0 ∨ (r.length : Int) ≤ a
  · refine (rPeek_none w v r hv a n q).mono ?_
    rintro e w' ⟨rfl, hw⟩
    have e1 : pk r a n = [] := by
      unfold pk
      by_cases q2 : a < 0 ∨ n < 1
      · rw [if_pos q2]
      · rw [if_neg q2, List.drop_of_length_le (by omega), List.take_nil]
    exact ⟨_, rfl, by rw [e1]; exact Byt.nil _, hw⟩
  · obtain ⟨k, rfl⟩ : ∃ k : Nat, a = (k : Int) := ⟨a.toNat, by omega⟩
    exact rPeek_some w v r hv k n (by omega) (by omega) hr
end Go.Proofs.Yteohepgpghmioaa
