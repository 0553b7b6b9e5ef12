/- The laws' own walks, on. -/
import Derived.Test.YteheacblcnamhaaOctet
namespace Go.Proofs.Yteheacblcnamhaa
set_option linter.unusedVariables false
open Go.ChangeShapes Go.WideShapes Go.ChangeAt Go.RowKit

theorem seven (w : World) : Byt (w.alloc (.cells #[.int .u8 7] 5)) (.slice (some ⟨w.heap.size, 0, none⟩) 1 1) [7] := Rd.block (cs := #[.int .u8 7]) (heap_alloc_new w _) (by simp) (by omega) (by decide)
theorem zeros_at {w : World} {A : Option Addr} {n c m : Nat} (h : Byt w (.slice A n c) (List.replicate m 0)) (hp : 0 < m) : ∃ b off, A = some ⟨b, off, none⟩ ∧ ∀ j, j < m → w.cell? ⟨b, off + j, none⟩ = some (.int .u8 0) := by
  obtain ⟨h1, _, _⟩ := h.len
  obtain ⟨b, off, e, _, hc⟩ := h.at_ (by rw [h1, List.length_replicate]; exact hp)
  refine ⟨b, off, e, fun j hj => ?_⟩
  rw [hc j (by rw [List.length_replicate]; exact hj)]
  simp
theorem padOf_seven : padOf [7] 2 = [7, 0] := by decide
theorem padCode_seven : padCode 2 = 0 := by decide

set_option maxHeartbeats 1000000 in
theorem octetPads_walk (w : World) {v : Value} {l : List UInt8} (h : Byt w v l) (hl : l.length ≤ 140737488351232) (unit : Int) (_hu : -9223372036854775808 ≤ unit ∧ unit ≤ 9223372036854775807) (n : Int) (hn : -9223372036854775808 ≤ n ∧ n ≤ 9223372036854775807) :
    Calls Try.prog 6 #[v, .int .i64 unit, .int .i64 n] w fun e w' => e = .returned (.bool true) ∧ Grow w w' := by
  obtain ⟨hn1, hn2⟩ := hn
  go_enter Try.func6, Try.ntmps6
  go_wp2_with fail
  refine (Pad_any _ _ _ _ h (by omega)).mono ?_
  rintro e w1 ⟨v1, rfl, ho1, hg1⟩
  go_wp2_with fail
  refine (RPad_any _ _ _ _ (h.grow hg1) hl).mono ?_
  rintro e w2 ⟨v2, rfl, ho2, hg2⟩
  go_wp2_with fail
  refine (Zeros_any _ _ hn1 hn2).mono ?_
  rintro e w3 ⟨v3, rfl, ho3, hg3⟩
  have g3 := (hg1.trans hg2).trans hg3
  have c1 := str1 ((ho1.grow hg2).grow hg3).byt
  have c2 := str1 (ho2.grow hg3).byt
  obtain ⟨A3, k3, rfl, hk1, hk2⟩ := ho3.form
  by_cases ha : n < 0
  · rw [if_pos ha] at ho3 ⊢
    rw [if_pos ha]
    have ha2 : decide (0 < n) = false := by simp; omega
    go_wp2_with ((go_at_call 16); (refine (code_any _ _).mono ?_); (rintro e w' ⟨rfl, rfl⟩))
    refine (Pad_any _ [7] 2 _ (seven w3) (by simp)).mono ?_
    rintro e w4 ⟨v4, rfl, ho4, hg4⟩
    rw [padOf_seven] at ho4
    rw [padCode_seven]
    obtain ⟨A4, k4, rfl, _, _⟩ := ho4.byt.form
    go_wp2_with ((go_at_call 16); (refine (code_any _ _).mono ?_); (rintro e w' ⟨rfl, rfl⟩))
    go_ret
    exact ⟨rfl, (g3.trans (Grow.alloc _ _)).trans hg4⟩
  · rw [if_neg ha] at ho3 ⊢
    rw [if_neg ha]
    by_cases hb : 65535 < n
    · rw [if_pos hb] at ho3 ⊢
      rw [if_pos hb]
      have ha2 : decide (0 < n) = true := by simp; omega
      have ha3 : decide (n < 0) = false := by simp; omega
      go_wp2_with ((go_at_call 16); (refine (code_any _ _).mono ?_); (rintro e w' ⟨rfl, rfl⟩))
      refine (Pad_any _ [7] 2 _ (seven w3) (by simp)).mono ?_
      rintro e w4 ⟨v4, rfl, ho4, hg4⟩
      rw [padOf_seven] at ho4
      rw [padCode_seven]
      obtain ⟨A4, k4, rfl, _, _⟩ := ho4.byt.form
      go_wp2_with ((go_at_call 16); (refine (code_any _ _).mono ?_); (rintro e w' ⟨rfl, rfl⟩))
      go_ret
      exact ⟨rfl, (g3.trans (Grow.alloc _ _)).trans hg4⟩
    · rw [if_neg hb] at ho3 ⊢
      rw [if_neg hb]
      obtain ⟨m, rfl⟩ := Int.eq_ofNat_of_zero_le (by omega : 0 ≤ n)
      rw [Int.toNat_natCast] at ho3 ⊢
      have hz := zeros_at ho3
      have hk3 : (List.replicate m (0 : UInt8)).length = m := List.length_replicate ..
      have hd : decide ((m : Int) < 0) = false := by simp
      have hd2 : decide (65535 < (m : Int)) = false := by simp; omega
      have hm : m ≤ 65535 := by omega
      clear ho3 hk1
      generalize (List.replicate m (0 : UInt8)).length = q at *
      subst hk3
      go_wp2_with ((go_at_call 16); (refine (code_any _ _).mono ?_); (rintro e w' ⟨rfl, rfl⟩))
      go_loop [15] (fun i => ∃ j : Nat, j ≤ q ∧ i = .int .i64 (j : Int)) (fun i => q - (intOf i).toNat)
      case atStart => exact ⟨0, Nat.zero_le _, rfl⟩
      case round =>
        obtain ⟨j, hj, rfl⟩ := hrel
        by_cases hlt : j < q
        · obtain ⟨b, off, rfl, hc⟩ := hz (by omega)
          have hc1 := hc j hlt
          clear hc hz
          go_wp2
          go_round
          case rel => exact ⟨j + 1, by omega, by go_num⟩
          case measure => simp [intOf]; omega
        · have : j = q := by omega
          subst this
          go_wp2_with fail
          refine (Pad_any _ [7] 2 _ (seven w3) (by simp)).mono ?_
          rintro e w4 ⟨v4, rfl, ho4, hg4⟩
          rw [padOf_seven] at ho4
          rw [padCode_seven]
          obtain ⟨A4, k4, rfl, _, _⟩ := ho4.byt.form
          go_wp2_with ((go_at_call 16); (refine (code_any _ _).mono ?_); (rintro e w' ⟨rfl, rfl⟩))
          go_ret
          exact ⟨rfl, (g3.trans (Grow.alloc _ _)).trans hg4⟩
end Go.Proofs.Yteheacblcnamhaa
