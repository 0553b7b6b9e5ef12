/- Contracts: find, isProvision, hasAny of the program's pool. -/
import Derived.Test.YtkambcjinidomaaBpPst
namespace Go.Proofs.Ytkambcjinidomaa
set_option linter.unusedVariables false
set_option linter.unusedSimpArgs false
open Go.ChangeShapes Go.WideShapes Go.ChangeAt Go.RowKit

theorem pfind_nil (w : World) (g : Int) : Calls Try.prog 21 #[.pointer none, .int .i64 g] w fun e w' => e = .returned (.tuple #[.pointer none, .int .i64 7]) ∧ w' = w := by
  go_enter Try.func21, Try.ntmps21
  go_wp2_with fail
  go_ret2
  exact ⟨rfl, rfl⟩
theorem pfind_bad (w : World) (pb : Nat) (g : Int) (hg : Bad g) : Calls Try.prog 21 #[.pointer (some ⟨pb, 0, none⟩), .int .i64 g] w fun e w' => e = .returned (.tuple #[.pointer none, .int .i64 1]) ∧ w' = w := by
  unfold Bad at hg
  rcases hg with d | d
  · have d1 : decide (g < 0) = true := decide_eq_true d
    clear d
    go_enter Try.func21, Try.ntmps21
    go_wp2_with fail
    go_ret2
    exact ⟨rfl, rfl⟩
  · have d1 : decide (g < 0) = false := decide_eq_false (by omega)
    have d2 : decide (16 ≤ g) = true := decide_eq_true (by omega)
    clear d
    go_enter Try.func21, Try.ntmps21
    go_wp2_with fail
    go_ret2
    exact ⟨rfl, rfl⟩
theorem pfind_ok (w : World) (pb k : Nat) (hk : k < 16) : Calls Try.prog 21 #[.pointer (some ⟨pb, 0, none⟩), .int .i64 (k : Int)] w fun e w' => e = .returned (.tuple #[.pointer (some ⟨pb, k * 2, none⟩), .int .i64 0]) ∧ w' = w := by
  have d1 : decide ((k : Int) < 0) = false := decide_eq_false (by omega)
  have d2 : decide ((16 : Int) ≤ (k : Int)) = false := decide_eq_false (by omega)
  have d3 : (k : Int) < 16 := by omega
  go_enter Try.func21, Try.ntmps21
  go_wp2_with fail
  go_ret2
  exact ⟨rfl, rfl⟩
/-- What a provision's numbers must be. -/
def PvOk (a n s : Int) : Prop := (1 ≤ n ∧ n ≤ 1024) ∧ (0 ≤ a ∧ a ≤ 65536 - n) ∧ (1 ≤ s ∧ s ≤ 65536)
instance (a n s : Int) : Decidable (PvOk a n s) := inferInstanceAs (Decidable ((1 ≤ n ∧ n ≤ 1024) ∧ (0 ≤ a ∧ a ≤ 65536 - n) ∧ (1 ≤ s ∧ s ≤ 65536)))
set_option maxHeartbeats 1000000 in
theorem isProv_any (w : World) (a n s : Int) (hn : AI64 n) : Calls Try.prog 22 #[.int .i64 a, .int .i64 n, .int .i64 s] w fun e w' => e = .returned (.bool (decide (PvOk a n s))) ∧ w' = w := by
  unfold AI64 at hn
  by_cases q1 : n < 1
  · have HE : Hid (decide (PvOk a n s) = false) := decide_eq_false fun h => by unfold PvOk at h; omega
    have d1 : decide (n < 1) = true := decide_eq_true q1
    clear q1 hn
    go_enter Try.func22, Try.ntmps22
    go_wp2_with fail
    go_ret
    exact ⟨by rw [HE.out]; rfl, rfl⟩
  have d1 : decide (n < 1) = false := decide_eq_false q1
  by_cases q2 : 1024 < n
  · have HE : Hid (decide (PvOk a n s) = false) := decide_eq_false fun h => by unfold PvOk at h; omega
    have d2 : decide (1024 < n) = true := decide_eq_true q2
    clear q1 q2 hn
    go_enter Try.func22, Try.ntmps22
    go_wp2_with fail
    go_ret
    exact ⟨by rw [HE.out]; rfl, rfl⟩
  have d2 : decide (1024 < n) = false := decide_eq_false q2
  have w1 : IntKind.i64.wrap (65536 - n) = 65536 - n := IntWalk.i64_in _ (by omega)
  by_cases q3 : 0 ≤ a
  · have d3 : decide (0 ≤ a) = true := decide_eq_true q3
    by_cases q4 : a ≤ 65536 - n
    · have d4 : decide (a ≤ 65536 - n) = true := decide_eq_true q4
      by_cases q5 : 1 ≤ s
      · have d5 : decide (1 ≤ s) = true := decide_eq_true q5
        by_cases q6 : s ≤ 65536
        · have HE : Hid (decide (PvOk a n s) = true) := decide_eq_true (by unfold PvOk; omega)
          have d6 : decide (s ≤ 65536) = true := decide_eq_true q6
          clear q1 q2 q3 q4 q5 q6
          go_enter Try.func22, Try.ntmps22
          go_wp2_with fail
          go_ret
          exact ⟨by rw [HE.out]; rfl, rfl⟩
        · have HE : Hid (decide (PvOk a n s) = false) := decide_eq_false fun h => by unfold PvOk at h; omega
          have d6 : decide (s ≤ 65536) = false := decide_eq_false q6
          clear q1 q2 q3 q4 q5 q6
          go_enter Try.func22, Try.ntmps22
          go_wp2_with fail
          go_ret
          exact ⟨by rw [HE.out]; rfl, rfl⟩
      · have HE : Hid (decide (PvOk a n s) = false) := decide_eq_false fun h => by unfold PvOk at h; omega
        have d5 : decide (1 ≤ s) = false := decide_eq_false q5
        clear q1 q2 q3 q4 q5
        go_enter Try.func22, Try.ntmps22
        go_wp2_with fail
        go_ret
        exact ⟨by rw [HE.out]; rfl, rfl⟩
    · have HE : Hid (decide (PvOk a n s) = false) := decide_eq_false fun h => by unfold PvOk at h; omega
      have d4 : decide (a ≤ 65536 - n) = false := decide_eq_false q4
      clear q1 q2 q3 q4
      go_enter Try.func22, Try.ntmps22
      go_wp2_with fail
      go_ret
      exact ⟨by rw [HE.out]; rfl, rfl⟩
  · have HE : Hid (decide (PvOk a n s) = false) := decide_eq_false fun h => by unfold PvOk at h; omega
    have d3 : decide (0 ≤ a) = false := decide_eq_false q3
    clear q1 q2 q3
    go_enter Try.func22, Try.ntmps22
    go_wp2_with fail
    go_ret
    exact ⟨by rw [HE.out]; rfl, rfl⟩
theorem bfield0 (a b : Int) (w : World) : (Instr.field 73 (.agg #[.int .i64 a, .int .i64 b]) 0).run Try.prog w = .ok (.int .i64 a) w := by kernel_rfl
theorem bfield1 (a b : Int) (w : World) : (Instr.field 73 (.agg #[.int .i64 a, .int .i64 b]) 1).run Try.prog w = .ok (.int .i64 b) w := by kernel_rfl
set_option maxRecDepth 10000 in
set_option maxHeartbeats 1000000 in
theorem hasAny_any (w : World) (pb o mb : Nat) (x : Gp) (h0 : w.cell? ⟨pb, o, none⟩ = some (.map (some mb))) (hb : BM w mb (ents x)) (a : Int) (n : Nat) (ha : 0 ≤ a ∧ a ≤ 65536) (hn : n ≤ 1024) :
    Calls Try.prog 23 #[.pointer (some ⟨pb, o, none⟩), .int .i64 a, .int .i64 (n : Int)] w fun e w' => e = .returned (.bool (decide (pvSame x a (n : Int)))) ∧ w' = w := by
  have f1 := fun a b => bfield1 a b w
  have HB := Lib.hid hb
  have HA := Lib.hid (And.intro ha hn)
  clear hb ha hn
  go_enter Try.func23, Try.ntmps23
  go_wp2_with fail
  go_loopg [9] n (fun g s9 wr => ∃ k : Nat, k ≤ n ∧ g = n - k ∧ s9 = .int .i64 (k : Int) ∧ wr = w ∧ Hid (∀ b ∈ x.fr ++ x.out, ¬ (a ≤ b.id ∧ b.id < a + (k : Int))))
  case atStart => exact ⟨0, Nat.zero_le _, rfl, rfl, rfl, fun b _ h => by omega⟩
  case round =>
    obtain ⟨k, hk, rfl, rfl, rfl, HN⟩ := hrel
    rcases Nat.lt_or_ge k n with hlt | hge
    · have i0 : (k : Int) < (n : Int) := by omega
      obtain ⟨y, hy⟩ : ∃ y, y = a + (k : Int) := ⟨_, rfl⟩
      have w1 : wrap64 (a + (k : Int)) = y := by rw [hy]; exact IntWalk.wrap64_in _ (by have := HA.out; omega)
      have HY := Lib.hid hy
      clear hy
      by_cases e1 : Hasb x.fr y
      · obtain ⟨b, hbm, hbi⟩ := e1
        have HE : Hid (decide (pvSame x a (n : Int)) = true) := decide_eq_true ⟨b, List.mem_append.2 (.inl hbm), by have := HY.out; omega, by have := HY.out; omega⟩
        have l1 := HB.out.look_some (ents_fr hbm)
        rw [hbi] at l1
        unfold bufV at l1
        clear hbm hbi HN
        go_wp2_with fail
        go_ret
        exact ⟨by rw [HE.out]; rfl, rfl⟩
      by_cases e2 : Hasb x.out y
      · obtain ⟨b, hbm, hbi⟩ := e2
        have HE : Hid (decide (pvSame x a (n : Int)) = true) := decide_eq_true ⟨b, List.mem_append.2 (.inr hbm), by have := HY.out; omega, by have := HY.out; omega⟩
        have l1 := HB.out.look_some (ents_out hbm)
        rw [hbi] at l1
        unfold bufV at l1
        clear hbm hbi HN e1
        go_wp2_with fail
        go_ret
        exact ⟨by rw [HE.out]; rfl, rfl⟩
      · have l1 := HB.out.look_none (ents_none e1 e2)
        unfold bufV at l1
        have HN2 : Hid (∀ b ∈ x.fr ++ x.out, ¬ (a ≤ b.id ∧ b.id < a + ((k + 1 : Nat) : Int))) := fun b hbm q => by
          by_cases q2 : b.id = y
          · rcases List.mem_append.1 hbm with q3 | q3
            · exact e1 ⟨b, q3, q2⟩
            · exact e2 ⟨b, q3, q2⟩
          · have := HY.out
            exact HN.out b hbm ⟨q.1, by omega⟩
        clear e1 e2 HN
        go_wp2_with fail
        go_roundg (n - (k + 1))
        case measure => omega
        case rel => exact ⟨k + 1, by omega, rfl, by rw [IntWalk.wrap64_in _ (by have := HA.out.2; omega)]; rfl, rfl, HN2⟩
    · obtain rfl : k = n := by omega
      have HE : Hid (decide (pvSame x a (k : Int)) = false) := decide_eq_false fun ⟨b, h1, h2⟩ => HN.out b h1 h2
      clear HN
      go_wp2_with fail
      go_ret
      exact ⟨by rw [HE.out]; rfl, rfl⟩
end Go.Proofs.Ytkambcjinidomaa
