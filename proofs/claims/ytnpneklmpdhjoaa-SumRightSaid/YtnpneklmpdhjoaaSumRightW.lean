/- The walk of the law on what is right. -/
import Derived.Deep.DeepCutAuto
import Derived.Test.YtnpneklmpdhjoaaApp
import Derived.Test.YtnpneklmpdhjoaaSumLaws
namespace Go.Proofs.Ytnpneklmpdhjoaa
set_option linter.unusedVariables false
set_option linter.unusedSimpArgs false
open Go.ChangeShapes Go.WideShapes Go.ChangeAt Go.RowKit

theorem total_rot (xs : List UInt8) (k : Nat) (hk : k % 2 = 0) (hx : xs.length % 2 = 0) (h : k ≤ xs.length) : total (xs.drop k ++ xs.take k) = total xs := by
  have e1 := total_append (xs.take k) (xs.drop k) (by rw [List.length_take]; omega)
  have e2 := total_append (xs.drop k) (xs.take k) (by rw [List.length_drop]; omega)
  rw [List.take_append_drop] at e1
  omega
theorem ones_right (xs : List UInt8) (hx : xs.length % 2 = 0) : ones (xs ++ two ((65535 - ones xs : Nat) : Int)) = 65535 := by
  have l1 := ones_lt xs
  rw [ones_ocs, total_append _ _ hx, total_two _ (by omega), ones_ocs]
  exact ocs_right _

set_option maxHeartbeats 4000000 in
theorem sumRight_walk (w : World) {v : Value} {l : List UInt8} (h : Byt w v l) (hl : l.length ≤ 140737488351232) (at_ : Int) (ha : 0 ≤ at_ ∧ at_ ≤ 65535) :
    Calls Try.prog 6 #[v, .int .u16 at_] w fun e w' => e = .returned (.bool true) ∧ Grow w w' := by
  obtain ⟨at_, rfl⟩ := Int.eq_ofNat_of_zero_le ha.1
  obtain ⟨A, c, rfl, hc, hcm⟩ := h.form
  have hb1 := h.grow (Grow.alloc w (.cells #[] 5))
  have f1 : ([] : List UInt8).length + l.length ≤ 140737488355328 := by simp; omega
  go_enter Try.func6, Try.ntmps6
  go_upto_if 15 with (at_builtin; refine wpList_app w _ rfl _ _ rfl _ _ _ _ rfl rfl (Own.empty w) (Grow.alloc w _) hb1 f1 ?_; intro v1 w1 ho1 hg1; clear hb1; rw [List.nil_append] at ho1; obtain ⟨A1, c1, rfl, hc1, hcm1⟩ := ho1.byt.form)
  go_cut [5] (fun s5 wx => ∃ xs : List UInt8, Own wx w.heap.size s5 xs ∧ xs.length % 2 = 0 ∧ xs.length ≤ 140737488351233 ∧ Grow w wx)
  case first =>
    by_cases hodd : l.length % 2 = 1
    · have ho2 := ho1.grow (Grow.alloc w1 (.cells #[.int .u8 0] 5))
      have hg2 := hg1.trans (Grow.alloc w1 (.cells #[.int .u8 0] 5))
      have hb2 := (Own.lit w1 #[.int .u8 0] [0] rfl (by unfold maxLen; simp)).byt
      have f2 : l.length + ([0] : List UInt8).length ≤ 140737488355328 := by simp; omega
      go_wp2_with (at_builtin; refine wpList_app w _ rfl _ _ rfl _ _ _ _ rfl rfl ho2 hg2 hb2 f2 ?_; intro v3 w3 ho3 hg3; clear ho2)
      go_meet
      exact ⟨_, ho3, by simp; omega, by simp; omega, hg3⟩
    · go_wp2_with fail
      go_meet
      exact ⟨l, ho1, by omega, by omega, hg1⟩
  case rest =>
    obtain ⟨xs, ho, hx2, hxl, hgx⟩ := hcut
    obtain ⟨A5, c5, rfl, hc5, hcm5⟩ := ho.byt.form
    have l1 := ones_lt xs
    have hR := ones_right xs hx2
    have e1 : (65535 : Int) - (ones xs : Int) = ((65535 - ones xs : Nat) : Int) := by omega
    have F3 := Lib.hid e1
    clear e1
    go_wp2_with fail
    refine (Check_any _ _ _ ho.byt (by omega)).mono ?_
    rw [F3.out]
    rintro e w2 ⟨rfl, hg2⟩
    obtain ⟨cs, hcs⟩ : ∃ cs, cs = 65535 - ones xs := ⟨_, rfl⟩
    rw [← hcs] at hR ⊢
    have F4 := Lib.hid hcs
    clear hcs
    have hg2' := hgx.trans hg2
    have hb2 := ho.byt.grow (hg2.trans (Grow.alloc w2 (.cells #[] 5)))
    have f3 : ([] : List UInt8).length + xs.length ≤ 140737488355328 := by simp; omega
    have f5 : xs.length + (two (cs : Int)).length ≤ 140737488355328 := by rw [two_length]; omega
    have f6 : (xs ++ two (cs : Int)).length ≤ 281474976710656 := by rw [List.length_append, two_length]; omega
    go_wp2_with (at_builtin; refine wpList_app w2 _ rfl _ _ rfl _ _ _ _ rfl rfl (Own.empty w2) (Grow.alloc w2 _) hb2 f3 ?_; intro v3 w3 ho3 hg3; clear hb2; rw [List.nil_append] at ho3)
    refine (Two_any _ _ (by have := F4.out; omega) (by have := F4.out; omega)).mono ?_
    rintro e w4 ⟨v4, rfl, ho4, hg4⟩
    have ho3' := ho3.grow hg4
    have hb4 := ho4.byt
    have hg34 := hg3.trans hg4
    go_wp2_with (at_builtin; refine wpList_app w2 _ rfl _ _ rfl _ _ _ _ rfl rfl ho3' hg34 hb4 f5 ?_; intro v5 w5 ho5 hg5; clear ho3')
    refine (Right_any _ _ _ ho5.byt f6).mono ?_
    rw [hR]
    rintro e w6 ⟨rfl, hg6⟩
    have hg26 := hg5.trans hg6
    have hg06 := hg2'.trans hg26
    go_upto_if 31 with fail
    go_cut [7] (fun s7 wx => ∃ k : Nat, k % 2 = 0 ∧ k ≤ xs.length ∧ s7 = .int .i64 (k : Int) ∧ w6 = wx)
    case first =>
      by_cases h0 : 0 < xs.length
      · have hk := Nat.mod_lt at_ (show 0 < xs.length / 2 by omega)
        have hk3 : at_ % (xs.length / 2) * 2 ≤ xs.length := by
          generalize at_ % (xs.length / 2) = r at hk
          omega
        have hk4 : wrap64 ((at_ : Int) % ((xs.length : Int) / 2) * 2) = (at_ : Int) % ((xs.length : Int) / 2) * 2 := by
          have e : (at_ : Int) % ((xs.length : Int) / 2) = ((at_ % (xs.length / 2) : Nat) : Int) := by simp
          rw [e]
          generalize at_ % (xs.length / 2) = r at hk
          unfold wrap64
          omega
        go_wp2_with fail
        go_meet
        exact ⟨at_ % (xs.length / 2) * 2, Nat.mul_mod_left _ _, hk3, by simp; exact hk4, rfl⟩
      · go_wp2_with fail
        go_meet
        exact ⟨0, by omega, by omega, rfl, rfl⟩
    case rest =>
      obtain ⟨k, hk2, hkx, rfl, rfl⟩ := hcut
      go_wp2_with fail
      have hk5 : k ≤ c5 := by omega
      have hgd := (hg2.trans hg26).trans (Grow.drew w6)
      have hga := hgd.trans (Grow.alloc w6.drew (.cells #[] 5))
      have hbf := ho.byt.front hkx
      have f8 : (xs.drop k).length + (xs.take k).length ≤ 140737488355328 := by simp; omega
      have f9 : (xs.drop k ++ xs.take k).length ≤ 281474976710656 := by simp; omega
      have hrot : ones (xs.drop k ++ xs.take k) = ones xs := by rw [ones_ocs, ones_ocs, total_rot xs k hk2 hx2 hkx]
      by_cases hck : c5 = k
      · have hbk := (ho.byt.back0 hkx hck).grow hga
        rw [hck, Nat.sub_self] at hbk
        rw [hck] at hbf
        have f7 : ([] : List UInt8).length + (xs.drop k).length ≤ 140737488355328 := by simp; omega
        go_region_law (first | (refine step_app w6.drew _ rfl (.tmp 39) (.tmp 42) rfl _ _ _ _ rfl rfl (Own.empty w6.drew) (Grow.alloc w6.drew _) hbk f7 ?_; intro v7 w7 ho7 hg7; rw [List.nil_append] at ho7) | (refine step_app w6.drew _ rfl (.tmp 43) (.tmp 46) rfl _ _ _ _ rfl rfl ho7 hg7 (hbf.grow (hgd.trans hg7)) f8 ?_; intro v8 w8 ho8 hg8))
        all_goals
          go_wp2_with fail
          refine (Check_any _ _ _ ho8.byt f9).mono ?_
          rw [hrot, F3.out, ← F4.out]
          rintro e w9 ⟨rfl, hg9⟩
          go_wp2_with fail
          refine (live_any _).mono ?_
          rintro e w10 ⟨rfl, hg10⟩
          go_wp2_with fail
          go_ret
          exact ⟨rfl, ((hg06.trans ((Grow.drew w6).trans hg8)).trans hg9).trans hg10⟩
      · have hbk := (ho.byt.back hkx hck).grow hga
        have f7 : ([] : List UInt8).length + (xs.drop k).length ≤ 140737488355328 := by simp; omega
        go_region_law (first | (refine step_app w6.drew _ rfl (.tmp 39) (.tmp 42) rfl _ _ _ _ rfl rfl (Own.empty w6.drew) (Grow.alloc w6.drew _) hbk f7 ?_; intro v7 w7 ho7 hg7; rw [List.nil_append] at ho7) | (refine step_app w6.drew _ rfl (.tmp 43) (.tmp 46) rfl _ _ _ _ rfl rfl ho7 hg7 (hbf.grow (hgd.trans hg7)) f8 ?_; intro v8 w8 ho8 hg8))
        all_goals
          go_wp2_with fail
          refine (Check_any _ _ _ ho8.byt f9).mono ?_
          rw [hrot, F3.out, ← F4.out]
          rintro e w9 ⟨rfl, hg9⟩
          go_wp2_with fail
          refine (live_any _).mono ?_
          rintro e w10 ⟨rfl, hg10⟩
          go_wp2_with fail
          go_ret
          exact ⟨rfl, ((hg06.trans ((Grow.drew w6).trans hg8)).trans hg9).trans hg10⟩
end Go.Proofs.Ytnpneklmpdhjoaa
