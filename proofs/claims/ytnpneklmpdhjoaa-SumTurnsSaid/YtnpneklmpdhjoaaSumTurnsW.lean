/- The walk of the law on turns. -/
import Derived.Deep.DeepCutAuto
import Derived.BigQuiet
import Derived.Test.YtnpneklmpdhjoaaApp
import Derived.Test.YtnpneklmpdhjoaaSumLaws
namespace Go.Proofs.Ytnpneklmpdhjoaa
set_option linter.unusedVariables false
set_option linter.unusedSimpArgs false
open Go.ChangeShapes Go.WideShapes Go.ChangeAt Go.RowKit

theorem grow_drewN (w : World) (n : Nat) : Grow w (w.drewN n) := ⟨rfl, rfl, rfl, Nat.le_refl _, fun _ _ => rfl⟩
theorem total_set : ∀ (l : List UInt8) (j : Nat) (a b : UInt8) (h : 2 * j + 1 < l.length), total ((l.set (2 * j) a).set (2 * j + 1) b) + 256 * (l[2 * j]).toNat + (l[2 * j + 1]).toNat = total l + 256 * a.toNat + b.toNat
  | [], j, a, b, h => by simp at h
  | [x], j, a, b, h => by simp only [List.length_cons, List.length_nil] at h; omega
  | x :: y :: r, 0, a, b, h => by simp [total]; omega
  | x :: y :: r, j + 1, a, b, h => by
    have := total_set r j a b (by simp only [List.length_cons] at h; omega)
    have e1 : 2 * (j + 1) = 2 * j + 1 + 1 := by omega
    have e2 : 2 * (j + 1) + 1 = 2 * j + 1 + 1 + 1 := by omega
    simp only [e1, List.set_cons_succ, List.getElem_cons_succ, total]
    omega
theorem total_at : ∀ (l : List UInt8) (j : Nat) (h : 2 * j + 1 < l.length), 256 * (l[2 * j]).toNat + (l[2 * j + 1]).toNat ≤ total l
  | [], j, h => by simp at h
  | [x], j, h => by simp only [List.length_cons, List.length_nil] at h; omega
  | x :: y :: r, 0, h => by simp [total]
  | x :: y :: r, j + 1, h => by
    have := total_at r j (by simp only [List.length_cons] at h; omega)
    have e1 : 2 * (j + 1) = 2 * j + 1 + 1 := by omega
    simp only [e1, List.getElem_cons_succ, total]
    omega
theorem turn_new (xs : List UInt8) (j : Nat) (now : Nat) (h : 2 * j + 1 < xs.length) (hn : now < 65536) :
    turn ((65535 - ones xs : Nat) : Int) (256 * ((xs[2 * j]).toNat : Int) + ((xs[2 * j + 1]).toNat : Int)) (now : Int) = 65535 - ones ((xs.set (2 * j) (UInt8.ofNat (now / 256))).set (2 * j + 1) (UInt8.ofNat (now % 256))) ∨
      (turn ((65535 - ones xs : Nat) : Int) (256 * ((xs[2 * j]).toNat : Int) + ((xs[2 * j + 1]).toNat : Int)) (now : Int) = 0 ∧ 65535 - ones ((xs.set (2 * j) (UInt8.ofNat (now / 256))).set (2 * j + 1) (UInt8.ofNat (now % 256))) = 65535) := by
  have h1 := total_set xs j (UInt8.ofNat (now / 256)) (UInt8.ofNat (now % 256)) h
  have h2 := total_at xs j h
  have u1 := (xs[2 * j]).toNat_lt
  have u2 := (xs[2 * j + 1]).toNat_lt
  have l1 := ones_lt xs
  have q1 : (UInt8.ofNat (now / 256)).toNat = now / 256 := by rw [UInt8.toNat_ofNat']; omega
  have q2 : (UInt8.ofNat (now % 256)).toNat = now % 256 := by rw [UInt8.toNat_ofNat']; omega
  rw [q1, q2] at h1
  obtain ⟨a, ha⟩ : ∃ a, a = (xs[2 * j]).toNat := ⟨_, rfl⟩
  obtain ⟨b, hb⟩ : ∃ b, b = (xs[2 * j + 1]).toNat := ⟨_, rfl⟩
  rw [← ha] at h1 h2 u1 ⊢
  rw [← hb] at h1 h2 u2 ⊢
  have e1 : (256 * (a : Int) + (b : Int)) = ((256 * a + b : Nat) : Int) := by omega
  rw [e1]
  unfold turn
  rw [low_nat (show 65535 - ones xs < 65536 by omega), low_nat (show 256 * a + b < 65536 by omega), low_nat hn, show 65535 - (65535 - ones xs) = ones xs from by omega, ones_ocs xs, ones_ocs (List.set _ _ _)]
  have h3 : total ((xs.set (2 * j) (UInt8.ofNat (now / 256))).set (2 * j + 1) (UInt8.ofNat (now % 256))) = total xs - (256 * a + b) + now := by omega
  rw [h3]
  rw [ocs_add _ _ (by omega), ocs_add _ _ hn]
  have e : total xs + (65535 - (256 * a + b)) + now = (total xs - (256 * a + b) + now) + 65535 := by omega
  rw [e]
  generalize total xs - (256 * a + b) + now = u
  by_cases h0 : u = 0
  · subst h0; exact .inr ⟨by decide, by decide⟩
  · refine .inl ?_
    have e2 : ocs (u + 65535) = ocs u := by
      unfold ocs
      rw [if_neg h0, if_neg (by omega)]
      omega
    rw [e2]

set_option maxRecDepth 10000 in
set_option maxHeartbeats 4000000 in
theorem sumTurns_walk (w : World) {v : Value} {l : List UInt8} (h : Byt w v l) (hl : l.length ≤ 140737488351232) (at_ : Int) (ha : 0 ≤ at_ ∧ at_ ≤ 65535) (now : Int) (hn : 0 ≤ now ∧ now ≤ 65535) :
    Calls Try.prog 7 #[v, .int .u16 at_, .int .u16 now] w fun e w' => e = .returned (.bool true) ∧ Grow w w' := by
  obtain ⟨at_, rfl⟩ := Int.eq_ofNat_of_zero_le ha.1
  obtain ⟨now, rfl⟩ := Int.eq_ofNat_of_zero_le hn.1
  obtain ⟨A, c, rfl, hc, hcm⟩ := h.form
  have hb1 := h.grow (Grow.alloc w (.cells #[] 5))
  have f1 : ([] : List UInt8).length + l.length ≤ 140737488355328 := by simp; omega
  go_enter Try.func7, Try.ntmps7
  go_upto_if 20 with (at_builtin; refine wpList_app w _ rfl _ _ rfl _ _ _ _ rfl rfl (Own.empty w) (Grow.alloc w _) hb1 f1 ?_; intro v1 w1 ho1 hg1; clear hb1; rw [List.nil_append] at ho1; obtain ⟨A1, c1, rfl, hc1, hcm1⟩ := ho1.byt.form)
  go_cut [7] (fun s7 wx => ∃ xs : List UInt8, Own wx w.heap.size s7 xs ∧ xs.length % 2 = 0 ∧ xs.length ≤ 140737488351233 ∧ Grow w wx)
  case first =>
    by_cases hodd : l.length % 2 = 1
    · have ho2 := ho1.grow (Grow.alloc w1 (.cells #[.int .u8 7] 5))
      have hg2 := hg1.trans (Grow.alloc w1 (.cells #[.int .u8 7] 5))
      have hb2 := (Own.lit w1 #[.int .u8 7] [7] rfl (by unfold maxLen; simp)).byt
      have f2 : l.length + ([7] : List UInt8).length ≤ 140737488355328 := by simp; omega
      go_wp2_with (at_builtin; refine wpList_app w _ rfl _ _ rfl _ _ _ _ rfl rfl ho2 hg2 hb2 f2 ?_; intro v3 w3 ho3 hg3; clear ho2)
      go_meet
      exact ⟨_, ho3, by simp; omega, by simp; omega, hg3⟩
    · go_wp2_with fail
      go_meet
      exact ⟨l, ho1, by omega, by omega, hg1⟩
  case rest =>
    obtain ⟨zs, hz, hz2, hzl, hgz⟩ := hcut
    obtain ⟨A5, c5, rfl, hc5, hcm5⟩ := hz.byt.form
    go_upto_if 26 with fail
    go_cut [7] (fun s7 wx => ∃ xs : List UInt8, Own wx w.heap.size s7 xs ∧ xs.length % 2 = 0 ∧ 0 < xs.length ∧ xs.length ≤ 140737488351233 ∧ Grow w wx)
    case first =>
      by_cases h0 : zs.length = 0
      · go_wp2_with fail
        go_meet
        exact ⟨[1, 2], (Own.lit _ #[.int .u8 1, .int .u8 2] [1, 2] rfl (by unfold maxLen; simp)).base hgz.size, rfl, by simp, by simp, hgz.trans (Grow.alloc _ _)⟩
      · go_wp2_with fail
        go_meet
        exact ⟨zs, hz, hz2, by omega, hzl, hgz⟩
    case rest =>
      obtain ⟨xs, hx, hx2, hx0, hxl, hgx⟩ := hcut
      obtain ⟨g, c6, rfl, hgb, hgs, hc6, hcm6, hcell⟩ := hx.row hx0
      have hk := Nat.mod_lt at_ (show 0 < xs.length / 2 by omega)
      obtain ⟨j, hj⟩ : ∃ j, j = at_ % (xs.length / 2) := ⟨_, rfl⟩
      have KK : (at_ : Int) % ((xs.length : Int) / 2) = (j : Int) := by rw [hj]; simp
      rw [← hj] at hk
      clear hj
      have hj1 : 2 * j + 1 < xs.length := by omega
      have k1 := (hcell (2 * j) (by omega)).1
      have k2 := (hcell (2 * j + 1) hj1).1
      have u1 := (xs[2 * j]'(by omega)).toNat_lt
      have u2 := (xs[2 * j + 1]'hj1).toNat_lt
      have KJ : (j : Int) * 2 = ((2 * j : Nat) : Int) := by omega
      go_wp2_with fail
      have hxb := hx.byt
      go_quiet (fail)
      go_wp2_with fail
      have hgq : Grow wc (wc.drewN nq) := grow_drewN wc nq
      have l1 := ones_lt xs
      have e1 : (65535 : Int) - (ones xs : Int) = ((65535 - ones xs : Nat) : Int) := by omega
      refine (Check_any _ _ _ (hxb.grow hgq) (by omega)).mono ?_
      rw [e1]
      rintro e w2 ⟨rfl, hg2⟩
      clear e1
      have hgc2 := hgq.trans hg2
      have hb2 := hxb.grow (hgc2.trans (Grow.alloc w2 (.cells #[] 5)))
      have f3 : ([] : List UInt8).length + xs.length ≤ 140737488355328 := by simp; omega
      obtain ⟨cs, hcs⟩ : ∃ cs, cs = 65535 - ones xs := ⟨_, rfl⟩
      rw [← hcs]
      have F4 := Lib.hid hcs
      clear hcs
      go_wp2_with (at_builtin; refine wpList_app w2 _ rfl _ _ rfl _ _ _ _ rfl rfl (Own.empty w2) (Grow.alloc w2 _) hb2 f3 ?_; intro v3 w3 ho3 hg3; clear hb2; rw [List.nil_append] at ho3; obtain ⟨g3, c3, rfl, hgb3, hgs3, hc3, hcm3, hcell3⟩ := ho3.row hx0; obtain ⟨s1, s2⟩ := hcell3 (2 * j) (by omega); obtain ⟨s3, s4⟩ := hcell3 (2 * j + 1) hj1)
      have q1 : (now : Int) / 256 = ((UInt8.ofNat (now / 256)).toNat : Int) := by rw [UInt8.toNat_ofNat']; omega
      have q2 : (now : Int) % 256 = ((UInt8.ofNat (now % 256)).toNat : Int) := by rw [UInt8.toNat_ofNat']; omega
      have ho5 := (ho3.set (2 * j) _ _ q1).set (2 * j + 1) _ _ q2
      have hg5 : Grow w2 ((w3.setCell ⟨g3, 2 * j, none⟩ (.int .u8 ((now : Int) / 256))).setCell ⟨g3, 2 * j + 1, none⟩ (.int .u8 ((now : Int) % 256))) := (hg3.setCell (p := ⟨g3, 2 * j, none⟩) hgb3 _).setCell (p := ⟨g3, 2 * j + 1, none⟩) hgb3 _
      obtain ⟨w5, hw5⟩ : ∃ w5, w5 = (w3.setCell ⟨g3, 2 * j, none⟩ (.int .u8 ((now : Int) / 256))).setCell ⟨g3, 2 * j + 1, none⟩ (.int .u8 ((now : Int) % 256)) := ⟨_, rfl⟩
      rw [← hw5] at ho5 hg5 ⊢
      have T := turn_new xs j now hj1 (by omega)
      rw [← F4.out] at T
      obtain ⟨ys, hys⟩ : ∃ ys, ys = (xs.set (2 * j) (UInt8.ofNat (now / 256))).set (2 * j + 1) (UInt8.ofNat (now % 256)) := ⟨_, rfl⟩
      have hyl : ys.length = xs.length := by rw [hys, List.length_set, List.length_set]
      rw [← hys] at T ho5
      clear hys q1 q2 hw5 s1 s2 s3 s4 hcell3
      refine (Turn_any _ _ _ _).mono ?_
      rintro e w6 ⟨rfl, rfl⟩
      have l5 := ones_lt ys
      have l6 := turn_lt (cs : Int) (256 * ((xs[2 * j]).toNat : Int) + ((xs[2 * j + 1]).toNat : Int)) (now : Int)
      obtain ⟨p, hp⟩ : ∃ p, p = turn (cs : Int) (256 * ((xs[2 * j]).toNat : Int) + ((xs[2 * j + 1]).toNat : Int)) (now : Int) := ⟨_, rfl⟩
      rw [← hp] at T l6 ⊢
      clear hp
      go_wp2_with fail
      refine (Check_any _ _ _ ho5.byt (by omega)).mono ?_
      have e1 : (65535 : Int) - (ones ys : Int) = ((65535 - ones ys : Nat) : Int) := by omega
      rw [e1]
      clear e1
      obtain ⟨q, hq⟩ : ∃ q, q = 65535 - ones ys := ⟨_, rfl⟩
      rw [← hq] at T ⊢
      have l7 : q < 65536 := by omega
      clear hq
      rintro e w7 ⟨rfl, hg7⟩
      have hg07 := (hgx.trans (hgc2.trans hg5)).trans hg7
      rcases T with rfl | ⟨rfl, rfl⟩
      · have hpp : ((p : Int) == (p : Int)) = true := beq_self_eq_true _
        go_wp2_with fail
        refine (live_any _).mono ?_
        rintro e w10 ⟨rfl, hg10⟩
        go_wp2_with fail
        go_ret
        exact ⟨rfl, hg07.trans hg10⟩
      · go_wp2_with fail
        refine (live_any _).mono ?_
        rintro e w10 ⟨rfl, hg10⟩
        go_wp2_with fail
        go_ret
        exact ⟨rfl, hg07.trans hg10⟩
end Go.Proofs.Ytnpneklmpdhjoaa
