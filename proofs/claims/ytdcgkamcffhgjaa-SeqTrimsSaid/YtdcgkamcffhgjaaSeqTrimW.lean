/- Trim: the walk. -/
import Derived.Test.YtdcgkamcffhgjaaSeqTrim
namespace Go.Proofs.Ytdcgkamcffhgjaa
set_option linter.unusedVariables false
set_option linter.unusedSimpArgs false
open Go.ChangeShapes Go.WideShapes Go.ChangeAt Go.RowKit

/-- Four boxes hold these numbers. -/
def Held (w : World) (B : Nat) (s ln f m : Int) : Prop :=
  w.cell? ⟨B, 0, none⟩ = some (.int .u32 s) ∧ w.cell? ⟨B + 1, 0, none⟩ = some (.int .i64 ln) ∧ w.cell? ⟨B + 1 + 1, 0, none⟩ = some (.int .u32 f) ∧ w.cell? ⟨B + 1 + 1 + 1, 0, none⟩ = some (.int .i64 m)

theorem leaves_more {P : Program} {f : FuncId} {args : Array Value} {w : World} {a n : Nat} {v : Value}
    (h : Calls P f args (w.drewN (a + n)) fun e w' => e = .returned v ∧ w.drewN (a + n) = w') :
    Calls P f args (w.drewN (a + n)) fun e w'' => e = .returned v ∧ ∃ m, w'' = w.drewN (a + m) :=
  h.mono fun _ _ ⟨he, hm⟩ => ⟨he, n, hm.symm⟩

theorem Grow.drewN (w : World) (n : Nat) : Grow w (w.drewN n) := (Below.refl _ _).trans ⟨rfl, rfl, rfl, Nat.le_refl _, fun _ _ => rfl⟩

theorem boxes_held (w : World) (s ln f m : Int) :
    Held ((((w.alloc (.cells #[.int .u32 s] 22)).alloc (.cells #[.int .i64 ln] 3)).alloc (.cells #[.int .u32 f] 22)).alloc (.cells #[.int .i64 m] 3)).drew w.heap.size s ln f m ∧
    Grow w ((((w.alloc (.cells #[.int .u32 s] 22)).alloc (.cells #[.int .i64 ln] 3)).alloc (.cells #[.int .u32 f] 22)).alloc (.cells #[.int .i64 m] 3)).drew := by
  refine ⟨⟨?_, ?_, ?_, ?_⟩, ((((Grow.alloc _ _).trans (Grow.alloc _ _)).trans (Grow.alloc _ _)).trans (Grow.alloc _ _)).trans (Grow.drew _)⟩
  · simp [go_sem]
  · simp [go_sem]
  · simp [go_sem]
  · simp [go_sem]

theorem wanted_at {wx : World} {B : Nat} {s ln f m : Int} (h : Held wx B s ln f m) (k : Int) (hm : m ≤ 9223372036854775807) (j : Nat) :
    Calls Try.prog 23 #[.int .i64 k, .pointer (some ⟨B + 1, 0, none⟩), .pointer (some ⟨B, 0, none⟩), .pointer (some ⟨B + 1 + 1, 0, none⟩), .pointer (some ⟨B + 1 + 1 + 1, 0, none⟩)] (wx.drewN j)
      fun e w' => e = .returned (.bool (wish s ln f m k)) ∧ ∃ n, w' = wx.drewN n := by
  obtain ⟨c0, c1, c2, c3⟩ := h
  refine (wanted_any B (B + 1) (B + 1 + 1) (B + 1 + 1 + 1) s ln f m k hm (wx.drewN j) ?_ ?_ ?_ ?_).mono ?_
  · simpa using c1
  · simpa using c0
  · simpa using c2
  · simpa using c3
  · rintro e w' ⟨rfl, n, rfl⟩
    exact ⟨rfl, j + n, by rw [World.drewN_drewN]⟩

set_option maxHeartbeats 4000000 in
theorem Trim_any (s n f m : Int) (hs : 0 ≤ s ∧ s ≤ 4294967295) (hf : 0 ≤ f ∧ f ≤ 4294967295) (w : World) :
    Calls Try.prog 19 #[.int .u32 s, .int .i64 n, .int .u32 f, .int .i64 m] w
      fun e w' => (∃ x y : Int, e = .returned (.tuple #[.int .i64 x, .int .i64 y]) ∧ Part s (clip n) f (clip m) x y) ∧ Grow w w' := by
  go_enter Try.func19, Try.ntmps19
  go_upto_region 1 with fail
  go_cut [13, 14, 15, 16] (fun a b c d wx => Held wx w.heap.size s (clip n) f (clip m) ∧ Grow w wx)
  case first =>
    go_region_with (go_at_call 22; refine (trimmed_any _ _).mono ?_; rintro e w' ⟨rfl, rfl⟩)
    all_goals
      go_wp2_with fail
      go_meet
      exact boxes_held w s (clip n) f (clip m)
  case rest =>
    obtain ⟨hh, hg⟩ := hcut
    obtain ⟨c0, c1, c2, c3⟩ := id hh
    have b1 := clip_in n
    have b2 := clip_in m
    have b3 : clip m ≤ 9223372036854775807 := by omega
    obtain ⟨ln, e1⟩ : ∃ ln, ln = clip n := ⟨_, rfl⟩
    obtain ⟨cm, e2⟩ : ∃ cm, cm = clip m := ⟨_, rfl⟩
    rw [← e1] at hh b1 c1
    rw [← e2] at hh b2 b3 c3
    have E1 := Lib.hid e1
    have E2 := Lib.hid e2
    clear e1 e2
    have q1 : IntKind.i64.wrap (cm - 1) = cm - 1 := IntWalk.i64_in _ (by omega)
    have d1 := dist_in f s
    have d2 := dist_in (fwd f (cm - 1)) s
    have W := fun k j => wanted_at hh k b3 j
    go_wp2_with fail
    go_quiet (fail)
    go_wp2_with fail
    refine (W _ _).mono ?_
    cases hw0 : wish s ln f cm 0
    · rintro e w' ⟨rfl, j1, rfl⟩
      go_wp2_with fail
      refine (SDiff_any _ _ _).mono ?_
      rintro e w' ⟨rfl, rfl⟩
      go_wp2_with fail
      refine (W _ _).mono ?_
      cases hw1 : wish s ln f cm (dist f s)
      · rintro e w' ⟨rfl, j2, rfl⟩
        go_wp2_with fail
        go_ret2
        exact ⟨⟨_, _, rfl, by rw [← E1.out, ← E2.out]; exact part_c b1 b2 hw0 hw1⟩, hg.trans (Grow.drewN _ _)⟩
      · rintro e w' ⟨rfl, j2, rfl⟩
        go_wp2_with fail
        refine (W _ _).mono ?_
        cases hw2 : wish s ln f cm (ln - 1)
        · rintro e w' ⟨rfl, j3, rfl⟩
          go_wp2_with fail
          go_quiet ((first | (go_at_call 12; exact leaves_more (SAdd_any _ _ _)) | (go_at_call 9; exact leaves_more (SDiff_any _ _ _))))
          go_wp2_with fail
          go_ret2
          exact ⟨⟨_, _, rfl, by rw [← E1.out, ← E2.out]; exact part_e b1 b2 hw0 hw1 hw2⟩, hg.trans (Grow.drewN _ _)⟩
        · rintro e w' ⟨rfl, j3, rfl⟩
          go_wp2_with fail
          go_ret2
          exact ⟨⟨_, _, rfl, by rw [← E1.out, ← E2.out]; exact part_d b1 b2 hw0 hw1 hw2⟩, hg.trans (Grow.drewN _ _)⟩
    · rintro e w' ⟨rfl, j1, rfl⟩
      go_wp2_with fail
      refine (W _ _).mono ?_
      rw [hw0]
      rintro e w' ⟨rfl, j2, rfl⟩
      go_wp2_with fail
      refine (W _ _).mono ?_
      cases hw2 : wish s ln f cm (ln - 1)
      · rintro e w' ⟨rfl, j3, rfl⟩
        go_wp2_with fail
        go_quiet ((first | (go_at_call 12; exact leaves_more (SAdd_any _ _ _)) | (go_at_call 9; exact leaves_more (SDiff_any _ _ _))))
        go_wp2_with fail
        go_ret2
        exact ⟨⟨_, _, rfl, by rw [← E1.out, ← E2.out]; exact part_b b1 b2 hw0 hw2⟩, hg.trans (Grow.drewN _ _)⟩
      · rintro e w' ⟨rfl, j3, rfl⟩
        go_wp2_with fail
        go_ret2
        exact ⟨⟨_, _, rfl, by rw [← E1.out, ← E2.out]; exact part_a b1 b2 hw0 hw2⟩, hg.trans (Grow.drewN _ _)⟩
end Go.Proofs.Ytdcgkamcffhgjaa
