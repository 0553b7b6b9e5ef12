/- Contracts: State, Free, Out of the program's pool; all calls of a nil pool. -/
import Derived.Test.YtkambcjinidomaaBpAdd
namespace Go.Proofs.Ytkambcjinidomaa
set_option linter.unusedVariables false
set_option linter.unusedSimpArgs false
open Go.ChangeShapes Go.WideShapes Go.ChangeAt Go.RowKit

theorem nil_eqI (w : World) : (Go.binOp .eql 50 (.slice none 0 0) (.slice none 0 0)).run Try.prog w = .ok (.bool true) w := by kernel_rfl
theorem nil_neI (w : World) (a : Addr) (n c : Nat) : (Go.binOp .eql 50 (.slice (some a) n c) (.slice none 0 0)).run Try.prog w = .ok (.bool false) w := by kernel_rfl
set_option maxRecDepth 100000 in
set_option maxHeartbeats 1000000 in
theorem cloneI_any (w : World) (base n : Nat) (v : Value) (xs : List Value) (h : OffR w base 3 1 v n xs) (h1 : ∀ y ∈ xs, y.oneCell' = true) (hl : n ≤ 100000) :
    Calls Try.prog 28 #[v] w fun e w' => ∃ v', e = .returned v' ∧ w'.ownsRow w.heap.size 3 1 v' n xs ∧ Grow w w' := by
  rcases id h.2 with ⟨hv, h0⟩ | ⟨g, off, c, cur, hv, _⟩
  · subst hv
    subst h0
    have e0 : xs = [] := List.eq_nil_of_length_eq_zero (by simpa using h.1)
    subst e0
    clear h h1 hl
    have hq := nil_eqI
    go_enter Try.func28, Try.ntmps28
    go_wp2_with fail
    go_ret
    exact ⟨_, rfl, ⟨rfl, .inl ⟨rfl, rfl⟩⟩, Grow.refl _⟩
  · have hr := Lib.hid h.rd
    have H1 := Lib.hid h1
    subst hv
    clear h h1
    have hq := nil_neI
    go_enter Try.func28, Try.ntmps28
    go_wp2_with (at_builtin; refine wpList_appK _ rfl (.tmp 5) (.tmp 6) 50 rfl 3 _ 1 8 Try.underlying50 infoBi rfl (by decide) w.heap.size _ _ 0 n [] _ rfl rfl (World.ownsRow_lit w #[] 0 (Nat.le_refl _) (Nat.zero_le _) rfl) (hr.out.grow (Grow.alloc _ _)) H1.out (by omega) (by unfold maxLen; omega) (by simp) ?_; intro v1 w1 ho1 hg1 hat1; rw [List.nil_append, Nat.zero_add] at ho1; have hgw : Grow w w1 := (Grow.alloc _ _).grown hg1 (by simp) (fun k hk => by cases hk; exact Nat.le_refl _); have H1 := Lib.hid (And.intro ho1 hgw); clear ho1 hg1 hat1 hgw)
    go_ret
    exact ⟨_, rfl, H1.out⟩
section
variable {w : World} {base pb : Nat} {gs : Array Value} {m : Nat → Nat} {v : Nat → Value} {p : Pls}
set_option maxHeartbeats 1000000 in
theorem stateP (h : PpS w base pb gs m v p) (hp : POk p) (g x : Int) : Calls Try.prog 17 #[.pointer (some ⟨pb, 0, none⟩), .int .i64 g, .int .i64 x] w fun e w' => e = .returned (.int .i64 (stS p g x)) ∧ Grow w w' := by
  by_cases hg : Bad g
  · have HE : Hid (stS p g x = 0) := if_pos hg
    have c0 := pfind_bad w pb g hg
    clear h hg hp
    go_enter Try.func17, Try.ntmps17
    go_wp2_with fail
    refine c0.mono ?_
    rintro e w' ⟨rfl, hw⟩
    subst w'
    go_wp2_with fail
    go_ret
    exact ⟨by rw [HE.out]; rfl, Grow.refl _⟩
  · obtain ⟨k, rfl, hk, hk2⟩ := bad_nat hg
    have c0 := pfind_ok w pb k hk
    have l0 := h.cellm hk
    have f1 := fun a b => bfield1 a b w
    have hst : stS p k x = if Hasb (p k).fr x then 1 else if Hasb (p k).out x then 2 else 0 := by
      unfold stS
      rw [if_neg hg, hk2]
    have hl : ∃ z, (Instr.lookup 59 (.map (some (m k))) (.int .i64 x) false).run Try.prog w = .ok (.agg #[.int .i64 z, .int .i64 (stS p k x)]) w := by
      have hm := (h.map k hk).2
      rw [hst]
      by_cases q1 : Hasb (p k).fr x
      · rw [if_pos q1]
        obtain ⟨b, hb, rfl⟩ := q1
        exact ⟨_, hm.look_some (ents_fr hb)⟩
      · rw [if_neg q1]
        by_cases q2 : Hasb (p k).out x
        · rw [if_pos q2]
          obtain ⟨b, hb, rfl⟩ := q2
          exact ⟨_, hm.look_some (ents_out hb)⟩
        · rw [if_neg q2]
          exact ⟨_, hm.look_none (ents_none q1 q2)⟩
    obtain ⟨z, hl⟩ := hl
    generalize stS p k x = r at *
    clear h hg hp hk hst
    go_enter Try.func17, Try.ntmps17
    go_wp2_with fail
    refine c0.mono ?_
    rintro e w' ⟨rfl, hw⟩
    subst w'
    go_wp2_with fail
    go_ret
    exact ⟨rfl, Grow.refl _⟩
set_option maxHeartbeats 1000000 in
theorem freeP (h : PpS w base pb gs m v p) (hp : POk p) (g : Int) : Calls Try.prog 19 #[.pointer (some ⟨pb, 0, none⟩), .int .i64 g] w fun e w' => ∃ v, e = .returned v ∧ Nrw w' w.heap.size v (frL p g) ∧ Grow w w' := by
  by_cases hg : Bad g
  · have HE : Hid (frL p g = []) := if_pos hg
    have c0 := pfind_bad w pb g hg
    clear h hg hp
    go_enter Try.func19, Try.ntmps19
    go_wp2_with fail
    refine c0.mono ?_
    rintro e w' ⟨rfl, hw⟩
    subst w'
    go_wp2_with fail
    go_ret
    exact ⟨_, rfl, by rw [HE.out]; exact World.ownsRow_nil _ _ _ _, Grow.refl _⟩
  · obtain ⟨k, rfl, hk, hk2⟩ := bad_nat hg
    have c0 := pfind_ok w pb k hk
    have l0 := h.cellv hk
    have HE : Hid (frL p k = (p k).fr.map Bf.id) := (if_neg hg).trans (by rw [hk2])
    have hlen := (hp k hk).len
    have c1 := cloneI_any w base _ _ _ (h.row k hk) (iv_one _) (by omega)
    obtain ⟨A, c, hv, _⟩ := (h.row k hk).form
    rw [hv] at l0 c1
    generalize (p k).fr.length = n at l0 c1
    clear h hg hp hk hlen hv
    go_enter Try.func19, Try.ntmps19
    go_wp2_with fail
    refine c0.mono ?_
    rintro e w' ⟨rfl, hw⟩
    subst w'
    go_wp2_with fail
    refine c1.mono ?_
    rintro e w1 ⟨v1, rfl, r1, g1⟩
    obtain ⟨A1, cp1, hv1, _⟩ := RdK.form (RdK.of_own r1)
    subst hv1
    have H1 := Lib.hid (And.intro r1 g1)
    clear r1 g1 c1 l0
    go_wp2_with fail
    go_ret
    refine ⟨_, rfl, ?_, H1.out.2⟩
    have r1 := H1.out.1
    have e1 : n = (p k).fr.length := by have := r1.1; simpa using this.symm
    unfold Nrw
    rw [HE.out, List.map_map, List.length_map, ← e1]
    exact r1
set_option maxHeartbeats 1000000 in
theorem outP (h : PpS w base pb gs m v p) (hp : POk p) (g : Int) : Calls Try.prog 20 #[.pointer (some ⟨pb, 0, none⟩), .int .i64 g] w fun e w' => e = .returned (.int .i64 (ouN p g : Int)) ∧ Grow w w' := by
  by_cases hg : Bad g
  · have HE : Hid (ouN p g = 0) := if_pos hg
    have c0 := pfind_bad w pb g hg
    clear h hg hp
    go_enter Try.func20, Try.ntmps20
    go_wp2_with fail
    refine c0.mono ?_
    rintro e w' ⟨rfl, hw⟩
    subst w'
    go_wp2_with fail
    go_ret
    exact ⟨by rw [HE.out]; rfl, Grow.refl _⟩
  · obtain ⟨k, rfl, hk, hk2⟩ := bad_nat hg
    have c0 := pfind_ok w pb k hk
    have HE : Hid (ouN p k = (p k).out.length) := (if_neg hg).trans (by rw [hk2])
    have hlen := (hp k hk).len
    obtain ⟨wD, hwD⟩ : ∃ wD, wD = w.drew := ⟨_, rfl⟩
    have hD : PpS wD base pb gs m v p := by rw [hwD]; exact h.grow (Grow.drew _)
    have GD : Hid (Grow w wD) := by rw [hwD]; exact Grow.drew _
    have l0 := hD.cellv hk
    have l1 := hD.cellm hk
    have l2 := (hD.map k hk).2.len
    rw [ents_len] at l2
    obtain ⟨A, c, hv, _⟩ := (hD.row k hk).form
    rw [hv] at l0
    obtain ⟨n, hn⟩ : ∃ n, n = (p k).fr.length := ⟨_, rfl⟩
    obtain ⟨n2, hn2⟩ : ∃ n2, n2 = (p k).out.length := ⟨_, rfl⟩
    rw [← hn] at l0
    rw [← hn, ← hn2] at l2
    rw [← hn2] at HE
    obtain ⟨t, ht⟩ : ∃ t, t = n + n2 := ⟨_, rfl⟩
    rw [← ht] at l2
    have w1 : IntKind.i64.wrap ((t : Int) - (n : Int)) = (n2 : Int) := by rw [IntWalk.i64_in _ (by omega)]; omega
    clear h hg hp hk hlen hv hD hn hn2 ht
    go_enter Try.func20, Try.ntmps20
    go_wp2_with fail
    refine c0.mono ?_
    rintro e w' ⟨rfl, hw⟩
    subst w'
    go_upto_region 4 with fail
    refine wp_region_still_lit (by kernel_rfl) (by kernel_rfl) ?_
    change wpStill _ _ w.drew (fun a' => Exit.then _ _ Exit.normal a' w.drew) _ _
    rw [← hwD]
    have HD := Lib.hid hwD
    clear hwD
    repeat still_step
    refine wpStill_nil ?_
    go_wp2_with fail
    go_ret
    exact ⟨by rw [HE.out]; rfl, GD.out⟩
end
set_option maxHeartbeats 1000000 in
theorem stateN (w : World) (g x : Int) : Calls Try.prog 17 #[.pointer none, .int .i64 g, .int .i64 x] w fun e w' => e = .returned (.int .i64 0) ∧ Grow w w' := by
  have c0 := pfind_nil w g
  go_enter Try.func17, Try.ntmps17
  go_wp2_with fail
  refine c0.mono ?_
  rintro e w' ⟨rfl, hw⟩
  subst w'
  go_wp2_with fail
  go_ret
  exact ⟨rfl, Grow.refl _⟩
theorem freeN (w : World) (g : Int) : Calls Try.prog 19 #[.pointer none, .int .i64 g] w fun e w' => e = .returned (.slice none 0 0) ∧ Grow w w' := by
  have c0 := pfind_nil w g
  go_enter Try.func19, Try.ntmps19
  go_wp2_with fail
  refine c0.mono ?_
  rintro e w' ⟨rfl, hw⟩
  subst w'
  go_wp2_with fail
  go_ret
  exact ⟨rfl, Grow.refl _⟩
theorem outN (w : World) (g : Int) : Calls Try.prog 20 #[.pointer none, .int .i64 g] w fun e w' => e = .returned (.int .i64 0) ∧ Grow w w' := by
  have c0 := pfind_nil w g
  go_enter Try.func20, Try.ntmps20
  go_wp2_with fail
  refine c0.mono ?_
  rintro e w' ⟨rfl, hw⟩
  subst w'
  go_wp2_with fail
  go_ret
  exact ⟨rfl, Grow.refl _⟩
theorem provN (w : World) (g a n s : Int) : Calls Try.prog 9 #[.pointer none, .int .i64 g, .int .i64 a, .int .i64 n, .int .i64 s] w fun e w' => e = .returned (.int .i64 7) ∧ Grow w w' := by
  have c0 := pfind_nil w g
  go_enter Try.func9, Try.ntmps9
  go_wp2_with fail
  refine c0.mono ?_
  rintro e w' ⟨rfl, hw⟩
  subst w'
  go_wp2_with fail
  go_ret
  exact ⟨rfl, Grow.refl _⟩
theorem giveN (w : World) (g x : Int) : Calls Try.prog 13 #[.pointer none, .int .i64 g, .int .i64 x] w fun e w' => e = .returned (.int .i64 7) ∧ Grow w w' := by
  have c0 := pfind_nil w g
  go_enter Try.func13, Try.ntmps13
  go_wp2_with fail
  refine c0.mono ?_
  rintro e w' ⟨rfl, hw⟩
  subst w'
  go_wp2_with fail
  go_ret
  exact ⟨rfl, Grow.refl _⟩
theorem remN (w : World) (g n : Int) : Calls Try.prog 15 #[.pointer none, .int .i64 g, .int .i64 n] w fun e w' => e = .returned (.tuple #[.int .i64 0, .int .i64 7]) ∧ Grow w w' := by
  have c0 := pfind_nil w g
  go_enter Try.func15, Try.ntmps15
  go_wp2_with fail
  refine c0.mono ?_
  rintro e w' ⟨rfl, hw⟩
  subst w'
  go_wp2_with fail
  go_ret2
  exact ⟨rfl, Grow.refl _⟩
theorem takeN (w : World) (g : Int) : Calls Try.prog 11 #[.pointer none, .int .i64 g] w fun e w' => e = .returned (.tuple #[.int .i64 0, .int .i64 0, .int .i64 7]) ∧ Grow w w' := by
  have c0 := pfind_nil w g
  go_enter Try.func11, Try.ntmps11
  go_wp2_with fail
  refine c0.mono ?_
  rintro e w' ⟨rfl, hw⟩
  subst w'
  go_wp2_with fail
  go_ret3
  exact ⟨rfl, Grow.refl _⟩
end Go.Proofs.Ytkambcjinidomaa
