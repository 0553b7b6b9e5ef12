/- Contracts: Push refused; Drop. -/
import Derived.Test.YtdgbieapgmjjhaaAgAgd
namespace Go.Proofs.Ytdgbieapgmjjhaa
set_option linter.unusedVariables false
set_option linter.unusedSimpArgs false
open Go.ChangeShapes Go.WideShapes Go.ChangeAt Go.RowKit

theorem PlE.some {f : Int → Option Int} {E : List En} (h : PlE f E) {k : Nat} (hk : k < E.length) : f (pt E k).id = some (k : Int) := (h _ _).2 ⟨k, hk, rfl, rfl⟩
set_option maxRecDepth 100000 in
set_option maxHeartbeats 4000000 in
theorem aPush_same (w : World) (base ab mb : Nat) (v : Value) (E : List En) (mo pu : Int) (h : Qu w base ab mb v E mo pu) (a b r : Int) (k : Nat) (hk : k < E.length) (hx : (pt E k).id = a) :
    Calls Try.prog 9 #[.pointer (some ⟨ab, 0, none⟩), .agg #[.int .i64 a, .int .i64 b, .int .i64 r]] w fun e w' => e = .returned (.int .i64 140) ∧ Grow w w' := by
  obtain ⟨W1, hW1⟩ : ∃ W1, W1 = w.alloc (.cells #[.int .i64 a, .int .i64 b, .int .i64 r] 31) := ⟨_, rfl⟩
  obtain ⟨g1, b0, b1, b2⟩ := box_item w a b r hW1
  have q1 := h.grow g1
  obtain ⟨wD, hwD⟩ : ∃ wD, wD = W1.drew := ⟨_, rfl⟩
  have qD : Qu wD base ab mb v E mo pu := by rw [hwD]; exact q1.grow (Grow.drew _)
  obtain ⟨f, hff, hfE⟩ := qD.map
  have hlk := hff.look_some (hx ▸ hfE.some hk)
  have d3 := qD.cell.2.1
  have d0 : wD.cell? ⟨w.heap.size, 0, none⟩ = some (.int .i64 a) := by rw [hwD]; exact b0
  have HG : Hid (Grow w wD) := by
    rw [hwD]
    exact Grow.trans g1 (Grow.drew _)
  clear h q1 qD hff hfE hx hk b0 b1 b2 g1
  go_enter Try.func9, Try.ntmps9
  go_upto_region 3 with fail
  rw [← hW1]
  have HW1 := Lib.hid hW1
  clear hW1
  refine wp_region_still_lit (by kernel_rfl) (by kernel_rfl) ?_
  change wpStill _ _ W1.drew (fun a' => Exit.then _ _ Exit.normal a' W1.drew) _ _
  rw [← hwD]
  have HD := Lib.hid hwD
  clear hwD
  repeat still_step
  refine wpStill_nil ?_
  clear d3 d0 hlk
  go_wp2_with fail
  go_ret
  exact ⟨rfl, HG.out⟩
set_option maxRecDepth 100000 in
set_option maxHeartbeats 4000000 in
theorem aPush_full (w : World) (base ab mb : Nat) (v : Value) (E : List En) (mo pu : Int) (h : Qu w base ab mb v E mo pu) (a b r : Int) (hx : ∀ m, m < E.length → (pt E m).id ≠ a) (hf : (E.length : Int) = mo) :
    Calls Try.prog 9 #[.pointer (some ⟨ab, 0, none⟩), .agg #[.int .i64 a, .int .i64 b, .int .i64 r]] w fun e w' => e = .returned (.int .i64 5) ∧ Grow w w' := by
  obtain ⟨W1, hW1⟩ : ∃ W1, W1 = w.alloc (.cells #[.int .i64 a, .int .i64 b, .int .i64 r] 31) := ⟨_, rfl⟩
  obtain ⟨g1, b0, b1, b2⟩ := box_item w a b r hW1
  have q1 := h.grow g1
  obtain ⟨wD, hwD⟩ : ∃ wD, wD = W1.drew := ⟨_, rfl⟩
  obtain ⟨wE, hwE⟩ : ∃ wE, wE = wD.drew := ⟨_, rfl⟩
  have qD : Qu wD base ab mb v E mo pu := by rw [hwD]; exact q1.grow (Grow.drew _)
  have qE : Qu wE base ab mb v E mo pu := by rw [hwE]; exact qD.grow (Grow.drew _)
  obtain ⟨f, hff, hfE⟩ := qD.map
  have hlk := hff.look_none (hfE.none hx)
  have c0 := aLen_any wE base ab mb v E mo pu qE
  rw [hf] at c0
  have d3 := qD.cell.2.1
  have d0 : wD.cell? ⟨w.heap.size, 0, none⟩ = some (.int .i64 a) := by rw [hwD]; exact b0
  have e0 := qE.cell.2.2.1
  have HG : Hid (Grow w wE) := by
    rw [hwE, hwD]
    exact Grow.trans g1 (Grow.trans (Grow.drew _) (Grow.drew _))
  clear h q1 qD qE hff hfE hx hf b0 b1 b2 g1
  go_enter Try.func9, Try.ntmps9
  go_upto_region 3 with fail
  rw [← hW1]
  have HW1 := Lib.hid hW1
  clear hW1
  refine wp_region_still_lit (by kernel_rfl) (by kernel_rfl) ?_
  change wpStill _ _ W1.drew (fun a' => Exit.then _ _ Exit.normal a' W1.drew) _ _
  rw [← hwD]
  have HD := Lib.hid hwD
  clear hwD
  repeat still_step
  refine wpStill_nil ?_
  clear d3 d0 hlk
  go_upto_region 6 with fail
  refine wp_region_still_lit (by kernel_rfl) (by kernel_rfl) ?_
  change wpStill _ _ wD.drew (fun a' => Exit.then _ _ Exit.normal a' wD.drew) _ _
  rw [← hwE]
  have HE := Lib.hid hwE
  clear hwE
  still_step
  still_call c0
  repeat still_step
  refine wpStill_nil ?_
  clear c0 e0
  go_wp2_with fail
  go_ret
  exact ⟨rfl, HG.out⟩
set_option maxHeartbeats 1000000 in
theorem aDrop_none (w : World) (base ab mb : Nat) (v : Value) (E : List En) (mo pu : Int) (h : Qu w base ab mb v E mo pu) (a : Int) (hx : ∀ m, m < E.length → (pt E m).id ≠ a) :
    Calls Try.prog 13 #[.pointer (some ⟨ab, 0, none⟩), .int .i64 a] w fun e w' => e = .returned (.bool false) ∧ w' = w := by
  obtain ⟨f, hff, hfE⟩ := h.map
  have hlk := hff.look_none (hfE.none hx)
  have d3 := h.cell.2.1
  clear h hff hfE hx
  go_enter Try.func13, Try.ntmps13
  go_wp2_with fail
  go_ret
  exact ⟨rfl, rfl⟩
set_option maxHeartbeats 2000000 in
theorem aDrop_some (w : World) (base ab mb : Nat) (v : Value) (E : List En) (mo pu : Int) (h : Qu w base ab mb v E mo pu) (hp : Hp E E.length) (hn : E.length ≤ 80000) (a : Int) (k : Nat) (hk : k < E.length) (hx : (pt E k).id = a) :
    Calls Try.prog 13 #[.pointer (some ⟨ab, 0, none⟩), .int .i64 a] w fun e w' => e = .returned (.bool true) ∧ ∃ v' E', Qu w' base ab mb v' E' mo pu ∧ (pt E k :: E').Perm E ∧ Hp E' E'.length ∧ Only base Zq w w' := by
  obtain ⟨f, hff, hfE⟩ := h.map
  have hlk := hff.look_some (hx ▸ hfE.some hk)
  have d3 := h.cell.2.1
  obtain ⟨m, hm⟩ : ∃ m, E.length = m + 1 := ⟨E.length - 1, by omega⟩
  have c0 := hrem_any w base ab mb v E mo pu h k m hm (by omega) (by omega) (by rw [← hm]; exact hp)
  unfold qI at c0
  clear h hp hn hff hfE hx hk hm
  go_enter Try.func13, Try.ntmps13
  go_wp2_with fail
  refine c0.mono ?_
  rintro e w2 ⟨rfl, v2, E2, h2, p2, q2, o2⟩
  have H2 : Hid (Qu w2 base ab mb v2 E2 mo pu ∧ (pt E k :: E2).Perm E ∧ Hp E2 E2.length ∧ Only base Zq w w2) := ⟨h2, p2, q2, o2⟩
  clear c0 h2 p2 q2 o2 hlk d3
  go_wp2_with fail
  go_ret
  exact ⟨rfl, v2, E2, H2.out⟩
end Go.Proofs.Ytdgbieapgmjjhaa
