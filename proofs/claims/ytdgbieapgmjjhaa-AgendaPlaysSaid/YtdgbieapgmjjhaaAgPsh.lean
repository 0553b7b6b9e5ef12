/- Contract: Push of an agenda. -/
import Derived.Test.YtdgbieapgmjjhaaAgPop
namespace Go.Proofs.Ytdgbieapgmjjhaa
set_option linter.unusedVariables false
set_option linter.unusedSimpArgs false
open Go.ChangeShapes Go.WideShapes Go.ChangeAt Go.RowKit

theorem Qu.setPu {w : World} {base ab mb : Nat} {v : Value} {E : List En} {mo pu : Int} (h : Qu w base ab mb v E mo pu) (z : Int) : w.frozen? ⟨ab, 1, none⟩ = false ∧ Qu (w.setCell ⟨ab, 1, none⟩ (.int .i64 z)) base ab mb v E mo z ∧ Only base Zq w (w.setCell ⟨ab, 1, none⟩ (.int .i64 z)) := by
  obtain ⟨f, hf, hfE⟩ := h.map
  have habm : mb ≠ ab := fun e => by
    obtain ⟨L, ⟨es, ck, hm, _⟩, _⟩ := hf
    have := h.blk
    rw [← e, hm] at this
    cases this
  refine ⟨frozen_of h.blk, ⟨heap_setCell_own h.blk _, ownsRow_other h.row fun b cs _ hh => Below.heap_setCell _ _ _ _ fun e => ?_, ⟨f, hf.keep (Below.heap_setCell _ _ _ _ habm), hfE⟩, h.nod, h.low⟩, Only.set h.blk h.low.1 (.inl rfl) _⟩
  rw [e, h.blk] at hh
  injection hh with hh
  injection hh with _ hh
  exact absurd hh (by decide)
theorem PlE.none {f : Int → Option Int} {E : List En} (h : PlE f E) {x : Int} (hx : ∀ m, m < E.length → (pt E m).id ≠ x) : f x = none := by
  cases e : f x with
  | none => rfl
  | some i =>
    obtain ⟨k, hk, h1, _⟩ := (h x i).1 e
    exact absurd h1 (hx k hk)
set_option maxRecDepth 100000 in
set_option maxHeartbeats 4000000 in
theorem aPush_ok (w : World) (base ab mb : Nat) (v : Value) (E : List En) (mo pu : Int) (h : Qu w base ab mb v E mo pu) (hp : Hp E E.length) (hn : E.length ≤ 80000) (hpu : 0 ≤ pu ∧ pu ≤ 1000000000) (a b r : Int) (hx : ∀ m, m < E.length → (pt E m).id ≠ a) (hf : (E.length : Int) ≠ mo) :
    Calls Try.prog 9 #[.pointer (some ⟨ab, 0, none⟩), .agg #[.int .i64 a, .int .i64 b, .int .i64 r]] w fun e w' => e = .returned (.int .i64 0) ∧ ∃ v' E', Qu w' base ab mb v' E' mo (pu + 1) ∧ E'.Perm (⟨a, b, r, pu⟩ :: E) ∧ Hp E' E'.length ∧ Only base Zq w w' := by
  obtain ⟨W1, hW1⟩ : ∃ W1, W1 = w.alloc (.cells #[.int .i64 a, .int .i64 b, .int .i64 r] 31) := ⟨_, rfl⟩
  obtain ⟨g1, b0, b1, b2⟩ := box_item w a b r hW1
  have q1 := h.grow g1
  obtain ⟨wD, hwD⟩ : ∃ wD, wD = W1.drew := ⟨_, rfl⟩
  obtain ⟨wE, hwE⟩ : ∃ wE, wE = wD.drew := ⟨_, rfl⟩
  obtain ⟨wG, hwG⟩ : ∃ wG, wG = wE.drew := ⟨_, rfl⟩
  have qD : Qu wD base ab mb v E mo pu := by rw [hwD]; exact q1.grow (Grow.drew _)
  have qE : Qu wE base ab mb v E mo pu := by rw [hwE]; exact qD.grow (Grow.drew _)
  have qG : Qu wG base ab mb v E mo pu := by rw [hwG]; exact qE.grow (Grow.drew _)
  obtain ⟨f, hff, hfE⟩ := qD.map
  have hlk := hff.look_none (hfE.none hx)
  have c0 := aLen_any wE base ab mb v E mo pu qE
  have c1 := hpush_any wG base ab mb v E mo pu qG ⟨a, b, r, pu⟩ hx hn hp
  have d3 := qD.cell.2.1
  have d0 : wD.cell? ⟨w.heap.size, 0, none⟩ = some (.int .i64 a) := by rw [hwD]; exact b0
  have e0 := qE.cell.2.2.1
  have m1 := qG.cell.2.2.2
  have k0 : wG.cell? ⟨w.heap.size, 0, none⟩ = some (.int .i64 a) := by rw [hwG, hwE, hwD]; exact b0
  have k1 : wG.cell? ⟨w.heap.size, 1, none⟩ = some (.int .i64 b) := by rw [hwG, hwE, hwD]; exact b1
  have k2 : wG.cell? ⟨w.heap.size, 2, none⟩ = some (.int .i64 r) := by rw [hwG, hwE, hwD]; exact b2
  have HG : Hid (Only base Zq w wG) := by
    rw [hwG, hwE, hwD]
    exact Only.grow (Grow.trans g1 (Grow.trans (Grow.drew _) (Grow.trans (Grow.drew _) (Grow.drew _)))) h.bas _
  have s0 : ((E.length : Int) == mo) = false := by rw [beq_eq_false_iff_ne]; exact hf
  have n1 : IntKind.i64.wrap (pu + 1) = pu + 1 := IntWalk.i64_in _ (by omega)
  generalize E.length = n at c0 s0 hf
  unfold qI enV at c1
  clear h q1 qD qE qG hff hfE hp hn hpu hx b0 b1 b2 g1
  go_enter Try.func9, Try.ntmps9
  go_upto_region 3 with fail
  rw [← hW1]
  have HW1 := Lib.hid hW1
  clear hW1
  refine wp_region_still_lit (by kernel_rfl) (by kernel_rfl) ?_
  change wpStill _ _ W1.drew (fun a' => Exit.then _ _ Exit.normal a' W1.drew) _ _
  rw [← hwD]
  have HD := Lib.hid hwD
  clear hwD
  repeat still_step
  refine wpStill_nil ?_
  clear d3 d0 hlk
  go_upto_region 6 with fail
  refine wp_region_still_lit (by kernel_rfl) (by kernel_rfl) ?_
  change wpStill _ _ wD.drew (fun a' => Exit.then _ _ Exit.normal a' wD.drew) _ _
  rw [← hwE]
  have HE := Lib.hid hwE
  clear hwE
  still_step
  still_call c0
  repeat still_step
  refine wpStill_nil ?_
  clear c0 e0
  go_upto_region 8 with fail
  refine wp_region_still_tail 11 (by kernel_rfl) (by kernel_rfl) ?_
  simp only [List.take_succ_cons, List.take_zero, List.drop_succ_cons, List.drop_zero]
  change wpStill _ _ wE.drew (fun a' => wpList _ _ _ _ a' wE.drew) _ _
  rw [← hwG]
  have HGG := Lib.hid hwG
  clear hwG s0 hf
  repeat still_step
  refine wpStill_nil ?_
  clear m1 k0 k1 k2
  go_wp2_with fail
  refine c1.mono ?_
  rintro e w5 ⟨rfl, v', E', h5, p5, q5, o5⟩
  have m5 := h5.cell.2.2.2
  obtain ⟨f5, q6, o6⟩ := h5.setPu (pu + 1)
  have H5 : Hid (Qu (w5.setCell ⟨ab, 1, none⟩ (.int .i64 (pu + 1))) base ab mb v' E' mo (pu + 1) ∧ E'.Perm (⟨a, b, r, pu⟩ :: E) ∧ Hp E' E'.length ∧ Only base Zq w (w5.setCell ⟨ab, 1, none⟩ (.int .i64 (pu + 1)))) := ⟨q6, p5, q5, (HG.out.trans o5).trans o6⟩
  clear c1 h5 p5 q5 o5 q6 o6
  go_wp2_with fail
  go_ret
  exact ⟨rfl, v', E', H5.out⟩
end Go.Proofs.Ytdgbieapgmjjhaa
