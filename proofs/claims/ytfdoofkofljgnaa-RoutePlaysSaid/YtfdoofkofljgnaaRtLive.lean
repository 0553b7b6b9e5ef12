/- The page's example; what nil tables answer. -/
import Derived.Test.YtfdoofkofljgnaaRtFind
import Derived.Test.YtfdoofkofljgnaaRtAddAny
namespace Go.Proofs.Ytfdoofkofljgnaa
set_option linter.unusedVariables false
set_option linter.unusedSimpArgs false
open Go.ChangeShapes Go.WideShapes Go.ChangeAt Go.RowKit Go.Shelf

def exA : Rt := ⟨167772160, 8, 0, 1, 0⟩
def exB : Rt := ⟨167837696, 16, 0, 2, 0⟩
theorem exA_ok : exA.Ok := ⟨by decide, by decide, by decide, by decide, by decide, by decide, by decide, by decide, by decide, by decide⟩
theorem exB_ok : exB.Ok := ⟨by decide, by decide, by decide, by decide, by decide, by decide, by decide, by decide, by decide, by decide⟩
theorem exA_good : exA.good = true := by decide +kernel
theorem exB_good : exB.good = true := by decide +kernel
theorem ex_l1 : raddL [] exA = [exA] := by
  unfold raddL; rw [if_pos exA_good]; rfl
theorem ex_e1 : raddE [] exA = 0 := by
  unfold raddE; rw [if_pos exA_good]; rfl
theorem ex_p2 : ¬ placeOf [exA] exB.net exB.bits exB.cost < [exA].length := by decide +kernel
theorem ex_l2 : raddL [exA] exB = [exA, exB] := by
  unfold raddL; rw [if_pos exB_good, if_neg ex_p2]; rfl
theorem ex_e2 : raddE [exA] exB = 0 := by
  unfold raddE; rw [if_pos exB_good, if_neg ex_p2]; rfl
theorem ex_w1 : rwaysL [exA, exB] 167838211 = [exB, exA] := by
  have h : to_ [exA, exB] 167838211 = [exA, exB] := by
    unfold to_
    rw [List.filter_cons_of_pos (by decide +kernel), List.filter_cons_of_pos (by decide +kernel)]
    rfl
  unfold rwaysL
  rw [h]
  show insBy narrowB (insBy narrowB [] exA) exB = _
  rfl
theorem ex_w2 : rwaysL [exA, exB] 167903233 = [exA] := by
  have h : to_ [exA, exB] 167903233 = [exA] := by
    unfold to_
    rw [List.filter_cons_of_pos (by decide +kernel), List.filter_cons_of_neg (by decide +kernel)]
    rfl
  unfold rwaysL
  rw [h]
  rfl

theorem Grow.belowT {w w1 w2 : World} (h : Grow w w1) (k : Below w.heap.size w1 w2) : Grow w w2 := Below.trans h k

set_option maxRecDepth 10000 in
set_option maxHeartbeats 2000000 in
theorem live_any (w : World) : Calls Try.prog 7 #[] w fun e w' => e = .returned (.bool true) ∧ Grow w w' := by
  have cNew := New_any w
  have cC := code_any
  have kA : Calls Try.prog 19 #[] w fun e w1 => e = .returned (.pointer (some ⟨w.heap.size, 0, none⟩)) ∧ Grow w w1 ∧
      Hid (Calls Try.prog 16 #[.pointer (some ⟨w.heap.size, 0, none⟩), .agg #[.int .u32 167772160, .int .i64 8, .int .u32 0, .int .i64 1, .int .i64 0]] w1 fun e w2 => e = .returned (.int .i64 0) ∧ Grow w w2 ∧
        Hid (Calls Try.prog 16 #[.pointer (some ⟨w.heap.size, 0, none⟩), .agg #[.int .u32 167837696, .int .i64 16, .int .u32 0, .int .i64 2, .int .i64 0]] w2 fun e w3 => e = .returned (.int .i64 0) ∧ Grow w w3 ∧
          Hid (∀ w4, Grow w3 w4 → Calls Try.prog 10 #[.pointer (some ⟨w.heap.size, 0, none⟩), .int .u32 167838211] w4 fun e w5 => e = .returned (.tuple #[.agg #[.int .u32 167837696, .int .i64 16, .int .u32 0, .int .i64 2, .int .i64 0], .int .i64 0]) ∧ Grow w4 w5) ∧
          Hid (∀ w4, Grow w3 w4 → Calls Try.prog 10 #[.pointer (some ⟨w.heap.size, 0, none⟩), .int .u32 167903233] w4 fun e w5 => e = .returned (.tuple #[.agg #[.int .u32 167772160, .int .i64 8, .int .u32 0, .int .i64 1, .int .i64 0], .int .i64 0]) ∧ Grow w4 w5))) := by
    refine cNew.mono ?_
    rintro e w1 ⟨rfl, hT, hg⟩
    refine ⟨rfl, hg, ?_⟩
    have hT1 : Trie w1 w.heap.size w.heap.size (([] : List Rt).length : Int) (net0 w.heap.size) _ := hT
    refine (Add_any w1 w.heap.size w.heap.size [] _ _ hT1 (tells0 _) Fine.nil exA exA_ok hg.size).mono ?_
    rintro e w2 ⟨rfl, M2, r2, hT2, hM2, hMv2⟩
    have hF2 : Fine (raddL [] exA) := Fine.nil.add exA_ok
    rw [ex_l1] at hT2 hM2 hF2
    have hb2 := hMv2.below hg.size (fun b hb => hT.free (.inl hb))
    have hgw2 : Grow w w2 := hg.belowT hb2
    refine ⟨by rw [ex_e1], hgw2, ?_⟩
    refine (Add_any w2 w.heap.size w.heap.size [exA] M2 r2 hT2 hM2 hF2 exB exB_ok hgw2.size).mono ?_
    rintro e w3 ⟨rfl, M3, r3, hT3, hM3, hMv3⟩
    have hF3 : Fine (raddL [exA] exB) := hF2.add exB_ok
    rw [ex_l2] at hT3 hM3 hF3
    have hb3 := hMv3.below hgw2.size (fun b hb => hT2.free (.inl hb))
    refine ⟨by rw [ex_e2], hgw2.belowT hb3, fun w4 hg4 => ?_, fun w4 hg4 => ?_⟩
    · have h := Find_any w4 _ _ _ M3 r3 (hT3.grow hg4) hM3 hF3 167838211 (by decide)
      rw [ex_w1] at h
      exact h
    · have h := Find_any w4 _ _ _ M3 r3 (hT3.grow hg4) hM3 hF3 167903233 (by decide)
      rw [ex_w2] at h
      exact h
  clear cNew
  go_enter Try.func7, Try.ntmps7
  go_wp2_with (go_at_call 19; refine kA.mono ?_; rintro e w1 ⟨rfl, hg1, kB⟩; clear kA)
  refine kB.out.mono ?_
  clear kB
  rintro e w2 ⟨rfl, hg2, kC⟩
  go_wp2_with fail
  refine kC.out.mono ?_
  clear kC
  rintro e w3 ⟨rfl, hg3, k1, k2⟩
  go_wp2_with fail
  refine (k1.out _ (Grow.refl _)).mono ?_
  clear k1
  rintro e w4 ⟨rfl, hg4⟩
  have HG4 := Lib.hid hg4
  go_wp2_with fail
  refine (k2.out _ (HG4.out.trans (Grow.alloc _ _))).mono ?_
  clear k2 hg4
  rintro e w5 ⟨rfl, hg5⟩
  have hc : w5.cell? ⟨w4.heap.size, 3, none⟩ = some (.int .i64 2) := by
    rw [hg5.cell (p := ⟨w4.heap.size, 3, none⟩) (by simp)]
    simp [World.cell?_alloc_new]
  have hlt : w4.heap.size < w5.heap.size := by have := hg5.size; simp at this; omega
  have HG5 : Hid (Grow w w5) := ((hg3.trans HG4.out).trans (Grow.alloc _ _)).trans hg5
  clear hg1 hg2 hg3 hg5 HG4
  go_wp2_with (go_at_call 15; refine (cC _ _).mono ?_; rintro e w' ⟨rfl, rfl⟩)
  go_ret
  exact ⟨rfl, HG5.out.trans (Grow.alloc _ _)⟩

set_option maxRecDepth 10000 in
set_option maxHeartbeats 2000000 in
theorem RouteNils_walk (x : Rt) (n : Int) (w : World) : Calls Try.prog 5 #[rtV x, .int .u32 n] w fun e w' => e = .returned (.bool true) ∧ Grow w w' := by
  have cC := code_any
  have cF := Find_nil n
  have cA := Add_nil x
  have cR := Remove_nil x.net x.bits x.cost
  have cL := Len_nil
  have cAll := All_nil
  have cW := Ways_nil n
  have cLv := live_any
  obtain ⟨xn, xb, xv, xi, xc⟩ := x
  unfold rtV at *
  go_enter Try.func5, Try.ntmps5
  go_wp2_with fail
  refine (cF _).mono ?_
  rintro e w1 ⟨rfl, hg1⟩
  have hlt : w.heap.size < w1.heap.size := by have := hg1.size; simp at this; omega
  obtain ⟨b0, b1, b2, b3, b4⟩ := (RtAt.new w ⟨xn, xb, xv, xi, xc⟩ 32).grow hg1 (by simp)
  simp only [Nat.zero_add] at b1 b2 b3 b4
  have HG1 : Hid (Grow w w1) := (Grow.alloc w _).trans hg1
  have HB := Lib.hid (show RtAt w1 w.heap.size 0 ⟨xn, xb, xv, xi, xc⟩ from ⟨b0, b1, b2, b3, b4⟩)
  clear hg1 cF
  go_wp2_with (first
    | (go_at_call 15; refine (cC _ _).mono ?_; rintro e w' ⟨rfl, rfl⟩)
    | (go_at_call 16; refine (cA _).mono ?_; rintro e w2 ⟨rfl, hg2⟩; obtain ⟨q0, q1, q2, q3, q4⟩ := (HB.out.grow (Grow.alloc _ _) hlt).grow hg2 (by simp; omega); simp only [Nat.zero_add] at q1 q2 q3 q4; have HG2 := Lib.hid hg2; clear hg2 cA)
    | (go_at_call 17; refine (cR _).mono ?_; rintro e w' ⟨rfl, rfl⟩)
    | (go_at_call 18; refine (cL _).mono ?_; rintro e w' ⟨rfl, rfl⟩)
    | (go_at_call 12; refine (cAll _).mono ?_; rintro e w' ⟨rfl, rfl⟩)
    | (go_at_call 14; refine (cW _).mono ?_; rintro e w' ⟨rfl, rfl⟩)
    | (go_at_call 7; refine (cLv _).mono ?_; rintro e w3 ⟨rfl, hg3⟩; have HG3 := Lib.hid hg3; clear hg3 cLv))
  go_ret
  exact ⟨rfl, ((HG1.out.trans (Grow.alloc _ _)).trans HG2.out).trans HG3.out⟩
end Go.Proofs.Ytfdoofkofljgnaa
