/- Swap of one place with itself. -/
import Derived.Test.YtdgbieapgmjjhaaAgSw
namespace Go.Proofs.Ytdgbieapgmjjhaa
set_option linter.unusedVariables false
set_option linter.unusedSimpArgs false
open Go.ChangeShapes Go.WideShapes Go.ChangeAt Go.RowKit

set_option maxRecDepth 100000 in
set_option maxHeartbeats 4000000 in
theorem swap_same (w : World) (base ab mb : Nat) (v : Value) (E : List En) (mo pu : Int) (h : Qu w base ab mb v E mo pu) (i : Nat) (hi : i < E.length) (hn : E.length ≤ 100000) :
    Calls Try.prog 74 #[.pointer (some ⟨ab, 2, none⟩), .int .i64 (i : Int), .int .i64 (i : Int)] w fun e w' => e = .returned (.tuple #[]) ∧ Qu w' base ab mb v (sw E i i) mo pu ∧ Only base Zq w w' := by
  obtain ⟨g, c, cur, hv, hbg, hg, _, _, _, hc⟩ := h.ents (by omega)
  subst hv
  have hgl := (Array.getElem?_eq_some_iff.1 hg).1
  obtain ⟨x0, x1, x2, x3⟩ := hc i (by omega)
  obtain ⟨y0, y1, y2, y3⟩ := hc i hi
  have a0 := h.cell.1
  have f0 : ∀ o, w.frozen? ⟨g, o, none⟩ = false := fun o => frozen_of hg
  have hb0 : base ≤ w.heap.size := by omega
  have hgab : ab ≠ g := fun e => by
    have := h.blk
    rw [e, hg] at this
    injection this with this
    injection this with _ this
    exact absurd this (by decide)
  obtain ⟨f, hf, hfE⟩ := h.map
  have hgmb : mb ≠ g := fun e => by
    obtain ⟨L, ⟨es, ck, hm, _⟩, _⟩ := hf
    rw [e, hg] at hm
    cases hm
  have habm : ab ≠ mb := fun e => by
    obtain ⟨L, ⟨es, ck, hm, _⟩, _⟩ := hf
    have := h.blk
    rw [e, hm] at this
    cases this
  obtain ⟨r1, o1, k1⟩ := row_set4 h.row rfl (show i < E.length by omega) (pt E i) hb0
  obtain ⟨r2, o2, k2⟩ := row_set4 r1 (by simp) hi (pt E i) (Nat.le_trans hb0 o1.size)
  obtain ⟨W1, hW1⟩ : ∃ W1, W1 = set4 (set4 w g (i * 4) (pt E i)) g (i * 4) (pt E i) := ⟨_, rfl⟩
  rw [← hW1] at r2 o2 k2
  have hs : (E.set i (pt E i)).set i (pt E i) = sw E i i := rfl
  rw [hs] at r2
  have oA := o1.trans o2
  have kA : ∀ b, b ≠ g → W1.heap[b]? = w.heap[b]? := fun b hb => (k2 b hb).trans (k1 b hb)
  have lenE := sw_len E i i
  have e := fun k => pt_sw (show i < E.length by omega) hi k
  obtain ⟨d0, _⟩ := row_cells r2 (show i < E.length by omega) lenE.symm
  obtain ⟨d1, _⟩ := row_cells r2 hi lenE.symm
  rw [e, if_pos rfl] at d0
  rw [e, if_pos rfl] at d1
  have hblk1 := (kA ab hgab).trans h.blk
  have b2 : W1.cell? ⟨ab, 2, none⟩ = some (.slice (some ⟨g, 0, none⟩) E.length c) := (cell_of_row W1 ab 2 _ _ _ hblk1).trans rfl
  have b3 : W1.cell? ⟨ab, 3, none⟩ = some (.map (some mb)) := (cell_of_row W1 ab 3 _ _ _ hblk1).trans rfl
  obtain ⟨w2, p1, p2, p3⟩ := PlF.put (w := W1.drew.drew) (hf.keep (kA mb hgmb)) (pt E i).id (i : Int)
  have kB : ∀ b, b ≠ mb → b < W1.heap.size → w2.heap[b]? = W1.heap[b]? := fun b hb hl => p3.block b hl (fun e => hb (Option.some.inj e))
  have lt1 : ab < W1.heap.size := (Array.getElem?_eq_some_iff.1 hblk1).1
  have gl1 : g < W1.heap.size := Nat.lt_of_lt_of_le hgl oA.size
  have hblk2 := (kB ab habm lt1).trans hblk1
  have c2 : w2.cell? ⟨ab, 2, none⟩ = some (.slice (some ⟨g, 0, none⟩) E.length c) := (cell_of_row w2 ab 2 _ _ _ hblk2).trans rfl
  have c3 : w2.cell? ⟨ab, 3, none⟩ = some (.map (some mb)) := (cell_of_row w2 ab 3 _ _ _ hblk2).trans rfl
  have r3 : w2.ownsRow base 66 4 (.slice (some ⟨g, 0, none⟩) E.length c) E.length ((sw E i i).flatMap en) := ownsRow_other r2 fun b cs hb _ => by
    have : b = g := by injection hb with hb; exact hb.symm
    rw [this]
    exact kB g hgmb.symm gl1
  obtain ⟨d2, _⟩ := row_cells r3 hi lenE.symm
  rw [e, if_pos rfl] at d2
  obtain ⟨w3, q1, q2, q3⟩ := PlF.put (w := w2.drew) (p2.keep rfl) (pt E i).id (i : Int)
  have kC : ∀ b, b ≠ mb → b < w2.heap.size → w3.heap[b]? = w2.heap[b]? := fun b hb hl => q3.block b hl (fun e => hb (Option.some.inj e))
  have s2 : W1.heap.size ≤ w2.heap.size := p3.size
  have oM : ∀ (u u' : World), u.grownBy u' (some mb) → (∃ f, PlF u mb f) → base ≤ u.heap.size → Only base Zq u u' := by
    rintro u u' hgr ⟨f9, L, ⟨es, ck, hm, _⟩, _⟩ hbu
    exact Only.grown hgr (fun b e => by cases e; exact ⟨h.low.2, fun o T ho hT => by rw [hm] at ho; cases ho; cases hT; exact .inr (.inl rfl)⟩) hbu
  have oB : Only base Zq W1.drew.drew w2 := oM _ _ p3 ⟨f, hf.keep (kA mb hgmb)⟩ (Nat.le_trans hb0 oA.size)
  have oC : Only base Zq w2.drew w3 := oM _ _ q3 ⟨_, p2.keep rfl⟩ (Nat.le_trans hb0 (Nat.le_trans oA.size s2))
  have HF : Hid (Qu w3 base ab mb (.slice (some ⟨g, 0, none⟩) E.length c) (sw E i i) mo pu ∧ Only base Zq w w3) := by
    refine ⟨⟨(kC ab habm (Nat.lt_of_lt_of_le lt1 s2)).trans hblk2, ?_, ⟨_, q2, hfE.swap h.nod (by omega) hi⟩, ?_, h.low⟩, ?_⟩
    · rw [lenE]
      exact ownsRow_other r3 fun b cs hb _ => by
        have : b = g := by injection hb with hb; exact hb.symm
        rw [this]
        exact kC g hgmb.symm (Nat.lt_of_lt_of_le gl1 s2)
    · exact ((sw_perm (by omega) hi).map En.id).nodup_iff.2 h.nod
    · exact ((oA.trans (Only.grow (Grow.trans (Grow.drew W1) (Grow.drew _)) (Nat.le_trans hb0 oA.size) _)).trans oB).trans ((Only.grow (Grow.drew w2) (Nat.le_trans hb0 (Nat.le_trans oA.size s2)) _).trans oC)
  have i1 : (i : Int) < (E.length : Int) := by omega
  have i2 : (i : Int) < (E.length : Int) := by omega
  unfold set4 at hW1
  generalize pt E i = x at *
  generalize E.length = n at *
  clear h hc hg hgl hf hfE r1 r2 r3 o1 o2 k1 k2 hs oA kA lenE e hblk1 hblk2 p2 p3 q2 q3 kB kC lt1 gl1 s2 oM oB oC hgab hgmb habm hb0 hbg
  go_enter Try.func74, Try.ntmps74
  go_upto_region 0 with fail
  go_region
  rw [← hW1]
  clear x0 x1 x2 x3 y0 y1 y2 y3 f0 a0
  have HW1 := Lib.hid hW1
  clear hW1
  go_upto_region 1 with fail
  obtain ⟨wD, hwD⟩ : ∃ wD, wD = W1.drew.drew := ⟨_, rfl⟩
  have b2' : wD.cell? ⟨ab, 2, none⟩ = some (.slice (some ⟨g, 0, none⟩) n c) := by rw [hwD]; exact b2
  have b3' : wD.cell? ⟨ab, 3, none⟩ = some (.map (some mb)) := by rw [hwD]; exact b3
  have d0' : wD.cell? ⟨g, i * 4, none⟩ = some (.int .i64 x.id) := by rw [hwD]; exact d0
  rw [← hwD] at p1
  refine wp_region_still_tail 14 (by kernel_rfl) (by kernel_rfl) ?_
  simp only [List.take_succ_cons, List.take_zero, List.drop_succ_cons, List.drop_zero]
  change wpStill _ _ W1.drew.drew (fun a' => wpList _ _ _ _ a' W1.drew.drew) _ _
  rw [← hwD]
  have HD := Lib.hid hwD
  clear hwD b2 b3 d0 d1
  repeat still_step
  refine wpStill_nil ?_
  go_upto_region 2 with fail
  clear b2' b3' d0' p1
  obtain ⟨wE, hwE⟩ : ∃ wE, wE = w2.drew := ⟨_, rfl⟩
  have b2' : wE.cell? ⟨ab, 2, none⟩ = some (.slice (some ⟨g, 0, none⟩) n c) := by rw [hwE]; exact c2
  have b3' : wE.cell? ⟨ab, 3, none⟩ = some (.map (some mb)) := by rw [hwE]; exact c3
  have d0' : wE.cell? ⟨g, i * 4, none⟩ = some (.int .i64 x.id) := by rw [hwE]; exact d2
  rw [← hwE] at q1
  refine wp_region_still_tail 14 (by kernel_rfl) (by kernel_rfl) ?_
  simp only [List.take_succ_cons, List.take_zero, List.drop_succ_cons, List.drop_zero]
  change wpStill _ _ w2.drew (fun a' => wpList _ _ _ _ a' w2.drew) _ _
  rw [← hwE]
  have HE := Lib.hid hwE
  clear hwE c2 c3 d2
  repeat still_step
  refine wpStill_nil ?_
  go_wp2_with fail
  refine bodyPost_end (results_none rfl _ _ _) rfl ?_
  exact ⟨rfl, HF.out⟩
end Go.Proofs.Ytdgbieapgmjjhaa
