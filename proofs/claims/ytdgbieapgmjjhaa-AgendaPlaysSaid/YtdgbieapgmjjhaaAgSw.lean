/- Contract: Swap of a queue. -/
import Derived.Test.YtdgbieapgmjjhaaAgQ
import Derived.BigRegion
import Derived.Deep.DeepCutAuto
import Derived.StillTailTactics
namespace Go.Proofs.Ytdgbieapgmjjhaa
set_option linter.unusedVariables false
set_option linter.unusedSimpArgs false
open Go.ChangeShapes Go.WideShapes Go.ChangeAt Go.RowKit

/-- Four cells laid. -/
def set4 (w : World) (g o : Nat) (e : En) : World := (((w.setCell ⟨g, o, none⟩ (.int .i64 e.id)).setCell ⟨g, o + 1, none⟩ (.int .i64 e.at_)).setCell ⟨g, o + 2, none⟩ (.int .i64 e.rk)).setCell ⟨g, o + 3, none⟩ (.int .i64 e.no)
theorem flat_set : ∀ (l : List En) (k : Nat) (e : En), k < l.length → ((((l.flatMap en).set (k * 4) (.int .i64 e.id)).set (k * 4 + 1) (.int .i64 e.at_)).set (k * 4 + 2) (.int .i64 e.rk)).set (k * 4 + 3) (.int .i64 e.no) = (l.set k e).flatMap en
  | [], k, e, h => absurd h (Nat.not_lt_zero _)
  | a :: l, 0, e, _ => by
    simp [en, List.flatMap_cons]
  | a :: l, k + 1, e, h => by
    have ih := flat_set l k e (by simpa using h)
    rw [List.set_cons_succ, List.flatMap_cons, List.flatMap_cons, ← ih]
    rw [show (k + 1) * 4 = k * 4 + 4 from by omega, show k * 4 + 4 + 1 = k * 4 + 1 + 4 from by omega, show k * 4 + 4 + 2 = k * 4 + 2 + 4 from by omega, show k * 4 + 4 + 3 = k * 4 + 3 + 4 from by omega]
    rfl
section
variable {w w' : World} {base g n c : Nat} {E : List En}
theorem row_cells (h : w.ownsRow base 66 4 (.slice (some ⟨g, 0, none⟩) n c) n (E.flatMap en)) {k : Nat} (hk : k < n) (hn : n = E.length) : w.cell? ⟨g, k * 4, none⟩ = some (.int .i64 (pt E k).id) ∧ w.cell? ⟨g, k * 4 + 1, none⟩ = some (.int .i64 (pt E k).at_) ∧ w.cell? ⟨g, k * 4 + 2, none⟩ = some (.int .i64 (pt E k).rk) ∧ w.cell? ⟨g, k * 4 + 3, none⟩ = some (.int .i64 (pt E k).no) := by
  obtain ⟨h1, ⟨h2, _⟩ | ⟨g', c', cur, hv, h2, h3, h4, h5, h6, h7⟩⟩ := h
  · cases h2
  · cases hv
    have key : ∀ r u, (en (pt E k))[r]? = some u → w.cell? ⟨g, k * 4 + r, none⟩ = some u := by
      intro r u hr
      have hr4 : r < 4 := (List.getElem?_eq_some_iff.1 hr).1
      refine (cell_of_row w g (k * 4 + r) _ _ _ h3).trans ?_
      have := flat_en_at E k (pt E k) (pt_get (by omega)) r u hr
      rw [← h7, List.getElem?_take_of_lt (by omega)] at this
      rw [← Array.getElem?_toList]
      exact this
    exact ⟨key 0 _ rfl, key 1 _ rfl, key 2 _ rfl, key 3 _ rfl⟩
theorem row_set4 (h : w.ownsRow base 66 4 (.slice (some ⟨g, 0, none⟩) n c) n (E.flatMap en)) (hn : n = E.length) {k : Nat} (hk : k < n) (e : En) (hb : base ≤ w.heap.size) :
    (set4 w g (k * 4) e).ownsRow base 66 4 (.slice (some ⟨g, 0, none⟩) n c) n ((E.set k e).flatMap en) ∧ Only base Zq w (set4 w g (k * 4) e) ∧ ∀ b, b ≠ g → (set4 w g (k * 4) e).heap[b]? = w.heap[b]? := by
  obtain ⟨r1, _⟩ := h.stored (k * 4) (.int .i64 e.id)
  obtain ⟨r2, _⟩ := r1.stored (k * 4 + 1) (.int .i64 e.at_)
  obtain ⟨r3, _⟩ := r2.stored (k * 4 + 2) (.int .i64 e.rk)
  obtain ⟨r4, _⟩ := r3.stored (k * 4 + 3) (.int .i64 e.no)
  rw [flat_set E k e (by omega)] at r4
  have o : ∀ (w1 : World) (xs : List Value) (j : Nat) (u : Value), w1.ownsRow base 66 4 (.slice (some ⟨g, 0, none⟩) n c) n xs → Only base Zq w1 (w1.setCell ⟨g, j, none⟩ u) := by
    intro w1 xs j u hr
    obtain ⟨cs, h1, h2⟩ := ownsRow_blk hr rfl
    exact Only.set h1 h2 (.inr (.inr rfl)) u
  refine ⟨r4, (((o _ _ _ _ h).trans (o _ _ _ _ r1)).trans (o _ _ _ _ r2)).trans (o _ _ _ _ r3), fun b hbg => ?_⟩
  unfold set4
  rw [Below.heap_setCell _ _ _ _ hbg, Below.heap_setCell _ _ _ _ hbg, Below.heap_setCell _ _ _ _ hbg, Below.heap_setCell _ _ _ _ hbg]
end
theorem ids_pt {E : List En} (hn : (E.map En.id).Nodup) {a b : Nat} (ha : a < E.length) (hb : b < E.length) (e : (pt E a).id = (pt E b).id) : a = b := by
  have e1 : (E.map En.id)[a]? = some (pt E a).id := by rw [List.getElem?_map, pt_get ha]; rfl
  have e2 : (E.map En.id)[b]? = some (pt E a).id := by rw [List.getElem?_map, pt_get hb, e]; rfl
  exact (List.getElem?_inj (by simpa using ha) hn).1 (e1.trans e2.symm)
theorem PlE.swap {f : Int → Option Int} {E : List En} (h : PlE f E) (hn : (E.map En.id).Nodup) {i j : Nat} (hi : i < E.length) (hj : j < E.length) :
    PlE (fun y => if y = (pt E i).id then some (j : Int) else if y = (pt E j).id then some (i : Int) else f y) (sw E i j) := by
  intro x k
  have e := fun k => pt_sw hi hj k
  show (if x = (pt E i).id then some (j : Int) else if x = (pt E j).id then some (i : Int) else f x) = some k ↔ _
  rw [sw_len]
  by_cases q1 : x = (pt E i).id
  · rw [if_pos q1]
    constructor
    · intro q
      injection q with q
      exact ⟨j, hj, by rw [e, if_pos rfl, q1], q.symm⟩
    · rintro ⟨m, hm, h1, rfl⟩
      rw [e] at h1
      by_cases a : m = j
      · rw [a]
      · rw [if_neg a] at h1
        by_cases b : m = i
        · rw [if_pos b, q1] at h1
          have := ids_pt hn hj hi h1
          omega
        · rw [if_neg b, q1] at h1
          exact absurd (ids_pt hn hm hi h1) b
  · rw [if_neg q1]
    by_cases q2 : x = (pt E j).id
    · rw [if_pos q2]
      have hij : i ≠ j := fun e9 => q1 (by rw [q2, e9])
      constructor
      · intro q
        injection q with q
        exact ⟨i, hi, by rw [e, if_neg hij, if_pos rfl, q2], q.symm⟩
      · rintro ⟨m, hm, h1, rfl⟩
        rw [e] at h1
        by_cases a : m = j
        · rw [if_pos a] at h1
          exact absurd h1.symm q1
        · rw [if_neg a] at h1
          by_cases b : m = i
          · rw [b]
          · rw [if_neg b, q2] at h1
            exact absurd (ids_pt hn hm hj h1) a
    · rw [if_neg q2, h x k]
      constructor
      · rintro ⟨m, hm, h1, h2⟩
        refine ⟨m, hm, ?_, h2⟩
        rw [e, if_neg (fun a => q2 (by rw [← h1, a])), if_neg (fun a => q1 (by rw [← h1, a]))]
        exact h1
      · rintro ⟨m, hm, h1, h2⟩
        refine ⟨m, hm, ?_, h2⟩
        rw [e] at h1
        by_cases a : m = j
        · rw [if_pos a] at h1
          exact absurd h1.symm q1
        · rw [if_neg a] at h1
          by_cases b : m = i
          · rw [if_pos b] at h1
            exact absurd h1.symm q2
          · rw [if_neg b] at h1
            exact h1
set_option maxRecDepth 100000 in
set_option maxHeartbeats 4000000 in
theorem swap_any (w : World) (base ab mb : Nat) (v : Value) (E : List En) (mo pu : Int) (h : Qu w base ab mb v E mo pu) (i j : Nat) (hij : i < j) (hj : j < E.length) (hn : E.length ≤ 100000) :
    Calls Try.prog 74 #[.pointer (some ⟨ab, 2, none⟩), .int .i64 (i : Int), .int .i64 (j : Int)] w fun e w' => e = .returned (.tuple #[]) ∧ Qu w' base ab mb v (sw E i j) mo pu ∧ Only base Zq w w' := by
  obtain ⟨g, c, cur, hv, hbg, hg, _, _, _, hc⟩ := h.ents (by omega)
  subst hv
  have hgl := (Array.getElem?_eq_some_iff.1 hg).1
  obtain ⟨x0, x1, x2, x3⟩ := hc i (by omega)
  obtain ⟨y0, y1, y2, y3⟩ := hc j hj
  have a0 := h.cell.1
  have f0 : ∀ o, w.frozen? ⟨g, o, none⟩ = false := fun o => frozen_of hg
  have hb0 : base ≤ w.heap.size := by omega
  have hgab : ab ≠ g := fun e => by
    have := h.blk
    rw [e, hg] at this
    injection this with this
    injection this with _ this
    exact absurd this (by decide)
  obtain ⟨f, hf, hfE⟩ := h.map
  have hgmb : mb ≠ g := fun e => by
    obtain ⟨L, ⟨es, ck, hm, _⟩, _⟩ := hf
    rw [e, hg] at hm
    cases hm
  have habm : ab ≠ mb := fun e => by
    obtain ⟨L, ⟨es, ck, hm, _⟩, _⟩ := hf
    have := h.blk
    rw [e, hm] at this
    cases this
  obtain ⟨r1, o1, k1⟩ := row_set4 h.row rfl (show i < E.length by omega) (pt E j) hb0
  obtain ⟨r2, o2, k2⟩ := row_set4 r1 (by simp) hj (pt E i) (Nat.le_trans hb0 o1.size)
  obtain ⟨W1, hW1⟩ : ∃ W1, W1 = set4 (set4 w g (i * 4) (pt E j)) g (j * 4) (pt E i) := ⟨_, rfl⟩
  rw [← hW1] at r2 o2 k2
  have hs : (E.set i (pt E j)).set j (pt E i) = sw E i j := rfl
  rw [hs] at r2
  have oA := o1.trans o2
  have kA : ∀ b, b ≠ g → W1.heap[b]? = w.heap[b]? := fun b hb => (k2 b hb).trans (k1 b hb)
  have lenE := sw_len E i j
  have e := fun k => pt_sw (show i < E.length by omega) hj k
  obtain ⟨d0, _⟩ := row_cells r2 (show i < E.length by omega) lenE.symm
  obtain ⟨d1, _⟩ := row_cells r2 hj lenE.symm
  rw [e, if_neg (show ¬ i = j by omega), if_pos rfl] at d0
  rw [e, if_pos rfl] at d1
  have hblk1 := (kA ab hgab).trans h.blk
  have b2 : W1.cell? ⟨ab, 2, none⟩ = some (.slice (some ⟨g, 0, none⟩) E.length c) := (cell_of_row W1 ab 2 _ _ _ hblk1).trans rfl
  have b3 : W1.cell? ⟨ab, 3, none⟩ = some (.map (some mb)) := (cell_of_row W1 ab 3 _ _ _ hblk1).trans rfl
  obtain ⟨w2, p1, p2, p3⟩ := PlF.put (w := W1.drew.drew) (hf.keep (kA mb hgmb)) (pt E j).id (i : Int)
  have kB : ∀ b, b ≠ mb → b < W1.heap.size → w2.heap[b]? = W1.heap[b]? := fun b hb hl => p3.block b hl (fun e => hb (Option.some.inj e))
  have lt1 : ab < W1.heap.size := (Array.getElem?_eq_some_iff.1 hblk1).1
  have gl1 : g < W1.heap.size := Nat.lt_of_lt_of_le hgl oA.size
  have hblk2 := (kB ab habm lt1).trans hblk1
  have c2 : w2.cell? ⟨ab, 2, none⟩ = some (.slice (some ⟨g, 0, none⟩) E.length c) := (cell_of_row w2 ab 2 _ _ _ hblk2).trans rfl
  have c3 : w2.cell? ⟨ab, 3, none⟩ = some (.map (some mb)) := (cell_of_row w2 ab 3 _ _ _ hblk2).trans rfl
  have r3 : w2.ownsRow base 66 4 (.slice (some ⟨g, 0, none⟩) E.length c) E.length ((sw E i j).flatMap en) := ownsRow_other r2 fun b cs hb _ => by
    have : b = g := by injection hb with hb; exact hb.symm
    rw [this]
    exact kB g hgmb.symm gl1
  obtain ⟨d2, _⟩ := row_cells r3 hj lenE.symm
  rw [e, if_pos rfl] at d2
  obtain ⟨w3, q1, q2, q3⟩ := PlF.put (w := w2.drew) (p2.keep rfl) (pt E i).id (j : Int)
  have kC : ∀ b, b ≠ mb → b < w2.heap.size → w3.heap[b]? = w2.heap[b]? := fun b hb hl => q3.block b hl (fun e => hb (Option.some.inj e))
  have s2 : W1.heap.size ≤ w2.heap.size := p3.size
  have oM : ∀ (u u' : World), u.grownBy u' (some mb) → (∃ f, PlF u mb f) → base ≤ u.heap.size → Only base Zq u u' := by
    rintro u u' hgr ⟨f9, L, ⟨es, ck, hm, _⟩, _⟩ hbu
    exact Only.grown hgr (fun b e => by cases e; exact ⟨h.low.2, fun o T ho hT => by rw [hm] at ho; cases ho; cases hT; exact .inr (.inl rfl)⟩) hbu
  have oB : Only base Zq W1.drew.drew w2 := oM _ _ p3 ⟨f, hf.keep (kA mb hgmb)⟩ (Nat.le_trans hb0 oA.size)
  have oC : Only base Zq w2.drew w3 := oM _ _ q3 ⟨_, p2.keep rfl⟩ (Nat.le_trans hb0 (Nat.le_trans oA.size s2))
  have HF : Hid (Qu w3 base ab mb (.slice (some ⟨g, 0, none⟩) E.length c) (sw E i j) mo pu ∧ Only base Zq w w3) := by
    refine ⟨⟨(kC ab habm (Nat.lt_of_lt_of_le lt1 s2)).trans hblk2, ?_, ⟨_, q2, hfE.swap h.nod (by omega) hj⟩, ?_, h.low⟩, ?_⟩
    · rw [lenE]
      exact ownsRow_other r3 fun b cs hb _ => by
        have : b = g := by injection hb with hb; exact hb.symm
        rw [this]
        exact kC g hgmb.symm (Nat.lt_of_lt_of_le gl1 s2)
    · exact ((sw_perm (by omega) hj).map En.id).nodup_iff.2 h.nod
    · exact ((oA.trans (Only.grow (Grow.trans (Grow.drew W1) (Grow.drew _)) (Nat.le_trans hb0 oA.size) _)).trans oB).trans ((Only.grow (Grow.drew w2) (Nat.le_trans hb0 (Nat.le_trans oA.size s2)) _).trans oC)
  have i1 : (i : Int) < (E.length : Int) := by omega
  have i2 : (j : Int) < (E.length : Int) := by omega
  unfold set4 at hW1
  generalize pt E i = x at *
  generalize pt E j = y at *
  generalize E.length = n at *
  clear h hc hg hgl hf hfE r1 r2 r3 o1 o2 k1 k2 hs oA kA lenE e hblk1 hblk2 p2 p3 q2 q3 kB kC lt1 gl1 s2 oM oB oC hgab hgmb habm hb0 hbg
  go_enter Try.func74, Try.ntmps74
  go_upto_region 0 with fail
  go_region
  rw [← hW1]
  clear x0 x1 x2 x3 y0 y1 y2 y3 f0 a0
  have HW1 := Lib.hid hW1
  clear hW1
  go_upto_region 1 with fail
  obtain ⟨wD, hwD⟩ : ∃ wD, wD = W1.drew.drew := ⟨_, rfl⟩
  have b2' : wD.cell? ⟨ab, 2, none⟩ = some (.slice (some ⟨g, 0, none⟩) n c) := by rw [hwD]; exact b2
  have b3' : wD.cell? ⟨ab, 3, none⟩ = some (.map (some mb)) := by rw [hwD]; exact b3
  have d0' : wD.cell? ⟨g, i * 4, none⟩ = some (.int .i64 y.id) := by rw [hwD]; exact d0
  rw [← hwD] at p1
  refine wp_region_still_tail 14 (by kernel_rfl) (by kernel_rfl) ?_
  simp only [List.take_succ_cons, List.take_zero, List.drop_succ_cons, List.drop_zero]
  change wpStill _ _ W1.drew.drew (fun a' => wpList _ _ _ _ a' W1.drew.drew) _ _
  rw [← hwD]
  have HD := Lib.hid hwD
  clear hwD b2 b3 d0 d1
  repeat still_step
  refine wpStill_nil ?_
  go_upto_region 2 with fail
  clear b2' b3' d0' p1
  obtain ⟨wE, hwE⟩ : ∃ wE, wE = w2.drew := ⟨_, rfl⟩
  have b2' : wE.cell? ⟨ab, 2, none⟩ = some (.slice (some ⟨g, 0, none⟩) n c) := by rw [hwE]; exact c2
  have b3' : wE.cell? ⟨ab, 3, none⟩ = some (.map (some mb)) := by rw [hwE]; exact c3
  have d0' : wE.cell? ⟨g, j * 4, none⟩ = some (.int .i64 x.id) := by rw [hwE]; exact d2
  rw [← hwE] at q1
  refine wp_region_still_tail 14 (by kernel_rfl) (by kernel_rfl) ?_
  simp only [List.take_succ_cons, List.take_zero, List.drop_succ_cons, List.drop_zero]
  change wpStill _ _ w2.drew (fun a' => wpList _ _ _ _ a' w2.drew) _ _
  rw [← hwE]
  have HE := Lib.hid hwE
  clear hwE c2 c3 d2
  repeat still_step
  refine wpStill_nil ?_
  go_wp2_with fail
  refine bodyPost_end (results_none rfl _ _ _) rfl ?_
  exact ⟨rfl, HF.out⟩
end Go.Proofs.Ytdgbieapgmjjhaa
