/- Contracts: the reference's place, without, more. -/
import Derived.Test.YtkambcjinidomaaBpRow
namespace Go.Proofs.Ytkambcjinidomaa
set_option linter.unusedVariables false
set_option linter.unusedSimpArgs false
open Go.ChangeShapes Go.WideShapes Go.ChangeAt Go.RowKit

set_option maxHeartbeats 1000000 in
theorem rPlcB_nil (w : World) (A : Option Addr) (c : Nat) (x : Int) : Calls Try.prog 25 #[.slice A 0 c, .int .i64 x] w fun e w' => e = .returned (.int .i64 (-1)) ∧ w' = w := by
  go_enter Try.func25, Try.ntmps25
  go_wp2_with fail
  go_loopg [5] 0 (fun g s5 wr => s5 = .int .i64 0 ∧ wr = w ∧ g = 0)
  case atStart => exact ⟨rfl, rfl, rfl⟩
  case round =>
    obtain ⟨rfl, rfl, rfl⟩ := hrel
    go_wp2_with fail
    go_ret
    exact ⟨rfl, rfl⟩
set_option maxHeartbeats 1000000 in
theorem rPlcB_walk (w : World) (b off c n : Nat) (l : List Bf) (hl : l.length = n) (hn : n ≤ 1000000) (x : Int) (hc : ∀ k, k < n → w.cell? ⟨b, off + k * 2, none⟩ = some (.int .i64 (bp l k).id)) (r : Int) (hr : PosB l x r) :
    Calls Try.prog 25 #[.slice (some ⟨b, off, none⟩) n c, .int .i64 x] w fun e w' => e = .returned (.int .i64 r) ∧ w' = w := by
  have HC := Lib.hid hc
  have HL := Lib.hid hl
  have HR := Lib.hid hr
  clear hc hl hr
  go_enter Try.func25, Try.ntmps25
  go_wp2_with fail
  go_loopg [5] n (fun g s5 wr => ∃ k : Nat, k ≤ n ∧ g = n - k ∧ s5 = .int .i64 (k : Int) ∧ wr = w ∧ Hid (∀ i, i < k → (bp l i).id ≠ x))
  case atStart => exact ⟨0, Nat.zero_le _, rfl, rfl, rfl, fun i h => absurd h (Nat.not_lt_zero _)⟩
  case round =>
    obtain ⟨k, hk, rfl, rfl, rfl, HN⟩ := hrel
    rcases Nat.lt_or_ge k n with hlt | hge
    · have c0 := HC.out k hlt
      have i0 : (k : Int) < (n : Int) := by omega
      by_cases e : (bp l k).id = x
      · have e1 : r = (k : Int) := by
          rcases HR.out with ⟨h1, _⟩ | ⟨j, h1, h2, h3, h4⟩
          · have := List.mem_iff_getElem?.2 ⟨k, bp_get (show k < l.length by have := HL.out; omega)⟩
            exact absurd e (h1 _ this)
          · rcases Nat.lt_trichotomy j k with a | a | a
            · exact absurd h2 (HN.out j a)
            · subst a; exact h4
            · exact absurd e (h3 k a)
        subst e1
        rw [e] at c0
        clear e
        go_wp2_with fail
        go_ret
        exact ⟨rfl, rfl⟩
      · have HE := Lib.hid e
        generalize (bp l k).id = y at c0 e
        go_wp2_with fail
        go_roundg (n - (k + 1))
        case measure => omega
        case rel =>
          refine ⟨k + 1, by omega, rfl, by go_num, rfl, ?_⟩
          intro i hi
          rcases Nat.lt_or_ge i k with a | a
          · exact HN.out i a
          · obtain rfl : i = k := by omega
            exact HE.out
    · obtain rfl : k = n := by omega
      have e1 : r = -1 := by
        rcases HR.out with ⟨_, h⟩ | ⟨j, h1, h2, h3, h4⟩
        · exact h
        · exact absurd h2 (HN.out j (by have := HL.out; omega))
      subst e1
      go_wp2_with fail
      go_ret
      exact ⟨rfl, rfl⟩
theorem rPlcB_any (w : World) (v : Value) (l : List Bf) (h : RdBf w v l) (hn : l.length ≤ 1000000) (x r : Int) (hr : PosB l x r) : Calls Try.prog 25 #[v, .int .i64 x] w fun e w' => e = .returned (.int .i64 r) ∧ w' = w := by
  rcases Nat.eq_zero_or_pos l.length with h0 | h0
  · obtain rfl : l = [] := List.eq_nil_of_length_eq_zero h0
    obtain ⟨A, c, rfl, _⟩ := h.form
    have e : r = -1 := by
      rcases hr with ⟨_, h⟩ | ⟨j, h1, _⟩
      · exact h
      · simp at h1
    subst e
    exact rPlcB_nil w A c x
  · obtain ⟨b, off, c, rfl, _, hc⟩ := h.cell h0
    exact rPlcB_walk w b off c l.length l rfl hn x (fun k hk => (hc k hk).1) r hr
set_option maxRecDepth 10000 in
set_option maxHeartbeats 4000000 in
theorem rWithoutB (w : World) (v : Value) (l : List Bf) (h : RdBf w v l) (hn : l.length ≤ 1000000) (i : Nat) (hi : i < l.length) :
    Calls Try.prog 26 #[v, .int .i64 (i : Int)] w fun e w' => ∃ v', e = .returned v' ∧ Bfs w' w.heap.size v' (l.eraseIdx i) ∧ Grow w w' := by
  obtain ⟨b, off, c, rfl, hbl, _⟩ := h.cell (by omega)
  obtain ⟨A9, c9, e9, hlc, hcm⟩ := RdK.form h
  cases e9
  obtain ⟨N, hN⟩ : ∃ N, N = l.length := ⟨_, rfl⟩
  rw [← hN] at h hn hi hlc ⊢
  obtain ⟨B, hBB, hTl0⟩ := RdBf.tail (l := l) (k := i + 1) h (by omega)
  have hTl : Hid (∀ w1, Grow w w1 → RdBf w1 (.slice (some B) (N - (i + 1)) (c - (i + 1))) (l.drop (i + 1))) := fun w1 hg => hTl0.out.grow hg
  have hFr : Hid (∀ w1, Grow w w1 → RdBf w1 (.slice (some ⟨b, off, none⟩) i c) (l.take i)) := fun w1 hg => (RdBf.front h (by omega)).grow hg
  have HL := Lib.hid (show (l.take i).length = i ∧ (l.drop (i + 1)).length = N - (i + 1) from ⟨by rw [List.length_take]; omega, by rw [List.length_drop, ← hN]⟩)
  unfold maxLen at hcm
  have q0 : ¬ ((i : Int) < 0) := by omega
  have q1 : (0 : Int) ≤ (i : Int) + 1 := by omega
  have q2 : (i : Int) + 1 ≤ (N : Int) := by omega
  have q3 : ((i : Int) + 1).toNat = i + 1 := by omega
  have q4 : (i : Int) ≤ (c : Int) := by omega
  have q6 : IntKind.i64.wrap ((i : Int) + 1) = (i : Int) + 1 := IntWalk.i64_in _ (by omega)
  have hE := Lib.hid (List.eraseIdx_eq_take_drop_succ l i)
  clear h hN hbl hTl0
  go_enter Try.func26, Try.ntmps26
  go_upto_region 1 with fail
  go_region_law (first
    | (refine step_appK _ rfl (.tmp 5) (.tmp 8) 26 rfl 54 _ 2 16 Try.underlying26 infoBf rfl (by decide) w.heap.size _ (.slice (some ⟨b, off, none⟩) i c) 0 _ [] _ rfl rfl (bfs_lit0 w.drew) (hFr.out _ ((Grow.drew _).trans (Grow.alloc _ _))) (bt_one _) (by rw [HL.out.1]; omega) (by rw [HL.out.1]; unfold maxLen; omega) (by simp) ?_; intro v1 w1 ho1 hg1 hat1; have hgw1 : Grow w w1 := ((Grow.drew w).trans (Grow.alloc _ _)).grown hg1 (by simp) (fun k hk => by cases hk; simp); have H1 := Lib.hid (And.intro ho1 hgw1); clear ho1 hg1 hat1 hgw1)
    | (refine step_appK _ rfl (.tmp 9) (.tmp 13) 26 rfl 54 _ 2 16 Try.underlying26 infoBf rfl (by decide) w.heap.size v1 _ _ _ _ _ rfl rfl H1.out.1 (hTl.out _ H1.out.2) (bt_one _) (by rw [HL.out.1, HL.out.2]; omega) (by rw [HL.out.1, HL.out.2]; unfold maxLen; omega) H1.out.2.size ?_; intro v2 w2 ho2 hg2 hat2; have hgw2 : Grow w w2 := H1.out.2.grown hg2 H1.out.2.size fun k hk => (World.ownsRow.lt H1.out.1 k hk).1; have H2 := Lib.hid (And.intro ho2 hgw2); clear ho2 hg2 hat2 hgw2))
  all_goals
    go_wp2_with fail
    go_ret
    refine ⟨v2, rfl, ?_, H2.out.2⟩
    have := H2.out.1
    unfold Bfs
    rw [hE.out, List.flatMap_append, List.length_append]
    simpa using this
theorem box_bf (w : World) (b : Bf) {W : World} (hW : W = w.alloc (.cells #[.int .i64 b.id, .int .i64 b.sz] 54)) : Grow w W ∧ W.cell? ⟨w.heap.size, 0, none⟩ = some (.int .i64 b.id) ∧ W.cell? ⟨w.heap.size, 1, none⟩ = some (.int .i64 b.sz) := by
  have hh : W.heap[w.heap.size]? = some (.cells #[.int .i64 b.id, .int .i64 b.sz] 54 (0, 0)) := by rw [hW]; exact heap_alloc_new w _
  exact ⟨by rw [hW]; exact Grow.alloc _ _, (cell_of_row W _ 0 _ _ _ hh).trans rfl, (cell_of_row W _ 1 _ _ _ hh).trans rfl⟩
set_option maxRecDepth 10000 in
set_option maxHeartbeats 4000000 in
theorem rMoreB (w : World) (v : Value) (l : List Bf) (h : RdBf w v l) (hn : l.length ≤ 1000000) (t : Bf) :
    Calls Try.prog 27 #[v, .agg #[.int .i64 t.id, .int .i64 t.sz]] w fun e w' => ∃ v', e = .returned v' ∧ Bfs w' w.heap.size v' (l ++ [t]) ∧ Grow w w' := by
  obtain ⟨W, hW⟩ : ∃ W, W = w.alloc (.cells #[.int .i64 t.id, .int .i64 t.sz] 54) := ⟨_, rfl⟩
  obtain ⟨g1, b0, b1⟩ := box_bf w t hW
  have hbx : w.heap.size < W.heap.size := by rw [hW, show (w.alloc (.cells #[.int .i64 t.id, .int .i64 t.sz] 54)).heap.size = w.heap.size + 1 from Array.size_push _]; omega
  have HV := Lib.hid (h.grow g1)
  obtain ⟨A, c, rfl, hlc, hcm⟩ := h.form
  have G1 := Lib.hid g1
  obtain ⟨n, hnl⟩ : ∃ n, n = l.length := ⟨_, rfl⟩
  rw [← hnl] at HV hlc ⊢
  have HN : Hid (n = l.length ∧ n ≤ 1000000) := ⟨hnl, by omega⟩
  have hcm2 : c ≤ 9223372036854775807 := hcm
  have HVk : Hid (∀ w1, Grow W w1 → RdK w1 2 (.slice A n c) n (l.flatMap bt)) := fun w1 g => by
    have q := HV.out.grow g
    unfold RdBf at q
    rwa [← HN.out.1] at q
  clear h hn g1 hnl hcm hlc
  go_enter Try.func27, Try.ntmps27
  go_upto_region 1 with fail
  rw [← hW]
  have HW := Lib.hid hW
  clear hW
  have hBY : Hid (∀ w1, Grow W w1 → w1.cell? ⟨w.heap.size, 0, none⟩ = some (.int .i64 t.id) ∧ w1.cell? ⟨w.heap.size, 1, none⟩ = some (.int .i64 t.sz)) :=
    fun w1 hg => ⟨(hg.cell (p := ⟨w.heap.size, 0, none⟩) hbx).trans b0, (hg.cell (p := ⟨w.heap.size, 1, none⟩) hbx).trans b1⟩
  have hO0 : Hid (Bfs ((W.drew.alloc (.cells #[] 54)).alloc (.cells #[.int .i64 t.id, .int .i64 t.sz] 54)) W.heap.size (.slice (some ⟨W.heap.size, 0, none⟩) 0 0) []) := (bfs_lit0 W.drew).grow (Grow.alloc _ _)
  have hg0 : Hid (Grow W ((W.drew.alloc (.cells #[] 54)).alloc (.cells #[.int .i64 t.id, .int .i64 t.sz] 54))) := ((Grow.drew W).trans (Grow.alloc _ _)).trans (Grow.alloc _ _)
  have hO2' := ((bfs_lit0 (W.drew.alloc (.cells #[.int .i64 t.id, .int .i64 t.sz] 54))).base_ (b' := W.heap.size) (by simp))
  simp only [World.size_alloc, World.size_drew] at hO2'
  have hO2 := Lib.hid hO2'
  clear hO2'
  have hg2 : Hid (Grow W ((W.drew.alloc (.cells #[.int .i64 t.id, .int .i64 t.sz] 54)).alloc (.cells #[] 54))) := ((Grow.drew W).trans (Grow.alloc _ _)).trans (Grow.alloc _ _)
  have hL2 : Hid (∀ w1, ((W.drew.alloc (.cells #[.int .i64 t.id, .int .i64 t.sz] 54)).alloc (.cells #[] 54)).grownBy w1 (Value.ownBlock (.slice (some ⟨W.heap.size + 1, 0, none⟩) 0 0)) → RdBf w1 (.slice (some ⟨W.heap.size, 0, none⟩) 1 1) [t]) := fun w1 hg => RdK.other (((bfs_lit1 W.drew t W.heap.size (by simp)).grow (Grow.alloc _ _)).rd) hg.size fun b hb hlt => hg.block b hlt fun e => by
    injection hb with hb
    injection e with e
    have h1 : W.heap.size = b := hb
    have h2 : b = W.heap.size + 1 := e
    omega
  have hL1 : Hid (∀ w1, ((W.drew.alloc (.cells #[] 54)).alloc (.cells #[.int .i64 t.id, .int .i64 t.sz] 54)).grownBy w1 (Value.ownBlock (.slice (some ⟨W.heap.size, 0, none⟩) 0 0)) → RdBf w1 (.slice (some ⟨W.heap.size + 1, 0, none⟩) 1 1) [t]) := fun w1 hg => RdK.other ((bfs_lit1 (W.drew.alloc (.cells #[] 54)) t (W.heap.size + 1) (by simp)).rd) hg.size fun b hb hlt => hg.block b hlt fun e => by
    injection hb with hb
    injection e with e
    have h1 : W.heap.size + 1 = b := hb
    have h2 : b = W.heap.size := e
    omega
  go_region_law (first
    | (refine step_appK _ rfl (.tmp 5) (.tmp 6) 26 rfl 54 _ 2 16 Try.underlying26 infoBf rfl (by decide) W.heap.size _ _ 0 n [] _ rfl rfl (bfs_lit0 W.drew) (HVk.out _ ((Grow.drew _).trans (Grow.alloc _ _))) (bt_one l) (by have := HN.out.2; omega) (by have := HN.out.2; unfold maxLen; omega) (by simp) ?_; intro v1 w1 ho1 hg1 hat1; rw [List.nil_append] at ho1; have hgw : Grow W w1 := ((Grow.drew W).trans (Grow.alloc _ _)).grown hg1 (by simp) (fun k hk => by cases hk; simp); obtain ⟨y0, y1⟩ := hBY.out w1 hgw; have H1 := Lib.hid (And.intro ho1 hgw); clear ho1 hg1 hat1 hgw)
    | (refine step_appK _ rfl (.tmp 5) (.tmp 6) 26 rfl 54 _ 2 16 Try.underlying26 infoBf rfl (by decide) W.heap.size _ _ 0 n [] _ rfl rfl hO0.out (HVk.out _ hg0.out) (bt_one l) (by have := HN.out.2; omega) (by have := HN.out.2; unfold maxLen; omega) hg0.out.size ?_; intro v1 w1 ho1 hg1 hat1; rw [List.nil_append] at ho1; have hgw : Grow W w1 := hg0.out.grown hg1 hg0.out.size (fun k hk => by cases hk; simp); have hLit := Lib.hid (hL1.out w1 hg1); have H1 := Lib.hid (And.intro ho1 hgw); clear ho1 hg1 hat1 hgw)
    | (refine step_appK _ rfl (.tmp 5) (.tmp 6) 26 rfl 54 _ 2 16 Try.underlying26 infoBf rfl (by decide) W.heap.size _ _ 0 n [] _ rfl rfl hO2.out (HVk.out _ hg2.out) (bt_one l) (by have := HN.out.2; omega) (by have := HN.out.2; unfold maxLen; omega) hg2.out.size ?_; intro v1 w1 ho1 hg1 hat1; rw [List.nil_append] at ho1; have hgw : Grow W w1 := hg2.out.grown hg1 hg2.out.size (fun k hk => by cases hk; simp); have hLit := Lib.hid (hL2.out w1 hg1); have H1 := Lib.hid (And.intro ho1 hgw); clear ho1 hg1 hat1 hgw)
    | (refine step_appK _ rfl (.tmp 7) (.tmp 9) 26 rfl 54 _ 2 16 Try.underlying26 infoBf rfl (by decide) W.heap.size v1 _ _ 1 _ (bt t) rfl rfl (ownsRow_other H1.out.1 (fun b cs _ hh => (Grow.alloc _ _).block b (Array.getElem?_eq_some_iff.1 hh).1)) ((bfs_lit1 w1 t _ rfl).rd) (fun y hy => bt_one [t] y (by simpa using hy)) (by have := HN.out.2; omega) (by have := HN.out.2; unfold maxLen; omega) (Nat.le_trans H1.out.2.size (Grow.alloc _ _).size) ?_; intro v2 w2 ho2 hg2 hat2; have hgw : Grow W w2 := (H1.out.2.trans (Grow.alloc _ _)).grown hg2 (Nat.le_trans H1.out.2.size (Grow.alloc _ _).size) (fun k hk => (World.ownsRow.lt H1.out.1 k hk).1); have H2 := Lib.hid (And.intro ho2 hgw); clear ho2 hg2 hat2 hgw)
    | (refine step_appK _ rfl (.tmp 7) (.tmp 9) 26 rfl 54 _ 2 16 Try.underlying26 infoBf rfl (by decide) W.heap.size v1 _ _ 1 _ (bt t) rfl rfl H1.out.1 hLit.out (fun y hy => bt_one [t] y (by simpa using hy)) (by have := HN.out.2; omega) (by have := HN.out.2; unfold maxLen; omega) H1.out.2.size ?_; intro v2 w2 ho2 hg2 hat2; have hgw : Grow W w2 := H1.out.2.grown hg2 H1.out.2.size (fun k hk => (World.ownsRow.lt H1.out.1 k hk).1); have H2 := Lib.hid (And.intro ho2 hgw); clear ho2 hg2 hat2 hgw))
  all_goals
    go_wp2_with fail
    go_ret
    refine ⟨v2, rfl, ?_, Grow.trans G1.out H2.out.2⟩
    have := ownsRow_base H2.out.1 G1.out.size
    unfold Bfs
    rw [List.flatMap_append, List.length_append, ← HN.out.1]
    simpa using this
end Go.Proofs.Ytkambcjinidomaa
