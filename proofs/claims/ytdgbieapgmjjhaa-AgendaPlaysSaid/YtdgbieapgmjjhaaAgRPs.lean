/- The reference's Push and Move. -/
import Derived.Test.YtdgbieapgmjjhaaAgRow
import Derived.Test.YtdgbieapgmjjhaaAgMov
namespace Go.Proofs.Ytdgbieapgmjjhaa
set_option linter.unusedVariables false
set_option linter.unusedSimpArgs false
open Go.ChangeShapes Go.WideShapes Go.ChangeAt Go.RowKit

theorem its_lit_at (w : World) (t : En) (n : Nat) (hn : n = w.heap.size) : Its (w.alloc (.cells #[.int .i64 t.id, .int .i64 t.at_, .int .i64 t.rk] 31)) n (.slice (some ⟨n, 0, none⟩) 1 1) [t] := by
  subst hn
  exact World.ownsRow_lit (base := w.heap.size) (e := 31) (size := 3) w #[.int .i64 t.id, .int .i64 t.at_, .int .i64 t.rk] 1 (Nat.le_refl _) (by decide) rfl
set_option maxHeartbeats 1000000 in
theorem rPushE_same (w : World) (v : Value) (l : List En) (h : RdIt w v l) (hn : l.length ≤ 100000) (mo a b r : Int) (hx : ∃ t ∈ l, t.id = a) :
    Calls Try.prog 10 #[v, .int .i64 mo, .agg #[.int .i64 a, .int .i64 b, .int .i64 r]] w fun e w' => e = .returned (.tuple #[v, .int .i64 140]) ∧ Grow w w' := by
  obtain ⟨W, hW⟩ : ∃ W, W = w.alloc (.cells #[.int .i64 a, .int .i64 b, .int .i64 r] 31) := ⟨_, rfl⟩
  obtain ⟨g1, b0, b1, b2⟩ := box_item w a b r hW
  obtain ⟨j, hj⟩ := posE_some hx
  have c0 := rPlaceE_any W v l (h.grow g1) (by omega) a _ hj
  obtain ⟨A, c, rfl, _⟩ := h.form
  have q0 : (0 : Int) ≤ (j : Int) := by omega
  have G1 := Lib.hid g1
  clear h hn hx hj g1
  go_enter Try.func10, Try.ntmps10
  go_upto_region 1 with fail
  rw [← hW]
  have HW := Lib.hid hW
  clear hW
  go_wp2_with fail
  refine c0.mono ?_
  rintro e w' ⟨rfl, hw⟩
  subst w'
  go_wp2_with fail
  go_ret2
  exact ⟨rfl, G1.out⟩
set_option maxHeartbeats 1000000 in
theorem rPushE_full (w : World) (v : Value) (l : List En) (h : RdIt w v l) (hn : l.length ≤ 100000) (mo a b r : Int) (hx : ∀ t ∈ l, t.id ≠ a) (hm : ¬ (l.length : Int) < mo) :
    Calls Try.prog 10 #[v, .int .i64 mo, .agg #[.int .i64 a, .int .i64 b, .int .i64 r]] w fun e w' => e = .returned (.tuple #[v, .int .i64 5]) ∧ Grow w w' := by
  obtain ⟨W, hW⟩ : ∃ W, W = w.alloc (.cells #[.int .i64 a, .int .i64 b, .int .i64 r] 31) := ⟨_, rfl⟩
  obtain ⟨g1, b0, b1, b2⟩ := box_item w a b r hW
  have c0 := rPlaceE_any W v l (h.grow g1) (by omega) a (-1) (.inl ⟨hx, rfl⟩)
  obtain ⟨A, c, rfl, _⟩ := h.form
  have q0 : mo ≤ (l.length : Int) := by omega
  have G1 := Lib.hid g1
  generalize l.length = n at *
  clear h hn hx hm g1
  go_enter Try.func10, Try.ntmps10
  go_upto_region 1 with fail
  rw [← hW]
  have HW := Lib.hid hW
  clear hW
  go_wp2_with fail
  refine c0.mono ?_
  rintro e w' ⟨rfl, hw⟩
  subst w'
  go_wp2_with fail
  go_ret2
  exact ⟨rfl, G1.out⟩
set_option maxRecDepth 10000 in
set_option maxHeartbeats 4000000 in
theorem rPushE_ok (w : World) (v : Value) (l : List En) (h : RdIt w v l) (hn : l.length ≤ 100000) (mo a b r : Int) (hx : ∀ t ∈ l, t.id ≠ a) (hm : (l.length : Int) < mo) (z : Int) :
    Calls Try.prog 10 #[v, .int .i64 mo, .agg #[.int .i64 a, .int .i64 b, .int .i64 r]] w fun e w' => ∃ v', e = .returned (.tuple #[v', .int .i64 0]) ∧ Its w' w.heap.size v' (l ++ [⟨a, b, r, z⟩]) ∧ Grow w w' := by
  obtain ⟨W, hW⟩ : ∃ W, W = w.alloc (.cells #[.int .i64 a, .int .i64 b, .int .i64 r] 31) := ⟨_, rfl⟩
  obtain ⟨g1, b0, b1, b2⟩ := box_item w a b r hW
  have hbx : w.heap.size < W.heap.size := by rw [hW, show (w.alloc (.cells #[.int .i64 a, .int .i64 b, .int .i64 r] 31)).heap.size = w.heap.size + 1 from Array.size_push _]; omega
  have c0 := rPlaceE_any W v l (h.grow g1) (by omega) a (-1) (.inl ⟨hx, rfl⟩)
  have HV := Lib.hid (h.grow g1)
  obtain ⟨A, c, rfl, hlc, hcm⟩ := h.form
  have q0 : ¬ (mo ≤ (l.length : Int)) := by omega
  have G1 := Lib.hid g1
  obtain ⟨n, hnl⟩ : ∃ n, n = l.length := ⟨_, rfl⟩
  rw [← hnl] at HV c0 q0 hlc ⊢
  have HN : Hid (n = l.length ∧ n ≤ 100000) := ⟨hnl, by omega⟩
  have hcm2 : c ≤ 9223372036854775807 := hcm
  have HVk : Hid (∀ w1, Grow W w1 → RdK w1 3 (.slice A n c) n (l.flatMap it)) := fun w1 g => by
    have q := HV.out.grow g
    unfold RdIt at q
    rwa [← HN.out.1] at q
  clear h hn hx hm g1 hnl hcm hlc
  go_enter Try.func10, Try.ntmps10
  go_upto_region 1 with fail
  rw [← hW]
  have HW := Lib.hid hW
  clear hW
  go_wp2_with fail
  refine c0.mono ?_
  rintro e w' ⟨rfl, hw⟩
  subst w'
  clear c0
  have hBY : Hid (∀ w1, Grow W w1 → w1.cell? ⟨w.heap.size, 0, none⟩ = some (.int .i64 a) ∧ w1.cell? ⟨w.heap.size, 1, none⟩ = some (.int .i64 b) ∧ w1.cell? ⟨w.heap.size, 2, none⟩ = some (.int .i64 r)) :=
    fun w1 hg => ⟨(hg.cell (p := ⟨w.heap.size, 0, none⟩) hbx).trans b0, (hg.cell (p := ⟨w.heap.size, 1, none⟩) hbx).trans b1, (hg.cell (p := ⟨w.heap.size, 2, none⟩) hbx).trans b2⟩
  have hO0 : Hid (Its ((W.drew.alloc (.cells #[] 31)).alloc (.cells #[.int .i64 a, .int .i64 b, .int .i64 r] 31)) W.heap.size (.slice (some ⟨W.heap.size, 0, none⟩) 0 0) []) := (its_lit0 W.drew).grow (Grow.alloc _ _)
  have hg0 : Hid (Grow W ((W.drew.alloc (.cells #[] 31)).alloc (.cells #[.int .i64 a, .int .i64 b, .int .i64 r] 31))) := ((Grow.drew W).trans (Grow.alloc _ _)).trans (Grow.alloc _ _)
  have hO2' := ((its_lit0 (W.drew.alloc (.cells #[.int .i64 a, .int .i64 b, .int .i64 r] 31))).base_ (b' := W.heap.size) (by simp))
  simp only [World.size_alloc, World.size_drew] at hO2'
  have hO2 := Lib.hid hO2'
  clear hO2'
  have hg2 : Hid (Grow W ((W.drew.alloc (.cells #[.int .i64 a, .int .i64 b, .int .i64 r] 31)).alloc (.cells #[] 31))) := ((Grow.drew W).trans (Grow.alloc _ _)).trans (Grow.alloc _ _)
  have hL2 : Hid (∀ w1, ((W.drew.alloc (.cells #[.int .i64 a, .int .i64 b, .int .i64 r] 31)).alloc (.cells #[] 31)).grownBy w1 (Value.ownBlock (.slice (some ⟨W.heap.size + 1, 0, none⟩) 0 0)) → RdIt w1 (.slice (some ⟨W.heap.size, 0, none⟩) 1 1) [⟨a, b, r, z⟩]) := fun w1 hg => RdK.other (((its_lit_at W.drew ⟨a, b, r, z⟩ W.heap.size (by simp)).grow (Grow.alloc _ _)).rd) hg.size fun b hb hlt => hg.block b hlt fun e => by
    injection hb with hb
    injection e with e
    have h1 : W.heap.size = b := hb
    have h2 : b = W.heap.size + 1 := e
    omega
  have hL1 : Hid (∀ w1, ((W.drew.alloc (.cells #[] 31)).alloc (.cells #[.int .i64 a, .int .i64 b, .int .i64 r] 31)).grownBy w1 (Value.ownBlock (.slice (some ⟨W.heap.size, 0, none⟩) 0 0)) → RdIt w1 (.slice (some ⟨W.heap.size + 1, 0, none⟩) 1 1) [⟨a, b, r, z⟩]) := fun w1 hg => RdK.other ((its_lit_at (W.drew.alloc (.cells #[] 31)) ⟨a, b, r, z⟩ (W.heap.size + 1) (by simp)).rd) hg.size fun b hb hlt => hg.block b hlt fun e => by
    injection hb with hb
    injection e with e
    have h1 : W.heap.size + 1 = b := hb
    have h2 : b = W.heap.size := e
    omega
  go_upto_region 5 with fail
  go_region_law (first
    | (refine step_appK _ rfl (.tmp 19) (.tmp 20) 29 rfl 31 _ 3 24 Try.underlying29 infoIt rfl (by decide) W.heap.size _ _ 0 n [] _ rfl rfl (its_lit0 W.drew) (HVk.out _ ((Grow.drew _).trans (Grow.alloc _ _))) (it_one l) (by have := HN.out.2; omega) (by have := HN.out.2; unfold maxLen; omega) (by simp) ?_; intro v1 w1 ho1 hg1 hat1; rw [List.nil_append] at ho1; have hgw : Grow W w1 := ((Grow.drew W).trans (Grow.alloc _ _)).grown hg1 (by simp) (fun k hk => by cases hk; simp); obtain ⟨y0, y1, y2⟩ := hBY.out w1 hgw; have H1 := Lib.hid (And.intro ho1 hgw); clear ho1 hg1 hat1 hgw)
    | (refine step_appK _ rfl (.tmp 19) (.tmp 20) 29 rfl 31 _ 3 24 Try.underlying29 infoIt rfl (by decide) W.heap.size _ _ 0 n [] _ rfl rfl hO0.out (HVk.out _ hg0.out) (it_one l) (by have := HN.out.2; omega) (by have := HN.out.2; unfold maxLen; omega) hg0.out.size ?_; intro v1 w1 ho1 hg1 hat1; rw [List.nil_append] at ho1; have hgw : Grow W w1 := hg0.out.grown hg1 hg0.out.size (fun k hk => by cases hk; simp); have hLit := Lib.hid (hL1.out w1 hg1); have H1 := Lib.hid (And.intro ho1 hgw); clear ho1 hg1 hat1 hgw)
    | (refine step_appK _ rfl (.tmp 19) (.tmp 20) 29 rfl 31 _ 3 24 Try.underlying29 infoIt rfl (by decide) W.heap.size _ _ 0 n [] _ rfl rfl hO2.out (HVk.out _ hg2.out) (it_one l) (by have := HN.out.2; omega) (by have := HN.out.2; unfold maxLen; omega) hg2.out.size ?_; intro v1 w1 ho1 hg1 hat1; rw [List.nil_append] at ho1; have hgw : Grow W w1 := hg2.out.grown hg1 hg2.out.size (fun k hk => by cases hk; simp); have hLit := Lib.hid (hL2.out w1 hg1); have H1 := Lib.hid (And.intro ho1 hgw); clear ho1 hg1 hat1 hgw)
    | (refine step_appK _ rfl (.tmp 21) (.tmp 23) 29 rfl 31 _ 3 24 Try.underlying29 infoIt rfl (by decide) W.heap.size v1 _ _ 1 _ (it ⟨a, b, r, z⟩) rfl rfl (ownsRow_other H1.out.1 (fun b cs _ hh => (Grow.alloc _ _).block b (Array.getElem?_eq_some_iff.1 hh).1)) ((its_lit_at w1 ⟨a, b, r, z⟩ _ rfl).rd) (fun y hy => it_one [⟨a, b, r, z⟩] y (by simpa using hy)) (by have := HN.out.2; omega) (by have := HN.out.2; unfold maxLen; omega) (Nat.le_trans H1.out.2.size (Grow.alloc _ _).size) ?_; intro v2 w2 ho2 hg2 hat2; have hgw : Grow W w2 := (H1.out.2.trans (Grow.alloc _ _)).grown hg2 (Nat.le_trans H1.out.2.size (Grow.alloc _ _).size) (fun k hk => (World.ownsRow.lt H1.out.1 k hk).1); have H2 := Lib.hid (And.intro ho2 hgw); clear ho2 hg2 hat2 hgw)
    | (refine step_appK _ rfl (.tmp 21) (.tmp 23) 29 rfl 31 _ 3 24 Try.underlying29 infoIt rfl (by decide) W.heap.size v1 _ _ 1 _ (it ⟨a, b, r, z⟩) rfl rfl H1.out.1 hLit.out (fun y hy => it_one [⟨a, b, r, z⟩] y (by simpa using hy)) (by have := HN.out.2; omega) (by have := HN.out.2; unfold maxLen; omega) H1.out.2.size ?_; intro v2 w2 ho2 hg2 hat2; have hgw : Grow W w2 := H1.out.2.grown hg2 H1.out.2.size (fun k hk => (World.ownsRow.lt H1.out.1 k hk).1); have H2 := Lib.hid (And.intro ho2 hgw); clear ho2 hg2 hat2 hgw))
  all_goals
    go_wp2_with fail
    go_ret2
    refine ⟨v2, rfl, ?_, Grow.trans G1.out H2.out.2⟩
    have := ownsRow_base H2.out.1 G1.out.size
    unfold Its
    rw [List.flatMap_append, List.length_append, ← HN.out.1]
    simpa using this
/-- Two cells of an item laid anew. -/
theorem flat_it_set : ∀ (l : List En) (k : Nat) (x a r z : Int), k < l.length → (pt l k).id = x → (((l.flatMap it).set (k * 3 + 1) (.int .i64 a)).set (k * 3 + 2) (.int .i64 r)) = (l.set k ⟨x, a, r, z⟩).flatMap it
  | [], k, _, _, _, _, h, _ => absurd h (Nat.not_lt_zero _)
  | e :: l, 0, x, a, r, z, _, hx => by
    have : e.id = x := hx
    subst this
    simp [it, List.flatMap_cons]
  | e :: l, k + 1, x, a, r, z, h, hx => by
    have ih := flat_it_set l k x a r z (by simpa using h) (by simpa [pt] using hx)
    rw [List.set_cons_succ, List.flatMap_cons, List.flatMap_cons, ← ih]
    rw [show (k + 1) * 3 = k * 3 + 3 from by omega, show k * 3 + 3 + 1 = k * 3 + 1 + 3 from by omega, show k * 3 + 3 + 2 = k * 3 + 2 + 3 from by omega]
    rfl
/-- A row that is there: its block. -/
theorem its_blk {w : World} {base : Nat} {v : Value} {l : List En} (h : Its w base v l) (hp : 0 < l.length) : ∃ g c, v = .slice (some ⟨g, 0, none⟩) l.length c ∧ base ≤ g ∧ (∀ o, w.frozen? ⟨g, o, none⟩ = false) ∧
    ∀ k, k < l.length → w.cell? ⟨g, k * 3, none⟩ = some (.int .i64 (pt l k).id) ∧ w.cell? ⟨g, k * 3 + 1, none⟩ = some (.int .i64 (pt l k).at_) ∧ w.cell? ⟨g, k * 3 + 2, none⟩ = some (.int .i64 (pt l k).rk) := by
  rcases h.2 with ⟨h1, h2⟩ | ⟨g, c, cur, rfl, h2, h3, _⟩
  · rw [h2] at hp
    exact absurd hp (Nat.lt_irrefl _)
  · obtain ⟨b, off, c', e, _, hc⟩ := h.rd.cell hp
    injection e with e
    injection e with e
    injection e with e1 e2
    subst e1 e2
    refine ⟨g, c, rfl, h2, fun o => frozen_of h3, fun k hk => ?_⟩
    have := hc k hk
    rwa [Nat.zero_add] at this
/-- Two cells laid. -/
def set2 (w : World) (g o : Nat) (a r : Int) : World := (w.setCell ⟨g, o + 1, none⟩ (.int .i64 a)).setCell ⟨g, o + 2, none⟩ (.int .i64 r)
theorem its_set2 {w : World} {base g n c : Nat} {l : List En} (h : Its w base (.slice (some ⟨g, 0, none⟩) n c) l) {k : Nat} (hk : k < l.length) (a r : Int) : Its (set2 w g (k * 3) a r) base (.slice (some ⟨g, 0, none⟩) n c) (l.set k ⟨(pt l k).id, a, r, (pt l k).no⟩) := by
  have hn : n = l.length := by
    obtain ⟨A', c', e⟩ := h.form
    injection e
  subst hn
  unfold Its at h
  obtain ⟨r1, _⟩ := h.stored (k * 3 + 1) (.int .i64 a)
  obtain ⟨r2, _⟩ := r1.stored (k * 3 + 2) (.int .i64 r)
  rw [flat_it_set l k (pt l k).id a r (pt l k).no hk rfl] at r2
  unfold Its
  rw [List.length_set]
  exact r2
set_option maxHeartbeats 1000000 in
theorem rMoveE_none (w : World) (v : Value) (l : List En) (h : RdIt w v l) (hn : l.length ≤ 1000000) (x a r : Int) (hx : ∀ t ∈ l, t.id ≠ x) : Calls Try.prog 12 #[v, .int .i64 x, .int .i64 a, .int .i64 r] w fun e w' => e = .returned (.tuple #[v, .int .i64 6]) ∧ w' = w := by
  have c0 := rPlaceE_any w v l h hn x (-1) (.inl ⟨hx, rfl⟩)
  obtain ⟨A, c, rfl, _⟩ := h.form
  clear h hn hx
  go_enter Try.func12, Try.ntmps12
  go_wp2_with fail
  refine c0.mono ?_
  rintro e w' ⟨rfl, rfl⟩
  go_wp2_with fail
  go_ret2
  exact ⟨rfl, rfl⟩
set_option maxRecDepth 10000 in
set_option maxHeartbeats 4000000 in
theorem rMoveE_some (w : World) (v : Value) (l : List En) (h : RdIt w v l) (hn : l.length ≤ 100000) (hd : (l.map En.id).Nodup) (x a r : Int) (hx : ∃ t ∈ l, t.id = x) :
    Calls Try.prog 12 #[v, .int .i64 x, .int .i64 a, .int .i64 r] w fun e w' => ∃ v', e = .returned (.tuple #[v', .int .i64 0]) ∧ Its w' w.heap.size v' (mvE l x a r) ∧ Grow w w' := by
  obtain ⟨j, hj, hjx, hp, _⟩ := pos_nod hd hx
  have c0 := rPlaceE_any w v l h (by omega) x _ hp
  have hmv := Lib.hid (set_mv hd hj hjx a r)
  have HV := Lib.hid h
  obtain ⟨A, c, rfl, _, _⟩ := h.form
  obtain ⟨n, hnl⟩ : ∃ n, n = l.length := ⟨_, rfl⟩
  rw [← hnl] at HV c0 hj ⊢
  have HN : Hid (n = l.length ∧ n ≤ 100000 ∧ (pt l j).id = x ∧ j < n) := ⟨hnl, by omega, hjx, hj⟩
  have HVk : Hid (∀ w1, Grow w w1 → RdK w1 3 (.slice A n c) n (l.flatMap it)) := fun w1 g => by
    have q := HV.out.grow g
    unfold RdIt at q
    rwa [← HN.out.1] at q
  have q0 : ¬ ((j : Int) < 0) := by omega
  have q1 : (j : Int) < (n : Int) := by omega
  clear h hn hd hx hp hnl hjx hj
  go_enter Try.func12, Try.ntmps12
  go_wp2_with fail
  refine c0.mono ?_
  rintro e w' ⟨rfl, hw⟩
  subst w'
  clear c0
  go_wp2_with (at_builtin; refine wpList_appK _ rfl (.tmp 17) (.tmp 18) 29 rfl 31 _ 3 24 Try.underlying29 infoIt rfl (by decide) w.heap.size _ _ 0 n [] _ rfl rfl (its_lit0 w) (HVk.out _ (Grow.alloc _ _)) (it_one l) (by have := HN.out.2.1; omega) (by have := HN.out.2.1; unfold maxLen; omega) (by simp) ?_; intro v1 w1 ho1 hg1 hat1; rw [List.nil_append] at ho1; have hgw : Grow w w1 := (Grow.alloc _ _).grown hg1 (by simp) (fun k hk => by cases hk; exact Nat.le_refl _); have ho1' : Its w1 w.heap.size v1 l := (by unfold Its; rw [← HN.out.1]; simpa using ho1); obtain ⟨g, cp, hv1, hbg, f0, hc⟩ := its_blk ho1' (by have := HN.out; omega); rw [← HN.out.1] at hv1; subst hv1; obtain ⟨y0, y1, y2⟩ := hc j (by have := HN.out; omega); have H1 : Hid (Its w1 w.heap.size (.slice (some ⟨g, 0, none⟩) n cp) l ∧ Grow w w1 ∧ w.heap.size ≤ g) := ⟨ho1', hgw, hbg⟩; clear ho1 hg1 hat1 hgw ho1' hc y0 hbg)
  go_ret2
  have hb : w.heap.size ≤ g := H1.out.2.2
  refine ⟨_, rfl, ?_, Below.setCell (Below.setCell H1.out.2.1 hb _) hb _⟩
  have := its_set2 H1.out.1 (k := j) (by have := HN.out; omega) a r
  rw [HN.out.2.2.1, hmv.out] at this
  exact this
end Go.Proofs.Ytdgbieapgmjjhaa
