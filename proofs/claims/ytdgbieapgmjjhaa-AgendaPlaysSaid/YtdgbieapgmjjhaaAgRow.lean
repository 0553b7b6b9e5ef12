/- Rows of items: their fronts and tails; the reference's Drop. -/
import Derived.Test.YtdgbieapgmjjhaaAgApp
namespace Go.Proofs.Ytdgbieapgmjjhaa
set_option linter.unusedVariables false
set_option linter.unusedSimpArgs false
open Go.ChangeShapes Go.WideShapes Go.ChangeAt Go.RowKit

theorem it_take : ∀ (l : List En) (k : Nat), (l.take k).flatMap it = (l.flatMap it).take (k * 3)
  | [], k => by simp
  | t :: l, 0 => by simp
  | t :: l, k + 1 => by
    have := it_take l k
    rw [List.take_succ_cons, List.flatMap_cons, List.flatMap_cons, this, show (k + 1) * 3 = k * 3 + 1 + 1 + 1 from by omega]
    rfl
theorem it_drop : ∀ (l : List En) (k : Nat), (l.drop k).flatMap it = (l.flatMap it).drop (k * 3)
  | [], k => by simp
  | t :: l, 0 => by simp
  | t :: l, k + 1 => by
    have := it_drop l k
    rw [List.drop_succ_cons, List.flatMap_cons, this, show (k + 1) * 3 = k * 3 + 1 + 1 + 1 from by omega]
    rfl
theorem it_one (l : List En) : ∀ y ∈ l.flatMap it, y.oneCell' = true := by
  intro y hy
  obtain ⟨t, _, h⟩ := List.mem_flatMap.1 hy
  simp [it] at h
  rcases h with rfl | rfl | rfl <;> rfl
theorem its_lit0 (w : World) : Its (w.alloc (.cells #[] 31)) w.heap.size (.slice (some ⟨w.heap.size, 0, none⟩) 0 0) [] := World.ownsRow_lit w #[] 0 (Nat.le_refl _) (Nat.zero_le _) rfl
theorem its_app {w : World} {base n : Nat} {v : Value} {l l' : List En} (h : w.ownsRow base 31 3 v n (l.flatMap it ++ l'.flatMap it)) (hn : n = l.length + l'.length) : Its w base v (l ++ l') := by
  unfold Its
  rw [List.flatMap_append, List.length_append, ← hn]
  exact h
theorem RdIt.front {w : World} {A : Option Addr} {n c k : Nat} {l : List En} (h : RdIt w (.slice A n c) l) (hk : k ≤ n) : RdIt w (.slice A k c) (l.take k) := by
  obtain ⟨A', c', e, h0, h1, h2, h3⟩ := h
  cases e
  have hl : (l.take k).length = k := by rw [List.length_take]; omega
  refine ⟨A, c, by rw [hl], flat_it_len _, by omega, h2, fun hp => ?_⟩
  rw [hl] at hp
  obtain ⟨b, off, rfl, hb, hc⟩ := h3 (by omega)
  refine ⟨b, off, rfl, hb, fun j u hj => hc j u ?_⟩
  rw [it_take] at hj
  have hlt : j < k * 3 := by
    have := (List.getElem?_eq_some_iff.1 hj).1
    rw [List.length_take] at this
    omega
  rwa [List.getElem?_take_of_lt hlt] at hj
theorem RdIt.tail {w : World} {b off n c k : Nat} {l : List En} (h : RdIt w (.slice (some ⟨b, off, none⟩) n c) l) (hk : k ≤ n) : ∃ B : Addr, (if c = k then some (⟨b, off, none⟩ : Addr) else some ⟨b, off + k * 3, none⟩) = some B ∧ Hid (RdIt w (.slice (some B) (n - k) (c - k)) (l.drop k)) := by
  obtain ⟨A', c', e, h0, h1, h2, h3⟩ := h
  cases e
  have hl : (l.drop k).length = l.length - k := List.length_drop
  by_cases hc : c = k
  · refine ⟨⟨b, off, none⟩, by simp [hc], ?_⟩
    have e0 : l.length - k = 0 := by omega
    have e1 : l.drop k = [] := List.eq_nil_of_length_eq_zero (by rw [hl]; exact e0)
    rw [e1]
    exact ⟨_, _, by rw [e0]; rfl, rfl, by simp, by omega, fun h => absurd h (by simp)⟩
  · refine ⟨⟨b, off + k * 3, none⟩, by simp [hc], ?_⟩
    refine ⟨_, _, by rw [hl], flat_it_len _, by omega, by omega, fun hp => ?_⟩
    obtain ⟨b', off', e, hb, hcl⟩ := h3 (by omega)
    cases e
    refine ⟨b, off + k * 3, rfl, hb, fun j u hj => ?_⟩
    rw [it_drop, List.getElem?_drop] at hj
    have := hcl _ u hj
    rwa [← Nat.add_assoc] at this
/-- Where the first with this number lies, where there is one alone. -/
theorem pos_nod {L : List En} (hn : (L.map En.id).Nodup) {x : Int} (hx : ∃ e ∈ L, e.id = x) : ∃ j : Nat, j < L.length ∧ (pt L j).id = x ∧ PosE L x (j : Int) ∧ ∀ m, m < L.length → (pt L m).id = x → m = j := by
  obtain ⟨j, hj⟩ := posE_some hx
  rcases id hj with ⟨_, h⟩ | ⟨k, h1, h2, _, h4⟩
  · omega
  · obtain rfl : j = k := by omega
    exact ⟨j, h1, h2, hj, fun m hm he => ids_pt hn hm h1 (he.trans h2.symm)⟩
theorem erase_at {L : List En} (hn : (L.map En.id).Nodup) {j : Nat} (hj : j < L.length) : L.eraseIdx j = L.filter fun u => decide (u.id ≠ (pt L j).id) := by
  have key : pt L j = L[j] := by
    have := pt_get hj
    rw [List.getElem?_eq_getElem hj] at this
    exact (Option.some.inj this).symm
  have e2 : L = L.take j ++ pt L j :: L.drop (j + 1) := by
    rw [key, List.getElem_cons_drop, List.take_append_drop]
  have hn2 : ((L.take j).map En.id ++ (pt L j).id :: (L.drop (j + 1)).map En.id).Nodup := by
    have := hn
    rw [e2, List.map_append, List.map_cons] at this
    rw [← key] at *
    exact this
  obtain ⟨q1, q2, q3⟩ := List.nodup_append.1 hn2
  obtain ⟨q4, q5⟩ := List.nodup_cons.1 q2
  obtain ⟨y, hy⟩ : ∃ y, y = pt L j := ⟨_, rfl⟩
  rw [← hy] at q3 q4 e2 ⊢
  rw [List.eraseIdx_eq_take_drop_succ, congrArg (List.filter fun u : En => decide (u.id ≠ y.id)) e2, List.filter_append, List.filter_cons_of_neg (by simp)]
  congr 1
  · exact (List.filter_eq_self.2 fun u hu => decide_eq_true (show u.id ≠ y.id from q3 u.id (List.mem_map_of_mem hu) _ List.mem_cons_self)).symm
  · exact (List.filter_eq_self.2 fun u hu => decide_eq_true (show u.id ≠ y.id from fun e => q4 (by rw [← e]; exact List.mem_map_of_mem hu))).symm
set_option maxHeartbeats 1000000 in
theorem rDropE_none (w : World) (v : Value) (l : List En) (h : RdIt w v l) (hn : l.length ≤ 1000000) (x : Int) (hx : ∀ t ∈ l, t.id ≠ x) : Calls Try.prog 14 #[v, .int .i64 x] w fun e w' => e = .returned (.tuple #[v, .bool false]) ∧ w' = w := by
  have c0 := rPlaceE_any w v l h hn x (-1) (.inl ⟨hx, rfl⟩)
  obtain ⟨A, c, rfl, _⟩ := h.form
  clear h hn hx
  go_enter Try.func14, Try.ntmps14
  go_wp2_with fail
  refine c0.mono ?_
  rintro e w' ⟨rfl, rfl⟩
  go_wp2_with fail
  go_ret2
  exact ⟨rfl, rfl⟩
set_option maxRecDepth 10000 in
set_option maxHeartbeats 4000000 in
theorem rDropE_some (w : World) (v : Value) (l : List En) (h : RdIt w v l) (hn : l.length ≤ 1000000) (x : Int) (i : Nat) (hi : i < l.length) (hp : PosE l x (i : Int)) :
    Calls Try.prog 14 #[v, .int .i64 x] w fun e w' => ∃ v', e = .returned (.tuple #[v', .bool true]) ∧ Its w' w.heap.size v' (l.eraseIdx i) ∧ Grow w w' := by
  have c0 := rPlaceE_any w v l h hn x (i : Int) hp
  obtain ⟨b, off, c, rfl, hbl, _⟩ := h.cell (by omega)
  obtain ⟨A9, c9, e9, hlc, hcm⟩ := RdK.form h
  cases e9
  obtain ⟨N, hN⟩ : ∃ N, N = l.length := ⟨_, rfl⟩
  rw [← hN] at h c0 hn hi hlc ⊢
  obtain ⟨B, hBB, hTl0⟩ := RdIt.tail (l := l) (k := i + 1) h (by omega)
  have hTl : Hid (∀ w1, Grow w w1 → RdIt w1 (.slice (some B) (N - (i + 1)) (c - (i + 1))) (l.drop (i + 1))) := fun w1 hg => hTl0.out.grow hg
  have hFr : Hid (∀ w1, Grow w w1 → RdIt w1 (.slice (some ⟨b, off, none⟩) i c) (l.take i)) := fun w1 hg => (RdIt.front h (by omega)).grow hg
  have HL := Lib.hid (show (l.take i).length = i ∧ (l.drop (i + 1)).length = N - (i + 1) from ⟨by rw [List.length_take]; omega, by rw [List.length_drop, ← hN]⟩)
  unfold maxLen at hcm
  have q0 : ¬ ((i : Int) < 0) := by omega
  have q1 : (0 : Int) ≤ (i : Int) + 1 := by omega
  have q2 : (i : Int) + 1 ≤ (N : Int) := by omega
  have q3 : ((i : Int) + 1).toNat = i + 1 := by omega
  have q4 : (i : Int) ≤ (c : Int) := by omega
  have q6 : IntKind.i64.wrap ((i : Int) + 1) = (i : Int) + 1 := IntWalk.i64_in _ (by omega)
  have hE := Lib.hid (List.eraseIdx_eq_take_drop_succ l i)
  clear h hp hN hbl hTl0
  go_enter Try.func14, Try.ntmps14
  go_wp2_with fail
  refine c0.mono ?_
  rintro e w' ⟨rfl, hw⟩
  subst w'
  clear c0
  go_upto_region 4 with fail
  go_region_law (first
    | (refine step_appK _ rfl (.tmp 13) (.tmp 16) 29 rfl 31 _ 3 24 Try.underlying29 infoIt rfl (by decide) w.heap.size _ (.slice (some ⟨b, off, none⟩) i c) 0 _ [] _ rfl rfl (its_lit0 w.drew) (hFr.out _ ((Grow.drew _).trans (Grow.alloc _ _))) (it_one _) (by rw [HL.out.1]; omega) (by rw [HL.out.1]; unfold maxLen; omega) (by simp) ?_; intro v1 w1 ho1 hg1 hat1; have hgw1 : Grow w w1 := ((Grow.drew w).trans (Grow.alloc _ _)).grown hg1 (by simp) (fun k hk => by cases hk; simp); have H1 := Lib.hid (And.intro ho1 hgw1); clear ho1 hg1 hat1 hgw1)
    | (refine step_appK _ rfl (.tmp 17) (.tmp 21) 29 rfl 31 _ 3 24 Try.underlying29 infoIt rfl (by decide) w.heap.size v1 _ _ _ _ _ rfl rfl H1.out.1 (hTl.out _ H1.out.2) (it_one _) (by rw [HL.out.1, HL.out.2]; omega) (by rw [HL.out.1, HL.out.2]; unfold maxLen; omega) H1.out.2.size ?_; intro v2 w2 ho2 hg2 hat2; have hgw2 : Grow w w2 := H1.out.2.grown hg2 H1.out.2.size fun k hk => (World.ownsRow.lt H1.out.1 k hk).1; have H2 := Lib.hid (And.intro ho2 hgw2); clear ho2 hg2 hat2 hgw2))
  all_goals
    go_wp2_with fail
    go_ret2
    refine ⟨v2, rfl, ?_, H2.out.2⟩
    have := H2.out.1
    unfold Its
    rw [hE.out, List.flatMap_append, List.length_append]
    simpa using this
end Go.Proofs.Ytdgbieapgmjjhaa
