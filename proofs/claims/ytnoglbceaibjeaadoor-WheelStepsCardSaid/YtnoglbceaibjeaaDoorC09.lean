/- The reference's Stop and Set. -/
import Derived.Test.YtnoglbceaibjeaaDoorC05
import Derived.Test.YtnoglbceaibjeaaDoorC04
import Derived.Test.YtnoglbceaibjeaaDoorC08
import Derived.Test.YtnoglbceaibjeaaDoorRows
import Derived.ProofKit
import Derived.LaidMore
import Derived.LaidSub
import Derived.OpenShut
import Derived.Stop.Joined
import Derived.ChangeVars
import Derived.MakeChecks
import Derived.Lib.LaidTab
import Derived.Test.YtnoglbceaibjeaaDoorC01
import Derived.WideShapes
import Derived.ChangeSame
import Derived.ChangeArms
import Derived.Deep.Slices
namespace Go.Proofs.YtnoglbceaibjeaaDoor
set_option linter.unusedVariables false
set_option linter.unusedSimpArgs false
open Go.ChangeShapes Go.WideShapes Go.ChangeAt Go.RowKit Go.Shelf

theorem infoTi : (Tryd.prog.info? 74).map (fun i => (i.zero, i.size, i.bytes)) = some (some (.agg #[.int .i64 0, .int .i64 0]), 2, 16) := by kernel_rfl
theorem cT_app (l m : List Tm) : cT (l ++ m) = cT l ++ cT m := List.flatMap_append
theorem cT_take : ∀ (l : List Tm) (k : Nat), cT (l.take k) = (cT l).take (k * 2)
  | [], k => by simp [cT]
  | t :: l, 0 => by simp [cT]
  | t :: l, k + 1 => by
    have := cT_take l k
    unfold cT at *
    rw [List.take_succ_cons, List.flatMap_cons, List.flatMap_cons, this, show (k + 1) * 2 = k * 2 + 1 + 1 from by omega]
    rfl
theorem cT_drop : ∀ (l : List Tm) (k : Nat), cT (l.drop k) = (cT l).drop (k * 2)
  | [], k => by simp [cT]
  | t :: l, 0 => by simp [cT]
  | t :: l, k + 1 => by
    have := cT_drop l k
    unfold cT at *
    rw [List.drop_succ_cons, List.flatMap_cons, this, show (k + 1) * 2 = k * 2 + 1 + 1 from by omega]
    rfl
theorem cT_one (l : List Tm) : ∀ y ∈ cT l, y.oneCell' = true := by
  intro y hy
  unfold cT at hy
  obtain ⟨t, _, h⟩ := List.mem_flatMap.1 hy
  simp at h
  rcases h with rfl | rfl <;> rfl
/-- A row of the reference's timers, of the call's own. -/
def RTm (w : World) (base : Nat) (v : Value) (l : List Tm) : Prop := w.ownsRow base 74 2 v l.length (cT l)
theorem RTm.rd {w : World} {base : Nat} {v : Value} {l : List Tm} (h : RTm w base v l) : RdT w v l := RdK.of_own h
theorem RTm.grow {w w' : World} {base : Nat} {v : Value} {l : List Tm} (h : RTm w base v l) (g : Grow w w') : RTm w' base v l := ownsRow_other h fun b cs _ hh => g.block b (Array.getElem?_eq_some_iff.1 hh).1
theorem RTm.only {w w' : World} {base b0 : Nat} {v : Value} {l : List Tm} {Z : Nat → TypeId → Prop} (h : RTm w base v l) (o : Only b0 Z w w') (hz : ∀ b, ¬ Z b 74) : RTm w' base v l := o.row h fun g _ => hz g
theorem RTm.nil (w : World) (base : Nat) : RTm w base (.slice none 0 0) [] := ⟨rfl, .inl ⟨rfl, rfl⟩⟩
theorem RTm.form {w : World} {base : Nat} {v : Value} {l : List Tm} (h : RTm w base v l) : ∃ A c, v = .slice A l.length c ∧ l.length ≤ c ∧ c ≤ maxLen := (RdK.of_own h).form
theorem RTm.base {w : World} {b b' : Nat} {v : Value} {l : List Tm} (h : RTm w b v l) (hb : b' ≤ b) : RTm w b' v l := ownsRow_base h hb
theorem RTm.congr {w : World} {base : Nat} {v : Value} {l l' : List Tm} (h : RTm w base v l) (e : cT l' = cT l) : RTm w base v l' := by
  have hl : l'.length = l.length := by
    have := congrArg List.length e
    rw [cT_len, cT_len] at this
    omega
  unfold RTm
  rw [hl, e]
  exact h
theorem RTm.lit0 (w : World) : RTm (w.alloc (.cells #[] 74)) w.heap.size (.slice (some ⟨w.heap.size, 0, none⟩) 0 0) [] := World.ownsRow_lit w #[] 0 (Nat.le_refl _) (Nat.zero_le _) rfl
theorem RdT.front {w : World} {A : Option Addr} {n c k : Nat} {l : List Tm} (h : RdT w (.slice A n c) l) (hk : k ≤ n) : RdT w (.slice A k c) (l.take k) := by
  obtain ⟨A', c', e, h0, h1, h2, h3⟩ := h
  cases e
  have hl : (l.take k).length = k := by rw [List.length_take]; omega
  refine ⟨A, c, by rw [hl], cT_len _, by omega, h2, fun hp => ?_⟩
  rw [hl] at hp
  obtain ⟨b, off, rfl, hb, hc⟩ := h3 (by omega)
  refine ⟨b, off, rfl, hb, fun j u hj => hc j u ?_⟩
  rw [cT_take] at hj
  have hlt : j < k * 2 := by
    have := (List.getElem?_eq_some_iff.1 hj).1
    rw [List.length_take] at this
    omega
  rwa [List.getElem?_take_of_lt hlt] at hj
theorem RdT.tail {w : World} {b off n c k : Nat} {l : List Tm} (h : RdT w (.slice (some ⟨b, off, none⟩) n c) l) (hk : k ≤ n) : ∃ B : Addr, (if c = k then some (⟨b, off, none⟩ : Addr) else some ⟨b, off + k * 2, none⟩) = some B ∧ Hid (∀ w1, Grow w w1 → RdT w1 (.slice (some B) (n - k) (c - k)) (l.drop k)) := by
  obtain ⟨A', c', e, h0, h1, h2, h3⟩ := h
  cases e
  have hl : (l.drop k).length = l.length - k := List.length_drop
  by_cases hc : c = k
  · refine ⟨⟨b, off, none⟩, by simp [hc], fun w1 g => ?_⟩
    have e0 : l.length - k = 0 := by omega
    have e1 : l.drop k = [] := List.eq_nil_of_length_eq_zero (by rw [hl]; exact e0)
    rw [e1]
    exact ⟨_, _, by rw [e0]; rfl, rfl, by simp, by omega, fun h => absurd h (by simp)⟩
  · refine ⟨⟨b, off + k * 2, none⟩, by simp [hc], fun w1 g => ?_⟩
    refine ⟨_, _, by rw [hl], cT_len _, by omega, by omega, fun hp => ?_⟩
    obtain ⟨b', off', e, hb, hcl⟩ := h3 (by omega)
    cases e
    refine ⟨b, off + k * 2, rfl, Nat.lt_of_lt_of_le hb g.size, fun j u hj => ?_⟩
    rw [cT_drop, List.getElem?_drop] at hj
    have := (g.cell (p := ⟨b, off + (k * 2 + j), none⟩) hb).trans (hcl _ u hj)
    rwa [← Nat.add_assoc] at this
theorem RdT.grow {w w' : World} {v : Value} {l : List Tm} (h : RdT w v l) (g : Grow w w') : RdT w' v l := RdK.grow h g

set_option maxHeartbeats 1000000 in
theorem rStop_none (w : World) (v : Value) (l : List Tm) (h : RdT w v l) (hn : l.length ≤ 1000000) (x : Int) (hx : ∀ t ∈ l, t.id ≠ x) : Calls Tryd.prog 14 #[v, .int .i64 x] w fun e w' => e = .returned (.tuple #[v, .bool false]) ∧ w' = w := by
  have c0 := rplace_any w v l h hn x (-1) (.inl ⟨hx, rfl⟩)
  obtain ⟨A, c, rfl, _⟩ := h.parts
  clear h hn hx
  go_enter Tryd.func14, Tryd.ntmps14
  go_wp2_with fail
  refine c0.mono ?_
  rintro e w' ⟨rfl, rfl⟩
  go_wp2_with fail
  go_ret2
  exact ⟨rfl, rfl⟩
set_option maxRecDepth 10000 in
set_option maxHeartbeats 4000000 in
theorem rStop_some (w : World) (v : Value) (l : List Tm) (h : RdT w v l) (hn : l.length ≤ 1000000) (i : Nat) (t : Tm) (hi : l[i]? = some t) (hf : ∀ (j : Nat) (u : Tm), j < i → l[j]? = some u → u.id ≠ t.id) :
    Calls Tryd.prog 14 #[v, .int .i64 t.id] w fun e w' => ∃ v', e = .returned (.tuple #[v', .bool true]) ∧ RTm w' w.heap.size v' (l.eraseIdx i) ∧ Grow w w' := by
  have c0 := rplace_any w v l h hn t.id (i : Int) (.inr ⟨i, t, hi, rfl, hf, rfl⟩)
  have hil := (List.getElem?_eq_some_iff.1 hi).1
  obtain ⟨A, c, rfl, h1⟩ := h.parts
  obtain ⟨b, off, rfl, hbl, _⟩ := h1 (by omega)
  obtain ⟨A9, c9, e9, hlc, hcm⟩ := RdK.form h
  cases e9
  obtain ⟨N, hN⟩ : ∃ N, N = l.length := ⟨_, rfl⟩
  rw [← hN] at h c0 hn hil hlc ⊢
  obtain ⟨B, hBB, hTl⟩ := RdT.tail (l := l) (k := i + 1) h (by omega)
  have hFr : Hid (∀ w1, Grow w w1 → RdT w1 (.slice (some ⟨b, off, none⟩) i c) (l.take i)) := fun w1 hg => (RdT.front h (by omega)).grow hg
  have HL := Lib.hid (show (l.take i).length = i ∧ (l.drop (i + 1)).length = N - (i + 1) from ⟨by rw [List.length_take]; omega, by rw [List.length_drop, ← hN]⟩)
  unfold maxLen at hcm
  have q0 : ¬ ((i : Int) < 0) := by omega
  have q1 : (0 : Int) ≤ (i : Int) + 1 := by omega
  have q2 : (i : Int) + 1 ≤ (N : Int) := by omega
  have q3 : ((i : Int) + 1).toNat = i + 1 := by omega
  have q4 : (i : Int) ≤ (c : Int) := by omega
  have q6 : IntKind.i64.wrap ((i : Int) + 1) = (i : Int) + 1 := IntWalk.i64_in _ (by omega)
  have hiN : i < N := hil
  have hE := Lib.hid (List.eraseIdx_eq_take_drop_succ l i)
  clear h h1 hi hf hN hbl hil
  go_enter Tryd.func14, Tryd.ntmps14
  go_wp2_with fail
  refine c0.mono ?_
  rintro e w' ⟨rfl, hw⟩
  subst w'
  clear c0
  go_upto_region 4 with fail
  go_region_law (first
    | (refine step_appK _ rfl (.tmp 13) (.tmp 16) 29 rfl 74 _ 2 16 Tryd.underlying29 infoTi rfl (by decide) w.heap.size _ (.slice (some ⟨b, off, none⟩) i c) 0 _ [] _ rfl rfl (RTm.lit0 w.drew) (hFr.out _ ((Grow.drew _).trans (Grow.alloc _ _))) (cT_one _) (by rw [HL.out.1]; omega) (by rw [HL.out.1]; unfold maxLen; omega) (by simp) ?_; intro v1 w1 ho1 hg1 hat1; have hgw1 : Grow w w1 := ((Grow.drew w).trans (Grow.alloc _ _)).grown hg1 (by simp) (fun k hk => by cases hk; simp); have H1 := Lib.hid (And.intro ho1 hgw1); clear ho1 hg1 hat1 hgw1)
    | (refine step_appK _ rfl (.tmp 17) (.tmp 21) 29 rfl 74 _ 2 16 Tryd.underlying29 infoTi rfl (by decide) w.heap.size v1 _ _ _ _ _ rfl rfl H1.out.1 (hTl.out _ H1.out.2) (cT_one _) (by rw [HL.out.1, HL.out.2]; omega) (by rw [HL.out.1, HL.out.2]; unfold maxLen; omega) H1.out.2.size ?_; intro v2 w2 ho2 hg2 hat2; have hgw2 : Grow w w2 := H1.out.2.grown hg2 H1.out.2.size fun k hk => (World.ownsRow.lt H1.out.1 k hk).1; have H2 := Lib.hid (And.intro ho2 hgw2); clear ho2 hg2 hat2 hgw2))
  all_goals
    go_wp2_with fail
    go_ret2
    refine ⟨v2, rfl, ?_, H2.out.2⟩
    have := H2.out.1
    unfold RTm
    rw [hE.out, cT_app, List.length_append]
    simpa using this

/-- Where the first of an identifier stands. -/
theorem first_at {l : List Tm} (hn : (l.map Tm.id).Nodup) {t : Tm} (ht : t ∈ l) : ∃ i, l[i]? = some t ∧ (∀ (j : Nat) (u : Tm), j < i → l[j]? = some u → u.id ≠ t.id) ∧ l.eraseIdx i = l.filter fun u => decide (u.id ≠ t.id) := by
  obtain ⟨i, hi⟩ := List.getElem?_of_mem ht
  refine ⟨i, hi, fun j u hj hu e => ?_, erase_filter hn hi⟩
  have e1 : (l.map Tm.id)[i]? = some t.id := by rw [List.getElem?_map, hi]; rfl
  have e2 : (l.map Tm.id)[j]? = some t.id := by rw [List.getElem?_map, hu]; exact congrArg some e
  have := (List.getElem?_inj (List.getElem?_eq_some_iff.1 e2).1 hn).1 (e2.trans e1.symm)
  omega
theorem filter_none {l : List Tm} {x : Int} (h : ∀ t ∈ l, t.id ≠ x) : l.filter (fun u => decide (u.id ≠ x)) = l := List.filter_eq_self.2 fun u hu => decide_eq_true (h u hu)
/-- Stop, whatever is there. -/
theorem rStop_any (w : World) (base : Nat) (v : Value) (l : List Tm) (h : RTm w base v l) (hb : base ≤ w.heap.size) (hn : l.length ≤ 1000000) (hd : (l.map Tm.id).Nodup) (x : Int) :
    Calls Tryd.prog 14 #[v, .int .i64 x] w fun e w' => ∃ v', e = .returned (.tuple #[v', .bool (decide (∃ t ∈ l, t.id = x))]) ∧ RTm w' base v' (l.filter fun u => decide (u.id ≠ x)) ∧ Grow w w' := by
  by_cases hx : ∃ t ∈ l, t.id = x
  · rw [decide_eq_true hx]
    obtain ⟨t, ht, rfl⟩ := hx
    obtain ⟨i, hi, hf, he⟩ := first_at hd ht
    refine (rStop_some w v l h.rd hn i t hi hf).mono ?_
    rintro e w' ⟨v', rfl, h1, h2⟩
    rw [he] at h1
    exact ⟨v', rfl, h1.base hb, h2⟩
  · rw [decide_eq_false hx]
    have hx' : ∀ t ∈ l, t.id ≠ x := fun t ht e => hx ⟨t, ht, e⟩
    refine (rStop_none w v l h.rd hn x hx').mono ?_
    rintro e w' ⟨rfl, rfl⟩
    refine ⟨v, rfl, ?_, Grow.refl _⟩
    rw [filter_none hx']
    exact h
set_option maxHeartbeats 1000000 in
theorem rSet_range (w : World) (v : Value) (x y : Int) (hy : y < 0 ∨ 1099511627776 < y) (A : Option Addr) (n c : Nat) (hv : v = .slice A n c) :
    Calls Tryd.prog 12 #[v, .int .i64 x, .int .i64 y] w fun e w' => e = .returned (.tuple #[v, .int .i64 8]) ∧ w' = w := by
  subst hv
  by_cases h1 : y < 0
  · have d1 : decide (y < 0) = true := decide_eq_true h1
    clear hy
    go_enter Tryd.func12, Tryd.ntmps12
    go_wp2_with fail
    go_ret2
    exact ⟨rfl, rfl⟩
  · have d1 : decide (y < 0) = false := decide_eq_false h1
    have h2 : 1099511627776 < y := by omega
    clear hy
    go_enter Tryd.func12, Tryd.ntmps12
    go_wp2_with fail
    go_ret2
    exact ⟨rfl, rfl⟩
set_option maxHeartbeats 1000000 in
theorem rSet_full (w : World) (v : Value) (l : List Tm) (h : RdT w v l) (hn : l.length ≤ 1000000) (x y : Int) (h0 : 0 ≤ y) (h1 : y ≤ 1099511627776) (hx : ∀ t ∈ l, t.id ≠ x) (hl : 4096 ≤ l.length) :
    Calls Tryd.prog 12 #[v, .int .i64 x, .int .i64 y] w fun e w' => e = .returned (.tuple #[v, .int .i64 5]) ∧ w' = w := by
  have c0 := rplace_any w v l h hn x (-1) (.inl ⟨hx, rfl⟩)
  obtain ⟨A, c, rfl, _⟩ := h.parts
  obtain ⟨N, hN⟩ : ∃ N, N = l.length := ⟨_, rfl⟩
  rw [← hN] at c0 hl ⊢
  have i1 : (4096 : Int) ≤ (N : Int) := by omega
  clear h hn hx hN
  go_enter Tryd.func12, Tryd.ntmps12
  go_wp2_with fail
  refine c0.mono ?_
  rintro e w' ⟨rfl, rfl⟩
  go_wp2_with fail
  go_ret2
  exact ⟨rfl, rfl⟩
end Go.Proofs.YtnoglbceaibjeaaDoor
/- The reference's Set, of a timer that may be set. -/
namespace Go.Proofs.YtnoglbceaibjeaaDoor
set_option linter.unusedVariables false
set_option linter.unusedSimpArgs false
open Go.ChangeShapes Go.WideShapes Go.ChangeAt Go.RowKit Go.Shelf

theorem cT_blk (l : List Tm) (x : Int) (y b b' : Nat) : cT (l ++ [⟨x, y, b⟩]) = cT (l ++ [⟨x, y, b'⟩]) := by rw [cT_app, cT_app]; rfl
theorem rd_lit2 (w : World) (x y : Int) : RdK (w.alloc (.cells #[.int .i64 x, .int .i64 y] 74)) 2 (.slice (some ⟨w.heap.size, 0, none⟩) 1 1) 1 [.int .i64 x, .int .i64 y] :=
  RdK.of_own (World.ownsRow_lit (base := w.heap.size) (e := 74) (size := 2) w #[.int .i64 x, .int .i64 y] 1 (Nat.le_refl _) (by decide) rfl)
set_option maxRecDepth 10000 in
set_option maxHeartbeats 4000000 in
theorem rSet_tail (w : World) (base : Nat) (v : Value) (l : List Tm) (h : RTm w base v l) (hb : base ≤ w.heap.size) (hn : l.length ≤ 100000) (hd : (l.map Tm.id).Nodup) (x : Int) (y : Nat) (hy : y ≤ maxT) (r : Int) (hr : Pos l x r) (hp : r < 0 → l.length < 4096) :
    Calls Tryd.prog 12 #[v, .int .i64 x, .int .i64 (y : Int)] w fun e w' => ∃ v', e = .returned (.tuple #[v', .int .i64 0]) ∧ (∀ b, RTm w' base v' ((l.filter fun u => decide (u.id ≠ x)) ++ [⟨x, y, b⟩])) ∧ Grow w w' := by
  have c0 := rplace_any w v l h.rd (by omega) x r hr
  have c1 := rStop_any w base v l h hb (by omega) hd x
  obtain ⟨m, hm⟩ : ∃ m, m = l.filter fun u => decide (u.id ≠ x) := ⟨_, rfl⟩
  have hml : m.length ≤ l.length := by rw [hm]; exact List.length_filter_le _ _
  rw [← hm] at c1 ⊢
  obtain ⟨A, c, rfl, _⟩ := h.form
  obtain ⟨N, hN⟩ : ∃ N, N = l.length := ⟨_, rfl⟩
  rw [← hN] at c0 c1 hp ⊢
  have i1 : ¬ (1099511627776 < (y : Int)) := by unfold maxT at hy; omega
  have i2 : ¬ ((y : Int) < 0) := by omega
  have HL : Hid (m.length ≤ 100000 ∧ base ≤ w.heap.size) := ⟨by omega, hb⟩
  generalize decide (∃ t ∈ l, t.id = x) = bb at *
  have hcase : (r = -1 ∧ N < 4096) ∨ ∃ i : Nat, r = (i : Int) := by
    rcases hr with ⟨_, rfl⟩ | ⟨i, _, _, _, _, rfl⟩
    · exact .inl ⟨rfl, hp (by omega)⟩
    · exact .inr ⟨i, rfl⟩
  clear h hd hn hb hy hr hm hml hN hp
  rcases hcase with ⟨rfl, q2⟩ | ⟨i, rfl⟩
  all_goals
    try have d3 : decide ((4096 : Int) ≤ (N : Int)) = false := decide_eq_false (by omega)
    try clear q2
    try have q0 : ¬ ((i : Int) < 0) := (by omega)
    go_enter Tryd.func12, Tryd.ntmps12
    go_wp2_with fail
    refine c0.mono ?_
    rintro e w' ⟨rfl, hw⟩
    subst w'
    clear c0
    go_wp2_with fail
    refine c1.mono ?_
    rintro e w1 ⟨v1, rfl, h1, g1⟩
    have H1 := Lib.hid (And.intro h1 g1)
    clear c1 h1 g1
    try clear d3
    try clear q0
    go_wp2_with (first
      | (at_builtin; refine wpList_appK _ rfl (.tmp 35) (.tmp 39) 29 rfl 74 _ 2 16 Tryd.underlying29 infoTi rfl (by decide) w.heap.size v2 _ m.length 1 _ _ rfl rfl (H2.out.1.grow (Grow.alloc _ _)) (rd_lit2 w2 x (y : Int)) (fun z hz => by simp at hz; rcases hz with rfl | rfl <;> rfl) (by have := HL.out.1; omega) (by have := HL.out.1; unfold maxLen; omega) (Nat.le_trans H2.out.2.size (Grow.alloc _ _).size) ?_; intro v3 w3 ho3 hg3 hat3; have H3 : Hid (w3.ownsRow w.heap.size 74 2 v3 (m.length + 1) (cT m ++ [.int .i64 x, .int .i64 (y : Int)]) ∧ Grow w w3) := ⟨ho3, (H2.out.2.trans (Grow.alloc _ _)).grown hg3 (Nat.le_trans H2.out.2.size (Grow.alloc _ _).size) fun k hk => (World.ownsRow.lt H2.out.1 k hk).1⟩; clear ho3 hg3 hat3)
      | (at_builtin; refine wpList_appK _ rfl (.tmp 33) (.tmp 34) 29 rfl 74 _ 2 16 Tryd.underlying29 infoTi rfl (by decide) w1.heap.size _ v1 0 m.length [] _ rfl rfl (RTm.lit0 w1) ((RTm.rd H1.out.1).grow (Grow.alloc _ _)) (cT_one _) (by have := HL.out.1; omega) (by have := HL.out.1; unfold maxLen; omega) (by simp) ?_; intro v2 w2 ho2 hg2 hat2; have H2 : Hid (RTm w2 w.heap.size v2 m ∧ Grow w w2) := ⟨by have := ownsRow_base ho2 H1.out.2.size; simpa [RTm] using this, (H1.out.2.trans (Grow.alloc _ _)).grown hg2 (Nat.le_trans H1.out.2.size (Grow.alloc _ _).size) (fun k hk => by cases hk; exact H1.out.2.size)⟩; clear ho2 hg2 hat2))
    go_ret2
    refine ⟨v3, rfl, fun b => ?_, H3.out.2⟩
    have := H3.out.1
    unfold RTm
    rw [cT_app, List.length_append]
    exact ownsRow_base this HL.out.2
theorem rSet_ok (w : World) (base : Nat) (v : Value) (l : List Tm) (h : RTm w base v l) (hb : base ≤ w.heap.size) (hn : l.length ≤ 100000) (hd : (l.map Tm.id).Nodup) (x : Int) (y : Nat) (hy : y ≤ maxT) (hp : (∃ t ∈ l, t.id = x) ∨ l.length < 4096) :
    Calls Tryd.prog 12 #[v, .int .i64 x, .int .i64 (y : Int)] w fun e w' => ∃ v', e = .returned (.tuple #[v', .int .i64 0]) ∧ (∀ b, RTm w' base v' ((l.filter fun u => decide (u.id ≠ x)) ++ [⟨x, y, b⟩])) ∧ Grow w w' := by
  by_cases hx : ∃ t ∈ l, t.id = x
  · obtain ⟨t, ht, rfl⟩ := hx
    obtain ⟨i, hi, hf, _⟩ := first_at hd ht
    exact rSet_tail w base v l h hb hn hd t.id y hy (i : Int) (.inr ⟨i, t, hi, rfl, hf, rfl⟩) (fun e => by omega)
  · have hx' : ∀ t ∈ l, t.id ≠ x := fun t ht e => hx ⟨t, ht, e⟩
    exact rSet_tail w base v l h hb hn hd x y hy (-1) (.inl ⟨hx', rfl⟩) (fun _ => hp.resolve_left hx)
end Go.Proofs.YtnoglbceaibjeaaDoor
/- The reference's Tick. -/
namespace Go.Proofs.YtnoglbceaibjeaaDoor
set_option linter.unusedVariables false
set_option linter.unusedSimpArgs false
open Go.ChangeShapes Go.WideShapes Go.ChangeAt Go.RowKit Go.Shelf
attribute [local irreducible] wpQuiet

abbrev tkJ (t : Tm) : Int := (t.tk : Int)
/-- The first of those that are due first, among the first k. -/
def Best (l : List Tm) (now k : Nat) (r : Int) : Prop :=
  (r = -1 ∧ ∀ (j : Nat) (u : Tm), j < k → l[j]? = some u → ¬ u.tk ≤ now) ∨
  ∃ (b : Nat) (t : Tm), r = (b : Int) ∧ b < k ∧ l[b]? = some t ∧ t.tk ≤ now ∧ (∀ (j : Nat) (u : Tm), j < b → l[j]? = some u → u.tk ≤ now → t.tk < u.tk) ∧ (∀ (j : Nat) (u : Tm), j < k → l[j]? = some u → u.tk ≤ now → t.tk ≤ u.tk)
theorem Best.late {l : List Tm} {now k : Nat} {r : Int} {u : Tm} (h : Best l now k r) (hu : l[k]? = some u) (hl : ¬ u.tk ≤ now) : Best l now (k + 1) r := by
  rcases h with ⟨h1, h2⟩ | ⟨b, t, h1, h2, h3, h4, h5, h6⟩
  · refine .inl ⟨h1, fun j v hj hv => ?_⟩
    rcases Nat.lt_or_ge j k with q | q
    · exact h2 j v q hv
    · obtain rfl : j = k := by omega
      rw [hu] at hv
      cases hv
      exact hl
  · refine .inr ⟨b, t, h1, by omega, h3, h4, h5, fun j v hj hv hd => ?_⟩
    rcases Nat.lt_or_ge j k with q | q
    · exact h6 j v q hv hd
    · obtain rfl : j = k := by omega
      rw [hu] at hv
      cases hv
      exact absurd hd hl
theorem Best.first {l : List Tm} {now k : Nat} {u : Tm} (h : Best l now k (-1)) (hu : l[k]? = some u) (hl : u.tk ≤ now) : Best l now (k + 1) (k : Int) := by
  rcases h with ⟨h1, h2⟩ | ⟨b, t, h1, _⟩
  · refine .inr ⟨k, u, rfl, Nat.lt_succ_self k, hu, hl, fun j v hj hv hd => absurd hd (h2 j v hj hv), fun j v hj hv hd => ?_⟩
    rcases Nat.lt_or_ge j k with q | q
    · exact absurd hd (h2 j v q hv)
    · obtain rfl : j = k := by omega
      rw [hu] at hv
      cases hv
      exact Nat.le_refl _
  · omega
theorem Best.less {l : List Tm} {now k b : Nat} {u t : Tm} (h : Best l now k (b : Int)) (ht : l[b]? = some t) (hu : l[k]? = some u) (hl : u.tk < t.tk) (hn : u.tk ≤ now) : Best l now (k + 1) (k : Int) := by
  rcases h with ⟨h1, _⟩ | ⟨b', t', h1, h2, h3, h4, h5, h6⟩
  · omega
  · obtain rfl : b = b' := by omega
    rw [ht] at h3
    cases h3
    refine .inr ⟨k, u, rfl, Nat.lt_succ_self k, hu, hn, fun j v hj hv hd => ?_, fun j v hj hv hd => ?_⟩
    · have := h6 j v hj hv hd; omega
    · rcases Nat.lt_or_ge j k with q | q
      · have := h6 j v q hv hd; omega
      · obtain rfl : j = k := by omega
        rw [hu] at hv
        cases hv
        exact Nat.le_refl _
theorem Best.more {l : List Tm} {now k b : Nat} {u t : Tm} (h : Best l now k (b : Int)) (ht : l[b]? = some t) (hu : l[k]? = some u) (hl : ¬ u.tk < t.tk) : Best l now (k + 1) (b : Int) := by
  rcases h with ⟨h1, _⟩ | ⟨b', t', h1, h2, h3, h4, h5, h6⟩
  · omega
  · obtain rfl : b = b' := by omega
    rw [ht] at h3
    cases h3
    refine .inr ⟨b, t, rfl, by omega, ht, h4, h5, fun j v hj hv hd => ?_⟩
    rcases Nat.lt_or_ge j k with q | q
    · exact h6 j v q hv hd
    · obtain rfl : j = k := by omega
      rw [hu] at hv
      cases hv
      omega
/-- What is told so far, and what is left. -/
structure OutL (now : Nat) (L l D : List Tm) : Prop where
  srt : Srt tkJ D
  le : ∀ d ∈ D, ∀ u ∈ l, u.tk ≤ now → d.tk ≤ u.tk
  stb : Stb tkJ (D ++ l.filter fun t => decide (t.tk ≤ now)) (L.filter fun t => decide (t.tk ≤ now))
  lft : left now l = left now L
  len : D.length + l.length = L.length
theorem OutL.start (now : Nat) (L : List Tm) : OutL now L L [] := ⟨srt_nil, (fun d hd => by cases hd), by rw [List.nil_append]; exact Stb.refl _, rfl, by simp⟩
theorem OutL.step {now : Nat} {L l D : List Tm} (h : OutL now L l D) {b : Nat} {t : Tm} (hk : Best l now l.length (b : Int)) (ht : l[b]? = some t) : OutL now L (l.eraseIdx b) (D ++ [t]) := by
  rcases hk with ⟨h1, _⟩ | ⟨b', t', h1, h2, h3, h4, h5, h6⟩
  · omega
  · obtain rfl : b = b' := by omega
    rw [ht] at h3
    cases h3
    obtain ⟨hbl, hbt⟩ := List.getElem?_eq_some_iff.1 ht
    have e : l = l.take b ++ t :: l.drop (b + 1) := by
      rw [← hbt, List.getElem_cons_drop, List.take_append_drop]
    have e2 : l.eraseIdx b = l.take b ++ l.drop (b + 1) := List.eraseIdx_eq_take_drop_succ _ _
    have hmem : ∀ u ∈ l.eraseIdx b, u ∈ l := fun u hu => List.mem_of_mem_eraseIdx hu
    have hmin : ∀ u ∈ l, u.tk ≤ now → t.tk ≤ u.tk := by
      intro u hu hd
      obtain ⟨j, hj⟩ := List.getElem?_of_mem hu
      exact h6 j u (List.getElem?_eq_some_iff.1 hj).1 hj hd
    refine ⟨srt_app.2 ⟨h.srt, srt_one _, fun d hd x hx => ?_⟩, ?_, ?_, ?_, ?_⟩
    · rw [List.mem_singleton.1 hx]
      have := h.le d hd t (List.mem_of_getElem? ht) h4
      show (d.tk : Int) ≤ (t.tk : Int)
      omega
    · intro d hd u hu hdu
      rcases List.mem_append.1 hd with q | q
      · exact h.le d q u (hmem u hu) hdu
      · rw [List.mem_singleton.1 q]
        exact hmin u (hmem u hu) hdu
    · have hst := h.stb
      rw [e] at hst
      rw [e2]
      refine Stb.trans ?_ hst
      rw [List.filter_append, List.filter_append, List.filter_cons_of_pos (p := fun t : Tm => decide (t.tk ≤ now)) (decide_eq_true h4), List.append_assoc]
      refine (Stb.refl D).app ?_
      have e3 : [t] ++ ((l.take b).filter (fun t => decide (t.tk ≤ now)) ++ (l.drop (b + 1)).filter fun t => decide (t.tk ≤ now)) = ([t] ++ (l.take b).filter fun t => decide (t.tk ≤ now)) ++ (l.drop (b + 1)).filter fun t => decide (t.tk ≤ now) := by simp
      have e4 : (l.take b).filter (fun t => decide (t.tk ≤ now)) ++ t :: (l.drop (b + 1)).filter (fun t => decide (t.tk ≤ now)) = ((l.take b).filter (fun t => decide (t.tk ≤ now)) ++ [t]) ++ (l.drop (b + 1)).filter fun t => decide (t.tk ≤ now) := by simp
      rw [e3, e4]
      refine Stb.app (Stb.comm ?_) (Stb.refl _)
      intro x hx u hu
      rw [List.mem_singleton.1 hx]
      obtain ⟨u1, u2⟩ := List.mem_filter.1 hu
      obtain ⟨j, hj⟩ := List.getElem?_of_mem u1
      rw [List.getElem?_take] at hj
      split at hj
      · have := h5 j u (by assumption) hj (of_decide_eq_true u2)
        show (t.tk : Int) ≠ (u.tk : Int)
        omega
      · cases hj
    · rw [← h.lft, e2]
      have e5 : left now l = left now (l.take b) ++ left now (l.drop (b + 1)) := by
        conv => lhs; rw [e]
        unfold left
        rw [List.filter_append, List.filter_cons_of_neg (by simp; omega)]
      rw [e5]
      unfold left
      rw [List.filter_append]
    · have := h.len
      rw [List.length_append, List.length_eraseIdx_of_lt hbl]
      simp
      omega
theorem OutL.stop {now : Nat} {L l D : List Tm} (h : OutL now L l D) (hk : Best l now l.length (-1)) : l = left now L ∧ Srt tkJ D ∧ Stb tkJ D (L.filter fun t => decide (t.tk ≤ now)) := by
  rcases hk with ⟨h1, h2⟩ | ⟨b', t', h1, _⟩
  · have hn : ∀ u ∈ l, ¬ u.tk ≤ now := by
      intro u hu
      obtain ⟨j, hj⟩ := List.getElem?_of_mem hu
      exact h2 j u (List.getElem?_eq_some_iff.1 hj).1 hj
    have e1 : l.filter (fun t => decide (t.tk ≤ now)) = [] := by
      rw [List.filter_eq_nil_iff]
      intro u hu q
      exact hn u hu (of_decide_eq_true q)
    have e2 : left now l = l := List.filter_eq_self.2 fun u hu => decide_eq_true (by have := hn u hu; omega)
    refine ⟨by rw [← h.lft, e2], h.srt, ?_⟩
    have := h.stb
    rw [e1, List.append_nil] at this
    exact this
  · omega

set_option maxRecDepth 10000 in
set_option maxHeartbeats 8000000 in
theorem rTick_any (w : World) (base : Nat) (v : Value) (L : List Tm) (now : Nat) (h : RTm w base v L) (hb : base ≤ w.heap.size) (hn : L.length ≤ 100000) :
    Calls Tryd.prog 16 #[v, .int .i64 (now : Int)] w fun e w' => ∃ (v1 v2 : Value) (D : List Tm), e = .returned (.tuple #[v1, v2]) ∧ RTm w' base v1 (left now L) ∧ Irow w' w.heap.size v2 D ∧ Srt tkJ D ∧ Stb tkJ D (L.filter fun t => decide (t.tk ≤ now)) ∧ Grow w w' := by
  have H0 := Lib.hid h
  have HB := Lib.hid (And.intro hb hn)
  obtain ⟨A0, c0, hv, _⟩ := h.form
  clear h hb hn
  obtain ⟨N0, hN0⟩ : ∃ N0, N0 = L.length := ⟨_, rfl⟩
  rw [← hN0] at hv
  subst hv
  have HN0 := Lib.hid hN0
  clear hN0
  go_enter Tryd.func16, Tryd.ntmps16
  go_wp2_with fail
  go_loopg [0, 6] L.length (fun gk s0 s6 wr => ∃ (l D : List Tm) (A : Option Addr) (n c : Nat), gk = l.length ∧ s0 = .slice A n c ∧ Hid (n = l.length ∧ RTm wr base (.slice A n c) l ∧ Irow wr w.heap.size s6 D ∧ Grow w wr ∧ OutL now L l D))
  case atStart => exact ⟨L, [], A0, N0, c0, rfl, rfl, HN0.out, H0.out, ⟨rfl, .inl ⟨rfl, rfl⟩⟩, Grow.refl _, OutL.start _ _⟩
  case round =>
    obtain ⟨l, D, A, n, c, rfl, rfl, HR⟩ := hrel
    rename World => wo
    go_wp2_with fail
    go_loopg [7, 8] n (fun gk s7 s8 wr => ∃ (k : Nat) (r : Int), gk = n - k ∧ s7 = .int .i64 r ∧ s8 = .int .i64 (k : Int) ∧ Hid (k ≤ n ∧ Best l now k r ∧ Grow wo wr))
    case atStart => exact ⟨0, -1, rfl, rfl, rfl, Nat.zero_le _, .inl ⟨rfl, fun j u hj => absurd hj (Nat.not_lt_zero _)⟩, Grow.refl _⟩
    case round =>
      obtain ⟨k, r, rfl, rfl, rfl, HU⟩ := hrel
      rcases Nat.lt_or_ge k n with hlt | hge
      · have hnl := HR.out.1
        have hrd := (RTm.rd (HR.out.2.1.grow HU.out.2.2)).parts
        obtain ⟨A', c', e1, h1⟩ := hrd
        obtain ⟨g, off, hg, hgl, hc⟩ := h1 (by omega)
        have e2 : A = some ⟨g, off, none⟩ := by
          rw [hg] at e1
          injection e1
        obtain ⟨u, hu⟩ : ∃ u, l[k]? = some u := ⟨_, List.getElem?_eq_getElem (by omega)⟩
        have k0 := (hc k u hu).2
        have i0 : (k : Int) < (n : Int) := by omega
        obtain ⟨k1, hk1⟩ : ∃ k1, k1 = k + 1 := ⟨_, rfl⟩
        have hN := HB.out.2
        have hOl := HR.out.2.2.2.2.len
        have n1 : (k : Int) + 1 = (k1 : Int) := by omega
        have n2 : IntKind.i64.wrap (k1 : Int) = (k1 : Int) := IntWalk.i64_in _ (by omega)
        have n3 : IntKind.i64.wrap ((k : Int) + 1) = (k1 : Int) := by rw [n1]; exact n2
        have HK : Hid (k1 = k + 1 ∧ k < n ∧ l[k]? = some u) := ⟨hk1, hlt, hu⟩
        have HC : Hid (∀ (b : Nat) (t : Tm), l[b]? = some t → wr.cell? ⟨g, off + b * 2 + 1, none⟩ = some (.int .i64 (t.tk : Int))) := fun b t hb => (hc b t hb).2
        have HGL := Lib.hid hgl
        subst e2
        clear hnl e1 h1 hg hgl hc hu hk1 hN hOl hlt
        by_cases hd : u.tk ≤ now
        · have d1 : decide ((u.tk : Int) ≤ (now : Int)) = true := decide_eq_true (by omega)
          have d1' : (u.tk : Int) ≤ (now : Int) := by omega
          rcases id HU.out.2.1 with ⟨hr, _⟩ | ⟨b, t, hr, hbk, hbt, _⟩
          · subst hr
            have HD := Lib.hid hd
            clear hd
            go_wp2_with fail
            go_quiet (fail)
            go_wp2_with fail
            go_roundg (n - k1)
            case measure => have := HK.out; omega
            case rel => exact ⟨k1, _, rfl, rfl, rfl, by have := HK.out; omega, by rw [HK.out.1]; exact HU.out.2.1.first HK.out.2.2 HD.out, HU.out.2.2.trans ⟨rfl, rfl, rfl, Nat.le_refl _, fun _ _ => rfl⟩⟩
          · subst hr
            have k2 := HC.out b t hbt
            have i1 : (b : Int) < (n : Int) := by have := HK.out; omega
            have i2 : ¬ ((b : Int) < 0) := by omega
            have i3 : decide ((b : Int) < 0) = false := decide_eq_false i2
            have HD := Lib.hid (And.intro hd hbt)
            clear hd hbk hbt
            by_cases hl : u.tk < t.tk
            · have d2 : decide ((u.tk : Int) < (t.tk : Int)) = true := decide_eq_true (by omega)
              have HL := Lib.hid hl
              clear hl
              go_wp2_with fail
              go_quiet (fail)
              go_wp2_with fail
              go_roundg (n - k1)
              case measure => have := HK.out; omega
              case rel => exact ⟨k1, _, rfl, rfl, rfl, by have := HK.out; omega, by rw [HK.out.1]; exact HU.out.2.1.less HD.out.2 HK.out.2.2 HL.out HD.out.1, HU.out.2.2.trans ⟨rfl, rfl, rfl, Nat.le_refl _, fun _ _ => rfl⟩⟩
            · have d2 : decide ((u.tk : Int) < (t.tk : Int)) = false := decide_eq_false (by omega)
              have HL := Lib.hid hl
              clear hl
              go_wp2_with fail
              go_quiet (fail)
              go_wp2_with fail
              go_roundg (n - k1)
              case measure => have := HK.out; omega
              case rel => exact ⟨k1, _, rfl, rfl, rfl, by have := HK.out; omega, by rw [HK.out.1]; exact HU.out.2.1.more HD.out.2 HK.out.2.2 HL.out, HU.out.2.2.trans ⟨rfl, rfl, rfl, Nat.le_refl _, fun _ _ => rfl⟩⟩
        · have d1 : decide ((u.tk : Int) ≤ (now : Int)) = false := decide_eq_false (by omega)
          have d1n : decide (u.tk ≤ now) = false := decide_eq_false hd
          have HD := Lib.hid hd
          have hgl := HGL.out
          have e0 := fun p : Gw wr => Gw.cell hgl k0 p
          clear hd k0 hgl
          go_wp2_with fail
          refine wp_region_gw (by kernel_rfl) (by kernel_rfl) ?_
          repeat (quiet_step (fail))
          refine wpQuiet_nil ?_
          intro _ hw'
          obtain ⟨⟨wq, hgq⟩, hw2⟩ := hw'
          subst hw2
          clear e0
          go_wp2_with fail
          go_roundg (n - k1)
          case measure => have := HK.out; omega
          case rel => exact ⟨k1, _, rfl, rfl, rfl, by have := HK.out; omega, by rw [HK.out.1]; exact HU.out.2.1.late HK.out.2.2 HD.out, HU.out.2.2.trans hgq⟩
      · obtain rfl : k = n := by have := HU.out.1; omega
        rename World => wi
        have hnl := HR.out.1
        have hBest := HU.out.2.1
        rw [hnl] at hBest
        rcases id hBest with ⟨hr, _⟩ | ⟨b, t, hr, hbk, hbt, _⟩
        · subst hr
          obtain ⟨f1, f2, f3⟩ := HR.out.2.2.2.2.stop hBest
          have HF : Hid (RTm wi base (.slice A k c) (left now L) ∧ Irow wi w.heap.size u6 D ∧ Grow w wi) := ⟨by rw [← f1]; exact HR.out.2.1.grow HU.out.2.2, HR.out.2.2.1.grow HU.out.2.2, HR.out.2.2.2.1.trans HU.out.2.2⟩
          have HF2 := Lib.hid (And.intro f2 f3)
          clear f1 f2 f3 hnl hBest
          go_wp2_with fail
          go_ret2
          exact ⟨_, _, D, rfl, HF.out.1, HF.out.2.1, HF2.out.1, HF2.out.2, HF.out.2.2⟩
        · subst hr
          have HO := Lib.hid (OutL.step HR.out.2.2.2.2 hBest hbt)
          have hw0 : RTm wi base (.slice A k c) l := HR.out.2.1.grow HU.out.2.2
          obtain ⟨A', c', e1, h1⟩ := (RTm.rd hw0).parts
          obtain ⟨g, off, hg, hgl, hc⟩ := h1 (by omega)
          have e2 : A = some ⟨g, off, none⟩ := by
            rw [hg] at e1
            injection e1
          have k0 := (hc b t hbt).1
          have hN := HB.out.2
          have hOl := HR.out.2.2.2.2.len
          obtain ⟨_, _, e4, hkc, hcm⟩ := RTm.form hw0
          have i0 : ¬ ((b : Int) < 0) := by omega
          have i1 : (b : Int) < (k : Int) := by omega
          subst e2
          have hrow : Irow wi w.heap.size u6 D := HR.out.2.2.1.grow HU.out.2.2
          obtain ⟨A6, c6, e6⟩ := hrow.form
          obtain ⟨n6, hn6⟩ : ∃ n6, n6 = D.length := ⟨_, rfl⟩
          rw [← hn6] at e6
          subst e6
          have HX : Hid (RTm wi base (.slice (some ⟨g, off, none⟩) k c) l ∧ Irow wi w.heap.size (.slice A6 n6 c6) D ∧ w.heap.size ≤ wi.heap.size ∧ D.length ≤ 1000000 ∧ Grow w wi ∧ b < k ∧ k ≤ 100000 ∧ l[b]? = some t ∧ k = l.length) := ⟨hw0, hrow, (HR.out.2.2.2.1.trans HU.out.2.2).size, by omega, HR.out.2.2.2.1.trans HU.out.2.2, by omega, by omega, hbt, hnl⟩
          clear hnl hBest hbk hbt hw0 e1 h1 hg hgl hc hN hOl hkc hcm e4 hrow hn6
          go_upto_region 11 with (at_builtin; refine run_iapp wi w.heap.size (.slice A6 n6 c6) D t HX.out.2.1 HX.out.2.2.1 HX.out.2.2.2.1 rfl (.tmp 44) (.tmp 50) rfl rfl rfl ?_; intro v5 w5 hr5 o5; have H5 := Lib.hid (And.intro hr5 o5); clear hr5 o5 k0)
          have zT : ∀ b, ¬ Zi b 74 := fun b e => absurd (show 74 = 3 from e) (by decide)
          have h5 : RTm w5 base (.slice (some ⟨g, off, none⟩) k c) l := HX.out.1.only H5.out.2 zT
          have g5 : Grow w w5 := Below.trans HX.out.2.2.2.2.1 H5.out.2.low
          have hb5 : base ≤ w5.heap.size := Nat.le_trans HB.out.1 g5.size
          have hrd := RTm.rd h5
          obtain ⟨_, _, e4, hkc, hcm⟩ := RTm.form h5
          have hc9 : k ≤ c := by
            injection e4 with _ e5 e6
            omega
          have hcm9 : c ≤ maxLen := by
            injection e4 with _ e5 e6
            omega
          have hbk := HX.out.2.2.2.2.2.1
          have hk9 := HX.out.2.2.2.2.2.2.1
          obtain ⟨B, hBB, hTl⟩ := RdT.tail (l := l) (k := b + 1) hrd (by omega)
          have hFr : Hid (∀ w1, Grow w5 w1 → RdT w1 (.slice (some ⟨g, off, none⟩) b c) (l.take b)) := fun w1 hg => (RdT.front hrd (by omega)).grow hg
          have HL : Hid ((l.take b).length = b ∧ (l.drop (b + 1)).length = k - (b + 1)) := by
            have := HX.out.2.2.2.2.2.2.2.2
            exact ⟨by rw [List.length_take]; omega, by rw [List.length_drop, ← this]⟩
          unfold maxLen at hcm9
          have q1 : (0 : Int) ≤ (b : Int) + 1 := by omega
          have q2 : (b : Int) + 1 ≤ (k : Int) := by omega
          have q3 : ((b : Int) + 1).toNat = b + 1 := by omega
          have q4 : (b : Int) ≤ (c : Int) := by omega
          have q6 : IntKind.i64.wrap ((b : Int) + 1) = (b : Int) + 1 := IntWalk.i64_in _ (by omega)
          have hE := Lib.hid (List.eraseIdx_eq_take_drop_succ l b)
          have HG := Lib.hid (And.intro g5 hb5)
          clear h5 g5 hb5 hrd e4 hkc hcm
          go_region_law (first
            | (refine step_appK _ rfl (.tmp 52) (.tmp 55) 29 rfl 74 _ 2 16 Tryd.underlying29 infoTi rfl (by decide) w5.heap.size _ (.slice (some ⟨g, off, none⟩) b c) 0 _ [] _ rfl rfl (RTm.lit0 w5.drew) (hFr.out _ ((Grow.drew _).trans (Grow.alloc _ _))) (cT_one _) (by rw [HL.out.1]; omega) (by rw [HL.out.1]; unfold maxLen; omega) (by simp) ?_; intro v1 w1 ho1 hg1 hat1; have hgw1 : Grow w5 w1 := ((Grow.drew w5).trans (Grow.alloc _ _)).grown hg1 (by simp) (fun k hk => by cases hk; simp); have H1 := Lib.hid (And.intro ho1 hgw1); clear ho1 hg1 hat1 hgw1)
            | (refine step_appK _ rfl (.tmp 56) (.tmp 60) 29 rfl 74 _ 2 16 Tryd.underlying29 infoTi rfl (by decide) w5.heap.size v1 _ _ _ _ _ rfl rfl H1.out.1 (hTl.out _ H1.out.2) (cT_one _) (by rw [HL.out.1, HL.out.2]; omega) (by rw [HL.out.1, HL.out.2]; unfold maxLen; omega) H1.out.2.size ?_; intro v2 w2 ho2 hg2 hat2; have hgw2 : Grow w5 w2 := H1.out.2.grown hg2 H1.out.2.size fun k hk => (World.ownsRow.lt H1.out.1 k hk).1; have H2 := Lib.hid (And.intro ho2 hgw2); clear ho2 hg2 hat2 hgw2))
          all_goals
            have hR : RTm w2 base v2 (l.eraseIdx b) := by
              have := H2.out.1
              unfold RTm
              rw [hE.out, cT_app, List.length_append]
              exact ownsRow_base (by simpa using this) HG.out.2
            obtain ⟨A8, c8, e8, _⟩ := RTm.form hR
            obtain ⟨n8, hn8⟩ : ∃ n8, n8 = (l.eraseIdx b).length := ⟨_, rfl⟩
            rw [← hn8] at e8
            subst e8
            have HR8 := Lib.hid (And.intro hn8 hR)
            clear hR hn8
            go_wp2_with fail
            go_roundg (l.eraseIdx b).length
            case measure =>
              have := HX.out.2.2.2.2.2.1
              have := HX.out.2.2.2.2.2.2.2.2
              rw [List.length_eraseIdx_of_lt (by omega)]
              omega
            case rel => exact ⟨l.eraseIdx b, D ++ [t], A8, n8, c8, rfl, rfl, HR8.out.1, HR8.out.2, H5.out.1.grow H2.out.2, HG.out.1.trans H2.out.2, HO.out⟩
end Go.Proofs.YtnoglbceaibjeaaDoor
/- The page's example. -/
namespace Go.Proofs.YtnoglbceaibjeaaDoor
set_option linter.unusedVariables false
set_option linter.unusedSimpArgs false
open Go.ChangeShapes Go.WideShapes Go.ChangeAt Go.RowKit Go.Shelf

/-- What start-up laid. -/
def DbB (w : World) : Prop := TabAt 0 Lib.deBruijn64tab w
theorem DbB.pos {w : World} (h : DbB w) : 0 < w.heap.size := by
  have h0 := h 0 (by decide)
  rcases Nat.lt_or_ge 0 w.heap.size with q | q
  · exact q
  · unfold World.cell? at h0
    rw [Array.getElem?_eq_none (by exact q)] at h0
    cases h0
theorem DbB.grow {w w' : World} (h : DbB w) (g : Grow w w') : DbB w' := TabAt.grow h g h.pos
theorem wcode_any (x : Int) (w : World) : Calls Tryd.prog 10 #[.int .i64 x] w fun e w' => e = .returned (.int .i64 x) ∧ w = w' := by
  go_enter Tryd.func10, Tryd.ntmps10
  go_wp2_with fail
  go_ret
  exact ⟨rfl, rfl⟩
theorem wSet_ok (w : World) (base wb mb now : Nat) (L : List Tm) (U : Nat → Nat) (h : Wst w base wb mb now L U) (x : Int) (y : Nat) (h1 : y ≤ maxT) (hp : (∃ t ∈ L, t.id = x) ∨ L.length ≠ 4096) :
    Calls Tryd.prog 11 #[.pointer (some ⟨wb, 0, none⟩), .int .i64 x, .int .i64 (y : Int)] w fun e w' => e = .returned (.int .i64 0) ∧ ∃ b U', Wst w' base wb mb now ((L.filter fun u => decide (u.id ≠ x)) ++ [⟨x, y, b⟩]) U' ∧ Only base Zm w w' := by
  by_cases hx : ∃ t ∈ L, t.id = x
  · obtain ⟨t, ht, he⟩ := hx
    exact wSet_set w base wb mb now L U h x y h1 t ht he
  · exact wSet_new w base wb mb now L U h x y h1 (fun t ht e => hx ⟨t, ht, e⟩) (hp.resolve_left hx)
theorem Irow.rd {w : World} {b : Nat} {v : Value} {l : List Tm} (h : Irow w b v l) : RdI w v (l.map Tm.id) := by
  have := RdK.of_own h
  unfold RdI
  rw [List.length_map, List.map_map]
  exact this
theorem Irow.only {w w' : World} {b b0 : Nat} {v : Value} {l : List Tm} {Z : Nat → TypeId → Prop} (h : Irow w b v l) (o : Only b0 Z w w') (hz : ∀ b, ¬ Z b 3) : Irow w' b v l := o.row h fun g _ => hz g
theorem zt_int (b : Nat) : ¬ Zt b 3 := fun e => by rcases e with ((e | e) | e) | e <;> exact absurd e (by decide)
theorem zt_timer (b : Nat) : ¬ Zt b 74 := fun e => by rcases e with ((e | e) | e) | e <;> exact absurd e (by decide)
theorem zm_timer (b : Nat) : ¬ Zm b 74 := fun e => by rcases e with (e | e) | e <;> exact absurd e (by decide)
theorem rdi_lit1 (w : World) (x : Int) : RdI (w.alloc (.cells #[.int .i64 x] 3)) (.slice (some ⟨w.heap.size, 0, none⟩) 1 1) [x] :=
  RdK.of_own (World.ownsRow_lit (base := w.heap.size) (e := 3) (size := 1) w #[.int .i64 x] 1 (Nat.le_refl _) (by decide) rfl)
theorem rdi_lit2 (w : World) (x y : Int) : RdI (w.alloc (.cells #[.int .i64 x, .int .i64 y] 3)) (.slice (some ⟨w.heap.size, 0, none⟩) 2 2) [x, y] :=
  RdK.of_own (World.ownsRow_lit (base := w.heap.size) (e := 3) (size := 1) w #[.int .i64 x, .int .i64 y] 2 (Nat.le_refl _) (by decide) rfl)
theorem RdI.grow {w w' : World} {v : Value} {xs : List Int} (h : RdI w v xs) (g : Grow w w') : RdI w' v xs := RdK.grow h g
theorem stb_key {l l' : List Tm} (h : Stb tkI l l') : Stb (fun t : Tm => (t.tk : Int)) l l' := h

set_option maxRecDepth 10000 in
set_option maxHeartbeats 4000000 in
theorem wlive_any (w : World) (hB : DbB w) : Calls Tryd.prog 8 #[] w fun e w' => e = .returned (.bool true) ∧ Grow w w' := by
  have c0 := wNew_any w w.heap.size (Nat.le_refl _) 0 (by unfold maxT; omega)
  have cC := fun x w => wcode_any x w
  have HC := Lib.hid cC
  have HB := Lib.hid (And.intro hB hB.pos)
  clear cC hB
  go_enter Tryd.func8, Tryd.ntmps8
  go_wp2_with fail
  refine c0.mono ?_
  rintro e w1 ⟨rfl, h1, g1⟩
  have H1 := Lib.hid (And.intro h1 g1)
  clear c0 h1 g1
  go_wp2_with fail
  refine (HC.out _ _).mono ?_
  rintro e w' ⟨rfl, rfl⟩
  have c1 := wSet_ok w1 _ _ _ _ _ _ H1.out.1 1 70 (by unfold maxT; omega) (.inr (by simp))
  go_wp2_with fail
  refine c1.mono ?_
  rintro e w2 ⟨rfl, b1, U1, h2, o2⟩
  have H2 := Lib.hid (And.intro h2 (show Only w.heap.size Zt w1 w2 from o2.mono fun _ _ _ _ _ e => .inl e))
  clear c1 h2 o2
  have c2 := wSet_ok w2 _ _ _ _ _ _ H2.out.1 2 5 (by unfold maxT; omega) (.inr (by simp))
  go_wp2_with fail
  refine c2.mono ?_
  rintro e w3 ⟨rfl, b2, U2, h3, o3⟩
  have H3 := Lib.hid (And.intro h3 (H2.out.2.trans (o3.mono fun _ _ _ _ _ e => .inl e)))
  clear c2 h3 o3
  have c3 := wSet_ok w3 _ _ _ _ _ _ H3.out.1 3 5 (by unfold maxT; omega) (.inr (by simp))
  go_wp2_with fail
  refine c3.mono ?_
  rintro e w4 ⟨rfl, b3, U3, h4, o4⟩
  have H4 : Hid (Wst w4 w.heap.size (w.heap.size + 1) w.heap.size 0 [⟨1, 70, b1⟩, ⟨2, 5, b2⟩, ⟨3, 5, b3⟩] U3 ∧ Only w.heap.size Zt w1 w4) := ⟨h4, H3.out.2.trans (o4.mono fun _ _ _ _ _ e => .inl e)⟩
  clear c3 h4 o4
  have t4 : DbB w4 := TabAt.only (HB.out.1.grow H1.out.2) H4.out.2 HB.out.2
  have c4 := wTick_any w4 _ _ _ _ 69 _ _ ⟨H4.out.1, by omega, by unfold maxT; omega, by simp⟩ t4 HB.out.2
  clear t4
  go_wp2_with fail
  refine c4.mono ?_
  rintro e w5 ⟨D1, v5, U5, rfl, h5, s5, k5, h6, o5⟩
  have e5 : D1 = [⟨2, 5, b2⟩, ⟨3, 5, b3⟩] := srt_uniq D1 _ s5 (by unfold Srt; simp) k5
  subst e5
  have H5 : Hid (Irow w5 w4.heap.size v5 [⟨2, 5, b2⟩, ⟨3, 5, b3⟩] ∧ Wst w5 w.heap.size (w.heap.size + 1) w.heap.size 69 [⟨1, 70, b1⟩] U5 ∧ Only w.heap.size Zt w1 w5) := ⟨h5, h6, H4.out.2.trans o5⟩
  clear c4 h5 s5 k5 h6 o5
  have t5 : DbB w5 := TabAt.only (HB.out.1.grow H1.out.2) H5.out.2.2 HB.out.2
  have c5 := wTick_any w5 _ _ _ _ 70 _ _ ⟨H5.out.2.1, by omega, by unfold maxT; omega, by simp⟩ t5 HB.out.2
  clear t5
  go_wp2_with fail
  refine c5.mono ?_
  rintro e w6 ⟨D2, v6, U6, rfl, h6, s6, k6, h7, o6⟩
  have e6 : D2 = [⟨1, 70, b1⟩] := srt_uniq D2 _ s6 (by unfold Srt; simp) k6
  subst e6
  have H6 : Hid (RdI w6 v5 [2, 3] ∧ RdI w6 v6 [1] ∧ Grow w w6) := ⟨(H5.out.1.only o6 zt_int).rd, h6.rd, Below.trans H1.out.2 (H5.out.2.2.trans o6).low⟩
  clear c5 h6 s6 k6 h7 o6
  go_wp2_with fail
  refine (HC.out _ _).mono ?_
  rintro e w' ⟨rfl, rfl⟩
  go_wp2_with fail
  refine (HC.out _ _).mono ?_
  rintro e w' ⟨rfl, rfl⟩
  go_wp2_with fail
  refine (HC.out _ _).mono ?_
  rintro e w' ⟨rfl, rfl⟩
  go_wp2_with fail
  refine (HC.out _ _).mono ?_
  rintro e w' ⟨rfl, rfl⟩
  go_wp2_with fail
  refine (HC.out _ _).mono ?_
  rintro e w' ⟨rfl, rfl⟩
  have c6 := wSame_any (w6.alloc (.cells #[.int .i64 2, .int .i64 3] 3)) v5 _ [2, 3] [2, 3] (H6.out.1.grow (Grow.alloc _ _)) (rdi_lit2 w6 2 3) (by simp)
  go_wp2_with fail
  refine c6.mono ?_
  rintro e w7 ⟨rfl, g7⟩
  have H7 := Lib.hid (show Grow w6 w7 from (Grow.alloc _ _).trans g7)
  clear c6 g7
  have c7 := wSame_any (w7.alloc (.cells #[.int .i64 1] 3)) v6 _ [1] [1] (H6.out.2.1.grow (H7.out.trans (Grow.alloc _ _))) (rdi_lit1 w7 1) (by simp)
  go_wp2_with fail
  refine c7.mono ?_
  rintro e w8 ⟨rfl, g8⟩
  have H8 := Lib.hid (show Grow w w8 from (H6.out.2.2.trans H7.out).trans ((Grow.alloc _ _).trans g8))
  clear c7 g8
  go_wp2_with fail
  go_ret
  exact ⟨rfl, H8.out⟩
end Go.Proofs.YtnoglbceaibjeaaDoor
/- What start-up laid: from the condition of a row that lists one variable to what the walks ask; a world that meets it. -/
namespace Go.Proofs.YtnoglbceaibjeaaDoor
set_option linter.unusedVariables false
open Go.ChangeShapes Go.WideShapes Go.ChangeAt Go.RowKit

def laid4 : List (String × DataW Unit) := [("math/bits.deBruijn64tab", Rows.laid_math_bits_deBruijn64tab)]
theorem db_global : Tryd.prog.globalNamed "math/bits.deBruijn64tab" = some 0 := by kernel_rfl
def dbI : List Int := Lib.deBruijn64tab.map fun (n : Nat) => (n : Int)
theorem base_of_laid {W : World} (h : laidMetH Tryd.prog laid4 W) : DbB W := by
  have e : laid4 = [("math/bits.deBruijn64tab", Lib.tabData .u8 dbI)] := by rfl
  rw [e, MakeChecks.laidMetH_plain _ _ _ (by kernel_rfl)] at h
  have h1 := Lib.tabIs_of_head (t := 88) (e := 5) (n := 64) db_global (by kernel_rfl) Tryd.underlying88 Tryd.underlying5 (by kernel_rfl) (by kernel_rfl) h
  intro j hj
  have h2 := h1.cell db_global j (by simpa [dbI] using hj)
  rw [h2]
  simp [dbI, List.getD, List.getElem?_eq_getElem hj]
set_option maxRecDepth 100000 in
theorem door_met (os : Os) (args : Array Value) : laidMetH Tryd.prog laid4 ((World.doorLaid Tryd.prog 14 os).forCall (fun _ _ => 0) ⟨#[], args, []⟩).memory :=
  laidMetH_of_parts3 (fuel := 8) (laidMet_of_run' 8 (by kernel_rfl) (by kernel_rfl)) (by kernel_rfl) (by kernel_rfl)
end Go.Proofs.YtnoglbceaibjeaaDoor
/- Calls, and rows of calls and of numbers, that came in, opened. -/
namespace Go.Proofs.YtnoglbceaibjeaaDoor
set_option linter.unusedVariables false
set_option linter.unusedSimpArgs false
set_option maxRecDepth 100000
open Go.ChangeShapes Go.WideShapes Go.ChangeAt Go.RowKit

/-- A call of the laws: what, which number, which tick. -/
structure Ac where
  d : Int
  i : Int
  a : Int
instance : Inhabited Ac := ⟨⟨0, 0, 0⟩⟩
def acV (x : Ac) : Value := .agg #[.int .i64 x.d, .int .i64 x.i, .int .i64 x.a]
def ac (x : Ac) : List Value := [.int .i64 x.d, .int .i64 x.i, .int .i64 x.a]
def I64 (n : Int) : Prop := -9223372036854775808 ≤ n ∧ n ≤ 9223372036854775807
def Ac.Ok (x : Ac) : Prop := I64 x.d ∧ I64 x.i ∧ I64 x.a
theorem flat_ac_len : ∀ l : List Ac, (l.flatMap ac).length = l.length * 3
  | [] => rfl
  | t :: l => by
    rw [List.flatMap_cons, List.length_append, flat_ac_len l, List.length_cons]
    simp [ac]
    omega
theorem flat_ac_at : ∀ (l : List Ac) (i : Nat) (t : Ac), l[i]? = some t → ∀ k u, (ac t)[k]? = some u → (l.flatMap ac)[i * 3 + k]? = some u
  | [], i, t, h, _, _, _ => by simp at h
  | x :: l, 0, t, h, k, u, hk => by
    simp at h
    subst h
    have hk3 : k < (ac x).length := (List.getElem?_eq_some_iff.1 hk).1
    rw [List.flatMap_cons, Nat.zero_mul, Nat.zero_add, List.getElem?_append_left hk3]
    exact hk
  | x :: l, i + 1, t, h, k, u, hk => by
    have := flat_ac_at l i t (by simpa using h) k u hk
    rw [List.flatMap_cons, List.getElem?_append_right (by simp [ac]; omega)]
    rw [show (i + 1) * 3 + k - (ac x).length = i * 3 + k from by simp [ac]; omega]
    exact this
/-- The slice v reads as these calls. -/
def Acs (w : World) (v : Value) (l : List Ac) : Prop := ∃ A c, v = .slice A l.length c ∧ l.length ≤ c ∧ c ≤ maxLen ∧ (∀ x ∈ l, x.Ok) ∧
  (0 < l.length → ∃ b off, A = some ⟨b, off, none⟩ ∧ b < w.heap.size ∧ ∀ (i : Nat) (x : Ac), l[i]? = some x → w.cell? ⟨b, off + i * 3, none⟩ = some (.int .i64 x.d) ∧ w.cell? ⟨b, off + i * 3 + 1, none⟩ = some (.int .i64 x.i) ∧ w.cell? ⟨b, off + i * 3 + 2, none⟩ = some (.int .i64 x.a))
theorem Acs.grow {w w' : World} {v : Value} {l : List Ac} (h : Acs w v l) (g : Grow w w') : Acs w' v l := by
  obtain ⟨A, c, rfl, h1, h2, h3, h4⟩ := h
  refine ⟨A, c, rfl, h1, h2, h3, fun hp => ?_⟩
  obtain ⟨b, off, rfl, hb, hc⟩ := h4 hp
  refine ⟨b, off, rfl, Nat.lt_of_lt_of_le hb g.size, fun i x hx => ?_⟩
  obtain ⟨q1, q2, q3⟩ := hc i x hx
  exact ⟨(g.cell (p := ⟨b, off + i * 3, none⟩) hb).trans q1, (g.cell (p := ⟨b, off + i * 3 + 1, none⟩) hb).trans q2, (g.cell (p := ⟨b, off + i * 3 + 2, none⟩) hb).trans q3⟩
/-- The slice v reads as these numbers. -/
def Nums (k : IntKind) (lo hi : Int) (w : World) (v : Value) (l : List Int) : Prop := ∃ A c, v = .slice A l.length c ∧ l.length ≤ c ∧ c ≤ maxLen ∧ (∀ x ∈ l, lo ≤ x ∧ x ≤ hi) ∧
  (0 < l.length → ∃ b off, A = some ⟨b, off, none⟩ ∧ b < w.heap.size ∧ ∀ (i : Nat) (x : Int), l[i]? = some x → w.cell? ⟨b, off + i, none⟩ = some (.int k x))
theorem Nums.grow {k : IntKind} {lo hi : Int} {w w' : World} {v : Value} {l : List Int} (h : Nums k lo hi w v l) (g : Grow w w') : Nums k lo hi w' v l := by
  obtain ⟨A, c, rfl, h1, h2, h3, h4⟩ := h
  refine ⟨A, c, rfl, h1, h2, h3, fun hp => ?_⟩
  obtain ⟨b, off, rfl, hb, hc⟩ := h4 hp
  exact ⟨b, off, rfl, Nat.lt_of_lt_of_le hb g.size, fun i x hx => (g.cell (p := ⟨b, off + i, none⟩) hb).trans (hc i x hx)⟩
abbrev NumsI := Nums .i64 (-9223372036854775808) 9223372036854775807
abbrev NumsU := Nums .u32 0 4294967295
theorem Nums.of_ints {k : IntKind} {lo hi : Int} (hwf : ∀ n : Int, (Lit.int k n).wf = true → lo ≤ n ∧ n ≤ hi) {w : World} {x : Addr} {l c : Nat} {zs : List Int} (hl : l ≤ c) (hm : c ≤ maxLen) (hz : zs.length = c) (hcell : ∀ i, i < zs.length → w.cell? (x.add i) = some (.int k (zs.getD i 0)))
    (hwz : ∀ n ∈ zs, (Lit.int k n).wf = true) : ∃ bs, Nums k lo hi w (.slice (some x) l c) bs := by
  have hlen : (zs.take l).length = l := by rw [List.length_take]; omega
  refine ⟨zs.take l, some x, c, by rw [hlen], by omega, hm, fun n hn => hwf n (hwz n (List.mem_of_mem_take hn)), fun hp => ?_⟩
  obtain ⟨b, off, spot⟩ := x
  have h0 := hcell 0 (by omega)
  have hs : spot = none := by simpa [Addr.add] using World.cell?_spot h0
  subst hs
  refine ⟨b, off, rfl, block_of_cell (p := ⟨b, off, none⟩) (by simpa [Addr.add] using h0), fun j y hj => ?_⟩
  have hj1 : j < l := by have := (List.getElem?_eq_some_iff.1 hj).1; omega
  have hj' : j < zs.length := by omega
  rw [← add_at, hcell j hj']
  rw [List.getElem?_take_of_lt hj1] at hj
  simp [List.getD, hj]
section
variable {H : Type} {enc : TypeId × Value → H} {W : World}
theorem open_nums {k : IntKind} {lo hi : Int} (hwf : ∀ n : Int, (Lit.int k n).wf = true → lo ≤ n ∧ n ≤ hi) {t e : TypeId} (ht : Tryd.prog.underlying t = some (.slice e)) (he : Tryd.prog.underlying e = some (.int k)) (hce : Tryd.prog.cellsOf e = 1) {v : Value} {r : Reach} {b0 : Nat} {d : DataW H} {p : List MemPlace} (hv : Value.okWide Tryd.prog W r b0 t v) (h : DataW.Trod enc Tryd.prog W 0 (fun _ => true) true t v d p) : ∃ l, Nums k lo hi W v l := by
  obtain ⟨a0, len0, cap0, rfl⟩ := okWide_slice ht hv
  obtain ⟨fuel, hf⟩ := h
  rcases open_ints ht he hce hf with ⟨hcs, _⟩ | ⟨x, l, c, zs, hcs, _, hl, hm, hz, hx, hcell, hwz⟩
  · simp [Value.cells] at hcs
    obtain ⟨rfl, rfl, rfl⟩ := hcs
    exact ⟨[], none, 0, rfl, Nat.le_refl _, Nat.zero_le _, by simp, fun h => absurd h (by simp)⟩
  · simp [Value.cells] at hcs
    obtain ⟨rfl, rfl, rfl⟩ := hcs
    simp only [if_true] at hz
    exact Nums.of_ints hwf hl hm hz hcell hwz
theorem wf_i64 (n : Int) (h : (Lit.int .i64 n).wf = true) : -9223372036854775808 ≤ n ∧ n ≤ 9223372036854775807 := by
  simp [Lit.wf, IntKind.min, IntKind.max, IntKind.signed, IntKind.bits] at h
  omega
theorem wf_u32 (n : Int) (h : (Lit.int .u32 n).wf = true) : 0 ≤ n ∧ n ≤ 4294967295 := by
  simp [Lit.wf, IntKind.min, IntKind.max, IntKind.signed, IntKind.bits] at h
  omega
theorem open_numsI {v : Value} {r : Reach} {b0 : Nat} {d : DataW H} {p : List MemPlace} (hv : Value.okWide Tryd.prog W r b0 38 v) (h : DataW.Trod enc Tryd.prog W 0 (fun _ => true) true 38 v d p) : ∃ l, NumsI W v l := open_nums wf_i64 Tryd.underlying38 Tryd.underlying3 (by kernel_rfl) hv h
theorem open_numsU {v : Value} {r : Reach} {b0 : Nat} {d : DataW H} {p : List MemPlace} (hv : Value.okWide Tryd.prog W r b0 55 v) (h : DataW.Trod enc Tryd.prog W 0 (fun _ => true) true 55 v d p) : ∃ l, NumsU W v l := open_nums wf_u32 Tryd.underlying55 Tryd.underlying57 (by kernel_rfl) hv h
set_option maxHeartbeats 1000000 in
theorem ac_cells {m : Nat} {cs : List Value} {x : DataW H × List MemPlace} (hf : DataW.trod enc Tryd.prog W 0 (fun _ => true) true m 31 cs = some x) : ∃ r : Ac, r.Ok ∧ cs = ac r := by
  obtain ⟨xs, n, _, _, hl, hlen, hfd⟩ := DataW.trod_struct Tryd.underlying31 hf
  have hl3 : cs.length = 3 := hl.trans (by kernel_rfl)
  match cs, hl3 with
  | [c0, c1, c2], _ =>
    have q0 : DataW.trod enc Tryd.prog W 0 (fun _ => true) true n 3 [c0] = xs[0]? := hfd 0 _ rfl
    rw [List.getElem?_eq_getElem (show 0 < xs.length by rw [hlen]; decide)] at q0
    obtain ⟨n0, e0, _, wf0⟩ := DataW.trod_int Tryd.underlying3 q0
    obtain rfl : c0 = _ := by simpa using e0
    have q1 : DataW.trod enc Tryd.prog W 0 (fun _ => true) true n 3 [c1] = xs[1]? := hfd 1 _ rfl
    rw [List.getElem?_eq_getElem (show 1 < xs.length by rw [hlen]; decide)] at q1
    obtain ⟨n1, e1, _, wf1⟩ := DataW.trod_int Tryd.underlying3 q1
    obtain rfl : c1 = _ := by simpa using e1
    have q2 : DataW.trod enc Tryd.prog W 0 (fun _ => true) true n 3 [c2] = xs[2]? := hfd 2 _ rfl
    rw [List.getElem?_eq_getElem (show 2 < xs.length by rw [hlen]; decide)] at q2
    obtain ⟨n2, e2, _, wf2⟩ := DataW.trod_int Tryd.underlying3 q2
    obtain rfl : c2 = _ := by simpa using e2
    exact ⟨⟨n0, n1, n2⟩, ⟨wf_i64 _ wf0, wf_i64 _ wf1, wf_i64 _ wf2⟩, rfl⟩
theorem open_act {r : Reach} {b0 : Nat} {v : Value} {d : DataW H} {p : List MemPlace} (hv : Value.okWide Tryd.prog W r b0 31 v) (h : DataW.Trod enc Tryd.prog W 0 (fun _ => true) true 31 v d p) : ∃ x : Ac, v = acV x ∧ x.Ok := by
  obtain ⟨cs, rfl, hsz⟩ := okWide_struct Tryd.underlying31 hv
  have hsz3 : cs.size = 3 := hsz.trans (by kernel_rfl)
  obtain ⟨l⟩ := cs
  match l, hsz3 with
  | [c0, c1, c2], _ =>
    obtain ⟨fuel, hf⟩ := h
    obtain ⟨x, hx, e⟩ := ac_cells (cs := [c0, c1, c2]) hf
    refine ⟨x, ?_, hx⟩
    rw [e]
    rfl
theorem open_acs {v : Value} {r : Reach} {b0 : Nat} {d : DataW H} {p : List MemPlace} (hv : Value.okWide Tryd.prog W r b0 22 v) (h : DataW.Trod enc Tryd.prog W 0 (fun _ => true) true 22 v d p) : ∃ l, Acs W v l := by
  obtain ⟨a0, len0, cap0, rfl⟩ := okWide_slice Tryd.underlying22 hv
  obtain ⟨fuel, hf⟩ := h
  rcases Go.Deep.open_slice Tryd.underlying22 hf with ⟨hcs, _⟩ | ⟨x, len, cap, m, n, D, Pl, hcs, hb, hl, hm, hmm, _, hx⟩
  · simp [Value.cells] at hcs
    obtain ⟨rfl, rfl, rfl⟩ := hcs
    exact ⟨[], none, 0, rfl, Nat.le_refl _, Nat.zero_le _, by simp, fun h => absurd h (by simp)⟩
  · simp [Value.cells] at hcs
    obtain ⟨rfl, rfl, rfl⟩ := hcs
    simp only [if_true] at hmm
    subst hmm
    have hch : ∀ i, i < len0 → ∃ a : Ac, a.Ok ∧ ∀ k u, (ac a)[k]? = some u → W.cell? (x.add (i * 3 + k)) = some u := by
      intro i hi
      obtain ⟨cs, h1, h2⟩ := hx i (Nat.lt_of_lt_of_le hi hl)
      obtain ⟨r, hr, e⟩ := ac_cells h2
      obtain ⟨_, hlen, hc⟩ := World.cells?_some h1
      rw [show Tryd.prog.cellsOf 31 = 3 from by kernel_rfl] at hc hlen
      refine ⟨r, hr, fun k u hk => ?_⟩
      have hk3 : k < 3 := by
        have := (List.getElem?_eq_some_iff.1 hk).1
        simpa [ac] using this
      have := hc k hk3
      rw [e, hk] at this
      rw [← this]
      have ea : x.add (i * 3 + k) = (x.add (i * 3)).add k := by
        unfold Addr.add
        generalize i * 3 = q
        by_cases h1 : q = 0 <;> by_cases h2 : k = 0 <;> simp [h1, h2, Nat.add_assoc]
      rw [ea]
    obtain ⟨f, hf2⟩ := Go.Deep.choose_lt (α := Ac) hch
    refine ⟨(List.range len0).map f, some x, _, by simp, by simpa using hl, hm, ?_, fun hp => ?_⟩
    · intro a ha
      obtain ⟨i, hi, rfl⟩ := List.mem_map.1 ha
      exact (hf2 i (by simpa using hi)).1
    · have hp0 : 0 < len0 := by simpa using hp
      obtain ⟨b, off, spot⟩ := x
      have h0 := (hf2 0 hp0).2 0 _ rfl
      have hs : spot = none := by simpa [Addr.add] using World.cell?_spot h0
      subst hs
      refine ⟨b, off, rfl, ?_, fun j y hj => ?_⟩
      · have := block_of_cell h0
        simpa [Addr.add] using this
      · have hj' : j < len0 := by
          have := (List.getElem?_eq_some_iff.1 hj).1
          simpa using this
        have hy : y = f j := by
          rw [List.getElem?_map, List.getElem?_range hj'] at hj
          simpa using hj.symm
        subst hy
        have hcj := (hf2 j hj').2
        simp only [add_at] at hcj
        refine ⟨hcj 0 _ rfl, ?_, ?_⟩
        · have := hcj 1 _ rfl
          rwa [← Nat.add_assoc] at this
        · have := hcj 2 _ rfl
          rwa [← Nat.add_assoc] at this
end
end Go.Proofs.YtnoglbceaibjeaaDoor
