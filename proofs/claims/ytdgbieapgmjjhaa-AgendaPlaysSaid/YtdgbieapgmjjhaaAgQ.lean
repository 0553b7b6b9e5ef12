/- An agenda in memory; contracts: Len, Less of its queue. -/
import Derived.Test.YtdgbieapgmjjhaaAgHeap
import Derived.Test.YtdgbieapgmjjhaaAgMap
import Derived.BigQuiet
namespace Go.Proofs.Ytdgbieapgmjjhaa
set_option linter.unusedVariables false
set_option linter.unusedSimpArgs false
open Go.ChangeShapes Go.WideShapes Go.ChangeAt Go.RowKit
attribute [local irreducible] wpQuiet

theorem flat_en_len : ∀ l : List En, (l.flatMap en).length = l.length * 4
  | [] => rfl
  | t :: l => by
    rw [List.flatMap_cons, List.length_append, flat_en_len l, List.length_cons]
    simp [en]
    omega
theorem flat_en_at : ∀ (l : List En) (i : Nat) (t : En), l[i]? = some t → ∀ k u, (en t)[k]? = some u → (l.flatMap en)[i * 4 + k]? = some u
  | [], i, t, h, _, _, _ => by simp at h
  | x :: l, 0, t, h, k, u, hk => by
    simp at h
    subst h
    have hk3 : k < (en x).length := (List.getElem?_eq_some_iff.1 hk).1
    rw [List.flatMap_cons, Nat.zero_mul, Nat.zero_add, List.getElem?_append_left hk3]
    exact hk
  | x :: l, i + 1, t, h, k, u, hk => by
    have := flat_en_at l i t (by simpa using h) k u hk
    rw [List.flatMap_cons, List.getElem?_append_right (by simp [en]; omega)]
    rw [show (i + 1) * 4 + k - (en x).length = i * 4 + k from by simp [en]; omega]
    exact this
/-- Which number lies where. -/
def PlE (f : Int → Option Int) (E : List En) : Prop := ∀ x i, f x = some i ↔ ∃ k : Nat, k < E.length ∧ (pt E k).id = x ∧ i = (k : Int)
/-- An agenda in memory. -/
structure Qu (w : World) (base ab mb : Nat) (v : Value) (E : List En) (mo pu : Int) : Prop where
  blk : w.heap[ab]? = some (.cells #[.int .i64 mo, .int .i64 pu, v, .map (some mb)] 61 (0, 0))
  row : w.ownsRow base 66 4 v E.length (E.flatMap en)
  map : ∃ f, PlF w mb f ∧ PlE f E
  nod : (E.map En.id).Nodup
  low : base ≤ ab ∧ base ≤ mb
/-- What an agenda's call may touch. -/
def Zq (b : Nat) (T : TypeId) : Prop := T = 61 ∨ T = mapT ∨ T = 66
section
variable {w w' : World} {base ab mb : Nat} {v : Value} {E : List En} {mo pu : Int}
theorem Qu.cell (h : Qu w base ab mb v E mo pu) : w.cell? ⟨ab, 2, none⟩ = some v ∧ w.cell? ⟨ab, 3, none⟩ = some (.map (some mb)) ∧ w.cell? ⟨ab, 0, none⟩ = some (.int .i64 mo) ∧ w.cell? ⟨ab, 1, none⟩ = some (.int .i64 pu) :=
  ⟨(cell_of_row w ab 2 _ _ _ h.blk).trans rfl, (cell_of_row w ab 3 _ _ _ h.blk).trans rfl, (cell_of_row w ab 0 _ _ _ h.blk).trans rfl, (cell_of_row w ab 1 _ _ _ h.blk).trans rfl⟩
theorem Qu.lt (h : Qu w base ab mb v E mo pu) : ab < w.heap.size := (Array.getElem?_eq_some_iff.1 h.blk).1
theorem Qu.form (h : Qu w base ab mb v E mo pu) : ∃ A c, v = .slice A E.length c ∧ E.length ≤ c ∧ c ≤ maxLen := RdK.form (RdK.of_own h.row)
/-- Its entries, cell by cell. -/
theorem Qu.ents (h : Qu w base ab mb v E mo pu) (hp : 0 < E.length) : ∃ g c cur, v = .slice (some ⟨g, 0, none⟩) E.length c ∧ base ≤ g ∧ w.heap[g]? = some (.cells cur 66 (0, 0)) ∧ E.length ≤ c ∧ cur.size = c * 4 ∧ cur.toList.take (E.length * 4) = E.flatMap en ∧
    ∀ k, k < E.length → w.cell? ⟨g, k * 4, none⟩ = some (.int .i64 (pt E k).id) ∧ w.cell? ⟨g, k * 4 + 1, none⟩ = some (.int .i64 (pt E k).at_) ∧ w.cell? ⟨g, k * 4 + 2, none⟩ = some (.int .i64 (pt E k).rk) ∧ w.cell? ⟨g, k * 4 + 3, none⟩ = some (.int .i64 (pt E k).no) := by
  obtain ⟨h1, ⟨_, h2⟩ | ⟨g, c, cur, rfl, h2, h3, h4, h5, h6, h7⟩⟩ := h.row
  · omega
  · refine ⟨g, c, cur, rfl, h2, h3, h4, h6, h7, fun k hk => ?_⟩
    have key : ∀ r u, (en (pt E k))[r]? = some u → w.cell? ⟨g, k * 4 + r, none⟩ = some u := by
      intro r u hr
      have hr4 : r < 4 := (List.getElem?_eq_some_iff.1 hr).1
      refine (cell_of_row w g (k * 4 + r) _ _ _ h3).trans ?_
      have := flat_en_at E k (pt E k) (pt_get hk) r u hr
      rw [← h7, List.getElem?_take_of_lt (by omega)] at this
      rw [← Array.getElem?_toList]
      exact this
    exact ⟨key 0 _ rfl, key 1 _ rfl, key 2 _ rfl, key 3 _ rfl⟩
theorem Qu.grow (h : Qu w base ab mb v E mo pu) (g : Grow w w') : Qu w' base ab mb v E mo pu := by
  obtain ⟨f, h1, h2⟩ := h.map
  exact ⟨(g.block ab h.lt).trans h.blk, ownsRow_other h.row fun b cs _ hh => g.block b (Array.getElem?_eq_some_iff.1 hh).1, ⟨f, h1.keep (g.block mb h1.lt), h2⟩, h.nod, h.low⟩
end
theorem qLen_any (w : World) (base ab mb : Nat) (v : Value) (E : List En) (mo pu : Int) (h : Qu w base ab mb v E mo pu) : Calls Try.prog 30 #[.pointer (some ⟨ab, 2, none⟩)] w fun e w' => e = .returned (.int .i64 (E.length : Int)) ∧ w' = w := by
  have a0 := h.cell.1
  obtain ⟨A, c, hv, _⟩ := h.form
  subst hv
  clear h
  go_enter Try.func30, Try.ntmps30
  go_wp2_with fail
  go_ret
  exact ⟨rfl, rfl⟩
set_option maxHeartbeats 1000000 in
theorem less_any (w : World) (base ab mb : Nat) (v : Value) (E : List En) (mo pu : Int) (h : Qu w base ab mb v E mo pu) (i j : Nat) (hi : i < E.length) (hj : j < E.length) (hn : E.length ≤ 100000) :
    Calls Try.prog 71 #[.pointer (some ⟨ab, 2, none⟩), .int .i64 (i : Int), .int .i64 (j : Int)] w fun e w' => e = .returned (.bool (decide (ltE (pt E i) (pt E j)))) ∧ Grow w w' := by
  obtain ⟨g, c, cur, hv, _, hg, _, _, _, hc⟩ := h.ents (by omega)
  subst hv
  have hgl := (Array.getElem?_eq_some_iff.1 hg).1
  obtain ⟨i0, i1, i2, i3⟩ := hc i hi
  obtain ⟨j0, j1, j2, j3⟩ := hc j hj
  have hl := h.lt
  have a0 := h.cell.1
  generalize hx : pt E i = x at *
  generalize hy : pt E j = y at *
  have cS : ∀ p : Gw w, Calls Try.prog 29 #[enV x, enV y] p.v fun e w' => e = .returned (.int .i64 (cmpE x y)) ∧ ∃ q : Gw w, w' = q.v := fun p =>
    (compare_any x y p.v).mono fun e w' h => ⟨h.1, ⟨w', Grow.trans p.2 h.2⟩, rfl⟩
  have a1 := fun p : Gw w => Gw.cell (p := p) hl a0
  have x0 := fun p : Gw w => Gw.cell (p := p) hgl i0
  have x1 := fun p : Gw w => Gw.cell (p := p) hgl i1
  have x2 := fun p : Gw w => Gw.cell (p := p) hgl i2
  have x3 := fun p : Gw w => Gw.cell (p := p) hgl i3
  have y0 := fun p : Gw w => Gw.cell (p := p) hgl j0
  have y1 := fun p : Gw w => Gw.cell (p := p) hgl j1
  have y2 := fun p : Gw w => Gw.cell (p := p) hgl j2
  have y3 := fun p : Gw w => Gw.cell (p := p) hgl j3
  have t0 : (i : Int) < (E.length : Int) := by omega
  have t1 : (j : Int) < (E.length : Int) := by omega
  have hE : decide (cmpE x y < 0) = decide (ltE x y) := by rw [decide_eq_decide]; exact cmpE_lt
  have HE := Lib.hid hE
  unfold enV at cS
  generalize cmpE x y = z at *
  generalize E.length = n at *
  clear h hc hg hgl hl a0 i0 i1 i2 i3 j0 j1 j2 j3 hx hy hi hj hE
  go_enter Try.func71, Try.ntmps71
  go_wp2_with fail
  refine wp_region_gw (by kernel_rfl) (by kernel_rfl) ?_
  repeat (quiet_step ((go_at_call 29; exact cS _)))
  refine wpQuiet_nil ?_
  intro _ hw'
  obtain ⟨⟨wq, hgq⟩, hw2⟩ := hw'
  subst hw2
  go_wp2_with fail
  go_ret
  exact ⟨by rw [← HE.out]; rfl, hgq⟩
end Go.Proofs.Ytdgbieapgmjjhaa
