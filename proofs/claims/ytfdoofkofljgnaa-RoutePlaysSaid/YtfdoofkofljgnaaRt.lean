/- Slices of routes in memory: read as lists ('Rts'), rows of the call's own ('Orow'); append; what stays where memory is written ('Stays'). -/
import Derived.Test.YtfdoofkofljgnaaRtNum
import Derived.Test.YtfdoofkofljgnaaAddrRNet
import Derived.Test.YtfdoofkofljgnaaOpen
import Derived.Test.YtfdoofkofljgnaaPhase
import Derived.Test.YtfdoofkofljgnaaWeave
import Derived.Laws.StructEq
import Derived.Deep.AppendSrc
import Derived.Deep.RegionLaw
namespace Go.Proofs.Ytfdoofkofljgnaa
set_option linter.unusedVariables false
set_option linter.unusedSimpArgs false
open Go.ChangeShapes Go.WideShapes Go.ChangeAt Go.RowKit

/-- Five cells hold a route. -/
def RtAt (w : World) (b o : Nat) (r : Rt) : Prop :=
  w.cell? ⟨b, o, none⟩ = some (.int .u32 r.net) ∧ w.cell? ⟨b, o + 1, none⟩ = some (.int .i64 r.bits) ∧ w.cell? ⟨b, o + 2, none⟩ = some (.int .u32 r.via) ∧ w.cell? ⟨b, o + 3, none⟩ = some (.int .i64 r.iface) ∧ w.cell? ⟨b, o + 4, none⟩ = some (.int .i64 r.cost)

/-- The slice v reads as these routes. -/
def Rts (w : World) (v : Value) (l : List Rt) : Prop :=
  ∃ A c, v = .slice A l.length c ∧ l.length ≤ c ∧ c ≤ maxLen ∧
    (0 < l.length → ∃ b off, A = some ⟨b, off, none⟩ ∧ b < w.heap.size ∧ ∀ j u, (cells5 l)[j]? = some u → w.cell? ⟨b, off + j, none⟩ = some u)

section
variable {w w' : World} {v : Value} {l : List Rt}
theorem Rts.nil (w : World) : Rts w (.slice none 0 0) [] := ⟨none, 0, rfl, Nat.le_refl _, Nat.zero_le _, fun h => absurd h (by simp)⟩
theorem Rts.len {A : Option Addr} {n c : Nat} (h : Rts w (.slice A n c) l) : n = l.length ∧ n ≤ c ∧ c ≤ maxLen := by
  obtain ⟨A', c', e, h1, h2, _⟩ := h
  cases e
  exact ⟨rfl, h1, h2⟩
theorem Rts.form (h : Rts w v l) : ∃ A c, v = .slice A l.length c ∧ l.length ≤ c ∧ c ≤ maxLen := by
  obtain ⟨A, c, rfl, h1, h2, _⟩ := h
  exact ⟨A, c, rfl, h1, h2⟩
theorem Rts.raw {A : Option Addr} {n c : Nat} (h : Rts w (.slice A n c) l) (hp : 0 < n) : ∃ b off, A = some ⟨b, off, none⟩ ∧ b < w.heap.size ∧ ∀ j u, (cells5 l)[j]? = some u → w.cell? ⟨b, off + j, none⟩ = some u := by
  obtain ⟨A', c', e, h1, h2, h3⟩ := h
  cases e
  exact h3 hp
theorem rtAt_of {b off : Nat} (h : ∀ j u, (cells5 l)[j]? = some u → w.cell? ⟨b, off + j, none⟩ = some u) (j : Nat) (hj : j < l.length) : RtAt w b (off + j * 5) l[j] := by
  have e := cells5_at l j hj
  refine ⟨h _ _ e.1, ?_, ?_, ?_, ?_⟩
  · rw [Nat.add_assoc]; exact h _ _ e.2.1
  · rw [Nat.add_assoc]; exact h _ _ e.2.2.1
  · rw [Nat.add_assoc]; exact h _ _ e.2.2.2.1
  · rw [Nat.add_assoc]; exact h _ _ e.2.2.2.2
theorem Rts.at_ {A : Option Addr} {n c : Nat} (h : Rts w (.slice A n c) l) (hp : 0 < n) : ∃ b off, A = some ⟨b, off, none⟩ ∧ b < w.heap.size ∧ ∀ j (hj : j < l.length), RtAt w b (off + j * 5) l[j] := by
  obtain ⟨b, off, e, hb, hc⟩ := h.raw hp
  exact ⟨b, off, e, hb, rtAt_of hc⟩
theorem Rts.other (h : Rts w v l) (hs : w.heap.size ≤ w'.heap.size) (hb : ∀ b, v.ownBlock = some b → b < w.heap.size → w'.heap[b]? = w.heap[b]?) : Rts w' v l := by
  obtain ⟨A, c, rfl, h1, h2, h3⟩ := h
  refine ⟨A, c, rfl, h1, h2, fun hp => ?_⟩
  obtain ⟨b, off, rfl, hlt, hc⟩ := h3 hp
  exact ⟨b, off, rfl, Nat.lt_of_lt_of_le hlt hs, fun j u hj => (World.cell?_of_block (w := w) (a := ⟨b, off + j, none⟩) (hb b rfl hlt)).trans (hc j u hj)⟩
theorem Rts.grow (h : Rts w v l) (g : Grow w w') : Rts w' v l := h.other g.size fun b _ hlt => g.block b hlt
theorem RtAt.grow {b o : Nat} {r : Rt} (h : RtAt w b o r) (g : Grow w w') (hb : b < w.heap.size) : RtAt w' b o r := by
  obtain ⟨h0, h1, h2, h3, h4⟩ := h
  exact ⟨(g.cell (p := ⟨b, o, none⟩) hb).trans h0, (g.cell (p := ⟨b, o + 1, none⟩) hb).trans h1, (g.cell (p := ⟨b, o + 2, none⟩) hb).trans h2, (g.cell (p := ⟨b, o + 3, none⟩) hb).trans h3, (g.cell (p := ⟨b, o + 4, none⟩) hb).trans h4⟩
theorem Rts.front {A : Option Addr} {n c k : Nat} (h : Rts w (.slice A n c) l) (hk : k ≤ n) : Rts w (.slice A k c) (l.take k) := by
  obtain ⟨e, hc, hm⟩ := h.len
  have e1 : (l.take k).length = k := by rw [List.length_take]; omega
  refine ⟨A, c, by rw [e1], by omega, hm, fun hp => ?_⟩
  obtain ⟨b, off, rfl, hb, hcell⟩ := h.raw (by omega)
  refine ⟨b, off, rfl, hb, fun j u hj => hcell j u ?_⟩
  rw [← cells5_take] at hj
  rw [List.getElem?_take] at hj
  split at hj
  · exact hj
  · cases hj
theorem cells5_drop (l : List Rt) (k : Nat) : (cells5 l).drop (k * 5) = cells5 (l.drop k) := by
  induction l generalizing k with
  | nil => simp [cells5]
  | cons p r ih =>
    cases k with
    | zero => simp [cells5]
    | succ k =>
      have e : cells5 (p :: r) = .int .u32 p.net :: .int .i64 p.bits :: .int .u32 p.via :: .int .i64 p.iface :: .int .i64 p.cost :: cells5 r := by simp [cells5, rc]
      rw [e, show (k + 1) * 5 = k * 5 + 1 + 1 + 1 + 1 + 1 from by omega]
      simp [ih]
theorem Rts.back {A : Option Addr} {n c k : Nat} (h : Rts w (.slice A n c) l) (hk : k ≤ n) (hc : ¬ c = k) : Rts w (.slice (A.map (·.add (k * 5))) (n - k) (c - k)) (l.drop k) := by
  obtain ⟨e, hcc, hm⟩ := h.len
  have e1 : (l.drop k).length = n - k := by rw [List.length_drop]; omega
  refine ⟨_, c - k, by rw [e1], by omega, by omega, fun hp => ?_⟩
  obtain ⟨b, off, rfl, hb, hcell⟩ := h.raw (by omega)
  refine ⟨b, off + k * 5, by simp [add_at], hb, fun j u hj => ?_⟩
  rw [Nat.add_assoc]
  refine hcell _ u ?_
  rw [← cells5_drop, List.getElem?_drop] at hj
  exact hj
theorem Rts.back0 {A : Option Addr} {n c k : Nat} (h : Rts w (.slice A n c) l) (hk : k ≤ n) (hc : c = k) : Rts w (.slice A (n - k) (c - k)) (l.drop k) := by
  obtain ⟨e, hcc, hm⟩ := h.len
  have e1 : (l.drop k).length = n - k := by rw [List.length_drop]; omega
  exact ⟨A, c - k, by rw [e1], by omega, by omega, fun hp => by omega⟩
end

/-- A row of routes of the call's own; e: the element's type. -/
def Orow (e : TypeId) (w : World) (base : Nat) (v : Value) (l : List Rt) : Prop := w.ownsRow base e 5 v l.length (cells5 l)
section
variable {w w' : World} {v : Value} {l : List Rt} {e : TypeId} {base : Nat}
theorem Orow.nil (e : TypeId) (w : World) (base : Nat) : Orow e w base (.slice none 0 0) [] := World.ownsRow_nil w base e 5
theorem Orow.rts (h : Orow e w base v l) : Rts w v l := by
  obtain ⟨h1, h2⟩ := id h
  rcases h2 with ⟨rfl, h0⟩ | ⟨g, cap, cur, rfl, hbg, hh, hnc, hcm, hcs, ht⟩
  · have : l = [] := List.eq_nil_of_length_eq_zero h0
    subst this
    exact Rts.nil w
  · refine ⟨some ⟨g, 0, none⟩, cap, rfl, hnc, hcm, fun hp => ⟨g, 0, rfl, (Array.getElem?_eq_some_iff.1 hh).1, fun j u hj => ?_⟩⟩
    have := World.ownsRow.cells h (g := g) rfl j u hj
    rwa [add_at] at this
theorem Orow.form (h : Orow e w base v l) : (v = .slice none 0 0 ∧ l = []) ∨ ∃ g cap, v = .slice (some ⟨g, 0, none⟩) l.length cap ∧ base ≤ g ∧ g < w.heap.size ∧ l.length ≤ cap ∧ cap ≤ maxLen := by
  obtain ⟨h1, h2⟩ := h
  rcases h2 with ⟨rfl, h0⟩ | ⟨g, cap, cur, rfl, hbg, hh, hnc, hcm, hcs, ht⟩
  · exact .inl ⟨rfl, List.eq_nil_of_length_eq_zero h0⟩
  · exact .inr ⟨g, cap, rfl, hbg, (Array.getElem?_eq_some_iff.1 hh).1, hnc, hcm⟩
theorem Orow.pos (h : Orow e w base v l) (hl : 0 < l.length) : ∃ g cap, v = .slice (some ⟨g, 0, none⟩) l.length cap ∧ base ≤ g ∧ g < w.heap.size ∧ l.length ≤ cap ∧ cap ≤ maxLen := by
  rcases h.form with ⟨_, rfl⟩ | h1
  · simp at hl
  · exact h1
theorem Orow.one (h : Orow e w base v l) : v.oneCell' = true := by
  rcases h.2 with ⟨rfl, _⟩ | ⟨b, cap, cur, rfl, _⟩ <;> rfl
theorem Orow.base_ {b' : Nat} (h : Orow e w base v l) (hb : b' ≤ base) : Orow e w b' v l := by
  obtain ⟨h1, h2⟩ := h
  refine ⟨h1, ?_⟩
  rcases h2 with h2 | ⟨g, cap, cur, e1, e2, r⟩
  · exact .inl h2
  · exact .inr ⟨g, cap, cur, e1, by omega, r⟩
theorem Orow.other (h : Orow e w base v l) (hb : ∀ b, v.ownBlock = some b → b < w.heap.size → w'.heap[b]? = w.heap[b]?) : Orow e w' base v l := by
  obtain ⟨h1, h2⟩ := h
  refine ⟨h1, ?_⟩
  rcases h2 with h2 | ⟨g, cap, cur, rfl, e2, hh, r⟩
  · exact .inl h2
  · exact .inr ⟨g, cap, cur, rfl, e2, (hb g rfl (Array.getElem?_eq_some_iff.1 hh).1).trans hh, r⟩
theorem Orow.grow (h : Orow e w base v l) (g : Grow w w') : Orow e w' base v l := h.other fun b _ hlt => g.block b hlt
theorem Orow.lt (h : Orow e w base v l) : ∀ k, v.ownBlock = some k → base ≤ k ∧ k < w.heap.size := World.ownsRow.lt h
theorem Orow.lit (e : TypeId) (w : World) (r : Rt) (cs : Array Value) (hc : cs.toList = rc r) : Orow e (w.alloc (.cells cs e)) w.heap.size (.slice (some ⟨w.heap.size, 0, none⟩) 1 1) [r] := by
  have h := World.ownsRow_lit (base := w.heap.size) (e := e) (size := 5) w cs 1 (Nat.le_refl _) (by unfold maxLen; decide) (by rw [← Array.length_toList, hc]; rfl)
  rw [hc] at h
  have e1 : rc r = cells5 [r] := by simp [cells5]
  rw [e1] at h
  exact h
theorem Orow.lit0 (e : TypeId) (w : World) : Orow e (w.alloc (.cells #[] e)) w.heap.size (.slice (some ⟨w.heap.size, 0, none⟩) 0 0) [] := World.ownsRow_lit (base := w.heap.size) (e := e) (size := 5) w #[] 0 (Nat.le_refl _) (by unfold maxLen; decide) rfl
end

theorem infoRoute : (Try.prog.info? 32).map (fun i => (i.zero, i.size, i.bytes)) = some (some (.agg #[.int .u32 0, .int .i64 0, .int .u32 0, .int .i64 0, .int .i64 0]), 5, 40) := by kernel_rfl
theorem infoWay : (Try.prog.info? 72).map (fun i => (i.zero, i.size, i.bytes)) = some (some (.agg #[.int .u32 0, .int .i64 0, .int .u32 0, .int .i64 0, .int .i64 0]), 5, 40) := by kernel_rfl

/-- append(s, x...) onto a row of routes of the call's own, whatever the source. -/
theorem run_app5 {P : Program} (w : World) (base : Nat) (t ty e : TypeId) (ht : P.underlying t = some (.slice e)) (hi : (P.info? e).map (fun i => (i.zero, i.size, i.bytes)) = some (some (.agg #[.int .u32 0, .int .i64 0, .int .u32 0, .int .i64 0, .int .i64 0]), 5, 40))
    (v : Value) (l : List Rt) (hown : Orow e w base v l) (u : Value) (m : List Rt) (hr : Rts w u m) (hlen : l.length + m.length ≤ 1000000000) (hbase : base ≤ w.heap.size) :
    ∃ v' w', (Builtin.append_ #[t, t] ty #[v, u]).run P w = .ok v' w' ∧ Orow e w' base v' (l ++ m) ∧ w.grownBy w' v.ownBlock ∧ (v'.ownBlock = v.ownBlock ∨ v'.ownBlock = some w.heap.size) := by
  obtain ⟨i, hi0, hz0, hz1, hz2⟩ := info_parts hi
  obtain ⟨A, c, rfl, hlc, hcm, hcell⟩ := hr
  have base0 : ∀ hm : m.length = 0, ∃ v' w', (Builtin.append_ #[t, t] ty #[v, .slice none 0 0]).run P w = .ok v' w' ∧ Orow e w' base v' (l ++ m) ∧ w.grownBy w' v.ownBlock ∧ (v'.ownBlock = v.ownBlock ∨ v'.ownBlock = some w.heap.size) := by
    intro hm
    obtain rfl := List.eq_nil_of_length_eq_zero hm
    exact ⟨v, w, run_append_owned_none (P := P) w base t ty e i 5 ht hi0 v l.length (cells5 l) hown, by simpa using hown, ⟨rfl, rfl, rfl, Nat.le_refl _, fun _ _ _ => rfl⟩, .inl rfl⟩
  cases A with
  | none =>
    have hm : m = [] := by
      rcases Nat.eq_zero_or_pos m.length with h0 | h0
      · exact List.eq_nil_of_length_eq_zero h0
      · obtain ⟨b, off, e', _⟩ := hcell h0
        cases e'
    subst hm
    refine ⟨v, w, ?_, by simpa using hown, ⟨rfl, rfl, rfl, Nat.le_refl _, fun _ _ _ => rfl⟩, .inl rfl⟩
    rcases hown.2 with ⟨rfl, hx⟩ | ⟨g, cap, cur, rfl, _, _, hnc, _⟩
    · simp [Builtin.append_, run_underlying ht, sizeOf, typeInfo, hi0, Builtin.lenOf, Builtin.firstCells]
    · simp [Builtin.append_, run_underlying ht, sizeOf, typeInfo, hi0, Builtin.lenOf, Builtin.firstCells, hnc, storeCells]
  | some ad =>
    have hnews : ∀ j y, (cells5 m)[j]? = some y → w.cell? (ad.add j) = some y := by
      intro j y hy
      have hj : 0 < m.length := by
        rcases Nat.eq_zero_or_pos m.length with h0 | h0
        · rw [List.eq_nil_of_length_eq_zero h0] at hy; simp [cells5] at hy
        · exact h0
      obtain ⟨b, off, e', _, hc⟩ := hcell hj
      injection e' with e'
      subst e'
      rw [add_at]
      exact hc j y hy
    obtain ⟨v', w', hrun, h2, h3, _, h5⟩ := run_append_own_at (P := P) w base t ty e i _ 5 40 ht hi0 hz0 hz1 hz2 (by rfl) (by decide) v l.length (cells5 l) hown ad m.length c (cells5 m) (cells5_length m) hnews (cells5_one m) (by unfold maxLen; omega) (by omega) hbase
    refine ⟨v', w', hrun, ?_, h3, h5⟩
    unfold Orow
    rw [List.length_append, cells5_append]
    exact h2

theorem wpList_app5 {P : Program} (w : World) {ops : Array Oper} {rest : List Oper} {o : Oper} {a : Act} {Q : Exit → Act → World → Prop} (hgd : o.guard = none) (s x : Operand) (t e : TypeId)
    (ho : o.op = .call { callee := .builtin .append, args := #[s, x], argTypes := #[t, t] })
    (ht : P.underlying t = some (.slice e)) (hi : (P.info? e).map (fun i => (i.zero, i.size, i.bytes)) = some (some (.agg #[.int .u32 0, .int .i64 0, .int .u32 0, .int .i64 0, .int .i64 0]), 5, 40))
    (base : Nat) (v u : Value) (l m : List Rt) (hs : a.eval s = v) (hx : a.eval x = u) (hown : Orow e w base v l) (hr : Rts w u m) (hlen : l.length + m.length ≤ 1000000000) (hbase : base ≤ w.heap.size)
    (h : ∀ v' w', Orow e w' base v' (l ++ m) → w.grownBy w' v.ownBlock → (v'.ownBlock = v.ownBlock ∨ v'.ownBlock = some w.heap.size) → wpList P ops Q rest (a.put o.dst v') w') : wpList P ops Q (o :: rest) a w := by
  obtain ⟨v', w', hrun, h2, h3, h4⟩ := run_app5 (P := P) w base t o.type e ht hi v l hown u m hr hlen hbase
  refine wpList_plain hgd fun K hK => ?_
  unfold Oper.wp execOp
  simp only [ho, resolve, invoke, builtin, Sem.run_bind, Sem.run_pure, Result.andThen_ok, List.map_toArray, List.map_cons, List.map_nil, hs, hx, hrun]
  exact hK _ _ (h v' w' h2 h3 h4)

/-- The same, as one step of a region that draws its order. -/
theorem step_app5 {P : Program} (w : World) {ops : Array Oper} {o : Oper} {a : Act} {K : Act → World → Prop} {Q : Exit → Act → World → Prop} {E : Prop} (hgd : o.guard = none) (s x : Operand) (t e : TypeId)
    (ho : o.op = .call { callee := .builtin .append, args := #[s, x], argTypes := #[t, t] })
    (ht : P.underlying t = some (.slice e)) (hi : (P.info? e).map (fun i => (i.zero, i.size, i.bytes)) = some (some (.agg #[.int .u32 0, .int .i64 0, .int .u32 0, .int .i64 0, .int .i64 0]), 5, 40))
    (base : Nat) (v u : Value) (l m : List Rt) (hs : a.eval s = v) (hx : a.eval x = u) (hown : Orow e w base v l) (hr : Rts w u m) (hlen : l.length + m.length ≤ 1000000000) (hbase : base ≤ w.heap.size)
    (h : ∀ v' w', Orow e w' base v' (l ++ m) → w.grownBy w' v.ownBlock → (v'.ownBlock = v.ownBlock ∨ v'.ownBlock = some w.heap.size) → K (a.put o.dst v') w') :
    if Region.wanted o (yielded ops a.tmps) = true then Oper.wp P o a w K Q else E := by
  have hw : Region.wanted o (yielded ops a.tmps) = true := by simp [Region.wanted, hgd]
  rw [if_pos hw]
  obtain ⟨v', w', hrun, h2, h3, h4⟩ := run_app5 (P := P) w base t o.type e ht hi v l hown u m hr hlen hbase
  unfold Oper.wp execOp
  simp only [ho, resolve, invoke, builtin, Sem.run_bind, Sem.run_pure, Result.andThen_ok, List.map_toArray, List.map_cons, List.map_nil, hs, hx, hrun]
  exact h v' w' h2 h3 h4
theorem Orow.lit_at (e : TypeId) (w : World) (r : Rt) (cs : Array Value) (hc : cs.toList = rc r) (g : Nat) (hg : g = w.heap.size) : Orow e (w.alloc (.cells cs e)) w.heap.size (.slice (some ⟨g, 0, none⟩) 1 1) [r] := by
  subst hg; exact Orow.lit e w r cs hc

/-- The blocks that S names are as they were; the streams are, and no block has gone. -/
def Stays (S : Nat → Prop) (w w' : World) : Prop := Below 0 w w' ∧ ∀ b, b < w.heap.size → S b → w'.heap[b]? = w.heap[b]?
theorem Stays.refl (S : Nat → Prop) (w : World) : Stays S w w := ⟨Below.refl _ _, fun _ _ _ => rfl⟩
theorem Stays.trans {S : Nat → Prop} {a b c : World} (h : Stays S a b) (k : Stays S b c) : Stays S a c :=
  ⟨h.1.trans k.1, fun i hi hs => (k.2 i (Nat.lt_of_lt_of_le hi h.1.size) hs).trans (h.2 i hi hs)⟩
theorem Stays.mono {S T : Nat → Prop} {a b : World} (h : Stays S a b) (hST : ∀ i, i < a.heap.size → T i → S i) : Stays T a b := ⟨h.1, fun i hi ht => h.2 i hi (hST i hi ht)⟩
theorem Grow.stays {w w' : World} (h : Grow w w') (S : Nat → Prop) : Stays S w w' := ⟨h.mono (Nat.zero_le _), fun b hb _ => h.block b hb⟩
theorem Stays.size {S : Nat → Prop} {w w' : World} (h : Stays S w w') : w.heap.size ≤ w'.heap.size := h.1.size
theorem Stays.cell {S : Nat → Prop} {w w' : World} (h : Stays S w w') {p : Addr} (hp : p.block < w.heap.size) (hs : S p.block) : w'.cell? p = w.cell? p := World.cell?_of_block (w := w) (h.2 _ hp hs)
theorem Stays.frozen {S : Nat → Prop} {w w' : World} (h : Stays S w w') {p : Addr} (hp : p.block < w.heap.size) (hs : S p.block) : w'.frozen? p = w.frozen? p := World.frozen?_of_block (w := w) (h.2 _ hp hs)
theorem Stays.below {S : Nat → Prop} {w w' : World} (h : Stays S w w') {B : Nat} (hB : B ≤ w.heap.size) (hs : ∀ b, b < B → S b) : Below B w w' := ⟨h.1.os, h.1.tape, h.1.output, h.1.size, fun b hb => h.2 b (by omega) (hs b hb)⟩
theorem Stays.grown {S : Nat → Prop} {w w' : World} {row : Option Nat} (h : w.grownBy w' row) (hs : ∀ b, row = some b → ¬ S b) : Stays S w w' :=
  ⟨⟨h.os, h.tape, h.output, h.size, fun _ hb => absurd hb (Nat.not_lt_zero _)⟩, fun b hb hS => h.block b hb fun e => hs b e.symm hS⟩
theorem Stays.set {S : Nat → Prop} (w : World) (p : Addr) (u : Value) (hs : ¬ S p.block) : Stays S w (w.setCell p u) :=
  ⟨(Below.refl 0 w).setCell (Nat.zero_le _) u, fun b hb hS => Below.heap_setCell _ _ _ _ fun e => hs (e ▸ hS)⟩
end Go.Proofs.Ytfdoofkofljgnaa
