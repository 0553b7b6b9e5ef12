/- Rows of elements of k cells, and what a change of memory may touch: of no program. -/
import Derived.Test.YtpbnpkbmefjiaaaRead
import Derived.Test.YtpbnpkbmefjiaaaOpen
import Derived.ChangeAt
import Derived.ChangeOld
import Derived.Lib.AppendZerosOnto
import Derived.Lib.SliceRun
import Derived.Laws.CopyRow
import Derived.Maps.AppendAt
import Derived.Deep.RegionLaw
namespace Go.Proofs.Ytpbnpkbmefjiaaa
set_option linter.unusedVariables false
set_option linter.unusedSimpArgs false
open Go.ChangeShapes Go.WideShapes Go.ChangeAt Go.RowKit

/-- The slice v reads as n elements of k cells each: xs. -/
def RdK (w : World) (k : Nat) (v : Value) (n : Nat) (xs : List Value) : Prop :=
  ∃ A c, v = .slice A n c ∧ xs.length = n * k ∧ n ≤ c ∧ c ≤ maxLen ∧
    (0 < n → ∃ b off, A = some ⟨b, off, none⟩ ∧ b < w.heap.size ∧ ∀ j u, xs[j]? = some u → w.cell? ⟨b, off + j, none⟩ = some u)

section
variable {w w' : World} {k n : Nat} {v : Value} {xs : List Value}
theorem RdK.other (h : RdK w k v n xs) (hs : w.heap.size ≤ w'.heap.size) (hb : ∀ b, v.ownBlock = some b → b < w.heap.size → w'.heap[b]? = w.heap[b]?) : RdK w' k v n xs := by
  obtain ⟨A, c, rfl, h0, h1, h2, h3⟩ := h
  refine ⟨A, c, rfl, h0, h1, h2, fun hp => ?_⟩
  obtain ⟨b, off, rfl, hlt, hc⟩ := h3 hp
  exact ⟨b, off, rfl, Nat.lt_of_lt_of_le hlt hs, fun j u hj => (World.cell?_of_block (w := w) (a := ⟨b, off + j, none⟩) (hb b rfl hlt)).trans (hc j u hj)⟩
theorem RdK.grow (h : RdK w k v n xs) (g : Grow w w') : RdK w' k v n xs := h.other g.size fun b _ hlt => g.block b hlt
theorem RdK.form (h : RdK w k v n xs) : ∃ A c, v = .slice A n c ∧ n ≤ c ∧ c ≤ maxLen := by
  obtain ⟨A, c, rfl, h0, h1, h2, h3⟩ := h
  exact ⟨A, c, rfl, h1, h2⟩
theorem RdK.of_own {base : Nat} {e : TypeId} (h : w.ownsRow base e k v n xs) : RdK w k v n xs := by
  have h1 := h.1
  rcases id h.2 with ⟨rfl, rfl⟩ | ⟨g, cap, cur, rfl, hbg, hh, hnc, hcm, hcs, ht⟩
  · exact ⟨none, 0, rfl, h1, Nat.le_refl _, Nat.zero_le _, fun h => absurd h (by simp)⟩
  · refine ⟨_, cap, rfl, h1, hnc, hcm, fun hp => ⟨g, 0, rfl, (Array.getElem?_eq_some_iff.1 hh).1, fun j u hj => ?_⟩⟩
    have := World.ownsRow.cells h (g := g) rfl j u hj
    rwa [add_at] at this
/-- An own row stays where its block does. -/
theorem ownsRow_other {base : Nat} {e : TypeId} (h : w.ownsRow base e k v n xs) (hb : ∀ b cs, v.ownBlock = some b → w.heap[b]? = some (.cells cs e (0, 0)) → w'.heap[b]? = w.heap[b]?) : w'.ownsRow base e k v n xs := by
  refine ⟨h.1, ?_⟩
  rcases h.2 with h2 | ⟨g, cap, cur, rfl, e2, hh, r⟩
  · exact .inl h2
  · exact .inr ⟨g, cap, cur, rfl, e2, (hb g cur rfl hh).trans hh, r⟩
theorem ownsRow_base {base b' : Nat} {e : TypeId} (h : w.ownsRow base e k v n xs) (hb : b' ≤ base) : w.ownsRow b' e k v n xs := by
  obtain ⟨h1, h2⟩ := h
  refine ⟨h1, ?_⟩
  rcases h2 with h2 | ⟨g, cap, cur, e1, e2, r⟩
  · exact .inl h2
  · exact .inr ⟨g, cap, cur, e1, by omega, r⟩
theorem ownsRow_one {base : Nat} {e : TypeId} (h : w.ownsRow base e k v n xs) : v.oneCell' = true := by
  rcases h.2 with ⟨rfl, _⟩ | ⟨b, cap, cur, rfl, _⟩ <;> rfl
/-- The block of an own row, and its cells. -/
theorem ownsRow_blk {base : Nat} {e : TypeId} (h : w.ownsRow base e k v n xs) {b : Nat} (hb : v.ownBlock = some b) : ∃ cs, w.heap[b]? = some (.cells cs e (0, 0)) ∧ base ≤ b := by
  rcases h.2 with ⟨rfl, _⟩ | ⟨g, cap, cur, rfl, e2, hh, r⟩
  · cases hb
  · cases hb
    exact ⟨cur, hh, e2⟩
end

/-- append(s, x...) onto an own row. -/
theorem run_appK {P : Program} (w : World) (base : Nat) (t ty e : TypeId) (z : Value) (k bytes : Nat) (ht : P.underlying t = some (.slice e)) (hi : (P.info? e).map (fun i => (i.zero, i.size, i.bytes)) = some (some z, k, bytes)) (hz : z.cells.size = k) (hk : 0 < k)
    (v : Value) (n : Nat) (xs : List Value) (hown : w.ownsRow base e k v n xs) (u : Value) (m : Nat) (ys : List Value) (hr : RdK w k u m ys) (h1 : ∀ y ∈ ys, y.oneCell' = true)
    (hbytes : (n + m) * bytes ≤ 140737488355328) (hlen : n + m ≤ maxLen) (hbase : base ≤ w.heap.size) :
    ∃ v' w', (Builtin.append_ #[t, t] ty #[v, u]).run P w = .ok v' w' ∧ w'.ownsRow base e k v' (n + m) (xs ++ ys) ∧ w.grownBy w' v.ownBlock ∧ (v'.ownBlock = v.ownBlock ∨ v'.ownBlock = some w.heap.size) := by
  obtain ⟨i, hi0, hz0, hz1, hz2⟩ := info_parts hi
  obtain ⟨A, c, rfl, hl, hlc, hcm, hcell⟩ := hr
  cases A with
  | none =>
    have hm : m = 0 := by
      rcases Nat.eq_zero_or_pos m with h0 | h0
      · exact h0
      · obtain ⟨b, off, e', _⟩ := hcell h0
        cases e'
    subst hm
    have hy : ys = [] := List.eq_nil_of_length_eq_zero (by simpa using hl)
    subst hy
    refine ⟨v, w, ?_, by simpa using hown, World.grownBy.refl _ _, .inl rfl⟩
    rcases hown.2 with ⟨rfl, rfl⟩ | ⟨g, cap, cur, rfl, _, _, hnc, _⟩
    · simp [Builtin.append_, run_underlying ht, sizeOf, typeInfo, hi0, Builtin.lenOf, Builtin.firstCells]
    · simp [Builtin.append_, run_underlying ht, sizeOf, typeInfo, hi0, Builtin.lenOf, Builtin.firstCells, hnc, storeCells]
  | some ad =>
    have hnews : ∀ j y, ys[j]? = some y → w.cell? (ad.add j) = some y := by
      intro j y hy
      have hj : 0 < m := by
        rcases Nat.eq_zero_or_pos m with h0 | h0
        · subst h0
          have : ys = [] := List.eq_nil_of_length_eq_zero (by simpa using hl)
          subst this
          simp at hy
        · exact h0
      obtain ⟨b, off, e', _, hc⟩ := hcell hj
      injection e' with e'
      subst e'
      rw [add_at]
      exact hc j y hy
    obtain ⟨v', w', hrun, h2, h3, _, h5⟩ := run_append_own_at (P := P) w base t ty e i _ k bytes ht hi0 hz0 hz1 hz2 hz hk v n xs hown ad m c ys hl hnews h1 hlen hbytes hbase
    exact ⟨v', w', hrun, h2, h3, h5⟩

theorem wpList_appK {P : Program} (w : World) {ops : Array Oper} {rest : List Oper} {o : Oper} {a : Act} {Q : Exit → Act → World → Prop} (hgd : o.guard = none) (s x : Operand) (t : TypeId)
    (ho : o.op = .call { callee := .builtin .append, args := #[s, x], argTypes := #[t, t] })
    (e : TypeId) (z : Value) (k bytes : Nat) (ht : P.underlying t = some (.slice e)) (hi : (P.info? e).map (fun i => (i.zero, i.size, i.bytes)) = some (some z, k, bytes)) (hz : z.cells.size = k) (hk : 0 < k)
    (base : Nat) (v u : Value) (n m : Nat) (xs ys : List Value) (hs : a.eval s = v) (hx : a.eval x = u) (hown : w.ownsRow base e k v n xs) (hr : RdK w k u m ys) (h1 : ∀ y ∈ ys, y.oneCell' = true)
    (hbytes : (n + m) * bytes ≤ 140737488355328) (hlen : n + m ≤ maxLen) (hbase : base ≤ w.heap.size)
    (h : ∀ v' w', w'.ownsRow base e k v' (n + m) (xs ++ ys) → w.grownBy w' v.ownBlock → (v'.ownBlock = v.ownBlock ∨ v'.ownBlock = some w.heap.size) → wpList P ops Q rest (a.put o.dst v') w') : wpList P ops Q (o :: rest) a w := by
  obtain ⟨v', w', hrun, h2, h3, h4⟩ := run_appK (P := P) w base t o.type e z k bytes ht hi hz hk v n xs hown u m ys hr h1 hbytes hlen hbase
  refine wpList_plain hgd fun K hK => ?_
  unfold Oper.wp execOp
  simp only [ho, resolve, invoke, builtin, Sem.run_bind, Sem.run_pure, Result.andThen_ok, List.map_toArray, List.map_cons, List.map_nil, hs, hx, hrun]
  exact hK _ _ (h v' w' h2 h3 h4)

/-- The same, as one step of a region that draws its order. -/
theorem step_appK {P : Program} (w : World) {ops : Array Oper} {o : Oper} {a : Act} {K : Act → World → Prop} {Q : Exit → Act → World → Prop} {E : Prop} (hgd : o.guard = none) (s x : Operand) (t : TypeId)
    (ho : o.op = .call { callee := .builtin .append, args := #[s, x], argTypes := #[t, t] })
    (e : TypeId) (z : Value) (k bytes : Nat) (ht : P.underlying t = some (.slice e)) (hi : (P.info? e).map (fun i => (i.zero, i.size, i.bytes)) = some (some z, k, bytes)) (hz : z.cells.size = k) (hk : 0 < k)
    (base : Nat) (v u : Value) (n m : Nat) (xs ys : List Value) (hs : a.eval s = v) (hx : a.eval x = u) (hown : w.ownsRow base e k v n xs) (hr : RdK w k u m ys) (h1 : ∀ y ∈ ys, y.oneCell' = true)
    (hbytes : (n + m) * bytes ≤ 140737488355328) (hlen : n + m ≤ maxLen) (hbase : base ≤ w.heap.size)
    (h : ∀ v' w', w'.ownsRow base e k v' (n + m) (xs ++ ys) → w.grownBy w' v.ownBlock → (v'.ownBlock = v.ownBlock ∨ v'.ownBlock = some w.heap.size) → K (a.put o.dst v') w') :
    if Region.wanted o (yielded ops a.tmps) = true then Oper.wp P o a w K Q else E := by
  have hw : Region.wanted o (yielded ops a.tmps) = true := by simp [Region.wanted, hgd]
  rw [if_pos hw]
  obtain ⟨v', w', hrun, h2, h3, h4⟩ := run_appK (P := P) w base t o.type e z k bytes ht hi hz hk v n xs hown u m ys hr h1 hbytes hlen hbase
  unfold Oper.wp execOp
  simp only [ho, resolve, invoke, builtin, Sem.run_bind, Sem.run_pure, Result.andThen_ok, List.map_toArray, List.map_cons, List.map_nil, hs, hx, hrun]
  exact h v' w' h2 h3 h4


/-- All blocks but g are as they were. -/
def But (g : Nat) (w w' : World) : Prop := w'.heap.size = w.heap.size ∧ ∀ b, b ≠ g → w'.heap[b]? = w.heap[b]?
theorem heap_setCell_own {w : World} {g k : Nat} {cs : Array Value} {t : TypeId} (h : w.heap[g]? = some (.cells cs t (0, 0))) (u : Value) : (w.setCell ⟨g, k, none⟩ u).heap[g]? = some (.cells (cs.setIfInBounds k u) t (0, 0)) := by
  simp [World.setCell, Array.getElem?_modify, h]
theorem frozen_of {w : World} {g o : Nat} {cs : Array Value} {t : TypeId} (h : w.heap[g]? = some (.cells cs t (0, 0))) : w.frozen? ⟨g, o, none⟩ = false := by
  unfold World.frozen?
  simp only [h]
  simp
/-- The type of what a block holds; maps have one number of their own. -/
def mapT : TypeId := 999999
def objT : Obj → Option TypeId
  | .cells _ T (0, 0) => some T
  | .map _ _ => some mapT
  | _ => none
/-- From base on, blocks of the types Z may have changed; all others are as they were. -/
structure Only (base : Nat) (Z : Nat → TypeId → Prop) (w w' : World) : Prop where
  low : Below base w w'
  keep : ∀ b o T, w.heap[b]? = some o → objT o = some T → ¬ Z b T → w'.heap[b]? = some o
section
variable {base : Nat} {Z Y : Nat → TypeId → Prop} {a b c : World}
theorem Only.refl (base : Nat) (Z : Nat → TypeId → Prop) (w : World) : Only base Z w w := ⟨Below.refl _ _, fun _ _ _ h _ _ => h⟩
theorem Only.trans (h : Only base Z a b) (k : Only base Z b c) : Only base Z a c :=
  ⟨h.low.trans k.low, fun i o T hi ht hz => k.keep i o T (h.keep i o T hi ht hz) ht hz⟩
theorem Only.mono (h : Only base Z a b) (hZ : ∀ i o T, a.heap[i]? = some o → objT o = some T → Z i T → Y i T) : Only base Y a b := ⟨h.low, fun i o T hi ht hy => h.keep i o T hi ht fun hz => hy (hZ i o T hi ht hz)⟩
theorem Only.grow (g : Grow a b) (hb : base ≤ a.heap.size) (Z : Nat → TypeId → Prop) : Only base Z a b :=
  ⟨g.mono hb, fun i o T hi _ _ => (g.block i (Array.getElem?_eq_some_iff.1 hi).1).trans hi⟩
theorem Only.size (h : Only base Z a b) : a.heap.size ≤ b.heap.size := h.low.size
theorem Only.grown {row : Option Nat} (h : a.grownBy b row) (hr : ∀ g, row = some g → base ≤ g ∧ ∀ o T, a.heap[g]? = some o → objT o = some T → Z g T) (hb : base ≤ a.heap.size) : Only base Z a b := by
  refine ⟨⟨h.os, h.tape, h.output, h.size, fun i hi => h.block i (by omega) fun e => ?_⟩, fun i o T hi ht hz => ?_⟩
  · have := (hr i e.symm).1
    omega
  · refine (h.block i (Array.getElem?_eq_some_iff.1 hi).1 fun e => ?_).trans hi
    exact hz ((hr i e.symm).2 o T hi ht)
theorem Only.set {g i : Nat} {cs : Array Value} {T : TypeId} (hg : a.heap[g]? = some (.cells cs T (0, 0))) (hb : base ≤ g) (hz : Z g T) (u : Value) : Only base Z a (a.setCell ⟨g, i, none⟩ u) := by
  refine ⟨(Below.refl base a).setCell hb u, fun j o T' hj ht hy => ?_⟩
  rw [Below.heap_setCell _ _ _ _ (fun e => ?_)]
  · exact hj
  · subst e
    rw [hg] at hj
    cases hj
    cases ht
    exact hy hz
theorem Only.cells {g : Nat} {cs : Array Value} {T : TypeId} (h : Only base Z a b) (hg : a.heap[g]? = some (.cells cs T (0, 0))) (hz : ¬ Z g T) : b.heap[g]? = some (.cells cs T (0, 0)) := h.keep g _ T hg rfl hz
theorem Only.row {e : TypeId} {k n bs : Nat} {v : Value} {xs : List Value} (h : Only base Z a b) (hr : a.ownsRow bs e k v n xs) (hz : ∀ g, v.ownBlock = some g → ¬ Z g e) : b.ownsRow bs e k v n xs :=
  ownsRow_other hr fun g cs hg hh => (h.cells hh (hz g hg)).trans hh.symm
end
end Go.Proofs.Ytpbnpkbmefjiaaa
