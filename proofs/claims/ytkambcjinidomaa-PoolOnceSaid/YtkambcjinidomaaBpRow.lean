/- Buffers of the reference's in memory: rows of them; pools by value and in a box. -/
import Derived.Test.YtkambcjinidomaaBpNum
import Derived.Test.YtkambcjinidomaaCellsN
import Derived.Test.YtkambcjinidomaaGw
import Derived.Laws.CopyOwn
import Derived.Laws.NewBlocks
import Derived.Deep.RegionLaw
import Derived.Test.YtkambcjinidomaaRows
import Derived.Deep.LoopGhost
import Derived.Lib.Hide
import Derived.BigQuiet
import Derived.Deep.DeepCutAuto
namespace Go.Proofs.Ytkambcjinidomaa
set_option linter.unusedVariables false
set_option linter.unusedSimpArgs false
open Go.ChangeShapes Go.WideShapes Go.ChangeAt Go.RowKit

def bt (b : Bf) : List Value := [.int .i64 b.id, .int .i64 b.sz]
theorem infoBf : (Try.prog.info? 54).map (fun i => (i.zero, i.size, i.bytes)) = some (some (.agg #[.int .i64 0, .int .i64 0]), 2, 16) := by kernel_rfl
theorem flat_bt_len : ∀ l : List Bf, (l.flatMap bt).length = l.length * 2
  | [] => rfl
  | t :: l => by
    rw [List.flatMap_cons, List.length_append, flat_bt_len l, List.length_cons]
    simp [bt]
    omega
theorem flat_bt_at : ∀ (l : List Bf) (k : Nat) (x : Bf), l[k]? = some x → ∀ r u, (bt x)[r]? = some u → (l.flatMap bt)[k * 2 + r]? = some u
  | [], k, x, h, _, _, _ => by simp at h
  | t :: l, 0, x, h, r, u, hr => by
    obtain rfl : t = x := by simpa using h
    rw [List.flatMap_cons, List.getElem?_append_left (by have := (List.getElem?_eq_some_iff.1 hr).1; omega)]
    simpa using hr
  | t :: l, k + 1, x, h, r, u, hr => by
    have ih := flat_bt_at l k x (by simpa using h) r u hr
    have h2 : (bt t).length = 2 := rfl
    rw [List.flatMap_cons, List.getElem?_append_right (by omega), h2, show (k + 1) * 2 + r - 2 = k * 2 + r from by omega]
    exact ih
theorem bt_take : ∀ (l : List Bf) (k : Nat), (l.take k).flatMap bt = (l.flatMap bt).take (k * 2)
  | [], k => by simp
  | t :: l, 0 => by simp
  | t :: l, k + 1 => by
    have := bt_take l k
    rw [List.take_succ_cons, List.flatMap_cons, List.flatMap_cons, this, show (k + 1) * 2 = k * 2 + 1 + 1 from by omega]
    rfl
theorem bt_drop : ∀ (l : List Bf) (k : Nat), (l.drop k).flatMap bt = (l.flatMap bt).drop (k * 2)
  | [], k => by simp
  | t :: l, 0 => by simp
  | t :: l, k + 1 => by
    have := bt_drop l k
    rw [List.drop_succ_cons, List.flatMap_cons, this, show (k + 1) * 2 = k * 2 + 1 + 1 from by omega]
    rfl
theorem bt_one (l : List Bf) : ∀ y ∈ l.flatMap bt, y.oneCell' = true := by
  intro y hy
  obtain ⟨t, _, h⟩ := List.mem_flatMap.1 hy
  simp [bt] at h
  rcases h with rfl | rfl <;> rfl
/-- A slice that reads as these buffers; a row of them of the call's own. -/
def RdBf (w : World) (v : Value) (l : List Bf) : Prop := RdK w 2 v l.length (l.flatMap bt)
def Bfs (w : World) (base : Nat) (v : Value) (l : List Bf) : Prop := w.ownsRow base 54 2 v l.length (l.flatMap bt)
section
variable {w w' : World} {base : Nat} {v : Value} {l : List Bf}
theorem Bfs.rd (h : Bfs w base v l) : RdBf w v l := RdK.of_own h
theorem RdBf.grow (h : RdBf w v l) (g : Grow w w') : RdBf w' v l := RdK.grow h g
theorem Bfs.grow (h : Bfs w base v l) (g : Grow w w') : Bfs w' base v l := ownsRow_other h fun b cs _ hh => g.block b (Array.getElem?_eq_some_iff.1 hh).1
theorem Bfs.base_ {b' : Nat} (h : Bfs w base v l) (hb : b' ≤ base) : Bfs w b' v l := ownsRow_base h hb
theorem Bfs.only {b0 : Nat} {Z : Nat → TypeId → Prop} (h : Bfs w base v l) (o : Only b0 Z w w') (hz : ∀ b, ¬ Z b 54) : Bfs w' base v l := o.row h fun g _ => hz g
theorem Bfs.one (h : Bfs w base v l) : v.oneCell' = true := ownsRow_one h
theorem bfs_none (w : World) (base : Nat) : Bfs w base (.slice none 0 0) [] := ⟨rfl, .inl ⟨rfl, rfl⟩⟩
theorem RdBf.form (h : RdBf w v l) : ∃ A c, v = .slice A l.length c ∧ l.length ≤ c ∧ c ≤ maxLen := RdK.form h
theorem RdBf.cell (h : RdBf w v l) (hp : 0 < l.length) : ∃ b off c, v = .slice (some ⟨b, off, none⟩) l.length c ∧ b < w.heap.size ∧
    ∀ k, k < l.length → w.cell? ⟨b, off + k * 2, none⟩ = some (.int .i64 (bp l k).id) ∧ w.cell? ⟨b, off + k * 2 + 1, none⟩ = some (.int .i64 (bp l k).sz) := by
  obtain ⟨A, c, rfl, h0, h1, h2, h3⟩ := h
  obtain ⟨b, off, rfl, hb, hc⟩ := h3 hp
  refine ⟨b, off, c, rfl, hb, fun k hk => ?_⟩
  have key : ∀ r u, (bt (bp l k))[r]? = some u → w.cell? ⟨b, off + k * 2 + r, none⟩ = some u := by
    intro r u hr
    have := hc (k * 2 + r) u (flat_bt_at l k _ (bp_get hk) r u hr)
    rwa [← Nat.add_assoc] at this
  exact ⟨key 0 _ rfl, key 1 _ rfl⟩
theorem RdBf.front {A : Option Addr} {n c k : Nat} (h : RdBf w (.slice A n c) l) (hk : k ≤ n) : RdBf w (.slice A k c) (l.take k) := by
  obtain ⟨A', c', e, h0, h1, h2, h3⟩ := h
  cases e
  have hl : (l.take k).length = k := by rw [List.length_take]; omega
  refine ⟨A, c, by rw [hl], flat_bt_len _, by omega, h2, fun hp => ?_⟩
  rw [hl] at hp
  obtain ⟨b, off, rfl, hb, hc⟩ := h3 (by omega)
  refine ⟨b, off, rfl, hb, fun j u hj => hc j u ?_⟩
  rw [bt_take] at hj
  have hlt : j < k * 2 := by
    have := (List.getElem?_eq_some_iff.1 hj).1
    rw [List.length_take] at this
    omega
  rwa [List.getElem?_take_of_lt hlt] at hj
theorem RdBf.tail {b off n c k : Nat} (h : RdBf w (.slice (some ⟨b, off, none⟩) n c) l) (hk : k ≤ n) : ∃ B : Addr, (if c = k then some (⟨b, off, none⟩ : Addr) else some ⟨b, off + k * 2, none⟩) = some B ∧ Hid (RdBf w (.slice (some B) (n - k) (c - k)) (l.drop k)) := by
  obtain ⟨A', c', e, h0, h1, h2, h3⟩ := h
  cases e
  have hl : (l.drop k).length = l.length - k := List.length_drop
  by_cases hc : c = k
  · refine ⟨⟨b, off, none⟩, by simp [hc], ?_⟩
    have e0 : l.length - k = 0 := by omega
    have e1 : l.drop k = [] := List.eq_nil_of_length_eq_zero (by rw [hl]; exact e0)
    rw [e1]
    exact ⟨_, _, by rw [e0]; rfl, rfl, by simp, by omega, fun h => absurd h (by simp)⟩
  · refine ⟨⟨b, off + k * 2, none⟩, by simp [hc], ?_⟩
    refine ⟨_, _, by rw [hl], flat_bt_len _, by omega, by omega, fun hp => ?_⟩
    obtain ⟨b', off', e, hb, hcl⟩ := h3 (by omega)
    cases e
    refine ⟨b, off + k * 2, rfl, hb, fun j u hj => ?_⟩
    rw [bt_drop, List.getElem?_drop] at hj
    have := hcl _ u hj
    rwa [← Nat.add_assoc] at this
end
theorem bfs_lit0 (w : World) : Bfs (w.alloc (.cells #[] 54)) w.heap.size (.slice (some ⟨w.heap.size, 0, none⟩) 0 0) [] := World.ownsRow_lit w #[] 0 (Nat.le_refl _) (Nat.zero_le _) rfl
theorem bfs_lit1 (w : World) (b : Bf) (n : Nat) (hn : n = w.heap.size) : Bfs (w.alloc (.cells #[.int .i64 b.id, .int .i64 b.sz] 54)) n (.slice (some ⟨n, 0, none⟩) 1 1) [b] := by
  subst hn
  exact World.ownsRow_lit (base := w.heap.size) (e := 54) (size := 2) w #[.int .i64 b.id, .int .i64 b.sz] 1 (Nat.le_refl _) (by decide) rfl
theorem bfs_app {w : World} {base n : Nat} {v : Value} {l l' : List Bf} (h : w.ownsRow base 54 2 v n (l.flatMap bt ++ l'.flatMap bt)) (hn : n = l.length + l'.length) : Bfs w base v (l ++ l') := by
  unfold Bfs
  rw [List.flatMap_append, List.length_append, ← hn]
  exact h
/-- A pool's cells: two a group. -/
structure PlC (w : World) (base : Nat) (cs : Array Value) (p : Pls) : Prop where
  size : cs.size = 32
  at_ : ∀ i, i < 16 → ∃ a b, cs[i * 2]? = some a ∧ cs[i * 2 + 1]? = some b ∧ Bfs w base a (p i).fr ∧ Bfs w base b (p i).out
def RPl (w : World) (base : Nat) (v : Value) (p : Pls) : Prop := ∃ cs, v = .agg cs ∧ PlC w base cs p
def PlBlk (w : World) (g : Nat) (cs : Array Value) : Prop := w.heap[g]? = some (.cells cs 30 (0, 0))
section
variable {w w' : World} {base g : Nat} {cs : Array Value} {p : Pls}
theorem PlC.grow (h : PlC w base cs p) (gr : Grow w w') : PlC w' base cs p := ⟨h.size, fun i hi => by
  obtain ⟨a, b, h1, h2, h3, h4⟩ := h.at_ i hi
  exact ⟨a, b, h1, h2, h3.grow gr, h4.grow gr⟩⟩
theorem PlC.base_ {b' : Nat} (h : PlC w base cs p) (hb : b' ≤ base) : PlC w b' cs p := ⟨h.size, fun i hi => by
  obtain ⟨a, b, h1, h2, h3, h4⟩ := h.at_ i hi
  exact ⟨a, b, h1, h2, h3.base_ hb, h4.base_ hb⟩⟩
theorem PlC.only {b0 : Nat} {Z : Nat → TypeId → Prop} (h : PlC w base cs p) (o : Only b0 Z w w') (hz : ∀ b, ¬ Z b 54) : PlC w' base cs p := ⟨h.size, fun i hi => by
  obtain ⟨a, b, h1, h2, h3, h4⟩ := h.at_ i hi
  exact ⟨a, b, h1, h2, h3.only o hz, h4.only o hz⟩⟩
theorem RPl.grow {v : Value} (h : RPl w base v p) (gr : Grow w w') : RPl w' base v p := by
  obtain ⟨cs, rfl, h1⟩ := h
  exact ⟨cs, rfl, h1.grow gr⟩
theorem PlC.ones (h : PlC w base cs p) : ∀ y ∈ cs.toList, y.oneCell' = true := by
  intro y hy
  obtain ⟨j, hj⟩ := List.mem_iff_getElem?.1 hy
  rw [Array.getElem?_toList] at hj
  have hlt := (Array.getElem?_eq_some_iff.1 hj).1
  obtain ⟨a, b, h1, h2, h3, h4⟩ := h.at_ (j / 2) (by have := h.size; omega)
  rcases Nat.mod_two_eq_zero_or_one j with e | e
  · rw [show j / 2 * 2 = j by omega, hj] at h1
    cases h1
    exact h3.one
  · rw [show j / 2 * 2 + 1 = j by omega, hj] at h2
    cases h2
    exact h4.one
theorem PlC.zero (w : World) (base : Nat) : PlC w base #[.slice none 0 0, .slice none 0 0, .slice none 0 0, .slice none 0 0, .slice none 0 0, .slice none 0 0, .slice none 0 0, .slice none 0 0, .slice none 0 0, .slice none 0 0, .slice none 0 0, .slice none 0 0, .slice none 0 0, .slice none 0 0, .slice none 0 0, .slice none 0 0, .slice none 0 0, .slice none 0 0, .slice none 0 0, .slice none 0 0, .slice none 0 0, .slice none 0 0, .slice none 0 0, .slice none 0 0, .slice none 0 0, .slice none 0 0, .slice none 0 0, .slice none 0 0, .slice none 0 0, .slice none 0 0, .slice none 0 0, .slice none 0 0] noneP := by
  have key : ∀ j, j < 32 → (Array.replicate 32 (Value.slice none 0 0))[j]? = some (Value.slice none 0 0) := fun j hj => by rw [Array.getElem?_replicate, if_pos hj]
  exact ⟨rfl, fun i hi => ⟨.slice none 0 0, .slice none 0 0, key (i * 2) (by omega), key (i * 2 + 1) (by omega), bfs_none _ _, bfs_none _ _⟩⟩
/-- One cell laid anew. -/
theorem PlC.set0 (h : PlC w base cs p) (st : ∀ u l, Bfs w base u l → Bfs w' base u l) {k : Nat} (hk : k < 16) {v : Value} {l : List Bf} (hv : Bfs w' base v l) : PlC w' base (cs.setIfInBounds (k * 2) v) (upd p k ⟨l, (p k).out⟩) := by
  have hs := h.size
  refine ⟨by simpa using hs, fun i hi => ?_⟩
  obtain ⟨a, b, h1, h2, h3, h4⟩ := h.at_ i hi
  by_cases e : i = k
  · subst e
    rw [upd_same]
    exact ⟨v, b, by rw [Array.getElem?_setIfInBounds, if_pos rfl, if_pos (by omega)], by rw [Array.getElem?_setIfInBounds, if_neg (by omega)]; exact h2, hv, st _ _ h4⟩
  · rw [upd_other e]
    exact ⟨a, b, by rw [Array.getElem?_setIfInBounds, if_neg (by omega)]; exact h1, by rw [Array.getElem?_setIfInBounds, if_neg (by omega)]; exact h2, st _ _ h3, st _ _ h4⟩
theorem PlC.set1 (h : PlC w base cs p) (st : ∀ u l, Bfs w base u l → Bfs w' base u l) {k : Nat} (hk : k < 16) {v : Value} {l : List Bf} (hv : Bfs w' base v l) : PlC w' base (cs.setIfInBounds (k * 2 + 1) v) (upd p k ⟨(p k).fr, l⟩) := by
  have hs := h.size
  refine ⟨by simpa using hs, fun i hi => ?_⟩
  obtain ⟨a, b, h1, h2, h3, h4⟩ := h.at_ i hi
  by_cases e : i = k
  · subst e
    rw [upd_same]
    exact ⟨a, v, by rw [Array.getElem?_setIfInBounds, if_neg (by omega)]; exact h1, by rw [Array.getElem?_setIfInBounds, if_pos rfl, if_pos (by omega)], st _ _ h3, hv⟩
  · rw [upd_other e]
    exact ⟨a, b, by rw [Array.getElem?_setIfInBounds, if_neg (by omega)]; exact h1, by rw [Array.getElem?_setIfInBounds, if_neg (by omega)]; exact h2, st _ _ h3, st _ _ h4⟩
theorem PlBlk.lt (h : PlBlk w g cs) : g < w.heap.size := (Array.getElem?_eq_some_iff.1 h).1
theorem PlBlk.grow (h : PlBlk w g cs) (gr : Grow w w') : PlBlk w' g cs := (gr.block g h.lt).trans h
theorem PlBlk.cell (h : PlBlk w g cs) (i : Nat) : w.cell? ⟨g, i, none⟩ = cs[i]? := cell_of_row w g i _ _ _ h
theorem PlBlk.at_ (h : PlBlk w g cs) : ∀ j u, cs[j]? = some u → w.cell? ⟨g, 0 + j, none⟩ = some u := fun j u hu => by rw [Nat.zero_add, h.cell j]; exact hu
theorem PlBlk.fz (h : PlBlk w g cs) (i : Nat) : w.frozen? ⟨g, i, none⟩ = false := frozen_of h
theorem PlBlk.set (h : PlBlk w g cs) (k : Nat) (u : Value) : PlBlk (w.setCell ⟨g, k, none⟩ u) g (cs.setIfInBounds k u) := heap_setCell_own h u
end
/-- A box of a pool written over leaves the rows. -/
theorem Bfs.set_ {w : World} {base g i : Nat} {cs : Array Value} {v u : Value} {l : List Bf} (h : Bfs w base v l) (hb : PlBlk w g cs) : Bfs (w.setCell ⟨g, i, none⟩ u) base v l :=
  ownsRow_other h fun b cs' _ hh => Below.heap_setCell _ _ _ _ fun e => by
    have e : b = g := e
    subst e
    rw [hb] at hh
    injection hh with hh
    injection hh with _ e2
    exact absurd e2 (by decide)
theorem Bfs.but_ {w w' : World} {base g : Nat} {cs : Array Value} {v : Value} {l : List Bf} (h : Bfs w base v l) (hb : PlBlk w g cs) (k : But g w w') : Bfs w' base v l :=
  ownsRow_other h fun b cs' _ hh => k.2 b fun e => by
    subst e
    rw [hb] at hh
    injection hh with hh
    injection hh with _ e2
    exact absurd e2 (by decide)
theorem sizePl : (Try.prog.info? 30).map (·.size) = some 32 := by kernel_rfl
theorem cells_agg (cs : Array Value) : (Value.agg cs).cells = cs.toList.toArray := by rw [Array.toArray_toList]; rfl
theorem wpList_load_pl (w : World) {ops : Array Oper} {rest : List Oper} {o : Oper} {a : Act} {Q : Exit → Act → World → Prop} (hgd : o.guard = none) (x : Operand) (ho : o.op = .load 30 x)
    (g : Nat) (cs : Array Value) (hx : a.eval x = .pointer (some ⟨g, 0, none⟩)) (hb : PlBlk w g cs) (hcs : cs.size = 32) (h : wpList Try.prog ops Q rest (a.put o.dst (.agg cs)) w) : wpList Try.prog ops Q (o :: rest) a w :=
  wpList_load_cs w hgd _ x ho g 0 hx cs hb.at_ _ Try.underlying30 rfl (by rw [hcs]; exact sizePl) h
theorem wpList_store_pl (w₀ w : World) {ops : Array Oper} {rest : List Oper} {o : Oper} {a : Act} {Q : Exit → Act → World → Prop} (hgd : o.guard = none) (x y : Operand) (ho : o.op = .store 30 x y) (hdst : o.dst = none)
    (g : Nat) (old cs : Array Value) (hx : a.eval x = .pointer (some ⟨g, 0, none⟩)) (hy : a.eval y = .agg cs) (hb : PlBlk w g old) (hs : old.size = 32) (hcs : cs.size = 32) (h1 : ∀ y ∈ cs.toList, y.oneCell' = true) (hgr : Grow w₀ w) (hg : w₀.heap.size ≤ g)
    (h : ∀ w', PlBlk w' g cs → But g w w' → Grow w₀ w' → wpList Try.prog ops Q rest a w') : wpList Try.prog ops Q (o :: rest) a w :=
  wpList_store_cs w₀ w hgd _ x y ho hdst g 0 (.agg cs) hx hy cs.toList (cells_agg cs) 30 old cs hb (by rw [Array.length_toList, hcs]; exact sizePl) h1 (by rw [Array.length_toList]; omega)
    (by rw [List.take_zero, List.nil_append, List.drop_eq_nil_of_le (by simp [hs, hcs]), List.append_nil]) hgr hg h
theorem upon_load_pl (w : World) {ops : Array Oper} {o : Oper} {a : Act} {post : Value → World → Prop} (hgd : o.guard = none) (x : Operand) (ho : o.op = .load 30 x)
    (g : Nat) (cs : Array Value) (hx : a.eval x = .pointer (some ⟨g, 0, none⟩)) (hb : PlBlk w g cs) (hcs : cs.size = 32) (h : post (.agg cs) w) :
    if Region.wanted o (yielded ops a.tmps) = true then looseUpon Try.prog post ((execOp a.eval o).run Try.prog w) else post undef w := by
  have hw : Region.wanted o (yielded ops a.tmps) = true := by simp [Region.wanted, hgd]
  rw [if_pos hw]
  unfold execOp
  simp only [ho, hx, Instr.loadAt, Instr.sureAddr, Sem.run_bind, Sem.run_pure, Result.andThen_ok, run_load_cs w g 0 _ cs _ hb.at_ Try.underlying30 rfl (by rw [hcs]; exact sizePl), looseUpon]
  exact h
@[reducible] def z32 : Array Value := #[.slice none 0 0, .slice none 0 0, .slice none 0 0, .slice none 0 0, .slice none 0 0, .slice none 0 0, .slice none 0 0, .slice none 0 0, .slice none 0 0, .slice none 0 0, .slice none 0 0, .slice none 0 0, .slice none 0 0, .slice none 0 0, .slice none 0 0, .slice none 0 0, .slice none 0 0, .slice none 0 0, .slice none 0 0, .slice none 0 0, .slice none 0 0, .slice none 0 0, .slice none 0 0, .slice none 0 0, .slice none 0 0, .slice none 0 0, .slice none 0 0, .slice none 0 0, .slice none 0 0, .slice none 0 0, .slice none 0 0, .slice none 0 0]
/-- The two boxes of a call of the reference's: the pool that came in, the pool that goes out. -/
structure TwoB (w W : World) (cs zs : Array Value) : Prop where
  p : PlBlk W w.heap.size cs
  r : PlBlk W (w.heap.size + 1) zs
  g : Grow w W
  zs : zs.size = 32
theorem twoB (w : World) (cs : Array Value) : TwoB w ((w.alloc (.cells cs 30)).alloc (.cells z32 30)) cs z32 := by
  have s1 : (w.alloc (.cells cs 30)).heap.size = w.heap.size + 1 := Array.size_push _
  have h1 : PlBlk (w.alloc (.cells cs 30)) w.heap.size cs := heap_alloc_new w _
  have h2 := heap_alloc_new (w.alloc (.cells cs 30)) (.cells z32 30)
  rw [s1] at h2
  exact ⟨h1.grow (Grow.alloc _ _), h2, (Grow.alloc _ _).trans (Grow.alloc _ _), rfl⟩
theorem TwoB.grow {w W W' : World} {cs zs : Array Value} (h : TwoB w W cs zs) (g : Grow W W') : TwoB w W' cs zs := ⟨h.p.grow g, h.r.grow g, h.g.trans g, h.zs⟩
theorem TwoB.set {w W : World} {cs zs : Array Value} (h : TwoB w W cs zs) (i : Nat) (u : Value) : TwoB w (W.setCell ⟨w.heap.size, i, none⟩ u) (cs.setIfInBounds i u) zs :=
  ⟨h.p.set i u, (Below.heap_setCell _ _ _ _ (by simp)).trans h.r, Below.setCell h.g (Nat.le_refl _) u, h.zs⟩
theorem results4_pl {fn : Func} (p q r s : Tmp) (h : fn.results = #[.cell p 30, .tmp q, .tmp r, .tmp s]) (tmps : Array Value) (w : World) (g : Nat) (cs : Array Value) (ht : tmps.getD p undef = .pointer (some ⟨g, 0, none⟩)) (hb : PlBlk w g cs) (hcs : cs.size = 32) :
    (results fn tmps).run Try.prog w = .ok (.tuple #[.agg cs, tmps.getD q undef, tmps.getD r undef, tmps.getD s undef]) w := by
  have ht' : tmps[p]?.getD undef = .pointer (some ⟨g, 0, none⟩) := by simpa using ht
  have e1 := run_loadVar_row w g 30 30 cs (0, 0) _ hb Try.underlying30 rfl (by rw [hcs]; exact sizePl)
  simp [results, h, ht', asAddr, e1]
theorem results3_pl {fn : Func} (p q r : Tmp) (h : fn.results = #[.cell p 30, .tmp q, .tmp r]) (tmps : Array Value) (w : World) (g : Nat) (cs : Array Value) (ht : tmps.getD p undef = .pointer (some ⟨g, 0, none⟩)) (hb : PlBlk w g cs) (hcs : cs.size = 32) :
    (results fn tmps).run Try.prog w = .ok (.tuple #[.agg cs, tmps.getD q undef, tmps.getD r undef]) w := by
  have ht' : tmps[p]?.getD undef = .pointer (some ⟨g, 0, none⟩) := by simpa using ht
  have e1 := run_loadVar_row w g 30 30 cs (0, 0) _ hb Try.underlying30 rfl (by rw [hcs]; exact sizePl)
  simp [results, h, ht', asAddr, e1]
theorem results2_pl {fn : Func} (p q : Tmp) (h : fn.results = #[.cell p 30, .tmp q]) (tmps : Array Value) (w : World) (g : Nat) (cs : Array Value) (ht : tmps.getD p undef = .pointer (some ⟨g, 0, none⟩)) (hb : PlBlk w g cs) (hcs : cs.size = 32) :
    (results fn tmps).run Try.prog w = .ok (.tuple #[.agg cs, tmps.getD q undef]) w := by
  have ht' : tmps[p]?.getD undef = .pointer (some ⟨g, 0, none⟩) := by simpa using ht
  have e1 := run_loadVar_row w g 30 30 cs (0, 0) _ hb Try.underlying30 rfl (by rw [hcs]; exact sizePl)
  simp [results, h, ht', asAddr, e1]
end Go.Proofs.Ytkambcjinidomaa
