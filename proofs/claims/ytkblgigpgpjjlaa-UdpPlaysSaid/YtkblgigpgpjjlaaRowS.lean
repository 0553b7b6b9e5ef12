/- Rows that are written: one element anew, the end cleared, what stands behind moved to the front. Of no program. -/
import Derived.Test.YtkblgigpgpjjlaaRowG
import Derived.Test.YtkblgigpgpjjlaaCellsN
import Derived.Deep.RegionLaw
namespace Go.Proofs.Ytkblgigpgpjjlaa
set_option linter.unusedVariables false
set_option linter.unusedSimpArgs false
open Go.ChangeShapes Go.WideShapes Go.ChangeAt Go.RowKit

theorem grownBy_row {w : World} {g : Nat} {cs : Array Value} : w.grownBy (w.setRow g cs) (some g) := ⟨rfl, rfl, rfl, by simp [World.setRow], fun k _ hk => by
  have : k ≠ g := fun e => hk (by rw [e])
  simp [World.setRow, Array.getElem?_modify, this.symm]⟩
section
variable {α : Type} {c : Cel α} {T : TypeId} {w w' : World} {base g n cp : Nat} {m : List α}
/-- The row as cells of its block. -/
structure Blk1 (c : Cel α) (T : TypeId) (w : World) (g n cp : Nat) (m : List α) (cur : Array Value) : Prop where
  blk : w.heap[g]? = some (.cells cur T (0, 0))
  le : n ≤ cp
  mx : cp ≤ maxLen
  sz : cur.size = cp * c.K
  tk : cur.toList.take (n * c.K) = m.flatMap c.f
  len : m.length = n
theorem OwG.blk1 (h : OwG c T w base (.slice (some ⟨g, 0, none⟩) n cp) m) : base ≤ g ∧ ∃ cur, Blk1 c T w g n cp m cur := by
  rcases h.2 with ⟨e, _⟩ | ⟨g', cap, cur, e, hb, hh, hnc, hcm, hcs, ht⟩
  · cases e
  · have e1 : g = g' := by injection e with e; injection e with e; injection e
    have e2 : n = m.length := by injection e
    have e3 : cp = cap := by injection e
    subst e1 e2 e3
    exact ⟨hb, cur, hh, hnc, hcm, hcs, ht, rfl⟩
theorem Blk1.own {cur : Array Value} (h : Blk1 c T w g n cp m cur) (hb : base ≤ g) : OwG c T w base (.slice (some ⟨g, 0, none⟩) n cp) m := by
  obtain ⟨h1, h2, h3, h4, h5, rfl⟩ := h
  exact ⟨c.flat_len m, .inr ⟨g, cp, cur, rfl, hb, h1, h2, h3, h4, h5⟩⟩
theorem OwG.somes {v : Value} (h : OwG c T w base v m) (hp : 0 < m.length) : ∃ g cp, v = .slice (some ⟨g, 0, none⟩) m.length cp ∧ g < w.heap.size := by
  rcases h.2 with ⟨_, e⟩ | ⟨g', cap, cur, e, hb, hh, hnc, hcm, hcs, ht⟩
  · omega
  · exact ⟨g', cap, e, (Array.getElem?_eq_some_iff.1 hh).1⟩
theorem flat_set (i : Nat) (x : α) (hi : i < m.length) : (m.set i x).flatMap c.f = (m.flatMap c.f).take (i * c.K) ++ (c.f x ++ (m.flatMap c.f).drop ((i + 1) * c.K)) := by
  rw [List.set_eq_take_append_cons_drop, if_pos hi, List.flatMap_append, List.flatMap_cons, c.take, c.drop]
/-- One element anew. -/
theorem Blk1.set {cur new : Array Value} (h : Blk1 c T w g n cp m cur) {i : Nat} (hi : i < n) (x : α) (hn : cur.toList.take (i * c.K) ++ c.f x ++ cur.toList.drop (i * c.K + (c.f x).length) = new.toList) (hb : w'.heap[g]? = some (.cells new T (0, 0))) : Blk1 c T w' g n cp (m.set i x) new := by
  obtain ⟨h1, h2, h3, h4, h5, rfl⟩ := h
  have hl := c.len x
  have k1 : i * c.K + c.K ≤ m.length * c.K := by
    have := Nat.mul_le_mul_right c.K hi
    rwa [Nat.succ_mul] at this
  have k2 : m.length * c.K ≤ cp * c.K := Nat.mul_le_mul_right _ h2
  have hs : new.toList.length = cur.toList.length := by
    rw [← hn, List.length_append, List.length_append, List.length_take, List.length_drop, hl, Array.length_toList]
    omega
  refine ⟨hb, h2, h3, by rw [← Array.length_toList, hs, Array.length_toList, h4], ?_, by rw [List.length_set]⟩
  have hc : cur.toList.length = cp * c.K := by rw [Array.length_toList, h4]
  rw [flat_set i x hi, ← h5, ← hn, hl]
  generalize cur.toList = L at *
  generalize c.f x = F at *
  have e1 : (i + 1) * c.K = i * c.K + c.K := Nat.succ_mul _ _
  rw [e1]
  generalize i * c.K = a at *
  generalize m.length * c.K = b at *
  generalize cp * c.K = s at *
  rw [List.take_take, Nat.min_eq_left (by omega), List.append_assoc, List.take_append, List.take_of_length_le (l := L.take a) (by rw [List.length_take]; omega), List.length_take, Nat.min_eq_left (by omega), List.take_append, List.take_of_length_le (l := F) (by omega), hl, List.drop_take]
  congr 3
  omega
/-- The row cut at k, its block written over from k on. -/
theorem Blk1.cut {cur new : Array Value} (h : Blk1 c T w g n cp m cur) {k : Nat} (hk : k ≤ n) (hs : new.size = cur.size) (hn : new.toList.take (k * c.K) = cur.toList.take (k * c.K)) (hb : w'.heap[g]? = some (.cells new T (0, 0))) : Blk1 c T w' g k cp (m.take k) new := by
  obtain ⟨h1, h2, h3, h4, h5, rfl⟩ := h
  refine ⟨hb, by omega, h3, by rw [hs, h4], ?_, by rw [List.length_take]; omega⟩
  rw [hn, c.take, ← h5, List.take_take, Nat.min_eq_left (Nat.mul_le_mul_right _ hk)]
/-- New elements at the front. -/
theorem Blk1.over {cur new : Array Value} (h : Blk1 c T w g n cp m cur) {l : List α} (hk : l.length ≤ cp) (hs : new.size = cur.size) (hn : new.toList.take (l.length * c.K) = l.flatMap c.f) (hb : w'.heap[g]? = some (.cells new T (0, 0))) : Blk1 c T w' g l.length cp l new :=
  ⟨hb, hk, h.mx, by rw [hs, h.sz], hn, rfl⟩
end
theorem zc_one (z : Array Value) (n : Nat) (h : ∀ y ∈ z, y.oneCell' = true) : ∀ y ∈ (Builtin.zeroCells z n).toList, y.oneCell' = true := by
  intro y hy
  unfold Builtin.zeroCells at hy
  rw [Array.toList_map, List.mem_map] at hy
  obtain ⟨i, hi, rfl⟩ := hy
  have hi' : i < n * z.size := by simpa using hi
  have hz : 0 < z.size := by
    rcases Nat.eq_zero_or_pos z.size with e | e
    · rw [e, Nat.mul_zero] at hi'
      omega
    · exact e
  have hlt := Nat.mod_lt i hz
  rw [getElem!_pos z _ hlt]
  exact h _ (Array.getElem_mem hlt)
/-- clear(s) of a slice of what is at the end of a block. -/
theorem run_clearK {P : Program} (w : World) (t T ty : TypeId) (z : Value) (K : Nat) (ht : P.underlying t = some (.slice T)) (hz : ∀ w, (zeroValue T).run P w = .ok z w) (hK : z.cells.size = K) (h1 : ∀ y ∈ z.cells, y.oneCell' = true)
    (g o n cp : Nat) (cur : Array Value) (hb : w.heap[g]? = some (.cells cur T (0, 0))) (hl : o + n * K ≤ cur.size) :
    ∃ w' new, (Builtin.clear_ #[t] ty #[.slice (some ⟨g, o, none⟩) n cp]).run P w = .ok (.tuple #[]) w' ∧ w'.heap[g]? = some (.cells new T (0, 0)) ∧ new.size = cur.size ∧ new.toList.take o = cur.toList.take o ∧ w.grownBy w' (some g) ∧ w'.heap.size = w.heap.size := by
  cases n with
  | zero => exact ⟨w, cur, by simp [Builtin.clear_, run_underlying ht], hb, rfl, rfl, World.grownBy.refl _ _, rfl⟩
  | succ n =>
    have hlen : (Builtin.zeroCells z.cells (n + 1)).toList.length = (n + 1) * K := by rw [Array.length_toList, size_zeroCells, hK]
    have hr := run_storeCells_at (P := P) g o T (Builtin.zeroCells z.cells (n + 1)).toList 0 cur w hb (by rw [hlen]; omega) (zc_one _ _ h1)
    rw [Nat.add_zero] at hr
    refine ⟨w.setRow g (cur.toList.take o ++ (Builtin.zeroCells z.cells (n + 1)).toList ++ cur.toList.drop (o + (Builtin.zeroCells z.cells (n + 1)).toList.length)).toArray, (cur.toList.take o ++ (Builtin.zeroCells z.cells (n + 1)).toList ++ cur.toList.drop (o + (Builtin.zeroCells z.cells (n + 1)).toList.length)).toArray, ?_, setRow_heap w g cur _ T _ hb, ?_, ?_, grownBy_row, by simp [World.setRow]⟩
    · simp [Builtin.clear_, run_underlying ht, hz w, hr, Result.andThen]
    · simp only [List.size_toArray, List.length_append, List.length_take, List.length_drop, Array.length_toList, size_zeroCells, hK]
      omega
    · simp only [List.append_assoc]
      rw [List.take_append_of_le_length (by rw [List.length_take, Array.length_toList]; omega), List.take_take, Nat.min_self]
/-- append(s[:0], x...) where there is room: the front is written over. -/
theorem run_appFront {P : Program} (w : World) (t ty T : TypeId) (z : Value) (K bytes : Nat) (ht : P.underlying t = some (.slice T)) (hi : (P.info? T).map (fun i => (i.zero, i.size, i.bytes)) = some (some z, K, bytes)) (g cp : Nat) (cur : Array Value) (hb : w.heap[g]? = some (.cells cur T (0, 0)))
    (ad : Addr) (m c : Nat) (ys : List Value) (hl : ys.length = m * K) (hc : ∀ j u, ys[j]? = some u → w.cell? (ad.add j) = some u) (h1 : ∀ y ∈ ys, y.oneCell' = true) (hroom : m ≤ cp) (hsz : cur.size = cp * K) :
    ∃ w' new, (Builtin.append_ #[t, t] ty #[.slice (some ⟨g, 0, none⟩) 0 cp, .slice (some ad) m c]).run P w = .ok (.slice (some ⟨g, 0, none⟩) m cp) w' ∧ w'.heap[g]? = some (.cells new T (0, 0)) ∧ new.size = cur.size ∧ new.toList.take (m * K) = ys ∧ w.grownBy w' (some g) ∧ w'.heap.size = w.heap.size := by
  obtain ⟨i, hi0, hz0, hz1, hz2⟩ := info_parts hi
  subst hz1
  subst hz2
  have hf := run_firstCells_some (P := P) w i.size m ad m c ys hl hc
  have hmul : m * i.size ≤ cp * i.size := Nat.mul_le_mul_right _ hroom
  have hst := run_storeCells_at (P := P) g 0 T ys 0 cur w hb (by rw [hl]; omega) h1
  simp only [Nat.add_zero, Nat.zero_add, List.take_zero, List.nil_append] at hst
  refine ⟨w.setRow g (ys ++ cur.toList.drop ys.length).toArray, (ys ++ cur.toList.drop ys.length).toArray, ?_, setRow_heap w g cur _ T _ hb, ?_, ?_, grownBy_row, by simp [World.setRow]⟩
  · simp [Builtin.append_, run_underlying ht, sizeOf, typeInfo, hi0, Builtin.lenOf, hroom, hf, Addr.add_lit, hst]
  · simp only [List.size_toArray, List.length_append, List.length_drop, Array.length_toList, hl]
    omega
  · rw [List.take_append_of_le_length (by omega), ← hl, List.take_length]
/-- A store of many cells into an old block. -/
theorem wpList_store_old {P : Program} (w : World) {ops : Array Oper} {rest : List Oper} {o : Oper} {a : Act} {Q : Exit → Act → World → Prop} (hgd : o.guard = none) (ty : TypeId) (x y : Operand) (ho : o.op = .store ty x y) (hdst : o.dst = none)
    (g i : Nat) (u : Value) (hx : a.eval x = .pointer (some ⟨g, i, none⟩)) (hy : a.eval y = u) (us : List Value) (hu : u.cells = us.toArray) (T : TypeId) (old new : Array Value) (hb : w.heap[g]? = some (.cells old T (0, 0))) (hi : (P.info? ty).map (·.size) = some us.length) (h1 : ∀ y ∈ us, y.oneCell' = true) (hl : i + us.length ≤ old.size)
    (hset : old.toList.take i ++ us ++ old.toList.drop (i + us.length) = new.toList)
    (h : ∀ w', w'.heap[g]? = some (.cells new T (0, 0)) → w.grownBy w' (some g) → wpList P ops Q rest a w') : wpList P ops Q (o :: rest) a w := by
  refine wpList_plain hgd fun _ hK => ?_
  unfold Oper.wp execOp
  simp only [ho, hx, hy, Instr.storeAt, Instr.sureAddr, Sem.run_bind, Sem.run_pure, Result.andThen_ok, run_store_cs w g i ty T u us old new hu hb hi h1 hl hset]
  refine hK _ _ ?_
  have e : a.put o.dst undef = a := by rw [hdst]; rfl
  rw [e]
  exact h _ (setRow_heap w g _ _ _ _ hb) grownBy_row
/-- clear, as an operation of a sequence. -/
theorem wpList_clearK {P : Program} (w : World) {ops : Array Oper} {rest : List Oper} {o : Oper} {a : Act} {Q : Exit → Act → World → Prop} (hgd : o.guard = none) (hdst : o.dst = none) (s : Operand) (t : TypeId)
    (ho : o.op = .call { callee := .builtin .clear, args := #[s], argTypes := #[t] }) (T : TypeId) (z : Value) (K : Nat) (ht : P.underlying t = some (.slice T)) (hz : ∀ w, (zeroValue T).run P w = .ok z w) (hK : z.cells.size = K) (h1 : ∀ y ∈ z.cells, y.oneCell' = true)
    (g off n cp : Nat) (hs : a.eval s = .slice (some ⟨g, off, none⟩) n cp) (cur : Array Value) (hb : w.heap[g]? = some (.cells cur T (0, 0))) (hl : off + n * K ≤ cur.size)
    (h : ∀ w' new, w'.heap[g]? = some (.cells new T (0, 0)) → new.size = cur.size → new.toList.take off = cur.toList.take off → w.grownBy w' (some g) → wpList P ops Q rest a w') : wpList P ops Q (o :: rest) a w := by
  obtain ⟨w', new, hrun, k1, k2, k3, k4, k5⟩ := run_clearK (P := P) w t T o.type z K ht hz hK h1 g off n cp cur hb hl
  refine wpList_plain hgd fun _ hKK => ?_
  unfold Oper.wp execOp
  simp only [ho, resolve, invoke, builtin, Sem.run_bind, Sem.run_pure, Result.andThen_ok, List.map_toArray, List.map_cons, List.map_nil, hs, hrun]
  refine hKK _ _ ?_
  have e : ∀ v, a.put o.dst v = a := fun v => by rw [hdst]; rfl
  rw [e]
  exact h w' new k1 k2 k3 k4
/-- append onto an emptied front, as one step of a region that draws its order. -/
theorem step_appFront {P : Program} (w : World) {ops : Array Oper} {o : Oper} {a : Act} {KK : Act → World → Prop} {Q : Exit → Act → World → Prop} {E : Prop} (hgd : o.guard = none) (s x : Operand) (t : TypeId)
    (ho : o.op = .call { callee := .builtin .append, args := #[s, x], argTypes := #[t, t] }) (T : TypeId) (z : Value) (K bytes : Nat) (ht : P.underlying t = some (.slice T)) (hi : (P.info? T).map (fun i => (i.zero, i.size, i.bytes)) = some (some z, K, bytes)) (g cp : Nat) (cur : Array Value) (hb : w.heap[g]? = some (.cells cur T (0, 0)))
    (hs : a.eval s = .slice (some ⟨g, 0, none⟩) 0 cp) (ad : Addr) (m c : Nat) (hx : a.eval x = .slice (some ad) m c) (ys : List Value) (hl : ys.length = m * K) (hc : ∀ j u, ys[j]? = some u → w.cell? (ad.add j) = some u) (h1 : ∀ y ∈ ys, y.oneCell' = true) (hroom : m ≤ cp) (hsz : cur.size = cp * K)
    (h : ∀ w' new, w'.heap[g]? = some (.cells new T (0, 0)) → new.size = cur.size → new.toList.take (m * K) = ys → w.grownBy w' (some g) → KK (a.put o.dst (.slice (some ⟨g, 0, none⟩) m cp)) w') :
    if Region.wanted o (yielded ops a.tmps) = true then Oper.wp P o a w KK Q else E := by
  have hw : Region.wanted o (yielded ops a.tmps) = true := by simp [Region.wanted, hgd]
  rw [if_pos hw]
  obtain ⟨w', new, hrun, k1, k2, k3, k4, k5⟩ := run_appFront (P := P) w t o.type T z K bytes ht hi g cp cur hb ad m c ys hl hc h1 hroom hsz
  unfold Oper.wp execOp
  simp only [ho, resolve, invoke, builtin, Sem.run_bind, Sem.run_pure, Result.andThen_ok, List.map_toArray, List.map_cons, List.map_nil, hs, hx, hrun]
  exact h w' new k1 k2 k3 k4
end Go.Proofs.Ytkblgigpgpjjlaa
