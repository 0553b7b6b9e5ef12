/- A map of numbers to buffers (size, state): looked up, laid into, laid anew, taken from; as a list that may stand in any order. -/
import Derived.Test.YtkambcjinidomaaRows
import Derived.Test.YtkambcjinidomaaGen
import Derived.ChangeMaps5
import Derived.Maps.RangeWalk
namespace Go.Proofs.Ytkambcjinidomaa
set_option linter.unusedVariables false
set_option linter.unusedSimpArgs false
set_option maxRecDepth 10000
open Go.ChangeShapes Go.WideShapes Go.ChangeAt Go.RowKit Go.MapKept Go.ChangeMaps

theorem bk_under : Try.prog.underlying 3 = some (.int .i64) := by kernel_rfl
theorem bk_key (k : Int) : IsKey (.int .i64) (.int .i64 k) := by simp [IsKey]
/-- A buffer as a value: its size, its state. -/
def bufV (x : Int × Int) : Value := .agg #[.int .i64 x.1, .int .i64 x.2]
def bentry (x : Int × Int × Int) : Value × Value := (.int .i64 x.1, bufV x.2)
/-- The block mb is a map of these numbers to these blocks, in the order in which they were laid. -/
def BMap (w : World) (mb : Nat) (L : List (Int × Int × Int)) : Prop := ∃ es ck, w.heap[mb]? = some (.map es ck) ∧ Stamped es ck ∧ es.toList.map (fun e => (e.key, e.val)) = L.map bentry

section
variable {w : World} {mb : Nat} {L : List (Int × Int × Int)} {es : List MapEntry}
theorem bentries_keys (h : es.map (fun e => (e.key, e.val)) = L.map bentry) : ∀ x ∈ es, IsKey (.int .i64) x.key := by
  intro x hx
  have : (x.key, x.val) ∈ L.map bentry := by rw [← h]; exact List.mem_map_of_mem (f := fun e : MapEntry => (e.key, e.val)) hx
  obtain ⟨y, hy, e⟩ := List.mem_map.1 this
  simp only [bentry, Prod.mk.injEq] at e
  rw [← e.1]
  exact bk_key _
theorem bentries_at (h : es.map (fun e => (e.key, e.val)) = L.map bentry) {j : Nat} {e : MapEntry} (hj : es[j]? = some e) : ∃ y, L[j]? = some y ∧ e.key = .int .i64 y.1 ∧ e.val = bufV y.2 := by
  have h1 : (es.map (fun e => (e.key, e.val)))[j]? = some (e.key, e.val) := by rw [List.getElem?_map, hj]; rfl
  rw [h, List.getElem?_map] at h1
  cases hy : L[j]? with
  | none => rw [hy] at h1; cases h1
  | some y =>
    rw [hy] at h1
    simp only [bentry, Option.map_some, Option.some.injEq, Prod.mk.injEq] at h1
    exact ⟨y, rfl, h1.1.symm, h1.2.symm⟩
theorem bfind_none (h : es.map (fun e => (e.key, e.val)) = L.map bentry) {x : Int} (hx : ∀ y ∈ L, y.1 ≠ x) (w : World) : (Instr.findKey 3 (.int .i64 x) es).run Try.prog w = .ok none w := by
  rcases findNow_spec (bk_key x) es 0 (bentries_keys h) with ⟨h1, h2⟩ | ⟨j, e, h1, h2, h3⟩
  · exact run_findKey bk_under h1
  · obtain ⟨y, hy, hk, _⟩ := bentries_at h h2
    rw [hk] at h3
    injection h3 with _ h3
    exact absurd h3 (hx y (List.mem_of_getElem? hy))
theorem bfind_some (h : es.map (fun e => (e.key, e.val)) = L.map bentry) (hn : (L.map Prod.fst).Nodup) {x : Int} {b : Int × Int} {j : Nat} (hj : L[j]? = some (x, b)) (w : World) : (Instr.findKey 3 (.int .i64 x) es).run Try.prog w = .ok (some (j, bufV b)) w := by
  rcases findNow_spec (bk_key x) es 0 (bentries_keys h) with ⟨h1, h2⟩ | ⟨i, e, h1, h2, h3⟩
  · have hl : es.length = L.length := by
      have := congrArg List.length h
      simpa using this
    have hjl : j < es.length := by rw [hl]; exact (List.getElem?_eq_some_iff.1 hj).1
    obtain ⟨y, hy, hk, _⟩ := bentries_at h (List.getElem?_eq_getElem hjl)
    rw [hj] at hy
    cases hy
    exact absurd hk (h2 _ (List.getElem_mem hjl))
  · obtain ⟨y, hy, hk, hv⟩ := bentries_at h h2
    rw [hk] at h3
    injection h3 with _ h3
    have hij : i = j := by
      have e1 : (L.map Prod.fst)[i]? = some x := by rw [List.getElem?_map, hy]; exact congrArg some h3
      have e2 : (L.map Prod.fst)[j]? = some x := by rw [List.getElem?_map, hj]; rfl
      have hi := (List.getElem?_eq_some_iff.1 e1).1
      exact (List.getElem?_inj hi hn).1 (e1.trans e2.symm)
    subst hij
    rw [hj] at hy
    cases hy
    rw [hv] at h1
    simpa using run_findKey bk_under h1
theorem BMap.look_some (h : BMap w mb L) (hn : (L.map Prod.fst).Nodup) {x : Int} {b : Int × Int} {j : Nat} (hj : L[j]? = some (x, b)) : (Instr.lookup 59 (.map (some mb)) (.int .i64 x) false).run Try.prog w = .ok (bufV b) w := by
  obtain ⟨es, ck, h1, h2, h3⟩ := h
  simp only [Instr.lookup, Sem.run_bind, run_underlying Try.underlying59, Result.andThen_ok, MapKept.run_getObj_map h1, Sem.run_pure, run_checkKey bk_under (bk_key x) _ 9999, bfind_some h3 hn hj]
  rfl
theorem BMap.look_none (h : BMap w mb L) {x : Int} (hx : ∀ y ∈ L, y.1 ≠ x) : (Instr.lookup 59 (.map (some mb)) (.int .i64 x) false).run Try.prog w = .ok (bufV (0, 0)) w := by
  obtain ⟨es, ck, h1, h2, h3⟩ := h
  have hz : (zeroValue 73).run Try.prog w = .ok (bufV (0, 0)) w := by kernel_rfl
  simp only [Instr.lookup, Sem.run_bind, run_underlying Try.underlying59, Result.andThen_ok, MapKept.run_getObj_map h1, Sem.run_pure, run_checkKey bk_under (bk_key x) _ 9999, bfind_none h3 hx, hz]
  rfl
theorem BMap.look2_some (h : BMap w mb L) (hn : (L.map Prod.fst).Nodup) {x : Int} {b : Int × Int} {j : Nat} (hj : L[j]? = some (x, b)) : (Instr.lookup 59 (.map (some mb)) (.int .i64 x) true).run Try.prog w = .ok (.tuple #[bufV b, .bool true]) w := by
  obtain ⟨es, ck, h1, h2, h3⟩ := h
  simp only [Instr.lookup, Sem.run_bind, run_underlying Try.underlying59, Result.andThen_ok, MapKept.run_getObj_map h1, Sem.run_pure, run_checkKey bk_under (bk_key x) _ 9999, bfind_some h3 hn hj]
  rfl
theorem BMap.look2_none (h : BMap w mb L) {x : Int} (hx : ∀ y ∈ L, y.1 ≠ x) : (Instr.lookup 59 (.map (some mb)) (.int .i64 x) true).run Try.prog w = .ok (.tuple #[bufV (0, 0), .bool false]) w := by
  obtain ⟨es, ck, h1, h2, h3⟩ := h
  have hz : (zeroValue 73).run Try.prog w = .ok (bufV (0, 0)) w := by kernel_rfl
  simp only [Instr.lookup, Sem.run_bind, run_underlying Try.underlying59, Result.andThen_ok, MapKept.run_getObj_map h1, Sem.run_pure, run_checkKey bk_under (bk_key x) _ 9999, bfind_none h3 hx, hz]
  rfl
theorem BMap.upd (h : BMap w mb L) {x : Int} (hx : ∀ y ∈ L, y.1 ≠ x) (b : Int × Int) : ∃ w', (Instr.mapUpdate 59 (.map (some mb)) (.int .i64 x) (bufV b)).run Try.prog w = .ok () w' ∧ BMap w' mb (L ++ [(x, b)]) ∧ w.grownBy w' (some mb) := by
  obtain ⟨es, ck, h1, h2, h3⟩ := h
  have hf := bfind_none h3 hx
  have hk : ∀ e ∈ es.toList, e.key ≠ .int .i64 x := by
    intro e he hex
    have : (e.key, e.val) ∈ L.map bentry := by rw [← h3]; exact List.mem_map_of_mem (f := fun e : MapEntry => (e.key, e.val)) he
    obtain ⟨y, hy, e2⟩ := List.mem_map.1 this
    simp only [bentry, Prod.mk.injEq] at e2
    have e3 := e2.1.trans hex
    injection e3 with _ e3
    exact hx y hy e3
  refine ⟨setBlock w mb (.map (es.push ⟨.int .i64 x, bufV b, ck⟩) (ck + 1)), ?_, ⟨_, _, heap_setBlock_same h1 _, stamped_push h2 hk, ?_⟩, ⟨rfl, rfl, rfl, by simp [setBlock], fun i _ hi => heap_setBlock_other h1 _ (fun e => hi (by rw [e]))⟩⟩
  · simp [Instr.mapUpdate, run_underlying Try.underlying59, MapKept.run_getObj_map h1, run_checkKey bk_under (bk_key x) _ 9999, hf, MapKept.run_setObj_map _ h1, Result.andThen, setBlock]
  · rw [Array.toList_push, List.map_append, List.map_append, h3]
    rfl
theorem BMap.set (h : BMap w mb L) (hn : (L.map Prod.fst).Nodup) {x : Int} {b : Int × Int} {j : Nat} (hj : L[j]? = some (x, b)) (c : Int × Int) : ∃ w', (Instr.mapUpdate 59 (.map (some mb)) (.int .i64 x) (bufV c)).run Try.prog w = .ok () w' ∧ BMap w' mb (L.set j (x, c)) ∧ w.grownBy w' (some mb) := by
  obtain ⟨es, ck, h1, h2, h3⟩ := h
  have hf := bfind_some h3 hn hj
  have hkey : ∀ e' ∈ es.toList, es[j]? = some e' → e'.key = .int .i64 x := by
    intro e' _ he'
    obtain ⟨y, hy, hk, _⟩ := bentries_at h3 (j := j) (e := e') (by simpa using he')
    rw [hj] at hy
    cases hy
    exact hk
  have hes : ∃ e0, es[j]? = some e0 ∧ e0.key = .int .i64 x := by
    have hl : es.toList.length = L.length := by
      have := congrArg List.length h3
      simpa using this
    have hjs : j < es.size := by rw [← Array.length_toList, hl]; exact (List.getElem?_eq_some_iff.1 hj).1
    exact ⟨es[j], Array.getElem?_eq_getElem hjs, hkey _ (by simp) (Array.getElem?_eq_getElem hjs)⟩
  obtain ⟨e0, hE0, hE1⟩ := hes
  refine ⟨setBlock w mb (.map (es.modify j (fun e' => { e' with key := .int .i64 x, val := bufV c })) ck), ?_, ⟨_, _, heap_setBlock_same h1 _, stamped_modify h2 _ _ (fun _ _ => rfl) (fun e' a he' => (hkey e' a he').symm), ?_⟩, ⟨rfl, rfl, rfl, by simp [setBlock], fun i _ hi => heap_setBlock_other h1 _ (fun e => hi (by rw [e]))⟩⟩
  · simp [Instr.mapUpdate, run_underlying Try.underlying59, MapKept.run_getObj_map h1, run_checkKey bk_under (bk_key x) _ 9999, hf, hE0, hE1, run_keyThatStays (bk_key x), MapKept.run_setObj_map _ h1, Result.andThen, setBlock]
  · refine List.ext_getElem? fun k => ?_
    rw [Array.toList_modify, List.getElem?_map, List.getElem?_map, List.getElem?_modify, List.getElem?_set]
    have hk := congrArg (fun l => l[k]?) h3
    simp only [List.getElem?_map] at hk
    by_cases e : j = k
    · subst e
      have hl : j < L.length := (List.getElem?_eq_some_iff.1 hj).1
      rw [hj] at hk
      cases he : es.toList[j]? with
      | none => rw [he] at hk; cases hk
      | some e' => simp [hl, bentry]
    · simp only [e, if_false]
      rw [← hk]
      cases es.toList[k]? <;> rfl
theorem BMap.del (h : BMap w mb L) (hn : (L.map Prod.fst).Nodup) {x : Int} {b : Int × Int} {j : Nat} (hj : L[j]? = some (x, b)) (ty : TypeId) : ∃ w', (Builtin.delete_ #[59, 3] ty #[.map (some mb), .int .i64 x]).run Try.prog w = .ok (.tuple #[]) w' ∧ BMap w' mb (L.eraseIdx j) ∧ w.grownBy w' (some mb) := by
  obtain ⟨es, ck, h1, h2, h3⟩ := h
  have hf := bfind_some h3 hn hj
  have hjl : j < L.length := (List.getElem?_eq_some_iff.1 hj).1
  have hl : es.toList.length = L.length := by
    have := congrArg List.length h3
    simpa using this
  have hjs : j < es.size := by rw [← Array.length_toList, hl]; exact hjl
  refine ⟨setBlock w mb (.map (es.eraseIdxIfInBounds j) ck), ?_, ⟨_, _, heap_setBlock_same h1 _, stamped_erase h2 j, ?_⟩, ⟨rfl, rfl, rfl, by simp [setBlock], fun i _ hi => heap_setBlock_other h1 _ (fun e => hi (by rw [e]))⟩⟩
  · simp [Builtin.delete_, run_underlying Try.underlying59, MapKept.run_getObj_map h1, run_checkKey bk_under (bk_key x) _ 9999, hf, MapKept.run_setObj_map _ h1, Result.andThen, setBlock]
  · unfold Array.eraseIdxIfInBounds
    rw [dif_pos hjs, Array.toList_eraseIdx, map_eraseIdx, h3, ← map_eraseIdx]
theorem BMap.len (h : BMap w mb L) (ty : TypeId) : (Builtin.len_ #[59] ty #[.map (some mb)]).run Try.prog w = .ok (.int .i64 (L.length : Nat)) w := by
  obtain ⟨es, ck, h1, h2, h3⟩ := h
  have hl : es.size = L.length := by
    have := congrArg List.length h3
    simpa using this
  simp [Builtin.len_, run_underlying Try.underlying59, MapKept.run_getObj_map h1, hl, goInt]
theorem BMap.keep (h : BMap w mb L) {w' : World} (e : w'.heap[mb]? = w.heap[mb]?) : BMap w' mb L := by
  obtain ⟨es, ck, h1, h2, h3⟩ := h
  exact ⟨es, ck, e.trans h1, h2, h3⟩
end
/-- The block mb is a map that holds these numbers' buffers, in whatever order. -/
def BM (w : World) (mb : Nat) (E : List (Int × Int × Int)) : Prop := ∃ L, BMap w mb L ∧ L.Perm E ∧ (E.map Prod.fst).Nodup
theorem perm_at {α : Type} : ∀ {l : List α} {j : Nat} {e : α} (_ : l[j]? = some e), l.Perm (e :: l.eraseIdx j)
  | [], j, e, h => by simp at h
  | a :: l, 0, e, h => by
    have : a = e := by simpa using h
    rw [this]
    exact List.Perm.refl _
  | a :: l, j + 1, e, h => by
    have ih := perm_at (l := l) (j := j) (e := e) (by simpa using h)
    exact (ih.cons a).trans (List.Perm.swap e a _)
theorem perm_set {L R : List (Int × Int × Int)} {e y : Int × Int × Int} {j : Nat} (h : L.Perm (e :: R)) (hj : L[j]? = some e) : (L.set j y).Perm (y :: R) := by
  have hl := (List.getElem?_eq_some_iff.1 hj).1
  have h2 : (L.eraseIdx j).Perm R := List.Perm.cons_inv ((perm_at hj).symm.trans h)
  have h3 : (L.set j y)[j]? = some y := by rw [List.getElem?_set]; simp [hl]
  have h4 := perm_at h3
  rw [List.eraseIdx_set_eq] at h4
  exact h4.trans (h2.cons y)
theorem perm_erase {L R : List (Int × Int × Int)} {e : Int × Int × Int} {j : Nat} (h : L.Perm (e :: R)) (hj : L[j]? = some e) : (L.eraseIdx j).Perm R := List.Perm.cons_inv ((perm_at hj).symm.trans h)
section
variable {w w' : World} {mb : Nat} {E R : List (Int × Int × Int)} {x : Int}
theorem BM.keep (h : BM w mb E) (e : w'.heap[mb]? = w.heap[mb]?) : BM w' mb E := by
  obtain ⟨L, h1, h2⟩ := h
  exact ⟨L, h1.keep e, h2⟩
theorem BM.blk (h : BM w mb E) : ∃ es ck, w.heap[mb]? = some (.map es ck) := by
  obtain ⟨L, ⟨es, ck, e, _⟩, _⟩ := h
  exact ⟨es, ck, e⟩
theorem BM.lt (h : BM w mb E) : mb < w.heap.size := by
  obtain ⟨es, ck, e⟩ := h.blk
  exact (Array.getElem?_eq_some_iff.1 e).1
theorem BM.perm (h : BM w mb E) (p : E.Perm R) : BM w mb R := by
  obtain ⟨L, h1, h2, h3⟩ := h
  exact ⟨L, h1, h2.trans p, (p.map Prod.fst).nodup_iff.1 h3⟩
theorem BM.look_some (h : BM w mb E) {b : Int × Int} (hx : (x, b) ∈ E) : (Instr.lookup 59 (.map (some mb)) (.int .i64 x) false).run Try.prog w = .ok (bufV b) w := by
  obtain ⟨L, h1, h2, h3⟩ := h
  obtain ⟨j, hj⟩ := List.getElem?_of_mem (h2.mem_iff.2 hx)
  exact h1.look_some ((h2.map Prod.fst).nodup_iff.2 h3) hj
theorem BM.look_none (h : BM w mb E) (hx : ∀ y ∈ E, y.1 ≠ x) : (Instr.lookup 59 (.map (some mb)) (.int .i64 x) false).run Try.prog w = .ok (bufV (0, 0)) w := by
  obtain ⟨L, h1, h2, h3⟩ := h
  exact h1.look_none fun y hy => hx y (h2.mem_iff.1 hy)
theorem BM.len (h : BM w mb E) (ty : TypeId) : (Builtin.len_ #[59] ty #[.map (some mb)]).run Try.prog w = .ok (.int .i64 (E.length : Nat)) w := by
  obtain ⟨L, h1, h2, h3⟩ := h
  rw [← h2.length_eq]
  exact h1.len ty
theorem BM.put_new (h : BM w mb E) (hx : ∀ y ∈ E, y.1 ≠ x) (b : Int × Int) : ∃ w', (Instr.mapUpdate 59 (.map (some mb)) (.int .i64 x) (bufV b)).run Try.prog w = .ok () w' ∧ BM w' mb ((x, b) :: E) ∧ w.grownBy w' (some mb) := by
  obtain ⟨L, h1, h2, h3⟩ := h
  obtain ⟨w', r1, r2, r3⟩ := h1.upd (fun y hy => hx y (h2.mem_iff.1 hy)) b
  refine ⟨w', r1, ⟨_, r2, ?_, ?_⟩, r3⟩
  · exact List.perm_append_comm.trans (h2.cons (x, b))
  · rw [List.map_cons]
    refine List.nodup_cons.2 ⟨fun q => ?_, h3⟩
    obtain ⟨y, hy, e⟩ := List.mem_map.1 q
    exact hx y hy e
theorem BM.put_old {b : Int × Int} (h : BM w mb ((x, b) :: R)) (c : Int × Int) : ∃ w', (Instr.mapUpdate 59 (.map (some mb)) (.int .i64 x) (bufV c)).run Try.prog w = .ok () w' ∧ BM w' mb ((x, c) :: R) ∧ w.grownBy w' (some mb) := by
  obtain ⟨L, h1, h2, h3⟩ := h
  obtain ⟨j, hj⟩ := List.getElem?_of_mem (h2.mem_iff.2 List.mem_cons_self)
  obtain ⟨w', r1, r2, r3⟩ := h1.set ((h2.map Prod.fst).nodup_iff.2 h3) hj c
  exact ⟨w', r1, ⟨_, r2, perm_set h2 hj, by simpa using h3⟩, r3⟩
theorem BM.del {b : Int × Int} (h : BM w mb ((x, b) :: R)) (ty : TypeId) : ∃ w', (Builtin.delete_ #[59, 3] ty #[.map (some mb), .int .i64 x]).run Try.prog w = .ok (.tuple #[]) w' ∧ BM w' mb R ∧ w.grownBy w' (some mb) := by
  obtain ⟨L, h1, h2, h3⟩ := h
  obtain ⟨j, hj⟩ := List.getElem?_of_mem (h2.mem_iff.2 List.mem_cons_self)
  obtain ⟨w', r1, r2, r3⟩ := h1.del ((h2.map Prod.fst).nodup_iff.2 h3) hj ty
  exact ⟨w', r1, ⟨_, r2, perm_erase h2 hj, (List.nodup_cons.1 (by simpa using h3)).2⟩, r3⟩
end
end Go.Proofs.Ytkambcjinidomaa
