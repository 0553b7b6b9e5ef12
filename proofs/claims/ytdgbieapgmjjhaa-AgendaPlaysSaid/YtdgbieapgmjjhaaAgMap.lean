/- A map of numbers to numbers: looked up, laid into, laid anew, taken from; as a function. -/
import Derived.Test.YtdgbieapgmjjhaaRows
import Derived.Test.YtdgbieapgmjjhaaGen
import Derived.ChangeMaps5
import Derived.Maps.RangeWalk
namespace Go.Proofs.Ytdgbieapgmjjhaa
set_option linter.unusedVariables false
set_option linter.unusedSimpArgs false
set_option maxRecDepth 10000
open Go.ChangeShapes Go.WideShapes Go.ChangeAt Go.RowKit Go.MapKept Go.ChangeMaps

theorem ik_under : Try.prog.underlying 3 = some (.int .i64) := by kernel_rfl
theorem ik_key (k : Int) : IsKey (.int .i64) (.int .i64 k) := by simp [IsKey]
def ientry (x : Int × Int) : Value × Value := (.int .i64 x.1, .int .i64 x.2)
/-- The block mb is a map of these numbers to these blocks, in the order in which they were laid. -/
def IMap (w : World) (mb : Nat) (L : List (Int × Int)) : Prop := ∃ es ck, w.heap[mb]? = some (.map es ck) ∧ Stamped es ck ∧ es.toList.map (fun e => (e.key, e.val)) = L.map ientry

section
variable {w : World} {mb : Nat} {L : List (Int × Int)} {es : List MapEntry}
theorem ientries_keys (h : es.map (fun e => (e.key, e.val)) = L.map ientry) : ∀ x ∈ es, IsKey (.int .i64) x.key := by
  intro x hx
  have : (x.key, x.val) ∈ L.map ientry := by rw [← h]; exact List.mem_map_of_mem (f := fun e : MapEntry => (e.key, e.val)) hx
  obtain ⟨y, hy, e⟩ := List.mem_map.1 this
  simp only [ientry, Prod.mk.injEq] at e
  rw [← e.1]
  exact ik_key _
theorem ientries_at (h : es.map (fun e => (e.key, e.val)) = L.map ientry) {j : Nat} {e : MapEntry} (hj : es[j]? = some e) : ∃ y, L[j]? = some y ∧ e.key = .int .i64 y.1 ∧ e.val = .int .i64 y.2 := by
  have h1 : (es.map (fun e => (e.key, e.val)))[j]? = some (e.key, e.val) := by rw [List.getElem?_map, hj]; rfl
  rw [h, List.getElem?_map] at h1
  cases hy : L[j]? with
  | none => rw [hy] at h1; cases h1
  | some y =>
    rw [hy] at h1
    simp only [ientry, Option.map_some, Option.some.injEq, Prod.mk.injEq] at h1
    exact ⟨y, rfl, h1.1.symm, h1.2.symm⟩
theorem ifind_none (h : es.map (fun e => (e.key, e.val)) = L.map ientry) {x : Int} (hx : ∀ y ∈ L, y.1 ≠ x) (w : World) : (Instr.findKey 3 (.int .i64 x) es).run Try.prog w = .ok none w := by
  rcases findNow_spec (ik_key x) es 0 (ientries_keys h) with ⟨h1, h2⟩ | ⟨j, e, h1, h2, h3⟩
  · exact run_findKey ik_under h1
  · obtain ⟨y, hy, hk, _⟩ := ientries_at h h2
    rw [hk] at h3
    injection h3 with _ h3
    exact absurd h3 (hx y (List.mem_of_getElem? hy))
theorem ifind_some (h : es.map (fun e => (e.key, e.val)) = L.map ientry) (hn : (L.map Prod.fst).Nodup) {x : Int} {b : Int} {j : Nat} (hj : L[j]? = some (x, b)) (w : World) : (Instr.findKey 3 (.int .i64 x) es).run Try.prog w = .ok (some (j, .int .i64 b)) w := by
  rcases findNow_spec (ik_key x) es 0 (ientries_keys h) with ⟨h1, h2⟩ | ⟨i, e, h1, h2, h3⟩
  · have hl : es.length = L.length := by
      have := congrArg List.length h
      simpa using this
    have hjl : j < es.length := by rw [hl]; exact (List.getElem?_eq_some_iff.1 hj).1
    obtain ⟨y, hy, hk, _⟩ := ientries_at h (List.getElem?_eq_getElem hjl)
    rw [hj] at hy
    cases hy
    exact absurd hk (h2 _ (List.getElem_mem hjl))
  · obtain ⟨y, hy, hk, hv⟩ := ientries_at h h2
    rw [hk] at h3
    injection h3 with _ h3
    have hij : i = j := by
      have e1 : (L.map Prod.fst)[i]? = some x := by rw [List.getElem?_map, hy]; exact congrArg some h3
      have e2 : (L.map Prod.fst)[j]? = some x := by rw [List.getElem?_map, hj]; rfl
      have hi := (List.getElem?_eq_some_iff.1 e1).1
      exact (List.getElem?_inj hi hn).1 (e1.trans e2.symm)
    subst hij
    rw [hj] at hy
    cases hy
    rw [hv] at h1
    simpa using run_findKey ik_under h1
theorem IMap.look_some (h : IMap w mb L) (hn : (L.map Prod.fst).Nodup) {x : Int} {b : Int} {j : Nat} (hj : L[j]? = some (x, b)) : (Instr.lookup 56 (.map (some mb)) (.int .i64 x) false).run Try.prog w = .ok (.int .i64 b) w := by
  obtain ⟨es, ck, h1, h2, h3⟩ := h
  simp only [Instr.lookup, Sem.run_bind, run_underlying Try.underlying56, Result.andThen_ok, MapKept.run_getObj_map h1, Sem.run_pure, run_checkKey ik_under (ik_key x) _ 9999, ifind_some h3 hn hj]
  rfl
theorem IMap.look_none (h : IMap w mb L) {x : Int} (hx : ∀ y ∈ L, y.1 ≠ x) : (Instr.lookup 56 (.map (some mb)) (.int .i64 x) false).run Try.prog w = .ok (.int .i64 0) w := by
  obtain ⟨es, ck, h1, h2, h3⟩ := h
  have hz : (zeroValue 3).run Try.prog w = .ok (.int .i64 0) w := by kernel_rfl
  simp only [Instr.lookup, Sem.run_bind, run_underlying Try.underlying56, Result.andThen_ok, MapKept.run_getObj_map h1, Sem.run_pure, run_checkKey ik_under (ik_key x) _ 9999, ifind_none h3 hx, hz]
  rfl
theorem IMap.look2_some (h : IMap w mb L) (hn : (L.map Prod.fst).Nodup) {x : Int} {b : Int} {j : Nat} (hj : L[j]? = some (x, b)) : (Instr.lookup 56 (.map (some mb)) (.int .i64 x) true).run Try.prog w = .ok (.tuple #[.int .i64 b, .bool true]) w := by
  obtain ⟨es, ck, h1, h2, h3⟩ := h
  simp only [Instr.lookup, Sem.run_bind, run_underlying Try.underlying56, Result.andThen_ok, MapKept.run_getObj_map h1, Sem.run_pure, run_checkKey ik_under (ik_key x) _ 9999, ifind_some h3 hn hj]
  rfl
theorem IMap.look2_none (h : IMap w mb L) {x : Int} (hx : ∀ y ∈ L, y.1 ≠ x) : (Instr.lookup 56 (.map (some mb)) (.int .i64 x) true).run Try.prog w = .ok (.tuple #[.int .i64 0, .bool false]) w := by
  obtain ⟨es, ck, h1, h2, h3⟩ := h
  have hz : (zeroValue 3).run Try.prog w = .ok (.int .i64 0) w := by kernel_rfl
  simp only [Instr.lookup, Sem.run_bind, run_underlying Try.underlying56, Result.andThen_ok, MapKept.run_getObj_map h1, Sem.run_pure, run_checkKey ik_under (ik_key x) _ 9999, ifind_none h3 hx, hz]
  rfl
theorem IMap.upd (h : IMap w mb L) {x : Int} (hx : ∀ y ∈ L, y.1 ≠ x) (b : Int) : ∃ w', (Instr.mapUpdate 56 (.map (some mb)) (.int .i64 x) (.int .i64 b)).run Try.prog w = .ok () w' ∧ IMap w' mb (L ++ [(x, b)]) ∧ w.grownBy w' (some mb) := by
  obtain ⟨es, ck, h1, h2, h3⟩ := h
  have hf := ifind_none h3 hx
  have hk : ∀ e ∈ es.toList, e.key ≠ .int .i64 x := by
    intro e he hex
    have : (e.key, e.val) ∈ L.map ientry := by rw [← h3]; exact List.mem_map_of_mem (f := fun e : MapEntry => (e.key, e.val)) he
    obtain ⟨y, hy, e2⟩ := List.mem_map.1 this
    simp only [ientry, Prod.mk.injEq] at e2
    have e3 := e2.1.trans hex
    injection e3 with _ e3
    exact hx y hy e3
  refine ⟨setBlock w mb (.map (es.push ⟨.int .i64 x, .int .i64 b, ck⟩) (ck + 1)), ?_, ⟨_, _, heap_setBlock_same h1 _, stamped_push h2 hk, ?_⟩, ⟨rfl, rfl, rfl, by simp [setBlock], fun i _ hi => heap_setBlock_other h1 _ (fun e => hi (by rw [e]))⟩⟩
  · simp [Instr.mapUpdate, run_underlying Try.underlying56, MapKept.run_getObj_map h1, run_checkKey ik_under (ik_key x) _ 9999, hf, MapKept.run_setObj_map _ h1, Result.andThen, setBlock]
  · rw [Array.toList_push, List.map_append, List.map_append, h3]
    rfl
theorem IMap.set (h : IMap w mb L) (hn : (L.map Prod.fst).Nodup) {x : Int} {b : Int} {j : Nat} (hj : L[j]? = some (x, b)) (c : Int) : ∃ w', (Instr.mapUpdate 56 (.map (some mb)) (.int .i64 x) (.int .i64 c)).run Try.prog w = .ok () w' ∧ IMap w' mb (L.set j (x, c)) ∧ w.grownBy w' (some mb) := by
  obtain ⟨es, ck, h1, h2, h3⟩ := h
  have hf := ifind_some h3 hn hj
  have hkey : ∀ e' ∈ es.toList, es[j]? = some e' → e'.key = .int .i64 x := by
    intro e' _ he'
    obtain ⟨y, hy, hk, _⟩ := ientries_at h3 (j := j) (e := e') (by simpa using he')
    rw [hj] at hy
    cases hy
    exact hk
  have hes : ∃ e0, es[j]? = some e0 ∧ e0.key = .int .i64 x := by
    have hl : es.toList.length = L.length := by
      have := congrArg List.length h3
      simpa using this
    have hjs : j < es.size := by rw [← Array.length_toList, hl]; exact (List.getElem?_eq_some_iff.1 hj).1
    exact ⟨es[j], Array.getElem?_eq_getElem hjs, hkey _ (by simp) (Array.getElem?_eq_getElem hjs)⟩
  obtain ⟨e0, hE0, hE1⟩ := hes
  refine ⟨setBlock w mb (.map (es.modify j (fun e' => { e' with key := .int .i64 x, val := .int .i64 c })) ck), ?_, ⟨_, _, heap_setBlock_same h1 _, stamped_modify h2 _ _ (fun _ _ => rfl) (fun e' a he' => (hkey e' a he').symm), ?_⟩, ⟨rfl, rfl, rfl, by simp [setBlock], fun i _ hi => heap_setBlock_other h1 _ (fun e => hi (by rw [e]))⟩⟩
  · simp [Instr.mapUpdate, run_underlying Try.underlying56, MapKept.run_getObj_map h1, run_checkKey ik_under (ik_key x) _ 9999, hf, hE0, hE1, run_keyThatStays (ik_key x), MapKept.run_setObj_map _ h1, Result.andThen, setBlock]
  · refine List.ext_getElem? fun k => ?_
    rw [Array.toList_modify, List.getElem?_map, List.getElem?_map, List.getElem?_modify, List.getElem?_set]
    have hk := congrArg (fun l => l[k]?) h3
    simp only [List.getElem?_map] at hk
    by_cases e : j = k
    · subst e
      have hl : j < L.length := (List.getElem?_eq_some_iff.1 hj).1
      rw [hj] at hk
      cases he : es.toList[j]? with
      | none => rw [he] at hk; cases hk
      | some e' => simp [hl, ientry]
    · simp only [e, if_false]
      rw [← hk]
      cases es.toList[k]? <;> rfl
theorem IMap.del (h : IMap w mb L) (hn : (L.map Prod.fst).Nodup) {x : Int} {b : Int} {j : Nat} (hj : L[j]? = some (x, b)) (ty : TypeId) : ∃ w', (Builtin.delete_ #[56, 3] ty #[.map (some mb), .int .i64 x]).run Try.prog w = .ok (.tuple #[]) w' ∧ IMap w' mb (L.eraseIdx j) ∧ w.grownBy w' (some mb) := by
  obtain ⟨es, ck, h1, h2, h3⟩ := h
  have hf := ifind_some h3 hn hj
  have hjl : j < L.length := (List.getElem?_eq_some_iff.1 hj).1
  have hl : es.toList.length = L.length := by
    have := congrArg List.length h3
    simpa using this
  have hjs : j < es.size := by rw [← Array.length_toList, hl]; exact hjl
  refine ⟨setBlock w mb (.map (es.eraseIdxIfInBounds j) ck), ?_, ⟨_, _, heap_setBlock_same h1 _, stamped_erase h2 j, ?_⟩, ⟨rfl, rfl, rfl, by simp [setBlock], fun i _ hi => heap_setBlock_other h1 _ (fun e => hi (by rw [e]))⟩⟩
  · simp [Builtin.delete_, run_underlying Try.underlying56, MapKept.run_getObj_map h1, run_checkKey ik_under (ik_key x) _ 9999, hf, MapKept.run_setObj_map _ h1, Result.andThen, setBlock]
  · unfold Array.eraseIdxIfInBounds
    rw [dif_pos hjs, Array.toList_eraseIdx, map_eraseIdx, h3, ← map_eraseIdx]
theorem IMap.len (h : IMap w mb L) (ty : TypeId) : (Builtin.len_ #[56] ty #[.map (some mb)]).run Try.prog w = .ok (.int .i64 (L.length : Nat)) w := by
  obtain ⟨es, ck, h1, h2, h3⟩ := h
  have hl : es.size = L.length := by
    have := congrArg List.length h3
    simpa using this
  simp [Builtin.len_, run_underlying Try.underlying56, MapKept.run_getObj_map h1, hl, goInt]
theorem IMap.keep (h : IMap w mb L) {w' : World} (e : w'.heap[mb]? = w.heap[mb]?) : IMap w' mb L := by
  obtain ⟨es, ck, h1, h2, h3⟩ := h
  exact ⟨es, ck, e.trans h1, h2, h3⟩
end
/-- The block mb is a map that holds what f says. -/
def PlF (w : World) (mb : Nat) (f : Int → Option Int) : Prop := ∃ L, IMap w mb L ∧ (L.map Prod.fst).Nodup ∧ ∀ x i, f x = some i ↔ (x, i) ∈ L
section
variable {w w' : World} {mb : Nat} {f : Int → Option Int} {x : Int}
theorem PlF.keep (h : PlF w mb f) (e : w'.heap[mb]? = w.heap[mb]?) : PlF w' mb f := by
  obtain ⟨L, h1, h2⟩ := h
  exact ⟨L, h1.keep e, h2⟩
theorem PlF.lt (h : PlF w mb f) : mb < w.heap.size := by
  obtain ⟨L, ⟨es, ck, e, _⟩, _⟩ := h
  exact (Array.getElem?_eq_some_iff.1 e).1
theorem PlF.look_some {i : Int} (h : PlF w mb f) (hx : f x = some i) : (Instr.lookup 56 (.map (some mb)) (.int .i64 x) true).run Try.prog w = .ok (.tuple #[.int .i64 i, .bool true]) w := by
  obtain ⟨L, h1, h2, h3⟩ := h
  obtain ⟨j, hj⟩ := List.getElem?_of_mem ((h3 x i).1 hx)
  exact h1.look2_some h2 hj
theorem PlF.look_none (h : PlF w mb f) (hx : f x = none) : (Instr.lookup 56 (.map (some mb)) (.int .i64 x) true).run Try.prog w = .ok (.tuple #[.int .i64 0, .bool false]) w := by
  obtain ⟨L, h1, h2, h3⟩ := h
  refine h1.look2_none fun y hy e => ?_
  obtain ⟨a, b⟩ := y
  have := (h3 a b).2 hy
  simp only at e
  rw [e, hx] at this
  cases this
theorem PlF.put (h : PlF w mb f) (x i : Int) : ∃ w', (Instr.mapUpdate 56 (.map (some mb)) (.int .i64 x) (.int .i64 i)).run Try.prog w = .ok () w' ∧ PlF w' mb (fun y => if y = x then some i else f y) ∧ w.grownBy w' (some mb) := by
  obtain ⟨L, h1, h2, h3⟩ := h
  cases hf : f x with
  | none =>
    have hx : ∀ y ∈ L, y.1 ≠ x := by
      intro y hy e
      obtain ⟨a, b⟩ := y
      have := (h3 a b).2 hy
      simp only at e
      rw [e, hf] at this
      cases this
    obtain ⟨w', r1, r2, r3⟩ := h1.upd hx i
    refine ⟨w', r1, ⟨_, r2, ?_, fun y k => ?_⟩, r3⟩
    · rw [List.map_append]
      refine List.nodup_append.2 ⟨h2, by simp, ?_⟩
      intro a ha b hb
      obtain ⟨y, hy, rfl⟩ := List.mem_map.1 ha
      simp at hb
      subst hb
      exact hx y hy
    · show (if y = x then some i else f y) = some k ↔ _
      rw [List.mem_append, List.mem_singleton]
      by_cases e : y = x
      · rw [if_pos e, e]
        constructor
        · intro q
          injection q with q
          exact .inr (by rw [q])
        · rintro (q | q)
          · exact absurd rfl (hx _ q)
          · injection q with _ q
            rw [q]
      · rw [if_neg e, h3 y k]
        constructor
        · exact .inl
        · rintro (q | q)
          · exact q
          · injection q with q _
            exact absurd q e
  | some i0 =>
    obtain ⟨j, hj⟩ := List.getElem?_of_mem ((h3 x i0).1 hf)
    have hjl := (List.getElem?_eq_some_iff.1 hj).1
    obtain ⟨w', r1, r2, r3⟩ := h1.set h2 hj i
    have hm : (L.set j (x, i)).map Prod.fst = L.map Prod.fst := by
      refine List.ext_getElem? fun k => ?_
      rw [List.getElem?_map, List.getElem?_map, List.getElem?_set]
      by_cases e : j = k
      · subst e
        rw [hj]
        simp [hjl]
      · simp [e]
    refine ⟨w', r1, ⟨_, r2, by rw [hm]; exact h2, fun y k => ?_⟩, r3⟩
    have hin : ∀ m (z : Int × Int), L[m]? = some z → z.1 = x → m = j := by
      intro m z hz e
      have e1 : (L.map Prod.fst)[m]? = some x := by rw [List.getElem?_map, hz]; exact congrArg some e
      have e2 : (L.map Prod.fst)[j]? = some x := by rw [List.getElem?_map, hj]; rfl
      exact (List.getElem?_inj (List.getElem?_eq_some_iff.1 e1).1 h2).1 (e1.trans e2.symm)
    show (if y = x then some i else f y) = some k ↔ _
    constructor
    · intro q
      by_cases e : y = x
      · rw [if_pos e] at q
        injection q with q
        rw [e, ← q]
        exact List.mem_of_getElem? (i := j) (by rw [List.getElem?_set]; simp [hjl])
      · rw [if_neg e, h3 y k] at q
        obtain ⟨m, hm⟩ := List.getElem?_of_mem q
        have hmj : ¬ j = m := fun e2 => by
          subst e2
          rw [hj] at hm
          injection hm with hm
          injection hm with hm _
          exact e hm.symm
        exact List.mem_of_getElem? (i := m) (by rw [List.getElem?_set]; simp [hmj, hm])
    · intro q
      obtain ⟨m, hm⟩ := List.getElem?_of_mem q
      rw [List.getElem?_set] at hm
      by_cases e2 : j = m
      · subst e2
        simp [hjl] at hm
        rw [if_pos hm.1.symm, hm.2]
      · simp [e2] at hm
        by_cases e : y = x
        · exact absurd (hin m _ hm e).symm e2
        · rw [if_neg e, h3 y k]
          exact List.mem_of_getElem? hm
theorem PlF.del {i : Int} (h : PlF w mb f) (hx : f x = some i) (ty : TypeId) : ∃ w', (Builtin.delete_ #[56, 3] ty #[.map (some mb), .int .i64 x]).run Try.prog w = .ok (.tuple #[]) w' ∧ PlF w' mb (fun y => if y = x then none else f y) ∧ w.grownBy w' (some mb) := by
  obtain ⟨L, h1, h2, h3⟩ := h
  obtain ⟨j, hj⟩ := List.getElem?_of_mem ((h3 x i).1 hx)
  obtain ⟨w', r1, r2, r3⟩ := h1.del h2 hj ty
  have hin : ∀ m (z : Int × Int), L[m]? = some z → z.1 = x → m = j := by
    intro m z hz e
    have e1 : (L.map Prod.fst)[m]? = some x := by rw [List.getElem?_map, hz]; exact congrArg some e
    have e2 : (L.map Prod.fst)[j]? = some x := by rw [List.getElem?_map, hj]; rfl
    exact (List.getElem?_inj (List.getElem?_eq_some_iff.1 e1).1 h2).1 (e1.trans e2.symm)
  refine ⟨w', r1, ⟨_, r2, (List.Sublist.map _ (List.eraseIdx_sublist _ _)).nodup h2, fun y k => ?_⟩, r3⟩
  show (if y = x then none else f y) = some k ↔ _
  rw [List.mem_eraseIdx_iff_getElem?]
  constructor
  · intro q
    by_cases e : y = x
    · rw [if_pos e] at q
      cases q
    · rw [if_neg e, h3 y k] at q
      obtain ⟨m, hm⟩ := List.getElem?_of_mem q
      refine ⟨m, fun e2 => ?_, hm⟩
      subst e2
      rw [hj] at hm
      injection hm with hm
      injection hm with hm _
      exact e hm.symm
  · rintro ⟨m, hmj, hm⟩
    by_cases e : y = x
    · exact absurd (hin m _ hm e) hmj
    · rw [if_neg e, h3 y k]
      exact List.mem_of_getElem? hm
end
end Go.Proofs.Ytdgbieapgmjjhaa
