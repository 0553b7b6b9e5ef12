/- Maps of keys of any make to numbers: looked up, laid into, laid anew, taken from, counted; as a list in whatever order. Then ends, quads and ports as keys. -/
import Derived.Test.YtkilfdhofbjkgaaPoRow
import Derived.ChangeMaps5
import Derived.Maps.RangeWalk
namespace Go.Proofs.Ytkilfdhofbjkgaa
set_option linter.unusedVariables false
set_option linter.unusedSimpArgs false
set_option maxRecDepth 10000
open Go.ChangeShapes Go.WideShapes Go.ChangeAt Go.RowKit Go.MapKept Go.ChangeMaps

def kentry {K : Type} (enc : K → Value) (y : K × Int) : Value × Value := (enc y.1, .int .i64 y.2)
/-- What a map of keys asks: the map's type, its keys' type, how a key lies, and what the language does with keys. -/
structure KeyT (K : Type) (tm tk : TypeId) (enc : K → Value) : Prop where
  und : Try.prog.underlying tm = some (.map tk 3)
  inj : ∀ {a b : K}, enc a = enc b → a = b
  chk : ∀ (b : Bool) (x : K) (w : World), (Instr.checkKey b 10000 tk (enc x)).run Try.prog w = .ok () w
  bits : ∀ x : K, Instr.sameBits 10000 (enc x) (enc x) = true
  none : ∀ (x : K) (L : List (K × Int)) (es : List MapEntry) (w : World), es.map (fun e => (e.key, e.val)) = L.map (kentry enc) → (∀ y ∈ L, y.1 ≠ x) → (Instr.findKey tk (enc x) es).run Try.prog w = .ok .none w
  some : ∀ (x : K) (L : List (K × Int)) (es : List MapEntry) (w : World), es.map (fun e => (e.key, e.val)) = L.map (kentry enc) → (L.map Prod.fst).Nodup → ∀ (j : Nat) (b : Int), L[j]? = .some (x, b) → (Instr.findKey tk (enc x) es).run Try.prog w = .ok (.some (j, .int .i64 b)) w
/-- The block mb is a map of these keys to these numbers, in the order in which they were laid. -/
def MAt {K : Type} (enc : K → Value) (w : World) (mb : Nat) (L : List (K × Int)) : Prop := ∃ es ck, w.heap[mb]? = some (.map es ck) ∧ Stamped es ck ∧ es.toList.map (fun e => (e.key, e.val)) = L.map (kentry enc)

theorem apart_at {K : Type} {L : List (K × Int)} {x : K} {b : Int} {j : Nat} (hn : (L.map Prod.fst).Nodup) (hj : L[j]? = some (x, b)) : ∀ (t : Nat) y, t ≠ j → L[t]? = some y → y.1 ≠ x := by
  intro t y ht hy e
  have e1 : (L.map Prod.fst)[t]? = some x := by rw [List.getElem?_map, hy]; exact congrArg some e
  have e2 : (L.map Prod.fst)[j]? = some x := by rw [List.getElem?_map, hj]; rfl
  have hi := (List.getElem?_eq_some_iff.1 e1).1
  exact ht ((List.getElem?_inj hi hn).1 (e1.trans e2.symm))
theorem run_stays {v : Value} (h : Instr.sameBits 10000 v v = true) (w : World) : (Instr.keyThatStays v v).run Try.prog w = .ok v w := by
  simp only [Instr.keyThatStays, h, if_true]
  rfl
section
variable {K : Type} {tm tk : TypeId} {enc : K → Value} {w w' : World} {mb : Nat} {L : List (K × Int)} {x : K} {b : Int} {j : Nat}
theorem MAt.look_some (κ : KeyT K tm tk enc) (h : MAt enc w mb L) (hn : (L.map Prod.fst).Nodup) (hj : L[j]? = some (x, b)) (c : Bool) : (Instr.lookup tm (.map (some mb)) (enc x) c).run Try.prog w = .ok (if c then .tuple #[.int .i64 b, .bool true] else .int .i64 b) w := by
  obtain ⟨es, ck, h1, h2, h3⟩ := h
  simp only [Instr.lookup, Sem.run_bind, run_underlying κ.und, Result.andThen_ok, MapKept.run_getObj_map h1, Sem.run_pure, κ.chk, κ.some x L _ _ h3 hn j b hj]
theorem MAt.look_none (κ : KeyT K tm tk enc) (h : MAt enc w mb L) (hx : ∀ y ∈ L, y.1 ≠ x) (c : Bool) : (Instr.lookup tm (.map (some mb)) (enc x) c).run Try.prog w = .ok (if c then .tuple #[.int .i64 0, .bool false] else .int .i64 0) w := by
  obtain ⟨es, ck, h1, h2, h3⟩ := h
  have hz : (zeroValue 3).run Try.prog w = .ok (.int .i64 0) w := by kernel_rfl
  simp only [Instr.lookup, Sem.run_bind, run_underlying κ.und, Result.andThen_ok, MapKept.run_getObj_map h1, Sem.run_pure, κ.chk, κ.none x L _ _ h3 hx, hz]
theorem MAt.upd (κ : KeyT K tm tk enc) (h : MAt enc w mb L) (hx : ∀ y ∈ L, y.1 ≠ x) (b : Int) : ∃ w', (Instr.mapUpdate tm (.map (some mb)) (enc x) (.int .i64 b)).run Try.prog w = .ok () w' ∧ MAt enc w' mb (L ++ [(x, b)]) ∧ w.grownBy w' (some mb) := by
  obtain ⟨es, ck, h1, h2, h3⟩ := h
  have hf := κ.none x L es.toList w h3 hx
  have hk : ∀ e ∈ es.toList, e.key ≠ enc x := by
    intro e he hex
    have : (e.key, e.val) ∈ L.map (kentry enc) := by rw [← h3]; exact List.mem_map_of_mem (f := fun e : MapEntry => (e.key, e.val)) he
    obtain ⟨y, hy, e2⟩ := List.mem_map.1 this
    simp only [kentry, Prod.mk.injEq] at e2
    exact hx y hy (κ.inj (e2.1.trans hex))
  refine ⟨setBlock w mb (.map (es.push ⟨enc x, .int .i64 b, ck⟩) (ck + 1)), ?_, ⟨_, _, heap_setBlock_same h1 _, stamped_push h2 hk, ?_⟩, ⟨rfl, rfl, rfl, by simp [setBlock], fun i _ hi => heap_setBlock_other h1 _ (fun e => hi (by rw [e]))⟩⟩
  · simp [Instr.mapUpdate, run_underlying κ.und, MapKept.run_getObj_map h1, κ.chk, hf, MapKept.run_setObj_map _ h1, Result.andThen, setBlock]
  · rw [Array.toList_push, List.map_append, List.map_append, h3]
    rfl
theorem MAt.set (κ : KeyT K tm tk enc) (h : MAt enc w mb L) (hn : (L.map Prod.fst).Nodup) (hj : L[j]? = some (x, b)) (c : Int) : ∃ w', (Instr.mapUpdate tm (.map (some mb)) (enc x) (.int .i64 c)).run Try.prog w = .ok () w' ∧ MAt enc w' mb (L.set j (x, c)) ∧ w.grownBy w' (some mb) := by
  obtain ⟨es, ck, h1, h2, h3⟩ := h
  have hf := κ.some x L es.toList w h3 hn j b hj
  have hkey : ∀ e' ∈ es.toList, es[j]? = some e' → e'.key = enc x := by
    intro e' _ he'
    have h4 : (es.toList.map (fun e => (e.key, e.val)))[j]? = some (e'.key, e'.val) := by rw [List.getElem?_map, Array.getElem?_toList, he']; rfl
    rw [h3, List.getElem?_map, hj] at h4
    simp only [kentry, Option.map_some, Option.some.injEq, Prod.mk.injEq] at h4
    exact h4.1.symm
  have hes : ∃ e0, es[j]? = some e0 ∧ e0.key = enc x := by
    have hl : es.toList.length = L.length := by
      have := congrArg List.length h3
      simpa using this
    have hjs : j < es.size := by rw [← Array.length_toList, hl]; exact (List.getElem?_eq_some_iff.1 hj).1
    exact ⟨es[j], Array.getElem?_eq_getElem hjs, hkey _ (by simp) (Array.getElem?_eq_getElem hjs)⟩
  obtain ⟨e0, hE0, hE1⟩ := hes
  refine ⟨setBlock w mb (.map (es.modify j (fun e' => { e' with key := enc x, val := .int .i64 c })) ck), ?_, ⟨_, _, heap_setBlock_same h1 _, stamped_modify h2 _ _ (fun _ _ => rfl) (fun e' a he' => (hkey e' a he').symm), ?_⟩, ⟨rfl, rfl, rfl, by simp [setBlock], fun i _ hi => heap_setBlock_other h1 _ (fun e => hi (by rw [e]))⟩⟩
  · simp [Instr.mapUpdate, run_underlying κ.und, MapKept.run_getObj_map h1, κ.chk, hf, hE0, hE1, run_stays (κ.bits x), MapKept.run_setObj_map _ h1, Result.andThen, setBlock]
  · refine List.ext_getElem? fun k => ?_
    rw [Array.toList_modify, List.getElem?_map, List.getElem?_map, List.getElem?_modify, List.getElem?_set]
    have hk := congrArg (fun l => l[k]?) h3
    simp only [List.getElem?_map] at hk
    by_cases e : j = k
    · subst e
      have hl : j < L.length := (List.getElem?_eq_some_iff.1 hj).1
      rw [hj] at hk
      cases he : es.toList[j]? with
      | none => rw [he] at hk; cases hk
      | some e' => simp [hl, kentry]
    · simp only [e, if_false]
      rw [← hk]
      cases es.toList[k]? <;> rfl
theorem MAt.del (κ : KeyT K tm tk enc) (h : MAt enc w mb L) (hn : (L.map Prod.fst).Nodup) (hj : L[j]? = some (x, b)) (ty : TypeId) : ∃ w', (Builtin.delete_ #[tm, tk] ty #[.map (some mb), enc x]).run Try.prog w = .ok (.tuple #[]) w' ∧ MAt enc w' mb (L.eraseIdx j) ∧ w.grownBy w' (some mb) := by
  obtain ⟨es, ck, h1, h2, h3⟩ := h
  have hf := κ.some x L es.toList w h3 hn j b hj
  have hjl : j < L.length := (List.getElem?_eq_some_iff.1 hj).1
  have hl : es.toList.length = L.length := by
    have := congrArg List.length h3
    simpa using this
  have hjs : j < es.size := by rw [← Array.length_toList, hl]; exact hjl
  refine ⟨setBlock w mb (.map (es.eraseIdxIfInBounds j) ck), ?_, ⟨_, _, heap_setBlock_same h1 _, stamped_erase h2 j, ?_⟩, ⟨rfl, rfl, rfl, by simp [setBlock], fun i _ hi => heap_setBlock_other h1 _ (fun e => hi (by rw [e]))⟩⟩
  · simp [Builtin.delete_, run_underlying κ.und, MapKept.run_getObj_map h1, κ.chk, hf, MapKept.run_setObj_map _ h1, Result.andThen, setBlock]
  · unfold Array.eraseIdxIfInBounds
    rw [dif_pos hjs, Array.toList_eraseIdx, map_eraseIdx, h3, ← map_eraseIdx]
theorem MAt.len (κ : KeyT K tm tk enc) (h : MAt enc w mb L) (ty : TypeId) : (Builtin.len_ #[tm] ty #[.map (some mb)]).run Try.prog w = .ok (.int .i64 (L.length : Nat)) w := by
  obtain ⟨es, ck, h1, h2, h3⟩ := h
  have hl : es.size = L.length := by
    have := congrArg List.length h3
    simpa using this
  simp [Builtin.len_, run_underlying κ.und, MapKept.run_getObj_map h1, hl, goInt]
theorem MAt.keep (h : MAt enc w mb L) (e : w'.heap[mb]? = w.heap[mb]?) : MAt enc w' mb L := by
  obtain ⟨es, ck, h1, h2, h3⟩ := h
  exact ⟨es, ck, e.trans h1, h2, h3⟩
end
/-- The block mb is a map that holds these keys' numbers, in whatever order. -/
def MB {K : Type} (enc : K → Value) (w : World) (mb : Nat) (E : List (K × Int)) : Prop := ∃ L, MAt enc w mb L ∧ L.Perm E ∧ (E.map Prod.fst).Nodup
theorem permk_at {α : Type} : ∀ {l : List α} {j : Nat} {e : α} (_ : l[j]? = some e), l.Perm (e :: l.eraseIdx j)
  | [], j, e, h => by simp at h
  | a :: l, 0, e, h => by
    have : a = e := by simpa using h
    rw [this]
    exact List.Perm.refl _
  | a :: l, j + 1, e, h => by
    have ih := permk_at (l := l) (j := j) (e := e) (by simpa using h)
    exact (ih.cons a).trans (List.Perm.swap e a _)
theorem permk_set {α : Type} {L R : List α} {e y : α} {j : Nat} (h : L.Perm (e :: R)) (hj : L[j]? = some e) : (L.set j y).Perm (y :: R) := by
  have hl := (List.getElem?_eq_some_iff.1 hj).1
  have h2 : (L.eraseIdx j).Perm R := List.Perm.cons_inv ((permk_at hj).symm.trans h)
  have h3 : (L.set j y)[j]? = some y := by rw [List.getElem?_set]; simp [hl]
  have h4 := permk_at h3
  rw [List.eraseIdx_set_eq] at h4
  exact h4.trans (h2.cons y)
section
variable {K : Type} {tm tk : TypeId} {enc : K → Value} {w w' : World} {mb : Nat} {E R : List (K × Int)} {x : K} {b : Int}
theorem MB.keep (h : MB enc w mb E) (e : w'.heap[mb]? = w.heap[mb]?) : MB enc w' mb E := by
  obtain ⟨L, h1, h2⟩ := h
  exact ⟨L, h1.keep e, h2⟩
theorem MB.blk (h : MB enc w mb E) : ∃ es ck, w.heap[mb]? = some (.map es ck) := by
  obtain ⟨L, ⟨es, ck, e, _⟩, _⟩ := h
  exact ⟨es, ck, e⟩
theorem MB.lt (h : MB enc w mb E) : mb < w.heap.size := by
  obtain ⟨es, ck, e⟩ := h.blk
  exact (Array.getElem?_eq_some_iff.1 e).1
theorem MB.nodup (h : MB enc w mb E) : (E.map Prod.fst).Nodup := h.choose_spec.2.2
theorem MB.perm (h : MB enc w mb E) (p : E.Perm R) : MB enc w mb R := by
  obtain ⟨L, h1, h2, h3⟩ := h
  exact ⟨L, h1, h2.trans p, (p.map Prod.fst).nodup_iff.1 h3⟩
theorem MB.look_some (κ : KeyT K tm tk enc) (h : MB enc w mb E) (hx : (x, b) ∈ E) (c : Bool) : (Instr.lookup tm (.map (some mb)) (enc x) c).run Try.prog w = .ok (if c then .tuple #[.int .i64 b, .bool true] else .int .i64 b) w := by
  obtain ⟨L, h1, h2, h3⟩ := h
  obtain ⟨j, hj⟩ := List.getElem?_of_mem (h2.mem_iff.2 hx)
  exact h1.look_some κ ((h2.map Prod.fst).nodup_iff.2 h3) hj c
theorem MB.look_none (κ : KeyT K tm tk enc) (h : MB enc w mb E) (hx : ∀ y ∈ E, y.1 ≠ x) (c : Bool) : (Instr.lookup tm (.map (some mb)) (enc x) c).run Try.prog w = .ok (if c then .tuple #[.int .i64 0, .bool false] else .int .i64 0) w := by
  obtain ⟨L, h1, h2, h3⟩ := h
  exact h1.look_none κ (fun y hy => hx y (h2.mem_iff.1 hy)) c
theorem MB.len (κ : KeyT K tm tk enc) (h : MB enc w mb E) (ty : TypeId) : (Builtin.len_ #[tm] ty #[.map (some mb)]).run Try.prog w = .ok (.int .i64 (E.length : Nat)) w := by
  obtain ⟨L, h1, h2, h3⟩ := h
  rw [← h2.length_eq]
  exact h1.len κ ty
theorem MB.put_new (κ : KeyT K tm tk enc) (h : MB enc w mb E) (hx : ∀ y ∈ E, y.1 ≠ x) (b : Int) : ∃ w', (Instr.mapUpdate tm (.map (some mb)) (enc x) (.int .i64 b)).run Try.prog w = .ok () w' ∧ MB enc w' mb ((x, b) :: E) ∧ w.grownBy w' (some mb) := by
  obtain ⟨L, h1, h2, h3⟩ := h
  obtain ⟨w', r1, r2, r3⟩ := h1.upd κ (fun y hy => hx y (h2.mem_iff.1 hy)) b
  refine ⟨w', r1, ⟨_, r2, ?_, ?_⟩, r3⟩
  · exact List.perm_append_comm.trans (h2.cons (x, b))
  · rw [List.map_cons]
    refine List.nodup_cons.2 ⟨fun q => ?_, h3⟩
    obtain ⟨y, hy, e⟩ := List.mem_map.1 q
    exact hx y hy e
theorem MB.put_old (κ : KeyT K tm tk enc) (h : MB enc w mb ((x, b) :: R)) (c : Int) : ∃ w', (Instr.mapUpdate tm (.map (some mb)) (enc x) (.int .i64 c)).run Try.prog w = .ok () w' ∧ MB enc w' mb ((x, c) :: R) ∧ w.grownBy w' (some mb) := by
  obtain ⟨L, h1, h2, h3⟩ := h
  obtain ⟨j, hj⟩ := List.getElem?_of_mem (h2.mem_iff.2 List.mem_cons_self)
  obtain ⟨w', r1, r2, r3⟩ := h1.set κ ((h2.map Prod.fst).nodup_iff.2 h3) hj c
  exact ⟨w', r1, ⟨_, r2, permk_set h2 hj, by simpa using h3⟩, r3⟩
theorem MB.del (κ : KeyT K tm tk enc) (h : MB enc w mb ((x, b) :: R)) (ty : TypeId) : ∃ w', (Builtin.delete_ #[tm, tk] ty #[.map (some mb), enc x]).run Try.prog w = .ok (.tuple #[]) w' ∧ MB enc w' mb R ∧ w.grownBy w' (some mb) := by
  obtain ⟨L, h1, h2, h3⟩ := h
  obtain ⟨j, hj⟩ := List.getElem?_of_mem (h2.mem_iff.2 List.mem_cons_self)
  obtain ⟨w', r1, r2, r3⟩ := h1.del κ ((h2.map Prod.fst).nodup_iff.2 h3) hj ty
  exact ⟨w', r1, ⟨_, r2, List.Perm.cons_inv ((permk_at hj).symm.trans h2), (List.nodup_cons.1 (by simpa using h3)).2⟩, r3⟩
theorem mb_new (w : World) : MB enc (w.alloc (.map #[] 0)) w.heap.size [] := ⟨[], ⟨#[], 0, heap_alloc_new w _, ⟨by simp, by simp, by simp⟩, rfl⟩, List.Perm.refl _, by simp⟩
end
/-- Keys that are structs: found by asking one after another. -/
theorem askk {K : Type} [DecidableEq K] {tk : TypeId} {enc : K → Value} (heq : ∀ (a b : K) (w : World), (Op.equal tk (enc a) (enc b)).run Try.prog w = .ok (decide (a = b)) w) (x : K) (w : World) : ∀ (L : List (K × Int)) (es : List MapEntry) (i : Nat), es.map (fun e => (e.key, e.val)) = L.map (kentry enc) →
    ((∀ y ∈ L, y.1 ≠ x) → (Instr.findAsking tk (enc x) es i).run Try.prog w = .ok none w) ∧
    (∀ j b, L[j]? = some (x, b) → (∀ t y, t < j → L[t]? = some y → y.1 ≠ x) → (Instr.findAsking tk (enc x) es i).run Try.prog w = .ok (some (i + j, .int .i64 b)) w)
  | [], [], i, _ => ⟨fun _ => rfl, fun j b h => by simp at h⟩
  | y :: L, e :: es, i, h => by
    simp only [List.map_cons, List.cons.injEq] at h
    obtain ⟨h1, h2⟩ := h
    obtain ⟨ih1, ih2⟩ := askk heq x w L es (i + 1) h2
    simp only [kentry, Prod.mk.injEq] at h1
    obtain ⟨hk, hv⟩ := h1
    have step : (Instr.findAsking tk (enc x) (e :: es) i).run Try.prog w = if x = y.1 then .ok (some (i, e.val)) w else (Instr.findAsking tk (enc x) es (i + 1)).run Try.prog w := by
      simp only [Instr.findAsking, Sem.run_bind, hk, heq, Result.andThen_ok]
      by_cases hxy : x = y.1
      · simp [hxy]
      · simp [hxy]
    refine ⟨fun hne => ?_, fun j b hj hne => ?_⟩
    · rw [step, if_neg (fun e => hne y (by simp) e.symm), ih1 (fun z hz => hne z (by simp [hz]))]
    · cases j with
      | zero =>
        simp only [List.getElem?_cons_zero, Option.some.injEq] at hj
        subst hj
        rw [step, if_pos rfl, hv, Nat.add_zero]
      | succ j =>
        rw [step, if_neg (fun e => hne 0 y (by omega) rfl e.symm), ih2 j b (by simpa using hj) (fun t z ht hz => hne (t + 1) z (by omega) (by simpa using hz)), show i + 1 + j = i + (j + 1) from by omega]
  | [], e :: es, i, h => by simp at h
  | y :: L, [], i, h => by simp at h
theorem findk {tk : TypeId} {fs : _} (hu : Try.prog.underlying tk = some (.struct fs)) (v : Value) : ∀ (es : List MapEntry) (w : World), (Instr.findKey tk v es).run Try.prog w = (Instr.findAsking tk v es 0).run Try.prog w
  | [], w => by
    simp only [Instr.findKey, Sem.run_bind, run_underlying hu, Result.andThen_ok]
    rfl
  | e :: es, w => by
    simp only [Instr.findKey, Sem.run_bind, run_underlying hu, Result.andThen_ok]
    rfl
theorem sameBits_agg (n : Nat) (a b : Array Value) : Instr.sameBits (n + 1) (.agg a) (.agg b) = (a.size == b.size && (a.toList.zip b.toList).all fun (x, y) => Instr.sameBits n x y) := rfl
theorem sameBits_int (n : Nat) (k : IntKind) (a : Int) : Instr.sameBits n (.int k a) (.int k a) = true := by
  cases n <;> simp [Instr.sameBits]
theorem edU : Try.prog.underlying 40 = some (.struct (Try.prog.fieldsOf 40)) := by kernel_rfl
theorem qdU : Try.prog.underlying 42 = some (.struct (Try.prog.fieldsOf 42)) := by kernel_rfl
theorem edK : KeyT Ed 62 40 edV where
  und := by kernel_rfl
  inj := by
    intro a b h
    obtain ⟨a0, a1⟩ := a
    obtain ⟨b0, b1⟩ := b
    simp only [edV, Value.agg.injEq, Array.mk.injEq, List.cons.injEq, Value.int.injEq, true_and, and_true] at h
    rw [h.1, h.2]
  chk := fun b x w => by kernel_rfl
  bits := fun x => by
    show Instr.sameBits (9999 + 1) _ _ = true
    rw [sameBits_agg]
    simp [sameBits_int]
  none := fun x L es w h hx => by rw [findk edU]; exact (askk (fun a b w => ed_eq a b w) x w L es 0 h).1 hx
  some := fun x L es w h hn j b hj => by rw [findk edU, (askk (fun a b w => ed_eq a b w) x w L es 0 h).2 j b hj (fun t y ht hy => apart_at hn hj t y (by omega) hy), Nat.zero_add]
theorem qdK : KeyT Qd 63 42 qdV where
  und := by kernel_rfl
  inj := by
    intro a b h
    obtain ⟨⟨a0, a1⟩, a2, a3⟩ := a
    obtain ⟨⟨b0, b1⟩, b2, b3⟩ := b
    simp only [qdV, Value.agg.injEq, Array.mk.injEq, List.cons.injEq, Value.int.injEq, true_and, and_true] at h
    rw [h.1, h.2.1, h.2.2.1, h.2.2.2]
  chk := fun b x w => by kernel_rfl
  bits := fun x => by
    show Instr.sameBits (9999 + 1) _ _ = true
    rw [sameBits_agg]
    simp [sameBits_int]
  none := fun x L es w h hx => by rw [findk qdU]; exact (askk (fun a b w => qd_eq a b w) x w L es 0 h).1 hx
  some := fun x L es w h hn j b hj => by rw [findk qdU, (askk (fun a b w => qd_eq a b w) x w L es 0 h).2 j b hj (fun t y ht hy => apart_at hn hj t y (by omega) hy), Nat.zero_add]
def poV (p : Int) : Value := .int .u16 p
theorem poU : Try.prog.underlying 38 = some (.int .u16) := by kernel_rfl
theorem poKey (p : Int) : IsKey (.int .u16) (poV p) := by simp [IsKey, poV]
section
variable {L : List (Int × Int)} {es : List MapEntry} {x : Int}
theorem poKeys (h : es.map (fun e => (e.key, e.val)) = L.map (kentry poV)) : ∀ x ∈ es, IsKey (.int .u16) x.key := by
  intro x hx
  have : (x.key, x.val) ∈ L.map (kentry poV) := by rw [← h]; exact List.mem_map_of_mem (f := fun e : MapEntry => (e.key, e.val)) hx
  obtain ⟨y, hy, e⟩ := List.mem_map.1 this
  simp only [kentry, Prod.mk.injEq] at e
  rw [← e.1]
  exact poKey _
theorem poAt (h : es.map (fun e => (e.key, e.val)) = L.map (kentry poV)) {j : Nat} {e : MapEntry} (hj : es[j]? = some e) : ∃ y, L[j]? = some y ∧ e.key = poV y.1 ∧ e.val = .int .i64 y.2 := by
  have h1 : (es.map (fun e => (e.key, e.val)))[j]? = some (e.key, e.val) := by rw [List.getElem?_map, hj]; rfl
  rw [h, List.getElem?_map] at h1
  cases hy : L[j]? with
  | none => rw [hy] at h1; cases h1
  | some y =>
    rw [hy] at h1
    simp only [kentry, Option.map_some, Option.some.injEq, Prod.mk.injEq] at h1
    exact ⟨y, rfl, h1.1.symm, h1.2.symm⟩
end
theorem poK : KeyT Int 64 38 poV where
  und := by kernel_rfl
  inj := by
    intro a b h
    injection h
  chk := fun b x w => run_checkKey poU (poKey x) b 9999
  bits := fun x => sameBits_int _ _ _
  none := fun x L es w h hx => by
    rcases findNow_spec (poKey x) es 0 (poKeys h) with ⟨h1, h2⟩ | ⟨j, e, h1, h2, h3⟩
    · exact run_findKey poU h1
    · obtain ⟨y, hy, hk, _⟩ := poAt h h2
      rw [hk] at h3
      injection h3 with _ h3
      exact absurd h3 (hx y (List.mem_of_getElem? hy))
  some := fun x L es w h hn j b hj => by
    rcases findNow_spec (poKey x) es 0 (poKeys h) with ⟨h1, h2⟩ | ⟨i, e, h1, h2, h3⟩
    · have hl : es.length = L.length := by
        have := congrArg List.length h
        simpa using this
      have hjl : j < es.length := by rw [hl]; exact (List.getElem?_eq_some_iff.1 hj).1
      obtain ⟨y, hy, hk, _⟩ := poAt h (List.getElem?_eq_getElem hjl)
      rw [hj] at hy
      cases hy
      exact absurd hk (h2 _ (List.getElem_mem hjl))
    · obtain ⟨y, hy, hk, hv⟩ := poAt h h2
      rw [hk] at h3
      injection h3 with _ h3
      have hij : i = j := by
        rcases Nat.decEq i j with e | e
        · exact absurd h3 (apart_at hn hj i y e hy)
        · exact e
      subst hij
      rw [hj] at hy
      cases hy
      rw [hv] at h1
      simpa using run_findKey poU h1
end Go.Proofs.Ytkilfdhofbjkgaa
