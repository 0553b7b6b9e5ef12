/- Loads and stores of many cells at once: of no program. -/
import Derived.Test.YtpbnpkbmefjiaaaGen
import Derived.Laws.CopyOwn
namespace Go.Proofs.Ytpbnpkbmefjiaaa
set_option linter.unusedVariables false
set_option linter.unusedSimpArgs false
set_option maxRecDepth 8000
open Go.ChangeShapes Go.WideShapes Go.ChangeAt Go.RowKit

/-- A whole struct, loaded from wherever it lies. -/
theorem run_load_cs {P : Program} (w : World) (b o : Nat) (ty : TypeId) (cs : Array Value) (d : TypeDesc) (hc : ∀ j u, cs[j]? = some u → w.cell? ⟨b, o + j, none⟩ = some u)
    (hu : P.underlying ty = some d) (hd : (match d with | .struct _ | .array _ _ => true | _ => false) = true) (hi : (P.info? ty).map (·.size) = some cs.size) :
    (loadVar ty ⟨b, o, none⟩).run P w = .ok (.agg cs) w := by
  have hl : (loadCells ⟨b, o, none⟩ cs.toList.length).run P w = .ok cs.toList.toArray w :=
    run_loadCells_list (P := P) w ⟨b, o, none⟩ cs.toList (fun j v hv => by
      rw [add_at]
      exact hc j v (by simpa using hv))
  cases hq : P.info? ty with
  | none => simp [hq] at hi
  | some i =>
    have hs : i.size = cs.size := by simpa [hq] using hi
    have hagg : (isAgg ty).run P w = .ok true w := by
      unfold isAgg
      rw [Sem.run_bind, run_underlying hu w]
      cases d <;> simp_all
    simp only [Array.length_toList, Array.toArray_toList] at hl
    simp [loadVar, Sem.run_bind, hagg, sizeOf, typeInfo, hq, hs, hl]
theorem wpList_load_cs {P : Program} (w : World) {ops : Array Oper} {rest : List Oper} {o : Oper} {a : Act} {Q : Exit → Act → World → Prop} (hgd : o.guard = none) (ty : TypeId) (x : Operand) (ho : o.op = .load ty x)
    (b off : Nat) (hx : a.eval x = .pointer (some ⟨b, off, none⟩)) (cs : Array Value) (hc : ∀ j u, cs[j]? = some u → w.cell? ⟨b, off + j, none⟩ = some u) (d : TypeDesc)
    (hu : P.underlying ty = some d) (hd : (match d with | .struct _ | .array _ _ => true | _ => false) = true) (hi : (P.info? ty).map (·.size) = some cs.size)
    (h : wpList P ops Q rest (a.put o.dst (.agg cs)) w) : wpList P ops Q (o :: rest) a w := by
  refine wpList_plain hgd fun _ hK => ?_
  unfold Oper.wp execOp
  simp only [ho, hx, Instr.loadAt, Instr.sureAddr, Sem.run_bind, Sem.run_pure, Result.andThen_ok, run_load_cs w b off ty cs d hc hu hd hi]
  exact hK _ _ h

/-- Many cells of one block written over. -/
theorem run_store_cs {P : Program} (w : World) (g i : Nat) (ty T : TypeId) (u : Value) (us : List Value) (old new : Array Value) (hu : u.cells = us.toArray) (hb : w.heap[g]? = some (.cells old T (0, 0))) (hi : (P.info? ty).map (·.size) = some us.length) (h1 : ∀ y ∈ us, y.oneCell' = true) (hl : i + us.length ≤ old.size)
    (hset : old.toList.take i ++ us ++ old.toList.drop (i + us.length) = new.toList) : (storeVar ty ⟨g, i, none⟩ u).run P w = .ok () (w.setRow g new) := by
  have hr := run_storeCells_at (P := P) g i T us 0 old w hb (by simpa using hl) h1
  rw [Nat.add_zero, hset, Array.toArray_toList] at hr
  cases hq : P.info? ty with
  | none => simp [hq] at hi
  | some j =>
    have hs : j.size = us.length := by simpa [hq] using hi
    simp [storeVar, sizeOf, typeInfo, hq, hu, hs, hr]
theorem wpList_store_cs {P : Program} (w₀ w : World) {ops : Array Oper} {rest : List Oper} {o : Oper} {a : Act} {Q : Exit → Act → World → Prop} (hgd : o.guard = none) (ty : TypeId) (x y : Operand) (ho : o.op = .store ty x y) (hdst : o.dst = none)
    (g i : Nat) (u : Value) (hx : a.eval x = .pointer (some ⟨g, i, none⟩)) (hy : a.eval y = u) (us : List Value) (hu : u.cells = us.toArray) (T : TypeId) (old new : Array Value) (hb : w.heap[g]? = some (.cells old T (0, 0))) (hi : (P.info? ty).map (·.size) = some us.length) (h1 : ∀ y ∈ us, y.oneCell' = true) (hl : i + us.length ≤ old.size)
    (hset : old.toList.take i ++ us ++ old.toList.drop (i + us.length) = new.toList) (hgr : Grow w₀ w) (hg : w₀.heap.size ≤ g)
    (h : ∀ w', w'.heap[g]? = some (.cells new T (0, 0)) → But g w w' → Grow w₀ w' → wpList P ops Q rest a w') : wpList P ops Q (o :: rest) a w := by
  refine wpList_plain hgd fun _ hK => ?_
  unfold Oper.wp execOp
  simp only [ho, hx, hy, Instr.storeAt, Instr.sureAddr, Sem.run_bind, Sem.run_pure, Result.andThen_ok, run_store_cs w g i ty T u us old new hu hb hi h1 hl hset]
  refine hK _ _ ?_
  have e : a.put o.dst undef = a := by rw [hdst]; rfl
  rw [e]
  exact h _ (setRow_heap w g _ _ _ _ hb) ⟨by simp [World.setRow], fun b hne => setRow_other w g b _ hne⟩ (below_setRow hgr hg _)
theorem step_store_cs {P : Program} (w₀ w : World) {ops : Array Oper} {o : Oper} {a : Act} {K : Act → World → Prop} {Q : Exit → Act → World → Prop} {E : Prop} (hgd : o.guard = none) (ty : TypeId) (x y : Operand) (ho : o.op = .store ty x y)
    (g i : Nat) (u : Value) (hx : a.eval x = .pointer (some ⟨g, i, none⟩)) (hy : a.eval y = u) (us : List Value) (hu : u.cells = us.toArray) (T : TypeId) (old new : Array Value) (hb : w.heap[g]? = some (.cells old T (0, 0))) (hi : (P.info? ty).map (·.size) = some us.length) (h1 : ∀ y ∈ us, y.oneCell' = true) (hl : i + us.length ≤ old.size)
    (hset : old.toList.take i ++ us ++ old.toList.drop (i + us.length) = new.toList) (hgr : Grow w₀ w) (hg : w₀.heap.size ≤ g)
    (h : ∀ w', w'.heap[g]? = some (.cells new T (0, 0)) → But g w w' → Grow w₀ w' → K (a.put o.dst undef) w') :
    if Region.wanted o (yielded ops a.tmps) = true then Oper.wp P o a w K Q else E := by
  have hw : Region.wanted o (yielded ops a.tmps) = true := by simp [Region.wanted, hgd]
  rw [if_pos hw]
  unfold Oper.wp execOp
  simp only [ho, hx, hy, Instr.storeAt, Instr.sureAddr, Sem.run_bind, Sem.run_pure, Result.andThen_ok, run_store_cs w g i ty T u us old new hu hb hi h1 hl hset]
  exact h _ (setRow_heap w g _ _ _ _ hb) ⟨by simp [World.setRow], fun b hne => setRow_other w g b _ hne⟩ (below_setRow hgr hg _)
theorem upon_cs {P : Program} (w₀ w : World) {ops : Array Oper} {o : Oper} {a : Act} {post : Value → World → Prop} (hgd : o.guard = none) (ty : TypeId) (x y : Operand) (ho : o.op = .store ty x y)
    (g i : Nat) (u : Value) (hx : a.eval x = .pointer (some ⟨g, i, none⟩)) (hy : a.eval y = u) (us : List Value) (hu : u.cells = us.toArray) (T : TypeId) (old new : Array Value) (hb : w.heap[g]? = some (.cells old T (0, 0))) (hi : (P.info? ty).map (·.size) = some us.length) (h1 : ∀ y ∈ us, y.oneCell' = true) (hl : i + us.length ≤ old.size)
    (hset : old.toList.take i ++ us ++ old.toList.drop (i + us.length) = new.toList) (hgr : Grow w₀ w) (hg : w₀.heap.size ≤ g)
    (h : ∀ w', w'.heap[g]? = some (.cells new T (0, 0)) → But g w w' → Grow w₀ w' → post undef w') :
    if Region.wanted o (yielded ops a.tmps) = true then looseUpon P post ((execOp a.eval o).run P w) else post undef w := by
  have hw : Region.wanted o (yielded ops a.tmps) = true := by simp [Region.wanted, hgd]
  rw [if_pos hw]
  unfold execOp
  simp only [ho, hx, hy, Instr.storeAt, Instr.sureAddr, Sem.run_bind, Sem.run_pure, Result.andThen_ok, run_store_cs w g i ty T u us old new hu hb hi h1 hl hset, looseUpon]
  exact h _ (setRow_heap w g _ _ _ _ hb) ⟨by simp [World.setRow], fun b hne => setRow_other w g b _ hne⟩ (below_setRow hgr hg _)
end Go.Proofs.Ytpbnpkbmefjiaaa
