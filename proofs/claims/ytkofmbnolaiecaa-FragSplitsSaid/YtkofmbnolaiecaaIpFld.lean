/- One field of a packet in its block, written over. -/
import Derived.Test.YtkofmbnolaiecaaIpBlk
import Derived.Test.YtkofmbnolaiecaaWeave
import Derived.Laws.CopyRow
namespace Go.Proofs.Ytkofmbnolaiecaa
set_option linter.unusedVariables false
set_option linter.unusedSimpArgs false
open Go.ChangeShapes Go.WideShapes Go.ChangeAt Go.RowKit

/-- A packet's cells. -/
def cellsP (k : Pkt) (vo vd : Value) : Array Value := #[.int .u8 (k.tos : Int), .int .u16 (k.ident : Int), .bool k.whole, .bool k.more, .int .i64 k.off, .int .u8 (k.ttl : Int), .int .u8 (k.proto : Int), .int .u32 (k.src : Int), .int .u32 (k.dst : Int), vo, vd]
theorem Blk.cells {w : World} {g : Nat} {k : Pkt} {vo vd : Value} (h : Blk w g k vo vd) : w.heap[g]? = some (.cells (cellsP k vo vd) 27 (0, 0)) := h

theorem run_fld (w : World) (g i : Nat) (ty : TypeId) (u : Value) (k k' : Pkt) (vo vd vo' vd' : Value) (hb : Blk w g k vo vd) (hi : (Try.prog.info? ty).map (·.size) = some 1) (h1 : u.oneCell' = true) (hl : i < 11)
    (hset : (cellsP k vo vd).toList.set i u = (cellsP k' vo' vd').toList) : ∃ w', (storeVar ty ⟨g, i, none⟩ u).run Try.prog w = .ok () w' ∧ Blk w' g k' vo' vd' ∧ But g w w' ∧ ∀ w₀, Grow w₀ w → w₀.heap.size ≤ g → Grow w₀ w' := by
  have hr := run_storeCells_at (P := Try.prog) g i 27 [u] 0 (cellsP k vo vd) w hb.cells (by simp [cellsP]; omega) (fun x hx => by simp at hx; subst hx; exact h1)
  have hc : u.cells = #[u] := by cases u <;> first | rfl | cases h1
  have e1 : ((cellsP k vo vd).toList.take (i + 0) ++ [u] ++ (cellsP k vo vd).toList.drop (i + 0 + [u].length)) = (cellsP k' vo' vd').toList := by
    rw [← hset, List.set_eq_take_append_cons_drop]
    have : i < (cellsP k vo vd).toList.length := hl
    rw [if_pos this]
    simp
  rw [e1] at hr
  refine ⟨w.setRow g (cellsP k' vo' vd'), ?_, setRow_heap w g _ _ _ _ hb, ⟨by simp [World.setRow], fun b hne => setRow_other w g b _ hne⟩, fun w₀ hg hb' => below_setRow hg hb' _⟩
  cases hq : Try.prog.info? ty with
  | none => simp [hq] at hi
  | some j =>
    have hs : j.size = 1 := by simpa [hq] using hi
    simp only [Array.toArray_toList] at hr
    simp [storeVar, sizeOf, typeInfo, hq, hc, hs, hr]

/-- p.f = value, as one step of a walk. -/
theorem wpList_store_fld (w₀ w : World) {ops : Array Oper} {rest : List Oper} {o : Oper} {a : Act} {Q : Exit → Act → World → Prop} (hgd : o.guard = none) (ty : TypeId) (x y : Operand) (ho : o.op = .store ty x y) (hdst : o.dst = none)
    (g i : Nat) (u : Value) (hx : a.eval x = .pointer (some ⟨g, i, none⟩)) (hy : a.eval y = u) (k k' : Pkt) (vo vd vo' vd' : Value) (hb : Blk w g k vo vd) (hi : (Try.prog.info? ty).map (·.size) = some 1) (h1 : u.oneCell' = true) (hl : i < 11)
    (hset : (cellsP k vo vd).toList.set i u = (cellsP k' vo' vd').toList) (hgr : Grow w₀ w) (hg : w₀.heap.size ≤ g)
    (h : ∀ w', Blk w' g k' vo' vd' → But g w w' → Grow w₀ w' → wpList Try.prog ops Q rest a w') : wpList Try.prog ops Q (o :: rest) a w := by
  obtain ⟨w', hrun, h2, h3, h4⟩ := run_fld w g i ty u k k' vo vd vo' vd' hb hi h1 hl hset
  refine wpList_plain hgd fun _ hK => ?_
  unfold Oper.wp execOp
  simp only [ho, hx, hy, Instr.storeAt, Instr.sureAddr, Sem.run_bind, Sem.run_pure, Result.andThen_ok, hrun]
  refine hK _ _ ?_
  have e : a.put o.dst undef = a := by rw [hdst]; rfl
  rw [e]
  exact h w' h2 h3 (h4 w₀ hgr hg)
/-- The same in a region that draws its order. -/
theorem upon_fld (w₀ w : World) {ops : Array Oper} {o : Oper} {a : Act} {post : Value → World → Prop} (hgd : o.guard = none) (ty : TypeId) (x y : Operand) (ho : o.op = .store ty x y)
    (g i : Nat) (u : Value) (hx : a.eval x = .pointer (some ⟨g, i, none⟩)) (hy : a.eval y = u) (k k' : Pkt) (vo vd vo' vd' : Value) (hb : Blk w g k vo vd) (hi : (Try.prog.info? ty).map (·.size) = some 1) (h1 : u.oneCell' = true) (hl : i < 11)
    (hset : (cellsP k vo vd).toList.set i u = (cellsP k' vo' vd').toList) (hgr : Grow w₀ w) (hg : w₀.heap.size ≤ g)
    (h : ∀ w', Blk w' g k' vo' vd' → But g w w' → Grow w₀ w' → post undef w') :
    if Region.wanted o (yielded ops a.tmps) = true then looseUpon Try.prog post ((execOp a.eval o).run Try.prog w) else post undef w := by
  have hw : Region.wanted o (yielded ops a.tmps) = true := by simp [Region.wanted, hgd]
  rw [if_pos hw]
  obtain ⟨w', hrun, h2, h3, h4⟩ := run_fld w g i ty u k k' vo vd vo' vd' hb hi h1 hl hset
  unfold execOp
  simp only [ho, hx, hy, Instr.storeAt, Instr.sureAddr, Sem.run_bind, Sem.run_pure, Result.andThen_ok, hrun, looseUpon]
  exact h w' h2 h3 (h4 w₀ hgr hg)
end Go.Proofs.Ytkofmbnolaiecaa
