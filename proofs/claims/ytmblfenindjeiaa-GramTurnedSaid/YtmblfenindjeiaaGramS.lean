/- The struct Gram: as a value, in a block, as a parameter. Written by mkstruct.py. -/
import Derived.Test.YtmblfenindjeiaaIpFld
import Derived.Test.YtmblfenindjeiaaIpOpen
namespace Go.Proofs.Ytmblfenindjeiaa
set_option linter.unusedVariables false
set_option linter.unusedSimpArgs false
open Go.ChangeShapes Go.WideShapes Go.ChangeAt Go.RowKit

structure Gram where
  src : Nat
  dst : Nat
  data : List UInt8

/-- Each field in its type. -/
structure Gram.Ok (k : Gram) : Prop where
  any : True
  src : k.src < 65536
  dst : k.dst < 65536

@[reducible] def GramV (k : Gram) (v_data : Value) : Value := .agg #[.int .u16 (k.src : Int), .int .u16 (k.dst : Int), v_data]
/-- The value v reads as it. -/
def isGram (w : World) (v : Value) (k : Gram) : Prop := ∃ v_data, v = GramV k v_data ∧ Byt w v_data k.data ∧ k.Ok
theorem isGram.grow {w w' : World} {v : Value} {k : Gram} (h : isGram w v k) (g : Grow w w') : isGram w' v k := by
  obtain ⟨v_data, e, h_data, ok⟩ := h
  exact ⟨v_data, e, h_data.grow g, ok⟩
theorem isGram.form {w : World} {v : Value} {k : Gram} (h : isGram w v k) : ∃ A_data c_data, v = GramV k (.slice A_data k.data.length c_data) ∧ Byt w (.slice A_data k.data.length c_data) k.data ∧ k.Ok := by
  obtain ⟨v_data, e, h_data, ok⟩ := h
  obtain ⟨A_data, c_data, rfl, _, _⟩ := h_data.form
  exact ⟨A_data, c_data, e, h_data, ok⟩

/-- Its cells; in a block of their own; the block whole. -/
def Gramcells (k : Gram) (v_data : Value) : Array Value := #[.int .u16 (k.src : Int), .int .u16 (k.dst : Int), v_data]
def Grambox (w : World) (b : Nat) (k : Gram) (v_data : Value) : Prop :=
  w.cell? ⟨b, 0, none⟩ = some (.int .u16 (k.src : Int)) ∧ w.cell? ⟨b, 1, none⟩ = some (.int .u16 (k.dst : Int)) ∧ w.cell? ⟨b, 2, none⟩ = some (v_data)
theorem Grambox.grow {w w' : World} {b : Nat} {k : Gram} {v_data : Value} (h : Grambox w b k v_data) (g : Grow w w') : Grambox w' b k v_data := by
  obtain ⟨c0, c1, c2⟩ := h
  have hlt : b < w.heap.size := block_of_cell c0
  exact ⟨(g.cell (p := ⟨b, 0, none⟩) hlt).trans c0, (g.cell (p := ⟨b, 1, none⟩) hlt).trans c1, (g.cell (p := ⟨b, 2, none⟩) hlt).trans c2⟩
def Gramblk (w : World) (g : Nat) (k : Gram) (v_data : Value) : Prop := w.heap[g]? = some (.cells #[.int .u16 (k.src : Int), .int .u16 (k.dst : Int), v_data] 26 (0, 0))
theorem Gramblk.boxd {w : World} {g : Nat} {k : Gram} {v_data : Value} (h : Gramblk w g k v_data) : Grambox w g k v_data := by
  unfold Grambox World.cell?
  unfold Gramblk at h
  rw [h]
  exact ⟨rfl, rfl, rfl⟩
theorem Gramblk.lt {w : World} {g : Nat} {k : Gram} {v_data : Value} (h : Gramblk w g k v_data) : g < w.heap.size := (Array.getElem?_eq_some_iff.1 h).1
theorem Gramblk.grow {w w' : World} {g : Nat} {k : Gram} {v_data : Value} (h : Gramblk w g k v_data) (gr : Grow w w') : Gramblk w' g k v_data := (Below.block gr g h.lt).trans h
theorem Gramblk.new (w : World) (k : Gram) (v_data : Value) : Gramblk (w.alloc (.cells #[.int .u16 (k.src : Int), .int .u16 (k.dst : Int), v_data] 26)) w.heap.size k v_data := heap_alloc_new w _
theorem Gramblk.but {w w' : World} {g g' : Nat} {k : Gram} {v_data : Value} (h : Gramblk w g k v_data) (hb : But g' w w') (hne : g ≠ g') : Gramblk w' g k v_data := (hb.2 g hne).trans h
theorem Grambox.new (w : World) (k : Gram) (v_data : Value) : Grambox (w.alloc (.cells #[.int .u16 (k.src : Int), .int .u16 (k.dst : Int), v_data] 26)) w.heap.size k v_data := (Gramblk.new w k v_data).boxd

/-- *p = struct, as one step of a walk. -/
theorem wpList_store_Gram (w₀ w : World) {ops : Array Oper} {rest : List Oper} {o : Oper} {a : Act} {Q : Exit → Act → World → Prop} (hgd : o.guard = none) (x y : Operand) (ho : o.op = .store 26 x y) (hdst : o.dst = none)
    (g : Nat) (hx : a.eval x = .pointer (some ⟨g, 0, none⟩)) (k k₀ : Gram) (v_data z_data : Value) (hy : a.eval y = GramV k v_data) (h_data : v_data.oneCell' = true) (hb : Gramblk w g k₀ z_data)
    (hgr : Grow w₀ w) (hg : w₀.heap.size ≤ g) (h : ∀ w', Gramblk w' g k v_data → But g w w' → Grow w₀ w' → wpList Try.prog ops Q rest a w') : wpList Try.prog ops Q (o :: rest) a w := by
  refine wpList_store_row hgd 26 x y ho g #[.int .u16 (k.src : Int), .int .u16 (k.dst : Int), v_data] hx hy 26 _ hb (by kernel_rfl) rfl ?_ ?_
  · rw [Array.all_eq_true_iff_forall_mem]
    intro z hz
    simp only [List.mem_toArray, List.mem_cons, List.not_mem_nil, or_false] at hz
    rcases hz with rfl | rfl | rfl <;> first | rfl | exact h_data
  · have e : a.put o.dst undef = a := by rw [hdst]; rfl
    rw [e]
    exact h _ (setRow_heap w g _ _ _ _ hb) ⟨by simp [World.setRow], fun b hne => setRow_other w g b _ hne⟩ (below_setRow hgr hg _)

/-- One field stored. -/
theorem Gram_fld (w : World) (g i : Nat) (ty : TypeId) (u : Value) (k k' : Gram) (v_data y_data : Value) (hb : Gramblk w g k v_data) (hi : (Try.prog.info? ty).map (·.size) = some 1) (h1 : u.oneCell' = true) (hl : i < 3)
    (hset : (Gramcells k v_data).toList.set i u = (Gramcells k' y_data).toList) : ∃ w', (storeVar ty ⟨g, i, none⟩ u).run Try.prog w = .ok () w' ∧ Gramblk w' g k' y_data ∧ But g w w' ∧ ∀ w₀, Grow w₀ w → w₀.heap.size ≤ g → Grow w₀ w' := by
  have hr := run_storeCells_at (P := Try.prog) g i 26 [u] 0 (Gramcells k v_data) w hb (by simp [Gramcells]; omega) (fun x hx => by simp at hx; subst hx; exact h1)
  have hc : u.cells = #[u] := by cases u <;> first | rfl | cases h1
  have e1 : ((Gramcells k v_data).toList.take (i + 0) ++ [u] ++ (Gramcells k v_data).toList.drop (i + 0 + [u].length)) = (Gramcells k' y_data).toList := by
    rw [← hset, List.set_eq_take_append_cons_drop]
    have : i < (Gramcells k v_data).toList.length := hl
    rw [if_pos this]
    simp
  rw [e1] at hr
  refine ⟨w.setRow g (Gramcells k' y_data), ?_, setRow_heap w g _ _ _ _ hb, ⟨by simp [World.setRow], fun b hne => setRow_other w g b _ hne⟩, fun w₀ hg hb' => below_setRow hg hb' _⟩
  cases hq : Try.prog.info? ty with
  | none => simp [hq] at hi
  | some j =>
    have hs : j.size = 1 := by simpa [hq] using hi
    simp only [Array.toArray_toList] at hr
    simp [storeVar, sizeOf, typeInfo, hq, hc, hs, hr]
theorem wpList_fld_Gram (w₀ w : World) {ops : Array Oper} {rest : List Oper} {o : Oper} {a : Act} {Q : Exit → Act → World → Prop} (hgd : o.guard = none) (ty : TypeId) (x y : Operand) (ho : o.op = .store ty x y) (hdst : o.dst = none)
    (g i : Nat) (u : Value) (hx : a.eval x = .pointer (some ⟨g, i, none⟩)) (hy : a.eval y = u) (k k' : Gram) (v_data y_data : Value) (hb : Gramblk w g k v_data) (hi : (Try.prog.info? ty).map (·.size) = some 1) (h1 : u.oneCell' = true) (hl : i < 3)
    (hset : (Gramcells k v_data).toList.set i u = (Gramcells k' y_data).toList) (hgr : Grow w₀ w) (hg : w₀.heap.size ≤ g)
    (h : ∀ w', Gramblk w' g k' y_data → But g w w' → Grow w₀ w' → wpList Try.prog ops Q rest a w') : wpList Try.prog ops Q (o :: rest) a w := by
  obtain ⟨w', hrun, h2, h3, h4⟩ := Gram_fld w g i ty u k k' v_data y_data hb hi h1 hl hset
  refine wpList_plain hgd fun _ hK => ?_
  unfold Oper.wp execOp
  simp only [ho, hx, hy, Instr.storeAt, Instr.sureAddr, Sem.run_bind, Sem.run_pure, Result.andThen_ok, hrun]
  refine hK _ _ ?_
  have e : a.put o.dst undef = a := by rw [hdst]; rfl
  rw [e]
  exact h w' h2 h3 (h4 w₀ hgr hg)
theorem upon_fld_Gram (w₀ w : World) {ops : Array Oper} {o : Oper} {a : Act} {post : Value → World → Prop} (hgd : o.guard = none) (ty : TypeId) (x y : Operand) (ho : o.op = .store ty x y)
    (g i : Nat) (u : Value) (hx : a.eval x = .pointer (some ⟨g, i, none⟩)) (hy : a.eval y = u) (k k' : Gram) (v_data y_data : Value) (hb : Gramblk w g k v_data) (hi : (Try.prog.info? ty).map (·.size) = some 1) (h1 : u.oneCell' = true) (hl : i < 3)
    (hset : (Gramcells k v_data).toList.set i u = (Gramcells k' y_data).toList) (hgr : Grow w₀ w) (hg : w₀.heap.size ≤ g)
    (h : ∀ w', Gramblk w' g k' y_data → But g w w' → Grow w₀ w' → post undef w') :
    if Region.wanted o (yielded ops a.tmps) = true then looseUpon Try.prog post ((execOp a.eval o).run Try.prog w) else post undef w := by
  have hw : Region.wanted o (yielded ops a.tmps) = true := by simp [Region.wanted, hgd]
  rw [if_pos hw]
  obtain ⟨w', hrun, h2, h3, h4⟩ := Gram_fld w g i ty u k k' v_data y_data hb hi h1 hl hset
  unfold execOp
  simp only [ho, hx, hy, Instr.storeAt, Instr.sureAddr, Sem.run_bind, Sem.run_pure, Result.andThen_ok, hrun, looseUpon]
  exact h w' h2 h3 (h4 w₀ hgr hg)

set_option maxHeartbeats 400000 in
/-- It and a number, handed back out of its block. -/
theorem results_Gram {fn : Func} (h : fn.results = #[.cell 2 26, .tmp 3]) (tmps : Array Value) (w : World) (g : Nat) (k : Gram) (v_data : Value) (ht : tmps.getD 2 undef = .pointer (some ⟨g, 0, none⟩)) (hb : Gramblk w g k v_data) :
    (results fn tmps).run Try.prog w = .ok (.tuple #[GramV k v_data, tmps.getD 3 undef]) w := by
  obtain ⟨c0, c1, c2⟩ := hb.boxd
  have ht' : tmps[2]?.getD undef = .pointer (some ⟨g, 0, none⟩) := by simpa using ht
  simp only [results, h, go_sem]
  simp [ht', c0, c1, c2, go_sem]

theorem array_Gram {α : Type} {cs : Array α} (h : cs.size = 3) : ∃ c0 c1 c2, cs = #[c0, c1, c2] := by
  obtain ⟨l⟩ := cs
  match l, h with
  | [c0, c1, c2], _ => exact ⟨c0, c1, c2, rfl⟩

set_option maxHeartbeats 1000000 in
theorem open_Gram {H : Type} {enc : TypeId × Value → H} {W : World} {r : Reach} {b0 : Nat} {v : Value} {d : DataW H} {p : List MemPlace} (hv : Value.okWide Try.prog W r b0 26 v) (h : DataW.Trod enc Try.prog W 0 (fun _ => true) true 26 v d p) : ∃ k, isGram W v k := by
  obtain ⟨cs, rfl, hsz⟩ := okWide_struct Try.underlying26 hv
  obtain ⟨c0, c1, c2, rfl⟩ := array_Gram (hsz.trans (by kernel_rfl))
  obtain ⟨fuel, hf⟩ := h
  obtain ⟨xs, n, _, _, _, hlen, hfd⟩ := DataW.trod_struct Try.underlying26 hf
  have q0 : DataW.trod enc Try.prog W 0 (fun _ => true) true n 23 [c0] = xs[0]? := hfd 0 _ rfl
  rw [List.getElem?_eq_getElem (show 0 < xs.length by rw [hlen]; decide)] at q0
  obtain ⟨n0, e0, _, wf0⟩ := DataW.trod_int (k := .u16) (by kernel_rfl) q0
  obtain rfl : c0 = _ := by simpa using e0
  obtain ⟨m0, rfl, z0⟩ := wf_nat wf0 rfl
  have q1 : DataW.trod enc Try.prog W 0 (fun _ => true) true n 23 [c1] = xs[1]? := hfd 1 _ rfl
  rw [List.getElem?_eq_getElem (show 1 < xs.length by rw [hlen]; decide)] at q1
  obtain ⟨n1, e1, _, wf1⟩ := DataW.trod_int (k := .u16) (by kernel_rfl) q1
  obtain rfl : c1 = _ := by simpa using e1
  obtain ⟨m1, rfl, z1⟩ := wf_nat wf1 rfl
  have q2 : DataW.trod enc Try.prog W 0 (fun _ => true) true n 24 [c2] = xs[2]? := hfd 2 _ rfl
  rw [List.getElem?_eq_getElem (show 2 < xs.length by rw [hlen]; decide)] at q2
  obtain ⟨v2, l2, e2, z2⟩ := open_bytes q2
  obtain rfl : c2 = _ := by simpa using e2
  exact ⟨⟨m0, m1, l2⟩, c2, rfl, z2, ⟨trivial, z0, z1⟩⟩
end Go.Proofs.Ytmblfenindjeiaa
