/- The struct Icm: as a value, in a block, as a parameter. Written by mkstruct.py. -/
import Derived.Test.YtbnnacohkemnhaaIpFld
import Derived.Test.YtbnnacohkemnhaaIpOpen
namespace Go.Proofs.Ytbnnacohkemnhaa
set_option linter.unusedVariables false
set_option linter.unusedSimpArgs false
open Go.ChangeShapes Go.WideShapes Go.ChangeAt Go.RowKit

structure Icm where
  kind : Nat
  code : Nat
  rest : Nat
  data : List UInt8

/-- Each field in its type. -/
structure Icm.Ok (k : Icm) : Prop where
  any : True
  kind : k.kind < 256
  code : k.code < 256
  rest : k.rest < 4294967296

@[reducible] def IcmV (k : Icm) (v_data : Value) : Value := .agg #[.int .u8 (k.kind : Int), .int .u8 (k.code : Int), .int .u32 (k.rest : Int), v_data]
/-- The value v reads as it. -/
def isIcm (w : World) (v : Value) (k : Icm) : Prop := ∃ v_data, v = IcmV k v_data ∧ Byt w v_data k.data ∧ k.Ok
theorem isIcm.grow {w w' : World} {v : Value} {k : Icm} (h : isIcm w v k) (g : Grow w w') : isIcm w' v k := by
  obtain ⟨v_data, e, h_data, ok⟩ := h
  exact ⟨v_data, e, h_data.grow g, ok⟩
theorem isIcm.form {w : World} {v : Value} {k : Icm} (h : isIcm w v k) : ∃ A_data c_data, v = IcmV k (.slice A_data k.data.length c_data) ∧ Byt w (.slice A_data k.data.length c_data) k.data ∧ k.Ok := by
  obtain ⟨v_data, e, h_data, ok⟩ := h
  obtain ⟨A_data, c_data, rfl, _, _⟩ := h_data.form
  exact ⟨A_data, c_data, e, h_data, ok⟩

/-- Its cells; in a block of their own; the block whole. -/
def Icmcells (k : Icm) (v_data : Value) : Array Value := #[.int .u8 (k.kind : Int), .int .u8 (k.code : Int), .int .u32 (k.rest : Int), v_data]
def Icmbox (w : World) (b : Nat) (k : Icm) (v_data : Value) : Prop :=
  w.cell? ⟨b, 0, none⟩ = some (.int .u8 (k.kind : Int)) ∧ w.cell? ⟨b, 1, none⟩ = some (.int .u8 (k.code : Int)) ∧ w.cell? ⟨b, 2, none⟩ = some (.int .u32 (k.rest : Int)) ∧ w.cell? ⟨b, 3, none⟩ = some (v_data)
theorem Icmbox.grow {w w' : World} {b : Nat} {k : Icm} {v_data : Value} (h : Icmbox w b k v_data) (g : Grow w w') : Icmbox w' b k v_data := by
  obtain ⟨c0, c1, c2, c3⟩ := h
  have hlt : b < w.heap.size := block_of_cell c0
  exact ⟨(g.cell (p := ⟨b, 0, none⟩) hlt).trans c0, (g.cell (p := ⟨b, 1, none⟩) hlt).trans c1, (g.cell (p := ⟨b, 2, none⟩) hlt).trans c2, (g.cell (p := ⟨b, 3, none⟩) hlt).trans c3⟩
def Icmblk (w : World) (g : Nat) (k : Icm) (v_data : Value) : Prop := w.heap[g]? = some (.cells #[.int .u8 (k.kind : Int), .int .u8 (k.code : Int), .int .u32 (k.rest : Int), v_data] 25 (0, 0))
theorem Icmblk.boxd {w : World} {g : Nat} {k : Icm} {v_data : Value} (h : Icmblk w g k v_data) : Icmbox w g k v_data := by
  unfold Icmbox World.cell?
  unfold Icmblk at h
  rw [h]
  exact ⟨rfl, rfl, rfl, rfl⟩
theorem Icmblk.lt {w : World} {g : Nat} {k : Icm} {v_data : Value} (h : Icmblk w g k v_data) : g < w.heap.size := (Array.getElem?_eq_some_iff.1 h).1
theorem Icmblk.grow {w w' : World} {g : Nat} {k : Icm} {v_data : Value} (h : Icmblk w g k v_data) (gr : Grow w w') : Icmblk w' g k v_data := (Below.block gr g h.lt).trans h
theorem Icmblk.new (w : World) (k : Icm) (v_data : Value) : Icmblk (w.alloc (.cells #[.int .u8 (k.kind : Int), .int .u8 (k.code : Int), .int .u32 (k.rest : Int), v_data] 25)) w.heap.size k v_data := heap_alloc_new w _
theorem Icmblk.but {w w' : World} {g g' : Nat} {k : Icm} {v_data : Value} (h : Icmblk w g k v_data) (hb : But g' w w') (hne : g ≠ g') : Icmblk w' g k v_data := (hb.2 g hne).trans h
theorem Icmbox.new (w : World) (k : Icm) (v_data : Value) : Icmbox (w.alloc (.cells #[.int .u8 (k.kind : Int), .int .u8 (k.code : Int), .int .u32 (k.rest : Int), v_data] 25)) w.heap.size k v_data := (Icmblk.new w k v_data).boxd

/-- *p = struct, as one step of a walk. -/
theorem wpList_store_Icm (w₀ w : World) {ops : Array Oper} {rest : List Oper} {o : Oper} {a : Act} {Q : Exit → Act → World → Prop} (hgd : o.guard = none) (x y : Operand) (ho : o.op = .store 25 x y) (hdst : o.dst = none)
    (g : Nat) (hx : a.eval x = .pointer (some ⟨g, 0, none⟩)) (k k₀ : Icm) (v_data z_data : Value) (hy : a.eval y = IcmV k v_data) (h_data : v_data.oneCell' = true) (hb : Icmblk w g k₀ z_data)
    (hgr : Grow w₀ w) (hg : w₀.heap.size ≤ g) (h : ∀ w', Icmblk w' g k v_data → But g w w' → Grow w₀ w' → wpList Try.prog ops Q rest a w') : wpList Try.prog ops Q (o :: rest) a w := by
  refine wpList_store_row hgd 25 x y ho g #[.int .u8 (k.kind : Int), .int .u8 (k.code : Int), .int .u32 (k.rest : Int), v_data] hx hy 25 _ hb (by kernel_rfl) rfl ?_ ?_
  · rw [Array.all_eq_true_iff_forall_mem]
    intro z hz
    simp only [List.mem_toArray, List.mem_cons, List.not_mem_nil, or_false] at hz
    rcases hz with rfl | rfl | rfl | rfl <;> first | rfl | exact h_data
  · have e : a.put o.dst undef = a := by rw [hdst]; rfl
    rw [e]
    exact h _ (setRow_heap w g _ _ _ _ hb) ⟨by simp [World.setRow], fun b hne => setRow_other w g b _ hne⟩ (below_setRow hgr hg _)

/-- One field stored. -/
theorem Icm_fld (w : World) (g i : Nat) (ty : TypeId) (u : Value) (k k' : Icm) (v_data y_data : Value) (hb : Icmblk w g k v_data) (hi : (Try.prog.info? ty).map (·.size) = some 1) (h1 : u.oneCell' = true) (hl : i < 4)
    (hset : (Icmcells k v_data).toList.set i u = (Icmcells k' y_data).toList) : ∃ w', (storeVar ty ⟨g, i, none⟩ u).run Try.prog w = .ok () w' ∧ Icmblk w' g k' y_data ∧ But g w w' ∧ ∀ w₀, Grow w₀ w → w₀.heap.size ≤ g → Grow w₀ w' := by
  have hr := run_storeCells_at (P := Try.prog) g i 25 [u] 0 (Icmcells k v_data) w hb (by simp [Icmcells]; omega) (fun x hx => by simp at hx; subst hx; exact h1)
  have hc : u.cells = #[u] := by cases u <;> first | rfl | cases h1
  have e1 : ((Icmcells k v_data).toList.take (i + 0) ++ [u] ++ (Icmcells k v_data).toList.drop (i + 0 + [u].length)) = (Icmcells k' y_data).toList := by
    rw [← hset, List.set_eq_take_append_cons_drop]
    have : i < (Icmcells k v_data).toList.length := hl
    rw [if_pos this]
    simp
  rw [e1] at hr
  refine ⟨w.setRow g (Icmcells k' y_data), ?_, setRow_heap w g _ _ _ _ hb, ⟨by simp [World.setRow], fun b hne => setRow_other w g b _ hne⟩, fun w₀ hg hb' => below_setRow hg hb' _⟩
  cases hq : Try.prog.info? ty with
  | none => simp [hq] at hi
  | some j =>
    have hs : j.size = 1 := by simpa [hq] using hi
    simp only [Array.toArray_toList] at hr
    simp [storeVar, sizeOf, typeInfo, hq, hc, hs, hr]
theorem wpList_fld_Icm (w₀ w : World) {ops : Array Oper} {rest : List Oper} {o : Oper} {a : Act} {Q : Exit → Act → World → Prop} (hgd : o.guard = none) (ty : TypeId) (x y : Operand) (ho : o.op = .store ty x y) (hdst : o.dst = none)
    (g i : Nat) (u : Value) (hx : a.eval x = .pointer (some ⟨g, i, none⟩)) (hy : a.eval y = u) (k k' : Icm) (v_data y_data : Value) (hb : Icmblk w g k v_data) (hi : (Try.prog.info? ty).map (·.size) = some 1) (h1 : u.oneCell' = true) (hl : i < 4)
    (hset : (Icmcells k v_data).toList.set i u = (Icmcells k' y_data).toList) (hgr : Grow w₀ w) (hg : w₀.heap.size ≤ g)
    (h : ∀ w', Icmblk w' g k' y_data → But g w w' → Grow w₀ w' → wpList Try.prog ops Q rest a w') : wpList Try.prog ops Q (o :: rest) a w := by
  obtain ⟨w', hrun, h2, h3, h4⟩ := Icm_fld w g i ty u k k' v_data y_data hb hi h1 hl hset
  refine wpList_plain hgd fun _ hK => ?_
  unfold Oper.wp execOp
  simp only [ho, hx, hy, Instr.storeAt, Instr.sureAddr, Sem.run_bind, Sem.run_pure, Result.andThen_ok, hrun]
  refine hK _ _ ?_
  have e : a.put o.dst undef = a := by rw [hdst]; rfl
  rw [e]
  exact h w' h2 h3 (h4 w₀ hgr hg)
theorem upon_fld_Icm (w₀ w : World) {ops : Array Oper} {o : Oper} {a : Act} {post : Value → World → Prop} (hgd : o.guard = none) (ty : TypeId) (x y : Operand) (ho : o.op = .store ty x y)
    (g i : Nat) (u : Value) (hx : a.eval x = .pointer (some ⟨g, i, none⟩)) (hy : a.eval y = u) (k k' : Icm) (v_data y_data : Value) (hb : Icmblk w g k v_data) (hi : (Try.prog.info? ty).map (·.size) = some 1) (h1 : u.oneCell' = true) (hl : i < 4)
    (hset : (Icmcells k v_data).toList.set i u = (Icmcells k' y_data).toList) (hgr : Grow w₀ w) (hg : w₀.heap.size ≤ g)
    (h : ∀ w', Icmblk w' g k' y_data → But g w w' → Grow w₀ w' → post undef w') :
    if Region.wanted o (yielded ops a.tmps) = true then looseUpon Try.prog post ((execOp a.eval o).run Try.prog w) else post undef w := by
  have hw : Region.wanted o (yielded ops a.tmps) = true := by simp [Region.wanted, hgd]
  rw [if_pos hw]
  obtain ⟨w', hrun, h2, h3, h4⟩ := Icm_fld w g i ty u k k' v_data y_data hb hi h1 hl hset
  unfold execOp
  simp only [ho, hx, hy, Instr.storeAt, Instr.sureAddr, Sem.run_bind, Sem.run_pure, Result.andThen_ok, hrun, looseUpon]
  exact h w' h2 h3 (h4 w₀ hgr hg)

set_option maxHeartbeats 400000 in
/-- It and a number, handed back out of its block. -/
theorem results_Icm {fn : Func} (h : fn.results = #[.cell 2 25, .tmp 3]) (tmps : Array Value) (w : World) (g : Nat) (k : Icm) (v_data : Value) (ht : tmps.getD 2 undef = .pointer (some ⟨g, 0, none⟩)) (hb : Icmblk w g k v_data) :
    (results fn tmps).run Try.prog w = .ok (.tuple #[IcmV k v_data, tmps.getD 3 undef]) w := by
  obtain ⟨c0, c1, c2, c3⟩ := hb.boxd
  have ht' : tmps[2]?.getD undef = .pointer (some ⟨g, 0, none⟩) := by simpa using ht
  simp only [results, h, go_sem]
  simp [ht', c0, c1, c2, c3, go_sem]

theorem array_Icm {α : Type} {cs : Array α} (h : cs.size = 4) : ∃ c0 c1 c2 c3, cs = #[c0, c1, c2, c3] := by
  obtain ⟨l⟩ := cs
  match l, h with
  | [c0, c1, c2, c3], _ => exact ⟨c0, c1, c2, c3, rfl⟩

set_option maxHeartbeats 1000000 in
theorem open_Icm {H : Type} {enc : TypeId × Value → H} {W : World} {r : Reach} {b0 : Nat} {v : Value} {d : DataW H} {p : List MemPlace} (hv : Value.okWide Try.prog W r b0 25 v) (h : DataW.Trod enc Try.prog W 0 (fun _ => true) true 25 v d p) : ∃ k, isIcm W v k := by
  obtain ⟨cs, rfl, hsz⟩ := okWide_struct Try.underlying25 hv
  obtain ⟨c0, c1, c2, c3, rfl⟩ := array_Icm (hsz.trans (by kernel_rfl))
  obtain ⟨fuel, hf⟩ := h
  obtain ⟨xs, n, _, _, _, hlen, hfd⟩ := DataW.trod_struct Try.underlying25 hf
  have q0 : DataW.trod enc Try.prog W 0 (fun _ => true) true n 5 [c0] = xs[0]? := hfd 0 _ rfl
  rw [List.getElem?_eq_getElem (show 0 < xs.length by rw [hlen]; decide)] at q0
  obtain ⟨n0, e0, _, wf0⟩ := DataW.trod_int (k := .u8) (by kernel_rfl) q0
  obtain rfl : c0 = _ := by simpa using e0
  obtain ⟨m0, rfl, z0⟩ := wf_nat wf0 rfl
  have q1 : DataW.trod enc Try.prog W 0 (fun _ => true) true n 5 [c1] = xs[1]? := hfd 1 _ rfl
  rw [List.getElem?_eq_getElem (show 1 < xs.length by rw [hlen]; decide)] at q1
  obtain ⟨n1, e1, _, wf1⟩ := DataW.trod_int (k := .u8) (by kernel_rfl) q1
  obtain rfl : c1 = _ := by simpa using e1
  obtain ⟨m1, rfl, z1⟩ := wf_nat wf1 rfl
  have q2 : DataW.trod enc Try.prog W 0 (fun _ => true) true n 22 [c2] = xs[2]? := hfd 2 _ rfl
  rw [List.getElem?_eq_getElem (show 2 < xs.length by rw [hlen]; decide)] at q2
  obtain ⟨n2, e2, _, wf2⟩ := DataW.trod_int (k := .u32) (by kernel_rfl) q2
  obtain rfl : c2 = _ := by simpa using e2
  obtain ⟨m2, rfl, z2⟩ := wf_nat wf2 rfl
  have q3 : DataW.trod enc Try.prog W 0 (fun _ => true) true n 23 [c3] = xs[3]? := hfd 3 _ rfl
  rw [List.getElem?_eq_getElem (show 3 < xs.length by rw [hlen]; decide)] at q3
  obtain ⟨v3, l3, e3, z3⟩ := open_bytes q3
  obtain rfl : c3 = _ := by simpa using e3
  exact ⟨⟨m0, m1, m2, l3⟩, c3, rfl, z3, ⟨trivial, z0, z1, z2⟩⟩
end Go.Proofs.Ytbnnacohkemnhaa
