/- The struct Sgm: as a value, in a block, as a parameter. Written by mkstruct.py. -/
import Derived.Test.YtbhdpobmooncpaaIpFld
import Derived.Test.YtbhdpobmooncpaaIpOpen
namespace Go.Proofs.Ytbhdpobmooncpaa
set_option linter.unusedVariables false
set_option linter.unusedSimpArgs false
open Go.ChangeShapes Go.WideShapes Go.ChangeAt Go.RowKit

structure Sgm where
  src : Nat
  dst : Nat
  seq : Nat
  ack : Nat
  flags : Nat
  win : Nat
  mss : Int
  scale : Int
  data : List UInt8

/-- Each field in its type. -/
structure Sgm.Ok (k : Sgm) : Prop where
  any : True
  src : k.src < 65536
  dst : k.dst < 65536
  seq : k.seq < 4294967296
  ack : k.ack < 4294967296
  flags : k.flags < 256
  win : k.win < 65536
  mss1 : -9223372036854775808 ≤ k.mss
  mss2 : k.mss ≤ 9223372036854775807
  scale1 : -9223372036854775808 ≤ k.scale
  scale2 : k.scale ≤ 9223372036854775807

@[reducible] def SgmV (k : Sgm) (v_data : Value) : Value := .agg #[.int .u16 (k.src : Int), .int .u16 (k.dst : Int), .int .u32 (k.seq : Int), .int .u32 (k.ack : Int), .int .u8 (k.flags : Int), .int .u16 (k.win : Int), .int .i64 k.mss, .int .i64 k.scale, v_data]
/-- The value v reads as it. -/
def isSgm (w : World) (v : Value) (k : Sgm) : Prop := ∃ v_data, v = SgmV k v_data ∧ Byt w v_data k.data ∧ k.Ok
theorem isSgm.grow {w w' : World} {v : Value} {k : Sgm} (h : isSgm w v k) (g : Grow w w') : isSgm w' v k := by
  obtain ⟨v_data, e, h_data, ok⟩ := h
  exact ⟨v_data, e, h_data.grow g, ok⟩
theorem isSgm.form {w : World} {v : Value} {k : Sgm} (h : isSgm w v k) : ∃ A_data c_data, v = SgmV k (.slice A_data k.data.length c_data) ∧ Byt w (.slice A_data k.data.length c_data) k.data ∧ k.Ok := by
  obtain ⟨v_data, e, h_data, ok⟩ := h
  obtain ⟨A_data, c_data, rfl, _, _⟩ := h_data.form
  exact ⟨A_data, c_data, e, h_data, ok⟩

/-- Its cells; in a block of their own; the block whole. -/
def Sgmcells (k : Sgm) (v_data : Value) : Array Value := #[.int .u16 (k.src : Int), .int .u16 (k.dst : Int), .int .u32 (k.seq : Int), .int .u32 (k.ack : Int), .int .u8 (k.flags : Int), .int .u16 (k.win : Int), .int .i64 k.mss, .int .i64 k.scale, v_data]
def Sgmbox (w : World) (b : Nat) (k : Sgm) (v_data : Value) : Prop :=
  w.cell? ⟨b, 0, none⟩ = some (.int .u16 (k.src : Int)) ∧ w.cell? ⟨b, 1, none⟩ = some (.int .u16 (k.dst : Int)) ∧ w.cell? ⟨b, 2, none⟩ = some (.int .u32 (k.seq : Int)) ∧ w.cell? ⟨b, 3, none⟩ = some (.int .u32 (k.ack : Int)) ∧ w.cell? ⟨b, 4, none⟩ = some (.int .u8 (k.flags : Int)) ∧ w.cell? ⟨b, 5, none⟩ = some (.int .u16 (k.win : Int)) ∧ w.cell? ⟨b, 6, none⟩ = some (.int .i64 k.mss) ∧ w.cell? ⟨b, 7, none⟩ = some (.int .i64 k.scale) ∧ w.cell? ⟨b, 8, none⟩ = some (v_data)
theorem Sgmbox.grow {w w' : World} {b : Nat} {k : Sgm} {v_data : Value} (h : Sgmbox w b k v_data) (g : Grow w w') : Sgmbox w' b k v_data := by
  obtain ⟨c0, c1, c2, c3, c4, c5, c6, c7, c8⟩ := h
  have hlt : b < w.heap.size := block_of_cell c0
  exact ⟨(g.cell (p := ⟨b, 0, none⟩) hlt).trans c0, (g.cell (p := ⟨b, 1, none⟩) hlt).trans c1, (g.cell (p := ⟨b, 2, none⟩) hlt).trans c2, (g.cell (p := ⟨b, 3, none⟩) hlt).trans c3, (g.cell (p := ⟨b, 4, none⟩) hlt).trans c4, (g.cell (p := ⟨b, 5, none⟩) hlt).trans c5, (g.cell (p := ⟨b, 6, none⟩) hlt).trans c6, (g.cell (p := ⟨b, 7, none⟩) hlt).trans c7, (g.cell (p := ⟨b, 8, none⟩) hlt).trans c8⟩
def Sgmblk (w : World) (g : Nat) (k : Sgm) (v_data : Value) : Prop := w.heap[g]? = some (.cells #[.int .u16 (k.src : Int), .int .u16 (k.dst : Int), .int .u32 (k.seq : Int), .int .u32 (k.ack : Int), .int .u8 (k.flags : Int), .int .u16 (k.win : Int), .int .i64 k.mss, .int .i64 k.scale, v_data] 26 (0, 0))
theorem Sgmblk.boxd {w : World} {g : Nat} {k : Sgm} {v_data : Value} (h : Sgmblk w g k v_data) : Sgmbox w g k v_data := by
  unfold Sgmbox World.cell?
  unfold Sgmblk at h
  rw [h]
  exact ⟨rfl, rfl, rfl, rfl, rfl, rfl, rfl, rfl, rfl⟩
theorem Sgmblk.lt {w : World} {g : Nat} {k : Sgm} {v_data : Value} (h : Sgmblk w g k v_data) : g < w.heap.size := (Array.getElem?_eq_some_iff.1 h).1
theorem Sgmblk.grow {w w' : World} {g : Nat} {k : Sgm} {v_data : Value} (h : Sgmblk w g k v_data) (gr : Grow w w') : Sgmblk w' g k v_data := (Below.block gr g h.lt).trans h
theorem Sgmblk.new (w : World) (k : Sgm) (v_data : Value) : Sgmblk (w.alloc (.cells #[.int .u16 (k.src : Int), .int .u16 (k.dst : Int), .int .u32 (k.seq : Int), .int .u32 (k.ack : Int), .int .u8 (k.flags : Int), .int .u16 (k.win : Int), .int .i64 k.mss, .int .i64 k.scale, v_data] 26)) w.heap.size k v_data := heap_alloc_new w _
theorem Sgmblk.but {w w' : World} {g g' : Nat} {k : Sgm} {v_data : Value} (h : Sgmblk w g k v_data) (hb : But g' w w') (hne : g ≠ g') : Sgmblk w' g k v_data := (hb.2 g hne).trans h
theorem Sgmbox.new (w : World) (k : Sgm) (v_data : Value) : Sgmbox (w.alloc (.cells #[.int .u16 (k.src : Int), .int .u16 (k.dst : Int), .int .u32 (k.seq : Int), .int .u32 (k.ack : Int), .int .u8 (k.flags : Int), .int .u16 (k.win : Int), .int .i64 k.mss, .int .i64 k.scale, v_data] 26)) w.heap.size k v_data := (Sgmblk.new w k v_data).boxd

/-- *p = struct, as one step of a walk. -/
theorem wpList_store_Sgm (w₀ w : World) {ops : Array Oper} {rest : List Oper} {o : Oper} {a : Act} {Q : Exit → Act → World → Prop} (hgd : o.guard = none) (x y : Operand) (ho : o.op = .store 26 x y) (hdst : o.dst = none)
    (g : Nat) (hx : a.eval x = .pointer (some ⟨g, 0, none⟩)) (k k₀ : Sgm) (v_data z_data : Value) (hy : a.eval y = SgmV k v_data) (h_data : v_data.oneCell' = true) (hb : Sgmblk w g k₀ z_data)
    (hgr : Grow w₀ w) (hg : w₀.heap.size ≤ g) (h : ∀ w', Sgmblk w' g k v_data → But g w w' → Grow w₀ w' → wpList Try.prog ops Q rest a w') : wpList Try.prog ops Q (o :: rest) a w := by
  refine wpList_store_row hgd 26 x y ho g #[.int .u16 (k.src : Int), .int .u16 (k.dst : Int), .int .u32 (k.seq : Int), .int .u32 (k.ack : Int), .int .u8 (k.flags : Int), .int .u16 (k.win : Int), .int .i64 k.mss, .int .i64 k.scale, v_data] hx hy 26 _ hb (by kernel_rfl) rfl ?_ ?_
  · rw [Array.all_eq_true_iff_forall_mem]
    intro z hz
    simp only [List.mem_toArray, List.mem_cons, List.not_mem_nil, or_false] at hz
    rcases hz with rfl | rfl | rfl | rfl | rfl | rfl | rfl | rfl | rfl <;> first | rfl | exact h_data
  · have e : a.put o.dst undef = a := by rw [hdst]; rfl
    rw [e]
    exact h _ (setRow_heap w g _ _ _ _ hb) ⟨by simp [World.setRow], fun b hne => setRow_other w g b _ hne⟩ (below_setRow hgr hg _)

/-- One field stored. -/
theorem Sgm_fld (w : World) (g i : Nat) (ty : TypeId) (u : Value) (k k' : Sgm) (v_data y_data : Value) (hb : Sgmblk w g k v_data) (hi : (Try.prog.info? ty).map (·.size) = some 1) (h1 : u.oneCell' = true) (hl : i < 9)
    (hset : (Sgmcells k v_data).toList.set i u = (Sgmcells k' y_data).toList) : ∃ w', (storeVar ty ⟨g, i, none⟩ u).run Try.prog w = .ok () w' ∧ Sgmblk w' g k' y_data ∧ But g w w' ∧ ∀ w₀, Grow w₀ w → w₀.heap.size ≤ g → Grow w₀ w' := by
  have hr := run_storeCells_at (P := Try.prog) g i 26 [u] 0 (Sgmcells k v_data) w hb (by simp [Sgmcells]; omega) (fun x hx => by simp at hx; subst hx; exact h1)
  have hc : u.cells = #[u] := by cases u <;> first | rfl | cases h1
  have e1 : ((Sgmcells k v_data).toList.take (i + 0) ++ [u] ++ (Sgmcells k v_data).toList.drop (i + 0 + [u].length)) = (Sgmcells k' y_data).toList := by
    rw [← hset, List.set_eq_take_append_cons_drop]
    have : i < (Sgmcells k v_data).toList.length := hl
    rw [if_pos this]
    simp
  rw [e1] at hr
  refine ⟨w.setRow g (Sgmcells k' y_data), ?_, setRow_heap w g _ _ _ _ hb, ⟨by simp [World.setRow], fun b hne => setRow_other w g b _ hne⟩, fun w₀ hg hb' => below_setRow hg hb' _⟩
  cases hq : Try.prog.info? ty with
  | none => simp [hq] at hi
  | some j =>
    have hs : j.size = 1 := by simpa [hq] using hi
    simp only [Array.toArray_toList] at hr
    simp [storeVar, sizeOf, typeInfo, hq, hc, hs, hr]
theorem wpList_fld_Sgm (w₀ w : World) {ops : Array Oper} {rest : List Oper} {o : Oper} {a : Act} {Q : Exit → Act → World → Prop} (hgd : o.guard = none) (ty : TypeId) (x y : Operand) (ho : o.op = .store ty x y) (hdst : o.dst = none)
    (g i : Nat) (u : Value) (hx : a.eval x = .pointer (some ⟨g, i, none⟩)) (hy : a.eval y = u) (k k' : Sgm) (v_data y_data : Value) (hb : Sgmblk w g k v_data) (hi : (Try.prog.info? ty).map (·.size) = some 1) (h1 : u.oneCell' = true) (hl : i < 9)
    (hset : (Sgmcells k v_data).toList.set i u = (Sgmcells k' y_data).toList) (hgr : Grow w₀ w) (hg : w₀.heap.size ≤ g)
    (h : ∀ w', Sgmblk w' g k' y_data → But g w w' → Grow w₀ w' → wpList Try.prog ops Q rest a w') : wpList Try.prog ops Q (o :: rest) a w := by
  obtain ⟨w', hrun, h2, h3, h4⟩ := Sgm_fld w g i ty u k k' v_data y_data hb hi h1 hl hset
  refine wpList_plain hgd fun _ hK => ?_
  unfold Oper.wp execOp
  simp only [ho, hx, hy, Instr.storeAt, Instr.sureAddr, Sem.run_bind, Sem.run_pure, Result.andThen_ok, hrun]
  refine hK _ _ ?_
  have e : a.put o.dst undef = a := by rw [hdst]; rfl
  rw [e]
  exact h w' h2 h3 (h4 w₀ hgr hg)
theorem upon_fld_Sgm (w₀ w : World) {ops : Array Oper} {o : Oper} {a : Act} {post : Value → World → Prop} (hgd : o.guard = none) (ty : TypeId) (x y : Operand) (ho : o.op = .store ty x y)
    (g i : Nat) (u : Value) (hx : a.eval x = .pointer (some ⟨g, i, none⟩)) (hy : a.eval y = u) (k k' : Sgm) (v_data y_data : Value) (hb : Sgmblk w g k v_data) (hi : (Try.prog.info? ty).map (·.size) = some 1) (h1 : u.oneCell' = true) (hl : i < 9)
    (hset : (Sgmcells k v_data).toList.set i u = (Sgmcells k' y_data).toList) (hgr : Grow w₀ w) (hg : w₀.heap.size ≤ g)
    (h : ∀ w', Sgmblk w' g k' y_data → But g w w' → Grow w₀ w' → post undef w') :
    if Region.wanted o (yielded ops a.tmps) = true then looseUpon Try.prog post ((execOp a.eval o).run Try.prog w) else post undef w := by
  have hw : Region.wanted o (yielded ops a.tmps) = true := by simp [Region.wanted, hgd]
  rw [if_pos hw]
  obtain ⟨w', hrun, h2, h3, h4⟩ := Sgm_fld w g i ty u k k' v_data y_data hb hi h1 hl hset
  unfold execOp
  simp only [ho, hx, hy, Instr.storeAt, Instr.sureAddr, Sem.run_bind, Sem.run_pure, Result.andThen_ok, hrun, looseUpon]
  exact h w' h2 h3 (h4 w₀ hgr hg)

set_option maxHeartbeats 400000 in
/-- It and a number, handed back out of its block. -/
theorem results_Sgm {fn : Func} (h : fn.results = #[.cell 2 26, .tmp 3]) (tmps : Array Value) (w : World) (g : Nat) (k : Sgm) (v_data : Value) (ht : tmps.getD 2 undef = .pointer (some ⟨g, 0, none⟩)) (hb : Sgmblk w g k v_data) :
    (results fn tmps).run Try.prog w = .ok (.tuple #[SgmV k v_data, tmps.getD 3 undef]) w := by
  obtain ⟨c0, c1, c2, c3, c4, c5, c6, c7, c8⟩ := hb.boxd
  have ht' : tmps[2]?.getD undef = .pointer (some ⟨g, 0, none⟩) := by simpa using ht
  simp only [results, h, go_sem]
  simp [ht', c0, c1, c2, c3, c4, c5, c6, c7, c8, go_sem]

theorem array_Sgm {α : Type} {cs : Array α} (h : cs.size = 9) : ∃ c0 c1 c2 c3 c4 c5 c6 c7 c8, cs = #[c0, c1, c2, c3, c4, c5, c6, c7, c8] := by
  obtain ⟨l⟩ := cs
  match l, h with
  | [c0, c1, c2, c3, c4, c5, c6, c7, c8], _ => exact ⟨c0, c1, c2, c3, c4, c5, c6, c7, c8, rfl⟩

set_option maxHeartbeats 1000000 in
theorem open_Sgm {H : Type} {enc : TypeId × Value → H} {W : World} {r : Reach} {b0 : Nat} {v : Value} {d : DataW H} {p : List MemPlace} (hv : Value.okWide Try.prog W r b0 26 v) (h : DataW.Trod enc Try.prog W 0 (fun _ => true) true 26 v d p) : ∃ k, isSgm W v k := by
  obtain ⟨cs, rfl, hsz⟩ := okWide_struct Try.underlying26 hv
  obtain ⟨c0, c1, c2, c3, c4, c5, c6, c7, c8, rfl⟩ := array_Sgm (hsz.trans (by kernel_rfl))
  obtain ⟨fuel, hf⟩ := h
  obtain ⟨xs, n, _, _, _, hlen, hfd⟩ := DataW.trod_struct Try.underlying26 hf
  have q0 : DataW.trod enc Try.prog W 0 (fun _ => true) true n 23 [c0] = xs[0]? := hfd 0 _ rfl
  rw [List.getElem?_eq_getElem (show 0 < xs.length by rw [hlen]; decide)] at q0
  obtain ⟨n0, e0, _, wf0⟩ := DataW.trod_int (k := .u16) (by kernel_rfl) q0
  obtain rfl : c0 = _ := by simpa using e0
  obtain ⟨m0, rfl, z0⟩ := wf_nat wf0 rfl
  have q1 : DataW.trod enc Try.prog W 0 (fun _ => true) true n 23 [c1] = xs[1]? := hfd 1 _ rfl
  rw [List.getElem?_eq_getElem (show 1 < xs.length by rw [hlen]; decide)] at q1
  obtain ⟨n1, e1, _, wf1⟩ := DataW.trod_int (k := .u16) (by kernel_rfl) q1
  obtain rfl : c1 = _ := by simpa using e1
  obtain ⟨m1, rfl, z1⟩ := wf_nat wf1 rfl
  have q2 : DataW.trod enc Try.prog W 0 (fun _ => true) true n 22 [c2] = xs[2]? := hfd 2 _ rfl
  rw [List.getElem?_eq_getElem (show 2 < xs.length by rw [hlen]; decide)] at q2
  obtain ⟨n2, e2, _, wf2⟩ := DataW.trod_int (k := .u32) (by kernel_rfl) q2
  obtain rfl : c2 = _ := by simpa using e2
  obtain ⟨m2, rfl, z2⟩ := wf_nat wf2 rfl
  have q3 : DataW.trod enc Try.prog W 0 (fun _ => true) true n 22 [c3] = xs[3]? := hfd 3 _ rfl
  rw [List.getElem?_eq_getElem (show 3 < xs.length by rw [hlen]; decide)] at q3
  obtain ⟨n3, e3, _, wf3⟩ := DataW.trod_int (k := .u32) (by kernel_rfl) q3
  obtain rfl : c3 = _ := by simpa using e3
  obtain ⟨m3, rfl, z3⟩ := wf_nat wf3 rfl
  have q4 : DataW.trod enc Try.prog W 0 (fun _ => true) true n 5 [c4] = xs[4]? := hfd 4 _ rfl
  rw [List.getElem?_eq_getElem (show 4 < xs.length by rw [hlen]; decide)] at q4
  obtain ⟨n4, e4, _, wf4⟩ := DataW.trod_int (k := .u8) (by kernel_rfl) q4
  obtain rfl : c4 = _ := by simpa using e4
  obtain ⟨m4, rfl, z4⟩ := wf_nat wf4 rfl
  have q5 : DataW.trod enc Try.prog W 0 (fun _ => true) true n 23 [c5] = xs[5]? := hfd 5 _ rfl
  rw [List.getElem?_eq_getElem (show 5 < xs.length by rw [hlen]; decide)] at q5
  obtain ⟨n5, e5, _, wf5⟩ := DataW.trod_int (k := .u16) (by kernel_rfl) q5
  obtain rfl : c5 = _ := by simpa using e5
  obtain ⟨m5, rfl, z5⟩ := wf_nat wf5 rfl
  have q6 : DataW.trod enc Try.prog W 0 (fun _ => true) true n 3 [c6] = xs[6]? := hfd 6 _ rfl
  rw [List.getElem?_eq_getElem (show 6 < xs.length by rw [hlen]; decide)] at q6
  obtain ⟨n6, e6, _, wf6⟩ := DataW.trod_int (k := .i64) (by kernel_rfl) q6
  obtain rfl : c6 = _ := by simpa using e6
  have z6 := bounds_i64 wf6
  have q7 : DataW.trod enc Try.prog W 0 (fun _ => true) true n 3 [c7] = xs[7]? := hfd 7 _ rfl
  rw [List.getElem?_eq_getElem (show 7 < xs.length by rw [hlen]; decide)] at q7
  obtain ⟨n7, e7, _, wf7⟩ := DataW.trod_int (k := .i64) (by kernel_rfl) q7
  obtain rfl : c7 = _ := by simpa using e7
  have z7 := bounds_i64 wf7
  have q8 : DataW.trod enc Try.prog W 0 (fun _ => true) true n 24 [c8] = xs[8]? := hfd 8 _ rfl
  rw [List.getElem?_eq_getElem (show 8 < xs.length by rw [hlen]; decide)] at q8
  obtain ⟨v8, l8, e8, z8⟩ := open_bytes q8
  obtain rfl : c8 = _ := by simpa using e8
  exact ⟨⟨m0, m1, m2, m3, m4, m5, n6, n7, l8⟩, c8, rfl, z8, ⟨trivial, z0, z1, z2, z3, z4, z5, z6.1, z6.2, z7.1, z7.2⟩⟩
end Go.Proofs.Ytbhdpobmooncpaa
