/- Contract: find. -/
import Derived.Test.YtmnemkeieaflhaaC11
namespace Go.Proofs.Ytmnemkeieaflhaa
set_option linter.unusedVariables false
set_option linter.unusedSimpArgs false
open Go.ChangeShapes Go.WideShapes Go.ChangeAt Go.RowKit Go.Shelf
attribute [local irreducible] wpQuiet

set_option maxRecDepth 10000 in
set_option maxHeartbeats 8000000 in
theorem find_full (w : World) (base tb mb : Nat) (ov : Value) (most life : Int) (L : List Wp) (h : Tab w base tb mb ov most life L) (now : Int) (hnow : 0 ≤ now ∧ now ≤ 1099511627776) (k : Pkt) (vo vd : Value) (hp : Piece base w k vo vd) (h0 : 0 ≤ k.off) (h1 : k.off ≤ 8191)
    (hx0 : nmOf k ∉ L.map Wp.nm) (hful : most ≤ L.length) :
    Calls Try.prog 29 #[.pointer (some ⟨tb, 0, none⟩), .int .i64 now, ipV k vo vd] w fun e w' => e = .returned (.tuple #[.pointer none, .int .i64 5]) ∧ Grow w w' := by
  obtain ⟨A, c, rfl, _⟩ := hp.o.1.form
  obtain ⟨B, d, rfl, _⟩ := hp.d.1.form
  obtain ⟨W1, hW1⟩ : ∃ W1, W1 = w.alloc (.cells #[.int .u8 (k.tos : Int), .int .u16 (k.ident : Int), .bool k.whole, .bool k.more, .int .i64 k.off, .int .u8 (k.ttl : Int), .int .u8 (k.proto : Int), .int .u32 (k.src : Int), .int .u32 (k.dst : Int), .slice A k.opts.length c, .slice B k.data.length d] 38) := ⟨_, rfl⟩
  have hg1 : Grow w W1 := by rw [hW1]; exact Grow.alloc w _
  have hB : Blk W1 w.heap.size k (.slice A k.opts.length c) (.slice B k.data.length d) := by rw [hW1]; exact Blk.new _ _ _ _
  have cN := nameOf_any _ k W1 (hp.ip.grow hg1)
  obtain ⟨x, hx⟩ : ∃ x, nmOf k = x := ⟨_, rfl⟩
  rw [hx] at cN
  have hlen := h.few
  have hrng := h.rng
  have hab := mem_absent hx0
  rw [hx] at hab
  -- behind the name
  have HF : Hid (∀ w2, Grow W1 w2 → ∀ W, Grow (w2.alloc (.cells #[.int .u32 (x.src : Int), .int .u32 (x.dst : Int), .int .u8 (x.proto : Int), .int .u16 (x.ident : Int)] 70)) W →
      Grow w W ∧ W.cell? ⟨tb, 0, none⟩ = some (.int .i64 most) ∧ W.cell? ⟨tb, 1, none⟩ = some (.int .i64 life) ∧ W.cell? ⟨tb, 2, none⟩ = some (.map (some mb)) ∧
      W.cell? ⟨w2.heap.size, 0, none⟩ = some (.int .u32 (x.src : Int)) ∧ W.cell? ⟨w2.heap.size, 1, none⟩ = some (.int .u32 (x.dst : Int)) ∧ W.cell? ⟨w2.heap.size, 2, none⟩ = some (.int .u8 (x.proto : Int)) ∧ W.cell? ⟨w2.heap.size, 3, none⟩ = some (.int .u16 (x.ident : Int)) ∧
      (Builtin.len_ #[64] 3 #[.map (some mb)]).run Try.prog W = .ok (.int .i64 (L.length : Nat)) W ∧
      (Instr.lookup 64 (.map (some mb)) (.agg #[.int .u32 (x.src : Int), .int .u32 (x.dst : Int), .int .u8 (x.proto : Int), .int .u16 (x.ident : Int)]) false).run Try.prog W = .ok (.pointer none) W ∧ Blk W w.heap.size k (.slice A k.opts.length c) (.slice B k.data.length d)) := by
    intro w2 g2 W gW
    have gA := Grow.alloc w2 (.cells #[.int .u32 (x.src : Int), .int .u32 (x.dst : Int), .int .u8 (x.proto : Int), .int .u16 (x.ident : Int)] 70)
    have g := hg1.trans (g2.trans (gA.trans gW))
    have hT := h.grow g
    have hbx : W.heap[w2.heap.size]? = some (.cells #[.int .u32 (x.src : Int), .int .u32 (x.dst : Int), .int .u8 (x.proto : Int), .int .u16 (x.ident : Int)] 70 (0, 0)) := (gW.block _ (by simp)).trans (heap_alloc_new w2 _)
    have hl := hT.map.len 3
    rw [List.length_map] at hl
    exact ⟨g, hT.c0, hT.c1, hT.c2, cell_of_row W _ 0 _ _ _ hbx, cell_of_row W _ 1 _ _ _ hbx, cell_of_row W _ 2 _ _ _ hbx, cell_of_row W _ 3 _ _ _ hbx, hl, hT.map.look_none hab, hB.grow (g2.trans (gA.trans gW))⟩
  have HP := Lib.hid (And.intro h (And.intro hp hx))
  have hxn : Hid (nmV x = .agg #[.int .u32 (x.src : Int), .int .u32 (x.dst : Int), .int .u8 (x.proto : Int), .int .u16 (x.ident : Int)]) := rfl
  obtain ⟨x0, x1, x2, x3⟩ := x
  unfold nmV at cN
  simp only at *
  clear hg1 hB h hp hx
  go_enter Try.func29, Try.ntmps29
  go_wp2_with fail
  rw [← hW1]
  clear hW1
  go_wp2_with fail
  refine cN.mono ?_
  rintro e w2 ⟨rfl, hg2⟩
  have HG := Lib.hid (HF.out w2 hg2)
  clear cN hg2 HF
  obtain ⟨W3, hW3⟩ : ∃ W3, W3 = w2.alloc (.cells #[.int .u32 (x0 : Int), .int .u32 (x1 : Int), .int .u8 (x2 : Int), .int .u16 (x3 : Int)] 70) := ⟨_, rfl⟩
  rw [← hW3] at HG
  go_wp2_with fail
  rw [← hW3]
  have HSZ : Hid (w2.heap.size < W3.heap.size) := by show w2.heap.size < W3.heap.size; rw [hW3]; simp
  clear hW3
  have p0 := fun q : Gw W3 => (HG.out q.v q.h).2.2.2.1
  have p1 := fun q : Gw W3 => (HG.out q.v q.h).2.2.2.2.1
  have p2 := fun q : Gw W3 => (HG.out q.v q.h).2.2.2.2.2.1
  have p3 := fun q : Gw W3 => (HG.out q.v q.h).2.2.2.2.2.2.1
  have p4 := fun q : Gw W3 => (HG.out q.v q.h).2.2.2.2.2.2.2.1
  have p5 := fun q : Gw W3 => (HG.out q.v q.h).2.2.2.2.2.2.2.2.2.1
  refine wp_region_gw (by kernel_rfl) (by kernel_rfl) ?_
  repeat (quiet_step (fail))
  refine wpQuiet_nil ?_
  intro w4 hw'
  obtain ⟨⟨wq, hg4⟩, hw2⟩ := hw'
  subst hw2
  clear p0 p1 p2 p3 p4 p5
  have HK := Lib.hid (fun W (g : Grow w4 W) => HG.out W (hg4.trans g))
  have HS4 := Lib.hid (Nat.lt_of_lt_of_le HSZ.out hg4.size)
  clear HG hg4 HSZ
  go_wp2_with fail
  have p0 := fun q : Gw w4 => (HK.out q.v q.h).2.1
  have p1 := fun q : Gw w4 => (HK.out q.v q.h).2.2.2.1
  have p2 := fun q : Gw w4 => (HK.out q.v q.h).2.2.2.2.2.2.2.2.1
  have hge : decide (most ≤ (L.length : Int)) = true := decide_eq_true hful
  refine wp_region_gw (by kernel_rfl) (by kernel_rfl) ?_
  repeat (quiet_step (fail))
  refine wpQuiet_nil ?_
  intro w5 hw'
  obtain ⟨⟨wq, hg5⟩, hw2⟩ := hw'
  subst hw2
  clear p0 p1 p2
  obtain ⟨g6, t0, t1, t2, n0, n1, n2, n3, _, _, bk⟩ := HK.out w5 hg5
  have HG5 := Lib.hid (fun W (g : Grow w5 W) => HK.out W (hg5.trans g))
  have HS5 := Lib.hid (Nat.lt_of_lt_of_le HS4.out hg5.size)
  have G6 := Lib.hid g6
  obtain ⟨e0, e1, e2, e3, e4, e5, e6, e7, e8, e9, e10⟩ := bk.boxd
  clear HK hg5 g6 bk HS4
  go_wp2_with fail
  go_ret2
  exact ⟨rfl, G6.out⟩

set_option maxRecDepth 10000 in
set_option maxHeartbeats 8000000 in
theorem find_new (w : World) (base tb mb : Nat) (ov : Value) (most life : Int) (L : List Wp) (h : Tab w base tb mb ov most life L) (now : Int) (hnow : 0 ≤ now ∧ now ≤ 1099511627776) (k : Pkt) (vo vd : Value) (hp : Piece base w k vo vd) (h0 : 0 ≤ k.off) (h1 : k.off ≤ 8191)
    (hx0 : nmOf k ∉ L.map Wp.nm) (hful : ¬ most ≤ L.length) :
    Calls Try.prog 29 #[.pointer (some ⟨tb, 0, none⟩), .int .i64 now, ipV k vo vd] w fun e w' => ∃ ov' pb, e = .returned (.tuple #[.pointer (some ⟨pb, 0, none⟩), .int .i64 0]) ∧ Tab w' base tb mb ov' most life (L ++ [fresh (nmOf k) pb (now + life)]) ∧ Only base Zt w w' ∧ w.heap.size ≤ pb := by
  obtain ⟨A, c, rfl, _⟩ := hp.o.1.form
  obtain ⟨B, d, rfl, _⟩ := hp.d.1.form
  obtain ⟨W1, hW1⟩ : ∃ W1, W1 = w.alloc (.cells #[.int .u8 (k.tos : Int), .int .u16 (k.ident : Int), .bool k.whole, .bool k.more, .int .i64 k.off, .int .u8 (k.ttl : Int), .int .u8 (k.proto : Int), .int .u32 (k.src : Int), .int .u32 (k.dst : Int), .slice A k.opts.length c, .slice B k.data.length d] 38) := ⟨_, rfl⟩
  have hg1 : Grow w W1 := by rw [hW1]; exact Grow.alloc w _
  have hB : Blk W1 w.heap.size k (.slice A k.opts.length c) (.slice B k.data.length d) := by rw [hW1]; exact Blk.new _ _ _ _
  have cN := nameOf_any _ k W1 (hp.ip.grow hg1)
  obtain ⟨x, hx⟩ : ∃ x, nmOf k = x := ⟨_, rfl⟩
  rw [hx] at cN
  have hlen := h.few
  have hrng := h.rng
  have hab := mem_absent hx0
  rw [hx] at hab
  -- behind the name
  have HF : Hid (∀ w2, Grow W1 w2 → ∀ W, Grow (w2.alloc (.cells #[.int .u32 (x.src : Int), .int .u32 (x.dst : Int), .int .u8 (x.proto : Int), .int .u16 (x.ident : Int)] 70)) W →
      Grow w W ∧ W.cell? ⟨tb, 0, none⟩ = some (.int .i64 most) ∧ W.cell? ⟨tb, 1, none⟩ = some (.int .i64 life) ∧ W.cell? ⟨tb, 2, none⟩ = some (.map (some mb)) ∧
      W.cell? ⟨w2.heap.size, 0, none⟩ = some (.int .u32 (x.src : Int)) ∧ W.cell? ⟨w2.heap.size, 1, none⟩ = some (.int .u32 (x.dst : Int)) ∧ W.cell? ⟨w2.heap.size, 2, none⟩ = some (.int .u8 (x.proto : Int)) ∧ W.cell? ⟨w2.heap.size, 3, none⟩ = some (.int .u16 (x.ident : Int)) ∧
      (Builtin.len_ #[64] 3 #[.map (some mb)]).run Try.prog W = .ok (.int .i64 (L.length : Nat)) W ∧
      (Instr.lookup 64 (.map (some mb)) (.agg #[.int .u32 (x.src : Int), .int .u32 (x.dst : Int), .int .u8 (x.proto : Int), .int .u16 (x.ident : Int)]) false).run Try.prog W = .ok (.pointer none) W ∧ Blk W w.heap.size k (.slice A k.opts.length c) (.slice B k.data.length d)) := by
    intro w2 g2 W gW
    have gA := Grow.alloc w2 (.cells #[.int .u32 (x.src : Int), .int .u32 (x.dst : Int), .int .u8 (x.proto : Int), .int .u16 (x.ident : Int)] 70)
    have g := hg1.trans (g2.trans (gA.trans gW))
    have hT := h.grow g
    have hbx : W.heap[w2.heap.size]? = some (.cells #[.int .u32 (x.src : Int), .int .u32 (x.dst : Int), .int .u8 (x.proto : Int), .int .u16 (x.ident : Int)] 70 (0, 0)) := (gW.block _ (by simp)).trans (heap_alloc_new w2 _)
    have hl := hT.map.len 3
    rw [List.length_map] at hl
    exact ⟨g, hT.c0, hT.c1, hT.c2, cell_of_row W _ 0 _ _ _ hbx, cell_of_row W _ 1 _ _ _ hbx, cell_of_row W _ 2 _ _ _ hbx, cell_of_row W _ 3 _ _ _ hbx, hl, hT.map.look_none hab, hB.grow (g2.trans (gA.trans gW))⟩
  have HP := Lib.hid (And.intro h (And.intro hp hx))
  have hxn : Hid (nmV x = .agg #[.int .u32 (x.src : Int), .int .u32 (x.dst : Int), .int .u8 (x.proto : Int), .int .u16 (x.ident : Int)]) := rfl
  obtain ⟨x0, x1, x2, x3⟩ := x
  unfold nmV at cN
  simp only at *
  clear hg1 hB h hp hx
  go_enter Try.func29, Try.ntmps29
  go_wp2_with fail
  rw [← hW1]
  clear hW1
  go_wp2_with fail
  refine cN.mono ?_
  rintro e w2 ⟨rfl, hg2⟩
  have HG := Lib.hid (HF.out w2 hg2)
  clear cN hg2 HF
  obtain ⟨W3, hW3⟩ : ∃ W3, W3 = w2.alloc (.cells #[.int .u32 (x0 : Int), .int .u32 (x1 : Int), .int .u8 (x2 : Int), .int .u16 (x3 : Int)] 70) := ⟨_, rfl⟩
  rw [← hW3] at HG
  go_wp2_with fail
  rw [← hW3]
  have HSZ : Hid (w2.heap.size < W3.heap.size) := by show w2.heap.size < W3.heap.size; rw [hW3]; simp
  clear hW3
  have p0 := fun q : Gw W3 => (HG.out q.v q.h).2.2.2.1
  have p1 := fun q : Gw W3 => (HG.out q.v q.h).2.2.2.2.1
  have p2 := fun q : Gw W3 => (HG.out q.v q.h).2.2.2.2.2.1
  have p3 := fun q : Gw W3 => (HG.out q.v q.h).2.2.2.2.2.2.1
  have p4 := fun q : Gw W3 => (HG.out q.v q.h).2.2.2.2.2.2.2.1
  have p5 := fun q : Gw W3 => (HG.out q.v q.h).2.2.2.2.2.2.2.2.2.1
  refine wp_region_gw (by kernel_rfl) (by kernel_rfl) ?_
  repeat (quiet_step (fail))
  refine wpQuiet_nil ?_
  intro w4 hw'
  obtain ⟨⟨wq, hg4⟩, hw2⟩ := hw'
  subst hw2
  clear p0 p1 p2 p3 p4 p5
  have HK := Lib.hid (fun W (g : Grow w4 W) => HG.out W (hg4.trans g))
  have HS4 := Lib.hid (Nat.lt_of_lt_of_le HSZ.out hg4.size)
  clear HG hg4 HSZ
  go_wp2_with fail
  have p0 := fun q : Gw w4 => (HK.out q.v q.h).2.1
  have p1 := fun q : Gw w4 => (HK.out q.v q.h).2.2.2.1
  have p2 := fun q : Gw w4 => (HK.out q.v q.h).2.2.2.2.2.2.2.2.1
  have hge : decide (most ≤ (L.length : Int)) = false := decide_eq_false (by omega)
  refine wp_region_gw (by kernel_rfl) (by kernel_rfl) ?_
  repeat (quiet_step (fail))
  refine wpQuiet_nil ?_
  intro w5 hw'
  obtain ⟨⟨wq, hg5⟩, hw2⟩ := hw'
  subst hw2
  clear p0 p1 p2
  obtain ⟨g6, t0, t1, t2, n0, n1, n2, n3, _, _, bk⟩ := HK.out w5 hg5
  have HG5 := Lib.hid (fun W (g : Grow w5 W) => HK.out W (hg5.trans g))
  have HS5 := Lib.hid (Nat.lt_of_lt_of_le HS4.out hg5.size)
  have G6 := Lib.hid g6
  obtain ⟨e0, e1, e2, e3, e4, e5, e6, e7, e8, e9, e10⟩ := bk.boxd
  clear HK hg5 g6 bk HS4
  have hx1 := hx0
  rw [HP.out.2.2] at hx1
  have cBg : Hid (∀ W, Grow w5 W → Calls Try.prog 45 #[.pointer (some ⟨tb, 0, none⟩), .agg #[.int .u32 (x0 : Int), .int .u32 (x1 : Int), .int .u8 (x2 : Int), .int .u16 (x3 : Int)], .int .i64 (now + life)] W fun e w' => ∃ ov' pb, e = .returned (.pointer (some ⟨pb, 0, none⟩)) ∧ Hid (Tab w' base tb mb ov' most life (L ++ [fresh ⟨x0, x1, x2, x3⟩ pb (now + life)]) ∧ Only base Zt w w' ∧ w.heap.size ≤ pb)) := fun W g => by
    have gW := (HG5.out W g).1
    refine (begin_any W base tb mb ov most life L (HP.out.1.grow gW) ⟨x0, x1, x2, x3⟩ hx1 (by omega) (now + life) (by omega)).mono ?_
    rintro e w' ⟨ov', pb, rfl, hT, hO, hP⟩
    exact ⟨ov', pb, rfl, hT, (Only.grow gW HP.out.1.sz Zt).trans hO, Nat.le_trans gW.size hP⟩
  have cB1 := cBg.out w5.drew (Grow.drew _)
  have HXX := Lib.hid HP.out.2.2
  have qw : IntKind.i64.wrap (now + life) = now + life := by rw [IntKind.wrap_i64]; omega
  go_wp2_with fail
  go_region_with (go_at_call 45; refine cB1.mono ?_; rintro e w7 ⟨ov', pb, rfl, HZ⟩)
  all_goals
    go_wp2_with fail
    go_ret2
    exact ⟨ov', pb, rfl, by rw [HXX.out]; exact HZ.out.1, HZ.out.2.1, HZ.out.2.2⟩

set_option maxRecDepth 10000 in
set_option maxHeartbeats 8000000 in
theorem find_stale (w : World) (base tb mb : Nat) (ov : Value) (most life : Int) (L : List Wp) (h : Tab w base tb mb ov most life L) (now : Int) (hnow : 0 ≤ now ∧ now ≤ 1099511627776) (k : Pkt) (vo vd : Value) (hp : Piece base w k vo vd) (h0 : 0 ≤ k.off) (h1 : k.off ≤ 8191)
    (i : Nat) (p : Wp) (hi : L[i]? = some p) (hpn : p.nm = nmOf k) (hne : p.rows ≠ []) (hst : staleB p.fin (reach 0 p.ns) k = true) :
    Calls Try.prog 29 #[.pointer (some ⟨tb, 0, none⟩), .int .i64 now, ipV k vo vd] w fun e w' => e = .returned (.tuple #[.pointer none, .int .i64 120]) ∧ Grow w w' := by
  obtain ⟨A, c, rfl, _⟩ := hp.o.1.form
  obtain ⟨B, d, rfl, _⟩ := hp.d.1.form
  obtain ⟨W1, hW1⟩ : ∃ W1, W1 = w.alloc (.cells #[.int .u8 (k.tos : Int), .int .u16 (k.ident : Int), .bool k.whole, .bool k.more, .int .i64 k.off, .int .u8 (k.ttl : Int), .int .u8 (k.proto : Int), .int .u32 (k.src : Int), .int .u32 (k.dst : Int), .slice A k.opts.length c, .slice B k.data.length d] 38) := ⟨_, rfl⟩
  have hg1 : Grow w W1 := by rw [hW1]; exact Grow.alloc w _
  have hB : Blk W1 w.heap.size k (.slice A k.opts.length c) (.slice B k.data.length d) := by rw [hW1]; exact Blk.new _ _ _ _
  have cN := nameOf_any _ k W1 (hp.ip.grow hg1)
  obtain ⟨x, hx⟩ : ∃ x, nmOf k = x := ⟨_, rfl⟩
  rw [hx] at cN
  have hlen := h.few
  have hrng := h.rng
  have hat := h.at_ hi
  rw [hpn, hx] at hat
  have hnd : ((L.map pairOf).map Prod.fst).Nodup := by rw [names_pairs]; exact h.nms
  have hpm : p ∈ L := List.mem_of_getElem? hi
  -- behind the name
  have HF : Hid (∀ w2, Grow W1 w2 → ∀ W, Grow (w2.alloc (.cells #[.int .u32 (x.src : Int), .int .u32 (x.dst : Int), .int .u8 (x.proto : Int), .int .u16 (x.ident : Int)] 70)) W →
      Grow w W ∧ W.cell? ⟨tb, 0, none⟩ = some (.int .i64 most) ∧ W.cell? ⟨tb, 1, none⟩ = some (.int .i64 life) ∧ W.cell? ⟨tb, 2, none⟩ = some (.map (some mb)) ∧
      W.cell? ⟨w2.heap.size, 0, none⟩ = some (.int .u32 (x.src : Int)) ∧ W.cell? ⟨w2.heap.size, 1, none⟩ = some (.int .u32 (x.dst : Int)) ∧ W.cell? ⟨w2.heap.size, 2, none⟩ = some (.int .u8 (x.proto : Int)) ∧ W.cell? ⟨w2.heap.size, 3, none⟩ = some (.int .u16 (x.ident : Int)) ∧
      (Builtin.len_ #[64] 3 #[.map (some mb)]).run Try.prog W = .ok (.int .i64 (L.length : Nat)) W ∧
      (Instr.lookup 64 (.map (some mb)) (.agg #[.int .u32 (x.src : Int), .int .u32 (x.dst : Int), .int .u8 (x.proto : Int), .int .u16 (x.ident : Int)]) false).run Try.prog W = .ok (.pointer (some ⟨p.blk, 0, none⟩)) W ∧ Blk W w.heap.size k (.slice A k.opts.length c) (.slice B k.data.length d)) := by
    intro w2 g2 W gW
    have gA := Grow.alloc w2 (.cells #[.int .u32 (x.src : Int), .int .u32 (x.dst : Int), .int .u8 (x.proto : Int), .int .u16 (x.ident : Int)] 70)
    have g := hg1.trans (g2.trans (gA.trans gW))
    have hT := h.grow g
    have hbx : W.heap[w2.heap.size]? = some (.cells #[.int .u32 (x.src : Int), .int .u32 (x.dst : Int), .int .u8 (x.proto : Int), .int .u16 (x.ident : Int)] 70 (0, 0)) := (gW.block _ (by simp)).trans (heap_alloc_new w2 _)
    have hl := hT.map.len 3
    rw [List.length_map] at hl
    exact ⟨g, hT.c0, hT.c1, hT.c2, cell_of_row W _ 0 _ _ _ hbx, cell_of_row W _ 1 _ _ _ hbx, cell_of_row W _ 2 _ _ _ hbx, cell_of_row W _ 3 _ _ _ hbx, hl, hT.map.look_some hnd hat, hB.grow (g2.trans (gA.trans gW))⟩
  have HP := Lib.hid (And.intro h (And.intro hp hx))
  have hxn : Hid (nmV x = .agg #[.int .u32 (x.src : Int), .int .u32 (x.dst : Int), .int .u8 (x.proto : Int), .int .u16 (x.ident : Int)]) := rfl
  obtain ⟨x0, x1, x2, x3⟩ := x
  unfold nmV at cN
  simp only at *
  clear hg1 hB h hp hx
  go_enter Try.func29, Try.ntmps29
  go_wp2_with fail
  rw [← hW1]
  clear hW1
  go_wp2_with fail
  refine cN.mono ?_
  rintro e w2 ⟨rfl, hg2⟩
  have HG := Lib.hid (HF.out w2 hg2)
  clear cN hg2 HF
  obtain ⟨W3, hW3⟩ : ∃ W3, W3 = w2.alloc (.cells #[.int .u32 (x0 : Int), .int .u32 (x1 : Int), .int .u8 (x2 : Int), .int .u16 (x3 : Int)] 70) := ⟨_, rfl⟩
  rw [← hW3] at HG
  go_wp2_with fail
  rw [← hW3]
  have HSZ : Hid (w2.heap.size < W3.heap.size) := by show w2.heap.size < W3.heap.size; rw [hW3]; simp
  clear hW3
  have p0 := fun q : Gw W3 => (HG.out q.v q.h).2.2.2.1
  have p1 := fun q : Gw W3 => (HG.out q.v q.h).2.2.2.2.1
  have p2 := fun q : Gw W3 => (HG.out q.v q.h).2.2.2.2.2.1
  have p3 := fun q : Gw W3 => (HG.out q.v q.h).2.2.2.2.2.2.1
  have p4 := fun q : Gw W3 => (HG.out q.v q.h).2.2.2.2.2.2.2.1
  have p5 := fun q : Gw W3 => (HG.out q.v q.h).2.2.2.2.2.2.2.2.2.1
  refine wp_region_gw (by kernel_rfl) (by kernel_rfl) ?_
  repeat (quiet_step (fail))
  refine wpQuiet_nil ?_
  intro w4 hw'
  obtain ⟨⟨wq, hg4⟩, hw2⟩ := hw'
  subst hw2
  clear p0 p1 p2 p3 p4 p5
  have HK := Lib.hid (fun W (g : Grow w4 W) => HG.out W (hg4.trans g))
  have HS4 := Lib.hid (Nat.lt_of_lt_of_le HSZ.out hg4.size)
  clear HG hg4 HSZ
  go_wp2_with fail
  have p0 := fun q : Gw w4 => (HK.out q.v q.h).2.1
  have p1 := fun q : Gw w4 => (HK.out q.v q.h).2.2.2.1
  have p2 := fun q : Gw w4 => (HK.out q.v q.h).2.2.2.2.2.2.2.2.1

  refine wp_region_gw (by kernel_rfl) (by kernel_rfl) ?_
  repeat (quiet_step (fail))
  refine wpQuiet_nil ?_
  intro w5 hw'
  obtain ⟨⟨wq, hg5⟩, hw2⟩ := hw'
  subst hw2
  clear p0 p1 p2
  obtain ⟨g6, t0, t1, t2, n0, n1, n2, n3, _, _, bk⟩ := HK.out w5 hg5
  have HG5 := Lib.hid (fun W (g : Grow w5 W) => HK.out W (hg5.trans g))
  have HS5 := Lib.hid (Nat.lt_of_lt_of_le HS4.out hg5.size)
  have G6 := Lib.hid g6
  obtain ⟨e0, e1, e2, e3, e4, e5, e6, e7, e8, e9, e10⟩ := bk.boxd
  clear HK hg5 g6 bk HS4
  have cSt : Hid (∀ W, Grow w5 W → Calls Try.prog 46 #[.pointer (some ⟨p.blk, 0, none⟩), ipV k (.slice A k.opts.length c) (.slice B k.data.length d)] W fun e w' => e = .returned (.bool true) ∧ Grow w w') := fun W g => by
    have gW := (HG5.out W g).1
    have := stale_any W base p ((HP.out.1.pk p hpm).grow gW HP.out.1.sz) (Nat.le_trans HP.out.1.sz gW.size) hne k _ _ (HP.out.2.1.grow gW HP.out.1.sz) h0 h1
    rw [hst] at this
    exact this.mono fun e w' h => ⟨h.1, gW.trans h.2⟩
  have cS1 := cSt.out w5 (Grow.refl _)
  unfold ipV at cS1
  go_wp2_with (go_at_call 46; refine cS1.mono ?_; rintro e w7 ⟨rfl, hg7⟩; have G7 := Lib.hid hg7; clear hg7)
  go_ret2
  exact ⟨rfl, G7.out⟩

set_option maxRecDepth 10000 in
set_option maxHeartbeats 8000000 in
theorem find_old (w : World) (base tb mb : Nat) (ov : Value) (most life : Int) (L : List Wp) (h : Tab w base tb mb ov most life L) (now : Int) (hnow : 0 ≤ now ∧ now ≤ 1099511627776) (k : Pkt) (vo vd : Value) (hp : Piece base w k vo vd) (h0 : 0 ≤ k.off) (h1 : k.off ≤ 8191)
    (i : Nat) (p : Wp) (hi : L[i]? = some p) (hpn : p.nm = nmOf k) (hne : p.rows ≠ []) (hst : staleB p.fin (reach 0 p.ns) k = false) :
    Calls Try.prog 29 #[.pointer (some ⟨tb, 0, none⟩), .int .i64 now, ipV k vo vd] w fun e w' => e = .returned (.tuple #[.pointer (some ⟨p.blk, 0, none⟩), .int .i64 0]) ∧ Grow w w' := by
  obtain ⟨A, c, rfl, _⟩ := hp.o.1.form
  obtain ⟨B, d, rfl, _⟩ := hp.d.1.form
  obtain ⟨W1, hW1⟩ : ∃ W1, W1 = w.alloc (.cells #[.int .u8 (k.tos : Int), .int .u16 (k.ident : Int), .bool k.whole, .bool k.more, .int .i64 k.off, .int .u8 (k.ttl : Int), .int .u8 (k.proto : Int), .int .u32 (k.src : Int), .int .u32 (k.dst : Int), .slice A k.opts.length c, .slice B k.data.length d] 38) := ⟨_, rfl⟩
  have hg1 : Grow w W1 := by rw [hW1]; exact Grow.alloc w _
  have hB : Blk W1 w.heap.size k (.slice A k.opts.length c) (.slice B k.data.length d) := by rw [hW1]; exact Blk.new _ _ _ _
  have cN := nameOf_any _ k W1 (hp.ip.grow hg1)
  obtain ⟨x, hx⟩ : ∃ x, nmOf k = x := ⟨_, rfl⟩
  rw [hx] at cN
  have hlen := h.few
  have hrng := h.rng
  have hat := h.at_ hi
  rw [hpn, hx] at hat
  have hnd : ((L.map pairOf).map Prod.fst).Nodup := by rw [names_pairs]; exact h.nms
  have hpm : p ∈ L := List.mem_of_getElem? hi
  -- behind the name
  have HF : Hid (∀ w2, Grow W1 w2 → ∀ W, Grow (w2.alloc (.cells #[.int .u32 (x.src : Int), .int .u32 (x.dst : Int), .int .u8 (x.proto : Int), .int .u16 (x.ident : Int)] 70)) W →
      Grow w W ∧ W.cell? ⟨tb, 0, none⟩ = some (.int .i64 most) ∧ W.cell? ⟨tb, 1, none⟩ = some (.int .i64 life) ∧ W.cell? ⟨tb, 2, none⟩ = some (.map (some mb)) ∧
      W.cell? ⟨w2.heap.size, 0, none⟩ = some (.int .u32 (x.src : Int)) ∧ W.cell? ⟨w2.heap.size, 1, none⟩ = some (.int .u32 (x.dst : Int)) ∧ W.cell? ⟨w2.heap.size, 2, none⟩ = some (.int .u8 (x.proto : Int)) ∧ W.cell? ⟨w2.heap.size, 3, none⟩ = some (.int .u16 (x.ident : Int)) ∧
      (Builtin.len_ #[64] 3 #[.map (some mb)]).run Try.prog W = .ok (.int .i64 (L.length : Nat)) W ∧
      (Instr.lookup 64 (.map (some mb)) (.agg #[.int .u32 (x.src : Int), .int .u32 (x.dst : Int), .int .u8 (x.proto : Int), .int .u16 (x.ident : Int)]) false).run Try.prog W = .ok (.pointer (some ⟨p.blk, 0, none⟩)) W ∧ Blk W w.heap.size k (.slice A k.opts.length c) (.slice B k.data.length d)) := by
    intro w2 g2 W gW
    have gA := Grow.alloc w2 (.cells #[.int .u32 (x.src : Int), .int .u32 (x.dst : Int), .int .u8 (x.proto : Int), .int .u16 (x.ident : Int)] 70)
    have g := hg1.trans (g2.trans (gA.trans gW))
    have hT := h.grow g
    have hbx : W.heap[w2.heap.size]? = some (.cells #[.int .u32 (x.src : Int), .int .u32 (x.dst : Int), .int .u8 (x.proto : Int), .int .u16 (x.ident : Int)] 70 (0, 0)) := (gW.block _ (by simp)).trans (heap_alloc_new w2 _)
    have hl := hT.map.len 3
    rw [List.length_map] at hl
    exact ⟨g, hT.c0, hT.c1, hT.c2, cell_of_row W _ 0 _ _ _ hbx, cell_of_row W _ 1 _ _ _ hbx, cell_of_row W _ 2 _ _ _ hbx, cell_of_row W _ 3 _ _ _ hbx, hl, hT.map.look_some hnd hat, hB.grow (g2.trans (gA.trans gW))⟩
  have HP := Lib.hid (And.intro h (And.intro hp hx))
  have hxn : Hid (nmV x = .agg #[.int .u32 (x.src : Int), .int .u32 (x.dst : Int), .int .u8 (x.proto : Int), .int .u16 (x.ident : Int)]) := rfl
  obtain ⟨x0, x1, x2, x3⟩ := x
  unfold nmV at cN
  simp only at *
  clear hg1 hB h hp hx
  go_enter Try.func29, Try.ntmps29
  go_wp2_with fail
  rw [← hW1]
  clear hW1
  go_wp2_with fail
  refine cN.mono ?_
  rintro e w2 ⟨rfl, hg2⟩
  have HG := Lib.hid (HF.out w2 hg2)
  clear cN hg2 HF
  obtain ⟨W3, hW3⟩ : ∃ W3, W3 = w2.alloc (.cells #[.int .u32 (x0 : Int), .int .u32 (x1 : Int), .int .u8 (x2 : Int), .int .u16 (x3 : Int)] 70) := ⟨_, rfl⟩
  rw [← hW3] at HG
  go_wp2_with fail
  rw [← hW3]
  have HSZ : Hid (w2.heap.size < W3.heap.size) := by show w2.heap.size < W3.heap.size; rw [hW3]; simp
  clear hW3
  have p0 := fun q : Gw W3 => (HG.out q.v q.h).2.2.2.1
  have p1 := fun q : Gw W3 => (HG.out q.v q.h).2.2.2.2.1
  have p2 := fun q : Gw W3 => (HG.out q.v q.h).2.2.2.2.2.1
  have p3 := fun q : Gw W3 => (HG.out q.v q.h).2.2.2.2.2.2.1
  have p4 := fun q : Gw W3 => (HG.out q.v q.h).2.2.2.2.2.2.2.1
  have p5 := fun q : Gw W3 => (HG.out q.v q.h).2.2.2.2.2.2.2.2.2.1
  refine wp_region_gw (by kernel_rfl) (by kernel_rfl) ?_
  repeat (quiet_step (fail))
  refine wpQuiet_nil ?_
  intro w4 hw'
  obtain ⟨⟨wq, hg4⟩, hw2⟩ := hw'
  subst hw2
  clear p0 p1 p2 p3 p4 p5
  have HK := Lib.hid (fun W (g : Grow w4 W) => HG.out W (hg4.trans g))
  have HS4 := Lib.hid (Nat.lt_of_lt_of_le HSZ.out hg4.size)
  clear HG hg4 HSZ
  go_wp2_with fail
  have p0 := fun q : Gw w4 => (HK.out q.v q.h).2.1
  have p1 := fun q : Gw w4 => (HK.out q.v q.h).2.2.2.1
  have p2 := fun q : Gw w4 => (HK.out q.v q.h).2.2.2.2.2.2.2.2.1

  refine wp_region_gw (by kernel_rfl) (by kernel_rfl) ?_
  repeat (quiet_step (fail))
  refine wpQuiet_nil ?_
  intro w5 hw'
  obtain ⟨⟨wq, hg5⟩, hw2⟩ := hw'
  subst hw2
  clear p0 p1 p2
  obtain ⟨g6, t0, t1, t2, n0, n1, n2, n3, _, _, bk⟩ := HK.out w5 hg5
  have HG5 := Lib.hid (fun W (g : Grow w5 W) => HK.out W (hg5.trans g))
  have HS5 := Lib.hid (Nat.lt_of_lt_of_le HS4.out hg5.size)
  have G6 := Lib.hid g6
  obtain ⟨e0, e1, e2, e3, e4, e5, e6, e7, e8, e9, e10⟩ := bk.boxd
  clear HK hg5 g6 bk HS4
  have cSt : Hid (∀ W, Grow w5 W → Calls Try.prog 46 #[.pointer (some ⟨p.blk, 0, none⟩), ipV k (.slice A k.opts.length c) (.slice B k.data.length d)] W fun e w' => e = .returned (.bool false) ∧ Grow w w') := fun W g => by
    have gW := (HG5.out W g).1
    have := stale_any W base p ((HP.out.1.pk p hpm).grow gW HP.out.1.sz) (Nat.le_trans HP.out.1.sz gW.size) hne k _ _ (HP.out.2.1.grow gW HP.out.1.sz) h0 h1
    rw [hst] at this
    exact this.mono fun e w' h => ⟨h.1, gW.trans h.2⟩
  have cS1 := cSt.out w5 (Grow.refl _)
  unfold ipV at cS1
  go_wp2_with (go_at_call 46; refine cS1.mono ?_; rintro e w7 ⟨rfl, hg7⟩; have G7 := Lib.hid hg7; clear hg7)
  go_ret2
  exact ⟨rfl, G7.out⟩

end Go.Proofs.Ytmnemkeieaflhaa
/- The table's answers, on lists. -/
namespace Go.Proofs.Ytmnemkeieaflhaa
set_option linter.unusedVariables false
set_option linter.unusedSimpArgs false

/-- A packet that waits, as the document has it. -/
structure Wt where
  nm : Nm
  till : Int
  first : Option Pkt
  fin : Nat
  c : Cont
def absW (p : Wp) : Wt := ⟨p.nm, p.till, p.fk, p.fin, cont 0 p.ns⟩
def tookW (t : Wt) (k : Pkt) : Wt := { t with first := if k.off = 0 ∧ t.first = none then some k else t.first, fin := if k.more = true then t.fin else (endOf k).toNat, c := paint t.c (8 * k.off).toNat k.data }
def fullW (t : Wt) : Bool := decide (t.fin ≠ 0 ∧ cnt t.c = t.fin)
def bytesC (c : Cont) : List UInt8 := c.filterMap id
def freshW (x : Nm) (till : Int) : Wt := ⟨x, till, none, 0, []⟩
structure WOk (t : Wt) : Prop where
  last : ∀ n, t.c.length = n + 1 → ∃ b, look t.c n = some b
  fst : t.first = none → look t.c 0 = none
  fin : t.fin ≠ 0 → t.c.length = t.fin
  top : t.c.length ≤ 65515
  pk : ∀ k, t.first = some k → k.Ok ∧ k.Small
theorem freshW_ok (x : Nm) (till : Int) : WOk (freshW x till) := ⟨fun n h => by simp [freshW] at h, fun _ => look_past (by simp [freshW]), fun h => by simp [freshW] at h, by simp [freshW], fun k h => by simp [freshW] at h⟩
theorem chk_zero {k : Pkt} (h : chk k = 0) : k.data ≠ [] ∧ (k.more = true → k.data.length % 8 = 0) ∧ endOf k ≤ 65515 := by
  unfold chk at h
  split at h
  · cases h
  · rename_i h1
    split at h
    · cases h
    · refine ⟨fun e => h1 (.inl (by rw [e]; rfl)), fun hm => ?_, by omega⟩
      by_cases h8 : k.data.length % 8 = 0
      · exact h8
      · exact absurd (.inr ⟨hm, h8⟩) h1
theorem tookW_ok {t : Wt} {k : Pkt} (h : WOk t) (hs : staleB t.fin t.c.length k = false) (h0 : 0 ≤ k.off) (hc : chk k = 0) (hk : k.Ok) (hsm : k.Small) : WOk (tookW t k) ∧ (tookW t k).c ≠ [] := by
  obtain ⟨c1, c2, c3⟩ := chk_zero hc
  have hd : 0 < k.data.length := List.length_pos_iff.2 c1
  obtain ⟨p, hp⟩ : ∃ p, (8 * k.off).toNat = p := ⟨_, rfl⟩
  have hE : endOf k = ((p + k.data.length : Nat) : Int) := by unfold endOf; omega
  have hlen : (tookW t k).c.length = max t.c.length (p + k.data.length) := by
    show (paint t.c (8 * k.off).toNat k.data).length = _
    rw [paint_length _ _ c1, hp]
  have hlook : ∀ i, look (tookW t k).c i = (look t.c i).or (if p ≤ i then k.data[i - p]? else none) := fun i => by
    show look (paint t.c (8 * k.off).toNat k.data) i = _
    rw [paint_look, hp]
  refine ⟨⟨fun n hn => ?_, fun hf => ?_, fun hf => ?_, ?_, fun q hq => ?_⟩, fun e => ?_⟩
  · rw [hlen] at hn
    rw [hlook]
    rcases Nat.lt_or_ge n t.c.length with h1 | h1
    · obtain ⟨b, hb⟩ := h.last n (by omega)
      exact ⟨b, by rw [hb]; rfl⟩
    · rw [look_past h1, if_pos (by omega), Option.none_or, List.getElem?_eq_getElem (by omega)]
      exact ⟨_, rfl⟩
  · have h2 : ¬ (k.off = 0 ∧ t.first = none) ∧ t.first = none := by
      have hf : (if k.off = 0 ∧ t.first = none then some k else t.first) = none := hf
      split at hf
      · cases hf
      · rename_i h3; exact ⟨h3, hf⟩
    rw [hlook, h.fst h2.2, if_neg (fun e => h2.1 ⟨by omega, h2.2⟩)]
    rfl
  · have hfin : (tookW t k).fin = if k.more = true then t.fin else (endOf k).toNat := rfl
    rw [hlen, hfin]
    rw [hfin] at hf
    unfold staleB at hs
    split
    · rename_i hm
      rw [if_pos hm] at hf
      rw [if_pos hf] at hs
      simp only [Bool.or_eq_false_iff, decide_eq_false_iff_not] at hs
      have := h.fin hf
      omega
    · rename_i hm
      have hm : k.more = false := by simpa using hm
      rw [hm] at hs
      split at hs
      · rename_i h4
        simp only [Bool.or_eq_false_iff, decide_eq_false_iff_not, Bool.not_false, Bool.true_and] at hs
        have := h.fin h4
        omega
      · simp only [decide_eq_false_iff_not, Bool.not_false, Bool.true_and] at hs
        omega
  · rw [hlen]
    have := h.top
    omega
  · have hq : (if k.off = 0 ∧ t.first = none then some k else t.first) = some q := hq
    split at hq
    · cases hq; exact ⟨hk, hsm⟩
    · exact h.pk q hq
  · have := congrArg List.length e
    rw [hlen] at this
    simp only [List.length_nil] at this
    omega
theorem fullW_first {t : Wt} (h : WOk t) (hf : fullW t = true) : ∃ k, t.first = some k := by
  unfold fullW at hf
  obtain ⟨h1, h2⟩ := of_decide_eq_true hf
  cases hk : t.first with
  | some k => exact ⟨k, rfl⟩
  | none =>
    have hl := h.fin h1
    obtain ⟨b, hb⟩ := cnt_all (c := t.c) (by omega) 0 (by omega)
    rw [h.fst hk] at hb
    cases hb
theorem bytesC_some (l : List UInt8) : bytesC (l.map some) = l := by
  unfold bytesC
  rw [List.filterMap_map]
  simp
theorem full_flat {ns : List RowN} (hl : Laid 0 ns) {t : Wt} (ht : t.c = cont 0 ns) (h : WOk t) (hf : fullW t = true) : flat ns = bytesC t.c := by
  unfold fullW at hf
  obtain ⟨h1, h2⟩ := of_decide_eq_true hf
  have hlen := h.fin h1
  have := flat_cont ns 0 hl (fun k hk => by
    rw [← ht] at hk ⊢
    exact cnt_all (c := t.c) (by omega) k hk)
  rw [ht, this, bytesC_some]

structure AddR where
  L : List Wt
  k : Pkt
  ok : Bool
  e : Int
def finS (A : List Wt) (i : Nat) (t : Wt) : AddR :=
  if fullW t then (if 65535 < (wholeK (t.first.getD zeroPk) (bytesC t.c)).len then ⟨A.eraseIdx i, zeroPk, false, 9⟩ else ⟨A.eraseIdx i, wholeK (t.first.getD zeroPk) (bytesC t.c), true, 0⟩)
  else ⟨A.set i t, zeroPk, false, 0⟩
def idxOf (A : List Wt) (x : Nm) : Option Nat := A.findIdx? fun t => t.nm == x
def addS (most life now : Int) (k : Pkt) (A : List Wt) : AddR :=
  if now < 0 ∨ 1099511627776 < now ∨ k.off < 0 ∨ 8191 < k.off then ⟨A, zeroPk, false, 8⟩
  else if k.off = 0 ∧ k.more = false then ⟨A, k, true, 0⟩
  else if chk k ≠ 0 then ⟨A, zeroPk, false, chk k⟩
  else match idxOf A (nmOf k) with
    | none => if most ≤ (A.length : Int) then ⟨A, zeroPk, false, 5⟩ else finS (A ++ [freshW (nmOf k) (now + life)]) A.length (tookW (freshW (nmOf k) (now + life)) k)
    | some i => match A[i]? with
      | none => ⟨A, zeroPk, false, 0⟩
      | some t => if staleB t.fin t.c.length k then ⟨A, zeroPk, false, 120⟩ else finS A i (tookW t k)
/-- All that waits is as it should be. -/
def AOk (A : List Wt) : Prop := ∀ t ∈ A, WOk t ∧ t.c ≠ []
theorem idxOf_some {A : List Wt} {x : Nm} {i : Nat} (h : idxOf A x = some i) : ∃ t, A[i]? = some t ∧ t.nm = x := by
  unfold idxOf at h
  rw [List.findIdx?_eq_some_iff_getElem] at h
  obtain ⟨hi, h1, _⟩ := h
  exact ⟨A[i], List.getElem?_eq_getElem hi, by simpa using h1⟩
theorem idxOf_none {A : List Wt} {x : Nm} (h : idxOf A x = none) : x ∉ A.map Wt.nm := by
  unfold idxOf at h
  rw [List.findIdx?_eq_none_iff] at h
  intro hx
  obtain ⟨t, ht, rfl⟩ := List.mem_map.1 hx
  have := h t ht
  simp at this
theorem finS_ok {A : List Wt} {i : Nat} {t : Wt} (h : ∀ u ∈ A.eraseIdx i, WOk u ∧ u.c ≠ []) (hs : ∀ u ∈ A.set i t, u = t ∨ u ∈ A.eraseIdx i) (ht : WOk t ∧ t.c ≠ []) : AOk (finS A i t).L := by
  unfold finS
  split
  · split <;> exact h
  · intro u hu
    rcases hs u hu with rfl | h1
    · exact ht
    · exact h u h1
theorem mem_set_erase {A : List Wt} {i : Nat} {t u : Wt} (h : u ∈ A.set i t) : u = t ∨ u ∈ A.eraseIdx i := by
  obtain ⟨j, hj, rfl⟩ := List.getElem_of_mem h
  by_cases e : i = j
  · subst e
    exact .inl (List.getElem_set_self _)
  · rw [List.getElem_set_ne e]
    rw [List.length_set] at hj
    exact .inr (List.mem_eraseIdx_iff_getElem?.2 ⟨j, fun e2 => e e2.symm, List.getElem?_eq_getElem hj⟩)
theorem addS_ok {A : List Wt} (h : AOk A) {most life now : Int} {k : Pkt} (hk : k.Ok) (hsm : k.Small) : AOk (addS most life now k A).L := by
  unfold addS
  split
  · exact h
  · rename_i h1
    split
    · exact h
    · split
      · exact h
      · rename_i h3
        have hc : chk k = 0 := by simpa using h3
        have h0 : 0 ≤ k.off := by omega
        split
        · split
          · exact h
          · have ht := tookW_ok (freshW_ok (nmOf k) (now + life)) (by
              unfold staleB freshW
              simp only [ne_eq, not_true_eq_false, if_false, List.length_nil]
              have : 0 ≤ endOf k := by unfold endOf; omega
              simp
              intro _
              exact this) h0 hc hk hsm
            refine finS_ok (fun u hu => ?_) (fun u => mem_set_erase) ht
            rw [List.eraseIdx_append_of_length_le (Nat.le_refl _)] at hu
            simp at hu
            exact h u hu
        · rename_i i hi
          obtain ⟨t, ht, hn⟩ := idxOf_some hi
          rw [ht]
          simp only
          have hm := List.mem_of_getElem? ht
          split
          · exact h
          · rename_i hs
            exact finS_ok (fun u hu => h u (List.mem_of_mem_eraseIdx hu)) (fun u => mem_set_erase) (tookW_ok (h t hm).1 (by simpa using hs) h0 hc hk hsm)
end Go.Proofs.Ytmnemkeieaflhaa
/- What Add leaves; a packet stored into the result's block; the table beside it. -/
namespace Go.Proofs.Ytmnemkeieaflhaa
set_option linter.unusedVariables false
set_option linter.unusedSimpArgs false
open Go.ChangeShapes Go.WideShapes Go.ChangeAt Go.RowKit Go.Shelf

/-- *p = packet, as one step of a walk; all other blocks as they were. -/
theorem wpList_store_ipB (w : World) {ops : Array Oper} {rest : List Oper} {o : Oper} {a : Act} {Q : Exit → Act → World → Prop} (hgd : o.guard = none) (x y : Operand) (ho : o.op = .store 38 x y) (hdst : o.dst = none)
    (g : Nat) (hx : a.eval x = .pointer (some ⟨g, 0, none⟩)) (k k₀ : Pkt) (vo vd vo₀ vd₀ : Value) (hy : a.eval y = ipV k vo vd) (h1 : vo.oneCell' = true) (h2 : vd.oneCell' = true) (hb : Blk w g k₀ vo₀ vd₀)
    (h : ∀ w', Blk w' g k vo vd → w.grownBy w' (some g) → wpList Try.prog ops Q rest a w') : wpList Try.prog ops Q (o :: rest) a w := by
  refine wpList_store_row hgd 38 x y ho g #[.int .u8 (k.tos : Int), .int .u16 (k.ident : Int), .bool k.whole, .bool k.more, .int .i64 k.off, .int .u8 (k.ttl : Int), .int .u8 (k.proto : Int), .int .u32 (k.src : Int), .int .u32 (k.dst : Int), vo, vd] hx hy 38 _ hb (by kernel_rfl) rfl ?_ ?_
  · rw [Array.all_eq_true_iff_forall_mem]
    intro z hz
    simp only [List.mem_toArray, List.mem_cons, List.not_mem_nil, or_false] at hz
    rcases hz with rfl | rfl | rfl | rfl | rfl | rfl | rfl | rfl | rfl | rfl | rfl <;> first | rfl | exact h1 | exact h2
  · have e : a.put o.dst undef = a := by rw [hdst]; rfl
    rw [e]
    exact h _ (setRow_heap w g _ _ _ _ hb) (grownBy_setRow _ _ _)
/-- A block that is new was written. -/
theorem Only.fresh {base : Nat} {Z : Nat → TypeId → Prop} {w W W' : World} {g : Nat} (h : Only base Z w W) (hg : W.grownBy W' (some g)) (hs : w.heap.size ≤ g) (hb : base ≤ w.heap.size) : Only base Z w W' := by
  refine ⟨⟨hg.os.trans h.low.os, hg.tape.trans h.low.tape, hg.output.trans h.low.output, Nat.le_trans h.low.size hg.size, fun i hi => (hg.block i (by have := h.low.size; omega) (fun e => by cases e; omega)).trans (h.low.block i hi)⟩, fun i o T hi hT hz => ?_⟩
  have hlt := (Array.getElem?_eq_some_iff.1 hi).1
  have hk := h.keep i o T hi hT hz
  exact (hg.block i (Array.getElem?_eq_some_iff.1 hk).1 (fun e => by cases e; omega)).trans hk
theorem PktAt.only2 {w w' : World} {base : Nat} {p : Wp} {Z : Nat → TypeId → Prop} (h : PktAt w base p) (o : Only base Z w w') (h1 : ¬ Z p.blk 75) (h2 : ∀ b, p.rv.ownBlock = some b → ¬ Z b 99) (h3 : ∀ b, ¬ Z b 5) (h4 : ∀ f, p.first = some f → ¬ Z f.blk 38) : PktAt w' base p :=
  ⟨o.cells h.blk h1, h.low, o.row h.row h2, fun r hr => o.row (h.data r hr) fun g _ => h3 g, h.laid, h.top, fun f hf => by
    obtain ⟨e1, e2, e3, e4, e5⟩ := h.first f hf
    exact ⟨e1, o.cells e2 (h4 f hf), o.row e3 fun g _ => h3 g, o.row e4 fun g _ => h3 g, e5⟩, h.fit, h.tick⟩
/-- No packet's first fragment lies in block g. -/
def NoG (g : Nat) (L : List Wp) : Prop := ∀ p ∈ L, ∀ f, p.first = some f → f.blk ≠ g
theorem Tab.beside {w w' : World} {base tb mb g : Nat} {ov : Value} {most life : Int} {L : List Wp} (h : Tab w base tb mb ov most life L) (hn : NoG g L) {k : Pkt} {vo vd : Value} (hb : Blk w g k vo vd) (hlow : base ≤ g) (hg : w.grownBy w' (some g)) : Tab w' base tb mb ov most life L := by
  have o : Only base (fun b T => b = g ∧ T = 38) w w' := Only.grown hg (fun b e => by
    cases e
    exact ⟨hlow, fun o T ho hT => by rw [hb] at ho; cases ho; cases hT; exact ⟨rfl, rfl⟩⟩) h.sz
  exact ⟨o.cells h.top (fun e => absurd e.2 (by decide)), h.low, h.lowM, h.map.of_heap fun es ck hh => o.keep _ _ _ hh rfl (fun e => absurd e.2 (by decide)), o.row h.ord (fun b _ e => absurd e.2 (by decide)), fun p hp => (h.pk p hp).only2 o (fun e => absurd e.2 (by decide)) (fun b _ e => absurd e.2 (by decide)) (fun b e => absurd e.2 (by decide)) (fun f hf e => hn p hp f hf e.1), h.blks, h.rblk, h.nms, h.few, Nat.le_trans h.sz o.size, h.rng⟩
/-- The table holds these packets. -/
def TabA (w : World) (base tb : Nat) (most life : Int) (A : List Wt) : Prop := ∃ mb ov L, Tab w base tb mb ov most life L ∧ L.map absW = A ∧ AOk A
theorem absW_nm (L : List Wp) : (L.map absW).map Wt.nm = L.map Wp.nm := by rw [List.map_map]; rfl
theorem absW_took {base : Nat} {w w' : World} {p p' : Wp} {k : Pkt} (h : Took base w p k p' w') : absW p' = tookW (absW p) k := by
  unfold absW tookW
  simp only [Wt.mk.injEq]
  refine ⟨h.grows.nm, h.grows.till, h.first, ?_, h.con⟩
  have := h.fin
  split
  · rename_i hm; rw [if_pos hm] at this; omega
  · rename_i hm; rw [if_neg hm] at this; omega
theorem full_abs {p : Wp} : decide (p.fin ≠ 0 ∧ heldN p.ns = p.fin) = fullW (absW p) := by
  unfold fullW absW
  rw [held_cnt p.ns 0]
/-- What find handed out. -/
def FoundAt (w W wf : World) (base tb : Nat) (most life : Int) (A' : List Wt) (i : Nat) (t : Wt) (pb : Nat) : Prop :=
  ∃ mb ov L p, Tab wf base tb mb ov most life L ∧ L.map absW = A' ∧ L[i]? = some p ∧ absW p = t ∧ p.blk = pb ∧ Only base Za W wf ∧ ∀ q ∈ L, ∀ f, q.first = some f → f.blk < w.heap.size
theorem Tab.firsts {w : World} {base tb mb : Nat} {ov : Value} {most life : Int} {L : List Wp} (h : Tab w base tb mb ov most life L) : ∀ q ∈ L, ∀ f, q.first = some f → f.blk < w.heap.size := fun q hq f hf => ((h.pk q hq).first f hf).2.1.lt
end Go.Proofs.Ytmnemkeieaflhaa
