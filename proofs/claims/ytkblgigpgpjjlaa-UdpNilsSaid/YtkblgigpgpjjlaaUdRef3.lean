/- Contract: the reference's Take. -/
import Derived.Test.YtkblgigpgpjjlaaUdRef2
import Derived.Test.YtkblgigpgpjjlaaWeave
namespace Go.Proofs.Ytkblgigpgpjjlaa
set_option linter.unusedVariables false
set_option linter.unusedSimpArgs false
attribute [local irreducible] wpQuiet
open Go.ChangeShapes Go.WideShapes Go.ChangeAt Go.RowKit

theorem ml_ones (a p : Int) (v : Value) (hv : v.oneCell' = true) : ∀ y ∈ [Value.int .u32 a, .int .u16 p, v], y.oneCell' = true := by
  intro y hy
  simp at hy
  rcases hy with rfl | rfl | rfl
  · rfl
  · rfl
  · exact hv
theorem wpList_store_m (w₀ w : World) {ops : Array Oper} {rest : List Oper} {o : Oper} {a : Act} {Q : Exit → Act → World → Prop} (hgd : o.guard = none) (x y : Operand) (ho : o.op = .store 40 x y) (hdst : o.dst = none)
    (g : Nat) (fa fp : Int) (v : Value) (old : Array Value) (hx : a.eval x = .pointer (some ⟨g, 0, none⟩)) (hy : a.eval y = .agg #[.int .u32 fa, .int .u16 fp, v]) (hb : w.heap[g]? = some (.cells old 40 (0, 0))) (hs : old.size = 3) (hv : v.oneCell' = true) (hgr : Grow w₀ w) (hg : w₀.heap.size ≤ g)
    (h : ∀ w', MlB w' g fa fp v → But g w w' → Grow w₀ w' → wpList Try.prog ops Q rest a w') : wpList Try.prog ops Q (o :: rest) a w :=
  wpList_store_cs w₀ w hgd _ x y ho hdst g 0 (.agg #[.int .u32 fa, .int .u16 fp, v]) hx hy [.int .u32 fa, .int .u16 fp, v] rfl 40 old #[.int .u32 fa, .int .u16 fp, v] hb sizeMl (ml_ones fa fp v hv) (by rw [hs]; exact Nat.le_refl 3)
    (by rw [List.take_zero, List.nil_append, List.drop_eq_nil_of_le (by simp [hs]), List.append_nil]) hgr hg h
theorem results_u4 {fn : Func} {p q u z : Tmp} (h : fn.results = #[.cell p 37, .cell q 40, .tmp u, .tmp z]) (tmps : Array Value) (w : World) (g1 g2 : Nat) (most room pa pp : Int) (vL : Value) (lost told : Int) (fa fp : Int) (v : Value) (y y' : Value) (ht : tmps.getD p undef = .pointer (some ⟨g1, 0, none⟩)) (hq : tmps.getD q undef = .pointer (some ⟨g2, 0, none⟩)) (hy : tmps.getD u undef = y) (hz : tmps.getD z undef = y') (hb : UbB w g1 most room pa pp vL lost told) (hm : MlB w g2 fa fp v) :
    (results fn tmps).run Try.prog w = .ok (.tuple #[.agg (ubA most room pa pp vL lost told), .agg #[.int .u32 fa, .int .u16 fp, v], y, y']) w := by
  have ht' : tmps[p]?.getD undef = .pointer (some ⟨g1, 0, none⟩) := by simpa using ht
  have hq' : tmps[q]?.getD undef = .pointer (some ⟨g2, 0, none⟩) := by simpa using hq
  have e1 := run_loadVar_row w g1 37 37 (ubA most room pa pp vL lost told) (0, 0) _ hb Try.underlying37 rfl sizeUb
  have e2 := run_loadVar_row w g2 40 40 #[.int .u32 fa, .int .u16 fp, v] (0, 0) _ hm Try.underlying40 rfl sizeMl
  have hy' : tmps[u]?.getD undef = y := by simpa using hy
  have hz' : tmps[z]?.getD undef = y' := by simpa using hz
  simp [results, h, ht', hq', asAddr, e1, e2, hy', hz']
/-- The boxes of Take: the box that came in, the box and the datagram that go out. -/
structure TkU (w W : World) (most room pa pp : Int) (vL : Value) (lost told : Int) : Prop where
  t : UbB W w.heap.size most room pa pp vL lost told
  r : UbB W (w.heap.size + 1) 0 0 0 0 (.slice none 0 0) 0 0
  m : MlB W (w.heap.size + 2) 0 0 (.slice none 0 0)
  g : Grow w W
theorem tkU (w : World) (most room pa pp : Int) (vL : Value) (lost told : Int) {W : World} (hW : W = ((w.alloc (.cells (ubA most room pa pp vL lost told) 37)).alloc (.cells (ubA 0 0 0 0 (.slice none 0 0) 0 0) 37)).alloc (.cells #[.int .u32 0, .int .u16 0, .slice none 0 0] 40)) : TkU w W most room pa pp vL lost told ∧ W.heap.size = w.heap.size + 3 := by
  obtain ⟨U, hU⟩ : ∃ U, U = w.alloc (.cells (ubA most room pa pp vL lost told) 37) := ⟨_, rfl⟩
  obtain ⟨V, hV⟩ : ∃ V, V = U.alloc (.cells (ubA 0 0 0 0 (.slice none 0 0) 0 0) 37) := ⟨_, rfl⟩
  rw [← hU, ← hV] at hW
  have s1 : U.heap.size = w.heap.size + 1 := by rw [hU]; exact Array.size_push _
  have s2 : V.heap.size = w.heap.size + 2 := by rw [hV]; show (U.heap.push _).size = _; rw [Array.size_push, s1]
  have s3 : W.heap.size = w.heap.size + 3 := by rw [hW]; show (V.heap.push _).size = _; rw [Array.size_push, s2]
  have gU : Grow w U := by rw [hU]; exact Grow.alloc _ _
  have gV : Grow U V := by rw [hV]; exact Grow.alloc _ _
  have gW : Grow V W := by rw [hW]; exact Grow.alloc _ _
  have h1 : UbB U w.heap.size most room pa pp vL lost told := by rw [hU]; exact heap_alloc_new w _
  have h2 : UbB V (w.heap.size + 1) 0 0 0 0 (.slice none 0 0) 0 0 := by rw [hV, ← s1]; exact heap_alloc_new U _
  have h3 : MlB W (w.heap.size + 2) 0 0 (.slice none 0 0) := by rw [hW, ← s2]; exact heap_alloc_new V _
  exact ⟨⟨h1.grow (gV.trans gW), h2.grow gW, h3, gU.trans (gV.trans gW)⟩, s3⟩
theorem TkU.set6 {w W : World} {most room pa pp lost told : Int} {vL : Value} (h : TkU w W most room pa pp vL lost told) (n : Int) : TkU w (W.setCell ⟨w.heap.size, 6, none⟩ (.int .i64 n)) most room pa pp vL lost n :=
  ⟨h.t.set6 n, (Below.heap_setCell _ _ _ _ (by simp)).trans h.r, (Below.heap_setCell _ _ _ _ (by simp)).trans h.m, Below.setCell h.g (Nat.le_refl _) _⟩
theorem TkU.grow {w W W' : World} {most room pa pp lost told : Int} {vL : Value} (h : TkU w W most room pa pp vL lost told) (g : Grow W W') : TkU w W' most room pa pp vL lost told := ⟨h.t.grow g, h.r.grow g, h.m.grow g, h.g.trans g⟩
theorem TkU.set4 {w W : World} {most room pa pp lost told : Int} {vL : Value} (h : TkU w W most room pa pp vL lost told) (u : Value) : TkU w (W.setCell ⟨w.heap.size, 4, none⟩ u) most room pa pp u lost told :=
  ⟨h.t.set4 u, (Below.heap_setCell _ _ _ _ (by simp)).trans h.r, (Below.heap_setCell _ _ _ _ (by simp)).trans h.m, Below.setCell h.g (Nat.le_refl _) u⟩
theorem tku_cases (u : Ub) (n : Int) : (u.told ≠ 0 ∧ tkuE u n = u.told ∧ tkuM u n = noM ∧ tkuN u n = 0 ∧ tkuU u n = { u with told := 0 }) ∨ (u.told = 0 ∧ u.L = [] ∧ tkuE u n = 6 ∧ tkuM u n = noM ∧ tkuN u n = 0 ∧ tkuU u n = u) ∨
    (u.told = 0 ∧ u.L ≠ [] ∧ n < 0 ∧ tkuE u n = 1 ∧ tkuM u n = noM ∧ tkuN u n = 0 ∧ tkuU u n = u) ∨ (u.told = 0 ∧ ∃ x r, u.L = x :: r ∧ 0 ≤ n ∧ tkuE u n = 0 ∧ tkuM u n = cutM x n ∧ tkuN u n = (x.d.length : Int) ∧ tkuU u n = { u with L := r }) := by
  by_cases h0 : u.told = 0
  · have n0 : ¬ u.told ≠ 0 := fun k => k h0
    by_cases h1 : u.L = []
    · have e : tkuE u n = 6 := (if_neg n0).trans (if_pos h1)
      have ne : ¬ tkuE u n = 0 := by rw [e]; decide
      exact .inr (.inl ⟨h0, h1, e, if_neg fun k => ne k.1, if_neg fun k => ne k.1, (if_neg n0).trans (if_neg ne)⟩)
    by_cases h2 : n < 0
    · have e : tkuE u n = 1 := (if_neg n0).trans ((if_neg h1).trans (if_pos h2))
      have ne : ¬ tkuE u n = 0 := by rw [e]; decide
      exact .inr (.inr (.inl ⟨h0, h1, h2, e, if_neg fun k => ne k.1, if_neg fun k => ne k.1, (if_neg n0).trans (if_neg ne)⟩))
    · have e : tkuE u n = 0 := (if_neg n0).trans ((if_neg h1).trans (if_neg h2))
      obtain ⟨x, r, hx⟩ : ∃ x r, u.L = x :: r := by
        cases hL : u.L with
        | nil => exact absurd hL h1
        | cons x r => exact ⟨x, r, rfl⟩
      refine .inr (.inr (.inr ⟨h0, x, r, hx, by omega, e, ?_, ?_, ?_⟩))
      · exact (if_pos ⟨e, h0⟩).trans (by rw [hx]; rfl)
      · exact (if_pos ⟨e, h0⟩).trans (by rw [hx]; rfl)
      · exact (if_neg n0).trans ((if_pos e).trans (by rw [hx]; rfl))
  · have ne : ¬ (tkuE u n = 0 ∧ u.told = 0) := fun k => h0 k.2
    exact .inl ⟨h0, if_pos h0, if_neg ne, if_neg ne, if_pos h0⟩
set_option maxRecDepth 10000 in
set_option maxHeartbeats 2000000 in
theorem rTakeU_ok (w0 w : World) (hw0 : Grow w0 w) (base : Nat) (hbase : base ≤ w.heap.size) (most room pa pp lost : Int) (vL : Value) (x : Mc) (r : List Mc) (hB : Mcs w base vL (x :: r)) (hR : Reads w0 (x :: r)) (N0 : Nat) : Calls Try.prog 13 #[.agg (ubA most room pa pp vL lost 0), .int .i64 (N0 : Int)] w fun e' w' => ∃ vT A k c, e' = .returned (.tuple #[.agg (ubA most room pa pp vT lost 0), .agg #[.int .u32 x.f.ad, .int .u16 x.f.po, .slice A k c], .int .i64 (x.n : Int), .int .i64 0]) ∧ Mcs w' base vT r ∧ Byt w0 (.slice A k c) (x.d.take N0) ∧ Grow w w' ∧ vT.ownBlock = vL.ownBlock := by
  obtain ⟨W, hW⟩ : ∃ W, W = ((w.alloc (.cells (ubA most room pa pp vL lost 0) 37)).alloc (.cells (ubA 0 0 0 0 (.slice none 0 0) 0 0) 37)).alloc (.cells #[.int .u32 0, .int .u16 0, .slice none 0 0] 40) := ⟨_, rfl⟩
  obtain ⟨hT0, hWs⟩ := tkU w most room pa pp vL lost 0 hW
  have HT := Lib.hid hT0
  have hBW : Mcs W base vL (x :: r) := hB.grow hT0.g
  obtain ⟨b, off, cp, hvb, hbl, hc⟩ := mc_cells hBW.rd (by simp)
  obtain ⟨x0, x1, x2⟩ := hc 0 x rfl
  rw [Nat.zero_mul, Nat.add_zero] at x0 x1 x2
  have hnc : (x :: r).length ≤ cp := by
    obtain ⟨A', c', e, h1, _⟩ := hB.form
    rw [hvb] at e
    injection e with _ _ e3
    omega
  have htail := hB
  rw [hvb] at htail
  have htl := OfG.tail (j := 1) htail (by simp)
  rw [show (x :: r).drop 1 = r from rfl, show 1 * mcC.K = 3 from rfl, Option.map_some, show (⟨b, off, none⟩ : Addr).add 3 = ⟨b, off + 3, none⟩ from add_at ..] at htl
  obtain ⟨⟨fa, fp⟩, mA, mn, mc, md⟩ := x
  simp only at x0 x1 x2
  have hxb : Byt w0 (.slice mA mn mc) md := hR _ List.mem_cons_self
  obtain ⟨hxl, hxc, hxm⟩ := Byt.len hxb
  obtain ⟨N, hN⟩ : ∃ N, N = ((⟨⟨fa, fp⟩, mA, mn, mc, md⟩ : Mc) :: r).length := ⟨_, rfl⟩
  rw [← hN] at hvb hnc htl
  have hNr : N = r.length + 1 := hN
  obtain ⟨RM, hRM⟩ : ∃ RM, RM = W.heap.size := ⟨_, rfl⟩
  have HRM : Hid (RM = w.heap.size + 3) := Lib.hid (hRM.trans hWs)
  obtain ⟨W9, hW9⟩ : ∃ W9, W9 = W.alloc (.cells #[.int .u32 fa, .int .u16 fp, .slice mA mn mc] 40) := ⟨_, rfl⟩
  have g9 : Grow W W9 := by rw [hW9]; exact Grow.alloc _ _
  have HT9 : Hid (TkU w W9 most room pa pp vL lost 0 ∧ MlB W9 RM fa fp (.slice mA mn mc)) := ⟨hT0.grow g9, by rw [hW9, hRM]; exact heap_alloc_new W _⟩
  obtain ⟨k, hk⟩ : ∃ k, k = min N0 mn := ⟨_, rfl⟩
  have hkd : md.take N0 = md.take k := by rw [hk, hxl]; exact (List.take_eq_take_min ..)
  have HBk : Hid (Byt w0 (.slice mA k mc) (md.take N0)) := by rw [hkd]; exact hxb.front (by omega)
  -- what the tail is
  have hT : ∃ tA tn tc, Hid (Mcs w base (.slice tA tn tc) r) ∧ (cp = 1 ∧ N = 1 ∧ tA = some ⟨b, off, none⟩ ∧ tn = 0 ∧ tc = 0 ∨ cp ≠ 1 ∧ tA = some ⟨b, off + 3, none⟩ ∧ tn = N - 1 ∧ tc = cp - 1) := by
    by_cases q : cp = 1
    · rw [if_pos q] at htl
      have e1 : N = 1 := by omega
      have e2 : N - 1 = 0 := by omega
      have e3 : cp - 1 = 0 := by omega
      rw [e2, e3] at htl
      exact ⟨_, _, _, htl, .inl ⟨q, e1, rfl, rfl, rfl⟩⟩
    · rw [if_neg q] at htl
      exact ⟨_, _, _, htl, .inr ⟨q, rfl, rfl, rfl⟩⟩
  obtain ⟨tA, tn, tc, HTl, hTc⟩ := hT
  obtain ⟨vT, hvT⟩ : ∃ vT, vT = Value.slice tA tn tc := ⟨_, rfl⟩
  rw [← hvT] at HTl
  have HOb : Hid (vT.ownBlock = vL.ownBlock) := by
    rw [hvT, hvb]
    rcases hTc with ⟨_, _, q, _, _⟩ | ⟨_, q, _, _⟩ <;> rw [q] <;> rfl
  obtain ⟨W10, hW10⟩ : ∃ W10, W10 = W9.setCell ⟨w.heap.size, 4, none⟩ vT := ⟨_, rfl⟩
  have HT10 : Hid (TkU w W10 most room pa pp vT lost 0 ∧ MlB W10 RM fa fp (.slice mA mn mc)) := ⟨by rw [hW10]; exact HT9.out.1.set4 vT, by rw [hW10]; exact (Below.heap_setCell _ _ _ _ (show RM ≠ w.heap.size by have := HRM.out; omega)).trans HT9.out.2⟩
  obtain ⟨W11, hW11⟩ : ∃ W11, W11 = W10.setCell ⟨RM, 2, none⟩ (.slice mA k mc) := ⟨_, rfl⟩
  have HD : Hid (UbB W11 w.heap.size most room pa pp vT lost 0 ∧ MlB W11 RM fa fp (.slice mA k mc) ∧ UbB W11 (w.heap.size + 1) 0 0 0 0 (.slice none 0 0) 0 0 ∧ MlB W11 (w.heap.size + 2) 0 0 (.slice none 0 0) ∧ Grow w W11) := by
    rw [hW11]
    exact ⟨(Below.heap_setCell _ _ _ _ (show w.heap.size ≠ RM by have := HRM.out; omega)).trans HT10.out.1.t, heap_setCell_own HT10.out.2 _, (Below.heap_setCell _ _ _ _ (show w.heap.size + 1 ≠ RM by have := HRM.out; omega)).trans HT10.out.1.r, (Below.heap_setCell _ _ _ _ (show w.heap.size + 2 ≠ RM by have := HRM.out; omega)).trans HT10.out.1.m, Below.setCell HT10.out.1.g (show w.heap.size ≤ RM by have := HRM.out; omega) _⟩
  have HON : Hid (∀ y ∈ (ubA most room pa pp vT lost 0).toList, y.oneCell' = true) := ub_ones HTl.out most room pa pp lost 0
  have y4 := HT9.out.1.t.c4
  have f4 := HT9.out.1.t.fz 4
  have m2 := HT10.out.2.c2
  have fm : W10.frozen? ⟨RM, 2, none⟩ = false := frozen_of HT10.out.2
  have t4 := hT0.t.c4
  have t6 := hT0.t.c6
  subst hvb
  have e1 : (0 : Int) ≤ (k : Int) := by omega
  have e2 : (k : Int) ≤ (mc : Int) := by omega
  have e3 : k ≤ mc := by omega
  have d1 : ((N : Int) == 0) = false := by rw [beq_eq_false_iff_ne]; omega
  have d2 : decide ((N0 : Int) < 0) = false := decide_eq_false (by omega)
  have p1 : 0 < N := by omega
  have p2 : 1 ≤ cp := by omega
  have HFin : Hid (∀ w1, UbB w1 (w.heap.size + 1) most room pa pp vT lost 0 ∧ MlB w1 (w.heap.size + 2) fa fp (.slice mA k mc) ∧ Grow w w1 → Mcs w1 base vT r) := fun w1 q => HTl.out.grow q.2.2
  clear hT0 hWs hBW hbl hc hxb hxl hxm htail htl hNr hN hR hB g9 hkd HTl hbase hw0 hnc
  rcases hTc with ⟨c1, c2, c3, c4, c5⟩ | ⟨c1, c3, c4, c5⟩
  · subst c1 c2 c3 c4 c5
    by_cases hcmp : mn < N0
    · have d3 : decide ((mn : Int) < (N0 : Int)) = true := decide_eq_true (by omega)
      have d4 : decide (mn < N0) = true := decide_eq_true hcmp
      obtain rfl : k = mn := by omega
      clear hk hcmp
      go_enter Try.func13, Try.ntmps13
      go_upto_region 1 with fail
      rw [← hW]
      have HW0 := Lib.hid hW
      clear hW
      go_upto_region 10 with fail
      rw [← hRM, ← hW9]
      have HW9 := Lib.hid hW9
      have HRM2 := Lib.hid hRM
      clear hW9 hRM x0 x1 x2 t4 t6
      go_upto_region 11 with fail
      rw [← hvT, ← hW10]
      have HW10 := Lib.hid hW10
      have HvT := Lib.hid hvT
      clear hW10 y4 f4 hvT
      go_upto_region 15 with fail
      rw [← hW11]
      have HW11 := Lib.hid hW11
      clear hW11 m2 fm
      refine wp_region_weave (A := ?frame15t0) [3, 4] (fun q => UbB q w.heap.size most room pa pp vT lost 0 ∧ MlB q RM fa fp (.slice mA k mc) ∧ Grow w q) (inVals (isW (.agg (ubA most room pa pp vT lost 0)) :: isW (.agg #[.int .u32 fa, .int .u16 fp, .slice mA k mc]) :: isW (.int .i64 (k : Int)) :: isAll :: isAll :: isW (.int .i64 (k : Int)) :: isW (.int .i64 0) :: [])) (fun j vs q => match j, vs with | 0, [] => UbB q (w.heap.size + 1) 0 0 0 0 (.slice none 0 0) 0 0 ∧ MlB q (w.heap.size + 2) 0 0 (.slice none 0 0) | 1, [_] => UbB q (w.heap.size + 1) most room pa pp vT lost 0 ∧ MlB q (w.heap.size + 2) 0 0 (.slice none 0 0) | 2, [_, _] => UbB q (w.heap.size + 1) most room pa pp vT lost 0 ∧ MlB q (w.heap.size + 2) fa fp (.slice mA k mc) | _, _ => False) (by kernel_rfl) (by kernel_rfl) (by kernel_rfl) (by kernel_rfl) (fun x => ?frameEq15t0) ⟨HD.out.1, HD.out.2.1, HD.out.2.2.2.2.trans (Grow.drew _)⟩ ⟨HD.out.2.2.1, HD.out.2.2.2.1⟩ ?_ ?_ ?_
      case frameEq15t0 => go_simp; rfl
      · refine ⟨fun _ x w1 hI hd post hp => ?_, fun _ x w1 hI hd post hp => ?_, fun _ x w1 hI hd post hp => ?_, fun hn => absurd hn (by decide), fun hn => absurd hn (by decide), fun _ x w1 hI hd post hp => ?_, fun _ x w1 hI hd post hp => ?_, trivial⟩
        · -- 0: slot 50: Op.load 37 t2
          clear hd
          have d0 := hI.1.c0
          have d1 := hI.1.c1
          have d2 := hI.1.c2
          have d3 := hI.1.c3
          have d4 := hI.1.c4
          have d5 := hI.1.c5
          have d6 := hI.1.c6
          go_simp
          exact hp _ rfl
        · -- 1: slot 51: Op.load 40 t9
          clear hd
          have d0 := hI.2.1.c0
          have d1 := hI.2.1.c1
          have d2 := hI.2.1.c2
          go_simp
          exact hp _ rfl
        · -- 2: slot 52: Op.move t10
          clear hd
          go_simp
          exact hp _ rfl
        · -- 5: slot 6: Op.assign t52
          have h52 : x 52 = .int .i64 (k : Int) := hd 2 (by decide) (by decide) _ rfl
          clear hd
          go_simp
          exact hp _ rfl
        · -- 6: slot 7: Op.assign (const (0:i64))
          clear hd
          go_simp
          exact hp _ rfl
      · refine ⟨fun x w1 hI hd hs post hp => ?_, fun x w1 hI hd hs post hp => ?_, trivial⟩
        · -- 3: slot none:0: Op.store 37 t4 t50
          have h50 : x 50 = .agg (ubA most room pa pp vT lost 0) := hd 0 (by decide) (by decide) _ rfl
          clear hd
          have s0 : UbB w1 (w.heap.size + 1) 0 0 0 0 (.slice none 0 0) 0 0 ∧ MlB w1 (w.heap.size + 2) 0 0 (.slice none 0 0) := hs
          exact upon_cs w w1 rfl 37 (.tmp 4) (.tmp 50) rfl (w.heap.size + 1) 0 (.agg (ubA most room pa pp vT lost 0)) rfl h50 (ubA most room pa pp vT lost 0).toList rfl 37 _ (ubA most room pa pp vT lost 0) s0.1 sizeUb HON.out (Nat.le_refl 7) rfl hI.2.2 (by omega) (fun w2 h2 hb2 g2 => hp _ _ ⟨(hb2.2 w.heap.size (by omega)).trans hI.1, (hb2.2 RM (by have := HRM.out; omega)).trans hI.2.1, g2⟩ ⟨h2, (hb2.2 (w.heap.size + 2) (by omega)).trans s0.2⟩)
        · -- 4: slot none:1: Op.store 40 t5 t51
          have h51 : x 51 = .agg #[.int .u32 fa, .int .u16 fp, .slice mA k mc] := hd 1 (by decide) (by decide) _ rfl
          clear hd
          have s1 : UbB w1 (w.heap.size + 1) most room pa pp vT lost 0 ∧ MlB w1 (w.heap.size + 2) 0 0 (.slice none 0 0) := hs
          exact upon_cs w w1 rfl 40 (.tmp 5) (.tmp 51) rfl (w.heap.size + 2) 0 (.agg #[.int .u32 fa, .int .u16 fp, .slice mA k mc]) rfl h51 [.int .u32 fa, .int .u16 fp, .slice mA k mc] rfl 40 _ #[.int .u32 fa, .int .u16 fp, .slice mA k mc] s1.2 sizeMl (ml_ones fa fp (.slice mA k mc) rfl) (Nat.le_refl 3) rfl hI.2.2 (by omega) (fun w2 h2 hb2 g2 => hp _ _ ⟨(hb2.2 w.heap.size (by omega)).trans hI.1, (hb2.2 RM (by have := HRM.out; omega)).trans hI.2.1, g2⟩ ⟨(hb2.2 (w.heap.size + 1) (by omega)).trans s1.1, h2⟩)
      · intro x w1 hI hd hs
        have HW : Hid (UbB w1 (w.heap.size + 1) most room pa pp vT lost 0 ∧ MlB w1 (w.heap.size + 2) fa fp (.slice mA k mc) ∧ Grow w w1) := ⟨hs.1, hs.2, hI.2.2⟩
        have h6 : x 6 = .int .i64 (k : Int) := hd 5 _ rfl (by decide)
        have h7 : x 7 = .int .i64 0 := hd 6 _ rfl (by decide)
        clear hd hs hI
        go_wp2_with fail
        refine bodyPost_ret (results_u4 rfl _ _ (w.heap.size + 1) (w.heap.size + 2) most room pa pp vT lost 0 fa fp (.slice mA k mc) _ _ rfl rfl rfl rfl HW.out.1 HW.out.2.1) rfl ?_
        exact ⟨vT, mA, k, mc, rfl, HFin.out _ HW.out, HBk.out, HW.out.2.2, HOb.out⟩
    · have d3 : decide ((mn : Int) < (N0 : Int)) = false := decide_eq_false (by omega)
      have d4 : decide (mn < N0) = false := decide_eq_false hcmp
      obtain rfl : k = N0 := by omega
      clear hk hcmp
      go_enter Try.func13, Try.ntmps13
      go_upto_region 1 with fail
      rw [← hW]
      have HW0 := Lib.hid hW
      clear hW
      go_upto_region 10 with fail
      rw [← hRM, ← hW9]
      have HW9 := Lib.hid hW9
      have HRM2 := Lib.hid hRM
      clear hW9 hRM x0 x1 x2 t4 t6
      go_upto_region 11 with fail
      rw [← hvT, ← hW10]
      have HW10 := Lib.hid hW10
      have HvT := Lib.hid hvT
      clear hW10 y4 f4 hvT
      go_upto_region 15 with fail
      rw [← hW11]
      have HW11 := Lib.hid hW11
      clear hW11 m2 fm
      refine wp_region_weave (A := ?frame15f0) [3, 4] (fun q => UbB q w.heap.size most room pa pp vT lost 0 ∧ MlB q RM fa fp (.slice mA k mc) ∧ Grow w q) (inVals (isW (.agg (ubA most room pa pp vT lost 0)) :: isW (.agg #[.int .u32 fa, .int .u16 fp, .slice mA k mc]) :: isW (.int .i64 (mn : Int)) :: isAll :: isAll :: isW (.int .i64 (mn : Int)) :: isW (.int .i64 0) :: [])) (fun j vs q => match j, vs with | 0, [] => UbB q (w.heap.size + 1) 0 0 0 0 (.slice none 0 0) 0 0 ∧ MlB q (w.heap.size + 2) 0 0 (.slice none 0 0) | 1, [_] => UbB q (w.heap.size + 1) most room pa pp vT lost 0 ∧ MlB q (w.heap.size + 2) 0 0 (.slice none 0 0) | 2, [_, _] => UbB q (w.heap.size + 1) most room pa pp vT lost 0 ∧ MlB q (w.heap.size + 2) fa fp (.slice mA k mc) | _, _ => False) (by kernel_rfl) (by kernel_rfl) (by kernel_rfl) (by kernel_rfl) (fun x => ?frameEq15f0) ⟨HD.out.1, HD.out.2.1, HD.out.2.2.2.2.trans (Grow.drew _)⟩ ⟨HD.out.2.2.1, HD.out.2.2.2.1⟩ ?_ ?_ ?_
      case frameEq15f0 => go_simp; rfl
      · refine ⟨fun _ x w1 hI hd post hp => ?_, fun _ x w1 hI hd post hp => ?_, fun _ x w1 hI hd post hp => ?_, fun hn => absurd hn (by decide), fun hn => absurd hn (by decide), fun _ x w1 hI hd post hp => ?_, fun _ x w1 hI hd post hp => ?_, trivial⟩
        · -- 0: slot 50: Op.load 37 t2
          clear hd
          have d0 := hI.1.c0
          have d1 := hI.1.c1
          have d2 := hI.1.c2
          have d3 := hI.1.c3
          have d4 := hI.1.c4
          have d5 := hI.1.c5
          have d6 := hI.1.c6
          go_simp
          exact hp _ rfl
        · -- 1: slot 51: Op.load 40 t9
          clear hd
          have d0 := hI.2.1.c0
          have d1 := hI.2.1.c1
          have d2 := hI.2.1.c2
          go_simp
          exact hp _ rfl
        · -- 2: slot 52: Op.move t10
          clear hd
          go_simp
          exact hp _ rfl
        · -- 5: slot 6: Op.assign t52
          have h52 : x 52 = .int .i64 (mn : Int) := hd 2 (by decide) (by decide) _ rfl
          clear hd
          go_simp
          exact hp _ rfl
        · -- 6: slot 7: Op.assign (const (0:i64))
          clear hd
          go_simp
          exact hp _ rfl
      · refine ⟨fun x w1 hI hd hs post hp => ?_, fun x w1 hI hd hs post hp => ?_, trivial⟩
        · -- 3: slot none:0: Op.store 37 t4 t50
          have h50 : x 50 = .agg (ubA most room pa pp vT lost 0) := hd 0 (by decide) (by decide) _ rfl
          clear hd
          have s0 : UbB w1 (w.heap.size + 1) 0 0 0 0 (.slice none 0 0) 0 0 ∧ MlB w1 (w.heap.size + 2) 0 0 (.slice none 0 0) := hs
          exact upon_cs w w1 rfl 37 (.tmp 4) (.tmp 50) rfl (w.heap.size + 1) 0 (.agg (ubA most room pa pp vT lost 0)) rfl h50 (ubA most room pa pp vT lost 0).toList rfl 37 _ (ubA most room pa pp vT lost 0) s0.1 sizeUb HON.out (Nat.le_refl 7) rfl hI.2.2 (by omega) (fun w2 h2 hb2 g2 => hp _ _ ⟨(hb2.2 w.heap.size (by omega)).trans hI.1, (hb2.2 RM (by have := HRM.out; omega)).trans hI.2.1, g2⟩ ⟨h2, (hb2.2 (w.heap.size + 2) (by omega)).trans s0.2⟩)
        · -- 4: slot none:1: Op.store 40 t5 t51
          have h51 : x 51 = .agg #[.int .u32 fa, .int .u16 fp, .slice mA k mc] := hd 1 (by decide) (by decide) _ rfl
          clear hd
          have s1 : UbB w1 (w.heap.size + 1) most room pa pp vT lost 0 ∧ MlB w1 (w.heap.size + 2) 0 0 (.slice none 0 0) := hs
          exact upon_cs w w1 rfl 40 (.tmp 5) (.tmp 51) rfl (w.heap.size + 2) 0 (.agg #[.int .u32 fa, .int .u16 fp, .slice mA k mc]) rfl h51 [.int .u32 fa, .int .u16 fp, .slice mA k mc] rfl 40 _ #[.int .u32 fa, .int .u16 fp, .slice mA k mc] s1.2 sizeMl (ml_ones fa fp (.slice mA k mc) rfl) (Nat.le_refl 3) rfl hI.2.2 (by omega) (fun w2 h2 hb2 g2 => hp _ _ ⟨(hb2.2 w.heap.size (by omega)).trans hI.1, (hb2.2 RM (by have := HRM.out; omega)).trans hI.2.1, g2⟩ ⟨(hb2.2 (w.heap.size + 1) (by omega)).trans s1.1, h2⟩)
      · intro x w1 hI hd hs
        have HW : Hid (UbB w1 (w.heap.size + 1) most room pa pp vT lost 0 ∧ MlB w1 (w.heap.size + 2) fa fp (.slice mA k mc) ∧ Grow w w1) := ⟨hs.1, hs.2, hI.2.2⟩
        have h6 : x 6 = .int .i64 (mn : Int) := hd 5 _ rfl (by decide)
        have h7 : x 7 = .int .i64 0 := hd 6 _ rfl (by decide)
        clear hd hs hI
        go_wp2_with fail
        refine bodyPost_ret (results_u4 rfl _ _ (w.heap.size + 1) (w.heap.size + 2) most room pa pp vT lost 0 fa fp (.slice mA k mc) _ _ rfl rfl rfl rfl HW.out.1 HW.out.2.1) rfl ?_
        exact ⟨vT, mA, k, mc, rfl, HFin.out _ HW.out, HBk.out, HW.out.2.2, HOb.out⟩
  · subst c3 c4 c5
    by_cases hcmp : mn < N0
    · have d3 : decide ((mn : Int) < (N0 : Int)) = true := decide_eq_true (by omega)
      have d4 : decide (mn < N0) = true := decide_eq_true hcmp
      obtain rfl : k = mn := by omega
      clear hk hcmp
      go_enter Try.func13, Try.ntmps13
      go_upto_region 1 with fail
      rw [← hW]
      have HW0 := Lib.hid hW
      clear hW
      go_upto_region 10 with fail
      rw [← hRM, ← hW9]
      have HW9 := Lib.hid hW9
      have HRM2 := Lib.hid hRM
      clear hW9 hRM x0 x1 x2 t4 t6
      go_upto_region 11 with fail
      rw [← hvT, ← hW10]
      have HW10 := Lib.hid hW10
      have HvT := Lib.hid hvT
      clear hW10 y4 f4 hvT
      go_upto_region 15 with fail
      rw [← hW11]
      have HW11 := Lib.hid hW11
      clear hW11 m2 fm
      refine wp_region_weave (A := ?frame15t1) [3, 4] (fun q => UbB q w.heap.size most room pa pp vT lost 0 ∧ MlB q RM fa fp (.slice mA k mc) ∧ Grow w q) (inVals (isW (.agg (ubA most room pa pp vT lost 0)) :: isW (.agg #[.int .u32 fa, .int .u16 fp, .slice mA k mc]) :: isW (.int .i64 (k : Int)) :: isAll :: isAll :: isW (.int .i64 (k : Int)) :: isW (.int .i64 0) :: [])) (fun j vs q => match j, vs with | 0, [] => UbB q (w.heap.size + 1) 0 0 0 0 (.slice none 0 0) 0 0 ∧ MlB q (w.heap.size + 2) 0 0 (.slice none 0 0) | 1, [_] => UbB q (w.heap.size + 1) most room pa pp vT lost 0 ∧ MlB q (w.heap.size + 2) 0 0 (.slice none 0 0) | 2, [_, _] => UbB q (w.heap.size + 1) most room pa pp vT lost 0 ∧ MlB q (w.heap.size + 2) fa fp (.slice mA k mc) | _, _ => False) (by kernel_rfl) (by kernel_rfl) (by kernel_rfl) (by kernel_rfl) (fun x => ?frameEq15t1) ⟨HD.out.1, HD.out.2.1, HD.out.2.2.2.2.trans (Grow.drew _)⟩ ⟨HD.out.2.2.1, HD.out.2.2.2.1⟩ ?_ ?_ ?_
      case frameEq15t1 => go_simp; rfl
      · refine ⟨fun _ x w1 hI hd post hp => ?_, fun _ x w1 hI hd post hp => ?_, fun _ x w1 hI hd post hp => ?_, fun hn => absurd hn (by decide), fun hn => absurd hn (by decide), fun _ x w1 hI hd post hp => ?_, fun _ x w1 hI hd post hp => ?_, trivial⟩
        · -- 0: slot 50: Op.load 37 t2
          clear hd
          have d0 := hI.1.c0
          have d1 := hI.1.c1
          have d2 := hI.1.c2
          have d3 := hI.1.c3
          have d4 := hI.1.c4
          have d5 := hI.1.c5
          have d6 := hI.1.c6
          go_simp
          exact hp _ rfl
        · -- 1: slot 51: Op.load 40 t9
          clear hd
          have d0 := hI.2.1.c0
          have d1 := hI.2.1.c1
          have d2 := hI.2.1.c2
          go_simp
          exact hp _ rfl
        · -- 2: slot 52: Op.move t10
          clear hd
          go_simp
          exact hp _ rfl
        · -- 5: slot 6: Op.assign t52
          have h52 : x 52 = .int .i64 (k : Int) := hd 2 (by decide) (by decide) _ rfl
          clear hd
          go_simp
          exact hp _ rfl
        · -- 6: slot 7: Op.assign (const (0:i64))
          clear hd
          go_simp
          exact hp _ rfl
      · refine ⟨fun x w1 hI hd hs post hp => ?_, fun x w1 hI hd hs post hp => ?_, trivial⟩
        · -- 3: slot none:0: Op.store 37 t4 t50
          have h50 : x 50 = .agg (ubA most room pa pp vT lost 0) := hd 0 (by decide) (by decide) _ rfl
          clear hd
          have s0 : UbB w1 (w.heap.size + 1) 0 0 0 0 (.slice none 0 0) 0 0 ∧ MlB w1 (w.heap.size + 2) 0 0 (.slice none 0 0) := hs
          exact upon_cs w w1 rfl 37 (.tmp 4) (.tmp 50) rfl (w.heap.size + 1) 0 (.agg (ubA most room pa pp vT lost 0)) rfl h50 (ubA most room pa pp vT lost 0).toList rfl 37 _ (ubA most room pa pp vT lost 0) s0.1 sizeUb HON.out (Nat.le_refl 7) rfl hI.2.2 (by omega) (fun w2 h2 hb2 g2 => hp _ _ ⟨(hb2.2 w.heap.size (by omega)).trans hI.1, (hb2.2 RM (by have := HRM.out; omega)).trans hI.2.1, g2⟩ ⟨h2, (hb2.2 (w.heap.size + 2) (by omega)).trans s0.2⟩)
        · -- 4: slot none:1: Op.store 40 t5 t51
          have h51 : x 51 = .agg #[.int .u32 fa, .int .u16 fp, .slice mA k mc] := hd 1 (by decide) (by decide) _ rfl
          clear hd
          have s1 : UbB w1 (w.heap.size + 1) most room pa pp vT lost 0 ∧ MlB w1 (w.heap.size + 2) 0 0 (.slice none 0 0) := hs
          exact upon_cs w w1 rfl 40 (.tmp 5) (.tmp 51) rfl (w.heap.size + 2) 0 (.agg #[.int .u32 fa, .int .u16 fp, .slice mA k mc]) rfl h51 [.int .u32 fa, .int .u16 fp, .slice mA k mc] rfl 40 _ #[.int .u32 fa, .int .u16 fp, .slice mA k mc] s1.2 sizeMl (ml_ones fa fp (.slice mA k mc) rfl) (Nat.le_refl 3) rfl hI.2.2 (by omega) (fun w2 h2 hb2 g2 => hp _ _ ⟨(hb2.2 w.heap.size (by omega)).trans hI.1, (hb2.2 RM (by have := HRM.out; omega)).trans hI.2.1, g2⟩ ⟨(hb2.2 (w.heap.size + 1) (by omega)).trans s1.1, h2⟩)
      · intro x w1 hI hd hs
        have HW : Hid (UbB w1 (w.heap.size + 1) most room pa pp vT lost 0 ∧ MlB w1 (w.heap.size + 2) fa fp (.slice mA k mc) ∧ Grow w w1) := ⟨hs.1, hs.2, hI.2.2⟩
        have h6 : x 6 = .int .i64 (k : Int) := hd 5 _ rfl (by decide)
        have h7 : x 7 = .int .i64 0 := hd 6 _ rfl (by decide)
        clear hd hs hI
        go_wp2_with fail
        refine bodyPost_ret (results_u4 rfl _ _ (w.heap.size + 1) (w.heap.size + 2) most room pa pp vT lost 0 fa fp (.slice mA k mc) _ _ rfl rfl rfl rfl HW.out.1 HW.out.2.1) rfl ?_
        exact ⟨vT, mA, k, mc, rfl, HFin.out _ HW.out, HBk.out, HW.out.2.2, HOb.out⟩
    · have d3 : decide ((mn : Int) < (N0 : Int)) = false := decide_eq_false (by omega)
      have d4 : decide (mn < N0) = false := decide_eq_false hcmp
      obtain rfl : k = N0 := by omega
      clear hk hcmp
      go_enter Try.func13, Try.ntmps13
      go_upto_region 1 with fail
      rw [← hW]
      have HW0 := Lib.hid hW
      clear hW
      go_upto_region 10 with fail
      rw [← hRM, ← hW9]
      have HW9 := Lib.hid hW9
      have HRM2 := Lib.hid hRM
      clear hW9 hRM x0 x1 x2 t4 t6
      go_upto_region 11 with fail
      rw [← hvT, ← hW10]
      have HW10 := Lib.hid hW10
      have HvT := Lib.hid hvT
      clear hW10 y4 f4 hvT
      go_upto_region 15 with fail
      rw [← hW11]
      have HW11 := Lib.hid hW11
      clear hW11 m2 fm
      refine wp_region_weave (A := ?frame15f1) [3, 4] (fun q => UbB q w.heap.size most room pa pp vT lost 0 ∧ MlB q RM fa fp (.slice mA k mc) ∧ Grow w q) (inVals (isW (.agg (ubA most room pa pp vT lost 0)) :: isW (.agg #[.int .u32 fa, .int .u16 fp, .slice mA k mc]) :: isW (.int .i64 (mn : Int)) :: isAll :: isAll :: isW (.int .i64 (mn : Int)) :: isW (.int .i64 0) :: [])) (fun j vs q => match j, vs with | 0, [] => UbB q (w.heap.size + 1) 0 0 0 0 (.slice none 0 0) 0 0 ∧ MlB q (w.heap.size + 2) 0 0 (.slice none 0 0) | 1, [_] => UbB q (w.heap.size + 1) most room pa pp vT lost 0 ∧ MlB q (w.heap.size + 2) 0 0 (.slice none 0 0) | 2, [_, _] => UbB q (w.heap.size + 1) most room pa pp vT lost 0 ∧ MlB q (w.heap.size + 2) fa fp (.slice mA k mc) | _, _ => False) (by kernel_rfl) (by kernel_rfl) (by kernel_rfl) (by kernel_rfl) (fun x => ?frameEq15f1) ⟨HD.out.1, HD.out.2.1, HD.out.2.2.2.2.trans (Grow.drew _)⟩ ⟨HD.out.2.2.1, HD.out.2.2.2.1⟩ ?_ ?_ ?_
      case frameEq15f1 => go_simp; rfl
      · refine ⟨fun _ x w1 hI hd post hp => ?_, fun _ x w1 hI hd post hp => ?_, fun _ x w1 hI hd post hp => ?_, fun hn => absurd hn (by decide), fun hn => absurd hn (by decide), fun _ x w1 hI hd post hp => ?_, fun _ x w1 hI hd post hp => ?_, trivial⟩
        · -- 0: slot 50: Op.load 37 t2
          clear hd
          have d0 := hI.1.c0
          have d1 := hI.1.c1
          have d2 := hI.1.c2
          have d3 := hI.1.c3
          have d4 := hI.1.c4
          have d5 := hI.1.c5
          have d6 := hI.1.c6
          go_simp
          exact hp _ rfl
        · -- 1: slot 51: Op.load 40 t9
          clear hd
          have d0 := hI.2.1.c0
          have d1 := hI.2.1.c1
          have d2 := hI.2.1.c2
          go_simp
          exact hp _ rfl
        · -- 2: slot 52: Op.move t10
          clear hd
          go_simp
          exact hp _ rfl
        · -- 5: slot 6: Op.assign t52
          have h52 : x 52 = .int .i64 (mn : Int) := hd 2 (by decide) (by decide) _ rfl
          clear hd
          go_simp
          exact hp _ rfl
        · -- 6: slot 7: Op.assign (const (0:i64))
          clear hd
          go_simp
          exact hp _ rfl
      · refine ⟨fun x w1 hI hd hs post hp => ?_, fun x w1 hI hd hs post hp => ?_, trivial⟩
        · -- 3: slot none:0: Op.store 37 t4 t50
          have h50 : x 50 = .agg (ubA most room pa pp vT lost 0) := hd 0 (by decide) (by decide) _ rfl
          clear hd
          have s0 : UbB w1 (w.heap.size + 1) 0 0 0 0 (.slice none 0 0) 0 0 ∧ MlB w1 (w.heap.size + 2) 0 0 (.slice none 0 0) := hs
          exact upon_cs w w1 rfl 37 (.tmp 4) (.tmp 50) rfl (w.heap.size + 1) 0 (.agg (ubA most room pa pp vT lost 0)) rfl h50 (ubA most room pa pp vT lost 0).toList rfl 37 _ (ubA most room pa pp vT lost 0) s0.1 sizeUb HON.out (Nat.le_refl 7) rfl hI.2.2 (by omega) (fun w2 h2 hb2 g2 => hp _ _ ⟨(hb2.2 w.heap.size (by omega)).trans hI.1, (hb2.2 RM (by have := HRM.out; omega)).trans hI.2.1, g2⟩ ⟨h2, (hb2.2 (w.heap.size + 2) (by omega)).trans s0.2⟩)
        · -- 4: slot none:1: Op.store 40 t5 t51
          have h51 : x 51 = .agg #[.int .u32 fa, .int .u16 fp, .slice mA k mc] := hd 1 (by decide) (by decide) _ rfl
          clear hd
          have s1 : UbB w1 (w.heap.size + 1) most room pa pp vT lost 0 ∧ MlB w1 (w.heap.size + 2) 0 0 (.slice none 0 0) := hs
          exact upon_cs w w1 rfl 40 (.tmp 5) (.tmp 51) rfl (w.heap.size + 2) 0 (.agg #[.int .u32 fa, .int .u16 fp, .slice mA k mc]) rfl h51 [.int .u32 fa, .int .u16 fp, .slice mA k mc] rfl 40 _ #[.int .u32 fa, .int .u16 fp, .slice mA k mc] s1.2 sizeMl (ml_ones fa fp (.slice mA k mc) rfl) (Nat.le_refl 3) rfl hI.2.2 (by omega) (fun w2 h2 hb2 g2 => hp _ _ ⟨(hb2.2 w.heap.size (by omega)).trans hI.1, (hb2.2 RM (by have := HRM.out; omega)).trans hI.2.1, g2⟩ ⟨(hb2.2 (w.heap.size + 1) (by omega)).trans s1.1, h2⟩)
      · intro x w1 hI hd hs
        have HW : Hid (UbB w1 (w.heap.size + 1) most room pa pp vT lost 0 ∧ MlB w1 (w.heap.size + 2) fa fp (.slice mA k mc) ∧ Grow w w1) := ⟨hs.1, hs.2, hI.2.2⟩
        have h6 : x 6 = .int .i64 (mn : Int) := hd 5 _ rfl (by decide)
        have h7 : x 7 = .int .i64 0 := hd 6 _ rfl (by decide)
        clear hd hs hI
        go_wp2_with fail
        refine bodyPost_ret (results_u4 rfl _ _ (w.heap.size + 1) (w.heap.size + 2) most room pa pp vT lost 0 fa fp (.slice mA k mc) _ _ rfl rfl rfl rfl HW.out.1 HW.out.2.1) rfl ?_
        exact ⟨vT, mA, k, mc, rfl, HFin.out _ HW.out, HBk.out, HW.out.2.2, HOb.out⟩
/-- What Take hands back. -/
def TkPost (w0 w : World) (base : Nat) (Q : Nat → Prop) (u : Ub) (n : Int) (e' : Ending) (w' : World) : Prop := ∃ v' A k c, e' = .returned (.tuple #[v', .agg #[.int .u32 (tkuM u n).f.ad, .int .u16 (tkuM u n).f.po, .slice A k c], .int .i64 (tkuN u n), .int .i64 (tkuE u n)]) ∧ RUb w0 w' base Q v' (tkuU u n) ∧ Byt w0 (.slice A k c) (tkuM u n).d ∧ Grow w w'
set_option maxRecDepth 10000 in
set_option maxHeartbeats 2000000 in
theorem rTakeU (w0 w : World) (hw0 : Grow w0 w) (base : Nat) (hbase : base ≤ w.heap.size) (Q : Nat → Prop) (v : Value) (u : Ub) (h : RUb w0 w base Q v u) (ok : UOk u) (n : Int) : Calls Try.prog 13 #[v, .int .i64 n] w fun e' w' => TkPost w0 w base Q u n e' w' := by
  obtain ⟨vL, l, rfl, hB, hl, hR, hq⟩ := h
  have HQ := Lib.hid hq
  clear hq
  obtain ⟨most, room, ⟨pa, pp⟩, L, lost, told⟩ := u
  simp only at hB hl
  subst hl
  obtain ⟨W, hW⟩ : ∃ W, W = ((w.alloc (.cells (ubA most room pa pp vL lost told) 37)).alloc (.cells (ubA 0 0 0 0 (.slice none 0 0) 0 0) 37)).alloc (.cells #[.int .u32 0, .int .u16 0, .slice none 0 0] 40) := ⟨_, rfl⟩
  obtain ⟨hT0, hWs⟩ := tkU w most room pa pp vL lost told hW
  have HT := Lib.hid hT0
  have HWs := Lib.hid hWs
  have HON := Lib.hid (fun x => ub_ones hB most room pa pp lost x)
  have HR := Lib.hid (And.intro hB hR)
  obtain ⟨R1, hR1⟩ : ∃ R1, R1 = w.heap.size + 1 := ⟨_, rfl⟩
  obtain ⟨R2, hR2⟩ : ∃ R2, R2 = R1 + 1 := ⟨_, rfl⟩
  have HR1 := Lib.hid hR1
  have HR2 : Hid (R2 = w.heap.size + 2) := Lib.hid (by omega)
  have HB0 := Lib.hid hbase
  clear hT0 hWs
  rcases tku_cases ⟨most, room, ⟨pa, pp⟩, l.map Mc.ml, lost, told⟩ n with ⟨q0, q1, q2, q3, q4⟩ | ⟨q0, q5, q1, q2, q3, q4⟩ | ⟨q0, q5, q6, q1, q2, q3, q4⟩ | ⟨q0, x, r, q5, q6, q1, q2, q3, q4⟩
  · have HE := Lib.hid (And.intro q1 (And.intro q2 (And.intro q3 q4)))
    have d1 : (told == 0) = false := beq_eq_false_iff_ne.2 q0
    have t6 := HT.out.t.c6
    have f6 := HT.out.t.fz 6
    obtain ⟨W6, hW6⟩ : ∃ W6, W6 = W.setCell ⟨w.heap.size, 6, none⟩ (.int .i64 0) := ⟨_, rfl⟩
    have H6 : Hid (TkU w W6 most room pa pp vL lost 0) := by rw [hW6]; exact HT.out.set6 0
    clear q0 q1 q2 q3 q4 hB hR ok
    go_enter Try.func13, Try.ntmps13
    go_upto_region 1 with fail
    rw [← hW, ← hR1, ← hR2]
    have HW0 := Lib.hid hW
    clear hW hR1 hR2
    go_upto_region 4 with fail
    rw [← hW6]
    have HW6 := Lib.hid hW6
    clear hW6 t6 f6
    go_wp2_with (first
      | (show wpList _ _ _ (⟨some 17, .load 37 (.tmp 2), _, _, _, _⟩ :: _) _ _; refine wpList_load_u W6 rfl _ rfl w.heap.size most room pa pp vL lost 0 rfl H6.out.t ?_)
      | (show wpList _ _ _ (⟨none, .store 37 (.tmp 4) (.tmp 17), _, _, _, _⟩ :: _) _ _; refine wpList_store_u w W6 rfl _ _ rfl rfl R1 most room pa pp vL lost 0 (ubA 0 0 0 0 (.slice none 0 0) 0 0) rfl rfl (by rw [HR1.out]; exact H6.out.r) rfl (HON.out 0) H6.out.g (by have := HR1.out; omega) ?_; intro w2 hb2 hk2 hg2; have H2 := Lib.hid (And.intro hb2 (And.intro hk2 hg2)); clear hb2 hk2 hg2)
      | (show wpList _ _ _ (⟨none, .store 40 (.tmp 5) (.tmp 18), _, _, _, _⟩ :: _) _ _; refine wpList_store_m w w2 rfl _ _ rfl rfl R2 0 0 (.slice none 0 0) #[.int .u32 0, .int .u16 0, .slice none 0 0] rfl rfl (by have := (H2.out.2.1.2 R2 (by have := HR1.out; have := HR2.out; omega)); rw [this, HR2.out]; exact H6.out.m) rfl rfl H2.out.2.2 (by have := HR2.out; omega) ?_; intro w3 hb3 hk3 hg3; have H3 := Lib.hid (And.intro (show UbB w3 R1 most room pa pp vL lost 0 from (hk3.2 R1 (by have := HR1.out; have := HR2.out; omega)).trans H2.out.1) (And.intro hb3 (And.intro hk3 hg3))); clear hb3 hk3 hg3))
    refine bodyPost_ret (results_u4 rfl _ _ R1 R2 most room pa pp vL lost 0 0 0 (.slice none 0 0) _ _ rfl rfl rfl rfl H3.out.1 H3.out.2.1) rfl ?_
    obtain ⟨e1, e2, e3, e4⟩ := HE.out
    refine ⟨_, none, 0, 0, by rw [e1, e2, e3]; rfl, by rw [e4]; exact ⟨_, l, rfl, HR.out.1.grow H3.out.2.2.2, rfl, HR.out.2, HQ.out⟩, by rw [e2]; exact Byt.nil _, H3.out.2.2.2⟩
  · have q0' : told = 0 := q0
    subst q0'
    have e0 : l = [] := by cases l with | nil => rfl | cons a b => exact absurd q5 (by simp)
    subst e0
    simp only [List.map_nil] at q1 q2 q3 q4
    have HE := Lib.hid (And.intro q1 (And.intro q2 (And.intro q3 q4)))
    obtain ⟨A, cp, hvb, -⟩ := hB.form
    have hvb : vL = .slice A 0 cp := hvb
    have t6 := HT.out.t.c6
    have t4 := HT.out.t.c4
    rw [hvb] at t4
    clear q0 q1 q2 q3 q4 q5 hB hR ok
    subst hvb
    go_enter Try.func13, Try.ntmps13
    go_upto_region 1 with fail
    rw [← hW, ← hR1, ← hR2]
    have HW0 := Lib.hid hW
    clear hW hR1 hR2
    go_wp2_with (first
      | (show wpList _ _ _ (⟨some 24, .load 37 (.tmp 2), _, _, _, _⟩ :: _) _ _; refine wpList_load_u W rfl _ rfl w.heap.size most room pa pp (.slice A 0 cp) lost 0 rfl HT.out.t ?_)
      | (show wpList _ _ _ (⟨none, .store 37 (.tmp 4) (.tmp 24), _, _, _, _⟩ :: _) _ _; refine wpList_store_u w W rfl _ _ rfl rfl R1 most room pa pp (.slice A 0 cp) lost 0 (ubA 0 0 0 0 (.slice none 0 0) 0 0) rfl rfl (by rw [HR1.out]; exact HT.out.r) rfl (HON.out 0) HT.out.g (by have := HR1.out; omega) ?_; intro w2 hb2 hk2 hg2; have H2 := Lib.hid (And.intro hb2 (And.intro hk2 hg2)); clear hb2 hk2 hg2)
      | (show wpList _ _ _ (⟨none, .store 40 (.tmp 5) (.tmp 25), _, _, _, _⟩ :: _) _ _; refine wpList_store_m w w2 rfl _ _ rfl rfl R2 0 0 (.slice none 0 0) #[.int .u32 0, .int .u16 0, .slice none 0 0] rfl rfl (by have := (H2.out.2.1.2 R2 (by have := HR1.out; have := HR2.out; omega)); rw [this, HR2.out]; exact HT.out.m) rfl rfl H2.out.2.2 (by have := HR2.out; omega) ?_; intro w3 hb3 hk3 hg3; have H3 := Lib.hid (And.intro (show UbB w3 R1 most room pa pp (.slice A 0 cp) lost 0 from (hk3.2 R1 (by have := HR1.out; have := HR2.out; omega)).trans H2.out.1) (And.intro hb3 (And.intro hk3 hg3))); clear hb3 hk3 hg3))
    refine bodyPost_ret (results_u4 rfl _ _ R1 R2 most room pa pp (.slice A 0 cp) lost 0 0 0 (.slice none 0 0) _ _ rfl rfl rfl rfl H3.out.1 H3.out.2.1) rfl ?_
    obtain ⟨e1, e2, e3, e4⟩ := HE.out
    refine ⟨_, none, 0, 0, by rw [e1, e2, e3]; rfl, by rw [e4]; exact ⟨_, [], rfl, HR.out.1.grow H3.out.2.2.2, rfl, HR.out.2, HQ.out⟩, by rw [e2]; exact Byt.nil _, H3.out.2.2.2⟩
  · have HE := Lib.hid (And.intro q1 (And.intro q2 (And.intro q3 q4)))
    have q0' : told = 0 := q0
    subst q0'
    have hlp : 0 < l.length := by
      rcases Nat.eq_zero_or_pos l.length with z | z
      · exact absurd (show l.map Mc.ml = [] by rw [List.eq_nil_of_length_eq_zero z]; rfl) q5
      · exact z
    obtain ⟨A, cp, hvb, _⟩ := hB.form
    obtain ⟨N, hN⟩ : ∃ N, N = l.length := ⟨_, rfl⟩
    rw [← hN] at hvb hlp
    have d1 : ((N : Int) == 0) = false := by rw [beq_eq_false_iff_ne]; omega
    have d2 : decide (n < 0) = true := decide_eq_true q6
    have t6 := HT.out.t.c6
    have t4 := HT.out.t.c4
    rw [hvb] at t4
    clear q0 q1 q2 q3 q4 q5 q6 hB hR ok hN
    subst hvb
    go_enter Try.func13, Try.ntmps13
    go_upto_region 1 with fail
    rw [← hW, ← hR1, ← hR2]
    have HW0 := Lib.hid hW
    clear hW hR1 hR2
    go_wp2_with (first
      | (show wpList _ _ _ (⟨some 28, .load 37 (.tmp 2), _, _, _, _⟩ :: _) _ _; refine wpList_load_u W rfl _ rfl w.heap.size most room pa pp (.slice A N cp) lost 0 rfl HT.out.t ?_)
      | (show wpList _ _ _ (⟨none, .store 37 (.tmp 4) (.tmp 28), _, _, _, _⟩ :: _) _ _; refine wpList_store_u w W rfl _ _ rfl rfl R1 most room pa pp (.slice A N cp) lost 0 (ubA 0 0 0 0 (.slice none 0 0) 0 0) rfl rfl (by rw [HR1.out]; exact HT.out.r) rfl (HON.out 0) HT.out.g (by have := HR1.out; omega) ?_; intro w2 hb2 hk2 hg2; have H2 := Lib.hid (And.intro hb2 (And.intro hk2 hg2)); clear hb2 hk2 hg2)
      | (show wpList _ _ _ (⟨none, .store 40 (.tmp 5) (.tmp 29), _, _, _, _⟩ :: _) _ _; refine wpList_store_m w w2 rfl _ _ rfl rfl R2 0 0 (.slice none 0 0) #[.int .u32 0, .int .u16 0, .slice none 0 0] rfl rfl (by have := (H2.out.2.1.2 R2 (by have := HR1.out; have := HR2.out; omega)); rw [this, HR2.out]; exact HT.out.m) rfl rfl H2.out.2.2 (by have := HR2.out; omega) ?_; intro w3 hb3 hk3 hg3; have H3 := Lib.hid (And.intro (show UbB w3 R1 most room pa pp (.slice A N cp) lost 0 from (hk3.2 R1 (by have := HR1.out; have := HR2.out; omega)).trans H2.out.1) (And.intro hb3 (And.intro hk3 hg3))); clear hb3 hk3 hg3))
    refine bodyPost_ret (results_u4 rfl _ _ R1 R2 most room pa pp (.slice A N cp) lost 0 0 0 (.slice none 0 0) _ _ rfl rfl rfl rfl H3.out.1 H3.out.2.1) rfl ?_
    obtain ⟨e1, e2, e3, e4⟩ := HE.out
    refine ⟨_, none, 0, 0, by rw [e1, e2, e3]; rfl, by rw [e4]; exact ⟨_, l, rfl, HR.out.1.grow H3.out.2.2.2, rfl, HR.out.2, HQ.out⟩, by rw [e2]; exact Byt.nil _, H3.out.2.2.2⟩
  · have q0' : told = 0 := q0
    subst q0'
    cases l with
    | nil => cases q5
    | cons y s =>
      obtain ⟨z1, z2⟩ := List.cons.inj q5
      obtain ⟨N0, rfl⟩ : ∃ N0 : Nat, n = (N0 : Int) := ⟨n.toNat, by omega⟩
      refine (rTakeU_ok w0 w hw0 base hbase most room pa pp lost vL y s hB hR N0).mono ?_
      rintro e' w' ⟨vT, A, k, c, rfl, h1, h2, h3, h4⟩
      have hyn : y.n = y.d.length := hR.len List.mem_cons_self
      rw [← z1] at q2 q3
      refine ⟨_, A, k, c, by rw [q1, q2, q3]; show Ending.returned (.tuple #[_, _, .int .i64 (y.n : Int), _]) = _; rw [hyn]; rfl, by rw [q4]; exact ⟨vT, s, rfl, h1, z2, fun x hx => hR x (List.mem_cons_of_mem _ hx), fun kk hk => HQ.out kk (h4 ▸ hk)⟩, by rw [q2]; exact h2, h3⟩
end Go.Proofs.Ytkblgigpgpjjlaa
