/- Contract: the reference's Meet. -/
import Derived.Test.YtkblgigpgpjjlaaUdRef3
namespace Go.Proofs.Ytkblgigpgpjjlaa
set_option linter.unusedVariables false
set_option linter.unusedSimpArgs false
attribute [local irreducible] wpQuiet
open Go.ChangeShapes Go.WideShapes Go.ChangeAt Go.RowKit

/-- The boxes of Meet: the box that came in, the end, the box that goes out. -/
structure MtU (w W : World) (most room pa pp : Int) (vL : Value) (lost told ea ep : Int) : Prop where
  t : UbB W w.heap.size most room pa pp vL lost told
  e : W.heap[w.heap.size + 1]? = some (.cells #[.int .u32 ea, .int .u16 ep] 34 (0, 0))
  r : UbB W (w.heap.size + 2) 0 0 0 0 (.slice none 0 0) 0 0
  g : Grow w W
theorem mtU (w : World) (most room pa pp : Int) (vL : Value) (lost told ea ep : Int) {W : World} (hW : W = ((w.alloc (.cells (ubA most room pa pp vL lost told) 37)).alloc (.cells #[.int .u32 ea, .int .u16 ep] 34)).alloc (.cells (ubA 0 0 0 0 (.slice none 0 0) 0 0) 37)) : MtU w W most room pa pp vL lost told ea ep := by
  obtain ⟨U, hU⟩ : ∃ U, U = w.alloc (.cells (ubA most room pa pp vL lost told) 37) := ⟨_, rfl⟩
  obtain ⟨V, hV⟩ : ∃ V, V = U.alloc (.cells #[.int .u32 ea, .int .u16 ep] 34) := ⟨_, rfl⟩
  rw [← hU, ← hV] at hW
  have s1 : U.heap.size = w.heap.size + 1 := by rw [hU]; exact Array.size_push _
  have s2 : V.heap.size = w.heap.size + 2 := by rw [hV]; show (U.heap.push _).size = _; rw [Array.size_push, s1]
  have gU : Grow w U := by rw [hU]; exact Grow.alloc _ _
  have gV : Grow U V := by rw [hV]; exact Grow.alloc _ _
  have gW : Grow V W := by rw [hW]; exact Grow.alloc _ _
  have h1 : UbB U w.heap.size most room pa pp vL lost told := by rw [hU]; exact heap_alloc_new w _
  have h2 : V.heap[w.heap.size + 1]? = some (.cells #[.int .u32 ea, .int .u16 ep] 34 (0, 0)) := by rw [hV, ← s1]; exact heap_alloc_new U _
  have h3 : UbB W (w.heap.size + 2) 0 0 0 0 (.slice none 0 0) 0 0 := by rw [hW, ← s2]; exact heap_alloc_new V _
  exact ⟨h1.grow (gV.trans gW), (gW.block _ (Array.getElem?_eq_some_iff.1 h2).1).trans h2, h3, gU.trans (gV.trans gW)⟩
section
variable {w W W' : World} {most room pa pp lost told ea ep : Int} {vL : Value}
theorem MtU.grow (h : MtU w W most room pa pp vL lost told ea ep) (g : Grow W W') : MtU w W' most room pa pp vL lost told ea ep := ⟨h.t.grow g, (g.block _ (Array.getElem?_eq_some_iff.1 h.e).1).trans h.e, h.r.grow g, h.g.trans g⟩
theorem MtU.setp (h : MtU w W most room pa pp vL lost told ea ep) : MtU w ((W.setCell ⟨w.heap.size, 2, none⟩ (.int .u32 ea)).setCell ⟨w.heap.size, 3, none⟩ (.int .u16 ep)) most room ea ep vL lost told ea ep := by
  have a : ∀ (V : World) (i : Nat) (u : Value) (b : Nat), b ≠ w.heap.size → (V.setCell ⟨w.heap.size, i, none⟩ u).heap[b]? = V.heap[b]? := fun V i u b hb => Below.heap_setCell _ _ _ _ hb
  refine ⟨heap_setCell_own (heap_setCell_own h.t _) _, ?_, ?_, Below.setCell (Below.setCell h.g (Nat.le_refl _) _) (Nat.le_refl _) _⟩
  · rw [a _ _ _ _ (by omega), a _ _ _ _ (by omega)]; exact h.e
  · unfold UbB; rw [a _ _ _ _ (by omega), a _ _ _ _ (by omega)]; exact h.r
theorem MtU.set4 (h : MtU w W most room pa pp vL lost told ea ep) (u : Value) : MtU w (W.setCell ⟨w.heap.size, 4, none⟩ u) most room pa pp u lost told ea ep :=
  ⟨h.t.set4 u, (Below.heap_setCell _ _ _ _ (by simp)).trans h.e, (Below.heap_setCell _ _ _ _ (by simp)).trans h.r, Below.setCell h.g (Nat.le_refl _) u⟩
theorem MtU.set5 (h : MtU w W most room pa pp vL lost told ea ep) (n : Int) : MtU w (W.setCell ⟨w.heap.size, 5, none⟩ (.int .i64 n)) most room pa pp vL n told ea ep :=
  ⟨h.t.set5 n, (Below.heap_setCell _ _ _ _ (by simp)).trans h.e, (Below.heap_setCell _ _ _ _ (by simp)).trans h.r, Below.setCell h.g (Nat.le_refl _) _⟩
end
theorem OwG.form_ {α : Type} {c : Cel α} {T : TypeId} {w : World} {base : Nat} {v : Value} {l : List α} (h : OwG c T w base v l) : ∃ A cp, v = .slice A l.length cp ∧ l.length ≤ cp ∧ cp ≤ maxLen := (OwG.rd h).form
theorem run_mcapp (w : World) (base : Nat) (v : Value) (l : List Mc) (x : Mc) (h : Mcw w base v l) (hb : base ≤ w.heap.size) (hl : l.length ≤ 1000000) {ops : Array Oper} {rest : List Oper} {o : Oper} {a : Act} {Q : Exit → Act → World → Prop} (hgd : o.guard = none) (s u : Operand)
    (ho : o.op = .call { callee := .builtin .append, args := #[s, u], argTypes := #[35, 35] }) (hs : a.eval s = v) (hx : a.eval u = .slice (some ⟨w.heap.size, 0, none⟩) 1 1)
    (hK : ∀ v5 w5, Mcw w5 base v5 (l ++ [x]) → w.grownBy w5 v.ownBlock → wpList Try.prog ops Q rest (a.put o.dst v5) w5) : wpList Try.prog ops Q (o :: rest) a (w.alloc (.cells #[.int .u32 x.f.ad, .int .u16 x.f.po, .slice x.A x.n x.c] 40)) := by
  have g1 : Grow w (w.alloc (.cells #[.int .u32 x.f.ad, .int .u16 x.f.po, .slice x.A x.n x.c] 40)) := Grow.alloc _ _
  have hlit : RdG mcC (w.alloc (.cells #[.int .u32 x.f.ad, .int .u16 x.f.po, .slice x.A x.n x.c] 40)) (.slice (some ⟨w.heap.size, 0, none⟩) 1 1) [x] := (owg_lit1 (c := mcC) (T := 40) w x #[.int .u32 x.f.ad, .int .u16 x.f.po, .slice x.A x.n x.c] rfl _ rfl).rd
  refine wpList_appK _ hgd s u 35 ho 40 _ 3 32 Try.underlying35 infoMl rfl (by decide) base v _ l.length 1 _ _ hs hx (h.grow g1) hlit (mcC.ones [x]) (by omega) (by unfold maxLen; omega) (Nat.le_trans hb g1.size) ?_
  intro v5 w5 ho5 hg5 _
  exact hK v5 w5 (owg_app (c := mcC) (l := l) (l' := [x]) ho5 rfl) ⟨hg5.os, hg5.tape, hg5.output, Nat.le_trans g1.size hg5.size, fun b hb2 hne => (hg5.block b (Nat.lt_of_lt_of_le hb2 g1.size) hne).trans (g1.block b hb2)⟩
theorem MtU.mv {w W W' : World} {most room pa pp lost told ea ep : Int} {vL v : Value} {l : List Mc} (h : MtU w W most room pa pp vL lost told ea ep) (hg : W.grownBy W' v.ownBlock) (hv : Mcw W w.heap.size v l) : MtU w W' most room pa pp vL lost told ea ep := by
  have hne : ∀ (b : Nat) (cs : Array Value) (T : TypeId), W.heap[b]? = some (.cells cs T (0, 0)) → T ≠ 40 → W'.heap[b]? = W.heap[b]? := fun b cs T hh hT => hg.block b (Array.getElem?_eq_some_iff.1 hh).1 fun e => by
    obtain ⟨cs2, h2, _⟩ := ownsRow_blk hv e.symm
    rw [hh] at h2
    injection h2 with h2
    injection h2 with _ h2
    exact hT h2
  exact ⟨(hne _ _ _ h.t (by decide)).trans h.t, (hne _ _ _ h.e (by decide)).trans h.e, (hne _ _ _ h.r (by decide)).trans h.r, h.g.grown hg h.g.size fun b e => (ownsRow_blk hv e).elim fun _ q => q.2⟩
/-- The datagrams that are let in, of the first ones. -/
def letC (e : Ed) (l : List Mc) : List Mc := l.filter fun m => decide (letsS e m.f)
theorem letC_ml (e : Ed) (l : List Mc) : (letC e l).map Mc.ml = letL e (l.map Mc.ml) := by
  unfold letC letL
  rw [List.filter_map]
  rfl
theorem letC_next {e : Ed} {l : List Mc} {i : Nat} {x : Mc} (h : l[i]? = some x) : letC e (l.take (i + 1)) = letC e (l.take i) ++ if letsS e x.f then [x] else [] := by
  unfold letC
  have hl := (List.getElem?_eq_some_iff.1 h).1
  rw [List.take_succ_eq_append_getElem hl, (List.getElem?_eq_some_iff.1 h).2, List.filter_append]
  congr 1
  by_cases q : letsS e x.f
  · rw [if_pos q, List.filter_cons_of_pos (by simpa using q)]
    rfl
  · rw [if_neg q, List.filter_cons_of_neg (by simpa using q)]
    rfl
theorem letC_le (e : Ed) (l : List Mc) : (letC e l).length ≤ l.length := List.length_filter_le _ _
/-- Where Meet stands: i datagrams looked at. -/
structure MtAt (w wr : World) (most room : Int) (vL : Value) (lost told : Int) (e : Ed) (l : List Mc) (i : Nat) (vN : Value) : Prop where
  t : MtU w wr most room e.ad e.po vL (lost + ((i - (letC e (l.take i)).length : Nat) : Int)) told e.ad e.po
  row : Mcw wr w.heap.size vN (letC e (l.take i))
set_option maxRecDepth 10000 in
set_option maxHeartbeats 2000000 in
theorem rMeetU (w0 w : World) (hw0 : Grow w0 w) (base : Nat) (hbase : base ≤ w.heap.size) (Q : Nat → Prop) (hQ : ∀ k, w.heap.size ≤ k → Q k) (v : Value) (u : Ub) (h : RUb w0 w base Q v u) (ok : UOk u) (hlo : 0 ≤ u.lost ∧ u.lost ≤ 1000000000) (e : Ed) : Calls Try.prog 16 #[v, .agg #[.int .u32 e.ad, .int .u16 e.po]] w fun e' w' => ∃ v', e' = .returned (.tuple #[v', .int .i64 (meE e)]) ∧ RUb w0 w' base Q v' (meU u e) ∧ Grow w w' := by
  obtain ⟨vL, l, rfl, hB, hl, hR, hq⟩ := h
  have HQ := Lib.hid (And.intro hQ hq)
  clear hQ hq
  obtain ⟨most, room, ⟨pa, pp⟩, L, lost, told⟩ := u
  obtain ⟨ea, ep⟩ := e
  simp only at hB hl
  subst hl
  have o1 := ok.len
  have o3 := ok.most
  simp only [List.length_map] at o1 o3 hlo
  obtain ⟨W, hW⟩ : ∃ W, W = ((w.alloc (.cells (ubA most room pa pp vL lost told) 37)).alloc (.cells #[.int .u32 ea, .int .u16 ep] 34)).alloc (.cells (ubA 0 0 0 0 (.slice none 0 0) 0 0) 37) := ⟨_, rfl⟩
  have HT := Lib.hid (mtU w most room pa pp vL lost told ea ep hW)
  obtain ⟨RB, hRB⟩ : ∃ RB, RB = w.heap.size + 2 := ⟨_, rfl⟩
  have hRB1 : RB = w.heap.size + 1 + 1 := hRB
  have HRB := Lib.hid hRB
  have HR := Lib.hid (And.intro hB hR)
  have z0 : W.cell? ⟨w.heap.size + 1, 0, none⟩ = some (.int .u32 ea) := (cell_of_row W _ 0 _ _ _ HT.out.e).trans rfl
  have z1 : W.cell? ⟨w.heap.size + 1, 1, none⟩ = some (.int .u16 ep) := (cell_of_row W _ 1 _ _ _ HT.out.e).trans rfl
  by_cases hbad : badE ⟨ea, ep⟩
  · have HE : Hid (meE ⟨ea, ep⟩ = 8 ∧ meU ⟨most, room, ⟨pa, pp⟩, l.map Mc.ml, lost, told⟩ ⟨ea, ep⟩ = ⟨most, room, ⟨pa, pp⟩, l.map Mc.ml, lost, told⟩) := Lib.hid ⟨if_pos hbad, if_pos hbad⟩
    have H1 := Lib.hid (ub_ones hB most room pa pp lost told)
    have b1 : ep = 0 := hbad.1
    have b2 : (ea == 0) = false := beq_eq_false_iff_ne.2 hbad.2
    subst b1
    clear hbad hB hR ok o1 o3 hRB
    go_enter Try.func16, Try.ntmps16
    go_upto_region 1 with fail
    rw [← hW, ← hRB1]
    have HW := Lib.hid hW
    clear hW hRB1
    go_wp2_with (first
      | (show wpList _ _ _ (⟨some 16, .load 37 (.tmp 2), _, _, _, _⟩ :: _) _ _; refine wpList_load_u W rfl _ rfl w.heap.size most room pa pp vL lost told rfl HT.out.t ?_)
      | (show wpList _ _ _ (⟨none, .store 37 (.tmp 4) (.tmp 16), _, _, _, _⟩ :: _) _ _; refine wpList_store_u w W rfl _ _ rfl rfl RB most room pa pp vL lost told (ubA 0 0 0 0 (.slice none 0 0) 0 0) rfl rfl (by rw [HRB.out]; exact HT.out.r) rfl H1.out HT.out.g (by have := HRB.out; omega) ?_; intro w2 hb2 hk2 hg2; have H2 := Lib.hid (And.intro hb2 (And.intro hk2 hg2)); clear hb2 hk2 hg2))
    refine bodyPost_ret (results_u2 rfl _ _ RB most room pa pp vL lost told _ rfl rfl H2.out.1) rfl ?_
    exact ⟨_, by rw [HE.out.1]; rfl, by rw [HE.out.2]; exact ⟨_, l, rfl, HR.out.1.grow H2.out.2.2, rfl, HR.out.2, HQ.out.2⟩, H2.out.2.2⟩
  have HE : Hid (meE ⟨ea, ep⟩ = 0 ∧ meU ⟨most, room, ⟨pa, pp⟩, l.map Mc.ml, lost, told⟩ ⟨ea, ep⟩ = ⟨most, room, ⟨ea, ep⟩, (letC ⟨ea, ep⟩ l).map Mc.ml, lost + ((l.length - (letC ⟨ea, ep⟩ l).length : Nat) : Int), told⟩) := Lib.hid ⟨if_neg hbad, (if_neg hbad).trans (by rw [← letC_ml, List.length_map, List.length_map])⟩
  have hd : (ep == 0) = false ∨ (ep = 0 ∧ ea = 0) := by
    by_cases q : ep = 0
    · by_cases q2 : ea = 0
      · exact .inr ⟨q, q2⟩
      · exact absurd ⟨q, q2⟩ hbad
    · exact .inl (beq_eq_false_iff_ne.2 q)
  obtain ⟨N, hN⟩ : ∃ N, N = l.length := ⟨_, rfl⟩
  obtain ⟨A, cp, hvb, -⟩ := hB.form
  rw [← hN] at hvb
  obtain ⟨W3, hW3⟩ : ∃ W3, W3 = (W.setCell ⟨w.heap.size, 2, none⟩ (.int .u32 ea)).setCell ⟨w.heap.size, 3, none⟩ (.int .u16 ep) := ⟨_, rfl⟩
  have H0 : Hid (MtAt w W3 most room vL lost told ⟨ea, ep⟩ l 0 (.slice none 0 0)) := ⟨by rw [hW3]; have := HT.out.setp; simpa using this, owg_none _ _⟩
  have HN : Hid (N = l.length ∧ N ≤ 64 ∧ 0 ≤ lost ∧ lost ≤ 1000000000 ∧ base ≤ w.heap.size) := Lib.hid ⟨hN, by omega, hlo.1, hlo.2, hbase⟩
  have y0 := HT.out.t.c2
  have y1 := HT.out.t.c3
  have f0 := HT.out.t.fz 2
  have f1 := HT.out.t.fz 3
  subst hvb
  clear hbad hB hR ok o1 o3 hRB hN hlo
  rcases hd with hd | ⟨hd1, hd2⟩
  · go_enter Try.func16, Try.ntmps16
    go_upto_region 1 with fail
    rw [← hW, ← hRB1]
    have HW := Lib.hid hW
    clear hW hRB1
    go_upto_region 4 with fail
    rw [← hW3]
    have HW3 := Lib.hid hW3
    clear hW3 z0 z1 y0 y1 f0 f1
    go_wp2_with fail
    go_loopg [6, 7] N (fun gk s6 s7 wr => ∃ (i : Nat) (A1 : Option Addr) (n1 c1 : Nat), gk = N - i ∧ s6 = .slice A1 n1 c1 ∧ s7 = .int .i64 (i : Int) ∧ Hid (i ≤ N ∧ n1 = (letC ⟨ea, ep⟩ (l.take i)).length ∧ MtAt w wr most room (.slice A N cp) lost told ⟨ea, ep⟩ l i (.slice A1 n1 c1)))
    case atStart => exact ⟨0, none, 0, 0, rfl, rfl, rfl, Nat.zero_le _, rfl, H0.out⟩
    case round =>
      obtain ⟨i, A1, n1, c1, rfl, rfl, rfl, HRi⟩ := hrel
      rename World => wo
      clear H0
      obtain ⟨LO, hLO⟩ : ∃ LO : Int, LO = lost + ((i - (letC ⟨ea, ep⟩ (l.take i)).length : Nat) : Int) := ⟨_, rfl⟩
      have HLO := Lib.hid hLO
      have HTi : Hid (MtU w wo most room ea ep (.slice A N cp) LO told ea ep) := by rw [hLO]; exact HRi.out.2.2.t
      clear hLO
      have t4 := HTi.out.t.c4
      rcases Nat.lt_or_ge i N with hlt | hge
      · have i0 : (i : Int) < (N : Int) := by omega
        obtain ⟨x, hx⟩ : ∃ x, l[i]? = some x := ⟨_, List.getElem?_eq_getElem (by have := HN.out.1; omega)⟩
        have hnx := letC_next (e := ⟨ea, ep⟩) hx
        obtain ⟨b, off, cc, e1, hbl, hc⟩ := mc_cells (HR.out.1.grow HTi.out.g).rd (by have := HN.out.1; omega)
        have e2 : A = some ⟨b, off, none⟩ := by injection e1
        subst e2
        obtain ⟨x0, x1, x2⟩ := hc i x hx
        obtain ⟨⟨xa, xp⟩, xA, xn, xc, xd⟩ := x
        simp only at x0 x1 x2 hnx
        have iL : i < N := hlt
        have k0 := fun q : Gw wo => Gw.cell (p := q) (a := ⟨w.heap.size, 0, none⟩) HTi.out.t.lt HTi.out.t.c0
        have k1 := fun q : Gw wo => Gw.cell (p := q) (a := ⟨w.heap.size, 1, none⟩) HTi.out.t.lt HTi.out.t.c1
        have k2 := fun q : Gw wo => Gw.cell (p := q) (a := ⟨w.heap.size, 2, none⟩) HTi.out.t.lt HTi.out.t.c2
        have k3 := fun q : Gw wo => Gw.cell (p := q) (a := ⟨w.heap.size, 3, none⟩) HTi.out.t.lt HTi.out.t.c3
        have k4 := fun q : Gw wo => Gw.cell (p := q) (a := ⟨w.heap.size, 4, none⟩) HTi.out.t.lt HTi.out.t.c4
        have k5 := fun q : Gw wo => Gw.cell (p := q) (a := ⟨w.heap.size, 5, none⟩) HTi.out.t.lt HTi.out.t.c5
        have k6 := fun q : Gw wo => Gw.cell (p := q) (a := ⟨w.heap.size, 6, none⟩) HTi.out.t.lt HTi.out.t.c6
        have j0 := fun q : Gw wo => Gw.cell (p := q) (a := ⟨b, off + i * 3, none⟩) hbl x0
        have j1 := fun q : Gw wo => Gw.cell (p := q) (a := ⟨b, off + i * 3 + 1, none⟩) hbl x1
        have HX := Lib.hid (And.intro hlt (And.intro hx (And.intro hnx (And.intro x0 (And.intro x1 (And.intro x2 hbl))))))
        by_cases hin : letsS ⟨ea, ep⟩ ⟨xa, xp⟩
        · have cL : ∀ q : Gw wo, _ := fun q => Calls.gw (p := q) (by have := rLetsU q.v most room ea ep (.slice (some ⟨b, off, none⟩) N cp) LO told ⟨xa, xp⟩; rwa [decide_eq_true hin] at this)
          have HIn := Lib.hid hin
          clear e1 hc hx hnx x0 x1 x2 hbl hlt hin
          go_upto_region 8 with fail
          refine wp_region_gw (by kernel_rfl) (by kernel_rfl) ?_
          repeat (go_big_quiet_step ((go_at_call 26; exact cL _)))
          refine wpQuiet_nil ?_
          intro _ hw'
          obtain ⟨⟨wq, hgq⟩, hw2'⟩ := hw'
          subst hw2'
          rename World => wq
          have HTq := Lib.hid (HTi.out.grow hgq)
          have HRq := Lib.hid (OwG.grow HRi.out.2.2.row hgq)
          have m0 := (hgq.cell (p := ⟨b, off + i * 3, none⟩) HX.out.2.2.2.2.2.2).trans HX.out.2.2.2.1
          have m1 := (hgq.cell (p := ⟨b, off + i * 3 + 1, none⟩) HX.out.2.2.2.2.2.2).trans HX.out.2.2.2.2.1
          have m2 := (hgq.cell (p := ⟨b, off + i * 3 + 2, none⟩) HX.out.2.2.2.2.2.2).trans HX.out.2.2.2.2.2.1
          have t4 := HTq.out.t.c4
          have HGq := Lib.hid hgq
          clear hgq k0 k1 k2 k3 k4 k5 k6 j0 j1 cL
          have HLn : Hid (n1 = (letC ⟨ea, ep⟩ (l.take i)).length ∧ n1 ≤ 64) := Lib.hid ⟨HRi.out.2.1, by have h1 := HRi.out.2.1; have h2 := letC_le ⟨ea, ep⟩ (l.take i); have h3 := HN.out.2.1; have h4 := List.length_take_le i l; have := HRi.out.1; omega⟩
          go_wp2_with (at_builtin; refine run_mcapp wq w.heap.size (.slice A1 n1 c1) (letC ⟨ea, ep⟩ (l.take i)) ⟨⟨xa, xp⟩, xA, xn, xc, xd⟩ HRq.out HTq.out.g.size (by have := HLn.out; omega) rfl (.tmp 34) (.tmp 40) rfl rfl rfl ?_; intro v5 w5 hr5 hg5; obtain ⟨A5, c5, hv5, -⟩ := OwG.form_ hr5; obtain ⟨n5, hn5⟩ : ∃ n5, n5 = (letC ⟨ea, ep⟩ (l.take i) ++ [(⟨⟨xa, xp⟩, xA, xn, xc, xd⟩ : Mc)]).length := ⟨_, rfl⟩; rw [← hn5] at hv5; subst hv5; have H5 : Hid (n5 = (letC ⟨ea, ep⟩ (l.take (i + 1))).length ∧ MtAt w w5 most room (.slice (some ⟨b, off, none⟩) N cp) lost told ⟨ea, ep⟩ l (i + 1) (.slice A5 n5 c5)) := by {
            have hin : letsS ⟨ea, ep⟩ ⟨xa, xp⟩ := HIn.out
            have e3 := HX.out.2.2.1
            rw [if_pos hin] at e3
            refine ⟨by rw [e3]; exact hn5, ?_, by rw [e3]; exact hr5⟩
            have hle := letC_le ⟨ea, ep⟩ (l.take i)
            have h4 := List.length_take_le i l
            have e4 : lost + ((i + 1 - (letC ⟨ea, ep⟩ (l.take (i + 1))).length : Nat) : Int) = LO := by
              rw [e3, List.length_append, List.length_singleton, HLO.out]
              congr 2
              omega
            rw [e4]
            exact HTq.out.mv hg5 HRq.out }; clear hr5 hg5 hn5)
          go_roundg (N - (i + 1))
          case measure => have := HX.out.1; omega
          case rel => exact ⟨i + 1, _, _, _, rfl, rfl, by first | rfl | (rw [IntWalk.wrap64_in _ (by have := HX.out.1; have := HN.out.2.1; omega)]; rfl), by have := HX.out.1; omega, H5.out.1, H5.out.2⟩
        · have cL : ∀ q : Gw wo, _ := fun q => Calls.gw (p := q) (by have := rLetsU q.v most room ea ep (.slice (some ⟨b, off, none⟩) N cp) LO told ⟨xa, xp⟩; rwa [decide_eq_false hin] at this)
          have HIn := Lib.hid hin
          clear e1 hc hx hnx x0 x1 x2 hbl hlt hin
          go_upto_region 8 with fail
          refine wp_region_gw (by kernel_rfl) (by kernel_rfl) ?_
          repeat (go_big_quiet_step ((go_at_call 26; exact cL _)))
          refine wpQuiet_nil ?_
          intro _ hw'
          obtain ⟨⟨wq, hgq⟩, hw2'⟩ := hw'
          subst hw2'
          rename World => wq
          have HTq := Lib.hid (HTi.out.grow hgq)
          have HRq := Lib.hid (OwG.grow HRi.out.2.2.row hgq)
          have t5 := HTq.out.t.c5
          have f5 := HTq.out.t.fz 5
          have w5 : IntKind.i64.wrap (LO + 1) = LO + 1 := IntWalk.i64_in _ (by have h1 := HLO.out; have h3 := HN.out; have := HRi.out.1; omega)
          clear hgq k0 k1 k2 k3 k4 k5 k6 j0 j1 cL t4
          obtain ⟨W6, hW6⟩ : ∃ W6, W6 = wq.setCell ⟨w.heap.size, 5, none⟩ (.int .i64 (LO + 1)) := ⟨_, rfl⟩
          have HR6 : Mcw W6 w.heap.size (.slice A1 n1 c1) (letC ⟨ea, ep⟩ (l.take i)) := by
            rw [hW6]
            refine OwG.other HRq.out fun b cs hh => Below.heap_setCell _ _ _ _ fun e => ?_
            have e : b = w.heap.size := e
            subst e
            exact absurd (block_ty HTq.out.t hh rfl) (by decide)
          have H5 : Hid (n1 = (letC ⟨ea, ep⟩ (l.take (i + 1))).length ∧ MtAt w W6 most room (.slice (some ⟨b, off, none⟩) N cp) lost told ⟨ea, ep⟩ l (i + 1) (.slice A1 n1 c1)) := by
            have hin : ¬ letsS ⟨ea, ep⟩ ⟨xa, xp⟩ := HIn.out
            have e3 := HX.out.2.2.1
            rw [if_neg hin, List.append_nil] at e3
            refine ⟨by rw [e3]; exact HRi.out.2.1, ?_, by rw [e3]; exact HR6⟩
            have hle := letC_le ⟨ea, ep⟩ (l.take i)
            have h4 : (l.take i).length ≤ i := by rw [List.length_take]; omega
            have e4 : lost + ((i + 1 - (letC ⟨ea, ep⟩ (l.take (i + 1))).length : Nat) : Int) = LO + 1 := by
              rw [e3, HLO.out]
              omega
            rw [e4, hW6]
            exact HTq.out.set5 _
          clear HR6
          go_upto_region 7 with fail
          rw [← hW6]
          have HW6 := Lib.hid hW6
          clear hW6 t5 f5 w5
          go_wp2_with fail
          go_roundg (N - (i + 1))
          case measure => have := HX.out.1; omega
          case rel => exact ⟨i + 1, _, _, _, rfl, rfl, by first | rfl | (rw [IntWalk.wrap64_in _ (by have := HX.out.1; have := HN.out.2.1; omega)]; rfl), by have := HX.out.1; omega, H5.out.1, H5.out.2⟩
      · obtain rfl : i = N := by have := HRi.out.1; omega
        have t4 := HTi.out.t.c4
        have f4 := HTi.out.t.fz 4
        obtain ⟨W4, hW4⟩ : ∃ W4, W4 = wo.setCell ⟨w.heap.size, 4, none⟩ (.slice A1 n1 c1) := ⟨_, rfl⟩
        have hall : l.take i = l := by rw [HN.out.1, List.take_length]
        have HT4 : Hid (MtU w W4 most room ea ep (.slice A1 n1 c1) LO told ea ep) := by rw [hW4]; exact HTi.out.set4 _
        have hrow := HRi.out.2.2.row
        rw [hall] at hrow
        have HR4 : Hid (Mcw W4 w.heap.size (.slice A1 n1 c1) (letC ⟨ea, ep⟩ l)) := by
          rw [hW4]
          exact OwG.other hrow fun b cs hh => Below.heap_setCell _ _ _ _ fun e => by
            have e : b = w.heap.size := e
            subst e
            exact absurd (block_ty HTi.out.t hh rfl) (by decide)
        have HL4 : Hid (LO = lost + ((l.length - (letC ⟨ea, ep⟩ l).length : Nat) : Int)) := by
          have := HLO.out
          rw [hall] at this
          rw [this, HN.out.1]
          exact rfl
        have H1 : Hid (∀ y ∈ (ubA most room ea ep (.slice A1 n1 c1) LO told).toList, y.oneCell' = true) := ub_ones (OfG.of_own HR4.out) most room ea ep LO told
        clear hge hall hrow
        go_upto_region 12 with fail
        rw [← hW4]
        have HW4 := Lib.hid hW4
        clear hW4 t4 f4
        go_wp2_with (first
          | (show wpList _ _ _ (⟨some 48, .load 37 (.tmp 2), _, _, _, _⟩ :: _) _ _; refine wpList_load_u W4 rfl _ rfl w.heap.size most room ea ep (.slice A1 n1 c1) LO told rfl HT4.out.t ?_)
          | (show wpList _ _ _ (⟨none, .store 37 (.tmp 4) (.tmp 48), _, _, _, _⟩ :: _) _ _; refine wpList_store_u w W4 rfl _ _ rfl rfl RB most room ea ep (.slice A1 n1 c1) LO told (ubA 0 0 0 0 (.slice none 0 0) 0 0) rfl rfl (by rw [HRB.out]; exact HT4.out.r) rfl H1.out HT4.out.g (by have := HRB.out; omega) ?_; intro w2 hb2 hk2 hg2; have H2 := Lib.hid (And.intro hb2 (And.intro hk2 hg2)); clear hb2 hk2 hg2))
        refine bodyPost_ret (results_u2 rfl _ _ RB most room ea ep (.slice A1 n1 c1) LO told _ rfl rfl H2.out.1) rfl ?_
        refine ⟨_, by rw [HE.out.1]; rfl, ?_, H2.out.2.2⟩
        rw [HE.out.2, ← HL4.out]
        exact ⟨_, letC ⟨ea, ep⟩ l, rfl, Mcs.but_ ((OfG.of_own HR4.out).base_ HN.out.2.2.2.2) (by rw [HRB.out]; exact HT4.out.r) H2.out.2.1, rfl, fun y hy => HR.out.2 y (List.mem_filter.1 hy).1, fun k hk => HQ.out.1 k (World.ownsRow.lt HR4.out k hk).1⟩
  · subst hd1
    subst hd2
    go_enter Try.func16, Try.ntmps16
    go_upto_region 1 with fail
    rw [← hW, ← hRB1]
    have HW := Lib.hid hW
    clear hW hRB1
    go_upto_region 4 with fail
    rw [← hW3]
    have HW3 := Lib.hid hW3
    clear hW3 z0 z1 y0 y1 f0 f1
    go_wp2_with fail
    go_loopg [6, 7] N (fun gk s6 s7 wr => ∃ (i : Nat) (A1 : Option Addr) (n1 c1 : Nat), gk = N - i ∧ s6 = .slice A1 n1 c1 ∧ s7 = .int .i64 (i : Int) ∧ Hid (i ≤ N ∧ n1 = (letC ⟨0, 0⟩ (l.take i)).length ∧ MtAt w wr most room (.slice A N cp) lost told ⟨0, 0⟩ l i (.slice A1 n1 c1)))
    case atStart => exact ⟨0, none, 0, 0, rfl, rfl, rfl, Nat.zero_le _, rfl, H0.out⟩
    case round =>
      obtain ⟨i, A1, n1, c1, rfl, rfl, rfl, HRi⟩ := hrel
      rename World => wo
      clear H0
      obtain ⟨LO, hLO⟩ : ∃ LO : Int, LO = lost + ((i - (letC ⟨0, 0⟩ (l.take i)).length : Nat) : Int) := ⟨_, rfl⟩
      have HLO := Lib.hid hLO
      have HTi : Hid (MtU w wo most room 0 0 (.slice A N cp) LO told 0 0) := by rw [hLO]; exact HRi.out.2.2.t
      clear hLO
      have t4 := HTi.out.t.c4
      rcases Nat.lt_or_ge i N with hlt | hge
      · have i0 : (i : Int) < (N : Int) := by omega
        obtain ⟨x, hx⟩ : ∃ x, l[i]? = some x := ⟨_, List.getElem?_eq_getElem (by have := HN.out.1; omega)⟩
        have hnx := letC_next (e := ⟨0, 0⟩) hx
        obtain ⟨b, off, cc, e1, hbl, hc⟩ := mc_cells (HR.out.1.grow HTi.out.g).rd (by have := HN.out.1; omega)
        have e2 : A = some ⟨b, off, none⟩ := by injection e1
        subst e2
        obtain ⟨x0, x1, x2⟩ := hc i x hx
        obtain ⟨⟨xa, xp⟩, xA, xn, xc, xd⟩ := x
        simp only at x0 x1 x2 hnx
        have iL : i < N := hlt
        have k0 := fun q : Gw wo => Gw.cell (p := q) (a := ⟨w.heap.size, 0, none⟩) HTi.out.t.lt HTi.out.t.c0
        have k1 := fun q : Gw wo => Gw.cell (p := q) (a := ⟨w.heap.size, 1, none⟩) HTi.out.t.lt HTi.out.t.c1
        have k2 := fun q : Gw wo => Gw.cell (p := q) (a := ⟨w.heap.size, 2, none⟩) HTi.out.t.lt HTi.out.t.c2
        have k3 := fun q : Gw wo => Gw.cell (p := q) (a := ⟨w.heap.size, 3, none⟩) HTi.out.t.lt HTi.out.t.c3
        have k4 := fun q : Gw wo => Gw.cell (p := q) (a := ⟨w.heap.size, 4, none⟩) HTi.out.t.lt HTi.out.t.c4
        have k5 := fun q : Gw wo => Gw.cell (p := q) (a := ⟨w.heap.size, 5, none⟩) HTi.out.t.lt HTi.out.t.c5
        have k6 := fun q : Gw wo => Gw.cell (p := q) (a := ⟨w.heap.size, 6, none⟩) HTi.out.t.lt HTi.out.t.c6
        have j0 := fun q : Gw wo => Gw.cell (p := q) (a := ⟨b, off + i * 3, none⟩) hbl x0
        have j1 := fun q : Gw wo => Gw.cell (p := q) (a := ⟨b, off + i * 3 + 1, none⟩) hbl x1
        have HX := Lib.hid (And.intro hlt (And.intro hx (And.intro hnx (And.intro x0 (And.intro x1 (And.intro x2 hbl))))))
        by_cases hin : letsS ⟨0, 0⟩ ⟨xa, xp⟩
        · have cL : ∀ q : Gw wo, _ := fun q => Calls.gw (p := q) (by have := rLetsU q.v most room 0 0 (.slice (some ⟨b, off, none⟩) N cp) LO told ⟨xa, xp⟩; rwa [decide_eq_true hin] at this)
          have HIn := Lib.hid hin
          clear e1 hc hx hnx x0 x1 x2 hbl hlt hin
          go_upto_region 8 with fail
          refine wp_region_gw (by kernel_rfl) (by kernel_rfl) ?_
          repeat (go_big_quiet_step ((go_at_call 26; exact cL _)))
          refine wpQuiet_nil ?_
          intro _ hw'
          obtain ⟨⟨wq, hgq⟩, hw2'⟩ := hw'
          subst hw2'
          rename World => wq
          have HTq := Lib.hid (HTi.out.grow hgq)
          have HRq := Lib.hid (OwG.grow HRi.out.2.2.row hgq)
          have m0 := (hgq.cell (p := ⟨b, off + i * 3, none⟩) HX.out.2.2.2.2.2.2).trans HX.out.2.2.2.1
          have m1 := (hgq.cell (p := ⟨b, off + i * 3 + 1, none⟩) HX.out.2.2.2.2.2.2).trans HX.out.2.2.2.2.1
          have m2 := (hgq.cell (p := ⟨b, off + i * 3 + 2, none⟩) HX.out.2.2.2.2.2.2).trans HX.out.2.2.2.2.2.1
          have t4 := HTq.out.t.c4
          have HGq := Lib.hid hgq
          clear hgq k0 k1 k2 k3 k4 k5 k6 j0 j1 cL
          have HLn : Hid (n1 = (letC ⟨0, 0⟩ (l.take i)).length ∧ n1 ≤ 64) := Lib.hid ⟨HRi.out.2.1, by have h1 := HRi.out.2.1; have h2 := letC_le ⟨0, 0⟩ (l.take i); have h3 := HN.out.2.1; have h4 := List.length_take_le i l; have := HRi.out.1; omega⟩
          go_wp2_with (at_builtin; refine run_mcapp wq w.heap.size (.slice A1 n1 c1) (letC ⟨0, 0⟩ (l.take i)) ⟨⟨xa, xp⟩, xA, xn, xc, xd⟩ HRq.out HTq.out.g.size (by have := HLn.out; omega) rfl (.tmp 34) (.tmp 40) rfl rfl rfl ?_; intro v5 w5 hr5 hg5; obtain ⟨A5, c5, hv5, -⟩ := OwG.form_ hr5; obtain ⟨n5, hn5⟩ : ∃ n5, n5 = (letC ⟨0, 0⟩ (l.take i) ++ [(⟨⟨xa, xp⟩, xA, xn, xc, xd⟩ : Mc)]).length := ⟨_, rfl⟩; rw [← hn5] at hv5; subst hv5; have H5 : Hid (n5 = (letC ⟨0, 0⟩ (l.take (i + 1))).length ∧ MtAt w w5 most room (.slice (some ⟨b, off, none⟩) N cp) lost told ⟨0, 0⟩ l (i + 1) (.slice A5 n5 c5)) := by {
            have hin : letsS ⟨0, 0⟩ ⟨xa, xp⟩ := HIn.out
            have e3 := HX.out.2.2.1
            rw [if_pos hin] at e3
            refine ⟨by rw [e3]; exact hn5, ?_, by rw [e3]; exact hr5⟩
            have hle := letC_le ⟨0, 0⟩ (l.take i)
            have h4 := List.length_take_le i l
            have e4 : lost + ((i + 1 - (letC ⟨0, 0⟩ (l.take (i + 1))).length : Nat) : Int) = LO := by
              rw [e3, List.length_append, List.length_singleton, HLO.out]
              congr 2
              omega
            rw [e4]
            exact HTq.out.mv hg5 HRq.out }; clear hr5 hg5 hn5)
          go_roundg (N - (i + 1))
          case measure => have := HX.out.1; omega
          case rel => exact ⟨i + 1, _, _, _, rfl, rfl, by first | rfl | (rw [IntWalk.wrap64_in _ (by have := HX.out.1; have := HN.out.2.1; omega)]; rfl), by have := HX.out.1; omega, H5.out.1, H5.out.2⟩
        · have cL : ∀ q : Gw wo, _ := fun q => Calls.gw (p := q) (by have := rLetsU q.v most room 0 0 (.slice (some ⟨b, off, none⟩) N cp) LO told ⟨xa, xp⟩; rwa [decide_eq_false hin] at this)
          have HIn := Lib.hid hin
          clear e1 hc hx hnx x0 x1 x2 hbl hlt hin
          go_upto_region 8 with fail
          refine wp_region_gw (by kernel_rfl) (by kernel_rfl) ?_
          repeat (go_big_quiet_step ((go_at_call 26; exact cL _)))
          refine wpQuiet_nil ?_
          intro _ hw'
          obtain ⟨⟨wq, hgq⟩, hw2'⟩ := hw'
          subst hw2'
          rename World => wq
          have HTq := Lib.hid (HTi.out.grow hgq)
          have HRq := Lib.hid (OwG.grow HRi.out.2.2.row hgq)
          have t5 := HTq.out.t.c5
          have f5 := HTq.out.t.fz 5
          have w5 : IntKind.i64.wrap (LO + 1) = LO + 1 := IntWalk.i64_in _ (by have h1 := HLO.out; have h3 := HN.out; have := HRi.out.1; omega)
          clear hgq k0 k1 k2 k3 k4 k5 k6 j0 j1 cL t4
          obtain ⟨W6, hW6⟩ : ∃ W6, W6 = wq.setCell ⟨w.heap.size, 5, none⟩ (.int .i64 (LO + 1)) := ⟨_, rfl⟩
          have HR6 : Mcw W6 w.heap.size (.slice A1 n1 c1) (letC ⟨0, 0⟩ (l.take i)) := by
            rw [hW6]
            refine OwG.other HRq.out fun b cs hh => Below.heap_setCell _ _ _ _ fun e => ?_
            have e : b = w.heap.size := e
            subst e
            exact absurd (block_ty HTq.out.t hh rfl) (by decide)
          have H5 : Hid (n1 = (letC ⟨0, 0⟩ (l.take (i + 1))).length ∧ MtAt w W6 most room (.slice (some ⟨b, off, none⟩) N cp) lost told ⟨0, 0⟩ l (i + 1) (.slice A1 n1 c1)) := by
            have hin : ¬ letsS ⟨0, 0⟩ ⟨xa, xp⟩ := HIn.out
            have e3 := HX.out.2.2.1
            rw [if_neg hin, List.append_nil] at e3
            refine ⟨by rw [e3]; exact HRi.out.2.1, ?_, by rw [e3]; exact HR6⟩
            have hle := letC_le ⟨0, 0⟩ (l.take i)
            have h4 : (l.take i).length ≤ i := by rw [List.length_take]; omega
            have e4 : lost + ((i + 1 - (letC ⟨0, 0⟩ (l.take (i + 1))).length : Nat) : Int) = LO + 1 := by
              rw [e3, HLO.out]
              omega
            rw [e4, hW6]
            exact HTq.out.set5 _
          clear HR6
          go_upto_region 7 with fail
          rw [← hW6]
          have HW6 := Lib.hid hW6
          clear hW6 t5 f5 w5
          go_wp2_with fail
          go_roundg (N - (i + 1))
          case measure => have := HX.out.1; omega
          case rel => exact ⟨i + 1, _, _, _, rfl, rfl, by first | rfl | (rw [IntWalk.wrap64_in _ (by have := HX.out.1; have := HN.out.2.1; omega)]; rfl), by have := HX.out.1; omega, H5.out.1, H5.out.2⟩
      · obtain rfl : i = N := by have := HRi.out.1; omega
        have t4 := HTi.out.t.c4
        have f4 := HTi.out.t.fz 4
        obtain ⟨W4, hW4⟩ : ∃ W4, W4 = wo.setCell ⟨w.heap.size, 4, none⟩ (.slice A1 n1 c1) := ⟨_, rfl⟩
        have hall : l.take i = l := by rw [HN.out.1, List.take_length]
        have HT4 : Hid (MtU w W4 most room 0 0 (.slice A1 n1 c1) LO told 0 0) := by rw [hW4]; exact HTi.out.set4 _
        have hrow := HRi.out.2.2.row
        rw [hall] at hrow
        have HR4 : Hid (Mcw W4 w.heap.size (.slice A1 n1 c1) (letC ⟨0, 0⟩ l)) := by
          rw [hW4]
          exact OwG.other hrow fun b cs hh => Below.heap_setCell _ _ _ _ fun e => by
            have e : b = w.heap.size := e
            subst e
            exact absurd (block_ty HTi.out.t hh rfl) (by decide)
        have HL4 : Hid (LO = lost + ((l.length - (letC ⟨0, 0⟩ l).length : Nat) : Int)) := by
          have := HLO.out
          rw [hall] at this
          rw [this, HN.out.1]
          exact rfl
        have H1 : Hid (∀ y ∈ (ubA most room 0 0 (.slice A1 n1 c1) LO told).toList, y.oneCell' = true) := ub_ones (OfG.of_own HR4.out) most room 0 0 LO told
        clear hge hall hrow
        go_upto_region 12 with fail
        rw [← hW4]
        have HW4 := Lib.hid hW4
        clear hW4 t4 f4
        go_wp2_with (first
          | (show wpList _ _ _ (⟨some 48, .load 37 (.tmp 2), _, _, _, _⟩ :: _) _ _; refine wpList_load_u W4 rfl _ rfl w.heap.size most room 0 0 (.slice A1 n1 c1) LO told rfl HT4.out.t ?_)
          | (show wpList _ _ _ (⟨none, .store 37 (.tmp 4) (.tmp 48), _, _, _, _⟩ :: _) _ _; refine wpList_store_u w W4 rfl _ _ rfl rfl RB most room 0 0 (.slice A1 n1 c1) LO told (ubA 0 0 0 0 (.slice none 0 0) 0 0) rfl rfl (by rw [HRB.out]; exact HT4.out.r) rfl H1.out HT4.out.g (by have := HRB.out; omega) ?_; intro w2 hb2 hk2 hg2; have H2 := Lib.hid (And.intro hb2 (And.intro hk2 hg2)); clear hb2 hk2 hg2))
        refine bodyPost_ret (results_u2 rfl _ _ RB most room 0 0 (.slice A1 n1 c1) LO told _ rfl rfl H2.out.1) rfl ?_
        refine ⟨_, by rw [HE.out.1]; rfl, ?_, H2.out.2.2⟩
        rw [HE.out.2, ← HL4.out]
        exact ⟨_, letC ⟨0, 0⟩ l, rfl, Mcs.but_ ((OfG.of_own HR4.out).base_ HN.out.2.2.2.2) (by rw [HRB.out]; exact HT4.out.r) H2.out.2.1, rfl, fun y hy => HR.out.2 y (List.mem_filter.1 hy).1, fun k hk => HQ.out.1 k (World.ownsRow.lt HR4.out k hk).1⟩
end Go.Proofs.Ytkblgigpgpjjlaa
