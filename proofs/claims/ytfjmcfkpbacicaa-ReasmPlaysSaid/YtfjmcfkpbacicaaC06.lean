/- Contracts: held, reach, behind, complete. -/
import Derived.Test.YtfjmcfkpbacicaaC05
namespace Go.Proofs.Ytfjmcfkpbacicaa
set_option linter.unusedVariables false
set_option linter.unusedSimpArgs false
open Go.ChangeShapes Go.WideShapes Go.ChangeAt Go.RowKit Go.Shelf
attribute [local irreducible] wpQuiet

theorem held_snoc (l : List RowN) (k : Nat) (h : k < l.length) : heldN (l.take (k + 1)) = heldN (l.take k) + (l[k]).2.length := by
  unfold heldN
  rw [List.take_succ_eq_append_getElem h, List.map_append, List.sum_append]
  simp only [List.map_cons, List.map_nil, List.sum_cons, List.sum_nil, Nat.add_zero]
theorem held_le (l : List RowN) (k : Nat) : heldN (l.take k) ≤ heldN l := by
  unfold heldN
  conv => rhs; rw [← List.take_append_drop k l]
  rw [List.map_append, List.sum_append]
  exact Nat.le_add_right _ _
theorem held_reach (l : List RowN) (h : Laid 0 l) : heldN l ≤ reach 0 l := by
  rw [held_cnt l 0]
  have := cnt_le (cont 0 l)
  rw [cont_length l 0 h] at this
  omega
theorem reach_last : ∀ (l : List RowN) (q : Nat) (h : l ≠ []), reach q l = (l.getLast h).1 + (l.getLast h).2.length
  | [(a, d)], q, h => rfl
  | (a, d) :: y :: s, q, h => by
    have := reach_last (y :: s) (a + d.length) (by simp)
    rw [List.getLast_cons (by simp)]
    exact this

set_option maxHeartbeats 4000000 in
theorem held_any (w : World) (base : Nat) (p : Wp) (h : PktAt w base p) : Calls Try.prog 38 #[pptr p] w fun e w' => e = .returned (.int .i64 (heldN p.ns : Nat)) ∧ Grow w w' := by
  have hfew := h.few
  have c3 := h.c3
  have hR := Lib.hid h.rws
  have hF := Lib.hid h.fits
  have hB : heldN p.ns ≤ 65515 := Nat.le_trans (held_reach _ h.laid) h.top
  obtain ⟨A, n, c, hrv, hn⟩ : ∃ A n c, p.rv = .slice A n c ∧ n = p.rows.length := by
    obtain ⟨A, c, e, _⟩ := (RdK.of_own h.row).form
    exact ⟨A, _, c, e, rfl⟩
  have hlt := h.lt
  rw [hrv] at c3 hR
  subst hn
  have hns : p.ns = p.rows.map rowN := rfl
  have HN := Lib.hid hns
  have hnl : p.ns.length = p.rows.length := by rw [hns, List.length_map]
  generalize p.ns = L at *
  clear h hrv hns
  unfold pptr
  obtain ⟨pnm, pb, ptl, pf, pfin, prv, prows⟩ := p
  simp only at *
  go_enter Try.func38, Try.ntmps38
  go_wp2_with fail
  go_loopg [3, 11] prows.length (fun g s3 s11 wr => ∃ k : Nat, k ≤ prows.length ∧ g = prows.length - k ∧ s3 = .int .i64 (heldN (L.take k) : Nat) ∧ s11 = .int .i64 (k : Int) ∧ Grow w wr)
  case atStart => exact ⟨0, Nat.zero_le _, rfl, by simp [heldN], rfl, Grow.refl _⟩
  case round =>
    obtain ⟨k, hk, rfl, rfl, rfl, hgr⟩ := hrel
    rcases Nat.lt_or_ge k prows.length with hlt1 | hge
    · obtain ⟨b, off, rfl, hb, hcell⟩ := hR.out.at_ (by omega)
      have RM : RwAt wr b (off + k * 2) prows[k] := (hcell _ hlt1).grow hgr hb
      have hfx := hF.out _ (List.getElem_mem hlt1)
      have e1 := held_snoc L k (by omega)
      have e2 := held_le L (k + 1)
      have e3 : (L[k]'(by omega)).2.length = (prows[k]).data.length := by
        have : L[k]'(by omega) = rowN prows[k] := by simp only [HN.out, List.getElem_map]
        rw [this]
        rfl
      rw [e3] at e1
      have A1 := Lib.hid (And.intro hgr e1)
      generalize hH1 : heldN (L.take (k + 1)) = H1 at *
      have HH1 := Lib.hid hH1
      clear hH1
      generalize heldN (L.take k) = H0 at *
      generalize prows[k] = x at *
      obtain ⟨A5, c5, hxv⟩ := hfx.1
      obtain ⟨c0, c1⟩ := RM
      rw [hxv] at c1
      generalize x.data.length = xn at *
      generalize x.at_ = xa at *
      have qh : (H0 : Int) + (xn : Int) = (H1 : Int) := by omega
      clear hxv hcell hb e3 e1 hfx hgr
      go_wp2_with fail
      go_roundg (prows.length - (k + 1))
      case measure => omega
      case rel => exact ⟨k + 1, by omega, rfl, by rw [HH1.out], by go_num, A1.out.1.trans (Grow.alloc _ _)⟩
    · obtain rfl : k = prows.length := by omega
      have e : L.take prows.length = L := List.take_of_length_le (by omega)
      rw [e]
      have A1 := Lib.hid hgr
      clear hgr e
      go_wp2_with fail
      go_ret
      exact ⟨rfl, A1.out⟩

set_option maxHeartbeats 4000000 in
theorem reach_any (w : World) (base : Nat) (p : Wp) (h : PktAt w base p) (hne : p.rows ≠ []) : Calls Try.prog 50 #[pptr p] w fun e w' => e = .returned (.int .i64 (reach 0 p.ns : Nat)) ∧ Grow w w' := by
  have hfew := h.few
  have c3 := h.c3
  have hpos : 0 < p.rows.length := List.length_pos_iff.2 hne
  have hR := h.rws
  obtain ⟨A, n, c, hrv, hn⟩ : ∃ A n c, p.rv = .slice A n c ∧ n = p.rows.length := by
    obtain ⟨A, c, e, _⟩ := (RdK.of_own h.row).form
    exact ⟨A, _, c, e, rfl⟩
  have hlt := h.lt
  rw [hrv] at c3 hR
  subst hn
  have hm : p.rows.length - 1 < p.rows.length := by omega
  have hfx := h.fits _ (List.getElem_mem hm)
  obtain ⟨b, off, rfl, hb, hcell⟩ := hR.at_ hpos
  obtain ⟨c0, c1⟩ := hcell _ hm
  have hns : p.ns ≠ [] := by
    intro e
    have : p.ns.length = 0 := by rw [e]; rfl
    unfold Wp.ns at this
    rw [List.length_map] at this
    omega
  have hE : (reach 0 p.ns : Int) = rE (p.rows[p.rows.length - 1]) := by
    rw [reach_last _ _ hns]
    have : p.ns.getLast hns = rowN (p.rows[p.rows.length - 1]) := by
      rw [List.getLast_eq_getElem]
      simp only [Wp.ns, List.length_map, List.getElem_map]
    rw [this]
    rfl
  rw [hE]
  have cE : ∀ q : Gw w, Calls Try.prog 53 #[rwV p.rows[p.rows.length - 1]] q.v fun e w' => e = .returned (.int .i64 (rE p.rows[p.rows.length - 1])) ∧ ∃ r : Gw w, w' = r.v := fun q => Calls.gw (rowEnd_any _ hfx q.v)
  obtain ⟨A5, c5, hxv⟩ := hfx.1
  clear hE hns hcell hR hfx hne
  generalize rE p.rows[p.rows.length - 1] = E at *
  generalize p.rows[p.rows.length - 1] = x at *
  rw [hxv] at c1
  unfold rwV at cE
  rw [hxv] at cE
  clear hxv hrv h
  unfold pptr
  obtain ⟨pnm, pb, ptl, pf, pfin, prv, prows⟩ := p
  simp only at *
  generalize prows.length = M at *
  obtain ⟨N, rfl⟩ : ∃ N, M = N + 1 := ⟨M - 1, by omega⟩
  simp only [Nat.add_sub_cancel] at *
  have d3 := fun q : Gw w => Gw.cell hlt c3 q
  have d0 := fun q : Gw w => Gw.cell hb c0 q
  have d1 := fun q : Gw w => Gw.cell hb c1 q
  have qw : IntKind.i64.wrap (((N + 1 : Nat) : Int) - 1) = (N : Int) := by rw [IntKind.wrap_i64]; omega
  have qw2 : IntKind.i64.wrap ((N : Int) + 1 - 1) = (N : Int) := by rw [IntKind.wrap_i64]; omega
  have qw3 : IntKind.i64.wrap (N : Int) = (N : Int) := by rw [IntKind.wrap_i64]; omega
  have qi1 : (N : Int) < (N : Int) + 1 := by omega
  have qi2 : (N : Int) < ((N + 1 : Nat) : Int) := by omega
  have qi3 : (0 : Int) ≤ (N : Int) := by omega
  clear c3 c0 c1
  go_enter Try.func50, Try.ntmps50
  go_wp2_with fail
  refine wp_region_gw (by kernel_rfl) (by kernel_rfl) ?_
  repeat (quiet_step ((go_at_call 53; exact cE _)))
  refine wpQuiet_nil ?_
  intro _ hw'
  obtain ⟨⟨wq, hgq⟩, hw2⟩ := hw'
  subst hw2
  go_wp2_with fail
  go_ret
  exact ⟨rfl, hgq⟩

set_option maxHeartbeats 4000000 in
theorem behind_any (w : World) (base : Nat) (p : Wp) (h : PktAt w base p) (q : Nat) (hq : q ≤ 70000) : Calls Try.prog 51 #[pptr p, .int .i64 (q : Int)] w fun e w' =>
    (∃ no : Nat, no ≤ p.rows.length ∧ (∀ t (h : t < p.rows.length), t < no → rE p.rows[t] ≤ (q : Int)) ∧ (∀ t (h : t < p.rows.length), no ≤ t → (q : Int) < rE p.rows[t]) ∧ e = .returned (.int .i64 (no : Int))) ∧ Grow w w' := by
  have c3 := h.c3
  have cB := BSF_any p.rows h.pair h.fits (by have := h.few; omega) p.rv w h.rws ((q : Int) + 1) (by omega) (by omega)
  obtain ⟨A, c, hrv, _⟩ := (RdK.of_own h.row).form
  have hlt := h.lt
  rw [hrv] at c3 cB
  clear h hrv
  unfold pptr
  obtain ⟨pnm, pb, ptl, pf, pfin, prv, prows⟩ := p
  simp only at *
  go_enter Try.func51, Try.ntmps51
  go_wp2_with fail
  refine cB.mono ?_
  rintro e w2 ⟨⟨no, b, h1, h2, h3, rfl⟩, hg⟩
  have HH := Lib.hid (And.intro h1 (And.intro h2 (And.intro h3 hg)))
  clear h1 h2 h3 hg cB
  go_wp2_with fail
  go_ret
  exact ⟨⟨no, HH.out.1, fun t h h' => by have := HH.out.2.1 t h h'; omega, fun t h h' => by have := HH.out.2.2.1 t h h'; omega, rfl⟩, HH.out.2.2.2⟩

set_option maxHeartbeats 4000000 in
theorem complete_any (w : World) (base : Nat) (p : Wp) (h : PktAt w base p) : Calls Try.prog 31 #[pptr p] w fun e w' => e = .returned (.bool (decide (p.fin ≠ 0 ∧ heldN p.ns = p.fin))) ∧ Grow w w' := by
  have c2 := h.c2
  have hlt := h.lt
  have hB : heldN p.ns ≤ 65515 := Nat.le_trans (held_reach _ h.laid) h.top
  have cH : ∀ q : Gw w, Calls Try.prog 38 #[pptr p] q.v fun e w' => e = .returned (.int .i64 (heldN p.ns : Nat)) ∧ ∃ r : Gw w, w' = r.v := fun q => Calls.gw (held_any q.v base p (h.grow q.h (Nat.le_trans h.low (Nat.le_of_lt hlt))))
  have d2 := fun q : Gw w => Gw.cell hlt c2 q
  clear c2 h
  unfold pptr at *
  generalize heldN p.ns = H at *
  obtain ⟨pnm, pb, ptl, pf, fin, prv, prows⟩ := p
  simp only at *
  by_cases h0 : fin = 0
  · subst h0
    have hC : decide (0 ≠ 0 ∧ H = 0) = false := by simp
    rw [hC]
    clear hC
    go_enter Try.func31, Try.ntmps31
    go_wp2_with fail
    refine wp_region_gw (by kernel_rfl) (by kernel_rfl) ?_
    repeat (quiet_step ((go_at_call 38; exact cH _)))
    refine wpQuiet_nil ?_
    intro _ hw'
    obtain ⟨⟨wq, hgq⟩, hw2⟩ := hw'
    subst hw2
    go_wp2_with fail
    go_ret
    exact ⟨rfl, hgq⟩
  · have q0 : ((fin : Int) == 0) = false := by simpa using h0
    have q1 : decide ((fin : Int) = 0) = false := by simpa using h0
    by_cases h1 : H = fin
    · have hC : decide (fin ≠ 0 ∧ H = fin) = true := decide_eq_true ⟨h0, h1⟩
      rw [hC]
      clear hC
      subst h1
      have q4 : ((H : Int) != 0) = true := by simpa using h0
      go_enter Try.func31, Try.ntmps31
      go_wp2_with fail
      refine wp_region_gw (by kernel_rfl) (by kernel_rfl) ?_
      repeat (quiet_step ((go_at_call 38; exact cH _)))
      refine wpQuiet_nil ?_
      intro _ hw'
      obtain ⟨⟨wq, hgq⟩, hw2⟩ := hw'
      subst hw2
      go_wp2_with fail
      go_ret
      exact ⟨rfl, hgq⟩
    · have hC : decide (fin ≠ 0 ∧ H = fin) = false := decide_eq_false (fun e => h1 e.2)
      rw [hC]
      clear hC
      have q2 : ((H : Int) == (fin : Int)) = false := by simpa using fun e => h1 (by omega)
      have q3 : decide ((H : Int) = (fin : Int)) = false := by simpa using fun e => h1 (by omega)
      go_enter Try.func31, Try.ntmps31
      go_wp2_with fail
      refine wp_region_gw (by kernel_rfl) (by kernel_rfl) ?_
      repeat (quiet_step ((go_at_call 38; exact cH _)))
      refine wpQuiet_nil ?_
      intro _ hw'
      obtain ⟨⟨wq, hgq⟩, hw2⟩ := hw'
      subst hw2
      go_wp2_with fail
      go_ret
      exact ⟨rfl, hgq⟩
end Go.Proofs.Ytfjmcfkpbacicaa
/- Bytes that no change of the table touches; cuts of them. -/
namespace Go.Proofs.Ytfjmcfkpbacicaa
set_option linter.unusedVariables false
set_option linter.unusedSimpArgs false
open Go.ChangeShapes Go.WideShapes Go.ChangeAt Go.RowKit Go.Shelf

/-- v reads as l, out of a block below base, or of one of bytes. -/
def Firm (base : Nat) (w : World) (v : Value) (l : List UInt8) : Prop :=
  Byt w v l ∧ (0 < l.length → ∀ b, v.ownBlock = some b → b < base ∨ ∃ cs, w.heap[b]? = some (.cells cs 5 (0, 0)))
section
variable {base : Nat} {w w' : World} {v : Value} {l : List UInt8}
theorem Firm.only {Z : Nat → TypeId → Prop} (h : Firm base w v l) (o : Only base Z w w') (hz : ∀ b, ¬ Z b 5) : Firm base w' v l := by
  rcases Nat.eq_zero_or_pos l.length with h0 | h0
  · have := List.eq_nil_of_length_eq_zero h0
    subst this
    exact ⟨h.1.anywhere, fun h => absurd h (by simp)⟩
  · have hb : ∀ b, v.ownBlock = some b → w'.heap[b]? = w.heap[b]? := by
      intro b hb
      rcases h.2 h0 b hb with h1 | ⟨cs, h1⟩
      · exact o.low.block b h1
      · exact (o.cells h1 (hz b)).trans h1.symm
    refine ⟨?_, fun _ b e => ?_⟩
    · obtain ⟨A, c, rfl, h1, h2, h3⟩ := h.1
      refine ⟨A, c, rfl, h1, h2, fun hp => ?_⟩
      obtain ⟨b, off, rfl, hlt, hc⟩ := h3 hp
      exact ⟨b, off, rfl, Nat.lt_of_lt_of_le hlt o.size, fun j hj => (World.cell?_of_block (w := w) (a := ⟨b, off + j, none⟩) (hb b rfl)).trans (hc j hj)⟩
    · rcases h.2 h0 b e with h1 | ⟨cs, h1⟩
      · exact .inl h1
      · exact .inr ⟨cs, (o.cells h1 (hz b))⟩
theorem Firm.grow (h : Firm base w v l) (g : Grow w w') (hb : base ≤ w.heap.size) : Firm base w' v l := h.only (Only.grow g hb fun _ _ => False) fun _ h => h
theorem Firm.own {b0 : Nat} (h : Own w b0 v l) : Firm base w v l := ⟨h.byt, fun _ b e => by
  obtain ⟨cs, h1, _⟩ := ownsRow_blk h e
  exact .inr ⟨cs, h1⟩⟩
theorem Firm.below (h : Byt w v l) (hb : w.heap.size ≤ base) : Firm base w v l := ⟨h, fun hp b e => .inl (by
  obtain ⟨A, c, rfl, h1, h2, h3⟩ := h
  obtain ⟨b', off, rfl, hlt, hc⟩ := h3 (by rw [List.length_map]; exact hp)
  cases e
  exact Nat.lt_of_lt_of_le hlt hb)⟩
theorem Firm.front {A : Option Addr} {n c k : Nat} (h : Firm base w (.slice A n c) l) (hk : k ≤ n) : Firm base w (.slice A k c) (l.take k) :=
  ⟨h.1.front hk, fun hp b e => h.2 (by rw [List.length_take] at hp; omega) b (by cases A with | none => cases e | some a => exact e)⟩
theorem Firm.back {A : Option Addr} {n c k : Nat} (h : Firm base w (.slice A n c) l) (hk : k ≤ n) : Firm base w (.slice (if c = k then A else A.map (·.add k)) (n - k) (c - k)) (l.drop k) := by
  refine ⟨?_, fun hp b e => h.2 (by rw [List.length_drop] at hp; omega) b ?_⟩
  · by_cases hc : c = k
    · rw [if_pos hc]; exact h.1.back0 hk hc
    · rw [if_neg hc]; exact h.1.back hk hc
  · by_cases hc : c = k
    · rw [if_pos hc] at e
      cases A with
      | none => cases e
      | some a => exact e
    · rw [if_neg hc] at e
      cases A with
      | none => cases e
      | some a =>
        rw [← e]
        show some a.block = some (a.add k).block
        unfold Addr.add
        split <;> rfl
end

theorem run_from {P : Program} (w : World) (t e : TypeId) (ht : P.underlying t = some (.slice e)) (hs : (P.info? e).map (·.size) = some 1) (A : Option Addr) (m c n : Nat) (hn : n ≤ m) :
    (Instr.slice t (.slice A m c) (some (.int .i64 (n : Int))) none none).run P w = .ok (.slice (if c = n then A else A.map (·.add n)) (m - n) (c - n)) w := by
  cases hq : P.info? e with
  | none => simp [hq] at hs
  | some i =>
    have hi : i.size = 1 := by simpa [hq] using hs
    have h1 : (0 : Int) ≤ (n : Int) := by omega
    have h2 : (n : Int) ≤ (m : Int) := by omega
    simp [Instr.slice, run_underlying ht, Instr.sliceBounds, run_sliceBound _ _ _ _ h1 h2, sizeOf, typeInfo, hq, hi, go_sem]
    intro h
    omega

theorem wpList_from {P : Program} (w : World) {ops : Array Oper} {rest : List Oper} {o : Oper} {a : Act} {Q : Exit → Act → World → Prop} (hgd : o.guard = none) (x y : Operand) (t e : TypeId)
    (ho : o.op = .slice t x (some y) none none) (ht : P.underlying t = some (.slice e)) (hs : (P.info? e).map (·.size) = some 1)
    (base : Nat) (A : Option Addr) (m c n : Nat) (l : List UInt8) (hx : a.eval x = .slice A m c) (hy : a.eval y = .int .i64 (n : Int)) (h : Firm base w (.slice A m c) l) (hn : n ≤ m)
    (hK : ∀ A' c', Firm base w (.slice A' (m - n) c') (l.drop n) → wpList P ops Q rest (a.put o.dst (.slice A' (m - n) c')) w) : wpList P ops Q (o :: rest) a w := by
  refine wpList_plain hgd fun _ hK' => ?_
  unfold Oper.wp execOp
  have hat : (Instr.sliceAt t (.slice A m c) (some (.int .i64 (n : Int))) none none).run P w = _ := (show _ = (Instr.slice t (.slice A m c) (some (.int .i64 (n : Int))) none none).run P w by simp [Instr.sliceAt, run_underlying ht]).trans (run_from w t e ht hs A m c n hn)
  simp only [ho, hx, hy, Option.map_some, Option.map_none, Sem.run_bind, Sem.run_pure, Result.andThen_ok, hat]
  exact hK' _ _ (hK _ _ (h.back hn))
end Go.Proofs.Ytfjmcfkpbacicaa
/- Contract: store: the bytes that are not present yet. -/
namespace Go.Proofs.Ytfjmcfkpbacicaa
set_option linter.unusedVariables false
set_option linter.unusedSimpArgs false
open Go.ChangeShapes Go.WideShapes Go.ChangeAt Go.RowKit Go.Shelf

/-- Where the place q lies among the rows: all rows ahead of the no-th end there or ahead of it. -/
theorem ahead_of {p : Wp} {no q : Nat} (h : ∀ t (h : t < p.rows.length), t < no → rE p.rows[t] ≤ (q : Int)) : Ahead q (p.ns.take no) := by
  intro r hr
  obtain ⟨t, ht, rfl⟩ := List.getElem_of_mem hr
  rw [List.length_take] at ht
  have hl : p.ns.length = p.rows.length := by unfold Wp.ns; rw [List.length_map]
  have h1 := h t (by omega) (by omega)
  have e : (p.ns.take no)[t]'(by rw [List.length_take]; exact ht) = rowN (p.rows[t]'(by omega)) := by
    rw [List.getElem_take]
    simp only [Wp.ns, List.getElem_map]
  rw [e]
  unfold rE at h1
  show (p.rows[t]'(by omega)).at_ + (p.rows[t]'(by omega)).data.length ≤ q
  omega
theorem put_ns (p : Wp) (no : Nat) (r : Rw) (v' : Value) : (p.put no r v').ns = p.ns.take no ++ rowN r :: p.ns.drop no := by
  unfold Wp.ns Wp.put
  simp only [List.map_append, List.map_take, List.map_cons, List.map_drop]
theorem reach_cont {l : List RowN} (h : Laid 0 l) : (cont 0 l).length = reach 0 l := by rw [cont_length l 0 h]; rfl
theorem ns_split (p : Wp) (no : Nat) (h : no < p.rows.length) : p.ns = p.ns.take no ++ rowN p.rows[no] :: p.ns.drop (no + 1) := by
  have hl : no < p.ns.length := by unfold Wp.ns; rw [List.length_map]; exact h
  conv => lhs; rw [← List.take_append_drop no p.ns, List.drop_eq_getElem_cons hl]
  simp only [Wp.ns, List.getElem_map]
theorem ns_drop (p : Wp) (no : Nat) (h : no < p.rows.length) : p.ns.drop no = rowN p.rows[no] :: p.ns.drop (no + 1) := by
  have hl : no < p.ns.length := by unfold Wp.ns; rw [List.length_map]; exact h
  rw [List.drop_eq_getElem_cons hl]
  simp only [Wp.ns, List.getElem_map]
/-- No row ends behind q: what lies there becomes the last one. -/
theorem put_end {p : Wp} {q : Nat} {d : List UInt8} (hl : Laid 0 p.ns) (h : ∀ t (h : t < p.rows.length), t < p.rows.length → rE p.rows[t] ≤ (q : Int)) (hd : d ≠ []) (v3 v' : Value) :
    Laid 0 (p.put p.rows.length ⟨q, v3, d⟩ v').ns ∧ cont 0 (p.put p.rows.length ⟨q, v3, d⟩ v').ns = paint (cont 0 p.ns) q d := by
  have hn : p.ns.length = p.rows.length := by unfold Wp.ns; rw [List.length_map]
  have ha := ahead_of (no := p.rows.length) h
  rw [put_ns, ← hn, List.take_length, List.drop_length]
  rw [← hn, List.take_length] at ha
  have := add_end p.ns 0 q d hl ha (Nat.zero_le _) hd
  rw [Nat.sub_zero] at this
  exact this
/-- The row no is the first that ends behind q, and begins behind it. -/
theorem put_mid {p : Wp} {q no : Nat} {d : List UInt8} (hl : Laid 0 p.ns) (hno : no < p.rows.length) (h : ∀ t (h : t < p.rows.length), t < no → rE p.rows[t] ≤ (q : Int)) (hd : d ≠ []) (hq : q + d.length ≤ (p.rows[no]).at_) (v3 v' : Value) :
    Laid 0 (p.put no ⟨q, v3, d⟩ v').ns ∧ cont 0 (p.put no ⟨q, v3, d⟩ v').ns = paint (cont 0 p.ns) q d := by
  have ha := ahead_of h
  have hs := ns_split p no hno
  rw [put_ns, ns_drop p no hno]
  rw [hs] at hl
  have := add_mid _ 0 q d _ _ _ hl ha (Nat.zero_le _) hd hq
  rw [Nat.sub_zero] at this
  conv at this => rhs; rw [show ((p.rows[no]).at_, (p.rows[no]).data) = rowN p.rows[no] from rfl]
  refine ⟨this.1, this.2.trans ?_⟩
  conv => rhs; rw [hs]
/-- The row no holds the place q. -/
theorem put_in {p : Wp} {q no : Nat} {d : List UInt8} (hl : Laid 0 p.ns) (hno : no < p.rows.length) (h : ∀ t (h : t < p.rows.length), t < no → rE p.rows[t] ≤ (q : Int)) (hq : (p.rows[no]).at_ ≤ q) (hd : q + d.length ≤ (p.rows[no]).at_ + (p.rows[no]).data.length) :
    paint (cont 0 p.ns) q d = cont 0 p.ns := by
  have ha := ahead_of h
  have hs := ns_split p no hno
  rw [hs] at hl
  have := add_in _ 0 q d _ _ _ hl ha hq hd
  rw [Nat.sub_zero] at this
  conv => lhs; rw [hs]
  conv => rhs; rw [hs]
  exact this

/-- What store keeps. -/
structure Kept (base : Nat) (w : World) (p : Wp) (at_ : Nat) (d : List UInt8) (k : Nat) (q : Wp) (v : Value) (wr : World) : Prop where
  pkt : PktAt wr base q
  grows : Grows base p q w wr
  firm : Firm base wr v (d.drop k)
  con : cont 0 q.ns = paint (cont 0 p.ns) at_ (d.take k)
  first : q.first = p.first
  fin : q.fin = p.fin
theorem Kept.size {base : Nat} {w : World} {p : Wp} {at_ : Nat} {d : List UInt8} {k : Nat} {q : Wp} {v : Value} {wr : World} (h : Kept base w p at_ d k q v wr) : w.heap.size ≤ wr.heap.size := h.grows.only.size
/-- One round: q became r, and n bytes more are there. -/
theorem Kept.on {base : Nat} {w wr w2 : World} {p q r : Wp} {at_ : Nat} {d : List UInt8} {k n : Nat} {v v2 : Value} (h : Kept base w p at_ d k q v wr) (hr : PktAt w2 base r) (hg : Grows base q r wr w2) (hv : Firm base w2 v2 ((d.drop k).drop n)) (hk : k + n ≤ d.length)
    (hc : cont 0 r.ns = paint (cont 0 q.ns) (at_ + k) ((d.drop k).take n)) (h1 : r.first = q.first) (h2 : r.fin = q.fin) : Kept base w p at_ d (k + n) r v2 w2 :=
  ⟨hr, h.grows.trans hg, by rw [← List.drop_drop]; exact hv, by rw [hc, h.con, paint_step _ _ _ _ _ hk], h1.trans h.first, h2.trans h.fin⟩
theorem reach_put {l r : List RowN} {q : Nat} {d : List UInt8} (hl : Laid 0 l) (hr : Laid 0 r) (hc : cont 0 r = paint (cont 0 l) q d) (hd : d ≠ []) (ht : reach 0 l ≤ 65515) (hq : q + d.length ≤ 65515) : reach 0 r ≤ 65515 := by
  rw [← reach_cont hr, hc, paint_length _ _ hd, reach_cont hl]
  omega
theorem infoByte1 : (Try.prog.info? 5).map (·.size) = some 1 := by kernel_rfl

set_option maxRecDepth 10000 in
set_option maxHeartbeats 8000000 in
theorem store_any (w : World) (base : Nat) (p : Wp) (h : PktAt w base p) (hb : base ≤ w.heap.size) (at_ : Nat) (v : Value) (d : List UInt8) (hv : Firm base w v d) (hd : at_ + d.length ≤ 65515) :
    Calls Try.prog 47 #[pptr p, .int .i64 (at_ : Int), v] w fun e w' => e = .returned (.tuple #[]) ∧ ∃ q v2, Kept base w p at_ d d.length q v2 w' := by
  have K0 : Hid (Kept base w p at_ d 0 p v w) := ⟨h, Grows.refl _ _ _, by simpa using hv, by simp [paint_nil], rfl, rfl⟩
  obtain ⟨A, c, rfl, hlc, hcm⟩ := hv.1.form
  have hlow := h.low
  clear h hv
  have hblk : Hid (∀ q v2 k wr, Kept base w p at_ d k q v2 wr → q.blk = p.blk) := fun q v2 k wr h => h.grows.blk
  unfold pptr
  generalize hpb : p.blk = pb at *
  have HPB := Lib.hid hpb
  clear hpb
  go_enter Try.func47, Try.ntmps47
  go_wp2_with fail
  go_loopg [1, 2] d.length (fun g s1 s2 wr => ∃ (k : Nat) (q : Wp), k ≤ d.length ∧ g = d.length - k ∧ s1 = .int .i64 ((at_ + k : Nat) : Int) ∧ (∃ A' c', s2 = .slice A' (d.length - k) c') ∧ Hid (Kept base w p at_ d k q s2 wr))
  case atStart => exact ⟨0, p, Nat.zero_le _, rfl, by simp, ⟨A, c, by simp⟩, K0⟩
  case round =>
    obtain ⟨k, q, hk, rfl, rfl, ⟨A1, c1, rfl⟩, HK⟩ := hrel
    rcases Nat.lt_or_ge k d.length with hlt | hge
    · have H1 := HK.out
      have hbr : base ≤ wr.heap.size := Nat.le_trans hb H1.size
      have cB := behind_any wr base q H1.pkt (at_ + k) (by omega)
      have eb : q.blk = pb := H1.grows.blk.trans HPB.out
      have hDl : (d.drop k).length = d.length - k := List.length_drop ..
      have hQd : at_ + k + (d.length - k) ≤ 65515 := by omega
      unfold pptr at cB
      rw [eb] at cB
      generalize hQ : at_ + k = Q at *
      have HQ := Lib.hid hQ
      clear hQ
      have hm0 : 0 < d.length - k := by omega
      generalize hm : d.length - k = m at *
      have HM := Lib.hid hm
      have hkd : k + m = d.length := by omega
      have HKD := Lib.hid hkd
      have HDL := Lib.hid hDl
      have hmc := (H1.firm.1.len).2
      obtain ⟨hmc1, hmc2⟩ := hmc
      have hmc3 : c1 ≤ 9223372036854775807 := hmc2
      clear hm hkd hDl hmc2
      have qm1 : (0 : Int) < (m : Int) := by omega
      go_wp2_with fail
      refine cB.mono ?_
      rintro e w2 ⟨⟨no, n1, n2, n3, rfl⟩, hg2⟩
      have P2 := H1.pkt.grow hg2 hbr
      have hb2 : base ≤ w2.heap.size := Nat.le_trans hbr hg2.size
      have F2 := Lib.hid (H1.firm.grow hg2 hbr)
      have G2 : Grows base q q wr w2 := ⟨Only.grow hg2 hbr _, rfl, rfl, rfl, fun b h => .inl h⟩
      have c3 := P2.c3
      rw [eb] at c3
      obtain ⟨Aq, cq, hrv, _⟩ := (RdK.of_own P2.row).form
      have hR2 := P2.rws
      rw [hrv] at c3 hR2
      have htop := P2.top
      have hlaid := P2.laid
      have hfew := P2.few
      have N1 := Lib.hid (And.intro n2 n3)
      have HP := Lib.hid (And.intro P2 (And.intro hb2 (And.intro G2 (And.intro hlaid htop))))
      have hfits := Lib.hid P2.fits
      clear cB hg2 n2 n3 H1 G2 hlaid htop hb2 hrv
      rcases Nat.lt_or_ge no q.rows.length with hno | hno
      · obtain ⟨bq, off, rfl, hbq, hcell⟩ := hR2.at_ (by omega)
        obtain ⟨x0, x1⟩ := hcell no hno
        have hfx := hfits.out _ (List.getElem_mem hno)
        have h3 := N1.out.2 no hno (Nat.le_refl _)
        have hnoI : (no : Int) < (q.rows.length : Int) := by omega
        have cE := rowEnd_any _ hfx
        obtain ⟨A5, c5, hxv⟩ := hfx.1
        have hfx2 := hfx.2
        have PM := Lib.hid (fun (D : List UInt8) (hD : D ≠ []) (hq : Q + D.length ≤ (q.rows[no]).at_) (v3 v' : Value) => put_mid (p := q) (q := Q) (no := no) (d := D) HP.out.2.2.2.1 hno N1.out.1 hD hq v3 v')
        have PI := Lib.hid (fun (D : List UInt8) (h1 : (q.rows[no]).at_ ≤ Q) (h2 : Q + D.length ≤ (q.rows[no]).at_ + (q.rows[no]).data.length) => put_in (p := q) (q := Q) (no := no) (d := D) HP.out.2.2.2.1 hno N1.out.1 h1 h2)
        rw [hxv] at x1
        unfold rwV at cE
        rw [hxv] at cE
        unfold rE at cE h3
        generalize (q.rows[no]).data.length = xn at *
        generalize (q.rows[no]).at_ = xa at *
        clear hfx hxv hcell N1 hfits hR2
        generalize hNR : q.rows.length = NR at *
        have HNR := Lib.hid hNR
        clear hNR
        have hnn : ((no : Int) == (NR : Int)) = false := by simpa using fun e => by omega
        have hnd : decide ((no : Int) = (NR : Int)) = false := by simpa using fun e => by omega
        by_cases hQa : Q < xa
        · have hQaI : decide ((Q : Int) < (xa : Int)) = true := decide_eq_true (by omega)
          rcases Nat.lt_or_ge (xa - Q) m with hem | hem
          · obtain ⟨n, he⟩ : ∃ n, xa = Q + n := ⟨xa - Q, by omega⟩
            have he1 : n ≤ 70000 := by omega
            have he0 : 0 < n := by omega
            have hnm : n ≤ m := by omega
            have hsub : (xa : Int) - (Q : Int) = (n : Int) := by omega
            have hmin : decide ((n : Int) < (m : Int)) = true := decide_eq_true (by omega)
            have hmin2 : (n : Int) < (m : Int) := by omega
            have hmin3 : n < m := by omega
            clear hem
            have hDn : ((d.drop k).take n).length = n := by rw [List.length_take, HDL.out]; omega
            have hDne : (d.drop k).take n ≠ [] := by
              intro e
              rw [e] at hDn
              simp at hDn
              omega
            have PE := fun v3 v' => PM.out ((d.drop k).take n) hDne (by rw [hDn]; omega) v3 v'
            have cI := insert_any w2 base q HP.out.1 HP.out.2.1 no Q (.slice A1 n c1) ((d.drop k).take n) (F2.out.front hnm).1 (by rw [HNR.out]; omega) (by rw [hDn]; omega) (fun v3 v' => (PE v3 v').1) (fun v3 v' => reach_put HP.out.2.2.2.1 (PE v3 v').1 (PE v3 v').2 hDne HP.out.2.2.2.2 (by rw [hDn]; omega))
            unfold pptr at cI
            rw [eb] at cI
            have HPE := Lib.hid PE
            have HN := Lib.hid (And.intro hDn hnm)
            have hncI : (n : Int) ≤ (c1 : Int) := by omega
            obtain ⟨Q2, hQ2⟩ : ∃ Q2, Q + n = Q2 := ⟨_, rfl⟩
            have hQ2I : (Q : Int) + (n : Int) = (Q2 : Int) := by omega
            have hQ2b : Q2 ≤ 65515 := by omega
            have HQ2 := Lib.hid hQ2
            clear PE PI hDn hDne he hQ2 h3 hfx2 hnm
            go_wp2_with (first
              | (show wpList _ _ _ (⟨some 76, _, _, _, _, _⟩ :: _) _ _; refine wpList_from _ rfl (.tmp 74) (.tmp 75) 36 5 rfl Try.underlying36 infoByte1 base A1 m c1 n (d.drop k) rfl rfl H3.out.2.2 HN.out.2 ?_; intro A9 c9 hf9; have H9 := Lib.hid hf9; clear hf9)
              | (go_at_call 52; refine cI.mono ?_; rintro e w3 ⟨rfl, v3, v', hp3, hg3⟩; have H3 := Lib.hid (And.intro hp3 (And.intro hg3 (F2.out.only hg3.only (fun b e => (by rcases e with e | e <;> exact absurd e.2 (by decide)))))); clear hp3 hg3))
            go_roundg (d.length - (k + n))
            case measure => have := HKD.out; omega
            case rel => exact ⟨k + n, _, by have := HKD.out; have := HN.out.2; omega, rfl, by rw [show at_ + (k + n) = Q2 from by have := HQ.out; have := HQ2.out; omega], ⟨A9, c9, by rw [show d.length - (k + n) = m - n from by have := HKD.out; omega]⟩, Kept.on HK.out H3.out.1 (HP.out.2.2.1.trans H3.out.2.1) H9.out (by have := HKD.out; have := HN.out.2; omega) (by rw [HQ.out]; exact (HPE.out _ _).2) rfl rfl⟩
          · obtain ⟨e, he⟩ : ∃ e, xa = Q + e := ⟨xa - Q, by omega⟩
            have he1 : e ≤ 70000 := by omega
            have hnm : m ≤ m := Nat.le_refl _
            have hsub : (xa : Int) - (Q : Int) = (e : Int) := by omega
            have hmin : decide ((e : Int) < (m : Int)) = false := decide_eq_false (by omega)
            have hmin2 : ¬ (e : Int) < (m : Int) := by omega
            have hmin3 : ¬ e < m := by omega
            clear hem
            have hDn : ((d.drop k).take m).length = m := by rw [List.length_take, HDL.out]; omega
            have hDne : (d.drop k).take m ≠ [] := by
              intro e
              rw [e] at hDn
              simp at hDn
              omega
            have PE := fun v3 v' => PM.out ((d.drop k).take m) hDne (by rw [hDn]; omega) v3 v'
            have cI := insert_any w2 base q HP.out.1 HP.out.2.1 no Q (.slice A1 m c1) ((d.drop k).take m) (F2.out.front hnm).1 (by rw [HNR.out]; omega) (by rw [hDn]; omega) (fun v3 v' => (PE v3 v').1) (fun v3 v' => reach_put HP.out.2.2.2.1 (PE v3 v').1 (PE v3 v').2 hDne HP.out.2.2.2.2 (by rw [hDn]; omega))
            unfold pptr at cI
            rw [eb] at cI
            have HPE := Lib.hid PE
            have HN := Lib.hid (And.intro hDn hnm)
            have hncI : (m : Int) ≤ (c1 : Int) := by omega
            obtain ⟨Q2, hQ2⟩ : ∃ Q2, Q + m = Q2 := ⟨_, rfl⟩
            have hQ2I : (Q : Int) + (m : Int) = (Q2 : Int) := by omega
            have hQ2b : Q2 ≤ 65515 := by omega
            have HQ2 := Lib.hid hQ2
            clear PE PI hDn hDne he hQ2 h3 hfx2 hnm
            go_wp2_with (first
              | (show wpList _ _ _ (⟨some 76, _, _, _, _, _⟩ :: _) _ _; refine wpList_from _ rfl (.tmp 74) (.tmp 75) 36 5 rfl Try.underlying36 infoByte1 base A1 m c1 m (d.drop k) rfl rfl H3.out.2.2 HN.out.2 ?_; intro A9 c9 hf9; have H9 := Lib.hid hf9; clear hf9)
              | (go_at_call 52; refine cI.mono ?_; rintro e w3 ⟨rfl, v3, v', hp3, hg3⟩; have H3 := Lib.hid (And.intro hp3 (And.intro hg3 (F2.out.only hg3.only (fun b e => (by rcases e with e | e <;> exact absurd e.2 (by decide)))))); clear hp3 hg3))
            go_roundg (d.length - (k + m))
            case measure => have := HKD.out; omega
            case rel => exact ⟨k + m, _, by have := HKD.out; have := HN.out.2; omega, rfl, by rw [show at_ + (k + m) = Q2 from by have := HQ.out; have := HQ2.out; omega], ⟨A9, c9, by rw [show d.length - (k + m) = 0 from by have := HKD.out; omega]⟩, Kept.on HK.out H3.out.1 (HP.out.2.2.1.trans H3.out.2.1) (by have := H9.out; rwa [Nat.sub_self] at this) (by have := HKD.out; have := HN.out.2; omega) (by rw [HQ.out]; exact (HPE.out _ _).2) rfl rfl⟩
        · have hQaI : decide ((Q : Int) < (xa : Int)) = false := decide_eq_false (by omega)
          obtain ⟨E, hE⟩ : ∃ E, xa + xn = E := ⟨_, rfl⟩
          have hEb : E ≤ 70000 := by omega
          rcases Nat.lt_or_ge (E - Q) m with hem | hem
          · obtain ⟨n, he⟩ : ∃ n, E = Q + n := ⟨E - Q, by omega⟩
            have he1 : n ≤ 70000 := by omega
            have he0 : 0 < n := by omega
            have hnm : n ≤ m := by omega
            have hsub : (E : Int) - (Q : Int) = (n : Int) := by omega
            have hmin : decide ((n : Int) < (m : Int)) = true := decide_eq_true (by omega)
            have hmin2 : (n : Int) < (m : Int) := by omega
            have hmin3 : n < m := by omega
            clear hem
            have hDn : ((d.drop k).take n).length = n := by rw [List.length_take, HDL.out]; omega
            have PE := PI.out ((d.drop k).take n) (by omega) (by rw [hDn]; omega)
            have HPE := Lib.hid PE
            have HN := Lib.hid (And.intro hDn hnm)
            rw [show (xa : Int) + (xn : Int) = (E : Int) from by omega] at cE
            obtain ⟨Q2, hQ2⟩ : ∃ Q2, Q + n = Q2 := ⟨_, rfl⟩
            have hQ2I : (Q : Int) + (n : Int) = (Q2 : Int) := by omega
            have hQ2b : Q2 ≤ 65515 := by omega
            have HQ2 := Lib.hid hQ2
            clear PE PM hDn h3 hfx2 he hE hQ2 hnm
            go_wp2_with (first
              | (show wpList _ _ _ (⟨some 76, _, _, _, _, _⟩ :: _) _ _; refine wpList_from _ rfl (.tmp 74) (.tmp 75) 36 5 rfl Try.underlying36 infoByte1 base A1 m c1 n (d.drop k) rfl rfl H3.out.2.2 HN.out.2 ?_; intro A9 c9 hf9; have H9 := Lib.hid hf9; clear hf9)
              | (go_at_call 53; refine (cE _).mono ?_; rintro e w3 ⟨rfl, hg3⟩; have H3 := Lib.hid (And.intro (HP.out.1.grow hg3 HP.out.2.1) (And.intro (show Grows base q q w2 w3 from ⟨Only.grow hg3 HP.out.2.1 _, rfl, rfl, rfl, fun b h => .inl h⟩) (F2.out.grow hg3 HP.out.2.1))); clear hg3))
            go_roundg (d.length - (k + n))
            case measure => have := HKD.out; omega
            case rel => exact ⟨k + n, q, by have := HKD.out; have := HN.out.2; omega, rfl, by rw [show at_ + (k + n) = Q2 from by have := HQ.out; have := HQ2.out; omega], ⟨A9, c9, by rw [show d.length - (k + n) = m - n from by have := HKD.out; omega]⟩, Kept.on HK.out H3.out.1 (HP.out.2.2.1.trans H3.out.2.1) H9.out (by have := HKD.out; have := HN.out.2; omega) (by rw [HQ.out]; exact HPE.out.symm) rfl rfl⟩
          · obtain ⟨e, he⟩ : ∃ e, E = Q + e := ⟨E - Q, by omega⟩
            have he1 : e ≤ 70000 := by omega
            have hnm : m ≤ m := Nat.le_refl _
            have hsub : (E : Int) - (Q : Int) = (e : Int) := by omega
            have hmin : decide ((e : Int) < (m : Int)) = false := decide_eq_false (by omega)
            have hmin2 : ¬ (e : Int) < (m : Int) := by omega
            have hmin3 : ¬ e < m := by omega
            clear hem
            have hDn : ((d.drop k).take m).length = m := by rw [List.length_take, HDL.out]; omega
            have PE := PI.out ((d.drop k).take m) (by omega) (by rw [hDn]; omega)
            have HPE := Lib.hid PE
            have HN := Lib.hid (And.intro hDn hnm)
            rw [show (xa : Int) + (xn : Int) = (E : Int) from by omega] at cE
            obtain ⟨Q2, hQ2⟩ : ∃ Q2, Q + m = Q2 := ⟨_, rfl⟩
            have hQ2I : (Q : Int) + (m : Int) = (Q2 : Int) := by omega
            have hQ2b : Q2 ≤ 65515 := by omega
            have HQ2 := Lib.hid hQ2
            clear PE PM hDn h3 hfx2 he hE hQ2 hnm
            go_wp2_with (first
              | (show wpList _ _ _ (⟨some 76, _, _, _, _, _⟩ :: _) _ _; refine wpList_from _ rfl (.tmp 74) (.tmp 75) 36 5 rfl Try.underlying36 infoByte1 base A1 m c1 m (d.drop k) rfl rfl H3.out.2.2 HN.out.2 ?_; intro A9 c9 hf9; have H9 := Lib.hid hf9; clear hf9)
              | (go_at_call 53; refine (cE _).mono ?_; rintro e w3 ⟨rfl, hg3⟩; have H3 := Lib.hid (And.intro (HP.out.1.grow hg3 HP.out.2.1) (And.intro (show Grows base q q w2 w3 from ⟨Only.grow hg3 HP.out.2.1 _, rfl, rfl, rfl, fun b h => .inl h⟩) (F2.out.grow hg3 HP.out.2.1))); clear hg3))
            go_roundg (d.length - (k + m))
            case measure => have := HKD.out; omega
            case rel => exact ⟨k + m, q, by have := HKD.out; have := HN.out.2; omega, rfl, by rw [show at_ + (k + m) = Q2 from by have := HQ.out; have := HQ2.out; omega], ⟨A9, c9, by rw [show d.length - (k + m) = 0 from by have := HKD.out; omega]⟩, Kept.on HK.out H3.out.1 (HP.out.2.2.1.trans H3.out.2.1) (by have := H9.out; rwa [Nat.sub_self] at this) (by have := HKD.out; have := HN.out.2; omega) (by rw [HQ.out]; exact HPE.out.symm) rfl rfl⟩
      · obtain rfl : no = q.rows.length := by omega
        have hnoI : ((q.rows.length : Nat) : Int) = (q.rows.length : Int) := rfl
        have hDne : d.drop k ≠ [] := by
          intro e
          have := HDL.out
          rw [e] at this
          simp at this
          omega
        have PE := fun v3 v' => put_end (p := q) (q := Q) (d := d.drop k) HP.out.2.2.2.1 (fun t h _ => N1.out.1 t h h) hDne v3 v'
        have cI := insert_any w2 base q HP.out.1 HP.out.2.1 q.rows.length Q (.slice A1 m c1) (d.drop k) F2.out.1 (Nat.le_refl _) (by rw [HDL.out]; omega) (fun v3 v' => (PE v3 v').1) (fun v3 v' => reach_put HP.out.2.2.2.1 (PE v3 v').1 (PE v3 v').2 hDne HP.out.2.2.2.2 (by rw [HDL.out]; omega))
        unfold pptr at cI
        rw [eb] at cI
        have HPE := Lib.hid PE
        clear PE N1 hfits hR2 hno n1
        generalize hNR : q.rows.length = NR at *
        have HNR := Lib.hid hNR
        clear hNR
        go_wp2_with (first
          | (show wpList _ _ _ (⟨some 76, _, _, _, _, _⟩ :: _) _ _; refine wpList_from _ rfl (.tmp 74) (.tmp 75) 36 5 rfl Try.underlying36 infoByte1 base A1 m c1 m (d.drop k) rfl rfl H3.out.2.2 (Nat.le_refl _) ?_; intro A9 c9 hf9; have H9 := Lib.hid hf9; clear hf9)
          | (go_at_call 52; refine cI.mono ?_; rintro e w3 ⟨rfl, v3, v', hp3, hg3⟩; have H3 := Lib.hid (And.intro hp3 (And.intro hg3 (F2.out.only hg3.only (fun b e => (by rcases e with e | e <;> exact absurd e.2 (by decide)))))); clear hp3 hg3))
        go_roundg (d.length - (k + m))
        case measure => have := HKD.out; omega
        case rel => exact ⟨k + m, _, by have := HKD.out; omega, rfl, by rw [← HQ.out]; congr 1; omega, ⟨A9, c9, by rw [show d.length - (k + m) = 0 from by have := HKD.out; omega]⟩, Kept.on HK.out H3.out.1 (HP.out.2.2.1.trans H3.out.2.1) (by have := H9.out; rwa [Nat.sub_self] at this) (by have := HKD.out; omega) (by rw [HQ.out, List.take_of_length_le (by rw [HDL.out]; exact Nat.le_refl _)]; exact (HPE.out _ _).2) rfl rfl⟩
    · obtain rfl : k = d.length := by omega
      simp only [Nat.sub_self]
      go_wp2_with fail
      go_end0
      exact ⟨rfl, q, _, HK.out⟩
end Go.Proofs.Ytfjmcfkpbacicaa
/- Contracts: nameOf, start, end, check, code. -/
namespace Go.Proofs.Ytfjmcfkpbacicaa
set_option linter.unusedVariables false
set_option linter.unusedSimpArgs false
open Go.ChangeShapes Go.WideShapes Go.ChangeAt Go.RowKit Go.Shelf
attribute [local irreducible] wpQuiet

theorem rsCode_any (n : Int) (w : World) (h1 : -9223372036854775808 ≤ n) (h2 : n ≤ 9223372036854775807) :
    Calls Try.prog 10 #[.int .i64 n] w fun e w' => e = .returned (.int .i64 n) ∧ w = w' := by
  go_enter Try.func10, Try.ntmps10
  go_wp2_with fail
  go_ret
  exact ⟨rfl, rfl⟩

def nmOf (k : Pkt) : Nm := ⟨k.src, k.dst, k.proto, k.ident⟩
def endOf (k : Pkt) : Int := 8 * k.off + (k.data.length : Int)
def chk (k : Pkt) : Int := if k.data.length = 0 ∨ (k.more = true ∧ k.data.length % 8 ≠ 0) then 3 else if 65515 < endOf k then 9 else 0

set_option maxHeartbeats 400000 in
theorem results1_nm {fn : Func} (j : Nat) (h : fn.results = #[.cell j 70]) (tmps : Array Value) (w : World) (g : Nat) (m : Nm) (ht : tmps.getD j undef = .pointer (some ⟨g, 0, none⟩)) (hb : NmAt w g 0 m) :
    (results fn tmps).run Try.prog w = .ok (nmV m) w := by
  obtain ⟨b0, b1, b2, b3⟩ := hb
  simp only [Nat.zero_add] at b1 b2 b3
  have ht' : tmps[j]?.getD undef = .pointer (some ⟨g, 0, none⟩) := by simpa using ht
  simp only [results, h, go_sem]
  simp [ht', b0, b1, b2, b3, go_sem]

set_option maxHeartbeats 2000000 in
theorem nameOf_any (v : Value) (k : Pkt) (w : World) (h : Ip w v k) : Calls Try.prog 32 #[v] w fun e w' => e = .returned (nmV (nmOf k)) ∧ Grow w w' := by
  obtain ⟨A, c, B, d, rfl, ho, hd, hk⟩ := h.form
  clear ho hd h
  go_enter Try.func32, Try.ntmps32
  go_wp2_with fail
  refine bodyPost_ret (results1_nm 2 rfl _ _ (w.heap.size + 1) (nmOf k) rfl ?_) rfl ?_
  · refine ⟨?_, ?_, ?_, ?_⟩ <;> simp [World.cell?_alloc_new, nmOf, go_sem]
  · exact ⟨rfl, (Grow.alloc _ _).trans (Grow.alloc _ _)⟩

set_option maxHeartbeats 1000000 in
theorem start_any (v : Value) (k : Pkt) (w : World) (h : Ip w v k) (h0 : 0 ≤ k.off) (h1 : k.off ≤ 8191) : Calls Try.prog 48 #[v] w fun e w' => e = .returned (.int .i64 (8 * k.off)) ∧ Grow w w' := by
  obtain ⟨A, c, B, d, rfl, ho, hd, hk⟩ := h.form
  clear ho hd h
  go_enter Try.func48, Try.ntmps48
  go_wp2_with fail
  go_ret
  exact ⟨rfl, Grow.alloc _ _⟩

set_option maxHeartbeats 4000000 in
theorem end_any (v : Value) (k : Pkt) (w : World) (h : Ip w v k) (h0 : 0 ≤ k.off) (h1 : k.off ≤ 8191) (hl : k.data.length ≤ 1000000) : Calls Try.prog 44 #[v] w fun e w' => e = .returned (.int .i64 (endOf k)) ∧ Grow w w' := by
  obtain ⟨A, c, B, d, rfl, ho, hd, hk⟩ := h.form
  obtain ⟨W1, hW1⟩ : ∃ W1, W1 = w.alloc (.cells #[.int .u8 (k.tos : Int), .int .u16 (k.ident : Int), .bool k.whole, .bool k.more, .int .i64 k.off, .int .u8 (k.ttl : Int), .int .u8 (k.proto : Int), .int .u32 (k.src : Int), .int .u32 (k.dst : Int), .slice A k.opts.length c, .slice B k.data.length d] 38) := ⟨_, rfl⟩
  have hg1 : Grow w W1 := by rw [hW1]; exact Grow.alloc w _
  have hB : Blk W1 w.heap.size k (.slice A k.opts.length c) (.slice B k.data.length d) := by rw [hW1]; exact Blk.new _ _ _ _
  have hlt : w.heap.size < W1.heap.size := hB.lt
  have cS : ∀ p : Gw W1, Calls Try.prog 48 #[ipV k (.slice A k.opts.length c) (.slice B k.data.length d)] p.v fun e w' => e = .returned (.int .i64 (8 * k.off)) ∧ ∃ q : Gw W1, w' = q.v := fun p =>
    Calls.gw (start_any _ k p.v (h.grow (hg1.trans p.h)) h0 h1)
  obtain ⟨b0, b1, b2, b3, b4, b5, b6, b7, b8, b9, b10⟩ := hB.boxd
  have e0 := fun p : Gw W1 => Gw.cell hlt b0 p
  have e1 := fun p : Gw W1 => Gw.cell hlt b1 p
  have e2 := fun p : Gw W1 => Gw.cell hlt b2 p
  have e3 := fun p : Gw W1 => Gw.cell hlt b3 p
  have e4 := fun p : Gw W1 => Gw.cell hlt b4 p
  have e5 := fun p : Gw W1 => Gw.cell hlt b5 p
  have e6 := fun p : Gw W1 => Gw.cell hlt b6 p
  have e7 := fun p : Gw W1 => Gw.cell hlt b7 p
  have e8 := fun p : Gw W1 => Gw.cell hlt b8 p
  have e9 := fun p : Gw W1 => Gw.cell hlt b9 p
  have e10 := fun p : Gw W1 => Gw.cell hlt b10 p
  have qw : IntKind.i64.wrap (8 * k.off + (k.data.length : Int)) = 8 * k.off + (k.data.length : Int) := by rw [IntKind.wrap_i64]; omega
  have HG := Lib.hid hg1
  clear h ho hd hB hlt b0 b1 b2 b3 b4 b5 b6 b7 b8 b9 b10 hg1
  unfold ipV at cS
  unfold endOf
  go_enter Try.func44, Try.ntmps44
  go_wp2_with fail
  rw [← hW1]
  refine wp_region_gw (by kernel_rfl) (by kernel_rfl) ?_
  repeat (quiet_step ((go_at_call 48; exact cS _)))
  refine wpQuiet_nil ?_
  intro _ hw'
  obtain ⟨⟨wq, hgq⟩, hw2⟩ := hw'
  subst hw2
  go_wp2_with fail
  go_ret
  exact ⟨rfl, HG.out.trans hgq⟩

set_option maxHeartbeats 4000000 in
theorem check_any (v : Value) (k : Pkt) (w : World) (h : Ip w v k) (h0 : 0 ≤ k.off) (h1 : k.off ≤ 8191) (hl : k.data.length ≤ 1000000) : Calls Try.prog 28 #[v] w fun e w' => e = .returned (.int .i64 (chk k)) ∧ Grow w w' := by
  obtain ⟨A, c, B, d, rfl, ho, hd, hk⟩ := h.form
  have cE : ∀ W, Grow w W → Calls Try.prog 44 #[ipV k (.slice A k.opts.length c) (.slice B k.data.length d)] W fun e w' => e = .returned (.int .i64 (endOf k)) ∧ Grow W w' := fun W g => end_any _ k W (h.grow g) h0 h1 hl
  have hE : endOf k = 8 * k.off + (k.data.length : Int) := rfl
  have hbE : 0 ≤ endOf k ∧ endOf k ≤ 2000000 := by rw [hE]; omega
  clear h ho hd hk
  have hC : Hid ((k.data.length = 0 → chk k = 3) ∧ (k.data.length ≠ 0 → k.more = true → k.data.length % 8 ≠ 0 → chk k = 3) ∧ (k.data.length ≠ 0 → (k.more = true → k.data.length % 8 = 0) → 65515 < endOf k → chk k = 9) ∧ (k.data.length ≠ 0 → (k.more = true → k.data.length % 8 = 0) → ¬ 65515 < endOf k → chk k = 0)) := by
    unfold chk
    refine ⟨fun h => if_pos (.inl h), fun _ h h2 => if_pos (.inr ⟨h, h2⟩), fun h h2 h3 => ?_, fun h h2 h3 => ?_⟩
    · rw [if_neg (fun e => by rcases e with e | e; exact h e; exact e.2 (h2 e.1)), if_pos h3]
    · rw [if_neg (fun e => by rcases e with e | e; exact h e; exact e.2 (h2 e.1)), if_neg h3]
  generalize chk k = C at *
  generalize endOf k = E at *
  clear hE
  obtain ⟨k0, k1, k2, more, k4, k5, k6, k7, k8, opts, data⟩ := k
  unfold ipV at *
  simp only at *
  generalize hm : data.length = m at *
  clear hm
  by_cases hm0 : m = 0
  · subst hm0
    go_enter Try.func28, Try.ntmps28
    go_wp2_with fail
    go_ret
    exact ⟨by rw [hC.out.1 (by first | rfl | trivial)]; try rfl, Grow.alloc _ _⟩
  · have q0 : ¬ ((m : Int) = 0) := by omega
    cases more with
    | true =>
      by_cases h8 : m % 8 = 0
      · have q1 : (m : Int).tmod 8 = 0 := by rw [Int.tmod_eq_emod_of_nonneg (by omega)]; omega
        by_cases hE : 65515 < E
        · have q2 : decide (65515 < E) = true := decide_eq_true hE
          go_enter Try.func28, Try.ntmps28
          go_wp2_with (go_at_call 44; refine (cE _ (Grow.alloc _ _)).mono ?_; rintro e w2 ⟨rfl, hg2⟩)
          go_ret
          exact ⟨by rw [hC.out.2.2.1 hm0 (fun _ => h8) hE]; try rfl, (Grow.alloc _ _).trans hg2⟩
        · have q2 : decide (65515 < E) = false := decide_eq_false hE
          go_enter Try.func28, Try.ntmps28
          go_wp2_with (go_at_call 44; refine (cE _ (Grow.alloc _ _)).mono ?_; rintro e w2 ⟨rfl, hg2⟩)
          go_ret
          exact ⟨by rw [hC.out.2.2.2 hm0 (fun _ => h8) hE]; try rfl, (Grow.alloc _ _).trans hg2⟩
      · obtain ⟨R, hR⟩ : ∃ R : Nat, (m : Int).tmod 8 = (R : Int) := ⟨m % 8, by rw [Int.tmod_eq_emod_of_nonneg (by omega)]; omega⟩
        have hR0 : ¬ R = 0 := by
          intro e
          rw [Int.tmod_eq_emod_of_nonneg (by omega)] at hR
          omega
        have q2 : ((R : Int) != 0) = true := by simpa using hR0
        have q3 : decide ((R : Int) = 0) = false := by simpa using hR0
        have q4 : ((R : Int) == 0) = false := by simpa using hR0
        go_enter Try.func28, Try.ntmps28
        go_wp2_with fail
        go_ret
        exact ⟨by rw [hC.out.2.1 hm0 (by first | rfl | trivial) h8]; try rfl, Grow.alloc _ _⟩
    | false =>
      by_cases hE : 65515 < E
      · have q2 : decide (65515 < E) = true := decide_eq_true hE
        go_enter Try.func28, Try.ntmps28
        go_wp2_with (go_at_call 44; refine (cE _ (Grow.alloc _ _)).mono ?_; rintro e w2 ⟨rfl, hg2⟩)
        go_ret
        exact ⟨by rw [hC.out.2.2.1 hm0 (fun e => by cases e) hE]; try rfl, (Grow.alloc _ _).trans hg2⟩
      · have q2 : decide (65515 < E) = false := decide_eq_false hE
        go_enter Try.func28, Try.ntmps28
        go_wp2_with (go_at_call 44; refine (cE _ (Grow.alloc _ _)).mono ?_; rintro e w2 ⟨rfl, hg2⟩)
        go_ret
        exact ⟨by rw [hC.out.2.2.2 hm0 (fun e => by cases e) hE]; try rfl, (Grow.alloc _ _).trans hg2⟩
end Go.Proofs.Ytfjmcfkpbacicaa
/- Contract: own: a packet with memory of its own. -/
namespace Go.Proofs.Ytfjmcfkpbacicaa
set_option linter.unusedVariables false
set_option linter.unusedSimpArgs false
open Go.ChangeShapes Go.WideShapes Go.ChangeAt Go.RowKit Go.Shelf

set_option maxHeartbeats 4000000 in
theorem rsOwn_any (v : Value) (k : Pkt) (w : World) (h : Ip w v k) (hs : k.Small) :
    Calls Try.prog 27 #[v] w fun e w' => ∃ vo vd, e = .returned (ipV k vo vd) ∧ Own w' w.heap.size vo k.opts ∧ Own w' w.heap.size vd k.data ∧ Grow w w' := by
  obtain ⟨A, c, B, d, rfl, ho, hd, hk⟩ := h.form
  obtain ⟨hs1, hs2⟩ := hs
  obtain ⟨W1, hW1⟩ : ∃ W1, W1 = (w.alloc (.cells #[.int .u8 (k.tos : Int), .int .u16 (k.ident : Int), .bool k.whole, .bool k.more, .int .i64 k.off, .int .u8 (k.ttl : Int), .int .u8 (k.proto : Int), .int .u32 (k.src : Int), .int .u32 (k.dst : Int), .slice A k.opts.length c, .slice B k.data.length d] 38)).alloc (.cells #[.int .u8 0, .int .u16 0, .bool false, .bool false, .int .i64 0, .int .u8 0, .int .u8 0, .int .u32 0, .int .u32 0, .slice none 0 0, .slice none 0 0] 38) := ⟨_, rfl⟩
  obtain ⟨hg1, hsz, hB, hZ⟩ := two_blk w k _ _ hW1
  have T := Lib.hid (And.intro hg1 (And.intro hsz (And.intro hB hZ)))
  have cO := Clone_any (.slice A k.opts.length c) k.opts W1 (ho.grow hg1) (by omega)
  have hd1 := hd.grow hg1
  obtain ⟨b0, b1, b2, b3, b4, b5, b6, b7, b8, b9, b10⟩ := hB.boxd
  clear hZ hg1 hB hsz
  go_enter Try.func27, Try.ntmps27
  go_wp2_with fail
  rw [← hW1]
  refine cO.mono ?_
  rintro e w2 ⟨vo, rfl, ho2, hg2⟩
  clear hW1 b0 b1 b2 b3 b4 b5 b6 b7 b8 b9 b10 cO
  obtain ⟨A4, n4, c4, rfl, hn4⟩ := ho2.byt.form2
  have hn4' := hn4.out
  subst hn4'
  go_wp2_with (show wpList _ _ _ (⟨none, .store 36 (.tmp 6) (.tmp 5), _, _, _, _⟩ :: _) _ _; refine wpList_store_fld w w2 rfl _ _ _ rfl rfl w.heap.size 9 (.slice A4 k.opts.length c4) rfl rfl k k (.slice A k.opts.length c) (.slice B k.data.length d) (.slice A4 k.opts.length c4) (.slice B k.data.length d) (T.out.2.2.1.grow hg2) (by kernel_rfl) rfl (by omega) rfl (T.out.1.trans hg2) (Nat.le_refl _) ?_; intro w3 hB3 hbut3 hg3; have hB3' := hB3; obtain ⟨b0, b1, b2, b3, b4, b5, b6, b7, b8, b9, b10⟩ := hB3'.boxd; clear hB3')
  have ho3 := (Own.but ho2 hbut3 (by have := T.out.2.1; omega)).base (show w.heap.size + 2 ≤ W1.heap.size by have := T.out.2.1; omega)
  have hd3 := (hd.grow hg3)
  refine (Clone_any (.slice B k.data.length d) k.data w3 hd3 (by omega)).mono ?_
  rintro e w4 ⟨vd, rfl, ho4, hg4⟩
  clear b0 b1 b2 b3 b4 b5 b6 b7 b8 b9 b10
  obtain ⟨A5, n5, c5, rfl, hn5⟩ := ho4.byt.form2
  have hn5' := hn5.out
  subst hn5'
  have hz3 : w.heap.size + 2 ≤ w3.heap.size := by
    have := hg2.size
    have := T.out.2.1
    rw [hbut3.1]
    omega
  have ho4b := ho4.base hz3
  have ho3b := ho3.grow hg4
  have HZ : Hid (Blk w4 (w.heap.size + 1) zeroPk (.slice none 0 0) (.slice none 0 0)) := ((T.out.2.2.2.grow hg2).but hbut3 (by omega)).grow hg4
  have HO := Lib.hid (And.intro ho3b ho4b)
  clear ho3b ho4b ho2 ho4
  go_wp2_with (first | (show wpList _ _ _ (⟨none, .store 38 (.tmp 2) (.tmp 11), _, _, _, _⟩ :: _) _ _; refine wpList_store_ip w w5 rfl _ _ rfl rfl (w.heap.size + 1) rfl k zeroPk (.slice A4 k.opts.length c4) (.slice A5 k.data.length c5) (.slice none 0 0) (.slice none 0 0) rfl rfl rfl (HZ.out.but hbut5 (by omega)) hg5 (by omega) ?_; intro w6 hk6 hbut6 hg6) | (show wpList _ _ _ (⟨none, .store 36 (.tmp 10) (.tmp 9), _, _, _, _⟩ :: _) _ _; refine wpList_store_fld w w4 rfl _ _ _ rfl rfl w.heap.size 10 (.slice A5 k.data.length c5) rfl rfl k k (.slice A4 k.opts.length c4) (.slice B k.data.length d) (.slice A4 k.opts.length c4) (.slice A5 k.data.length c5) (hB3.grow hg4) (by kernel_rfl) rfl (by omega) rfl (hg3.trans hg4) (Nat.le_refl _) ?_; intro w5 hB5 hbut5 hg5; have hB5' := hB5; obtain ⟨b0, b1, b2, b3, b4, b5, b6, b7, b8, b9, b10⟩ := hB5'.boxd; clear hB5'))
  refine bodyPost_ret (results1_ip 2 rfl _ w6 (w.heap.size + 1) _ _ _ rfl hk6) rfl ?_
  exact ⟨_, _, rfl, ((HO.out.1.but hbut5 (by omega)).but hbut6 (by omega)).base (by omega), ((HO.out.2.but hbut5 (by omega)).but hbut6 (by omega)).base (by omega), hg6⟩
end Go.Proofs.Ytfjmcfkpbacicaa
