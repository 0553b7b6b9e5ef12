/- Contract: remove. -/
import Derived.Test.YtfjmcfkpbacicaaC08
namespace Go.Proofs.Ytfjmcfkpbacicaa
set_option linter.unusedVariables false
set_option linter.unusedSimpArgs false
open Go.ChangeShapes Go.WideShapes Go.ChangeAt Go.RowKit Go.Shelf
attribute [local irreducible] wpQuiet

/-- The blocks of the table itself, of the map and of this order. -/
def Zr (ov : Value) (b : Nat) (T : TypeId) : Prop := T = 67 ∨ T = 64 ∨ (T = 70 ∧ ov.ownBlock = some b)
theorem zr_zt {ov : Value} {b : Nat} {T : TypeId} (h : Zr ov b T) : Zt b T := by
  rcases h with h | h | h
  · exact .inl h
  · exact .inr (.inl h)
  · exact .inr (.inr h.1)
theorem Tab.wroteR {w w5 : World} {base tb mb : Nat} {ov : Value} {most life : Int} {L : List Wp} (h : Tab w base tb mb ov most life L) (hg : w.grownBy w5 (some mb)) : Only base (Zr ov) w w5 := Only.grown hg (fun g e => by
  cases e
  obtain ⟨es, ck, h1, _⟩ := h.map
  exact ⟨h.lowM, fun o T ho hT => by rw [h1] at ho; cases ho; cases hT; exact .inr (.inl rfl)⟩) h.sz
set_option maxRecDepth 10000 in
set_option maxHeartbeats 8000000 in
theorem remove_fine (w : World) (base tb mb : Nat) (ov : Value) (most life : Int) (L : List Wp) (h : Tab w base tb mb ov most life L) (i : Nat) (p : Wp) (hi : L[i]? = some p) :
    Calls Try.prog 25 #[.pointer (some ⟨tb, 0, none⟩), nmV p.nm] w fun e w' => e = .returned (.tuple #[]) ∧ ∃ ov', Tab w' base tb mb ov' most life (L.eraseIdx i) ∧ Only base (Zr ov) w w' ∧ ov'.ownBlock = ov.ownBlock := by
  obtain ⟨hil, hie⟩ := List.getElem?_eq_some_iff.1 hi
  obtain ⟨x, hx⟩ : ∃ x, x = p.nm := ⟨_, rfl⟩
  rw [← hx]
  obtain ⟨W2, hW2⟩ : ∃ W2, W2 = w.alloc (.cells #[.int .u32 (x.src : Int), .int .u32 (x.dst : Int), .int .u8 (x.proto : Int), .int .u16 (x.ident : Int)] 70) := ⟨_, rfl⟩
  have hg2 : Grow w W2 := by rw [hW2]; exact Grow.alloc _ _
  have hbx : W2.heap[w.heap.size]? = some (.cells #[.int .u32 (x.src : Int), .int .u32 (x.dst : Int), .int .u8 (x.proto : Int), .int .u16 (x.ident : Int)] 70 (0, 0)) := by
    rw [hW2]; exact heap_alloc_new w _
  have H2 := h.grow hg2
  have hbm : w.heap.size ≠ mb := by have := h.ltM; omega
  have hbt : w.heap.size ≠ tb := by have := h.lt; omega
  have b0 : W2.cell? ⟨w.heap.size, 0, none⟩ = some (.int .u32 (x.src : Int)) := cell_of_row W2 w.heap.size 0 _ _ _ hbx
  have b1 : W2.cell? ⟨w.heap.size, 1, none⟩ = some (.int .u32 (x.dst : Int)) := cell_of_row W2 w.heap.size 1 _ _ _ hbx
  have b2 : W2.cell? ⟨w.heap.size, 2, none⟩ = some (.int .u8 (x.proto : Int)) := cell_of_row W2 w.heap.size 2 _ _ _ hbx
  have b3 : W2.cell? ⟨w.heap.size, 3, none⟩ = some (.int .u16 (x.ident : Int)) := cell_of_row W2 w.heap.size 3 _ _ _ hbx
  have t2 := H2.c2
  have hj : (L.map pairOf)[i]? = some (x, p.blk) := by rw [hx]; exact h.at_ hi
  have hnd : ((L.map pairOf).map Prod.fst).Nodup := by rw [names_pairs]; exact h.nms
  obtain ⟨w3, hrun, hm3, hg3⟩ := MapAt.del (show MapAt W2.drew mb (L.map pairOf) from H2.map) hnd hj 0
  have hg3' := grownBy_undrew hg3
  have o3 := H2.wroteR hg3'
  have bx3 := (hg3'.block _ (Array.getElem?_eq_some_iff.1 hbx).1 (fun e => hbm (by cases e; rfl))).trans hbx
  have tp3 := (hg3'.block _ H2.lt (fun e => H2.tm (by cases e; rfl))).trans H2.top
  have or3 : Nrow w3 base ov (L.map Wp.nm) := ownsRow_other H2.ord fun b cs hb hh => hg3'.block b (Array.getElem?_eq_some_iff.1 hh).1 (fun e => by
    cases e
    obtain ⟨es, ck, h1, _⟩ := H2.map
    rw [h1] at hh
    cases hh)
  have hbs : base ≤ w3.heap.size := Nat.le_trans H2.sz o3.size
  have hts : tb < w3.heap.size := (Array.getElem?_eq_some_iff.1 tp3).1
  have hxs : w.heap.size < w3.heap.size := (Array.getElem?_eq_some_iff.1 bx3).1
  have u0 : w3.cell? ⟨w.heap.size, 0, none⟩ = some (.int .u32 (x.src : Int)) := cell_of_row w3 w.heap.size 0 _ _ _ bx3
  have u1 : w3.cell? ⟨w.heap.size, 1, none⟩ = some (.int .u32 (x.dst : Int)) := cell_of_row w3 w.heap.size 1 _ _ _ bx3
  have u2 : w3.cell? ⟨w.heap.size, 2, none⟩ = some (.int .u8 (x.proto : Int)) := cell_of_row w3 w.heap.size 2 _ _ _ bx3
  have u3 : w3.cell? ⟨w.heap.size, 3, none⟩ = some (.int .u16 (x.ident : Int)) := cell_of_row w3 w.heap.size 3 _ _ _ bx3
  have s3 : w3.cell? ⟨tb, 3, none⟩ = some ov := cell_of_row w3 tb 3 _ _ _ tp3
  have hil2 : i < (L.map Wp.nm).length := by rw [List.length_map]; exact hil
  have hnl : (L.map Wp.nm).length ≤ 64 := by rw [List.length_map]; exact h.few
  obtain ⟨g, cap, hov⟩ : ∃ g cap, ov = .slice (some ⟨g, 0, none⟩) (L.map Wp.nm).length cap := by
    rcases id or3.2 with ⟨e1, e2⟩ | ⟨g, cap, cur, e1, _⟩
    · omega
    · exact ⟨g, cap, e1⟩
  have cIx : ∀ q : Gw w3, Calls Try.prog 41 #[ov, nmV x] q.v fun e w' => e = .returned (.int .i64 (i : Int)) ∧ ∃ r : Gw w3, w' = r.v := fun q =>
    Calls.gw (Index_any q.v ov (L.map Wp.nm) (or3.nms.grow q.h) i hil2 x (by rw [List.getElem_map, hie, hx]) (fun j hj hji e => by
      have hn := h.nms
      unfold List.Nodup at hn
      rw [List.pairwise_iff_getElem] at hn
      have := hn j i hj hil2 hji
      rw [e, List.getElem_map, hie, hx] at this
      exact this rfl) (by omega))
  obtain ⟨ZR, hZR⟩ : ∃ ZR, ZR = Zr ov := ⟨_, rfl⟩
  obtain ⟨OB, hOB⟩ : ∃ OB, OB = ov.ownBlock := ⟨_, rfl⟩
  rw [← hZR] at o3
  have HZR := Lib.hid (And.intro hZR hOB)
  -- behind Index, Delete
  have cDel : Hid (∀ w4, Grow w3 w4 → Calls Try.prog 42 #[ov, .int .i64 (i : Int), .int .i64 ((i : Int) + 1)] w4 fun e w5 => ∃ A n c, e = .returned (.slice A n c) ∧ w5.cell? ⟨tb, 3, none⟩ = some ov ∧ w5.frozen? ⟨tb, 3, none⟩ = false ∧
      Hid (Tab (w5.setCell ⟨tb, 3, none⟩ (.slice A n c)) base tb mb (.slice A n c) most life (L.eraseIdx i) ∧ Only base ZR w (w5.setCell ⟨tb, 3, none⟩ (.slice A n c)) ∧ (Value.slice A n c).ownBlock = OB)) := by
    intro w4 hg4
    have hov2 := hOB.trans (congrArg Value.ownBlock hov)
    rw [hov] at or3 tp3 ⊢
    have or4 : Nrow w4 base (.slice (some ⟨g, 0, none⟩) (L.map Wp.nm).length cap) (L.map Wp.nm) := ownsRow_other or3 fun b cs _ hh => hg4.block b (Array.getElem?_eq_some_iff.1 hh).1
    refine (Delete_any w4 base g cap i (L.map Wp.nm) or4 hil2 (by omega)).mono ?_
    rintro e w5 ⟨rfl, ho5, hg5⟩
    have oA : Only base (fun b T => T = 67 ∨ (T = 70 ∧ OB = some b)) w3 w5 := (Only.grow hg4 hbs _).trans (Only.grown hg5 (fun b e => by
      obtain ⟨cs, h1, h2⟩ := ownsRow_blk or4 (e : (Value.slice (some ⟨g, 0, none⟩) (L.map Wp.nm).length cap).ownBlock = some b)
      exact ⟨h2, fun o T ho hT => by rw [h1] at ho; cases ho; cases hT; exact .inr ⟨rfl, hov2.trans e⟩⟩) (Nat.le_trans hbs hg4.size))
    have htb5 : w5.heap[tb]? = some (.cells #[.int .i64 most, .int .i64 life, .map (some mb), .slice (some ⟨g, 0, none⟩) (L.map Wp.nm).length cap] 67 (0, 0)) := by
      have h1 := (Only.grow (base := base) hg4 hbs fun _ _ => False).cells tp3 (fun e => e)
      refine (hg5.block tb (Array.getElem?_eq_some_iff.1 h1).1 fun e => ?_).trans h1
      cases e
      obtain ⟨cs, h2, _⟩ := ownsRow_blk or4 (b := tb) rfl
      rw [h1] at h2
      cases h2
    have oS : Only base (fun b T => T = 67 ∨ (T = 70 ∧ OB = some b)) w5 (w5.setCell ⟨tb, 3, none⟩ (.slice (some ⟨g, 0, none⟩) ((L.map Wp.nm).length - 1) cap)) := Only.set htb5 h.low (.inl rfl) _
    have oAll := oA.trans oS
    have oW : Only base ZR w (w5.setCell ⟨tb, 3, none⟩ (.slice (some ⟨g, 0, none⟩) ((L.map Wp.nm).length - 1) cap)) := ((Only.grow hg2 h.sz ZR).trans o3).trans (oAll.mono fun _ _ _ _ _ e => by rw [hZR]; rcases e with e | e; exact .inl e; exact .inr (.inr ⟨e.1, hOB.symm.trans e.2⟩))
    have oT : Only base Zt w (w5.setCell ⟨tb, 3, none⟩ (.slice (some ⟨g, 0, none⟩) ((L.map Wp.nm).length - 1) cap)) := oW.mono fun _ _ _ _ _ e => by rw [hZR] at e; exact zr_zt e
    refine ⟨_, _, _, rfl, cell_of_row w5 tb 3 _ _ _ htb5, frozen_of htb5, Tab.less h i oT (heap_setCell_own (k := 3) htb5 _) ?_ ?_, oW, hov2.symm⟩
    · exact hm3.of_heap fun es ck hh => oAll.keep _ _ _ hh rfl (fun e => by rcases e with e | e; exact absurd e (by decide); exact absurd e.1 (by decide))
    · have hel : ((L.map Wp.nm).eraseIdx i).length = (L.map Wp.nm).length - 1 := List.length_eraseIdx_of_lt hil2
      unfold Nrow at ho5 ⊢
      rw [hel] at ho5 ⊢
      refine ownsRow_other ho5 fun b cs _ hh => Below.heap_setCell _ _ _ _ fun e => ?_
      have e : b = tb := e
      rw [e, htb5] at hh
      cases hh
  rw [hov] at s3 cIx cDel
  clear hm3 hg3 hg3' o3 bx3 tp3 or3 hg2 hbx H2 h hx hj hnd hov hi hie hZR hOB
  generalize (L.map Wp.nm).length = N at *
  obtain ⟨x0, x1, x2, x3⟩ := x
  unfold nmV at *
  simp only at *
  have d0 := fun q : Gw w3 => Gw.cell hxs u0 q
  have d1 := fun q : Gw w3 => Gw.cell hxs u1 q
  have d2 := fun q : Gw w3 => Gw.cell hxs u2 q
  have d3 := fun q : Gw w3 => Gw.cell hxs u3 q
  have e3 := fun q : Gw w3 => Gw.cell hts s3 q
  go_enter Try.func25, Try.ntmps25
  go_wp2_with fail
  rw [← hW2]
  clear hW2
  go_region
  all_goals
    go_wp2_with fail
    refine wp_region_gw (by kernel_rfl) (by kernel_rfl) ?_
    repeat (quiet_step ((go_at_call 41; exact cIx _)))
    refine wpQuiet_nil ?_
    intro wz hw'
    obtain ⟨⟨wq, hgq⟩, hw2⟩ := hw'
    subst hw2
    have e3' := e3 ⟨wz, hgq⟩
    simp only at e3'
    have cD := cDel.out wz hgq
    go_wp2_with (go_at_call 42; refine cD.mono ?_; rintro e w5 ⟨A5, n5, c5, rfl, k3, kf, HZ⟩)
    go_end0
    exact ⟨rfl, _, HZ.out.1, by have := HZ.out.2.1; rw [HZR.out.1] at this; exact this, HZ.out.2.2.trans HZR.out.2⟩
theorem remove_any (w : World) (base tb mb : Nat) (ov : Value) (most life : Int) (L : List Wp) (h : Tab w base tb mb ov most life L) (i : Nat) (p : Wp) (hi : L[i]? = some p) :
    Calls Try.prog 25 #[.pointer (some ⟨tb, 0, none⟩), nmV p.nm] w fun e w' => e = .returned (.tuple #[]) ∧ ∃ ov', Tab w' base tb mb ov' most life (L.eraseIdx i) ∧ Only base Zt w w' :=
  (remove_fine w base tb mb ov most life L h i p hi).mono fun e w' ⟨h1, ov', h2, h3, _⟩ => ⟨h1, ov', h2, h3.mono fun _ _ _ _ _ e => zr_zt e⟩
end Go.Proofs.Ytfjmcfkpbacicaa
/- Contract: find. -/
namespace Go.Proofs.Ytfjmcfkpbacicaa
set_option linter.unusedVariables false
set_option linter.unusedSimpArgs false
open Go.ChangeShapes Go.WideShapes Go.ChangeAt Go.RowKit Go.Shelf
attribute [local irreducible] wpQuiet

set_option maxRecDepth 10000 in
set_option maxHeartbeats 8000000 in
theorem find_full (w : World) (base tb mb : Nat) (ov : Value) (most life : Int) (L : List Wp) (h : Tab w base tb mb ov most life L) (now : Int) (hnow : 0 ≤ now ∧ now ≤ 1099511627776) (k : Pkt) (vo vd : Value) (hp : Piece base w k vo vd) (h0 : 0 ≤ k.off) (h1 : k.off ≤ 8191)
    (hx0 : nmOf k ∉ L.map Wp.nm) (hful : most ≤ L.length) :
    Calls Try.prog 29 #[.pointer (some ⟨tb, 0, none⟩), .int .i64 now, ipV k vo vd] w fun e w' => e = .returned (.tuple #[.pointer none, .int .i64 5]) ∧ Grow w w' := by
  obtain ⟨A, c, rfl, _⟩ := hp.o.1.form
  obtain ⟨B, d, rfl, _⟩ := hp.d.1.form
  obtain ⟨W1, hW1⟩ : ∃ W1, W1 = w.alloc (.cells #[.int .u8 (k.tos : Int), .int .u16 (k.ident : Int), .bool k.whole, .bool k.more, .int .i64 k.off, .int .u8 (k.ttl : Int), .int .u8 (k.proto : Int), .int .u32 (k.src : Int), .int .u32 (k.dst : Int), .slice A k.opts.length c, .slice B k.data.length d] 38) := ⟨_, rfl⟩
  have hg1 : Grow w W1 := by rw [hW1]; exact Grow.alloc w _
  have hB : Blk W1 w.heap.size k (.slice A k.opts.length c) (.slice B k.data.length d) := by rw [hW1]; exact Blk.new _ _ _ _
  have cN := nameOf_any _ k W1 (hp.ip.grow hg1)
  obtain ⟨x, hx⟩ : ∃ x, nmOf k = x := ⟨_, rfl⟩
  rw [hx] at cN
  have hlen := h.few
  have hrng := h.rng
  have hab := mem_absent hx0
  rw [hx] at hab
  -- behind the name
  have HF : Hid (∀ w2, Grow W1 w2 → ∀ W, Grow (w2.alloc (.cells #[.int .u32 (x.src : Int), .int .u32 (x.dst : Int), .int .u8 (x.proto : Int), .int .u16 (x.ident : Int)] 70)) W →
      Grow w W ∧ W.cell? ⟨tb, 0, none⟩ = some (.int .i64 most) ∧ W.cell? ⟨tb, 1, none⟩ = some (.int .i64 life) ∧ W.cell? ⟨tb, 2, none⟩ = some (.map (some mb)) ∧
      W.cell? ⟨w2.heap.size, 0, none⟩ = some (.int .u32 (x.src : Int)) ∧ W.cell? ⟨w2.heap.size, 1, none⟩ = some (.int .u32 (x.dst : Int)) ∧ W.cell? ⟨w2.heap.size, 2, none⟩ = some (.int .u8 (x.proto : Int)) ∧ W.cell? ⟨w2.heap.size, 3, none⟩ = some (.int .u16 (x.ident : Int)) ∧
      (Builtin.len_ #[64] 3 #[.map (some mb)]).run Try.prog W = .ok (.int .i64 (L.length : Nat)) W ∧
      (Instr.lookup 64 (.map (some mb)) (.agg #[.int .u32 (x.src : Int), .int .u32 (x.dst : Int), .int .u8 (x.proto : Int), .int .u16 (x.ident : Int)]) false).run Try.prog W = .ok (.pointer none) W ∧ Blk W w.heap.size k (.slice A k.opts.length c) (.slice B k.data.length d)) := by
    intro w2 g2 W gW
    have gA := Grow.alloc w2 (.cells #[.int .u32 (x.src : Int), .int .u32 (x.dst : Int), .int .u8 (x.proto : Int), .int .u16 (x.ident : Int)] 70)
    have g := hg1.trans (g2.trans (gA.trans gW))
    have hT := h.grow g
    have hbx : W.heap[w2.heap.size]? = some (.cells #[.int .u32 (x.src : Int), .int .u32 (x.dst : Int), .int .u8 (x.proto : Int), .int .u16 (x.ident : Int)] 70 (0, 0)) := (gW.block _ (by simp)).trans (heap_alloc_new w2 _)
    have hl := hT.map.len 3
    rw [List.length_map] at hl
    exact ⟨g, hT.c0, hT.c1, hT.c2, cell_of_row W _ 0 _ _ _ hbx, cell_of_row W _ 1 _ _ _ hbx, cell_of_row W _ 2 _ _ _ hbx, cell_of_row W _ 3 _ _ _ hbx, hl, hT.map.look_none hab, hB.grow (g2.trans (gA.trans gW))⟩
  have HP := Lib.hid (And.intro h (And.intro hp hx))
  have hxn : Hid (nmV x = .agg #[.int .u32 (x.src : Int), .int .u32 (x.dst : Int), .int .u8 (x.proto : Int), .int .u16 (x.ident : Int)]) := rfl
  obtain ⟨x0, x1, x2, x3⟩ := x
  unfold nmV at cN
  simp only at *
  clear hg1 hB h hp hx
  go_enter Try.func29, Try.ntmps29
  go_wp2_with fail
  rw [← hW1]
  clear hW1
  go_wp2_with fail
  refine cN.mono ?_
  rintro e w2 ⟨rfl, hg2⟩
  have HG := Lib.hid (HF.out w2 hg2)
  clear cN hg2 HF
  obtain ⟨W3, hW3⟩ : ∃ W3, W3 = w2.alloc (.cells #[.int .u32 (x0 : Int), .int .u32 (x1 : Int), .int .u8 (x2 : Int), .int .u16 (x3 : Int)] 70) := ⟨_, rfl⟩
  rw [← hW3] at HG
  go_wp2_with fail
  rw [← hW3]
  have HSZ : Hid (w2.heap.size < W3.heap.size) := by show w2.heap.size < W3.heap.size; rw [hW3]; simp
  clear hW3
  have p0 := fun q : Gw W3 => (HG.out q.v q.h).2.2.2.1
  have p1 := fun q : Gw W3 => (HG.out q.v q.h).2.2.2.2.1
  have p2 := fun q : Gw W3 => (HG.out q.v q.h).2.2.2.2.2.1
  have p3 := fun q : Gw W3 => (HG.out q.v q.h).2.2.2.2.2.2.1
  have p4 := fun q : Gw W3 => (HG.out q.v q.h).2.2.2.2.2.2.2.1
  have p5 := fun q : Gw W3 => (HG.out q.v q.h).2.2.2.2.2.2.2.2.2.1
  refine wp_region_gw (by kernel_rfl) (by kernel_rfl) ?_
  repeat (quiet_step (fail))
  refine wpQuiet_nil ?_
  intro w4 hw'
  obtain ⟨⟨wq, hg4⟩, hw2⟩ := hw'
  subst hw2
  clear p0 p1 p2 p3 p4 p5
  have HK := Lib.hid (fun W (g : Grow w4 W) => HG.out W (hg4.trans g))
  have HS4 := Lib.hid (Nat.lt_of_lt_of_le HSZ.out hg4.size)
  clear HG hg4 HSZ
  go_wp2_with fail
  have p0 := fun q : Gw w4 => (HK.out q.v q.h).2.1
  have p1 := fun q : Gw w4 => (HK.out q.v q.h).2.2.2.1
  have p2 := fun q : Gw w4 => (HK.out q.v q.h).2.2.2.2.2.2.2.2.1
  have hge : decide (most ≤ (L.length : Int)) = true := decide_eq_true hful
  refine wp_region_gw (by kernel_rfl) (by kernel_rfl) ?_
  repeat (quiet_step (fail))
  refine wpQuiet_nil ?_
  intro w5 hw'
  obtain ⟨⟨wq, hg5⟩, hw2⟩ := hw'
  subst hw2
  clear p0 p1 p2
  obtain ⟨g6, t0, t1, t2, n0, n1, n2, n3, _, _, bk⟩ := HK.out w5 hg5
  have HG5 := Lib.hid (fun W (g : Grow w5 W) => HK.out W (hg5.trans g))
  have HS5 := Lib.hid (Nat.lt_of_lt_of_le HS4.out hg5.size)
  have G6 := Lib.hid g6
  obtain ⟨e0, e1, e2, e3, e4, e5, e6, e7, e8, e9, e10⟩ := bk.boxd
  clear HK hg5 g6 bk HS4
  go_wp2_with fail
  go_ret2
  exact ⟨rfl, G6.out⟩

set_option maxRecDepth 10000 in
set_option maxHeartbeats 8000000 in
theorem find_new (w : World) (base tb mb : Nat) (ov : Value) (most life : Int) (L : List Wp) (h : Tab w base tb mb ov most life L) (now : Int) (hnow : 0 ≤ now ∧ now ≤ 1099511627776) (k : Pkt) (vo vd : Value) (hp : Piece base w k vo vd) (h0 : 0 ≤ k.off) (h1 : k.off ≤ 8191)
    (hx0 : nmOf k ∉ L.map Wp.nm) (hful : ¬ most ≤ L.length) :
    Calls Try.prog 29 #[.pointer (some ⟨tb, 0, none⟩), .int .i64 now, ipV k vo vd] w fun e w' => ∃ ov' pb, e = .returned (.tuple #[.pointer (some ⟨pb, 0, none⟩), .int .i64 0]) ∧ Tab w' base tb mb ov' most life (L ++ [fresh (nmOf k) pb (now + life)]) ∧ Only base Zt w w' ∧ w.heap.size ≤ pb := by
  obtain ⟨A, c, rfl, _⟩ := hp.o.1.form
  obtain ⟨B, d, rfl, _⟩ := hp.d.1.form
  obtain ⟨W1, hW1⟩ : ∃ W1, W1 = w.alloc (.cells #[.int .u8 (k.tos : Int), .int .u16 (k.ident : Int), .bool k.whole, .bool k.more, .int .i64 k.off, .int .u8 (k.ttl : Int), .int .u8 (k.proto : Int), .int .u32 (k.src : Int), .int .u32 (k.dst : Int), .slice A k.opts.length c, .slice B k.data.length d] 38) := ⟨_, rfl⟩
  have hg1 : Grow w W1 := by rw [hW1]; exact Grow.alloc w _
  have hB : Blk W1 w.heap.size k (.slice A k.opts.length c) (.slice B k.data.length d) := by rw [hW1]; exact Blk.new _ _ _ _
  have cN := nameOf_any _ k W1 (hp.ip.grow hg1)
  obtain ⟨x, hx⟩ : ∃ x, nmOf k = x := ⟨_, rfl⟩
  rw [hx] at cN
  have hlen := h.few
  have hrng := h.rng
  have hab := mem_absent hx0
  rw [hx] at hab
  -- behind the name
  have HF : Hid (∀ w2, Grow W1 w2 → ∀ W, Grow (w2.alloc (.cells #[.int .u32 (x.src : Int), .int .u32 (x.dst : Int), .int .u8 (x.proto : Int), .int .u16 (x.ident : Int)] 70)) W →
      Grow w W ∧ W.cell? ⟨tb, 0, none⟩ = some (.int .i64 most) ∧ W.cell? ⟨tb, 1, none⟩ = some (.int .i64 life) ∧ W.cell? ⟨tb, 2, none⟩ = some (.map (some mb)) ∧
      W.cell? ⟨w2.heap.size, 0, none⟩ = some (.int .u32 (x.src : Int)) ∧ W.cell? ⟨w2.heap.size, 1, none⟩ = some (.int .u32 (x.dst : Int)) ∧ W.cell? ⟨w2.heap.size, 2, none⟩ = some (.int .u8 (x.proto : Int)) ∧ W.cell? ⟨w2.heap.size, 3, none⟩ = some (.int .u16 (x.ident : Int)) ∧
      (Builtin.len_ #[64] 3 #[.map (some mb)]).run Try.prog W = .ok (.int .i64 (L.length : Nat)) W ∧
      (Instr.lookup 64 (.map (some mb)) (.agg #[.int .u32 (x.src : Int), .int .u32 (x.dst : Int), .int .u8 (x.proto : Int), .int .u16 (x.ident : Int)]) false).run Try.prog W = .ok (.pointer none) W ∧ Blk W w.heap.size k (.slice A k.opts.length c) (.slice B k.data.length d)) := by
    intro w2 g2 W gW
    have gA := Grow.alloc w2 (.cells #[.int .u32 (x.src : Int), .int .u32 (x.dst : Int), .int .u8 (x.proto : Int), .int .u16 (x.ident : Int)] 70)
    have g := hg1.trans (g2.trans (gA.trans gW))
    have hT := h.grow g
    have hbx : W.heap[w2.heap.size]? = some (.cells #[.int .u32 (x.src : Int), .int .u32 (x.dst : Int), .int .u8 (x.proto : Int), .int .u16 (x.ident : Int)] 70 (0, 0)) := (gW.block _ (by simp)).trans (heap_alloc_new w2 _)
    have hl := hT.map.len 3
    rw [List.length_map] at hl
    exact ⟨g, hT.c0, hT.c1, hT.c2, cell_of_row W _ 0 _ _ _ hbx, cell_of_row W _ 1 _ _ _ hbx, cell_of_row W _ 2 _ _ _ hbx, cell_of_row W _ 3 _ _ _ hbx, hl, hT.map.look_none hab, hB.grow (g2.trans (gA.trans gW))⟩
  have HP := Lib.hid (And.intro h (And.intro hp hx))
  have hxn : Hid (nmV x = .agg #[.int .u32 (x.src : Int), .int .u32 (x.dst : Int), .int .u8 (x.proto : Int), .int .u16 (x.ident : Int)]) := rfl
  obtain ⟨x0, x1, x2, x3⟩ := x
  unfold nmV at cN
  simp only at *
  clear hg1 hB h hp hx
  go_enter Try.func29, Try.ntmps29
  go_wp2_with fail
  rw [← hW1]
  clear hW1
  go_wp2_with fail
  refine cN.mono ?_
  rintro e w2 ⟨rfl, hg2⟩
  have HG := Lib.hid (HF.out w2 hg2)
  clear cN hg2 HF
  obtain ⟨W3, hW3⟩ : ∃ W3, W3 = w2.alloc (.cells #[.int .u32 (x0 : Int), .int .u32 (x1 : Int), .int .u8 (x2 : Int), .int .u16 (x3 : Int)] 70) := ⟨_, rfl⟩
  rw [← hW3] at HG
  go_wp2_with fail
  rw [← hW3]
  have HSZ : Hid (w2.heap.size < W3.heap.size) := by show w2.heap.size < W3.heap.size; rw [hW3]; simp
  clear hW3
  have p0 := fun q : Gw W3 => (HG.out q.v q.h).2.2.2.1
  have p1 := fun q : Gw W3 => (HG.out q.v q.h).2.2.2.2.1
  have p2 := fun q : Gw W3 => (HG.out q.v q.h).2.2.2.2.2.1
  have p3 := fun q : Gw W3 => (HG.out q.v q.h).2.2.2.2.2.2.1
  have p4 := fun q : Gw W3 => (HG.out q.v q.h).2.2.2.2.2.2.2.1
  have p5 := fun q : Gw W3 => (HG.out q.v q.h).2.2.2.2.2.2.2.2.2.1
  refine wp_region_gw (by kernel_rfl) (by kernel_rfl) ?_
  repeat (quiet_step (fail))
  refine wpQuiet_nil ?_
  intro w4 hw'
  obtain ⟨⟨wq, hg4⟩, hw2⟩ := hw'
  subst hw2
  clear p0 p1 p2 p3 p4 p5
  have HK := Lib.hid (fun W (g : Grow w4 W) => HG.out W (hg4.trans g))
  have HS4 := Lib.hid (Nat.lt_of_lt_of_le HSZ.out hg4.size)
  clear HG hg4 HSZ
  go_wp2_with fail
  have p0 := fun q : Gw w4 => (HK.out q.v q.h).2.1
  have p1 := fun q : Gw w4 => (HK.out q.v q.h).2.2.2.1
  have p2 := fun q : Gw w4 => (HK.out q.v q.h).2.2.2.2.2.2.2.2.1
  have hge : decide (most ≤ (L.length : Int)) = false := decide_eq_false (by omega)
  refine wp_region_gw (by kernel_rfl) (by kernel_rfl) ?_
  repeat (quiet_step (fail))
  refine wpQuiet_nil ?_
  intro w5 hw'
  obtain ⟨⟨wq, hg5⟩, hw2⟩ := hw'
  subst hw2
  clear p0 p1 p2
  obtain ⟨g6, t0, t1, t2, n0, n1, n2, n3, _, _, bk⟩ := HK.out w5 hg5
  have HG5 := Lib.hid (fun W (g : Grow w5 W) => HK.out W (hg5.trans g))
  have HS5 := Lib.hid (Nat.lt_of_lt_of_le HS4.out hg5.size)
  have G6 := Lib.hid g6
  obtain ⟨e0, e1, e2, e3, e4, e5, e6, e7, e8, e9, e10⟩ := bk.boxd
  clear HK hg5 g6 bk HS4
  have hx1 := hx0
  rw [HP.out.2.2] at hx1
  have cBg : Hid (∀ W, Grow w5 W → Calls Try.prog 45 #[.pointer (some ⟨tb, 0, none⟩), .agg #[.int .u32 (x0 : Int), .int .u32 (x1 : Int), .int .u8 (x2 : Int), .int .u16 (x3 : Int)], .int .i64 (now + life)] W fun e w' => ∃ ov' pb, e = .returned (.pointer (some ⟨pb, 0, none⟩)) ∧ Hid (Tab w' base tb mb ov' most life (L ++ [fresh ⟨x0, x1, x2, x3⟩ pb (now + life)]) ∧ Only base Zt w w' ∧ w.heap.size ≤ pb)) := fun W g => by
    have gW := (HG5.out W g).1
    refine (begin_any W base tb mb ov most life L (HP.out.1.grow gW) ⟨x0, x1, x2, x3⟩ hx1 (by omega) (now + life) (by omega)).mono ?_
    rintro e w' ⟨ov', pb, rfl, hT, hO, hP⟩
    exact ⟨ov', pb, rfl, hT, (Only.grow gW HP.out.1.sz Zt).trans hO, Nat.le_trans gW.size hP⟩
  have cB1 := cBg.out w5.drew (Grow.drew _)
  have HXX := Lib.hid HP.out.2.2
  have qw : IntKind.i64.wrap (now + life) = now + life := by rw [IntKind.wrap_i64]; omega
  go_wp2_with fail
  go_region_with (go_at_call 45; refine cB1.mono ?_; rintro e w7 ⟨ov', pb, rfl, HZ⟩)
  all_goals
    go_wp2_with fail
    go_ret2
    exact ⟨ov', pb, rfl, by rw [HXX.out]; exact HZ.out.1, HZ.out.2.1, HZ.out.2.2⟩

set_option maxRecDepth 10000 in
set_option maxHeartbeats 8000000 in
theorem find_stale (w : World) (base tb mb : Nat) (ov : Value) (most life : Int) (L : List Wp) (h : Tab w base tb mb ov most life L) (now : Int) (hnow : 0 ≤ now ∧ now ≤ 1099511627776) (k : Pkt) (vo vd : Value) (hp : Piece base w k vo vd) (h0 : 0 ≤ k.off) (h1 : k.off ≤ 8191)
    (i : Nat) (p : Wp) (hi : L[i]? = some p) (hpn : p.nm = nmOf k) (hne : p.rows ≠ []) (hst : staleB p.fin (reach 0 p.ns) k = true) :
    Calls Try.prog 29 #[.pointer (some ⟨tb, 0, none⟩), .int .i64 now, ipV k vo vd] w fun e w' => e = .returned (.tuple #[.pointer none, .int .i64 120]) ∧ Grow w w' := by
  obtain ⟨A, c, rfl, _⟩ := hp.o.1.form
  obtain ⟨B, d, rfl, _⟩ := hp.d.1.form
  obtain ⟨W1, hW1⟩ : ∃ W1, W1 = w.alloc (.cells #[.int .u8 (k.tos : Int), .int .u16 (k.ident : Int), .bool k.whole, .bool k.more, .int .i64 k.off, .int .u8 (k.ttl : Int), .int .u8 (k.proto : Int), .int .u32 (k.src : Int), .int .u32 (k.dst : Int), .slice A k.opts.length c, .slice B k.data.length d] 38) := ⟨_, rfl⟩
  have hg1 : Grow w W1 := by rw [hW1]; exact Grow.alloc w _
  have hB : Blk W1 w.heap.size k (.slice A k.opts.length c) (.slice B k.data.length d) := by rw [hW1]; exact Blk.new _ _ _ _
  have cN := nameOf_any _ k W1 (hp.ip.grow hg1)
  obtain ⟨x, hx⟩ : ∃ x, nmOf k = x := ⟨_, rfl⟩
  rw [hx] at cN
  have hlen := h.few
  have hrng := h.rng
  have hat := h.at_ hi
  rw [hpn, hx] at hat
  have hnd : ((L.map pairOf).map Prod.fst).Nodup := by rw [names_pairs]; exact h.nms
  have hpm : p ∈ L := List.mem_of_getElem? hi
  -- behind the name
  have HF : Hid (∀ w2, Grow W1 w2 → ∀ W, Grow (w2.alloc (.cells #[.int .u32 (x.src : Int), .int .u32 (x.dst : Int), .int .u8 (x.proto : Int), .int .u16 (x.ident : Int)] 70)) W →
      Grow w W ∧ W.cell? ⟨tb, 0, none⟩ = some (.int .i64 most) ∧ W.cell? ⟨tb, 1, none⟩ = some (.int .i64 life) ∧ W.cell? ⟨tb, 2, none⟩ = some (.map (some mb)) ∧
      W.cell? ⟨w2.heap.size, 0, none⟩ = some (.int .u32 (x.src : Int)) ∧ W.cell? ⟨w2.heap.size, 1, none⟩ = some (.int .u32 (x.dst : Int)) ∧ W.cell? ⟨w2.heap.size, 2, none⟩ = some (.int .u8 (x.proto : Int)) ∧ W.cell? ⟨w2.heap.size, 3, none⟩ = some (.int .u16 (x.ident : Int)) ∧
      (Builtin.len_ #[64] 3 #[.map (some mb)]).run Try.prog W = .ok (.int .i64 (L.length : Nat)) W ∧
      (Instr.lookup 64 (.map (some mb)) (.agg #[.int .u32 (x.src : Int), .int .u32 (x.dst : Int), .int .u8 (x.proto : Int), .int .u16 (x.ident : Int)]) false).run Try.prog W = .ok (.pointer (some ⟨p.blk, 0, none⟩)) W ∧ Blk W w.heap.size k (.slice A k.opts.length c) (.slice B k.data.length d)) := by
    intro w2 g2 W gW
    have gA := Grow.alloc w2 (.cells #[.int .u32 (x.src : Int), .int .u32 (x.dst : Int), .int .u8 (x.proto : Int), .int .u16 (x.ident : Int)] 70)
    have g := hg1.trans (g2.trans (gA.trans gW))
    have hT := h.grow g
    have hbx : W.heap[w2.heap.size]? = some (.cells #[.int .u32 (x.src : Int), .int .u32 (x.dst : Int), .int .u8 (x.proto : Int), .int .u16 (x.ident : Int)] 70 (0, 0)) := (gW.block _ (by simp)).trans (heap_alloc_new w2 _)
    have hl := hT.map.len 3
    rw [List.length_map] at hl
    exact ⟨g, hT.c0, hT.c1, hT.c2, cell_of_row W _ 0 _ _ _ hbx, cell_of_row W _ 1 _ _ _ hbx, cell_of_row W _ 2 _ _ _ hbx, cell_of_row W _ 3 _ _ _ hbx, hl, hT.map.look_some hnd hat, hB.grow (g2.trans (gA.trans gW))⟩
  have HP := Lib.hid (And.intro h (And.intro hp hx))
  have hxn : Hid (nmV x = .agg #[.int .u32 (x.src : Int), .int .u32 (x.dst : Int), .int .u8 (x.proto : Int), .int .u16 (x.ident : Int)]) := rfl
  obtain ⟨x0, x1, x2, x3⟩ := x
  unfold nmV at cN
  simp only at *
  clear hg1 hB h hp hx
  go_enter Try.func29, Try.ntmps29
  go_wp2_with fail
  rw [← hW1]
  clear hW1
  go_wp2_with fail
  refine cN.mono ?_
  rintro e w2 ⟨rfl, hg2⟩
  have HG := Lib.hid (HF.out w2 hg2)
  clear cN hg2 HF
  obtain ⟨W3, hW3⟩ : ∃ W3, W3 = w2.alloc (.cells #[.int .u32 (x0 : Int), .int .u32 (x1 : Int), .int .u8 (x2 : Int), .int .u16 (x3 : Int)] 70) := ⟨_, rfl⟩
  rw [← hW3] at HG
  go_wp2_with fail
  rw [← hW3]
  have HSZ : Hid (w2.heap.size < W3.heap.size) := by show w2.heap.size < W3.heap.size; rw [hW3]; simp
  clear hW3
  have p0 := fun q : Gw W3 => (HG.out q.v q.h).2.2.2.1
  have p1 := fun q : Gw W3 => (HG.out q.v q.h).2.2.2.2.1
  have p2 := fun q : Gw W3 => (HG.out q.v q.h).2.2.2.2.2.1
  have p3 := fun q : Gw W3 => (HG.out q.v q.h).2.2.2.2.2.2.1
  have p4 := fun q : Gw W3 => (HG.out q.v q.h).2.2.2.2.2.2.2.1
  have p5 := fun q : Gw W3 => (HG.out q.v q.h).2.2.2.2.2.2.2.2.2.1
  refine wp_region_gw (by kernel_rfl) (by kernel_rfl) ?_
  repeat (quiet_step (fail))
  refine wpQuiet_nil ?_
  intro w4 hw'
  obtain ⟨⟨wq, hg4⟩, hw2⟩ := hw'
  subst hw2
  clear p0 p1 p2 p3 p4 p5
  have HK := Lib.hid (fun W (g : Grow w4 W) => HG.out W (hg4.trans g))
  have HS4 := Lib.hid (Nat.lt_of_lt_of_le HSZ.out hg4.size)
  clear HG hg4 HSZ
  go_wp2_with fail
  have p0 := fun q : Gw w4 => (HK.out q.v q.h).2.1
  have p1 := fun q : Gw w4 => (HK.out q.v q.h).2.2.2.1
  have p2 := fun q : Gw w4 => (HK.out q.v q.h).2.2.2.2.2.2.2.2.1

  refine wp_region_gw (by kernel_rfl) (by kernel_rfl) ?_
  repeat (quiet_step (fail))
  refine wpQuiet_nil ?_
  intro w5 hw'
  obtain ⟨⟨wq, hg5⟩, hw2⟩ := hw'
  subst hw2
  clear p0 p1 p2
  obtain ⟨g6, t0, t1, t2, n0, n1, n2, n3, _, _, bk⟩ := HK.out w5 hg5
  have HG5 := Lib.hid (fun W (g : Grow w5 W) => HK.out W (hg5.trans g))
  have HS5 := Lib.hid (Nat.lt_of_lt_of_le HS4.out hg5.size)
  have G6 := Lib.hid g6
  obtain ⟨e0, e1, e2, e3, e4, e5, e6, e7, e8, e9, e10⟩ := bk.boxd
  clear HK hg5 g6 bk HS4
  have cSt : Hid (∀ W, Grow w5 W → Calls Try.prog 46 #[.pointer (some ⟨p.blk, 0, none⟩), ipV k (.slice A k.opts.length c) (.slice B k.data.length d)] W fun e w' => e = .returned (.bool true) ∧ Grow w w') := fun W g => by
    have gW := (HG5.out W g).1
    have := stale_any W base p ((HP.out.1.pk p hpm).grow gW HP.out.1.sz) (Nat.le_trans HP.out.1.sz gW.size) hne k _ _ (HP.out.2.1.grow gW HP.out.1.sz) h0 h1
    rw [hst] at this
    exact this.mono fun e w' h => ⟨h.1, gW.trans h.2⟩
  have cS1 := cSt.out w5 (Grow.refl _)
  unfold ipV at cS1
  go_wp2_with (go_at_call 46; refine cS1.mono ?_; rintro e w7 ⟨rfl, hg7⟩; have G7 := Lib.hid hg7; clear hg7)
  go_ret2
  exact ⟨rfl, G7.out⟩

set_option maxRecDepth 10000 in
set_option maxHeartbeats 8000000 in
theorem find_old (w : World) (base tb mb : Nat) (ov : Value) (most life : Int) (L : List Wp) (h : Tab w base tb mb ov most life L) (now : Int) (hnow : 0 ≤ now ∧ now ≤ 1099511627776) (k : Pkt) (vo vd : Value) (hp : Piece base w k vo vd) (h0 : 0 ≤ k.off) (h1 : k.off ≤ 8191)
    (i : Nat) (p : Wp) (hi : L[i]? = some p) (hpn : p.nm = nmOf k) (hne : p.rows ≠ []) (hst : staleB p.fin (reach 0 p.ns) k = false) :
    Calls Try.prog 29 #[.pointer (some ⟨tb, 0, none⟩), .int .i64 now, ipV k vo vd] w fun e w' => e = .returned (.tuple #[.pointer (some ⟨p.blk, 0, none⟩), .int .i64 0]) ∧ Grow w w' := by
  obtain ⟨A, c, rfl, _⟩ := hp.o.1.form
  obtain ⟨B, d, rfl, _⟩ := hp.d.1.form
  obtain ⟨W1, hW1⟩ : ∃ W1, W1 = w.alloc (.cells #[.int .u8 (k.tos : Int), .int .u16 (k.ident : Int), .bool k.whole, .bool k.more, .int .i64 k.off, .int .u8 (k.ttl : Int), .int .u8 (k.proto : Int), .int .u32 (k.src : Int), .int .u32 (k.dst : Int), .slice A k.opts.length c, .slice B k.data.length d] 38) := ⟨_, rfl⟩
  have hg1 : Grow w W1 := by rw [hW1]; exact Grow.alloc w _
  have hB : Blk W1 w.heap.size k (.slice A k.opts.length c) (.slice B k.data.length d) := by rw [hW1]; exact Blk.new _ _ _ _
  have cN := nameOf_any _ k W1 (hp.ip.grow hg1)
  obtain ⟨x, hx⟩ : ∃ x, nmOf k = x := ⟨_, rfl⟩
  rw [hx] at cN
  have hlen := h.few
  have hrng := h.rng
  have hat := h.at_ hi
  rw [hpn, hx] at hat
  have hnd : ((L.map pairOf).map Prod.fst).Nodup := by rw [names_pairs]; exact h.nms
  have hpm : p ∈ L := List.mem_of_getElem? hi
  -- behind the name
  have HF : Hid (∀ w2, Grow W1 w2 → ∀ W, Grow (w2.alloc (.cells #[.int .u32 (x.src : Int), .int .u32 (x.dst : Int), .int .u8 (x.proto : Int), .int .u16 (x.ident : Int)] 70)) W →
      Grow w W ∧ W.cell? ⟨tb, 0, none⟩ = some (.int .i64 most) ∧ W.cell? ⟨tb, 1, none⟩ = some (.int .i64 life) ∧ W.cell? ⟨tb, 2, none⟩ = some (.map (some mb)) ∧
      W.cell? ⟨w2.heap.size, 0, none⟩ = some (.int .u32 (x.src : Int)) ∧ W.cell? ⟨w2.heap.size, 1, none⟩ = some (.int .u32 (x.dst : Int)) ∧ W.cell? ⟨w2.heap.size, 2, none⟩ = some (.int .u8 (x.proto : Int)) ∧ W.cell? ⟨w2.heap.size, 3, none⟩ = some (.int .u16 (x.ident : Int)) ∧
      (Builtin.len_ #[64] 3 #[.map (some mb)]).run Try.prog W = .ok (.int .i64 (L.length : Nat)) W ∧
      (Instr.lookup 64 (.map (some mb)) (.agg #[.int .u32 (x.src : Int), .int .u32 (x.dst : Int), .int .u8 (x.proto : Int), .int .u16 (x.ident : Int)]) false).run Try.prog W = .ok (.pointer (some ⟨p.blk, 0, none⟩)) W ∧ Blk W w.heap.size k (.slice A k.opts.length c) (.slice B k.data.length d)) := by
    intro w2 g2 W gW
    have gA := Grow.alloc w2 (.cells #[.int .u32 (x.src : Int), .int .u32 (x.dst : Int), .int .u8 (x.proto : Int), .int .u16 (x.ident : Int)] 70)
    have g := hg1.trans (g2.trans (gA.trans gW))
    have hT := h.grow g
    have hbx : W.heap[w2.heap.size]? = some (.cells #[.int .u32 (x.src : Int), .int .u32 (x.dst : Int), .int .u8 (x.proto : Int), .int .u16 (x.ident : Int)] 70 (0, 0)) := (gW.block _ (by simp)).trans (heap_alloc_new w2 _)
    have hl := hT.map.len 3
    rw [List.length_map] at hl
    exact ⟨g, hT.c0, hT.c1, hT.c2, cell_of_row W _ 0 _ _ _ hbx, cell_of_row W _ 1 _ _ _ hbx, cell_of_row W _ 2 _ _ _ hbx, cell_of_row W _ 3 _ _ _ hbx, hl, hT.map.look_some hnd hat, hB.grow (g2.trans (gA.trans gW))⟩
  have HP := Lib.hid (And.intro h (And.intro hp hx))
  have hxn : Hid (nmV x = .agg #[.int .u32 (x.src : Int), .int .u32 (x.dst : Int), .int .u8 (x.proto : Int), .int .u16 (x.ident : Int)]) := rfl
  obtain ⟨x0, x1, x2, x3⟩ := x
  unfold nmV at cN
  simp only at *
  clear hg1 hB h hp hx
  go_enter Try.func29, Try.ntmps29
  go_wp2_with fail
  rw [← hW1]
  clear hW1
  go_wp2_with fail
  refine cN.mono ?_
  rintro e w2 ⟨rfl, hg2⟩
  have HG := Lib.hid (HF.out w2 hg2)
  clear cN hg2 HF
  obtain ⟨W3, hW3⟩ : ∃ W3, W3 = w2.alloc (.cells #[.int .u32 (x0 : Int), .int .u32 (x1 : Int), .int .u8 (x2 : Int), .int .u16 (x3 : Int)] 70) := ⟨_, rfl⟩
  rw [← hW3] at HG
  go_wp2_with fail
  rw [← hW3]
  have HSZ : Hid (w2.heap.size < W3.heap.size) := by show w2.heap.size < W3.heap.size; rw [hW3]; simp
  clear hW3
  have p0 := fun q : Gw W3 => (HG.out q.v q.h).2.2.2.1
  have p1 := fun q : Gw W3 => (HG.out q.v q.h).2.2.2.2.1
  have p2 := fun q : Gw W3 => (HG.out q.v q.h).2.2.2.2.2.1
  have p3 := fun q : Gw W3 => (HG.out q.v q.h).2.2.2.2.2.2.1
  have p4 := fun q : Gw W3 => (HG.out q.v q.h).2.2.2.2.2.2.2.1
  have p5 := fun q : Gw W3 => (HG.out q.v q.h).2.2.2.2.2.2.2.2.2.1
  refine wp_region_gw (by kernel_rfl) (by kernel_rfl) ?_
  repeat (quiet_step (fail))
  refine wpQuiet_nil ?_
  intro w4 hw'
  obtain ⟨⟨wq, hg4⟩, hw2⟩ := hw'
  subst hw2
  clear p0 p1 p2 p3 p4 p5
  have HK := Lib.hid (fun W (g : Grow w4 W) => HG.out W (hg4.trans g))
  have HS4 := Lib.hid (Nat.lt_of_lt_of_le HSZ.out hg4.size)
  clear HG hg4 HSZ
  go_wp2_with fail
  have p0 := fun q : Gw w4 => (HK.out q.v q.h).2.1
  have p1 := fun q : Gw w4 => (HK.out q.v q.h).2.2.2.1
  have p2 := fun q : Gw w4 => (HK.out q.v q.h).2.2.2.2.2.2.2.2.1

  refine wp_region_gw (by kernel_rfl) (by kernel_rfl) ?_
  repeat (quiet_step (fail))
  refine wpQuiet_nil ?_
  intro w5 hw'
  obtain ⟨⟨wq, hg5⟩, hw2⟩ := hw'
  subst hw2
  clear p0 p1 p2
  obtain ⟨g6, t0, t1, t2, n0, n1, n2, n3, _, _, bk⟩ := HK.out w5 hg5
  have HG5 := Lib.hid (fun W (g : Grow w5 W) => HK.out W (hg5.trans g))
  have HS5 := Lib.hid (Nat.lt_of_lt_of_le HS4.out hg5.size)
  have G6 := Lib.hid g6
  obtain ⟨e0, e1, e2, e3, e4, e5, e6, e7, e8, e9, e10⟩ := bk.boxd
  clear HK hg5 g6 bk HS4
  have cSt : Hid (∀ W, Grow w5 W → Calls Try.prog 46 #[.pointer (some ⟨p.blk, 0, none⟩), ipV k (.slice A k.opts.length c) (.slice B k.data.length d)] W fun e w' => e = .returned (.bool false) ∧ Grow w w') := fun W g => by
    have gW := (HG5.out W g).1
    have := stale_any W base p ((HP.out.1.pk p hpm).grow gW HP.out.1.sz) (Nat.le_trans HP.out.1.sz gW.size) hne k _ _ (HP.out.2.1.grow gW HP.out.1.sz) h0 h1
    rw [hst] at this
    exact this.mono fun e w' h => ⟨h.1, gW.trans h.2⟩
  have cS1 := cSt.out w5 (Grow.refl _)
  unfold ipV at cS1
  go_wp2_with (go_at_call 46; refine cS1.mono ?_; rintro e w7 ⟨rfl, hg7⟩; have G7 := Lib.hid hg7; clear hg7)
  go_ret2
  exact ⟨rfl, G7.out⟩

end Go.Proofs.Ytfjmcfkpbacicaa
/- What Add leaves; a packet stored into the result's block; the table beside it. -/
namespace Go.Proofs.Ytfjmcfkpbacicaa
set_option linter.unusedVariables false
set_option linter.unusedSimpArgs false
open Go.ChangeShapes Go.WideShapes Go.ChangeAt Go.RowKit Go.Shelf

/-- *p = packet, as one step of a walk; all other blocks as they were. -/
theorem wpList_store_ipB (w : World) {ops : Array Oper} {rest : List Oper} {o : Oper} {a : Act} {Q : Exit → Act → World → Prop} (hgd : o.guard = none) (x y : Operand) (ho : o.op = .store 38 x y) (hdst : o.dst = none)
    (g : Nat) (hx : a.eval x = .pointer (some ⟨g, 0, none⟩)) (k k₀ : Pkt) (vo vd vo₀ vd₀ : Value) (hy : a.eval y = ipV k vo vd) (h1 : vo.oneCell' = true) (h2 : vd.oneCell' = true) (hb : Blk w g k₀ vo₀ vd₀)
    (h : ∀ w', Blk w' g k vo vd → w.grownBy w' (some g) → wpList Try.prog ops Q rest a w') : wpList Try.prog ops Q (o :: rest) a w := by
  refine wpList_store_row hgd 38 x y ho g #[.int .u8 (k.tos : Int), .int .u16 (k.ident : Int), .bool k.whole, .bool k.more, .int .i64 k.off, .int .u8 (k.ttl : Int), .int .u8 (k.proto : Int), .int .u32 (k.src : Int), .int .u32 (k.dst : Int), vo, vd] hx hy 38 _ hb (by kernel_rfl) rfl ?_ ?_
  · rw [Array.all_eq_true_iff_forall_mem]
    intro z hz
    simp only [List.mem_toArray, List.mem_cons, List.not_mem_nil, or_false] at hz
    rcases hz with rfl | rfl | rfl | rfl | rfl | rfl | rfl | rfl | rfl | rfl | rfl <;> first | rfl | exact h1 | exact h2
  · have e : a.put o.dst undef = a := by rw [hdst]; rfl
    rw [e]
    exact h _ (setRow_heap w g _ _ _ _ hb) (grownBy_setRow _ _ _)
/-- A block that is new was written. -/
theorem Only.fresh {base : Nat} {Z : Nat → TypeId → Prop} {w W W' : World} {g : Nat} (h : Only base Z w W) (hg : W.grownBy W' (some g)) (hs : w.heap.size ≤ g) (hb : base ≤ w.heap.size) : Only base Z w W' := by
  refine ⟨⟨hg.os.trans h.low.os, hg.tape.trans h.low.tape, hg.output.trans h.low.output, Nat.le_trans h.low.size hg.size, fun i hi => (hg.block i (by have := h.low.size; omega) (fun e => by cases e; omega)).trans (h.low.block i hi)⟩, fun i o T hi hT hz => ?_⟩
  have hlt := (Array.getElem?_eq_some_iff.1 hi).1
  have hk := h.keep i o T hi hT hz
  exact (hg.block i (Array.getElem?_eq_some_iff.1 hk).1 (fun e => by cases e; omega)).trans hk
theorem PktAt.only2 {w w' : World} {base : Nat} {p : Wp} {Z : Nat → TypeId → Prop} (h : PktAt w base p) (o : Only base Z w w') (h1 : ¬ Z p.blk 75) (h2 : ∀ b, p.rv.ownBlock = some b → ¬ Z b 99) (h3 : ∀ b, ¬ Z b 5) (h4 : ∀ f, p.first = some f → ¬ Z f.blk 38) : PktAt w' base p :=
  ⟨o.cells h.blk h1, h.low, o.row h.row h2, fun r hr => o.row (h.data r hr) fun g _ => h3 g, h.laid, h.top, fun f hf => by
    obtain ⟨e1, e2, e3, e4, e5⟩ := h.first f hf
    exact ⟨e1, o.cells e2 (h4 f hf), o.row e3 fun g _ => h3 g, o.row e4 fun g _ => h3 g, e5⟩, h.fit, h.tick⟩
/-- No packet's first fragment lies in block g. -/
def NoG (g : Nat) (L : List Wp) : Prop := ∀ p ∈ L, ∀ f, p.first = some f → f.blk ≠ g
theorem Tab.beside {w w' : World} {base tb mb g : Nat} {ov : Value} {most life : Int} {L : List Wp} (h : Tab w base tb mb ov most life L) (hn : NoG g L) {k : Pkt} {vo vd : Value} (hb : Blk w g k vo vd) (hlow : base ≤ g) (hg : w.grownBy w' (some g)) : Tab w' base tb mb ov most life L := by
  have o : Only base (fun b T => b = g ∧ T = 38) w w' := Only.grown hg (fun b e => by
    cases e
    exact ⟨hlow, fun o T ho hT => by rw [hb] at ho; cases ho; cases hT; exact ⟨rfl, rfl⟩⟩) h.sz
  exact ⟨o.cells h.top (fun e => absurd e.2 (by decide)), h.low, h.lowM, h.map.of_heap fun es ck hh => o.keep _ _ _ hh rfl (fun e => absurd e.2 (by decide)), o.row h.ord (fun b _ e => absurd e.2 (by decide)), fun p hp => (h.pk p hp).only2 o (fun e => absurd e.2 (by decide)) (fun b _ e => absurd e.2 (by decide)) (fun b e => absurd e.2 (by decide)) (fun f hf e => hn p hp f hf e.1), h.blks, h.rblk, h.nms, h.few, Nat.le_trans h.sz o.size, h.rng⟩
/-- The table holds these packets. -/
def TabA (w : World) (base tb : Nat) (most life : Int) (A : List Wt) : Prop := ∃ mb ov L, Tab w base tb mb ov most life L ∧ L.map absW = A ∧ AOk A
theorem absW_nm (L : List Wp) : (L.map absW).map Wt.nm = L.map Wp.nm := by rw [List.map_map]; rfl
theorem absW_took {base : Nat} {w w' : World} {p p' : Wp} {k : Pkt} (h : Took base w p k p' w') : absW p' = tookW (absW p) k := by
  unfold absW tookW
  simp only [Wt.mk.injEq]
  refine ⟨h.grows.nm, h.grows.till, h.first, ?_, h.con⟩
  have := h.fin
  split
  · rename_i hm; rw [if_pos hm] at this; omega
  · rename_i hm; rw [if_neg hm] at this; omega
theorem full_abs {p : Wp} : decide (p.fin ≠ 0 ∧ heldN p.ns = p.fin) = fullW (absW p) := by
  unfold fullW absW
  rw [held_cnt p.ns 0]
/-- What find handed out. -/
def FoundAt (w W wf : World) (base tb : Nat) (most life : Int) (A' : List Wt) (i : Nat) (t : Wt) (pb : Nat) : Prop :=
  ∃ mb ov L p, Tab wf base tb mb ov most life L ∧ L.map absW = A' ∧ L[i]? = some p ∧ absW p = t ∧ p.blk = pb ∧ Only base Za W wf ∧ ∀ q ∈ L, ∀ f, q.first = some f → f.blk < w.heap.size
theorem Tab.firsts {w : World} {base tb mb : Nat} {ov : Value} {most life : Int} {L : List Wp} (h : Tab w base tb mb ov most life L) : ∀ q ∈ L, ∀ f, q.first = some f → f.blk < w.heap.size := fun q hq f hf => ((h.pk q hq).first f hf).2.1.lt
end Go.Proofs.Ytfjmcfkpbacicaa
/- Contract: Add, where nothing begins to wait and nothing comes in. -/
namespace Go.Proofs.Ytfjmcfkpbacicaa
set_option linter.unusedVariables false
set_option linter.unusedSimpArgs false
open Go.ChangeShapes Go.WideShapes Go.ChangeAt Go.RowKit Go.Shelf

/-- What Add answers. -/
def Added (w : World) (base tb : Nat) (most life : Int) (R : AddR) (e : Ending) (w' : World) : Prop :=
  ∃ vo vd, e = .returned (.tuple #[ipV R.k vo vd, .bool R.ok, .int .i64 R.e]) ∧ Ip w' (ipV R.k vo vd) R.k ∧ TabA w' base tb most life R.L ∧ Only base Za w w'
theorem zero_ip (w : World) : Ip w (ipV zeroPk (.slice none 0 0) (.slice none 0 0)) zeroPk := ⟨_, _, rfl, Byt.nil w, Byt.nil w, ⟨by decide, by decide, by decide, by decide, by decide, by decide, by decide, by decide⟩⟩

/-- A packet by value whose slices lie in rows of bytes, or below the base. -/
def IpF (base : Nat) (w : World) (vo vd : Value) (k : Pkt) : Prop := Firm base w vo k.opts ∧ Firm base w vd k.data ∧ k.Ok
theorem IpF.ip {base : Nat} {w : World} {vo vd : Value} {k : Pkt} (h : IpF base w vo vd k) : Ip w (ipV k vo vd) k := ⟨_, _, rfl, h.1.1, h.2.1.1, h.2.2⟩
theorem zero_ipF (base : Nat) (w : World) : IpF base w (.slice none 0 0) (.slice none 0 0) zeroPk := ⟨⟨Byt.nil w, fun h => absurd h (Nat.lt_irrefl 0)⟩, ⟨Byt.nil w, fun h => absurd h (Nat.lt_irrefl 0)⟩, ⟨by decide, by decide, by decide, by decide, by decide, by decide, by decide, by decide⟩⟩
/-- The same, with where the packet's bytes lie. -/
def AddedF (w : World) (base tb : Nat) (most life : Int) (R : AddR) (e : Ending) (w' : World) : Prop :=
  ∃ vo vd, e = .returned (.tuple #[ipV R.k vo vd, .bool R.ok, .int .i64 R.e]) ∧ IpF base w' vo vd R.k ∧ TabA w' base tb most life R.L ∧ Only base Za w w'
theorem AddedF.added {w w' : World} {base tb : Nat} {most life : Int} {R : AddR} {e : Ending} (h : AddedF w base tb most life R e w') : Added w base tb most life R e w' := by
  obtain ⟨vo, vd, h1, h2, h3⟩ := h
  exact ⟨vo, vd, h1, h2.ip, h3⟩
set_option maxRecDepth 10000 in
set_option maxHeartbeats 8000000 in
theorem Add_range (w : World) (base tb : Nat) (most life : Int) (A0 : List Wt) (hA : TabA w base tb most life A0) (now : Int) (k : Pkt) (vo vd : Value) (hp : Piece base w k vo vd) (hr : now < 0 ∨ 1099511627776 < now ∨ k.off < 0 ∨ 8191 < k.off) :
    Calls Try.prog 14 #[.pointer (some ⟨tb, 0, none⟩), .int .i64 now, ipV k vo vd] w fun e w' => AddedF w base tb most life ⟨A0, zeroPk, false, 8⟩ e w' := by
  obtain ⟨A, c, rfl, _⟩ := hp.o.1.form
  obtain ⟨B, d, rfl, _⟩ := hp.d.1.form
  obtain ⟨W1, hW1⟩ : ∃ W1, W1 = (w.alloc (.cells #[.int .u8 (k.tos : Int), .int .u16 (k.ident : Int), .bool k.whole, .bool k.more, .int .i64 k.off, .int .u8 (k.ttl : Int), .int .u8 (k.proto : Int), .int .u32 (k.src : Int), .int .u32 (k.dst : Int), .slice A k.opts.length c, .slice B k.data.length d] 38)).alloc (.cells #[.int .u8 0, .int .u16 0, .bool false, .bool false, .int .i64 0, .int .u8 0, .int .u8 0, .int .u32 0, .int .u32 0, .slice none 0 0, .slice none 0 0] 38) := ⟨_, rfl⟩
  obtain ⟨hg1, hsz, hB, hZ⟩ := two_blk w k _ _ hW1
  obtain ⟨mb, ov, L, hT, hLA, hAok⟩ := hA
  have hb := hT.sz
  have hb1 : base ≤ W1.heap.size := Nat.le_trans hb hg1.size
  have fin : Hid (∀ w8, Blk w8 (w.heap.size + 1) zeroPk (.slice none 0 0) (.slice none 0 0) → W1.grownBy w8 (some (w.heap.size + 1)) → AddedF w base tb most life ⟨A0, zeroPk, false, 8⟩ (.returned (.tuple #[ipV zeroPk (.slice none 0 0) (.slice none 0 0), .bool false, .int .i64 8])) w8) := by
    intro w8 hb8 hg8
    have o8 : Only base Za w w8 := (Only.grow hg1 hb Za).fresh hg8 (by omega) hb
    exact ⟨_, _, rfl, zero_ipF _ _, ⟨mb, ov, L, (hT.grow hg1).beside (fun q hq f hf e => by have := hT.firsts q hq f hf; omega) hZ (by omega) hg8, hLA, hAok⟩, o8⟩
  have HZ := Lib.hid hZ
  obtain ⟨b0, b1, b2, b3, b4, b5, b6, b7, b8, b9, b10⟩ := hB.boxd
  clear hZ hB hg1 hsz hT hp hb hb1
  by_cases q1 : now < 0
  · have d1 : decide (now < 0) = true := decide_eq_true q1
    clear hr q1
    go_enter Try.func14, Try.ntmps14
    go_wp2_with (show wpList _ _ _ (⟨none, .store 38 (.tmp 6) (.tmp 30), _, _, _, _⟩ :: _) _ _; refine wpList_store_ipB _ rfl _ _ rfl rfl (w.heap.size + 1) rfl zeroPk zeroPk (.slice none 0 0) (.slice none 0 0) (.slice none 0 0) (.slice none 0 0) rfl rfl rfl (by rw [← hW1]; exact HZ.out) ?_; intro w8 hF8 hg8; rw [← hW1] at hg8; have H8 := Lib.hid (fin.out w8 hF8 hg8); clear hg8)
    refine bodyPost_ret (results3_ip 6 7 8 rfl _ w8 (w.heap.size + 1) zeroPk _ _ rfl hF8) rfl ?_
    exact H8.out
  have d1 : decide (now < 0) = false := decide_eq_false q1
  by_cases q2 : 1099511627776 < now
  · have d2 : decide (1099511627776 < now) = true := decide_eq_true q2
    clear hr q1
    go_enter Try.func14, Try.ntmps14
    go_wp2_with (show wpList _ _ _ (⟨none, .store 38 (.tmp 6) (.tmp 30), _, _, _, _⟩ :: _) _ _; refine wpList_store_ipB _ rfl _ _ rfl rfl (w.heap.size + 1) rfl zeroPk zeroPk (.slice none 0 0) (.slice none 0 0) (.slice none 0 0) (.slice none 0 0) rfl rfl rfl (by rw [← hW1]; exact HZ.out) ?_; intro w8 hF8 hg8; rw [← hW1] at hg8; have H8 := Lib.hid (fin.out w8 hF8 hg8); clear hg8)
    refine bodyPost_ret (results3_ip 6 7 8 rfl _ w8 (w.heap.size + 1) zeroPk _ _ rfl hF8) rfl ?_
    exact H8.out
  have d2 : decide (1099511627776 < now) = false := decide_eq_false q2
  by_cases q3 : k.off < 0
  · have d3 : decide (k.off < 0) = true := decide_eq_true q3
    clear hr q1 q2
    go_enter Try.func14, Try.ntmps14
    go_wp2_with (show wpList _ _ _ (⟨none, .store 38 (.tmp 6) (.tmp 30), _, _, _, _⟩ :: _) _ _; refine wpList_store_ipB _ rfl _ _ rfl rfl (w.heap.size + 1) rfl zeroPk zeroPk (.slice none 0 0) (.slice none 0 0) (.slice none 0 0) (.slice none 0 0) rfl rfl rfl (by rw [← hW1]; exact HZ.out) ?_; intro w8 hF8 hg8; rw [← hW1] at hg8; have H8 := Lib.hid (fin.out w8 hF8 hg8); clear hg8)
    refine bodyPost_ret (results3_ip 6 7 8 rfl _ w8 (w.heap.size + 1) zeroPk _ _ rfl hF8) rfl ?_
    exact H8.out
  have d3 : decide (k.off < 0) = false := decide_eq_false q3
  have q4 : 8191 < k.off := by omega
  have d4 : decide (8191 < k.off) = true := decide_eq_true q4
  · clear hr q1 q2 q3
    go_enter Try.func14, Try.ntmps14
    go_wp2_with (show wpList _ _ _ (⟨none, .store 38 (.tmp 6) (.tmp 30), _, _, _, _⟩ :: _) _ _; refine wpList_store_ipB _ rfl _ _ rfl rfl (w.heap.size + 1) rfl zeroPk zeroPk (.slice none 0 0) (.slice none 0 0) (.slice none 0 0) (.slice none 0 0) rfl rfl rfl (by rw [← hW1]; exact HZ.out) ?_; intro w8 hF8 hg8; rw [← hW1] at hg8; have H8 := Lib.hid (fin.out w8 hF8 hg8); clear hg8)
    refine bodyPost_ret (results3_ip 6 7 8 rfl _ w8 (w.heap.size + 1) zeroPk _ _ rfl hF8) rfl ?_
    exact H8.out
end Go.Proofs.Ytfjmcfkpbacicaa
