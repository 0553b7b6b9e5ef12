/- What Split keeps from round to round. -/
import Derived.Test.YtkofmbnolaiecaaFrFur
namespace Go.Proofs.Ytkofmbnolaiecaa
set_option linter.unusedVariables false
set_option linter.unusedSimpArgs false
open Go.ChangeShapes Go.WideShapes Go.ChangeAt Go.RowKit

/-- A row of bytes of the call's own stays where a row of packets grows. -/
theorem Own.past {w w' : World} {base base' : Nat} {v s : Value} {l : List UInt8} {row : List Pk} (h : Own w base v l) (hr : Iprow w base' s row) (hg : w.grownBy w' s.ownBlock) : Own w' base v l := by
  refine ⟨h.1, ?_⟩
  rcases h.2 with h2 | ⟨b, cap, cur, hv, hbb, hh, r⟩
  · exact .inl h2
  · refine .inr ⟨b, cap, cur, hv, hbb, ?_, r⟩
    have hlt : b < w.heap.size := (Array.getElem?_eq_some_iff.1 hh).1
    rw [hg.block b hlt ?_]
    · exact hh
    · intro e
      rcases hr.2 with ⟨rfl, _⟩ | ⟨g, cap2, cur2, rfl, _, hh2, _⟩
      · cases e
      · have e2 : g = b := by cases e; rfl
        subst e2
        rw [hh] at hh2
        injection hh2 with hh2
        injection hh2 with _ e3 _
        exact absurd e3 (by decide)

/-- The slices of the packet are rows of the call's own. -/
def Pk.Mine (q : Pk) (w : World) (base : Nat) : Prop := Own w base q.vo q.k.opts ∧ Own w base q.vd q.k.data ∧ q.k.Ok
theorem Pk.Mine.good {q : Pk} {w : World} {base : Nat} (h : q.Mine w base) : q.Good w := ⟨h.1.byt, h.2.1.byt, h.2.2⟩
theorem Pk.Mine.grow {q : Pk} {w w' : World} {base : Nat} (h : q.Mine w base) (g : Grow w w') : q.Mine w' base := ⟨h.1.grow g, h.2.1.grow g, h.2.2⟩
theorem Pk.Mine.past {q : Pk} {w w' : World} {base base' : Nat} {s : Value} {row : List Pk} (h : q.Mine w base) (hr : Iprow w base' s row) (hg : w.grownBy w' s.ownBlock) : q.Mine w' base := ⟨h.1.past hr hg, h.2.1.past hr hg, h.2.2⟩
theorem Pk.Mine.but {q : Pk} {w w' : World} {base g : Nat} (h : q.Mine w base) (hb : But g w w') (hg : g < base) : q.Mine w' base := ⟨h.1.but hb hg, h.2.1.but hb hg, h.2.2⟩
theorem Pk.Mine.base_ {q : Pk} {w : World} {b b' : Nat} (h : q.Mine w b) (hb : b' ≤ b) : q.Mine w b' := ⟨h.1.base hb, h.2.1.base hb, h.2.2⟩
theorem Iprow.but {w w' : World} {g base : Nat} {v : Value} {l : List Pk} (h : Iprow w base v l) (hb : But g w w') (hg : g < base) : Iprow w' base v l :=
  h.other fun b hv _ => hb.2 b (by have := (h.lt b hv).1; omega)
theorem Blk.past {w w' : World} {g base : Nat} {k : Pkt} {vo vd s : Value} {row : List Pk} (hk : Blk w g k vo vd) (hr : Iprow w base s row) (hg : w.grownBy w' s.ownBlock) (hlt : g < base) : Blk w' g k vo vd := by
  refine (hg.block g hk.lt ?_).trans hk
  intro e
  have := (hr.lt g (by first | exact e | exact e.symm)).1
  omega

theorem Blk.c4 {w : World} {g : Nat} {k : Pkt} {vo vd : Value} (h : Blk w g k vo vd) : w.cell? ⟨g, 4, none⟩ = some (.int .i64 k.off) := by
  obtain ⟨_, _, _, _, b4, _⟩ := h.boxd
  exact b4
theorem Blk.c10 {w : World} {g : Nat} {k : Pkt} {vo vd : Value} (h : Blk w g k vo vd) : w.cell? ⟨g, 10, none⟩ = some vd := by
  obtain ⟨_, _, _, _, _, _, _, _, _, _, b10⟩ := h.boxd
  exact b10

theorem fpieces_len {c c' : List UInt8} {m n : Nat} {k : Pkt} (h : k.len ≤ m ∨ c' = c) : fpieces c' m (n + 1) k = fpieces c m (n + 1) k := by
  rcases h with h | rfl
  · rw [fpieces, fpieces, if_pos h, if_pos h]
  · rfl

theorem ffirst_ok {m : Nat} {k : Pkt} (h : k.Ok) : (ffirst m k).Ok := ⟨h.tos, h.ident, h.off1, h.off2, h.ttl, h.proto, h.src, h.dst⟩
theorem ffirst_len {m : Nat} {k : Pkt} (h : froom m k ≤ k.data.length) : (ffirst m k).data.length = froom m k := by
  show (k.data.take (froom m k)).length = _
  rw [List.length_take]; omega

/-- Where the loop stands: W, memory as it was when the packet that is left was laid into its block (W.heap.size). -/
structure Spl (W : World) (c : List UInt8) (m : Nat) (goal : Option (List Pkt)) (s : Value) (acc : List Pk) (r : Pkt) (vo vd : Value) (f : Nat) (wr : World) : Prop where
  row : Iprow wr (W.heap.size + 1) s acc
  mine : ∀ q ∈ acc, q.Mine wr (W.heap.size + 1)
  blk : Blk wr W.heap.size r vo vd
  ro : Byt W vo r.opts
  rd : Byt W vd r.data
  ok : r.Ok
  goes : goal = (fpieces c m f r).map (acc.map Pk.k ++ ·)
  small : r.data.length < f
  ol : r.opts.length ≤ 40
  dl : acc.length + r.data.length ≤ 65536
  off0 : 0 ≤ r.off
  off1 : r.off + r.data.length ≤ 73800
  grow : Grow W wr

/-- One piece more. -/
theorem appended {W wr w6 w7 : World} {s v7 vo vd : Value} {acc : List Pk} {q6 : Pk} {r : Pkt} {o : Obj} (row : Iprow wr (W.heap.size + 1) s acc) (mine : ∀ q ∈ acc, q.Mine wr (W.heap.size + 1)) (blk : Blk wr W.heap.size r vo vd) (grow : Grow W wr) (g6 : Grow wr w6) (m6 : q6.Mine w6 (W.heap.size + 1))
    (ho7 : Iprow w7 (W.heap.size + 1) v7 (acc ++ [q6])) (hg7 : (w6.alloc o).grownBy w7 s.ownBlock) :
    (∀ q ∈ acc ++ [q6], q.Mine w7 (W.heap.size + 1)) ∧ Blk w7 W.heap.size r vo vd ∧ Grow W w7 ∧ ∀ g k xo xd, Blk w6 g k xo xd → wr.heap.size ≤ g → Blk w7 g k xo xd := by
  have gA : Grow wr (w6.alloc o) := g6.trans (Grow.alloc _ _)
  have rowA := row.grow gA
  refine ⟨fun q hq => ?_, (blk.grow gA).past rowA hg7 (Nat.lt_succ_self _), ?_, fun g k xo xd hb hle => ?_⟩
  · rcases List.mem_append.1 hq with hq | hq
    · exact ((mine q hq).grow gA).past rowA hg7
    · rw [List.mem_singleton.1 hq]
      exact (m6.grow (Grow.alloc _ _)).past rowA hg7
  · exact Grow.iprow (grow.trans gA) hg7 (rowA.base_ (Nat.le_succ _))
  · have hb2 := hb.grow (Grow.alloc w6 o)
    refine (hg7.block g hb2.lt ?_).trans hb2
    intro e
    have := (row.lt g (by first | exact e | exact e.symm)).2
    omega

/-- What Split hands back. -/
def Splitted (w : World) (k : Pkt) (mtu : Int) (e : Ending) (w' : World) : Prop :=
  ∃ u l, e = .returned (.tuple #[u, .int .i64 (fcodeS k mtu)]) ∧ l.map Pk.k = flist k mtu ∧ Iprow w' w.heap.size u l ∧ (∀ q ∈ l, q.Mine w' w.heap.size) ∧ Grow w w'
theorem Splitted.fail {w w' : World} {k : Pkt} {mtu : Int} {n : Int} (h : fcodeS k mtu = n) (h2 : flist k mtu = []) (hg : Grow w w') : Splitted w k mtu (.returned (.tuple #[.slice none 0 0, .int .i64 n])) w' :=
  ⟨_, [], by rw [h], by rw [h2]; rfl, Iprow.nil _ _, fun q hq => by simp at hq, hg⟩
theorem fsplit_why {k : Pkt} {mtu : Int} (h : fwhy k mtu ≠ 0) : fcodeS k mtu = fwhy k mtu ∧ flist k mtu = [] := by
  unfold fcodeS flist
  rw [if_pos h, if_pos h]
  exact ⟨rfl, rfl⟩
theorem fsplit_none {k : Pkt} {mtu : Int} (h : fwhy k mtu = 0) (h2 : fgo k mtu = none) : fcodeS k mtu = 8 ∧ flist k mtu = [] := by
  unfold fcodeS flist
  have h3 : ¬ (fwhy k mtu ≠ 0) := by omega
  rw [if_neg h3, if_neg h3, h2]
  exact ⟨rfl, rfl⟩
theorem fsplit_some {k : Pkt} {mtu : Int} {l : List Pkt} (h : fwhy k mtu = 0) (h2 : fgo k mtu = some l) : fcodeS k mtu = 0 ∧ flist k mtu = l := by
  unfold fcodeS flist
  have h3 : ¬ (fwhy k mtu ≠ 0) := by omega
  rw [if_neg h3, if_neg h3, h2]
  exact ⟨rfl, rfl⟩
theorem fwhy_ok {k : Pkt} {mtu : Int} (h : fwhy k mtu = 0) : k.check = 0 ∧ 68 ≤ mtu ∧ mtu ≤ 65535 := by
  unfold fwhy at h
  by_cases h1 : k.check ≠ 0
  · rw [if_pos h1] at h; omega
  · rw [if_neg h1] at h
    by_cases h2 : mtu < 68 ∨ 65535 < mtu
    · rw [if_pos h2] at h; cases h
    · omega
end Go.Proofs.Ytkofmbnolaiecaa
