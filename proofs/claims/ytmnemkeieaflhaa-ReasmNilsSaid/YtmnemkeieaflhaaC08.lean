/- Pieces of a packet, in numbers; the contract of first. -/
import Derived.Test.YtmnemkeieaflhaaC07
import Derived.Test.YtmnemkeieaflhaaC06
namespace Go.Proofs.Ytmnemkeieaflhaa
set_option linter.unusedVariables false
set_option linter.unusedSimpArgs false
open Go.ChangeShapes Go.WideShapes Go.ChangeAt Go.RowKit

/-- How many bytes go into one piece. -/
def froom (mtu : Nat) (k : Pkt) : Nat := (mtu - 20 - k.opts.length) / 8 * 8
def ffirst (mtu : Nat) (k : Pkt) : Pkt := { k with more := true, data := k.data.take (froom mtu k) }
def frest (c : List UInt8) (mtu : Nat) (k : Pkt) : Pkt := { k with opts := c, data := k.data.drop (froom mtu k), off := k.off + (froom mtu k / 8 : Nat) }
/-- The pieces, or none: one lies too far behind. -/
def fpieces (c : List UInt8) (mtu : Nat) : Nat → Pkt → Option (List Pkt)
  | 0, _ => some []
  | n + 1, k => if 8191 < k.off then none else if k.len ≤ mtu then some [k] else (fpieces c mtu n (frest c mtu k)).map (ffirst mtu k :: ·)
theorem froom_bounds {mtu : Nat} {k : Pkt} (h1 : 68 ≤ mtu) (h2 : k.opts.length ≤ 40) (h3 : mtu < k.len) : 8 ≤ froom mtu k ∧ froom mtu k < k.data.length ∧ froom mtu k % 8 = 0 ∧ froom mtu k ≤ mtu := by
  unfold froom
  unfold Pkt.len at h3
  omega
theorem len_nil {mtu : Nat} {k : Pkt} (h1 : 68 ≤ mtu) (h2 : k.opts.length ≤ 40) (h3 : mtu < k.len) : 8 < k.data.length := by
  unfold Pkt.len at h3
  omega

/-- Why there are none, or 0. -/
def fwhy (k : Pkt) (mtu : Int) : Int := if k.check ≠ 0 then k.check else if mtu < 68 ∨ 65535 < mtu then 1 else if (k.len : Int) ≤ mtu then 0 else if k.whole then 110 else fcode k.opts
def fgo (k : Pkt) (mtu : Int) : Option (List Pkt) := fpieces (fcar k.opts) mtu.toNat (k.data.length + 1) k
def fcodeS (k : Pkt) (mtu : Int) : Int := if fwhy k mtu ≠ 0 then fwhy k mtu else if (fgo k mtu).isNone then 8 else 0
def flist (k : Pkt) (mtu : Int) : List Pkt := if fwhy k mtu ≠ 0 then [] else (fgo k mtu).getD []

theorem Pkt.check_ok {k : Pkt} (h : k.check = 0) : 0 ≤ k.off ∧ k.off ≤ 8191 ∧ k.opts.length ≤ 40 ∧ k.len ≤ 65535 := by
  unfold Pkt.check at h
  split at h
  · cases h
  · split at h
    · cases h
    · omega
theorem Pkt.check_in (k : Pkt) : 0 ≤ k.check ∧ k.check ≤ 9 := by
  unfold Pkt.check
  split
  · decide
  · split <;> decide
theorem fcode_in (l : List UInt8) : 0 ≤ fcode l ∧ fcode l ≤ 3 := by
  rcases fcode_cases l with ⟨h, _⟩ | ⟨h, _⟩ | ⟨h, _⟩ <;> rw [h] <;> decide
theorem fwhy_in (k : Pkt) (mtu : Int) : 0 ≤ fwhy k mtu ∧ fwhy k mtu ≤ 110 := by
  have h1 := k.check_in
  have h2 := fcode_in k.opts
  unfold fwhy
  split
  · omega
  · split
    · decide
    · split
      · decide
      · split
        · decide
        · omega
theorem fcodeS_in (k : Pkt) (mtu : Int) : 0 ≤ fcodeS k mtu ∧ fcodeS k mtu ≤ 110 := by
  have h1 := fwhy_in k mtu
  unfold fcodeS
  split
  · exact h1
  · split <;> decide

end Go.Proofs.Ytmnemkeieaflhaa
/- Contract: further. -/
namespace Go.Proofs.Ytmnemkeieaflhaa
set_option linter.unusedVariables false
set_option linter.unusedSimpArgs false
open Go.ChangeShapes Go.WideShapes Go.ChangeAt Go.RowKit

/-- What further hands back. -/
def Further (w : World) (k : Pkt) (mtu : Int) (e : Ending) (w' : World) : Prop :=
  ∃ c u, e = .returned (.tuple #[u, .int .i64 (fwhy k mtu)]) ∧ Byt w' u c ∧ (fwhy k mtu = 0 → (k.len : Int) ≤ mtu ∨ c = fcar k.opts) ∧ c.length ≤ 40 ∧ Grow w w'
theorem Further.fail {w w' : World} {k : Pkt} {mtu : Int} {n : Int} (h : fwhy k mtu = n) (hn : n ≠ 0) (hg : Grow w w') : Further w k mtu (.returned (.tuple #[.slice none 0 0, .int .i64 n])) w' :=
  ⟨[], _, by rw [h], Byt.nil _, fun h0 => absurd (h.symm.trans h0) hn, by simp, hg⟩

def Fw (k : Pkt) (mtu n : Int) : Prop := fwhy k mtu = n

end Go.Proofs.Ytmnemkeieaflhaa
/- What Split keeps from round to round. -/
namespace Go.Proofs.Ytmnemkeieaflhaa
set_option linter.unusedVariables false
set_option linter.unusedSimpArgs false
open Go.ChangeShapes Go.WideShapes Go.ChangeAt Go.RowKit

/-- A row of bytes of the call's own stays where a row of packets grows. -/
theorem Own.past {w w' : World} {base base' : Nat} {v s : Value} {l : List UInt8} {row : List Pk} (h : Own w base v l) (hr : Iprow w base' s row) (hg : w.grownBy w' s.ownBlock) : Own w' base v l := by
  refine ⟨h.1, ?_⟩
  rcases h.2 with h2 | ⟨b, cap, cur, hv, hbb, hh, r⟩
  · exact .inl h2
  · refine .inr ⟨b, cap, cur, hv, hbb, ?_, r⟩
    have hlt : b < w.heap.size := (Array.getElem?_eq_some_iff.1 hh).1
    rw [hg.block b hlt ?_]
    · exact hh
    · intro e
      rcases hr.2 with ⟨rfl, _⟩ | ⟨g, cap2, cur2, rfl, _, hh2, _⟩
      · cases e
      · have e2 : g = b := by cases e; rfl
        subst e2
        rw [hh] at hh2
        injection hh2 with hh2
        injection hh2 with _ e3 _
        exact absurd e3 (by decide)

/-- The slices of the packet are rows of the call's own. -/
def Pk.Mine (q : Pk) (w : World) (base : Nat) : Prop := Own w base q.vo q.k.opts ∧ Own w base q.vd q.k.data ∧ q.k.Ok
theorem Pk.Mine.good {q : Pk} {w : World} {base : Nat} (h : q.Mine w base) : q.Good w := ⟨h.1.byt, h.2.1.byt, h.2.2⟩
theorem Pk.Mine.grow {q : Pk} {w w' : World} {base : Nat} (h : q.Mine w base) (g : Grow w w') : q.Mine w' base := ⟨h.1.grow g, h.2.1.grow g, h.2.2⟩
theorem Pk.Mine.past {q : Pk} {w w' : World} {base base' : Nat} {s : Value} {row : List Pk} (h : q.Mine w base) (hr : Iprow w base' s row) (hg : w.grownBy w' s.ownBlock) : q.Mine w' base := ⟨h.1.past hr hg, h.2.1.past hr hg, h.2.2⟩
theorem Pk.Mine.but {q : Pk} {w w' : World} {base g : Nat} (h : q.Mine w base) (hb : But g w w') (hg : g < base) : q.Mine w' base := ⟨h.1.but hb hg, h.2.1.but hb hg, h.2.2⟩
theorem Pk.Mine.base_ {q : Pk} {w : World} {b b' : Nat} (h : q.Mine w b) (hb : b' ≤ b) : q.Mine w b' := ⟨h.1.base hb, h.2.1.base hb, h.2.2⟩
theorem Iprow.but {w w' : World} {g base : Nat} {v : Value} {l : List Pk} (h : Iprow w base v l) (hb : But g w w') (hg : g < base) : Iprow w' base v l :=
  h.other fun b hv _ => hb.2 b (by have := (h.lt b hv).1; omega)
theorem Blk.past {w w' : World} {g base : Nat} {k : Pkt} {vo vd s : Value} {row : List Pk} (hk : Blk w g k vo vd) (hr : Iprow w base s row) (hg : w.grownBy w' s.ownBlock) (hlt : g < base) : Blk w' g k vo vd := by
  refine (hg.block g hk.lt ?_).trans hk
  intro e
  have := (hr.lt g (by first | exact e | exact e.symm)).1
  omega

theorem Blk.c4 {w : World} {g : Nat} {k : Pkt} {vo vd : Value} (h : Blk w g k vo vd) : w.cell? ⟨g, 4, none⟩ = some (.int .i64 k.off) := by
  obtain ⟨_, _, _, _, b4, _⟩ := h.boxd
  exact b4
theorem Blk.c10 {w : World} {g : Nat} {k : Pkt} {vo vd : Value} (h : Blk w g k vo vd) : w.cell? ⟨g, 10, none⟩ = some vd := by
  obtain ⟨_, _, _, _, _, _, _, _, _, _, b10⟩ := h.boxd
  exact b10

theorem fpieces_len {c c' : List UInt8} {m n : Nat} {k : Pkt} (h : k.len ≤ m ∨ c' = c) : fpieces c' m (n + 1) k = fpieces c m (n + 1) k := by
  rcases h with h | rfl
  · rw [fpieces, fpieces, if_pos h, if_pos h]
  · rfl

theorem ffirst_ok {m : Nat} {k : Pkt} (h : k.Ok) : (ffirst m k).Ok := ⟨h.tos, h.ident, h.off1, h.off2, h.ttl, h.proto, h.src, h.dst⟩
theorem ffirst_len {m : Nat} {k : Pkt} (h : froom m k ≤ k.data.length) : (ffirst m k).data.length = froom m k := by
  show (k.data.take (froom m k)).length = _
  rw [List.length_take]; omega

/-- Where the loop stands: W, memory as it was when the packet that is left was laid into its block (W.heap.size). -/
structure Spl (W : World) (c : List UInt8) (m : Nat) (goal : Option (List Pkt)) (s : Value) (acc : List Pk) (r : Pkt) (vo vd : Value) (f : Nat) (wr : World) : Prop where
  row : Iprow wr (W.heap.size + 1) s acc
  mine : ∀ q ∈ acc, q.Mine wr (W.heap.size + 1)
  blk : Blk wr W.heap.size r vo vd
  ro : Byt W vo r.opts
  rd : Byt W vd r.data
  ok : r.Ok
  goes : goal = (fpieces c m f r).map (acc.map Pk.k ++ ·)
  small : r.data.length < f
  ol : r.opts.length ≤ 40
  dl : acc.length + r.data.length ≤ 65536
  off0 : 0 ≤ r.off
  off1 : r.off + r.data.length ≤ 73800
  grow : Grow W wr

/-- One piece more. -/
theorem appended {W wr w6 w7 : World} {s v7 vo vd : Value} {acc : List Pk} {q6 : Pk} {r : Pkt} {o : Obj} (row : Iprow wr (W.heap.size + 1) s acc) (mine : ∀ q ∈ acc, q.Mine wr (W.heap.size + 1)) (blk : Blk wr W.heap.size r vo vd) (grow : Grow W wr) (g6 : Grow wr w6) (m6 : q6.Mine w6 (W.heap.size + 1))
    (ho7 : Iprow w7 (W.heap.size + 1) v7 (acc ++ [q6])) (hg7 : (w6.alloc o).grownBy w7 s.ownBlock) :
    (∀ q ∈ acc ++ [q6], q.Mine w7 (W.heap.size + 1)) ∧ Blk w7 W.heap.size r vo vd ∧ Grow W w7 ∧ ∀ g k xo xd, Blk w6 g k xo xd → wr.heap.size ≤ g → Blk w7 g k xo xd := by
  have gA : Grow wr (w6.alloc o) := g6.trans (Grow.alloc _ _)
  have rowA := row.grow gA
  refine ⟨fun q hq => ?_, (blk.grow gA).past rowA hg7 (Nat.lt_succ_self _), ?_, fun g k xo xd hb hle => ?_⟩
  · rcases List.mem_append.1 hq with hq | hq
    · exact ((mine q hq).grow gA).past rowA hg7
    · rw [List.mem_singleton.1 hq]
      exact (m6.grow (Grow.alloc _ _)).past rowA hg7
  · exact Grow.iprow (grow.trans gA) hg7 (rowA.base_ (Nat.le_succ _))
  · have hb2 := hb.grow (Grow.alloc w6 o)
    refine (hg7.block g hb2.lt ?_).trans hb2
    intro e
    have := (row.lt g (by first | exact e | exact e.symm)).2
    omega

/-- What Split hands back. -/
def Splitted (w : World) (k : Pkt) (mtu : Int) (e : Ending) (w' : World) : Prop :=
  ∃ u l, e = .returned (.tuple #[u, .int .i64 (fcodeS k mtu)]) ∧ l.map Pk.k = flist k mtu ∧ Iprow w' w.heap.size u l ∧ (∀ q ∈ l, q.Mine w' w.heap.size) ∧ Grow w w'
theorem Splitted.fail {w w' : World} {k : Pkt} {mtu : Int} {n : Int} (h : fcodeS k mtu = n) (h2 : flist k mtu = []) (hg : Grow w w') : Splitted w k mtu (.returned (.tuple #[.slice none 0 0, .int .i64 n])) w' :=
  ⟨_, [], by rw [h], by rw [h2]; rfl, Iprow.nil _ _, fun q hq => by simp at hq, hg⟩
theorem fsplit_why {k : Pkt} {mtu : Int} (h : fwhy k mtu ≠ 0) : fcodeS k mtu = fwhy k mtu ∧ flist k mtu = [] := by
  unfold fcodeS flist
  rw [if_pos h, if_pos h]
  exact ⟨rfl, rfl⟩
theorem fsplit_none {k : Pkt} {mtu : Int} (h : fwhy k mtu = 0) (h2 : fgo k mtu = none) : fcodeS k mtu = 8 ∧ flist k mtu = [] := by
  unfold fcodeS flist
  have h3 : ¬ (fwhy k mtu ≠ 0) := by omega
  rw [if_neg h3, if_neg h3, h2]
  exact ⟨rfl, rfl⟩
theorem fsplit_some {k : Pkt} {mtu : Int} {l : List Pkt} (h : fwhy k mtu = 0) (h2 : fgo k mtu = some l) : fcodeS k mtu = 0 ∧ flist k mtu = l := by
  unfold fcodeS flist
  have h3 : ¬ (fwhy k mtu ≠ 0) := by omega
  rw [if_neg h3, if_neg h3, h2]
  exact ⟨rfl, rfl⟩
theorem fwhy_ok {k : Pkt} {mtu : Int} (h : fwhy k mtu = 0) : k.check = 0 ∧ 68 ≤ mtu ∧ mtu ≤ 65535 := by
  unfold fwhy at h
  by_cases h1 : k.check ≠ 0
  · rw [if_pos h1] at h; omega
  · rw [if_neg h1] at h
    by_cases h2 : mtu < 68 ∨ 65535 < mtu
    · rw [if_pos h2] at h; cases h
    · omega
end Go.Proofs.Ytmnemkeieaflhaa
/- A packet that waits, in memory; what a change may touch. -/
namespace Go.Proofs.Ytmnemkeieaflhaa
set_option linter.unusedVariables false
set_option linter.unusedSimpArgs false
open Go.ChangeShapes Go.WideShapes Go.ChangeAt Go.RowKit Go.Shelf

/-- The type of what a block holds. -/
def objT : Obj → Option TypeId
  | .cells _ T (0, 0) => some T
  | .map _ _ => some 64
  | _ => none
/-- Only blocks that Z names may have changed, none of them below base. -/
structure Only (base : Nat) (Z : Nat → TypeId → Prop) (w w' : World) : Prop where
  low : Below base w w'
  keep : ∀ b o T, w.heap[b]? = some o → objT o = some T → ¬ Z b T → w'.heap[b]? = some o
section
variable {base : Nat} {Z Y : Nat → TypeId → Prop} {a b c : World}
theorem Only.refl (base : Nat) (Z : Nat → TypeId → Prop) (w : World) : Only base Z w w := ⟨Below.refl _ _, fun _ _ _ h _ _ => h⟩
theorem Only.trans (h : Only base Z a b) (k : Only base Z b c) : Only base Z a c :=
  ⟨h.low.trans k.low, fun i o T hi ht hz => k.keep i o T (h.keep i o T hi ht hz) ht hz⟩
theorem Only.mono (h : Only base Z a b) (hZ : ∀ i o T, a.heap[i]? = some o → objT o = some T → Z i T → Y i T) : Only base Y a b := ⟨h.low, fun i o T hi ht hy => h.keep i o T hi ht fun hz => hy (hZ i o T hi ht hz)⟩
theorem Only.grow (g : Grow a b) (hb : base ≤ a.heap.size) (Z : Nat → TypeId → Prop) : Only base Z a b :=
  ⟨g.mono hb, fun i o T hi _ _ => (g.block i (Array.getElem?_eq_some_iff.1 hi).1).trans hi⟩
theorem Only.size (h : Only base Z a b) : a.heap.size ≤ b.heap.size := h.low.size
theorem Only.grown {row : Option Nat} (h : a.grownBy b row) (hr : ∀ g, row = some g → base ≤ g ∧ ∀ o T, a.heap[g]? = some o → objT o = some T → Z g T) (hb : base ≤ a.heap.size) : Only base Z a b := by
  refine ⟨⟨h.os, h.tape, h.output, h.size, fun i hi => h.block i (by omega) fun e => ?_⟩, fun i o T hi ht hz => ?_⟩
  · have := (hr i e.symm).1
    omega
  · refine (h.block i (Array.getElem?_eq_some_iff.1 hi).1 fun e => ?_).trans hi
    exact hz ((hr i e.symm).2 o T hi ht)
theorem Only.set {g i : Nat} {cs : Array Value} {T : TypeId} (hg : a.heap[g]? = some (.cells cs T (0, 0))) (hb : base ≤ g) (hz : Z g T) (u : Value) : Only base Z a (a.setCell ⟨g, i, none⟩ u) := by
  refine ⟨(Below.refl base a).setCell hb u, fun j o T' hj ht hy => ?_⟩
  rw [Below.heap_setCell _ _ _ _ (fun e => ?_)]
  · exact hj
  · subst e
    rw [hg] at hj
    cases hj
    cases ht
    exact hy hz
theorem Only.cells {g : Nat} {cs : Array Value} {T : TypeId} (h : Only base Z a b) (hg : a.heap[g]? = some (.cells cs T (0, 0))) (hz : ¬ Z g T) : b.heap[g]? = some (.cells cs T (0, 0)) := h.keep g _ T hg rfl hz
theorem Only.row {e : TypeId} {k n bs : Nat} {v : Value} {xs : List Value} (h : Only base Z a b) (hr : a.ownsRow bs e k v n xs) (hz : ∀ g, v.ownBlock = some g → ¬ Z g e) : b.ownsRow bs e k v n xs :=
  ownsRow_other hr fun g cs hg hh => (h.cells hh (hz g hg)).trans hh.symm
end

structure Fp where
  blk : Nat
  q : Pk
/-- A packet that waits: its name and its block, and what that says. -/
structure Wp where
  nm : Nm
  blk : Nat
  till : Int
  first : Option Fp
  fin : Nat
  rv : Value
  rows : List Rw
def fptr : Option Fp → Value
  | none => .pointer none
  | some f => .pointer (some ⟨f.blk, 0, none⟩)
@[reducible] def pcells (p : Wp) : Array Value := #[.int .i64 p.till, fptr p.first, .int .i64 (p.fin : Int), p.rv]
@[reducible] def pptr (p : Wp) : Value := .pointer (some ⟨p.blk, 0, none⟩)
def rowN (r : Rw) : RowN := (r.at_, r.data)
def Wp.ns (p : Wp) : List RowN := p.rows.map rowN

structure PktAt (w : World) (base : Nat) (p : Wp) : Prop where
  blk : w.heap[p.blk]? = some (.cells (pcells p) 75 (0, 0))
  low : base ≤ p.blk
  row : w.ownsRow base 99 2 p.rv p.rows.length (cellsW p.rows)
  data : ∀ r ∈ p.rows, Own w base r.v r.data
  laid : Laid 0 p.ns
  top : reach 0 p.ns ≤ 65515
  first : ∀ f, p.first = some f → base ≤ f.blk ∧ Blk w f.blk f.q.k f.q.vo f.q.vd ∧ Own w base f.q.vo f.q.k.opts ∧ Own w base f.q.vd f.q.k.data ∧ f.q.k.Ok ∧ f.q.k.Small
  fit : p.fin ≤ 65515
  tick : 0 ≤ p.till ∧ p.till ≤ 2000000000000

/-- What a change of the packet p may touch. -/
def Zp (p : Wp) (b : Nat) (T : TypeId) : Prop := (b = p.blk ∧ T = 75) ∨ (p.rv.ownBlock = some b ∧ T = 99)
/-- p became p'. -/
structure Grows (base : Nat) (p p' : Wp) (w w' : World) : Prop where
  only : Only base (Zp p) w w'
  blk : p'.blk = p.blk
  nm : p'.nm = p.nm
  till : p'.till = p.till
  new : ∀ b, p'.rv.ownBlock = some b → p.rv.ownBlock = some b ∨ w.heap.size ≤ b
theorem Grows.refl (base : Nat) (p : Wp) (w : World) : Grows base p p w w := ⟨Only.refl _ _ _, rfl, rfl, rfl, fun b h => .inl h⟩
theorem Grows.trans {base : Nat} {p q r : Wp} {a b c : World} (h : Grows base p q a b) (k : Grows base q r b c) : Grows base p r a c := by
  refine ⟨⟨h.only.low.trans k.only.low, fun i o T hi ht hz => k.only.keep i o T (h.only.keep i o T hi ht hz) ht fun hy => ?_⟩, k.blk.trans h.blk, k.nm.trans h.nm, k.till.trans h.till, fun i hi => ?_⟩
  · rcases hy with ⟨e1, e2⟩ | ⟨e1, e2⟩
    · exact hz (.inl ⟨e1.trans h.blk, e2⟩)
    · rcases h.new i e1 with h1 | h1
      · exact hz (.inr ⟨h1, e2⟩)
      · have := (Array.getElem?_eq_some_iff.1 hi).1
        omega
  · rcases k.new i hi with h1 | h1
    · exact h.new i h1
    · have := h.only.size
      exact .inr (by omega)

section
variable {w w' : World} {base : Nat} {p : Wp}
theorem PktAt.only {Z : Nat → TypeId → Prop} (h : PktAt w base p) (o : Only base Z w w') (h1 : ¬ Z p.blk 75) (h2 : ∀ b, p.rv.ownBlock = some b → ¬ Z b 99) (h3 : ∀ b, ¬ Z b 5) (h4 : ∀ b, ¬ Z b 38) : PktAt w' base p :=
  ⟨o.cells h.blk h1, h.low, o.row h.row h2, fun r hr => o.row (h.data r hr) fun g _ => h3 g, h.laid, h.top, fun f hf => by
    obtain ⟨e1, e2, e3, e4, e5⟩ := h.first f hf
    exact ⟨e1, o.cells e2 (h4 _), o.row e3 fun g _ => h3 g, o.row e4 fun g _ => h3 g, e5⟩, h.fit, h.tick⟩
theorem PktAt.grow (h : PktAt w base p) (g : Grow w w') (hb : base ≤ w.heap.size) : PktAt w' base p := h.only (Only.grow g hb fun _ _ => False) (fun h => h) (fun _ _ h => h) (fun _ h => h) (fun _ h => h)
theorem PktAt.cell (h : PktAt w base p) (i : Nat) : w.cell? ⟨p.blk, i, none⟩ = (pcells p)[i]? := cell_of_row w p.blk i _ _ _ h.blk
theorem PktAt.c0 (h : PktAt w base p) : w.cell? ⟨p.blk, 0, none⟩ = some (.int .i64 p.till) := h.cell 0
theorem PktAt.c1 (h : PktAt w base p) : w.cell? ⟨p.blk, 1, none⟩ = some (fptr p.first) := h.cell 1
theorem PktAt.c2 (h : PktAt w base p) : w.cell? ⟨p.blk, 2, none⟩ = some (.int .i64 (p.fin : Int)) := h.cell 2
theorem PktAt.c3 (h : PktAt w base p) : w.cell? ⟨p.blk, 3, none⟩ = some p.rv := h.cell 3
theorem PktAt.fz (h : PktAt w base p) (i : Nat) : w.frozen? ⟨p.blk, i, none⟩ = false := frozen_of h.blk
theorem PktAt.lt (h : PktAt w base p) : p.blk < w.heap.size := (Array.getElem?_eq_some_iff.1 h.blk).1
theorem PktAt.rws (h : PktAt w base p) : Rws w p.rv p.rows := RdK.of_own h.row
end

theorem laid_all : ∀ (l : List RowN) (q : Nat), Laid q l → ∀ r ∈ l, q ≤ r.1 ∧ r.1 + r.2.length ≤ reach q l ∧ r.2 ≠ []
  | [], q, _, r, hr => by simp at hr
  | (a, d) :: s, q, h, r, hr => by
    have hq := h.1
    have hg := reach_ge s _ h.2.2
    rcases List.mem_cons.1 hr with rfl | hr
    · exact ⟨hq, hg, h.2.1⟩
    · have := laid_all s _ h.2.2 r hr
      exact ⟨by omega, this.2⟩
theorem laid_len : ∀ (l : List RowN) (q : Nat), Laid q l → q + l.length ≤ reach q l
  | [], q, _ => Nat.le_refl _
  | (a, d) :: s, q, h => by
    have := laid_len s _ h.2.2
    have hq := h.1
    have hd : 0 < d.length := List.length_pos_iff.2 h.2.1
    simp only [reach, List.length_cons]
    omega
theorem laid_pair : ∀ (l : List RowN) (q : Nat), Laid q l → l.Pairwise fun a b => a.1 + a.2.length < b.1 + b.2.length
  | [], q, _ => List.Pairwise.nil
  | (a, d) :: s, q, h => by
    refine List.Pairwise.cons (fun r hr => ?_) (laid_pair s _ h.2.2)
    have := laid_all s _ h.2.2 r hr
    have hr := List.length_pos_iff.2 this.2.2
    simp only
    omega
theorem PktAt.few {w : World} {base : Nat} {p : Wp} (h : PktAt w base p) : p.rows.length ≤ 65515 := by
  have := laid_len _ _ h.laid
  have e : p.ns.length = p.rows.length := by unfold Wp.ns; rw [List.length_map]
  have := h.top
  omega
theorem PktAt.fits {w : World} {base : Nat} {p : Wp} (h : PktAt w base p) : ∀ r ∈ p.rows, r.Fit := by
  intro r hr
  have h1 := laid_all _ _ h.laid (rowN r) (List.mem_map_of_mem hr)
  have h2 := h.top
  obtain ⟨A, c, e, _⟩ := (h.data r hr).byt.form
  refine ⟨⟨A, c, e⟩, ?_⟩
  have : (rowN r).1 + (rowN r).2.length = r.at_ + r.data.length := rfl
  omega
theorem PktAt.pair {w : World} {base : Nat} {p : Wp} (h : PktAt w base p) : p.rows.Pairwise fun a b => rE a < rE b := by
  have := laid_pair _ _ h.laid
  unfold Wp.ns at this
  rw [List.pairwise_map] at this
  refine this.imp fun {a b} h => ?_
  unfold rE
  simp only [rowN] at h
  omega
end Go.Proofs.Ytmnemkeieaflhaa
/- Contract: a row more in a packet that waits. -/
namespace Go.Proofs.Ytmnemkeieaflhaa
set_option linter.unusedVariables false
set_option linter.unusedSimpArgs false
open Go.ChangeShapes Go.WideShapes Go.ChangeAt Go.RowKit Go.Shelf

def Wp.put (p : Wp) (no : Nat) (r : Rw) (v' : Value) : Wp := { p with rv := v', rows := p.rows.take no ++ r :: p.rows.drop no }

theorem inserted {w w3 w4 : World} {base : Nat} {p : Wp} {no at_ : Nat} {d : List UInt8} {v3 v' : Value} (h : PktAt w base p) (hb : base ≤ w.heap.size) (g : Grow w w3) (ho3 : Own w3 w.heap.size v3 d)
    (ho4 : w4.ownsRow base 99 2 v' (p.rows.length + 1) ((cellsW p.rows).take (no * 2) ++ [.int .i64 (at_ : Int), v3] ++ (cellsW p.rows).drop (no * 2)))
    (hg4 : (w3.alloc (.cells #[.int .i64 (at_ : Int), v3] 99)).grownBy w4 p.rv.ownBlock)
    (hat : v'.ownBlock = p.rv.ownBlock ∨ v'.ownBlock = some (w3.alloc (.cells #[.int .i64 (at_ : Int), v3] 99)).heap.size)
    (hno : no ≤ p.rows.length) (hl : Laid 0 (p.put no ⟨at_, v3, d⟩ v').ns) (ht : reach 0 (p.put no ⟨at_, v3, d⟩ v').ns ≤ 65515) :
    (w4.cell? ⟨p.blk, 3, none⟩ = some p.rv ∧ w4.frozen? ⟨p.blk, 3, none⟩ = false) ∧ PktAt (w4.setCell ⟨p.blk, 3, none⟩ v') base (p.put no ⟨at_, v3, d⟩ v') ∧ Grows base p (p.put no ⟨at_, v3, d⟩ v') w (w4.setCell ⟨p.blk, 3, none⟩ v') := by
  have gA : Grow w3 (w3.alloc (.cells #[.int .i64 (at_ : Int), v3] 99)) := Grow.alloc _ _
  have hsz : w.heap.size ≤ (w3.alloc (.cells #[.int .i64 (at_ : Int), v3] 99)).heap.size := (g.trans gA).size
  generalize w3.alloc (.cells #[.int .i64 (at_ : Int), v3] 99) = W3 at *
  have hA := h.grow (g.trans gA) hb
  have oR : Only base (fun b T => p.rv.ownBlock = some b ∧ T = 99) W3 w4 := Only.grown hg4 (fun b e => by
    obtain ⟨cs, h1, h2⟩ := ownsRow_blk hA.row e
    exact ⟨h2, fun o T ho hT => by rw [h1] at ho; cases ho; cases hT; exact ⟨e, rfl⟩⟩) (Nat.le_trans hb hsz)
  have hB4 := oR.cells hA.blk (fun e => absurd e.2 (by decide))
  have oS : Only base (fun b T => b = p.blk ∧ T = 75) w4 (w4.setCell ⟨p.blk, 3, none⟩ v') := Only.set hB4 h.low ⟨rfl, rfl⟩ v'
  have oAll : Only base (Zp p) w (w4.setCell ⟨p.blk, 3, none⟩ v') :=
    ((Only.grow (g.trans gA) hb (Zp p)).trans (oR.mono fun _ _ _ _ _ e => .inr e)).trans (oS.mono fun _ _ _ _ _ e => .inl e)
  have hlen : (p.rows.take no ++ (⟨at_, v3, d⟩ : Rw) :: p.rows.drop no).length = p.rows.length + 1 := by
    simp only [List.length_append, List.length_take, List.length_cons, List.length_drop]; omega
  refine ⟨⟨(cell_of_row w4 p.blk 3 _ _ _ hB4).trans rfl, frozen_of hB4⟩, ⟨?_, h.low, ?_, ?_, hl, ht, ?_, h.fit, h.tick⟩, ⟨oAll, rfl, rfl, rfl, ?_⟩⟩
  · have e := heap_setCell_own (k := 3) hB4 v'
    exact e
  · show (w4.setCell ⟨p.blk, 3, none⟩ v').ownsRow base 99 2 v' (p.rows.take no ++ (⟨at_, v3, d⟩ : Rw) :: p.rows.drop no).length (cellsW (p.rows.take no ++ (⟨at_, v3, d⟩ : Rw) :: p.rows.drop no))
    rw [hlen]
    have e : cellsW (p.rows.take no ++ (⟨at_, v3, d⟩ : Rw) :: p.rows.drop no) = (cellsW p.rows).take (no * 2) ++ [.int .i64 (at_ : Int), v3] ++ (cellsW p.rows).drop (no * 2) := by
      unfold cellsW
      rw [flat_take rwC 2 rwC_length, flat_drop rwC 2 rwC_length, List.flatMap_append, List.flatMap_cons, List.append_assoc]
      rfl
    rw [e]
    exact oS.row ho4 fun b _ e2 => absurd e2.2 (by decide)
  · intro r hr
    have hr' : r ∈ p.rows ∨ r = ⟨at_, v3, d⟩ := by
      rcases List.mem_append.1 hr with h1 | h1
      · exact .inl (List.mem_of_mem_take h1)
      · rcases List.mem_cons.1 h1 with h2 | h2
        · exact .inr h2
        · exact .inl (List.mem_of_mem_drop h2)
    rcases hr' with h1 | rfl
    · exact oAll.row (h.data r h1) fun b _ e => by rcases e with e | e <;> exact absurd e.2 (by decide)
    · exact oS.row (oR.row ((ho3.grow gA).base hb) fun b _ e => absurd e.2 (by decide)) fun b _ e => absurd e.2 (by decide)
  · intro f hf
    obtain ⟨e1, e2, e3, e4, e5⟩ := h.first f hf
    exact ⟨e1, oAll.cells e2 (fun e => by rcases e with e | e <;> exact absurd e.2 (by decide)), oAll.row e3 (fun b _ e => by rcases e with e | e <;> exact absurd e.2 (by decide)), oAll.row e4 (fun b _ e => by rcases e with e | e <;> exact absurd e.2 (by decide)), e5⟩
  · intro b e
    rcases hat with h1 | h1
    · exact .inl (h1.symm.trans e)
    · have : some W3.heap.size = some b := h1.symm.trans e
      cases this
      exact .inr hsz

set_option maxRecDepth 10000 in
set_option maxHeartbeats 4000000 in
theorem insert_any (w : World) (base : Nat) (p : Wp) (h : PktAt w base p) (hb : base ≤ w.heap.size) (no at_ : Nat) (v : Value) (d : List UInt8) (hv : Byt w v d) (hno : no ≤ p.rows.length) (hd : d.length ≤ 100000)
    (hl : ∀ v3 v', Laid 0 (p.put no ⟨at_, v3, d⟩ v').ns) (ht : ∀ v3 v', reach 0 (p.put no ⟨at_, v3, d⟩ v').ns ≤ 65515) :
    Calls Try.prog 52 #[pptr p, .int .i64 (no : Int), .int .i64 (at_ : Int), v] w fun e w' => e = .returned (.tuple #[]) ∧ ∃ v3 v', PktAt w' base (p.put no ⟨at_, v3, d⟩ v') ∧ Grows base p (p.put no ⟨at_, v3, d⟩ v') w w' := by
  have hfew := h.few
  have c3 := h.c3
  have f3 := h.fz 3
  have hlt := h.lt
  have hrow := h.row
  obtain ⟨A, n, c, hrv, hn⟩ : ∃ A n c, p.rv = .slice A n c ∧ n = p.rows.length := by
    obtain ⟨A, c, e, _⟩ := (RdK.of_own h.row).form
    exact ⟨A, _, c, e, rfl⟩
  obtain ⟨B, c2, hvv, _⟩ := hv.form
  have cC : Hid (∀ W, Grow w W → Calls Try.prog 43 #[v] W fun e w' => ∃ v', e = .returned v' ∧ Own w' W.heap.size v' d ∧ Grow W w') := fun W g => Clone_any v d W (hv.grow g) (by omega)
  have cI : Hid (∀ w3 v3, Grow w w3 → v3.oneCell' = true → Own w3 w.heap.size v3 d → Calls Try.prog 56 #[p.rv, .int .i64 (no : Int), .slice (some ⟨w3.heap.size, 0, none⟩) 1 1] (w3.alloc (.cells #[.int .i64 (at_ : Int), v3] 99)) fun e w4 => ∃ A' n' c', e = .returned (.slice A' n' c') ∧
      (w4.cell? ⟨p.blk, 3, none⟩ = some p.rv ∧ w4.frozen? ⟨p.blk, 3, none⟩ = false) ∧ Hid (PktAt (w4.setCell ⟨p.blk, 3, none⟩ (.slice A' n' c')) base (p.put no ⟨at_, v3, d⟩ (.slice A' n' c')) ∧ Grows base p (p.put no ⟨at_, v3, d⟩ (.slice A' n' c')) w (w4.setCell ⟨p.blk, 3, none⟩ (.slice A' n' c')))) := by
    intro w3 v3 g h1 ho3
    have gA := g.trans (Grow.alloc w3 (.cells #[.int .i64 (at_ : Int), v3] 99))
    refine (Insert_any _ base p.rows.length no w3.heap.size p.rv (cellsW p.rows) (.int .i64 (at_ : Int)) v3 (h.grow gA hb).row (fun y hy => ?_) (heap_alloc_new w3 _) rfl h1 (fun e => ?_) hno (by omega) (Nat.le_trans hb gA.size)).mono ?_
    · obtain ⟨r, hr, hy⟩ := List.mem_flatMap.1 hy
      simp only [rwC, List.mem_cons, List.not_mem_nil, or_false] at hy
      rcases hy with rfl | rfl
      · rfl
      · exact (h.data r hr).one
    · have h2 := (h.row.lt _ e).2
      have h3 := g.size
      omega
    · rintro e w4 ⟨v', rfl, ho4, hg4, hat⟩
      obtain ⟨q1, q2, q3⟩ := inserted h hb g ho3 ho4 hg4 hat hno (hl v3 v') (ht v3 v')
      obtain ⟨A', c', e', _⟩ := (RdK.of_own ho4).form
      subst e'
      exact ⟨_, _, _, rfl, q1, q2, q3⟩
  rw [hvv] at cC ⊢
  rw [hrv] at c3 cI
  have HR := Lib.hid (And.intro hrv hn)
  clear h hv hrow hl ht hrv hn hvv
  unfold pptr
  obtain ⟨pnm, pb, ptl, pf, pfin, prv, prows⟩ := p
  simp only at *
  go_enter Try.func52, Try.ntmps52
  go_wp2_with fail
  go_region_with (first
    | (go_at_call 43; refine (cC.out _ (Grow.drew _)).mono ?_; rintro e w3 ⟨v3, rfl, ho3, hg3⟩; obtain ⟨A3, m3, k3, rfl, hm3⟩ := ho3.byt.form2; have c3' := (hg3.cell (p := ⟨pb, 3, none⟩) hlt).trans c3; have c3'' := ((Grow.alloc w3 (.cells #[.int .i64 (at_ : Int), .slice A3 m3 k3] 99)).cell (p := ⟨pb, 3, none⟩) (Nat.lt_of_lt_of_le hlt hg3.size)).trans c3'; have cJ := cI.out _ _ ((Grow.drew _).trans hg3) rfl ho3; clear ho3 hg3)
    | (go_at_call 56; refine cJ.mono ?_; rintro e w4 ⟨A4, m4, k4, rfl, ⟨k3', kf'⟩, HZ⟩))
  all_goals
    go_wp2_with fail
    go_end0
    exact ⟨rfl, _, _, HZ.out.1, HZ.out.2⟩
end Go.Proofs.Ytmnemkeieaflhaa
/- Contracts: held, reach, behind, complete. -/
namespace Go.Proofs.Ytmnemkeieaflhaa
set_option linter.unusedVariables false
set_option linter.unusedSimpArgs false
open Go.ChangeShapes Go.WideShapes Go.ChangeAt Go.RowKit Go.Shelf
attribute [local irreducible] wpQuiet

theorem held_snoc (l : List RowN) (k : Nat) (h : k < l.length) : heldN (l.take (k + 1)) = heldN (l.take k) + (l[k]).2.length := by
  unfold heldN
  rw [List.take_succ_eq_append_getElem h, List.map_append, List.sum_append]
  simp only [List.map_cons, List.map_nil, List.sum_cons, List.sum_nil, Nat.add_zero]
theorem held_le (l : List RowN) (k : Nat) : heldN (l.take k) ≤ heldN l := by
  unfold heldN
  conv => rhs; rw [← List.take_append_drop k l]
  rw [List.map_append, List.sum_append]
  exact Nat.le_add_right _ _
theorem held_reach (l : List RowN) (h : Laid 0 l) : heldN l ≤ reach 0 l := by
  rw [held_cnt l 0]
  have := cnt_le (cont 0 l)
  rw [cont_length l 0 h] at this
  omega
theorem reach_last : ∀ (l : List RowN) (q : Nat) (h : l ≠ []), reach q l = (l.getLast h).1 + (l.getLast h).2.length
  | [(a, d)], q, h => rfl
  | (a, d) :: y :: s, q, h => by
    have := reach_last (y :: s) (a + d.length) (by simp)
    rw [List.getLast_cons (by simp)]
    exact this

set_option maxHeartbeats 4000000 in
theorem held_any (w : World) (base : Nat) (p : Wp) (h : PktAt w base p) : Calls Try.prog 38 #[pptr p] w fun e w' => e = .returned (.int .i64 (heldN p.ns : Nat)) ∧ Grow w w' := by
  have hfew := h.few
  have c3 := h.c3
  have hR := Lib.hid h.rws
  have hF := Lib.hid h.fits
  have hB : heldN p.ns ≤ 65515 := Nat.le_trans (held_reach _ h.laid) h.top
  obtain ⟨A, n, c, hrv, hn⟩ : ∃ A n c, p.rv = .slice A n c ∧ n = p.rows.length := by
    obtain ⟨A, c, e, _⟩ := (RdK.of_own h.row).form
    exact ⟨A, _, c, e, rfl⟩
  have hlt := h.lt
  rw [hrv] at c3 hR
  subst hn
  have hns : p.ns = p.rows.map rowN := rfl
  have HN := Lib.hid hns
  have hnl : p.ns.length = p.rows.length := by rw [hns, List.length_map]
  generalize p.ns = L at *
  clear h hrv hns
  unfold pptr
  obtain ⟨pnm, pb, ptl, pf, pfin, prv, prows⟩ := p
  simp only at *
  go_enter Try.func38, Try.ntmps38
  go_wp2_with fail
  go_loopg [3, 11] prows.length (fun g s3 s11 wr => ∃ k : Nat, k ≤ prows.length ∧ g = prows.length - k ∧ s3 = .int .i64 (heldN (L.take k) : Nat) ∧ s11 = .int .i64 (k : Int) ∧ Grow w wr)
  case atStart => exact ⟨0, Nat.zero_le _, rfl, by simp [heldN], rfl, Grow.refl _⟩
  case round =>
    obtain ⟨k, hk, rfl, rfl, rfl, hgr⟩ := hrel
    rcases Nat.lt_or_ge k prows.length with hlt1 | hge
    · obtain ⟨b, off, rfl, hb, hcell⟩ := hR.out.at_ (by omega)
      have RM : RwAt wr b (off + k * 2) prows[k] := (hcell _ hlt1).grow hgr hb
      have hfx := hF.out _ (List.getElem_mem hlt1)
      have e1 := held_snoc L k (by omega)
      have e2 := held_le L (k + 1)
      have e3 : (L[k]'(by omega)).2.length = (prows[k]).data.length := by
        have : L[k]'(by omega) = rowN prows[k] := by simp only [HN.out, List.getElem_map]
        rw [this]
        rfl
      rw [e3] at e1
      have A1 := Lib.hid (And.intro hgr e1)
      generalize hH1 : heldN (L.take (k + 1)) = H1 at *
      have HH1 := Lib.hid hH1
      clear hH1
      generalize heldN (L.take k) = H0 at *
      generalize prows[k] = x at *
      obtain ⟨A5, c5, hxv⟩ := hfx.1
      obtain ⟨c0, c1⟩ := RM
      rw [hxv] at c1
      generalize x.data.length = xn at *
      generalize x.at_ = xa at *
      have qh : (H0 : Int) + (xn : Int) = (H1 : Int) := by omega
      clear hxv hcell hb e3 e1 hfx hgr
      go_wp2_with fail
      go_roundg (prows.length - (k + 1))
      case measure => omega
      case rel => exact ⟨k + 1, by omega, rfl, by rw [HH1.out], by go_num, A1.out.1.trans (Grow.alloc _ _)⟩
    · obtain rfl : k = prows.length := by omega
      have e : L.take prows.length = L := List.take_of_length_le (by omega)
      rw [e]
      have A1 := Lib.hid hgr
      clear hgr e
      go_wp2_with fail
      go_ret
      exact ⟨rfl, A1.out⟩

set_option maxHeartbeats 4000000 in
theorem reach_any (w : World) (base : Nat) (p : Wp) (h : PktAt w base p) (hne : p.rows ≠ []) : Calls Try.prog 50 #[pptr p] w fun e w' => e = .returned (.int .i64 (reach 0 p.ns : Nat)) ∧ Grow w w' := by
  have hfew := h.few
  have c3 := h.c3
  have hpos : 0 < p.rows.length := List.length_pos_iff.2 hne
  have hR := h.rws
  obtain ⟨A, n, c, hrv, hn⟩ : ∃ A n c, p.rv = .slice A n c ∧ n = p.rows.length := by
    obtain ⟨A, c, e, _⟩ := (RdK.of_own h.row).form
    exact ⟨A, _, c, e, rfl⟩
  have hlt := h.lt
  rw [hrv] at c3 hR
  subst hn
  have hm : p.rows.length - 1 < p.rows.length := by omega
  have hfx := h.fits _ (List.getElem_mem hm)
  obtain ⟨b, off, rfl, hb, hcell⟩ := hR.at_ hpos
  obtain ⟨c0, c1⟩ := hcell _ hm
  have hns : p.ns ≠ [] := by
    intro e
    have : p.ns.length = 0 := by rw [e]; rfl
    unfold Wp.ns at this
    rw [List.length_map] at this
    omega
  have hE : (reach 0 p.ns : Int) = rE (p.rows[p.rows.length - 1]) := by
    rw [reach_last _ _ hns]
    have : p.ns.getLast hns = rowN (p.rows[p.rows.length - 1]) := by
      rw [List.getLast_eq_getElem]
      simp only [Wp.ns, List.length_map, List.getElem_map]
    rw [this]
    rfl
  rw [hE]
  have cE : ∀ q : Gw w, Calls Try.prog 53 #[rwV p.rows[p.rows.length - 1]] q.v fun e w' => e = .returned (.int .i64 (rE p.rows[p.rows.length - 1])) ∧ ∃ r : Gw w, w' = r.v := fun q => Calls.gw (rowEnd_any _ hfx q.v)
  obtain ⟨A5, c5, hxv⟩ := hfx.1
  clear hE hns hcell hR hfx hne
  generalize rE p.rows[p.rows.length - 1] = E at *
  generalize p.rows[p.rows.length - 1] = x at *
  rw [hxv] at c1
  unfold rwV at cE
  rw [hxv] at cE
  clear hxv hrv h
  unfold pptr
  obtain ⟨pnm, pb, ptl, pf, pfin, prv, prows⟩ := p
  simp only at *
  generalize prows.length = M at *
  obtain ⟨N, rfl⟩ : ∃ N, M = N + 1 := ⟨M - 1, by omega⟩
  simp only [Nat.add_sub_cancel] at *
  have d3 := fun q : Gw w => Gw.cell hlt c3 q
  have d0 := fun q : Gw w => Gw.cell hb c0 q
  have d1 := fun q : Gw w => Gw.cell hb c1 q
  have qw : IntKind.i64.wrap (((N + 1 : Nat) : Int) - 1) = (N : Int) := by rw [IntKind.wrap_i64]; omega
  have qw2 : IntKind.i64.wrap ((N : Int) + 1 - 1) = (N : Int) := by rw [IntKind.wrap_i64]; omega
  have qw3 : IntKind.i64.wrap (N : Int) = (N : Int) := by rw [IntKind.wrap_i64]; omega
  have qi1 : (N : Int) < (N : Int) + 1 := by omega
  have qi2 : (N : Int) < ((N + 1 : Nat) : Int) := by omega
  have qi3 : (0 : Int) ≤ (N : Int) := by omega
  clear c3 c0 c1
  go_enter Try.func50, Try.ntmps50
  go_wp2_with fail
  refine wp_region_gw (by kernel_rfl) (by kernel_rfl) ?_
  repeat (quiet_step ((go_at_call 53; exact cE _)))
  refine wpQuiet_nil ?_
  intro _ hw'
  obtain ⟨⟨wq, hgq⟩, hw2⟩ := hw'
  subst hw2
  go_wp2_with fail
  go_ret
  exact ⟨rfl, hgq⟩

set_option maxHeartbeats 4000000 in
theorem behind_any (w : World) (base : Nat) (p : Wp) (h : PktAt w base p) (q : Nat) (hq : q ≤ 70000) : Calls Try.prog 51 #[pptr p, .int .i64 (q : Int)] w fun e w' =>
    (∃ no : Nat, no ≤ p.rows.length ∧ (∀ t (h : t < p.rows.length), t < no → rE p.rows[t] ≤ (q : Int)) ∧ (∀ t (h : t < p.rows.length), no ≤ t → (q : Int) < rE p.rows[t]) ∧ e = .returned (.int .i64 (no : Int))) ∧ Grow w w' := by
  have c3 := h.c3
  have cB := BSF_any p.rows h.pair h.fits (by have := h.few; omega) p.rv w h.rws ((q : Int) + 1) (by omega) (by omega)
  obtain ⟨A, c, hrv, _⟩ := (RdK.of_own h.row).form
  have hlt := h.lt
  rw [hrv] at c3 cB
  clear h hrv
  unfold pptr
  obtain ⟨pnm, pb, ptl, pf, pfin, prv, prows⟩ := p
  simp only at *
  go_enter Try.func51, Try.ntmps51
  go_wp2_with fail
  refine cB.mono ?_
  rintro e w2 ⟨⟨no, b, h1, h2, h3, rfl⟩, hg⟩
  have HH := Lib.hid (And.intro h1 (And.intro h2 (And.intro h3 hg)))
  clear h1 h2 h3 hg cB
  go_wp2_with fail
  go_ret
  exact ⟨⟨no, HH.out.1, fun t h h' => by have := HH.out.2.1 t h h'; omega, fun t h h' => by have := HH.out.2.2.1 t h h'; omega, rfl⟩, HH.out.2.2.2⟩

set_option maxHeartbeats 4000000 in
theorem complete_any (w : World) (base : Nat) (p : Wp) (h : PktAt w base p) : Calls Try.prog 31 #[pptr p] w fun e w' => e = .returned (.bool (decide (p.fin ≠ 0 ∧ heldN p.ns = p.fin))) ∧ Grow w w' := by
  have c2 := h.c2
  have hlt := h.lt
  have hB : heldN p.ns ≤ 65515 := Nat.le_trans (held_reach _ h.laid) h.top
  have cH : ∀ q : Gw w, Calls Try.prog 38 #[pptr p] q.v fun e w' => e = .returned (.int .i64 (heldN p.ns : Nat)) ∧ ∃ r : Gw w, w' = r.v := fun q => Calls.gw (held_any q.v base p (h.grow q.h (Nat.le_trans h.low (Nat.le_of_lt hlt))))
  have d2 := fun q : Gw w => Gw.cell hlt c2 q
  clear c2 h
  unfold pptr at *
  generalize heldN p.ns = H at *
  obtain ⟨pnm, pb, ptl, pf, fin, prv, prows⟩ := p
  simp only at *
  by_cases h0 : fin = 0
  · subst h0
    have hC : decide (0 ≠ 0 ∧ H = 0) = false := by simp
    rw [hC]
    clear hC
    go_enter Try.func31, Try.ntmps31
    go_wp2_with fail
    refine wp_region_gw (by kernel_rfl) (by kernel_rfl) ?_
    repeat (quiet_step ((go_at_call 38; exact cH _)))
    refine wpQuiet_nil ?_
    intro _ hw'
    obtain ⟨⟨wq, hgq⟩, hw2⟩ := hw'
    subst hw2
    go_wp2_with fail
    go_ret
    exact ⟨rfl, hgq⟩
  · have q0 : ((fin : Int) == 0) = false := by simpa using h0
    have q1 : decide ((fin : Int) = 0) = false := by simpa using h0
    by_cases h1 : H = fin
    · have hC : decide (fin ≠ 0 ∧ H = fin) = true := decide_eq_true ⟨h0, h1⟩
      rw [hC]
      clear hC
      subst h1
      have q4 : ((H : Int) != 0) = true := by simpa using h0
      go_enter Try.func31, Try.ntmps31
      go_wp2_with fail
      refine wp_region_gw (by kernel_rfl) (by kernel_rfl) ?_
      repeat (quiet_step ((go_at_call 38; exact cH _)))
      refine wpQuiet_nil ?_
      intro _ hw'
      obtain ⟨⟨wq, hgq⟩, hw2⟩ := hw'
      subst hw2
      go_wp2_with fail
      go_ret
      exact ⟨rfl, hgq⟩
    · have hC : decide (fin ≠ 0 ∧ H = fin) = false := decide_eq_false (fun e => h1 e.2)
      rw [hC]
      clear hC
      have q2 : ((H : Int) == (fin : Int)) = false := by simpa using fun e => h1 (by omega)
      have q3 : decide ((H : Int) = (fin : Int)) = false := by simpa using fun e => h1 (by omega)
      go_enter Try.func31, Try.ntmps31
      go_wp2_with fail
      refine wp_region_gw (by kernel_rfl) (by kernel_rfl) ?_
      repeat (quiet_step ((go_at_call 38; exact cH _)))
      refine wpQuiet_nil ?_
      intro _ hw'
      obtain ⟨⟨wq, hgq⟩, hw2⟩ := hw'
      subst hw2
      go_wp2_with fail
      go_ret
      exact ⟨rfl, hgq⟩
end Go.Proofs.Ytmnemkeieaflhaa
/- Bytes that no change of the table touches; cuts of them. -/
namespace Go.Proofs.Ytmnemkeieaflhaa
set_option linter.unusedVariables false
set_option linter.unusedSimpArgs false
open Go.ChangeShapes Go.WideShapes Go.ChangeAt Go.RowKit Go.Shelf

/-- v reads as l, out of a block below base, or of one of bytes. -/
def Firm (base : Nat) (w : World) (v : Value) (l : List UInt8) : Prop :=
  Byt w v l ∧ (0 < l.length → ∀ b, v.ownBlock = some b → b < base ∨ ∃ cs, w.heap[b]? = some (.cells cs 5 (0, 0)))
section
variable {base : Nat} {w w' : World} {v : Value} {l : List UInt8}
theorem Firm.only {Z : Nat → TypeId → Prop} (h : Firm base w v l) (o : Only base Z w w') (hz : ∀ b, ¬ Z b 5) : Firm base w' v l := by
  rcases Nat.eq_zero_or_pos l.length with h0 | h0
  · have := List.eq_nil_of_length_eq_zero h0
    subst this
    exact ⟨h.1.anywhere, fun h => absurd h (by simp)⟩
  · have hb : ∀ b, v.ownBlock = some b → w'.heap[b]? = w.heap[b]? := by
      intro b hb
      rcases h.2 h0 b hb with h1 | ⟨cs, h1⟩
      · exact o.low.block b h1
      · exact (o.cells h1 (hz b)).trans h1.symm
    refine ⟨?_, fun _ b e => ?_⟩
    · obtain ⟨A, c, rfl, h1, h2, h3⟩ := h.1
      refine ⟨A, c, rfl, h1, h2, fun hp => ?_⟩
      obtain ⟨b, off, rfl, hlt, hc⟩ := h3 hp
      exact ⟨b, off, rfl, Nat.lt_of_lt_of_le hlt o.size, fun j hj => (World.cell?_of_block (w := w) (a := ⟨b, off + j, none⟩) (hb b rfl)).trans (hc j hj)⟩
    · rcases h.2 h0 b e with h1 | ⟨cs, h1⟩
      · exact .inl h1
      · exact .inr ⟨cs, (o.cells h1 (hz b))⟩
theorem Firm.grow (h : Firm base w v l) (g : Grow w w') (hb : base ≤ w.heap.size) : Firm base w' v l := h.only (Only.grow g hb fun _ _ => False) fun _ h => h
theorem Firm.own {b0 : Nat} (h : Own w b0 v l) : Firm base w v l := ⟨h.byt, fun _ b e => by
  obtain ⟨cs, h1, _⟩ := ownsRow_blk h e
  exact .inr ⟨cs, h1⟩⟩
theorem Firm.below (h : Byt w v l) (hb : w.heap.size ≤ base) : Firm base w v l := ⟨h, fun hp b e => .inl (by
  obtain ⟨A, c, rfl, h1, h2, h3⟩ := h
  obtain ⟨b', off, rfl, hlt, hc⟩ := h3 (by rw [List.length_map]; exact hp)
  cases e
  exact Nat.lt_of_lt_of_le hlt hb)⟩
theorem Firm.front {A : Option Addr} {n c k : Nat} (h : Firm base w (.slice A n c) l) (hk : k ≤ n) : Firm base w (.slice A k c) (l.take k) :=
  ⟨h.1.front hk, fun hp b e => h.2 (by rw [List.length_take] at hp; omega) b (by cases A with | none => cases e | some a => exact e)⟩
theorem Firm.back {A : Option Addr} {n c k : Nat} (h : Firm base w (.slice A n c) l) (hk : k ≤ n) : Firm base w (.slice (if c = k then A else A.map (·.add k)) (n - k) (c - k)) (l.drop k) := by
  refine ⟨?_, fun hp b e => h.2 (by rw [List.length_drop] at hp; omega) b ?_⟩
  · by_cases hc : c = k
    · rw [if_pos hc]; exact h.1.back0 hk hc
    · rw [if_neg hc]; exact h.1.back hk hc
  · by_cases hc : c = k
    · rw [if_pos hc] at e
      cases A with
      | none => cases e
      | some a => exact e
    · rw [if_neg hc] at e
      cases A with
      | none => cases e
      | some a =>
        rw [← e]
        show some a.block = some (a.add k).block
        unfold Addr.add
        split <;> rfl
end

theorem run_from {P : Program} (w : World) (t e : TypeId) (ht : P.underlying t = some (.slice e)) (hs : (P.info? e).map (·.size) = some 1) (A : Option Addr) (m c n : Nat) (hn : n ≤ m) :
    (Instr.slice t (.slice A m c) (some (.int .i64 (n : Int))) none none).run P w = .ok (.slice (if c = n then A else A.map (·.add n)) (m - n) (c - n)) w := by
  cases hq : P.info? e with
  | none => simp [hq] at hs
  | some i =>
    have hi : i.size = 1 := by simpa [hq] using hs
    have h1 : (0 : Int) ≤ (n : Int) := by omega
    have h2 : (n : Int) ≤ (m : Int) := by omega
    simp [Instr.slice, run_underlying ht, Instr.sliceBounds, run_sliceBound _ _ _ _ h1 h2, sizeOf, typeInfo, hq, hi, go_sem]
    intro h
    omega

theorem wpList_from {P : Program} (w : World) {ops : Array Oper} {rest : List Oper} {o : Oper} {a : Act} {Q : Exit → Act → World → Prop} (hgd : o.guard = none) (x y : Operand) (t e : TypeId)
    (ho : o.op = .slice t x (some y) none none) (ht : P.underlying t = some (.slice e)) (hs : (P.info? e).map (·.size) = some 1)
    (base : Nat) (A : Option Addr) (m c n : Nat) (l : List UInt8) (hx : a.eval x = .slice A m c) (hy : a.eval y = .int .i64 (n : Int)) (h : Firm base w (.slice A m c) l) (hn : n ≤ m)
    (hK : ∀ A' c', Firm base w (.slice A' (m - n) c') (l.drop n) → wpList P ops Q rest (a.put o.dst (.slice A' (m - n) c')) w) : wpList P ops Q (o :: rest) a w := by
  refine wpList_plain hgd fun _ hK' => ?_
  unfold Oper.wp execOp
  have hat : (Instr.sliceAt t (.slice A m c) (some (.int .i64 (n : Int))) none none).run P w = _ := (show _ = (Instr.slice t (.slice A m c) (some (.int .i64 (n : Int))) none none).run P w by simp [Instr.sliceAt, run_underlying ht]).trans (run_from w t e ht hs A m c n hn)
  simp only [ho, hx, hy, Option.map_some, Option.map_none, Sem.run_bind, Sem.run_pure, Result.andThen_ok, hat]
  exact hK' _ _ (hK _ _ (h.back hn))
end Go.Proofs.Ytmnemkeieaflhaa
