/- The program's box of datagrams in memory. -/
import Derived.Test.YtkblgigpgpjjlaaUdIf
namespace Go.Proofs.Ytkblgigpgpjjlaa
set_option linter.unusedVariables false
set_option linter.unusedSimpArgs false
open Go.ChangeShapes Go.WideShapes Go.ChangeAt Go.RowKit

/-- The bytes of each datagram lie in a row of their own. -/
def Owns (w : World) (l : List Mc) : Prop := ∀ x ∈ l, Own w 0 x.v x.d
@[reducible] def udA (most room : Int) (vL : Value) (pa pp told lost : Int) : Array Value := #[.int .i64 most, .int .i64 room, vL, .int .u32 pa, .int .u16 pp, .int .i64 told, .int .i64 lost]
def UdB (w : World) (g : Nat) (most room : Int) (vL : Value) (pa pp told lost : Int) : Prop := w.heap[g]? = some (.cells (udA most room vL pa pp told lost) 63 (0, 0))
structure UdS (w : World) (pb : Nat) (vL : Value) (l : List Mc) (u : Ub) : Prop where
  blk : UdB w pb u.most u.room vL u.pe.ad u.pe.po u.told u.lost
  row : Mcw w 0 vL l
  eq : l.map Mc.ml = u.L
  own : Owns w l
/-- The box's blocks. -/
def SOf (pb : Nat) (vL : Value) (l : List Mc) (b : Nat) : Prop := b = pb ∨ vL.ownBlock = some b ∨ ∃ x ∈ l, x.v.ownBlock = some b
/-- What a call that changes the box leaves. -/
def UdP (w w' : World) (pb : Nat) (vL : Value) (l : List Mc) (u : Ub) : Prop := ∃ vL' l', UdS w' pb vL' l' u ∧ ChgS (SOf pb vL l) w w' ∧ ∀ b, SOf pb vL' l' b → SOf pb vL l b ∨ w.heap.size ≤ b
theorem ChgS.tr {S : Nat → Prop} {a b c : World} (h : ChgS S a b) (k : ChgS S b c) : ChgS S a c :=
  ⟨k.os.trans h.os, k.tape.trans h.tape, k.output.trans h.output, Nat.le_trans h.size k.size, fun i hi hs => (k.block i (Nat.lt_of_lt_of_le hi h.size) hs).trans (h.block i hi hs)⟩
theorem ChgS.set {S : Nat → Prop} {w : World} {g i : Nat} (hg : S g) (u : Value) : ChgS S w (w.setCell ⟨g, i, none⟩ u) :=
  ⟨rfl, rfl, rfl, by simp [World.setCell], fun j _ hj => Below.heap_setCell _ _ _ _ fun e => by
    have e : j = g := e
    exact hj (by rw [e]; exact hg)⟩
section
variable {w w' : World} {pb : Nat} {vL : Value} {l : List Mc} {u : Ub}
section
variable {g : Nat} {most room pa pp lost told : Int}
theorem UdB.lt (h : UdB w g most room vL pa pp told lost) : g < w.heap.size := (Array.getElem?_eq_some_iff.1 h).1
theorem UdB.grow (h : UdB w g most room vL pa pp told lost) (gr : Grow w w') : UdB w' g most room vL pa pp told lost := (gr.block g h.lt).trans h
theorem UdB.c0 (h : UdB w g most room vL pa pp told lost) : w.cell? ⟨g, 0, none⟩ = some (.int .i64 most) := (cell_of_row w g 0 _ _ _ h).trans rfl
theorem UdB.c1 (h : UdB w g most room vL pa pp told lost) : w.cell? ⟨g, 1, none⟩ = some (.int .i64 room) := (cell_of_row w g 1 _ _ _ h).trans rfl
theorem UdB.c2 (h : UdB w g most room vL pa pp told lost) : w.cell? ⟨g, 2, none⟩ = some vL := (cell_of_row w g 2 _ _ _ h).trans rfl
theorem UdB.c3 (h : UdB w g most room vL pa pp told lost) : w.cell? ⟨g, 3, none⟩ = some (.int .u32 pa) := (cell_of_row w g 3 _ _ _ h).trans rfl
theorem UdB.c4 (h : UdB w g most room vL pa pp told lost) : w.cell? ⟨g, 4, none⟩ = some (.int .u16 pp) := (cell_of_row w g 4 _ _ _ h).trans rfl
theorem UdB.c5 (h : UdB w g most room vL pa pp told lost) : w.cell? ⟨g, 5, none⟩ = some (.int .i64 told) := (cell_of_row w g 5 _ _ _ h).trans rfl
theorem UdB.c6 (h : UdB w g most room vL pa pp told lost) : w.cell? ⟨g, 6, none⟩ = some (.int .i64 lost) := (cell_of_row w g 6 _ _ _ h).trans rfl
theorem UdB.fz (h : UdB w g most room vL pa pp told lost) (i : Nat) : w.frozen? ⟨g, i, none⟩ = false := frozen_of h
theorem UdB.set2 (h : UdB w g most room vL pa pp told lost) (v : Value) : UdB (w.setCell ⟨g, 2, none⟩ v) g most room v pa pp told lost := heap_setCell_own h _
theorem UdB.set3 (h : UdB w g most room vL pa pp told lost) (n : Int) : UdB (w.setCell ⟨g, 3, none⟩ (.int .u32 n)) g most room vL n pp told lost := heap_setCell_own h _
theorem UdB.set4 (h : UdB w g most room vL pa pp told lost) (n : Int) : UdB (w.setCell ⟨g, 4, none⟩ (.int .u16 n)) g most room vL pa n told lost := heap_setCell_own h _
theorem UdB.set5 (h : UdB w g most room vL pa pp told lost) (n : Int) : UdB (w.setCell ⟨g, 5, none⟩ (.int .i64 n)) g most room vL pa pp n lost := heap_setCell_own h _
theorem UdB.set6 (h : UdB w g most room vL pa pp told lost) (n : Int) : UdB (w.setCell ⟨g, 6, none⟩ (.int .i64 n)) g most room vL pa pp told n := heap_setCell_own h _
theorem UdB.mcw_ne {base : Nat} {v : Value} (h : UdB w g most room vL pa pp told lost) (k : Mcw w base v l) : v.ownBlock ≠ some g := fun e => by
  obtain ⟨cs, q, _⟩ := ownsRow_blk k e
  exact absurd (block_ty h q rfl) (by decide)
theorem UdB.own_ne {base : Nat} {v : Value} {d : List UInt8} (h : UdB w g most room vL pa pp told lost) (k : Own w base v d) : v.ownBlock ≠ some g := fun e => by
  obtain ⟨cs, q, _⟩ := ownsRow_blk k e
  exact absurd (block_ty h q rfl) (by decide)
theorem mcw_own_ne {base base' : Nat} {v v' : Value} {d : List UInt8} {b : Nat} (h : Mcw w base v l) (k : Own w base' v' d) (hb : v.ownBlock = some b) : v'.ownBlock ≠ some b := fun e => by
  obtain ⟨cs, q, _⟩ := ownsRow_blk k e
  obtain ⟨cs', q', _⟩ := ownsRow_blk h hb
  rw [q] at q'
  injection q' with q'
  injection q' with _ q'
  exact absurd q' (by decide)
end
theorem Owns.grow (h : Owns w l) (g : Grow w w') : Owns w' l := fun x hx => ownsRow_other (h x hx) fun b cs _ hh => g.block b (Array.getElem?_eq_some_iff.1 hh).1
theorem Owns.keep (h : Owns w l) (k : ∀ b, (∃ x ∈ l, x.v.ownBlock = some b) → w'.heap[b]? = w.heap[b]?) : Owns w' l := fun x hx => ownsRow_other (h x hx) fun b cs hb hh => k b ⟨x, hx, hb⟩
theorem Owns.reads (h : Owns w l) : Reads w l := fun x hx => Byt.of_own (h x hx)
theorem Owns.lt (h : Owns w l) {x : Mc} (hx : x ∈ l) {b : Nat} (hb : x.v.ownBlock = some b) : b < w.heap.size := by
  obtain ⟨cs, q, _⟩ := ownsRow_blk (h x hx) hb
  exact (Array.getElem?_eq_some_iff.1 q).1
theorem UdS.grow (h : UdS w pb vL l u) (g : Grow w w') : UdS w' pb vL l u := ⟨h.blk.grow g, OwG.grow h.row g, h.eq, h.own.grow g⟩
theorem UdS.keep (h : UdS w pb vL l u) (k : ∀ b, SOf pb vL l b → w'.heap[b]? = w.heap[b]?) : UdS w' pb vL l u :=
  ⟨(k pb (.inl rfl)).trans h.blk, ownsRow_other h.row fun b cs hb _ => k b (.inr (.inl hb)), h.eq, h.own.keep fun b hb => k b (.inr (.inr hb))⟩
theorem UdS.lt (h : UdS w pb vL l u) : ∀ b, SOf pb vL l b → b < w.heap.size := fun b hb => by
  rcases hb with rfl | hb | ⟨x, hx, hb⟩
  · exact h.blk.lt
  · obtain ⟨cs, q, _⟩ := ownsRow_blk h.row hb
    exact (Array.getElem?_eq_some_iff.1 q).1
  · exact h.own.lt hx hb
theorem UdS.len (h : UdS w pb vL l u) : l.length = u.L.length := by rw [← h.eq, List.length_map]
/-- Another block than the row's and the bytes' changed: a cell of the box's own block. -/
theorem UdS.row_set (h : UdS w pb vL l u) (i : Nat) (x : Value) : Mcw (w.setCell ⟨pb, i, none⟩ x) 0 vL l ∧ Owns (w.setCell ⟨pb, i, none⟩ x) l :=
  ⟨ownsRow_other h.row fun b cs hb _ => Below.heap_setCell _ _ _ _ fun e => h.blk.mcw_ne h.row (by
    have e : b = pb := e
    rw [← e]; exact hb),
   h.own.keep fun b hb => Below.heap_setCell _ _ _ _ fun e => by
    have e : b = pb := e
    obtain ⟨y, hy, hb⟩ := hb
    exact h.blk.own_ne (h.own y hy) (by rw [← e]; exact hb)⟩
theorem UdS.told (h : UdS w pb vL l u) (n : Int) : UdS (w.setCell ⟨pb, 5, none⟩ (.int .i64 n)) pb vL l { u with told := n } := ⟨h.blk.set5 n, (h.row_set 5 _).1, h.eq, (h.row_set 5 _).2⟩
theorem UdS.lost (h : UdS w pb vL l u) (n : Int) : UdS (w.setCell ⟨pb, 6, none⟩ (.int .i64 n)) pb vL l { u with lost := n } := ⟨h.blk.set6 n, (h.row_set 6 _).1, h.eq, (h.row_set 6 _).2⟩
/-- Nothing but one cell of the box's own block changed, behind what only grew. -/
theorem UdP.same {u' : Ub} (h : UdS w pb vL l u') (g : Grow w' w) : UdP w' w pb vL l u' := ⟨vL, l, h, ChgS.of_grow g, fun b hb => .inl hb⟩
theorem UdP.cell {w2 : World} {i : Nat} {x : Value} {u' : Ub} (g : Grow w w') (h : UdS (w'.setCell ⟨pb, i, none⟩ x) pb vL l u') (k : Grow (w'.setCell ⟨pb, i, none⟩ x) w2) : UdP w w2 pb vL l u' :=
  ⟨vL, l, h.grow k, ((ChgS.of_grow g).tr (ChgS.set (.inl rfl) _)).tr (ChgS.of_grow k), fun b hb => .inl hb⟩
end
theorem end_neP (pa pp : Int) (w : World) : (Go.binOp .neq 34 (.agg #[.int .u32 pa, .int .u16 pp]) (.agg #[.int .u32 0, .int .u16 0])).run Try.prog w = .ok (.bool (decide ((⟨pa, pp⟩ : Ed) ≠ noE))) w := by
  by_cases q1 : pa = 0
  · by_cases q2 : pp = 0
    · subst q1 q2
      have hne : ¬ (⟨0, 0⟩ : Ed) ≠ noE := fun k => k rfl
      rw [decide_eq_false hne]
      simp [go_sem]
    · subst q1
      have e2 : (pp == 0) = false := beq_eq_false_iff_ne.2 q2
      have hne : (⟨0, pp⟩ : Ed) ≠ noE := fun k => q2 (congrArg Ed.po k)
      rw [decide_eq_true hne]
      simp [go_sem, e2]
  · have e1 : (pa == 0) = false := beq_eq_false_iff_ne.2 q1
    have hne : (⟨pa, pp⟩ : Ed) ≠ noE := fun k => q1 (congrArg Ed.ad k)
    rw [decide_eq_true hne]
    simp [go_sem, e1]
theorem end_eqP (pa pp qa qp : Int) (w : World) : (Go.binOp .eql 34 (.agg #[.int .u32 pa, .int .u16 pp]) (.agg #[.int .u32 qa, .int .u16 qp])).run Try.prog w = .ok (.bool (decide ((⟨qa, qp⟩ : Ed) = ⟨pa, pp⟩))) w := by
  by_cases q1 : pa = qa
  · by_cases q2 : pp = qp
    · subst q1 q2
      rw [decide_eq_true rfl]
      simp [go_sem]
    · subst q1
      have e2 : (pp == qp) = false := beq_eq_false_iff_ne.2 q2
      rw [decide_eq_false fun k => q2 (congrArg Ed.po k).symm]
      simp [go_sem, e2]
  · have e1 : (pa == qa) = false := beq_eq_false_iff_ne.2 q1
    rw [decide_eq_false fun k => q1 (congrArg Ed.ad k).symm]
    simp [go_sem, e1]
end Go.Proofs.Ytkblgigpgpjjlaa
