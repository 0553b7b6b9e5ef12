/- What the reference's Split keeps from round to round. -/
import Derived.Test.YtkofmbnolaiecaaFrREarly
namespace Go.Proofs.Ytkofmbnolaiecaa
set_option linter.unusedVariables false
set_option linter.unusedSimpArgs false
open Go.ChangeShapes Go.WideShapes Go.ChangeAt Go.RowKit

/-- append(s, x) of one packet that was just laid into its literal. -/
theorem wpList_app1 (w₆ : World) {ops : Array Oper} {rest : List Oper} {o : Oper} {a : Act} {Q : Exit → Act → World → Prop} (hgd : o.guard = none) (s x : Operand)
    (ho : o.op = .call { callee := .builtin .append, args := #[s, x], argTypes := #[30, 30] })
    (base : Nat) (v : Value) (acc : List Pk) (cs : Array Value) (q : Pk) (hs : a.eval s = v) (hx : a.eval x = .slice (some ⟨w₆.heap.size, 0, none⟩) 1 1) (hc : cs.toList = pc q) (h1 : q.One)
    (hown : Iprow w₆ base v acc) (hlen : acc.length ≤ 70000) (hbase : base ≤ w₆.heap.size)
    (h : ∀ v' w', Iprow w' base v' (acc ++ [q]) → (w₆.alloc (.cells cs 27)).grownBy w' v.ownBlock → wpList Try.prog ops Q rest (a.put o.dst v') w') : wpList Try.prog ops Q (o :: rest) a (w₆.alloc (.cells cs 27)) := by
  refine wpList_app11 _ hgd s x ho base v _ acc [q] hs hx (hown.grow (Grow.alloc _ _)) (Iprow.lit w₆ q cs hc _ rfl).ips (fun y hy => ?_) (by simp; omega) (by simp; omega) ?_
  · rw [List.mem_singleton.1 hy]; exact h1
  · intro v' w' h2 h3 _
    exact h v' w' h2 h3

/-- What is left at p. -/
def rk (c : List UInt8) (k : Pkt) (p : Nat) : Pkt := { k with opts := if p = 0 then k.opts else c, data := k.data.drop p, off := k.off + ((p / 8 : Nat) : Int) }
theorem rk_zero (c : List UInt8) (k : Pkt) : rk c k 0 = k := by
  unfold rk
  simp
theorem rk_pos (c : List UInt8) (k : Pkt) {p : Nat} (hp : 0 < p) : rk c k p = { k with opts := c, data := k.data.drop p, off := k.off + ((p / 8 : Nat) : Int) } := by
  unfold rk
  rw [if_neg (by omega)]
theorem rk_next (c : List UInt8) (k : Pkt) (m p R : Nat) (hR : R = froom m (rk c k p)) (h8 : p % 8 = 0) (hR8 : R % 8 = 0) (hR0 : 0 < R) : frest c m (rk c k p) = rk c k (p + R) := by
  rw [rk_pos c k (show 0 < p + R by omega)]
  unfold frest
  rw [← hR]
  unfold rk
  simp only [List.drop_drop]
  congr 1
  omega

/-- Where the loop stands. -/
structure Rsp (W : World) (c : List UInt8) (m : Nat) (goal : Option (List Pkt)) (k : Pkt) (s : Value) (acc : List Pk) (p f : Nat) (wr : World) : Prop where
  row : Iprow wr W.heap.size s acc
  good : ∀ q ∈ acc, q.Good W
  grow : Grow W wr
  goes : (p < k.data.length ∧ p % 8 = 0 ∧ acc.length * 8 ≤ p ∧ k.data.length - p < f ∧ goal = (fpieces c m f (rk c k p)).map (acc.map Pk.k ++ ·)) ∨ (p = k.data.length ∧ goal = some (acc.map Pk.k))

theorem Blk.c9 {w : World} {g : Nat} {k : Pkt} {vo vd : Value} (h : Blk w g k vo vd) : w.cell? ⟨g, 9, none⟩ = some vo := by
  obtain ⟨_, _, _, _, _, _, _, _, _, b9, _⟩ := h.boxd
  exact b9
/-- A row's end behind an append. -/
theorem Rsp.grown {W wr wX w9 : World} {s : Value} {acc : List Pk} {o : Obj} (row : Iprow wr W.heap.size s acc) (grow : Grow W wr) (gX : Grow wr wX) (hg9 : (wX.alloc o).grownBy w9 s.ownBlock) : Grow W w9 :=
  Grow.iprow (grow.trans (gX.trans (Grow.alloc _ _))) hg9 (row.grow (gX.trans (Grow.alloc _ _)))
theorem Rsp.more {W : World} {acc : List Pk} {q : Pk} (h : ∀ q ∈ acc, q.Good W) (hq : q.Good W) : ∀ x ∈ acc ++ [q], x.Good W := fun x hx => by
  rcases List.mem_append.1 hx with hx | hx
  · exact h x hx
  · rw [List.mem_singleton.1 hx]; exact hq
end Go.Proofs.Ytkofmbnolaiecaa
