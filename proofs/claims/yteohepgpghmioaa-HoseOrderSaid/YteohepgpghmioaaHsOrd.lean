/- HoseOrder: what is known between the rounds; Write, Read and append in it. -/
import Derived.Test.YteohepgpghmioaaHsLive
namespace Go.Proofs.Yteohepgpghmioaa
set_option linter.unusedVariables false
set_option linter.unusedSimpArgs false
open Go.ChangeShapes Go.WideShapes Go.ChangeAt Go.RowKit

theorem infoB : (Try.prog.info? 5).map (fun i => (i.zero, i.size, i.bytes)) = some (some (.int .u8 0), 1, 1) := by kernel_rfl
/-- append onto a row of bytes of the call's own. -/
theorem wpList_appO (w : World) {ops : Array Oper} {rest : List Oper} {o : Oper} {a : Act} {Q : Exit → Act → World → Prop} (hgd : o.guard = none) (s x : Operand)
    (ho : o.op = .call { callee := .builtin .append, args := #[s, x], argTypes := #[30, 30] }) (base : Nat) (v u : Value) (xs ys : List UInt8) (hs : a.eval s = v) (hx : a.eval x = u) (hown : Own w base v xs) (hr : Byt w u ys)
    (hlen : xs.length + ys.length ≤ 100000000) (hb : base ≤ w.heap.size)
    (h : ∀ v' w', Own w' base v' (xs ++ ys) → w.grownBy w' v.ownBlock → (v'.ownBlock = v.ownBlock ∨ v'.ownBlock = some w.heap.size) → wpList Try.prog ops Q rest (a.put o.dst v') w') : wpList Try.prog ops Q (o :: rest) a w :=
  wpList_append_rd w hgd s x 30 ho base 5 (.int .u8 0) 1 Try.underlying30 infoB rfl v xs.length ys.length (xs.map bv) hs hown u (ys.map bv) hx hr (List.length_map _) (bv_one _) (by omega) (by unfold maxLen; omega) hb
    fun v' w' h1 h2 h3 => h v' w' (by unfold Own; rw [List.length_append, List.map_append]; exact h1) h2 h3
/-- The block of what came in. -/
theorem Byt.old {w : World} {v : Value} {l : List UInt8} (h : Byt w v l) (hl : 0 < l.length) {b : Nat} (hb : v.ownBlock = some b) : b < w.heap.size := by
  obtain ⟨A, c, rfl, _⟩ := h.form
  obtain ⟨b', off, rfl, hlt, _⟩ := h.at_ hl
  have e : b' = b := by injection hb
  omega
/-- Between the rounds: j of l went in, got came out, x is on its way, r is there. -/
structure Ord (w wr : World) (ab g m : Nat) (l got x : List UInt8) (j : Nat) (r : List UInt8) (vg : Value) : Prop where
  hs : ∃ o, Hs wr w.heap.size ab g m j o r
  cat : got ++ (x ++ r) = l.take j
  row : Own wr w.heap.size vg got
  ap : vg.ownBlock ≠ some ab ∧ vg.ownBlock ≠ some g
  le : j ≤ l.length
  g : Grow w wr
section
variable {w wr w' : World} {ab g m j : Nat} {l got x r : List UInt8} {vg : Value}
theorem Ord.grow (h : Ord w wr ab g m l got x j r vg) (k : Grow wr w') : Ord w w' ab g m l got x j r vg := by
  obtain ⟨o, h1⟩ := h.hs
  exact ⟨⟨o, h1.grow k⟩, h.cat, h.row.grow k, h.ap, h.le, Grow.trans h.g k⟩
theorem ord_write (h : Ord w wr ab g m l got [] j r vg) {B : Option Addr} {mr d : Nat} (hr : Byt w (.slice B mr d) (l.drop j)) (n : Nat) (hn : n ≤ mr) (hN : l.length ≤ 3000) :
    ∃ k, k ≤ n ∧ Calls Try.prog 11 #[.pointer (some ⟨ab, 0, none⟩), .slice B n d] wr fun e w2 => e = .returned (.int .i64 (k : Int)) ∧ ∃ r2, Ord w w2 ab g m l got [] (j + k) r2 vg := by
  obtain ⟨o, h1⟩ := h.hs
  have hmr := hr.len.1
  rw [List.length_drop] at hmr
  have hle := h.le
  have hf := (hr.front hn).grow h.g
  have hlen : ((l.drop j).take n).length = n := by rw [List.length_take, List.length_drop]; omega
  refine ⟨min n (m - r.length), by omega, ?_⟩
  have c := hWrite_any h1 _ _ hf (fun hp e => by
    have := (hr.front hn).old hp e
    have := h1.low.2
    omega) (by omega)
  rw [hlen] at c
  refine c.mono ?_
  rintro e w2 ⟨rfl, h2, k2⟩
  have hcap := h1.cap
  refine ⟨rfl, _, ⟨o, h2⟩, ?_, k2.own h.row h.ap.1 h.ap.2, h.ap, by omega, Below.trans h.g (k2.low h1.low.1 h1.low.2 h.g.size)⟩
  have e1 : ((l.drop j).take n).take (min n (m - r.length)) = (l.drop j).take (min n (m - r.length)) := by rw [List.take_take, Nat.min_eq_left (Nat.min_le_left _ _)]
  have := h.cat
  rw [List.nil_append] at this ⊢
  rw [e1, ← List.append_assoc, this, List.take_add]
theorem ord_read (h : Ord w wr ab g m l got [] j r vg) (q : Int) : Calls Try.prog 12 #[.pointer (some ⟨ab, 0, none⟩), .int .i64 q] wr fun e w3 => ∃ v, e = .returned v ∧ Own w3 wr.heap.size v (r.take (fst q r.length)) ∧ Ord w w3 ab g m l got (r.take (fst q r.length)) j (r.drop (fst q r.length)) vg := by
  obtain ⟨o, h1⟩ := h.hs
  refine (hRead_any h1 q).mono ?_
  rintro e w3 ⟨v, rfl, hv, h2, k2⟩
  refine ⟨v, rfl, hv, ⟨_, h2⟩, ?_, k2.own h.row h.ap.1 h.ap.2, h.ap, h.le, Below.trans h.g (k2.low h1.low.1 h1.low.2 h.g.size)⟩
  rw [List.take_append_drop]
  exact h.cat
theorem Ord.app (h : Ord w wr ab g m l got x j r vg) {v' : Value} (ho : Own w' w.heap.size v' (got ++ x)) (gb : wr.grownBy w' vg.ownBlock) (hv : v'.ownBlock = vg.ownBlock ∨ v'.ownBlock = some wr.heap.size) : Ord w w' ab g m l (got ++ x) [] j r v' := by
  obtain ⟨o, h1⟩ := h.hs
  have hlt := h1.lt
  refine ⟨⟨o, h1.grown gb h.ap.1 h.ap.2⟩, ?_, ho, ?_, h.le, Below.trans h.g ⟨gb.os, gb.tape, gb.output, gb.size, fun i hi => gb.block i (Nat.lt_of_lt_of_le hi h.g.size) fun e => ?_⟩⟩
  · rw [List.append_assoc, List.nil_append]
    exact h.cat
  · rcases hv with e | e
    · rw [e]
      exact h.ap
    · rw [e]
      exact ⟨fun e => by injection e; omega, fun e => by injection e; omega⟩
  · have := (h.row.lt e.symm).2
    omega
theorem Ord.len (h : Ord w wr ab g m l got x j r vg) : got.length + (x.length + r.length) ≤ l.length := by
  have := congrArg List.length h.cat
  rw [List.length_append, List.length_append, List.length_take] at this
  have := h.le
  omega
end
end Go.Proofs.Yteohepgpghmioaa
