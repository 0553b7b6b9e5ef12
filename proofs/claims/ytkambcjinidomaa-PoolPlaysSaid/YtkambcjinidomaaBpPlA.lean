/- What PoolPlays keeps from round to round; loads of a pool by value where a guard stands. -/
import Derived.Test.YtkambcjinidomaaBpOnceW
namespace Go.Proofs.Ytkambcjinidomaa
set_option linter.unusedVariables false
set_option linter.unusedSimpArgs false
open Go.ChangeShapes Go.WideShapes Go.ChangeAt Go.RowKit

theorem zp_pool (b : Nat) : ¬ Zp b 30 := fun h => h.2.1 rfl
theorem zp_buf (b : Nat) : ¬ Zp b 54 := fun h => h.1 rfl
/-- Within a round: the program at p', the reference at p; the law's copy of the call. -/
structure PlB (Pp : BpT) (w wr : World) (pb rb ab : Nat) (p p' : Pls) (cs : Array Value) (d g a m s : Int) : Prop where
  q : Pp wr w.heap.size pb p'
  blk : PlBlk wr rb cs
  c : PlC wr w.heap.size cs p
  low : w.heap.size ≤ rb
  act : AcB wr ab d g a m s
  g : Grow w wr
/-- Between rounds. -/
structure PlR (Pp : BpT) (w wr : World) (pb rb : Nat) (p : Pls) (cs : Array Value) : Prop where
  q : Pp wr w.heap.size pb p
  blk : PlBlk wr rb cs
  c : PlC wr w.heap.size cs p
  low : w.heap.size ≤ rb
  g : Grow w wr
section
variable {Pp : BpT} {w wr w2 w3 w4 : World} {pb rb ab : Nat} {p p' : Pls} {cs cs' : Array Value} {d g a m s : Int}
theorem PlR.begin (I : BIf Pp) (h : PlR Pp w wr pb rb p cs) (g1 : Grow wr w2) (ha : AcB w2 ab d g a m s) : PlB Pp w w2 pb rb ab p p cs d g a m s :=
  ⟨I.grow h.q g1, h.blk.grow g1, h.c.grow g1, h.low, ha, h.g.trans g1⟩
theorem PlB.grow (I : BIf Pp) (h : PlB Pp w wr pb rb ab p p' cs d g a m s) (g1 : Grow wr w2) : PlB Pp w w2 pb rb ab p p' cs d g a m s :=
  ⟨I.grow h.q g1, h.blk.grow g1, h.c.grow g1, h.low, h.act.grow g1, h.g.trans g1⟩
theorem PlB.fin (h : PlB Pp w wr pb rb ab p p cs d g a m s) : PlR Pp w wr pb rb p cs := ⟨h.q, h.blk, h.c, h.low, h.g⟩
theorem PlB.prog (h : PlB Pp w wr pb rb ab p p cs d g a m s) (q : Pp w2 w.heap.size pb p') (o : Only w.heap.size Zp wr w2) : PlB Pp w w2 pb rb ab p p' cs d g a m s :=
  ⟨q, o.cells h.blk (zp_pool _), h.c.only o zp_buf, h.low, h.act.only o, Below.trans h.g o.low⟩
theorem PlB.ref (I : BIf Pp) (h : PlB Pp w w2 pb rb ab p p' cs d g a m s) (g3 : Grow w2 w3) (hc : PlC w3 w.heap.size cs' p') (hb : PlBlk w4 rb cs') (hk : But rb w3 w4) (g4 : Grow w w4) : PlB Pp w w4 pb rb ab p' p' cs' d g a m s := by
  have hb3 := h.blk.grow g3
  refine ⟨I.keep (I.grow h.q g3) fun b o T ho hT hz => (hk.2 b fun e => ?_).trans ho, hb, hc.st fun u l hu => hu.but_ hb3 hk, h.low, (hk.2 ab fun e => ?_).trans (h.act.grow g3), g4⟩
  · subst e
    rw [hb3] at ho
    cases ho
    cases hT
    exact zp_pool _ hz
  · subst e
    have := (h.act.grow g3).symm.trans hb3
    injection this with this
    injection this with _ e2
    exact absurd e2 (by decide)
end
theorem upon_load_plg (w : World) {ops : Array Oper} {o : Oper} {a : Act} {post : Value → World → Prop} (x : Operand) (ho : o.op = .load 30 x) (hw : Region.wanted o (yielded ops a.tmps) = true)
    (g : Nat) (cs : Array Value) (hx : a.eval x = .pointer (some ⟨g, 0, none⟩)) (hb : PlBlk w g cs) (hcs : cs.size = 32) (h : post (.agg cs) w) :
    if Region.wanted o (yielded ops a.tmps) = true then looseUpon Try.prog post ((execOp a.eval o).run Try.prog w) else post undef w := by
  rw [if_pos hw]
  unfold execOp
  simp only [ho, hx, Instr.loadAt, Instr.sureAddr, Sem.run_bind, Sem.run_pure, Result.andThen_ok, run_load_cs w g 0 _ cs _ hb.at_ Try.underlying30 rfl (by rw [hcs]; exact sizePl), looseUpon]
  exact h
/-- A row of no buffers' numbers; a row of numbers read. -/
theorem Nrw.form {w : World} {base : Nat} {v : Value} {l : List Int} (h : Nrw w base v l) : ∃ A c, v = .slice A l.length c := by
  obtain ⟨A, c, e, _⟩ := (RdK.of_own h).form
  exact ⟨A, c, e⟩
theorem Nrw.cell {w : World} {base : Nat} {v : Value} {l : List Int} (h : Nrw w base v l) (hp : 0 < l.length) : ∃ b off c, v = .slice (some ⟨b, off, none⟩) l.length c ∧ b < w.heap.size ∧ ∀ k x, l[k]? = some x → w.cell? ⟨b, off + k, none⟩ = some (.int .i64 x) := by
  obtain ⟨A, c, rfl, h0, h1, h2, h3⟩ := RdK.of_own h
  obtain ⟨b, off, rfl, hb, hc⟩ := h3 hp
  exact ⟨b, off, c, rfl, hb, fun k x hx => hc k _ (by rw [List.getElem?_map, hx]; rfl)⟩
def NoRow (n : Nat) (v : Value) (_ : World) : Prop := ∃ A c, v = .slice A n c
theorem norow_stays (n : Nat) : stays (NoRow n) := fun _ _ _ _ h => h
end Go.Proofs.Ytkambcjinidomaa
