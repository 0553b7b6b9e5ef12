/- What a step of the law keeps: the program's table, the reference's in its box, the call in its box. -/
import Derived.Test.YtkilfdhofbjkgaaPoNilsW
import Derived.Test.YtkilfdhofbjkgaaWeave
namespace Go.Proofs.Ytkilfdhofbjkgaa
set_option linter.unusedVariables false
set_option linter.unusedSimpArgs false
open Go.ChangeShapes Go.WideShapes Go.ChangeAt Go.RowKit

/-- What a call makes of a table. -/
def stT (t : Prt) (x : Pa) : Prt :=
  if x.d = 0 then bdT t x.q.l x.o else if x.d = 1 then ubT t x.q.l x.o else if x.d = 2 then pkT t x.q.l.ad else if x.d = 3 then joT t x.q x.o else if x.d = 4 then paT t x.q else t
/-- Within a step that began in world w: all but the box of the result. -/
structure StI (Pp : PoT) (w0 w W : World) (pb : Nat) (tp tr : Prt) (vB vJ : Value) (d o a p b q : Int) : Prop where
  pr : Pp W w0.heap.size pb tp
  tb : TbB W w.heap.size tr.lo tr.hi tr.la vB vJ
  hB : Bds W w0.heap.size vB tr.B
  hJ : Jds W w0.heap.size vJ tr.J
  ac : PaB W (w.heap.size + 1) d o a p b q
  on : Only w0.heap.size Zo w W
  g : Grow w0 W
  s : w.heap.size + 3 ≤ W.heap.size
structure StB (Pp : PoT) (w0 w W : World) (pb : Nat) (tp tr : Prt) (vB vJ : Value) (d o a p b q : Int) : Prop where
  i : StI Pp w0 w W pb tp tr vB vJ d o a p b q
  r : TbB W (w.heap.size + 2) 0 0 0 (.slice none 0 0) (.slice none 0 0)
/-- Behind a step. -/
structure StE (Pp : PoT) (w0 w W : World) (pb : Nat) (t : Prt) (vB vJ : Value) : Prop where
  pr : Pp W w0.heap.size pb t
  hB : Bds W w0.heap.size vB t.B
  hJ : Jds W w0.heap.size vJ t.J
  r : TbB W (w.heap.size + 2) t.lo t.hi t.la vB vJ
  on : Only w0.heap.size Zo w W
theorem zo_tb (b : Nat) : ¬ Zo b 32 := fun h => h.2.2.1 rfl
theorem zo_bd (b : Nat) : ¬ Zo b 74 := fun h => h.1 rfl
theorem zo_jd (b : Nat) : ¬ Zo b 76 := fun h => h.2.1 rfl
section
variable {Pp : PoT} {w0 w W W' : World} {pb : Nat} {tp tp' tr tr' : Prt} {vB vJ vB' vJ' : Value} {d o a p b q : Int} {g : Nat}
theorem TbB.other {lo hi la : Int} {vB vJ : Value} {k : Nat} (h : TbB W k lo hi la vB vJ) (hk : But g W W') (hne : k ≠ g) : TbB W' k lo hi la vB vJ := (hk.2 k hne).trans h
/-- A store into a box of the step's own (a table's) leaves the rest. -/
theorem Only.side {Z : Nat → TypeId → Prop} (h : Only w0.heap.size Z w W) (g0 : Grow w0 W) (g1 : Grow w0 W') (hb : But g W W') (hs : w.heap.size ≤ g) (hw : Grow w0 w) : Only w0.heap.size Z w W' := by
  refine ⟨⟨(g1.os.trans g0.os.symm).trans h.low.os, (g1.tape.trans g0.tape.symm).trans h.low.tape, (g1.output.trans g0.output.symm).trans h.low.output, by rw [hb.1]; exact h.size, fun i hi => ?_⟩, fun i o T ho hT hz => ?_⟩
  · have : i < w.heap.size := Nat.lt_of_lt_of_le hi hw.size
    exact (hb.2 i (by omega)).trans (h.low.block i hi)
  · have : i < w.heap.size := (Array.getElem?_eq_some_iff.1 ho).1
    exact (hb.2 i (by omega)).trans (h.keep i o T ho hT hz)
theorem StI.grow (I : OIf Pp) (h : StI Pp w0 w W pb tp tr vB vJ d o a p b q) (k : Grow W W') : StI Pp w0 w W' pb tp tr vB vJ d o a p b q :=
  ⟨I.grow h.pr k, h.tb.grow k, h.hB.grow k, h.hJ.grow k, h.ac.grow k, h.on.trans (Only.grow k h.g.size Zo), h.g.trans k, Nat.le_trans h.s k.size⟩
theorem StB.grow (I : OIf Pp) (h : StB Pp w0 w W pb tp tr vB vJ d o a p b q) (k : Grow W W') : StB Pp w0 w W' pb tp tr vB vJ d o a p b q := ⟨h.i.grow I k, h.r.grow k⟩
/-- A call of the program's. -/
theorem StB.prog (h : StB Pp w0 w W pb tp tr vB vJ d o a p b q) (hq : Pp W' w0.heap.size pb tp') (k : Only w0.heap.size Zo W W') : StB Pp w0 w W' pb tp' tr vB vJ d o a p b q :=
  ⟨⟨hq, k.cells h.i.tb (zo_tb _), h.i.hB.only k zo_bd, h.i.hJ.only k zo_jd, h.i.ac.only k, h.i.on.trans k, Below.trans h.i.g k.low, Nat.le_trans h.i.s k.size⟩, k.cells h.r (zo_tb _)⟩
/-- A store into some other table's box. -/
theorem StI.side (I : OIf Pp) (hw : Grow w0 w) (h : StI Pp w0 w W pb tp tr vB vJ d o a p b q) {lo hi la : Int} {uB uJ : Value} (hb : TbB W g lo hi la uB uJ) (hk : But g W W') (g4 : Grow w0 W') (hs : w.heap.size + 2 ≤ g) : StI Pp w0 w W' pb tp tr vB vJ d o a p b q := by
  refine ⟨I.keep h.pr fun i o T _ ho hT hz => (hk.2 i fun e => ?_).trans ho, h.tb.other hk (by omega), h.hB.but_ hb hk, h.hJ.but_ hb hk, (hk.2 _ (by omega)).trans h.ac, h.on.side h.g g4 hk (by omega) hw, g4, by rw [hk.1]; exact h.s⟩
  subst e
  rw [hb] at ho
  cases ho
  cases hT
  exact zo_tb _ hz
theorem StB.side (I : OIf Pp) (hw : Grow w0 w) (h : StB Pp w0 w W pb tp tr vB vJ d o a p b q) {lo hi la : Int} {uB uJ : Value} (hb : TbB W g lo hi la uB uJ) (hk : But g W W') (g4 : Grow w0 W') (hs : w.heap.size + 3 ≤ g) : StB Pp w0 w W' pb tp tr vB vJ d o a p b q :=
  ⟨h.i.side I hw hb hk g4 (by omega), h.r.other hk (by omega)⟩
/-- The reference's answer comes into its box. -/
theorem StB.put (I : OIf Pp) (hw : Grow w0 w) (h : StB Pp w0 w W pb tp tr vB vJ d o a p b q) (hB : Bds W w0.heap.size vB' tr'.B) (hJ : Jds W w0.heap.size vJ' tr'.J) (hb : TbB W' w.heap.size tr'.lo tr'.hi tr'.la vB' vJ') (hk : But w.heap.size W W') (g4 : Grow w0 W') : StB Pp w0 w W' pb tp tr' vB' vJ' d o a p b q := by
  refine ⟨⟨I.keep h.i.pr fun i o T _ ho hT hz => (hk.2 i fun e => ?_).trans ho, hb, hB.but_ h.i.tb hk, hJ.but_ h.i.tb hk, (hk.2 _ (by omega)).trans h.i.ac, h.i.on.side h.i.g g4 hk (Nat.le_refl _) hw, g4, by rw [hk.1]; exact h.i.s⟩, h.r.other hk (by omega)⟩
  subst e
  rw [h.i.tb] at ho
  cases ho
  cases hT
  exact zo_tb _ hz
end
theorem stB (Pp : PoT) (I : OIf Pp) (w0 w : World) (hw : Grow w0 w) (pb : Nat) (t : Prt) (h : Pp w w0.heap.size pb t) (vB vJ : Value) (hB : Bds w w0.heap.size vB t.B) (hJ : Jds w w0.heap.size vJ t.J) (d o a p b q : Int) {W : World}
    (hW : W = ((w.alloc (.cells (tbA t.lo t.hi t.la vB vJ) 32)).alloc (.cells #[.int .i64 d, .int .i64 o, .int .u32 a, .int .u16 p, .int .u32 b, .int .u16 q] 44)).alloc (.cells (tbA 0 0 0 (.slice none 0 0) (.slice none 0 0)) 32)) :
    StB Pp w0 w W pb t t vB vJ d o a p b q := by
  obtain ⟨U, hU⟩ : ∃ U, U = w.alloc (.cells (tbA t.lo t.hi t.la vB vJ) 32) := ⟨_, rfl⟩
  obtain ⟨V, hV⟩ : ∃ V, V = U.alloc (.cells #[.int .i64 d, .int .i64 o, .int .u32 a, .int .u16 p, .int .u32 b, .int .u16 q] 44) := ⟨_, rfl⟩
  rw [← hU, ← hV] at hW
  have s1 : U.heap.size = w.heap.size + 1 := by rw [hU]; exact Array.size_push _
  have s2 : V.heap.size = w.heap.size + 2 := by rw [hV]; show (U.heap.push _).size = _; rw [Array.size_push, s1]
  have s3 : W.heap.size = w.heap.size + 3 := by rw [hW]; show (V.heap.push _).size = _; rw [Array.size_push, s2]
  have gU : Grow w U := by rw [hU]; exact Grow.alloc _ _
  have gV : Grow U V := by rw [hV]; exact Grow.alloc _ _
  have gW : Grow V W := by rw [hW]; exact Grow.alloc _ _
  have h1 : TbB U w.heap.size t.lo t.hi t.la vB vJ := by rw [hU]; exact heap_alloc_new w _
  have h2 : PaB V (w.heap.size + 1) d o a p b q := by rw [hV, ← s1]; exact heap_alloc_new U _
  have h3 : TbB W (w.heap.size + 2) 0 0 0 (.slice none 0 0) (.slice none 0 0) := by rw [hW, ← s2]; exact heap_alloc_new V _
  have gg := gU.trans (gV.trans gW)
  exact ⟨⟨I.grow h gg, h1.grow (gV.trans gW), hB.grow gg, hJ.grow gg, h2.grow gW, Only.grow gg hw.size Zo, hw.trans gg, by omega⟩, h3⟩
/-- What a step leaves. -/
def StPost (Pp : PoT) (w0 w : World) (pb : Nat) (t' : Prt) (e' : Ending) (w' : World) : Prop := ∃ v', e' = .returned (.tuple #[v', .bool true]) ∧ Pp w' w0.heap.size pb t' ∧ RTb w' w0.heap.size v' t' ∧ Only w0.heap.size Zo w w'
theorem upon_load_t (w : World) {ops : Array Oper} {o : Oper} {a : Act} {post : Value → World → Prop} (x : Operand) (hgd : o.guard = none) (ho : o.op = .load 32 x)
    (g : Nat) (lo hi la : Int) (vB vJ : Value) (hx : a.eval x = .pointer (some ⟨g, 0, none⟩)) (hb : TbB w g lo hi la vB vJ) (h : post (.agg (tbA lo hi la vB vJ)) w) :
    if Region.wanted o (yielded ops a.tmps) = true then looseUpon Try.prog post ((execOp a.eval o).run Try.prog w) else post undef w := by
  have hw : Region.wanted o (yielded ops a.tmps) = true := by simp [Region.wanted, hgd]
  rw [if_pos hw]
  unfold execOp
  simp only [ho, hx, Instr.loadAt, Instr.sureAddr, Sem.run_bind, Sem.run_pure, Result.andThen_ok, run_load_cs w g 0 _ (tbA lo hi la vB vJ) _ hb.at_ Try.underlying32 rfl sizeTb, looseUpon]
  exact h
end Go.Proofs.Ytkilfdhofbjkgaa
