/- A round of PortPlays and PortPicks: the step with its new box (a box that is made anywhere in the region and written late). -/
import Derived.Test.YtkilfdhofbjkgaaPoStep
import Derived.Test.YtkilfdhofbjkgaaState
namespace Go.Proofs.Ytkilfdhofbjkgaa
set_option linter.unusedVariables false
set_option linter.unusedSimpArgs false
open Go.ChangeShapes Go.WideShapes Go.ChangeAt Go.RowKit

/-- Between rounds: the program's table, the reference's in the law's box. -/
structure OR (Pp : PoT) (w0 W : World) (pb gb : Nat) (t : Prt) (vB vJ : Value) : Prop where
  pr : Pp W w0.heap.size pb t
  tb : TbB W gb t.lo t.hi t.la vB vJ
  hB : Bds W w0.heap.size vB t.B
  hJ : Jds W w0.heap.size vJ t.J
  low : w0.heap.size ≤ gb
  g : Grow w0 W
/-- What the step left. -/
structure ORes (Pp : PoT) (w0 W : World) (pb : Nat) (t : Prt) (x : Value) : Prop where
  pr : Pp W w0.heap.size pb t
  tup : ∃ vB vJ, x = .tuple #[.agg (tbA t.lo t.hi t.la vB vJ), .bool true] ∧ Bds W w0.heap.size vB t.B ∧ Jds W w0.heap.size vJ t.J
/-- The state: call, move, the two picks, the box, its store, the assignment. -/
structure JS (Pp : PoT) (w0 w5 q : World) (pb gb : Nat) (t t' : Prt) (vB vJ : Value) (LC LM LE LF LB LS LT : Bool) (xC xM xE xF xB xT : Value) : Prop where
  g : Grow w0 q
  tb : TbB q gb t.lo t.hi t.la vB vJ
  z : w5.heap.size ≤ q.heap.size
  p : LC = false → OR Pp w0 q pb gb t vB vJ
  c : LC = true → ORes Pp w0 q pb t' xC
  m : LM = true → LC = true ∧ xM = xC
  e : LE = true → LM = true ∧ ∃ r u, xC = .tuple #[r, u] ∧ xE = r
  f : LF = true → LM = true ∧ xF = .bool true
  b : LB = true → ∃ k lo hi la a b, xB = .pointer (some ⟨k, 0, none⟩) ∧ w5.heap.size ≤ k ∧ TbB q k lo hi la a b ∧ (LS = true → xE = .agg (tbA lo hi la a b))
  s : LS = true → LB = true ∧ LE = true
  t : LT = true → LF = true ∧ xT = xF
section
variable {Pp : PoT} {w0 w5 q q' W W' : World} {pb gb : Nat} {t t' : Prt} {vB vJ : Value} {LC LM LE LF LB LS LT : Bool} {xC xM xE xF xB xT : Value}
theorem OR.grow (I : OIf Pp) (h : OR Pp w0 W pb gb t vB vJ) (k : Grow W W') : OR Pp w0 W' pb gb t vB vJ := ⟨I.grow h.pr k, h.tb.grow k, h.hB.grow k, h.hJ.grow k, h.low, h.g.trans k⟩
theorem ORes.grow (I : OIf Pp) {x : Value} (h : ORes Pp w0 W pb t x) (k : Grow W W') : ORes Pp w0 W' pb t x := by
  obtain ⟨vB, vJ, e, h1, h2⟩ := h.tup
  exact ⟨I.grow h.pr k, vB, vJ, e, h1.grow k, h2.grow k⟩
theorem keep_tb (I : OIf Pp) {g : Nat} {lo hi la : Int} {uB uJ : Value} (h : Pp W w0.heap.size pb t) (hb : TbB W g lo hi la uB uJ) (hk : But g W W') : Pp W' w0.heap.size pb t :=
  I.keep h fun i o T _ ho hT hz => (hk.2 i fun e => by
    subst e
    rw [hb] at ho
    cases ho
    cases hT
    exact zo_tb _ hz).trans ho
theorem ORes.box (I : OIf Pp) {x : Value} {g : Nat} {lo hi la : Int} {uB uJ : Value} (h : ORes Pp w0 W pb t x) (hb : TbB W g lo hi la uB uJ) (hk : But g W W') : ORes Pp w0 W' pb t x := by
  obtain ⟨vB, vJ, e, h1, h2⟩ := h.tup
  exact ⟨keep_tb I h.pr hb hk, vB, vJ, e, h1.but_ hb hk, h2.but_ hb hk⟩
theorem tbA_ones {lo hi la : Int} {a b : Value} (h1 : a.oneCell' = true) (h2 : b.oneCell' = true) : ∀ y ∈ (tbA lo hi la a b).toList, y.oneCell' = true := by
  intro y hy
  simp at hy
  rcases hy with rfl | rfl | rfl | rfl | rfl
  · rfl
  · rfl
  · rfl
  · exact h1
  · exact h2
theorem ofalse {P : Prop} (e : false = true) : P := absurd e (by decide)
theorem JS.start (h : OR Pp w0 q pb gb t vB vJ) (z : w5.heap.size ≤ q.heap.size) (l1 : LC = false) (l2 : LM = false) (l3 : LE = false) (l4 : LF = false) (l5 : LB = false) (l6 : LS = false) (l7 : LT = false) : JS Pp w0 w5 q pb gb t t' vB vJ LC LM LE LF LB LS LT xC xM xE xF xB xT := by
  subst l1 l2 l3 l4 l5 l6 l7
  exact ⟨h.g, h.tb, z, fun _ => h, ofalse, ofalse, ofalse, ofalse, ofalse, ofalse, ofalse⟩
theorem JS.call (h : JS Pp w0 w5 q pb gb t t' vB vJ LC LM LE LF LB LS LT xC xM xE xF xB xT) (l : LC = false) {e : Ending} {x : Value} (hx : e = .returned x) (hr : StPost Pp w0 q pb t' e q') : JS Pp w0 w5 q' pb gb t t' vB vJ true LM LE LF LB LS LT x xM xE xF xB xT := by
  subst l
  have hM : LM = false := by
    cases LM with
    | false => rfl
    | true => exact absurd (h.m rfl).1 (by decide)
  subst hM
  obtain ⟨v', e1, h1, ⟨uB, uJ, rfl, h2, h3⟩, h4⟩ := hr
  rw [hx] at e1
  injection e1 with e1
  subst e1
  refine ⟨Below.trans h.g h4.low, h4.cells h.tb (zo_tb _), Nat.le_trans h.z h4.size, fun e => absurd e (by decide), fun _ => ⟨h1, uB, uJ, rfl, h2, h3⟩, ofalse, fun e => absurd (h.e e).1 (by decide), fun e => absurd (h.f e).1 (by decide), fun e => ?_, h.s, h.t⟩
  obtain ⟨k, lo, hi, la, a, b, r1, r2, r3, r4⟩ := h.b e
  exact ⟨k, lo, hi, la, a, b, r1, r2, h4.cells r3 (zo_tb _), r4⟩
theorem JS.move (h : JS Pp w0 w5 q pb gb t t' vB vJ LC LM LE LF LB LS LT xC xM xE xF xB xT) (l : LC = true) (k : LM = false) : JS Pp w0 w5 q pb gb t t' vB vJ LC true LE LF LB LS LT xC xC xE xF xB xT := by
  subst l k
  exact ⟨h.g, h.tb, h.z, h.p, h.c, fun _ => ⟨rfl, rfl⟩, fun e => absurd (h.e e).1 (by decide), fun e => absurd (h.f e).1 (by decide), h.b, h.s, h.t⟩
theorem JS.two (h : JS Pp w0 w5 q pb gb t t' vB vJ LC LM LE LF LB LS LT xC xM xE xF xB xT) (l : LM = true) : ∃ r, xC = .tuple #[r, .bool true] ∧ xM = .tuple #[r, .bool true] := by
  subst l
  obtain ⟨h1, h2⟩ := h.m rfl
  obtain ⟨uB, uJ, e, _⟩ := (h.c h1).tup
  exact ⟨_, e, h2.trans e⟩
theorem JS.fst {r : Value} (h : JS Pp w0 w5 q pb gb t t' vB vJ LC LM LE LF LB LS LT xC xM xE xF xB xT) (l : LM = true) (k : LE = false) (hx : xC = .tuple #[r, .bool true]) : JS Pp w0 w5 q pb gb t t' vB vJ LC LM true LF LB LS LT xC xM r xF xB xT := by
  subst l k hx
  have hS : LS = false := by
    cases LS with
    | false => rfl
    | true => exact absurd (h.s rfl).2 (by decide)
  subst hS
  refine ⟨h.g, h.tb, h.z, h.p, h.c, h.m, fun _ => ⟨rfl, r, _, rfl, rfl⟩, h.f, fun e => ?_, ofalse, h.t⟩
  obtain ⟨k, lo, hi, la, a, b, r1, r2, r3, _⟩ := h.b e
  exact ⟨k, lo, hi, la, a, b, r1, r2, r3, ofalse⟩
theorem JS.snd (h : JS Pp w0 w5 q pb gb t t' vB vJ LC LM LE LF LB LS LT xC xM xE xF xB xT) (l : LM = true) (k : LF = false) : JS Pp w0 w5 q pb gb t t' vB vJ LC LM LE true LB LS LT xC xM xE (.bool true) xB xT := by
  subst l k
  exact ⟨h.g, h.tb, h.z, h.p, h.c, h.m, h.e, fun _ => ⟨rfl, rfl⟩, h.b, h.s, fun e => absurd (h.t e).1 (by decide)⟩
theorem JS.alloc (I : OIf Pp) (h : JS Pp w0 w5 q pb gb t t' vB vJ LC LM LE LF LB LS LT xC xM xE xF xB xT) (l : LB = false) : JS Pp w0 w5 (q.alloc (.cells (tbA 0 0 0 (.slice none 0 0) (.slice none 0 0)) 32)) pb gb t t' vB vJ LC LM LE LF true LS LT xC xM xE xF (.pointer (some ⟨q.heap.size, 0, none⟩)) xT := by
  subst l
  have hS : LS = false := by
    cases LS with
    | false => rfl
    | true => exact absurd (h.s rfl).1 (by decide)
  subst hS
  have g := Grow.alloc q (.cells (tbA 0 0 0 (.slice none 0 0) (.slice none 0 0)) 32)
  exact ⟨h.g.trans g, h.tb.grow g, Nat.le_trans h.z g.size, fun e => (h.p e).grow I g, fun e => (h.c e).grow I g, h.m, h.e, h.f, fun _ => ⟨_, _, _, _, _, _, rfl, h.z, heap_alloc_new q _, ofalse⟩, ofalse, h.t⟩
theorem otwo_inj {a b c d : Value} (h : (#[a, b] : Array Value) = #[c, d]) : a = c ∧ b = d := by simpa using h
theorem JS.box (h : JS Pp w0 w5 q pb gb t t' vB vJ LC LM LE LF LB LS LT xC xM xE xF xB xT) (l : LE = true) (k : LB = true) : ∃ k lo hi la a b uB uJ, xB = .pointer (some ⟨k, 0, none⟩) ∧ w5.heap.size ≤ k ∧ TbB q k lo hi la a b ∧ xE = .agg (tbA t'.lo t'.hi t'.la uB uJ) ∧ uB.oneCell' = true ∧ uJ.oneCell' = true := by
  subst l k
  obtain ⟨k, lo, hi, la, a, b, r1, r2, r3, _⟩ := h.b rfl
  obtain ⟨e1, r, u, e2, e3⟩ := h.e rfl
  obtain ⟨uB, uJ, e4, h1, h2⟩ := (h.c (h.m e1).1).tup
  rw [e2] at e4
  injection e4 with e4
  exact ⟨k, lo, hi, la, a, b, uB, uJ, r1, r2, r3, e3.trans (otwo_inj e4).1, h1.one, h2.one⟩
theorem JS.store (I : OIf Pp) (h5 : w0.heap.size ≤ w5.heap.size) (hgb : gb < w5.heap.size) {k : Nat} {lo hi la : Int} {a b uB uJ : Value} (h : JS Pp w0 w5 q pb gb t t' vB vJ LC LM LE LF LB LS LT xC xM xE xF xB xT) (l : LB = true) (m : LE = true) (n : LS = false) (hx : xB = .pointer (some ⟨k, 0, none⟩)) (hy : xE = .agg (tbA t'.lo t'.hi t'.la uB uJ)) (hk : w5.heap.size ≤ k) (hb : TbB q k lo hi la a b)
    (hb' : TbB q' k t'.lo t'.hi t'.la uB uJ) (hbut : But k q q') (g' : Grow w0 q') : JS Pp w0 w5 q' pb gb t t' vB vJ LC LM LE LF LB true LT xC xM xE xF xB xT := by
  subst l m n hx hy
  have hC : LC = true := (h.m (h.e rfl).1).1
  refine ⟨g', h.tb.other hbut (by omega), by rw [hbut.1]; exact h.z, fun e => ?_, fun e => (h.c e).box I hb hbut, h.m, h.e, h.f, fun _ => ⟨k, _, _, _, _, _, rfl, hk, hb', fun _ => rfl⟩, fun _ => ⟨rfl, rfl⟩, h.t⟩
  rw [hC] at e
  exact absurd e (by decide)
theorem JS.last (h : JS Pp w0 w5 q pb gb t t' vB vJ LC LM LE LF LB LS LT xC xM xE xF xB xT) (l : LF = true) (k : LT = false) : JS Pp w0 w5 q pb gb t t' vB vJ LC LM LE LF LB LS true xC xM xE xF xB xF := by
  subst l k
  exact ⟨h.g, h.tb, h.z, h.p, h.c, h.m, h.e, h.f, h.b, h.s, fun _ => ⟨rfl, rfl⟩⟩
/-- All done. -/
theorem JS.done (h : JS Pp w0 w5 q pb gb t t' vB vJ LC LM LE LF LB LS LT xC xM xE xF xB xT) (l1 : LC = true) (l2 : LM = true) (l3 : LE = true) (l4 : LF = true) (l5 : LB = true) (l6 : LS = true) (l7 : LT = true) :
    ∃ k uB uJ, xB = .pointer (some ⟨k, 0, none⟩) ∧ w5.heap.size ≤ k ∧ TbB q k t'.lo t'.hi t'.la uB uJ ∧ Bds q w0.heap.size uB t'.B ∧ Jds q w0.heap.size uJ t'.J ∧ Pp q w0.heap.size pb t' ∧ xT = .bool true ∧ Grow w0 q ∧ TbB q gb t.lo t.hi t.la vB vJ := by
  subst l1 l2 l3 l4 l5 l6 l7
  obtain ⟨k, lo, hi, la, a, b, r1, r2, r3, r4⟩ := h.b rfl
  obtain ⟨_, r, u, e2, e3⟩ := h.e rfl
  obtain ⟨uB, uJ, e4, h1, h2⟩ := (h.c rfl).tup
  rw [e2] at e4
  injection e4 with e4
  have e5 := (r4 rfl).symm.trans (e3.trans (otwo_inj e4).1)
  injection e5 with e5
  have e6 : tbA lo hi la a b = tbA t'.lo t'.hi t'.la uB uJ := e5
  refine ⟨k, uB, uJ, r1, r2, ?_, h1, h2, (h.c rfl).pr, (h.t rfl).2.trans (h.f rfl).2, h.g, h.tb⟩
  unfold TbB at r3 ⊢
  rw [← e6]
  exact r3
/-- The law's box takes the new table. -/
theorem OR.put (I : OIf Pp) {uB uJ : Value} {lo hi la : Int} {a b : Value} (hp : Pp W w0.heap.size pb t') (hB : Bds W w0.heap.size uB t'.B) (hJ : Jds W w0.heap.size uJ t'.J) (hb : TbB W gb lo hi la a b) (hb' : TbB W' gb t'.lo t'.hi t'.la uB uJ) (hk : But gb W W') (g : Grow w0 W') (low : w0.heap.size ≤ gb) : OR Pp w0 W' pb gb t' uB uJ :=
  ⟨keep_tb I hp hb hk, hb', hB.but_ hb hk, hJ.but_ hb hk, low, g⟩
end
end Go.Proofs.Ytkilfdhofbjkgaa
