/- PortPicks: what is picked can be bound; what is kept besides. -/
import Derived.Test.YtkilfdhofbjkgaaPoPlS
namespace Go.Proofs.Ytkilfdhofbjkgaa
set_option linter.unusedVariables false
set_option linter.unusedSimpArgs false
open Go.ChangeShapes Go.WideShapes Go.ChangeAt Go.RowKit

theorem bdT_keeps (t : Prt) (e : Ed) (o : Int) : (bdT t e o).lo = t.lo ∧ (bdT t e o).hi = t.hi ∧ (bdT t e o).B.length ≤ t.B.length + 1 ∧ (bdT t e o).J.length ≤ t.J.length + 1 := by
  unfold bdT
  by_cases h : bdE t e = 0
  · rw [if_pos h]; simp
  · rw [if_neg h]; simp
theorem ubT_keeps (t : Prt) (e : Ed) (o : Int) : (ubT t e o).lo = t.lo ∧ (ubT t e o).hi = t.hi ∧ (ubT t e o).B.length ≤ t.B.length + 1 ∧ (ubT t e o).J.length ≤ t.J.length + 1 := by
  unfold ubT
  by_cases h : hasB t.B e o
  · rw [if_pos h]
    have := (List.eraseIdx_sublist t.B (ixB t.B e o)).length_le
    exact ⟨rfl, rfl, by show (t.B.eraseIdx _).length ≤ _; omega, Nat.le_succ _⟩
  · rw [if_neg h]; simp
theorem pkT_keeps (t : Prt) (a : Int) : (pkT t a).lo = t.lo ∧ (pkT t a).hi = t.hi ∧ (pkT t a).B.length ≤ t.B.length + 1 ∧ (pkT t a).J.length ≤ t.J.length + 1 := by
  unfold pkT
  cases pkS t a <;> simp
theorem joT_keeps (t : Prt) (q : Qd) (o : Int) : (joT t q o).lo = t.lo ∧ (joT t q o).hi = t.hi ∧ (joT t q o).B.length ≤ t.B.length + 1 ∧ (joT t q o).J.length ≤ t.J.length + 1 := by
  unfold joT
  by_cases h : joE t q = 0
  · rw [if_pos h]; simp
  · rw [if_neg h]; simp
theorem paT_keeps (t : Prt) (q : Qd) : (paT t q).lo = t.lo ∧ (paT t q).hi = t.hi ∧ (paT t q).B.length ≤ t.B.length + 1 ∧ (paT t q).J.length ≤ t.J.length + 1 := by
  unfold paT
  by_cases h : hasJ t.J q
  · rw [if_pos h]
    have := (List.eraseIdx_sublist t.J (ixJ t.J q)).length_le
    exact ⟨rfl, rfl, Nat.le_succ _, by show (t.J.eraseIdx _).length ≤ _; omega⟩
  · rw [if_neg h]; simp
theorem stT_keeps (t : Prt) (x : Pa) : (stT t x).lo = t.lo ∧ (stT t x).hi = t.hi ∧ (stT t x).B.length ≤ t.B.length + 1 ∧ (stT t x).J.length ≤ t.J.length + 1 := by
  unfold stT
  by_cases h0 : x.d = 0
  · rw [if_pos h0]; exact bdT_keeps _ _ _
  rw [if_neg h0]
  by_cases h1 : x.d = 1
  · rw [if_pos h1]; exact ubT_keeps _ _ _
  rw [if_neg h1]
  by_cases h2 : x.d = 2
  · rw [if_pos h2]; exact pkT_keeps _ _
  rw [if_neg h2]
  by_cases h3 : x.d = 3
  · rw [if_pos h3]; exact joT_keeps _ _ _
  rw [if_neg h3]
  by_cases h4 : x.d = 4
  · rw [if_pos h4]; exact paT_keeps _ _
  rw [if_neg h4]
  simp
theorem pk_bind {t : Prt} {n P : Int} (ok : TOk t) (h : pkS t n = some P) (hl : t.B.length < 1024) : bdE { t with la := P } ⟨n, P⟩ = 0 := by
  obtain ⟨h1, h2⟩ := pkS_some h
  unfold bdE
  rw [if_neg (by show ¬ P = 0; have := ok.lo; omega), if_neg h2, if_neg (by show ¬ 1024 ≤ t.B.length; omega)]
theorem owS_new {B : List Bd} {e : Ed} {o : Int} (h : ¬ takenT B e) : owS (B ++ [(⟨e, o⟩ : Bd)]) e = (o, true) :=
  owS_at1 (k := B.length) (x := ⟨e, o⟩) (by simp) rfl fun j y hj hy he => by
    rw [List.getElem?_append_left hj] at hy
    exact h ⟨y, List.mem_iff_getElem?.2 ⟨j, hy⟩, by rw [he], .inl (by rw [he])⟩
theorem tlS_new {J : List Jd} {q : Qd} {o : Int} (h : ¬ hasJ J q) : tlS (J ++ [(⟨q, o⟩ : Jd)]) q = (o, true) :=
  tlS_at (k := J.length) (x := ⟨q, o⟩) (by simp) rfl fun j y hj hy he => by
    rw [List.getElem?_append_left hj] at hy
    exact h ⟨y, List.mem_iff_getElem?.2 ⟨j, hy⟩, he⟩
theorem tlS_there {J : List Jd} {q : Qd} (h : hasJ J q) : ∃ c, tlS J q = (c, true) := by
  unfold tlS
  cases e : J.find? fun j => decide (j.q = q) with
  | some j => exact ⟨j.o, rfl⟩
  | none =>
    obtain ⟨j, hj, he⟩ := h
    exact absurd (List.find?_eq_none.1 e j hj) (by simp [he])
theorem tlS_hasno {J : List Jd} {q : Qd} (h : ¬ hasJ J q) : tlS J q = (0, false) := tlS_none fun j y hy e => h ⟨y, List.mem_iff_getElem?.2 ⟨j, hy⟩, e⟩
theorem fdS_yes {t : Prt} {q : Qd} {c : Int} (h : tlS t.J q = (c, true)) : fdS t q = (c, true, true) := by
  unfold fdS
  rw [h]
theorem fdS_no {t : Prt} {q : Qd} {c a : Int} {x : Bool} (h : tlS t.J q = (c, false)) (h2 : owS t.B q.l = (a, x)) : fdS t q = (a, false, x) := by
  unfold fdS
  rw [h]
  simp only [h2]
theorem infoQd : (Try.prog.info? 42).map (·.size) = some 4 := by kernel_rfl
theorem infoEd : (Try.prog.info? 40).map (·.size) = some 2 := by kernel_rfl
theorem Pas.grow {w w' : World} {v : Value} {l : List Pa} (h : Pas w v l) (g : Grow w w') : Pas w' v l := by
  obtain ⟨A, c, e, h1, h2, h3, h4⟩ := h
  refine ⟨A, c, e, h1, h2, h3, fun hp => ?_⟩
  obtain ⟨b, off, hA, hb, hc⟩ := h4 hp
  refine ⟨b, off, hA, Nat.lt_of_lt_of_le hb g.size, fun i x hx => ?_⟩
  obtain ⟨x0, x1, x2, x3, x4, x5⟩ := hc i x hx
  exact ⟨(g.cell (p := ⟨b, off + i * 6, none⟩) hb).trans x0, (g.cell (p := ⟨b, off + i * 6 + 1, none⟩) hb).trans x1, (g.cell (p := ⟨b, off + i * 6 + 2, none⟩) hb).trans x2, (g.cell (p := ⟨b, off + i * 6 + 3, none⟩) hb).trans x3, (g.cell (p := ⟨b, off + i * 6 + 4, none⟩) hb).trans x4, (g.cell (p := ⟨b, off + i * 6 + 5, none⟩) hb).trans x5⟩
/-- Behind the calls: the program's table, the law's quad in its box (older than the table). -/
structure PK (Pp : PoT) (w w0 W : World) (pb : Nat) (t : Prt) (a p b q : Int) : Prop where
  pr : Pp W w0.heap.size pb t
  qd : QdB W w.heap.size a p b q
  low : w.heap.size < w0.heap.size
  g : Grow w W
  z : w0.heap.size ≤ W.heap.size
section
variable {Pp : PoT} {w w0 W W' : World} {pb : Nat} {t t' : Prt} {a p b q : Int}
theorem PK.prog (h : PK Pp w w0 W pb t a p b q) (hp : Pp W' w0.heap.size pb t') (o : Only w0.heap.size Zo W W') : PK Pp w w0 W' pb t' a p b q :=
  ⟨hp, (o.low.block _ h.low).trans h.qd, h.low, Below.trans h.g (Below.mono o.low (Nat.le_of_lt h.low)), Nat.le_trans h.z o.size⟩
theorem PK.grow (I : OIf Pp) (h : PK Pp w w0 W pb t a p b q) (k : Grow W W') : PK Pp w w0 W' pb t a p b q := ⟨I.grow h.pr k, h.qd.grow k, h.low, h.g.trans k, Nat.le_trans h.z k.size⟩
theorem PK.set (I : OIf Pp) (h : PK Pp w w0 W pb t a p b q) {a' p' : Int} (hq : QdB W' w.heap.size a' p' b q) (hk : But w.heap.size W W') (g : Grow w W') : PK Pp w w0 W' pb t a' p' b q :=
  ⟨I.keep h.pr fun i o T hi ho _ _ => (hk.2 i (by have := h.low; omega)).trans ho, hq, h.low, g, by rw [hk.1]; exact h.z⟩
end
end Go.Proofs.Ytkilfdhofbjkgaa
