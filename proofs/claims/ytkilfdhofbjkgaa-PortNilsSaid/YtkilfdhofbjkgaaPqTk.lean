/- Contracts: isTaken, Find of the program's table; its calls of a nil table. -/
import Derived.Test.YtkilfdhofbjkgaaPqRd
namespace Go.Proofs.Ytkilfdhofbjkgaa
set_option linter.unusedVariables false
set_option linter.unusedSimpArgs false
open Go.ChangeShapes Go.WideShapes Go.ChangeAt Go.RowKit

section
variable {w : World} {base pb bm jm um : Nat} {nx : Int} {t : Prt}
set_option maxRecDepth 10000 in
set_option maxHeartbeats 1000000 in
theorem takenP (h : PtS w base pb bm jm um nx t) (e : Ed) : Calls Try.prog 27 #[.pointer (some ⟨pb, 0, none⟩), .agg #[.int .u32 e.ad, .int .u16 e.po]] w fun x w' => x = .returned (.bool (decide (takenT t.B e))) ∧ Grow w w' := by
  obtain ⟨ad, po⟩ := e
  have g1 : Grow w (w.alloc (.cells #[.int .u32 ad, .int .u16 po] 40)) := Grow.alloc _ _
  have H1 := Lib.hid (h.grow g1)
  have HG := Lib.hid g1
  have c5 := H1.out.c5
  clear h g1
  by_cases h0 : ad = 0
  · subst h0
    have l1 : ∀ n : Nat, (Instr.lookup 64 (.map (some um)) (.int .u16 po) false).run Try.prog ((w.alloc (.cells #[.int .u32 0, .int .u16 po] 40)).drewN n) = .ok (.int .i64 (cnt t.B po : Int)) ((w.alloc (.cells #[.int .u32 0, .int .u16 po] 40)).drewN n) := fun n => by
      obtain ⟨U, u1, u2⟩ := (H1.out.grow (Grow.drewN _ n)).use
      exact u2.look u1 po
    by_cases h2 : 0 < cnt t.B po
    · have HE : Hid (decide (takenT t.B ⟨0, po⟩) = true) := decide_eq_true (taken0.2 h2)
      obtain ⟨k, hk⟩ : ∃ k, k = cnt t.B po := ⟨_, rfl⟩
      rw [← hk] at l1 h2
      have i0 : (0 : Int) < (k : Int) := by omega
      clear hk
      go_enter Try.func27, Try.ntmps27
      go_wp2_with fail
      go_quiet (fail)
      go_wp2_with fail
      go_ret
      exact ⟨by rw [HE.out]; rfl, HG.out.trans (Grow.drewN _ _)⟩
    · have HE : Hid (decide (takenT t.B ⟨0, po⟩) = false) := decide_eq_false fun q => h2 (taken0.1 q)
      have hz : cnt t.B po = 0 := by omega
      rw [hz] at l1
      clear h2 hz
      go_enter Try.func27, Try.ntmps27
      go_wp2_with fail
      go_quiet (fail)
      go_wp2_with fail
      go_ret
      exact ⟨by rw [HE.out]; rfl, HG.out.trans (Grow.drewN _ _)⟩
  · have c0 := ownerP H1.out ⟨ad, po⟩
    have HE : Hid (decide (takenT t.B ⟨ad, po⟩) = (owS t.B ⟨ad, po⟩).2) := by
      have q := takenE (B := t.B) (e := ⟨ad, po⟩) h0
      cases k : (owS t.B ⟨ad, po⟩).2 with
      | true => exact decide_eq_true (q.2 k)
      | false => exact decide_eq_false fun r => by rw [q.1 r] at k; cases k
    clear c5
    go_enter Try.func27, Try.ntmps27
    go_wp2_with fail
    refine c0.mono ?_
    rintro x w2 ⟨rfl, g2⟩
    have G2 := Lib.hid g2
    clear c0 g2
    go_wp2_with fail
    go_ret
    exact ⟨by rw [HE.out]; rfl, HG.out.trans G2.out⟩
set_option maxRecDepth 10000 in
set_option maxHeartbeats 1000000 in
theorem findP (h : PtS w base pb bm jm um nx t) (q : Qd) : Calls Try.prog 15 #[.pointer (some ⟨pb, 0, none⟩), .agg #[.int .u32 q.l.ad, .int .u16 q.l.po, .int .u32 q.r.ad, .int .u16 q.r.po]] w fun x w' => x = .returned (.tuple #[.int .i64 (fdS t q).1, .bool (fdS t q).2.1, .bool (fdS t q).2.2]) ∧ Grow w w' := by
  obtain ⟨⟨a0, a1⟩, a2, a3⟩ := q
  have g1 : Grow w (w.alloc (.cells #[.int .u32 a0, .int .u16 a1, .int .u32 a2, .int .u16 a3] 42)) := Grow.alloc _ _
  have hb1 := heap_alloc_new w (.cells #[.int .u32 a0, .int .u16 a1, .int .u32 a2, .int .u16 a3] 42)
  have H1 := Lib.hid (And.intro (h.grow g1) hb1)
  have HG := Lib.hid g1
  have c0 := talksP H1.out.1 ⟨⟨a0, a1⟩, a2, a3⟩
  have HF : Hid (fdS t ⟨⟨a0, a1⟩, a2, a3⟩ = match tlS t.J ⟨⟨a0, a1⟩, a2, a3⟩ with | (o, true) => (o, true, true) | (_, false) => match owS t.B ⟨a0, a1⟩ with | (o, k) => (o, false, k)) := rfl
  clear h g1 hb1
  cases k : tlS t.J ⟨⟨a0, a1⟩, a2, a3⟩ with
  | mk o b =>
    rw [k] at c0 HF
    clear k
    cases b with
    | true =>
      go_enter Try.func15, Try.ntmps15
      go_wp2_with fail
      refine c0.mono ?_
      rintro x w2 ⟨rfl, g2⟩
      have G2 := Lib.hid g2
      clear c0 g2
      go_wp2_with fail
      go_ret3
      rw [HF.out]
      exact ⟨rfl, HG.out.trans G2.out⟩
    | false =>
      go_enter Try.func15, Try.ntmps15
      go_wp2_with fail
      refine c0.mono ?_
      rintro x w2 ⟨rfl, g2⟩
      have hb2 := (g2.block _ (Array.getElem?_eq_some_iff.1 H1.out.2).1).trans H1.out.2
      have d0 : w2.cell? ⟨w.heap.size, 0, none⟩ = some (.int .u32 a0) := (cell_of_row w2 _ 0 _ _ _ hb2).trans rfl
      have d1 : w2.cell? ⟨w.heap.size, 1, none⟩ = some (.int .u16 a1) := (cell_of_row w2 _ 1 _ _ _ hb2).trans rfl
      have c1 := ownerP (H1.out.1.grow g2) ⟨a0, a1⟩
      have G2 := Lib.hid g2
      clear c0 g2 hb2
      go_wp2_with fail
      refine c1.mono ?_
      rintro x w3 ⟨rfl, g3⟩
      have G3 := Lib.hid g3
      clear c1 g3 d0 d1
      go_wp2_with fail
      go_ret3
      rw [HF.out]
      exact ⟨rfl, (HG.out.trans G2.out).trans G3.out⟩
end
theorem bindN (w : World) (e : Ed) (o : Int) : Calls Try.prog 17 #[.pointer none, .agg #[.int .u32 e.ad, .int .u16 e.po], .int .i64 o] w fun x w' => x = .returned (.int .i64 7) ∧ Grow w w' := by
  have HG := Lib.hid (Grow.alloc w (.cells #[.int .u32 e.ad, .int .u16 e.po] 40))
  go_enter Try.func17, Try.ntmps17
  go_wp2_with fail
  go_ret
  exact ⟨rfl, HG.out⟩
theorem unbindN (w : World) (e : Ed) (o : Int) : Calls Try.prog 20 #[.pointer none, .agg #[.int .u32 e.ad, .int .u16 e.po], .int .i64 o] w fun x w' => x = .returned (.int .i64 7) ∧ Grow w w' := by
  have HG := Lib.hid (Grow.alloc w (.cells #[.int .u32 e.ad, .int .u16 e.po] 40))
  go_enter Try.func20, Try.ntmps20
  go_wp2_with fail
  go_ret
  exact ⟨rfl, HG.out⟩
theorem pickN (w : World) (a : Int) : Calls Try.prog 16 #[.pointer none, .int .u32 a] w fun x w' => x = .returned (.tuple #[.int .u16 0, .int .i64 7]) ∧ Grow w w' := by
  go_enter Try.func16, Try.ntmps16
  go_wp2_with fail
  go_ret2
  exact ⟨rfl, Grow.refl _⟩
theorem joinN (w : World) (q : Qd) (o : Int) : Calls Try.prog 18 #[.pointer none, .agg #[.int .u32 q.l.ad, .int .u16 q.l.po, .int .u32 q.r.ad, .int .u16 q.r.po], .int .i64 o] w fun x w' => x = .returned (.int .i64 7) ∧ Grow w w' := by
  have HG := Lib.hid (Grow.alloc w (.cells #[.int .u32 q.l.ad, .int .u16 q.l.po, .int .u32 q.r.ad, .int .u16 q.r.po] 42))
  go_enter Try.func18, Try.ntmps18
  go_wp2_with fail
  go_ret
  exact ⟨rfl, HG.out⟩
theorem partN (w : World) (q : Qd) : Calls Try.prog 21 #[.pointer none, .agg #[.int .u32 q.l.ad, .int .u16 q.l.po, .int .u32 q.r.ad, .int .u16 q.r.po]] w fun x w' => x = .returned (.int .i64 7) ∧ Grow w w' := by
  have HG := Lib.hid (Grow.alloc w (.cells #[.int .u32 q.l.ad, .int .u16 q.l.po, .int .u32 q.r.ad, .int .u16 q.r.po] 42))
  go_enter Try.func21, Try.ntmps21
  go_wp2_with fail
  go_ret
  exact ⟨rfl, HG.out⟩
theorem ownerN (w : World) (e : Ed) : Calls Try.prog 11 #[.pointer none, .agg #[.int .u32 e.ad, .int .u16 e.po]] w fun x w' => x = .returned (.tuple #[.int .i64 0, .bool false]) ∧ Grow w w' := by
  have HG := Lib.hid (Grow.alloc w (.cells #[.int .u32 e.ad, .int .u16 e.po] 40))
  go_enter Try.func11, Try.ntmps11
  go_wp2_with fail
  go_ret2
  exact ⟨rfl, HG.out⟩
theorem talksN (w : World) (q : Qd) : Calls Try.prog 13 #[.pointer none, .agg #[.int .u32 q.l.ad, .int .u16 q.l.po, .int .u32 q.r.ad, .int .u16 q.r.po]] w fun x w' => x = .returned (.tuple #[.int .i64 0, .bool false]) ∧ Grow w w' := by
  have HG := Lib.hid (Grow.alloc w (.cells #[.int .u32 q.l.ad, .int .u16 q.l.po, .int .u32 q.r.ad, .int .u16 q.r.po] 42))
  go_enter Try.func13, Try.ntmps13
  go_wp2_with fail
  go_ret2
  exact ⟨rfl, HG.out⟩
theorem findN (w : World) (q : Qd) : Calls Try.prog 15 #[.pointer none, .agg #[.int .u32 q.l.ad, .int .u16 q.l.po, .int .u32 q.r.ad, .int .u16 q.r.po]] w fun x w' => x = .returned (.tuple #[.int .i64 0, .bool false, .bool false]) ∧ Grow w w' := by
  obtain ⟨⟨a0, a1⟩, a2, a3⟩ := q
  have hb1 := heap_alloc_new w (.cells #[.int .u32 a0, .int .u16 a1, .int .u32 a2, .int .u16 a3] 42)
  have HG := Lib.hid (And.intro (Grow.alloc w (.cells #[.int .u32 a0, .int .u16 a1, .int .u32 a2, .int .u16 a3] 42)) hb1)
  have c0 := talksN (w.alloc (.cells #[.int .u32 a0, .int .u16 a1, .int .u32 a2, .int .u16 a3] 42)) ⟨⟨a0, a1⟩, a2, a3⟩
  clear hb1
  go_enter Try.func15, Try.ntmps15
  go_wp2_with fail
  refine c0.mono ?_
  rintro x w2 ⟨rfl, g2⟩
  have hb2 := (g2.block _ (Array.getElem?_eq_some_iff.1 HG.out.2).1).trans HG.out.2
  have d0 : w2.cell? ⟨w.heap.size, 0, none⟩ = some (.int .u32 a0) := (cell_of_row w2 _ 0 _ _ _ hb2).trans rfl
  have d1 : w2.cell? ⟨w.heap.size, 1, none⟩ = some (.int .u16 a1) := (cell_of_row w2 _ 1 _ _ _ hb2).trans rfl
  have c1 := ownerN w2 ⟨a0, a1⟩
  have G2 := Lib.hid g2
  clear c0 g2 hb2
  go_wp2_with fail
  refine c1.mono ?_
  rintro x w3 ⟨rfl, g3⟩
  have G3 := Lib.hid g3
  clear c1 g3 d0 d1
  go_wp2_with fail
  go_ret3
  exact ⟨rfl, (HG.out.1.trans G2.out).trans G3.out⟩
theorem lenN (w : World) : Calls Try.prog 19 #[.pointer none] w fun x w' => x = .returned (.tuple #[.int .i64 0, .int .i64 0]) ∧ Grow w w' := by
  go_enter Try.func19, Try.ntmps19
  go_wp2_with fail
  go_ret2
  exact ⟨rfl, Grow.refl _⟩
end Go.Proofs.Ytkilfdhofbjkgaa
