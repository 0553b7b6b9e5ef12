/- Contracts: Owner, Talks, Len, after of the program's table. -/
import Derived.Test.YtkilfdhofbjkgaaPqSt
import Derived.BigRegion
namespace Go.Proofs.Ytkilfdhofbjkgaa
set_option linter.unusedVariables false
set_option linter.unusedSimpArgs false
open Go.ChangeShapes Go.WideShapes Go.ChangeAt Go.RowKit

theorem Grow.drewN (w : World) (n : Nat) : Grow w (w.drewN n) := ⟨rfl, rfl, rfl, Nat.le_refl _, fun _ _ => rfl⟩
section
variable {w : World} {base pb bm jm um : Nat} {nx : Int} {t : Prt}
set_option maxRecDepth 10000 in
set_option maxHeartbeats 1000000 in
theorem ownerP (h : PtS w base pb bm jm um nx t) (e : Ed) : Calls Try.prog 11 #[.pointer (some ⟨pb, 0, none⟩), .agg #[.int .u32 e.ad, .int .u16 e.po]] w fun x w' => x = .returned (.tuple #[.int .i64 (owS t.B e).1, .bool (owS t.B e).2]) ∧ Grow w w' := by
  have HE := Lib.hid (owIs t.B e)
  obtain ⟨ad, po⟩ := e
  have g1 : Grow w (w.alloc (.cells #[.int .u32 ad, .int .u16 po] 40)) := Grow.alloc _ _
  have H1 := Lib.hid (h.grow g1)
  have HG := Lib.hid g1
  have c3 := H1.out.c3
  clear h g1
  rcases HE.out with ⟨b, hb, h1, h2⟩ | ⟨b, hb, h0, h1, h2⟩ | ⟨h0, h1, h2⟩
  · have HR : Hid (owS t.B ⟨ad, po⟩ = (b.o, true)) := h2
    have l1 : ∀ n : Nat, (Instr.lookup 62 (.map (some bm)) (.agg #[.int .u32 ad, .int .u16 po]) true).run Try.prog ((w.alloc (.cells #[.int .u32 ad, .int .u16 po] 40)).drewN n) = .ok (.tuple #[.int .i64 b.o, .bool true]) ((w.alloc (.cells #[.int .u32 ad, .int .u16 po] 40)).drewN n) := by
      intro n
      have := (H1.out.grow (Grow.drewN _ n)).bnd.look_some edK (bE_some hb) true
      rw [h1] at this
      exact this
    clear HE hb h1 h2
    go_enter Try.func11, Try.ntmps11
    go_wp2_with fail
    go_quiet (fail)
    go_wp2_with fail
    go_ret2
    rw [HR.out]
    first | exact ⟨rfl, HG.out.trans (Grow.drewN _ _)⟩ | exact ⟨rfl, (HG.out.trans (Grow.drewN _ _)).trans (Grow.drewN _ _)⟩
  · have HR : Hid (owS t.B ⟨ad, po⟩ = (b.o, true)) := h2
    have l1 : ∀ n : Nat, (Instr.lookup 62 (.map (some bm)) (.agg #[.int .u32 ad, .int .u16 po]) true).run Try.prog ((w.alloc (.cells #[.int .u32 ad, .int .u16 po] 40)).drewN n) = .ok (.tuple #[.int .i64 0, .bool false]) ((w.alloc (.cells #[.int .u32 ad, .int .u16 po] 40)).drewN n) :=
      fun n => (H1.out.grow (Grow.drewN _ n)).bnd.look_none edK (bE_none h0) true
    have l2 : ∀ n : Nat, (Instr.lookup 62 (.map (some bm)) (.agg #[.int .u32 0, .int .u16 po]) true).run Try.prog ((w.alloc (.cells #[.int .u32 ad, .int .u16 po] 40)).drewN n) = .ok (.tuple #[.int .i64 b.o, .bool true]) ((w.alloc (.cells #[.int .u32 ad, .int .u16 po] 40)).drewN n) := by
      intro n
      have := (H1.out.grow (Grow.drewN _ n)).bnd.look_some edK (bE_some hb) true
      rw [h1] at this
      exact this
    clear HE hb h0 h1 h2
    go_enter Try.func11, Try.ntmps11
    go_wp2_with fail
    go_quiet (fail)
    go_wp2_with fail
    go_quiet (fail)
    go_wp2_with fail
    go_ret2
    rw [HR.out]
    first | exact ⟨rfl, HG.out.trans (Grow.drewN _ _)⟩ | exact ⟨rfl, (HG.out.trans (Grow.drewN _ _)).trans (Grow.drewN _ _)⟩
  · have HR : Hid (owS t.B ⟨ad, po⟩ = (0, false)) := h2
    have l1 : ∀ n : Nat, (Instr.lookup 62 (.map (some bm)) (.agg #[.int .u32 ad, .int .u16 po]) true).run Try.prog ((w.alloc (.cells #[.int .u32 ad, .int .u16 po] 40)).drewN n) = .ok (.tuple #[.int .i64 0, .bool false]) ((w.alloc (.cells #[.int .u32 ad, .int .u16 po] 40)).drewN n) :=
      fun n => (H1.out.grow (Grow.drewN _ n)).bnd.look_none edK (bE_none h0) true
    have l2 : ∀ n : Nat, (Instr.lookup 62 (.map (some bm)) (.agg #[.int .u32 0, .int .u16 po]) true).run Try.prog ((w.alloc (.cells #[.int .u32 ad, .int .u16 po] 40)).drewN n) = .ok (.tuple #[.int .i64 0, .bool false]) ((w.alloc (.cells #[.int .u32 ad, .int .u16 po] 40)).drewN n) :=
      fun n => (H1.out.grow (Grow.drewN _ n)).bnd.look_none edK (bE_none h1) true
    clear HE h0 h1 h2
    go_enter Try.func11, Try.ntmps11
    go_wp2_with fail
    go_quiet (fail)
    go_wp2_with fail
    go_quiet (fail)
    go_wp2_with fail
    go_ret2
    rw [HR.out]
    first | exact ⟨rfl, HG.out.trans (Grow.drewN _ _)⟩ | exact ⟨rfl, (HG.out.trans (Grow.drewN _ _)).trans (Grow.drewN _ _)⟩
set_option maxRecDepth 10000 in
set_option maxHeartbeats 1000000 in
theorem talksP (h : PtS w base pb bm jm um nx t) (q : Qd) : Calls Try.prog 13 #[.pointer (some ⟨pb, 0, none⟩), .agg #[.int .u32 q.l.ad, .int .u16 q.l.po, .int .u32 q.r.ad, .int .u16 q.r.po]] w fun x w' => x = .returned (.tuple #[.int .i64 (tlS t.J q).1, .bool (tlS t.J q).2]) ∧ Grow w w' := by
  have HE := Lib.hid (tlIs t.J q)
  obtain ⟨⟨a0, a1⟩, a2, a3⟩ := q
  have g1 : Grow w (w.alloc (.cells #[.int .u32 a0, .int .u16 a1, .int .u32 a2, .int .u16 a3] 42)) := Grow.alloc _ _
  have H1 := Lib.hid (h.grow g1)
  have HG := Lib.hid g1
  have c4 := H1.out.c4
  clear h g1
  rcases HE.out with ⟨b, hb, h1, h2⟩ | ⟨h0, h2⟩
  · have HR : Hid (tlS t.J ⟨⟨a0, a1⟩, a2, a3⟩ = (b.o, true)) := h2
    have l1 : ∀ n : Nat, (Instr.lookup 63 (.map (some jm)) (.agg #[.int .u32 a0, .int .u16 a1, .int .u32 a2, .int .u16 a3]) true).run Try.prog ((w.alloc (.cells #[.int .u32 a0, .int .u16 a1, .int .u32 a2, .int .u16 a3] 42)).drewN n) = .ok (.tuple #[.int .i64 b.o, .bool true]) ((w.alloc (.cells #[.int .u32 a0, .int .u16 a1, .int .u32 a2, .int .u16 a3] 42)).drewN n) := by
      intro n
      have := (H1.out.grow (Grow.drewN _ n)).jnd.look_some qdK (jE_some hb) true
      rw [h1] at this
      exact this
    clear HE hb h1 h2
    go_enter Try.func13, Try.ntmps13
    go_wp2_with fail
    go_quiet (fail)
    go_wp2_with fail
    go_ret2
    rw [HR.out]
    first | exact ⟨rfl, HG.out.trans (Grow.drewN _ _)⟩ | exact ⟨rfl, (HG.out.trans (Grow.drewN _ _)).trans (Grow.drewN _ _)⟩
  · have HR : Hid (tlS t.J ⟨⟨a0, a1⟩, a2, a3⟩ = (0, false)) := h2
    have l1 : ∀ n : Nat, (Instr.lookup 63 (.map (some jm)) (.agg #[.int .u32 a0, .int .u16 a1, .int .u32 a2, .int .u16 a3]) true).run Try.prog ((w.alloc (.cells #[.int .u32 a0, .int .u16 a1, .int .u32 a2, .int .u16 a3] 42)).drewN n) = .ok (.tuple #[.int .i64 0, .bool false]) ((w.alloc (.cells #[.int .u32 a0, .int .u16 a1, .int .u32 a2, .int .u16 a3] 42)).drewN n) :=
      fun n => (H1.out.grow (Grow.drewN _ n)).jnd.look_none qdK (jE_none h0) true
    clear HE h0 h2
    go_enter Try.func13, Try.ntmps13
    go_wp2_with fail
    go_quiet (fail)
    go_wp2_with fail
    go_ret2
    rw [HR.out]
    first | exact ⟨rfl, HG.out.trans (Grow.drewN _ _)⟩ | exact ⟨rfl, (HG.out.trans (Grow.drewN _ _)).trans (Grow.drewN _ _)⟩
theorem lenP (h : PtS w base pb bm jm um nx t) : Calls Try.prog 19 #[.pointer (some ⟨pb, 0, none⟩)] w fun x w' => x = .returned (.tuple #[.int .i64 (t.B.length : Int), .int .i64 (t.J.length : Int)]) ∧ Grow w w' := by
  have c3 := h.c3
  have c4 := h.c4
  have l1 := fun (n : Nat) ty => (h.grow (Grow.drewN w n)).bnd.len edK ty
  have l2 := fun (n : Nat) ty => (h.grow (Grow.drewN w n)).jnd.len qdK ty
  rw [show (bE t.B).length = t.B.length from List.length_map _] at l1
  rw [show (jE t.J).length = t.J.length from List.length_map _] at l2
  clear h
  go_enter Try.func19, Try.ntmps19
  go_wp2_with fail
  go_quiet (fail)
  go_wp2_with fail
  go_ret2
  exact ⟨rfl, Grow.drewN _ _⟩
/-- The port that is tried behind one. -/
def aft (t : Prt) (p : Int) : Int := if p = t.hi then t.lo else p + 1
theorem afterP (h : PtS w base pb bm jm um nx t) (ok : TOk t) (p : Int) (hp : 0 ≤ p ∧ p ≤ 65535) : Calls Try.prog 28 #[.pointer (some ⟨pb, 0, none⟩), .int .i64 p] w fun x w' => x = .returned (.int .i64 (aft t p)) ∧ w' = w := by
  have c0 := h.c0
  have c1 := h.c1
  have w1 : wrap64 (p + 1) = p + 1 := IntWalk.wrap64_in _ (by omega)
  unfold aft
  by_cases e : p = t.hi
  · have HE : Hid ((if p = t.hi then t.lo else p + 1) = t.lo) := if_pos e
    clear h ok hp w1
    subst e
    go_enter Try.func28, Try.ntmps28
    go_wp2_with fail
    go_ret
    clear HE
    exact ⟨rfl, rfl⟩
  · have HE : Hid ((if p = t.hi then t.lo else p + 1) = p + 1) := if_neg e
    clear h ok hp
    go_enter Try.func28, Try.ntmps28
    go_wp2_with fail
    go_ret
    clear HE
    exact ⟨rfl, rfl⟩
end
end Go.Proofs.Ytkilfdhofbjkgaa
