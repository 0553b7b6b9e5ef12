/- Contracts: the reference's New, Taken. -/
import Derived.Test.YtkilfdhofbjkgaaPoRow
namespace Go.Proofs.Ytkilfdhofbjkgaa
set_option linter.unusedVariables false
set_option linter.unusedSimpArgs false
open Go.ChangeShapes Go.WideShapes Go.ChangeAt Go.RowKit

theorem Bds.cells {w : World} {v : Value} {l : List Bd} (h : RdG bdC w v l) (hp : 0 < l.length) : ∃ b off cp, v = .slice (some ⟨b, off, none⟩) l.length cp ∧ b < w.heap.size ∧
    ∀ k x, l[k]? = some x → w.cell? ⟨b, off + k * 3, none⟩ = some (.int .u32 x.e.ad) ∧ w.cell? ⟨b, off + k * 3 + 1, none⟩ = some (.int .u16 x.e.po) ∧ w.cell? ⟨b, off + k * 3 + 2, none⟩ = some (.int .i64 x.o) := by
  obtain ⟨b, off, cp, e, hb, hc⟩ := h.at_ hp
  exact ⟨b, off, cp, e, hb, fun k x hx => ⟨hc k x hx 0 _ rfl, hc k x hx 1 _ rfl, hc k x hx 2 _ rfl⟩⟩
theorem Jds.cells {w : World} {v : Value} {l : List Jd} (h : RdG jdC w v l) (hp : 0 < l.length) : ∃ b off cp, v = .slice (some ⟨b, off, none⟩) l.length cp ∧ b < w.heap.size ∧
    ∀ k x, l[k]? = some x → w.cell? ⟨b, off + k * 5, none⟩ = some (.int .u32 x.q.l.ad) ∧ w.cell? ⟨b, off + k * 5 + 1, none⟩ = some (.int .u16 x.q.l.po) ∧ w.cell? ⟨b, off + k * 5 + 2, none⟩ = some (.int .u32 x.q.r.ad) ∧ w.cell? ⟨b, off + k * 5 + 3, none⟩ = some (.int .u16 x.q.r.po) ∧ w.cell? ⟨b, off + k * 5 + 4, none⟩ = some (.int .i64 x.o) := by
  obtain ⟨b, off, cp, e, hb, hc⟩ := h.at_ hp
  exact ⟨b, off, cp, e, hb, fun k x hx => ⟨hc k x hx 0 _ rfl, hc k x hx 1 _ rfl, hc k x hx 2 _ rfl, hc k x hx 3 _ rfl, hc k x hx 4 _ rfl⟩⟩
/-- An end in a box, a quad in a box. -/
def EdB (w : World) (g : Nat) (a p : Int) : Prop := w.heap[g]? = some (.cells #[.int .u32 a, .int .u16 p] 40 (0, 0))
def QdB (w : World) (g : Nat) (a p b q : Int) : Prop := w.heap[g]? = some (.cells #[.int .u32 a, .int .u16 p, .int .u32 b, .int .u16 q] 42 (0, 0))
section
variable {w w' : World} {g : Nat} {a p b q : Int}
theorem EdB.lt (h : EdB w g a p) : g < w.heap.size := (Array.getElem?_eq_some_iff.1 h).1
theorem EdB.grow (h : EdB w g a p) (k : Grow w w') : EdB w' g a p := (k.block g h.lt).trans h
theorem EdB.c0 (h : EdB w g a p) : w.cell? ⟨g, 0, none⟩ = some (.int .u32 a) := (cell_of_row w g 0 _ _ _ h).trans rfl
theorem EdB.c1 (h : EdB w g a p) : w.cell? ⟨g, 1, none⟩ = some (.int .u16 p) := (cell_of_row w g 1 _ _ _ h).trans rfl
theorem QdB.lt (h : QdB w g a p b q) : g < w.heap.size := (Array.getElem?_eq_some_iff.1 h).1
theorem QdB.grow (h : QdB w g a p b q) (k : Grow w w') : QdB w' g a p b q := (k.block g h.lt).trans h
theorem QdB.c0 (h : QdB w g a p b q) : w.cell? ⟨g, 0, none⟩ = some (.int .u32 a) := (cell_of_row w g 0 _ _ _ h).trans rfl
theorem QdB.c1 (h : QdB w g a p b q) : w.cell? ⟨g, 1, none⟩ = some (.int .u16 p) := (cell_of_row w g 1 _ _ _ h).trans rfl
theorem QdB.c2 (h : QdB w g a p b q) : w.cell? ⟨g, 2, none⟩ = some (.int .u32 b) := (cell_of_row w g 2 _ _ _ h).trans rfl
theorem QdB.c3 (h : QdB w g a p b q) : w.cell? ⟨g, 3, none⟩ = some (.int .u16 q) := (cell_of_row w g 3 _ _ _ h).trans rfl
end
/-- The boxes of a table and an end. -/
theorem two_te (w : World) (cs : Array Value) (a p : Int) {W : World} (hW : W = (w.alloc (.cells cs 32)).alloc (.cells #[.int .u32 a, .int .u16 p] 40)) : W.heap[w.heap.size]? = some (.cells cs 32 (0, 0)) ∧ EdB W (w.heap.size + 1) a p ∧ Grow w W := by
  subst hW
  have s1 : (w.alloc (.cells cs 32)).heap.size = w.heap.size + 1 := Array.size_push _
  have h1 := heap_alloc_new w (.cells cs 32)
  have h2 := heap_alloc_new (w.alloc (.cells cs 32)) (.cells #[.int .u32 a, .int .u16 p] 40)
  rw [s1] at h2
  exact ⟨((Grow.alloc (w.alloc (.cells cs 32)) _).block _ (by omega)).trans h1, h2, (Grow.alloc _ _).trans (Grow.alloc _ _)⟩
theorem two_tq (w : World) (cs : Array Value) (a p b q : Int) {W : World} (hW : W = (w.alloc (.cells cs 32)).alloc (.cells #[.int .u32 a, .int .u16 p, .int .u32 b, .int .u16 q] 42)) : W.heap[w.heap.size]? = some (.cells cs 32 (0, 0)) ∧ QdB W (w.heap.size + 1) a p b q ∧ Grow w W := by
  subst hW
  have s1 : (w.alloc (.cells cs 32)).heap.size = w.heap.size + 1 := Array.size_push _
  have h1 := heap_alloc_new w (.cells cs 32)
  have h2 := heap_alloc_new (w.alloc (.cells cs 32)) (.cells #[.int .u32 a, .int .u16 p, .int .u32 b, .int .u16 q] 42)
  rw [s1] at h2
  exact ⟨((Grow.alloc (w.alloc (.cells cs 32)) _).block _ (by omega)).trans h1, h2, (Grow.alloc _ _).trans (Grow.alloc _ _)⟩
theorem results_t1 {fn : Func} {p : Tmp} (h : fn.results = #[.cell p 32]) (tmps : Array Value) (w : World) (g : Nat) (lo hi la : Int) (vB vJ : Value) (ht : tmps.getD p undef = .pointer (some ⟨g, 0, none⟩)) (hb : TbB w g lo hi la vB vJ) :
    (results fn tmps).run Try.prog w = .ok (.agg (tbA lo hi la vB vJ)) w := results_cell_row h tmps w g _ _ _ _ ht hb Try.underlying32 rfl sizeTb
theorem rNewT (w : World) (lo hi : Int) : Calls Try.prog 9 #[.int .i64 lo, .int .i64 hi] w fun e w' => ∃ v, e = .returned v ∧ RTb w' w.heap.size v (noneT lo hi) ∧ Grow w w' := by
  go_enter Try.func9, Try.ntmps9
  go_wp2_with fail
  refine bodyPost_ret (results_t1 rfl _ _ w.heap.size lo hi hi (.slice none 0 0) (.slice none 0 0) rfl (heap_alloc_new w _)) rfl ?_
  exact ⟨_, rfl, ⟨_, _, rfl, owg_none _ _, owg_none _ _⟩, Grow.alloc _ _⟩
theorem clash_no {e : Ed} {b : Bd} (h : b.e.po ≠ e.po ∨ (b.e.ad ≠ e.ad ∧ b.e.ad ≠ 0 ∧ e.ad ≠ 0)) : ¬ clash e b := by
  rintro ⟨h1, h2⟩
  rcases h with h | ⟨a, b, c⟩
  · exact h h1
  · rcases h2 with q | q | q
    · exact a q
    · exact b q
    · exact c q
set_option maxRecDepth 10000 in
set_option maxHeartbeats 1000000 in
theorem rTakenT (w : World) (base : Nat) (lo hi la : Int) (vB vJ : Value) (B : List Bd) (hB : Bds w base vB B) (hl : B.length ≤ 1024) (e : Ed) : Calls Try.prog 29 #[.agg (tbA lo hi la vB vJ), .agg #[.int .u32 e.ad, .int .u16 e.po]] w fun e' w' => e' = .returned (.bool (decide (takenT B e))) ∧ Grow w w' := by
  obtain ⟨ea, ep⟩ := e
  obtain ⟨W, hW⟩ : ∃ W, W = (w.alloc (.cells (tbA lo hi la vB vJ) 32)).alloc (.cells #[.int .u32 ea, .int .u16 ep] 40) := ⟨_, rfl⟩
  obtain ⟨hT, hE, hg⟩ := two_te w _ ea ep hW
  have HT : Hid (TbB W w.heap.size lo hi la vB vJ ∧ EdB W (w.heap.size + 1) ea ep ∧ Grow w W) := ⟨hT, hE, hg⟩
  have HB := Lib.hid (hB.rd.grow hg)
  obtain ⟨A, cp, hvb, _⟩ := hB.rd.form
  obtain ⟨N, hN⟩ : ∃ N, N = B.length := ⟨_, rfl⟩
  rw [← hN] at hvb
  have HN := Lib.hid (And.intro hN hl)
  subst hvb
  clear hT hE hg hB hN hl
  go_enter Try.func29, Try.ntmps29
  go_upto_region 1 with fail
  rw [← hW]
  have HW := Lib.hid hW
  clear hW
  go_wp2_with fail
  go_loopg [5] N (fun gk s5 wr => ∃ i : Nat, gk = N - i ∧ s5 = .int .i64 (i : Int) ∧ Hid (i ≤ N ∧ Grow W wr ∧ ∀ j y, j < i → B[j]? = some y → ¬ clash ⟨ea, ep⟩ y))
  case atStart => exact ⟨0, rfl, rfl, Nat.zero_le _, Grow.refl _, fun j y hj => absurd hj (Nat.not_lt_zero _)⟩
  case round =>
    obtain ⟨i, rfl, rfl, HR⟩ := hrel
    rename World => wo
    have t3 := (HT.out.1.grow HR.out.2.1).c3
    rcases Nat.lt_or_ge i N with hlt | hge
    · obtain ⟨b, off, c', e1, hb, hc⟩ := Bds.cells HB.out (by have := HN.out.1; omega)
      obtain ⟨x, hx⟩ : ∃ x, B[i]? = some x := ⟨_, List.getElem?_eq_getElem (by have := HN.out.1; omega)⟩
      obtain ⟨x0, x1, _⟩ := hc i x hx
      have e2 : A = some ⟨b, off, none⟩ := by injection e1
      have y0 := (HR.out.2.1.cell (p := ⟨b, off + i * 3, none⟩) hb).trans x0
      have y1 := (HR.out.2.1.cell (p := ⟨b, off + i * 3 + 1, none⟩) hb).trans x1
      have i1 : (i : Int) < (N : Int) := by omega
      have ib : i < 1024 := by have := HN.out; omega
      subst e2
      obtain ⟨⟨xa, xp⟩, xo⟩ := x
      simp only at y0 y1
      have HXx := Lib.hid (And.intro hx hlt)
      clear e1 hc hx x0 x1 hb hlt
      go_upto_region 5 with fail
      obtain ⟨wB, hwB⟩ : ∃ wB, wB = wo.alloc (.cells #[.int .u32 xa, .int .u16 xp] 40) := ⟨_, rfl⟩
      rw [← hwB]
      obtain ⟨gB, hgB⟩ : ∃ gB, gB = wo.heap.size := ⟨_, rfl⟩
      rw [← hgB]
      have g2 : Grow wo wB := by rw [hwB]; exact Grow.alloc _ _
      have hbx : EdB wB gB xa xp := by rw [hwB, hgB]; exact heap_alloc_new wo _
      have z0 := hbx.c0
      have z1 := hbx.c1
      have E2 := HT.out.2.1.grow (HR.out.2.1.trans g2)
      have z2 := E2.c0
      have z3 := E2.c1
      have HG := Lib.hid (HR.out.2.1.trans g2)
      clear hwB hgB g2 hbx E2 t3 y0 y1
      by_cases q0 : xp = ep
      · subst q0
        by_cases q1 : xa = ea
        · subst q1
          have HE : Hid (decide (takenT B ⟨xa, xp⟩) = true) := decide_eq_true ⟨_, List.mem_iff_getElem?.2 ⟨i, HXx.out.1⟩, rfl, .inl rfl⟩
          go_wp2_with fail
          go_ret
          exact ⟨by rw [HE.out]; rfl, Grow.trans HT.out.2.2 HG.out⟩
        have r1 : (xa == ea) = false := beq_eq_false_iff_ne.2 q1
        by_cases q2 : xa = 0
        · subst q2
          have HE : Hid (decide (takenT B ⟨ea, xp⟩) = true) := decide_eq_true ⟨_, List.mem_iff_getElem?.2 ⟨i, HXx.out.1⟩, rfl, .inr (.inl rfl)⟩
          go_wp2_with fail
          go_ret
          exact ⟨by rw [HE.out]; rfl, Grow.trans HT.out.2.2 HG.out⟩
        have r2 : (xa == 0) = false := beq_eq_false_iff_ne.2 q2
        by_cases q3 : ea = 0
        · subst q3
          have HE : Hid (decide (takenT B ⟨0, xp⟩) = true) := decide_eq_true ⟨_, List.mem_iff_getElem?.2 ⟨i, HXx.out.1⟩, rfl, .inr (.inr rfl)⟩
          go_wp2_with fail
          go_ret
          exact ⟨by rw [HE.out]; rfl, Grow.trans HT.out.2.2 HG.out⟩
        have r3 : (ea == 0) = false := beq_eq_false_iff_ne.2 q3
        have HNo : Hid (¬ clash ⟨ea, xp⟩ ⟨⟨xa, xp⟩, xo⟩) := clash_no (.inr ⟨q1, q2, q3⟩)
        clear q1 q2 q3
        go_wp2_with fail
        go_roundg (N - (i + 1))
        case measure => have := HXx.out.2; omega
        case rel => exact ⟨i + 1, rfl, by go_num, by have := HXx.out.2; omega, HG.out, fun j y hj hy => by
          rcases Nat.lt_or_ge j i with h | h
          · exact HR.out.2.2 j y h hy
          · obtain rfl : j = i := by omega
            have := HXx.out.1
            rw [this] at hy
            cases hy
            exact HNo.out⟩
      · have r0 : (xp == ep) = false := beq_eq_false_iff_ne.2 q0
        have HNo : Hid (¬ clash ⟨ea, ep⟩ ⟨⟨xa, xp⟩, xo⟩) := clash_no (.inl q0)
        clear q0
        go_wp2_with fail
        go_roundg (N - (i + 1))
        case measure => have := HXx.out.2; omega
        case rel => exact ⟨i + 1, rfl, by go_num, by have := HXx.out.2; omega, HG.out, fun j y hj hy => by
          rcases Nat.lt_or_ge j i with h | h
          · exact HR.out.2.2 j y h hy
          · obtain rfl : j = i := by omega
            have := HXx.out.1
            rw [this] at hy
            cases hy
            exact HNo.out⟩
    · obtain rfl : i = N := by have := HR.out.1; omega
      have hno : ¬ takenT B ⟨ea, ep⟩ := by
        rintro ⟨b, hb, hc⟩
        obtain ⟨j, hj⟩ := List.mem_iff_getElem?.1 hb
        exact HR.out.2.2 j b (by have := (List.getElem?_eq_some_iff.1 hj).1; have := HN.out.1; omega) hj hc
      have HE : Hid (decide (takenT B ⟨ea, ep⟩) = false) := decide_eq_false hno
      have HG := Lib.hid HR.out.2.1
      clear hno
      go_wp2_with fail
      go_ret
      exact ⟨by rw [HE.out]; rfl, Grow.trans HT.out.2.2 HG.out⟩
end Go.Proofs.Ytkilfdhofbjkgaa
