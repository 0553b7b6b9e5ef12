/- Contracts: cmp.Compare, byCost, slices.BinarySearchFunc, search, empty. -/
import Derived.Test.YtfdoofkofljgnaaRtLine
import Derived.Test.YtfdoofkofljgnaaGw
import Derived.Shelf.Abstract
namespace Go.Proofs.Ytfdoofkofljgnaa
set_option linter.unusedVariables false
set_option linter.unusedSimpArgs false
open Go.ChangeShapes Go.WideShapes Go.ChangeAt Go.RowKit Go.Shelf

def cmpI (x y : Int) : Int := if x < y then -1 else if y < x then 1 else 0
theorem cmpI_lt {x y : Int} : cmpI x y < 0 ↔ x < y := by
  unfold cmpI
  rcases Int.lt_trichotomy x y with h | h | h
  · rw [if_pos h]; omega
  · rw [if_neg (by omega), if_neg (by omega)]; omega
  · rw [if_neg (by omega), if_pos h]; omega
theorem cmpI_eq {x y : Int} : cmpI x y = 0 ↔ x = y := by
  unfold cmpI
  rcases Int.lt_trichotomy x y with h | h | h
  · rw [if_pos h]; omega
  · rw [if_neg (by omega), if_neg (by omega)]; omega
  · rw [if_neg (by omega), if_pos h]; omega

theorem isNaN_any (x : Int) (w : World) : Calls Try.prog 50 #[.int .i64 x] w fun e w' => e = .returned (.bool false) ∧ w = w' := by
  go_enter Try.func50, Try.ntmps50
  go_wp2_with fail
  go_ret
  exact ⟨by simp, rfl⟩
theorem Compare_any (x y : Int) (w : World) : Calls Try.prog 46 #[.int .i64 x, .int .i64 y] w fun e w' => e = .returned (.int .i64 (cmpI x y)) ∧ w = w' := by
  unfold cmpI
  rcases Int.lt_trichotomy x y with h | h | h
  · have d1 : decide (x < y) = true := decide_eq_true h
    rw [if_pos h]
    go_enter Try.func46, Try.ntmps46
    go_wp2_with (go_at_call 50; refine (isNaN_any _ _).mono ?_; rintro e w' ⟨rfl, rfl⟩)
    go_ret
    exact ⟨rfl, rfl⟩
  · subst h
    rw [if_neg (by omega), if_neg (by omega)]
    have d1 : decide (x < x) = false := decide_eq_false (by omega)
    go_enter Try.func46, Try.ntmps46
    go_wp2_with (go_at_call 50; refine (isNaN_any _ _).mono ?_; rintro e w' ⟨rfl, rfl⟩)
    go_ret
    exact ⟨rfl, rfl⟩
  · rw [if_neg (by omega), if_pos h]
    have d1 : decide (x < y) = false := decide_eq_false (by omega)
    have d2 : decide (y < x) = true := decide_eq_true h
    go_enter Try.func46, Try.ntmps46
    go_wp2_with (go_at_call 50; refine (isNaN_any _ _).mono ?_; rintro e w' ⟨rfl, rfl⟩)
    go_ret
    exact ⟨rfl, rfl⟩
set_option maxHeartbeats 400000 in
theorem byCost_at (x y : Rt) (w : World) : Calls Try.prog 42 #[rtV x, rtV y] w fun e w' => e = .returned (.int .i64 (cmpI x.cost y.cost)) ∧
    w' = (w.alloc (.cells #[.int .u32 x.net, .int .i64 x.bits, .int .u32 x.via, .int .i64 x.iface, .int .i64 x.cost] 72)).alloc (.cells #[.int .u32 y.net, .int .i64 y.bits, .int .u32 y.via, .int .i64 y.iface, .int .i64 y.cost] 72) := by
  have hc := fun w => Compare_any x.cost y.cost w
  generalize cmpI x.cost y.cost = r at *
  unfold rtV
  go_enter Try.func42, Try.ntmps42
  go_wp2_with (go_at_call 46; refine (hc _).mono ?_; rintro e w' ⟨rfl, rfl⟩)
  go_ret
  exact ⟨rfl, rfl⟩
theorem byCost_any (x y : Rt) (w : World) : Calls Try.prog 42 #[rtV x, rtV y] w fun e w' => e = .returned (.int .i64 (cmpI x.cost y.cost)) ∧ Grow w w' :=
  (byCost_at x y w).mono fun _ _ ⟨he, hw⟩ => ⟨he, by rw [hw]; exact (Grow.alloc _ _).trans (Grow.alloc _ _)⟩

/-- Where a cost stands, or would. -/
structure PosOf (ws : List Rt) (c : Int) (p : Nat) : Prop where
  le : p ≤ ws.length
  lo : ∀ t (h : t < ws.length), t < p → ws[t].cost < c
  hi : ∀ t (h : t < ws.length), p ≤ t → c ≤ ws[t].cost
def foundB (ws : List Rt) (c : Int) : Bool := ws.any fun y => y.cost == c
theorem foundB_iff {ws : List Rt} {c : Int} : foundB ws c = true ↔ ∃ y ∈ ws, y.cost = c := by unfold foundB; simp
theorem PosOf.found {ws : List Rt} {c : Int} {p : Nat} (h : PosOf ws c p) (hs : ws.Pairwise fun a b => a.cost < b.cost) (hp : p < ws.length) : foundB ws c = decide (ws[p].cost = c) := by
  rw [Bool.eq_iff_iff, foundB_iff, decide_eq_true_iff]
  constructor
  · rintro ⟨y, hy, hc⟩
    obtain ⟨t, ht, rfl⟩ := List.getElem_of_mem hy
    have h1 := h.hi p hp (Nat.le_refl _)
    rcases Nat.lt_trichotomy t p with h2 | h2 | h2
    · have := h.lo t ht h2; omega
    · subst h2; exact hc
    · have := List.pairwise_iff_getElem.1 hs p t hp ht h2; omega
  · intro h2
    exact ⟨_, List.getElem_mem hp, h2⟩
theorem PosOf.not {ws : List Rt} {c : Int} {p : Nat} (h : PosOf ws c p) (hp : ws.length ≤ p) : foundB ws c = false := by
  rw [Bool.eq_false_iff]
  intro h1
  obtain ⟨y, hy, hc⟩ := foundB_iff.1 h1
  obtain ⟨t, ht, rfl⟩ := List.getElem_of_mem hy
  have := h.lo t ht (by omega)
  omega
theorem RtAt.gw {w : World} {b o : Nat} {r : Rt} (h : RtAt w b o r) (hb : b < w.heap.size) (p : Gw w) : RtAt p.v b o r := h.grow p.h hb

set_option maxRecDepth 10000 in
set_option maxHeartbeats 2000000 in
theorem BSF_any (ws : List Rt) (hs : ws.Pairwise fun a b => a.cost < b.cost) (hlen : ws.length ≤ 1000000) (v : Value) (w : World) (hv : Rts w v ws) (r : Rt) :
    Calls Try.prog 41 #[v, rtV r, .func (.func 42) #[] #[]] w fun e w' => (∃ p : Nat, PosOf ws r.cost p ∧ e = .returned (.tuple #[.int .i64 (p : Int), .bool (foundB ws r.cost)])) ∧ Grow w w' := by
  obtain ⟨A, c, rfl, hlc, hcm⟩ := hv.form
  have HB := Lib.hid (fun (x : Rt) w => byCost_any x r w)
  have HS := Lib.hid hs
  have HV := Lib.hid hv
  clear hs hv
  obtain ⟨tn, tb, tv, ti, tc⟩ := r
  have eg : ∀ args w, (callFunc 42 args).run Try.prog w = .ok (.enter 42 args) w := enters_of Try.func42 (by kernel_rfl) rfl
  unfold rtV
  go_enter Try.func41, Try.ntmps41
  go_wp2_with fail
  generalize hW : w.alloc (.cells #[.int .u32 tn, .int .i64 tb, .int .u32 tv, .int .i64 ti, .int .i64 tc] 72) = W
  have HW : Aside (Grow w W ∧ RtAt W w.heap.size 0 ⟨tn, tb, tv, ti, tc⟩ ∧ w.heap.size < W.heap.size) := by
    rw [← hW]
    refine ⟨Grow.alloc _ _, ⟨?_, ?_, ?_, ?_, ?_⟩, by simp⟩ <;> simp [World.cell?_alloc_new]
  clear hW
  go_loopg [9, 10] ws.length (fun g s9 s10 wr => ∃ i j : Nat, i ≤ j ∧ j ≤ ws.length ∧ g = j - i ∧ s9 = .int .i64 (i : Int) ∧ s10 = .int .i64 (j : Int) ∧ (∀ t (h : t < ws.length), t < i → ws[t].cost < tc) ∧ (∀ t (h : t < ws.length), j ≤ t → tc ≤ ws[t].cost) ∧ Grow W wr)
  case atStart => exact ⟨0, ws.length, Nat.zero_le _, Nat.le_refl _, by omega, rfl, rfl, fun t h h' => by omega, fun t h h' => by omega, Grow.refl _⟩
  case round =>
    obtain ⟨i, j, hij, hj, rfl, rfl, rfl, hlo, hhi, hgr⟩ := hrel
    rcases Nat.lt_or_ge i j with hlt | hge
    · obtain ⟨b, off, rfl, hb, hcell⟩ := HV.out.at_ (by omega)
      have hm : (i + j) / 2 < ws.length := by omega
      have RM : RtAt wr b (off + (i + j) / 2 * 5) ws[(i + j) / 2] := ((hcell _ hm).grow HW.out.1 hb).grow hgr (Nat.lt_of_lt_of_le hb HW.out.1.size)
      have RT : RtAt wr w.heap.size 0 ⟨tn, tb, tv, ti, tc⟩ := HW.out.2.1.grow hgr HW.out.2.2
      have hlt1 : b < wr.heap.size := Nat.lt_of_lt_of_le hb (HW.out.1.trans hgr).size
      have hlt2 : w.heap.size < wr.heap.size := Nat.lt_of_lt_of_le HW.out.2.2 hgr.size
      have A1 : Aside ((∀ t (h : t < ws.length), t < i → ws[t].cost < tc) ∧ (∀ t (h : t < ws.length), j ≤ t → tc ≤ ws[t].cost) ∧ Grow W wr) := ⟨hlo, hhi, hgr⟩
      clear hlo hhi hgr hcell hb
      generalize hx : ws[(i + j) / 2] = x at *
      have HX := Lib.hid hx
      clear hx
      have m1 : ((i : Int) + (j : Int)) / 2 = (((i + j) / 2 : Nat) : Int) := by omega
      generalize hmm : (i + j) / 2 = m at *
      have HM := Lib.hid hmm
      clear hmm
      have c0 := fun p : Gw wr => (RM.gw hlt1 p).1
      have c1 := fun p : Gw wr => (RM.gw hlt1 p).2.1
      have c2 := fun p : Gw wr => (RM.gw hlt1 p).2.2.1
      have c3 := fun p : Gw wr => (RM.gw hlt1 p).2.2.2.1
      have c4 := fun p : Gw wr => (RM.gw hlt1 p).2.2.2.2
      have d0 : ∀ p : Gw wr, p.v.cell? ⟨w.heap.size, 0, none⟩ = some (.int .u32 tn) := fun p => (RT.gw hlt2 p).1
      have d1 : ∀ p : Gw wr, p.v.cell? ⟨w.heap.size, 1, none⟩ = some (.int .i64 tb) := fun p => (RT.gw hlt2 p).2.1
      have d2 : ∀ p : Gw wr, p.v.cell? ⟨w.heap.size, 2, none⟩ = some (.int .u32 tv) := fun p => (RT.gw hlt2 p).2.2.1
      have d3 : ∀ p : Gw wr, p.v.cell? ⟨w.heap.size, 3, none⟩ = some (.int .i64 ti) := fun p => (RT.gw hlt2 p).2.2.2.1
      have d4 : ∀ p : Gw wr, p.v.cell? ⟨w.heap.size, 4, none⟩ = some (.int .i64 tc) := fun p => (RT.gw hlt2 p).2.2.2.2
      clear RM RT
      have hcall := HB.out x
      obtain ⟨xn, xb, xv, xi, xc⟩ := x
      unfold rtV at hcall
      generalize hr : cmpI xc tc = rr at *
      have HR := Lib.hid hr
      clear hr
      have hlt3 : decide ((i : Int) < (j : Int)) = true := decide_eq_true (by omega)
      by_cases hxt : xc < tc
      · have hd : decide (rr < 0) = true := decide_eq_true (by rw [← HR.out]; exact cmpI_lt.2 hxt)
        go_wp2_with fail
        refine wp_region_gw (by kernel_rfl) (by kernel_rfl) ?_
        repeat (quiet_step ((go_at_call 42; exact Calls.gw (hcall _))))
        refine wpQuiet_nil ?_
        intro _ hw'
        obtain ⟨⟨wq, hgq⟩, hw2⟩ := hw'
        subst hw2
        go_wp2_with fail
        go_roundg (j - (m + 1))
        case measure => omega
        case rel =>
          refine ⟨m + 1, j, by omega, hj, rfl, by go_num, rfl, fun t h h' => ?_, A1.out.2.1, A1.out.2.2.trans hgq⟩
          have e1 : ws[m].cost = xc := by rw [HX.out]
          rcases Nat.lt_or_ge t m with h1 | h1
          · have := List.pairwise_iff_getElem.1 HS.out t m h hm h1
            omega
          · obtain rfl : t = m := by omega
            omega
      · have hd : decide (rr < 0) = false := decide_eq_false (by rw [← HR.out]; exact fun h => hxt (cmpI_lt.1 h))
        go_wp2_with fail
        refine wp_region_gw (by kernel_rfl) (by kernel_rfl) ?_
        repeat (quiet_step ((go_at_call 42; exact Calls.gw (hcall _))))
        refine wpQuiet_nil ?_
        intro _ hw'
        obtain ⟨⟨wq, hgq⟩, hw2⟩ := hw'
        subst hw2
        go_wp2_with fail
        go_roundg (m - i)
        case measure => omega
        case rel =>
          refine ⟨i, m, by omega, by omega, rfl, rfl, rfl, A1.out.1, fun t h h' => ?_, A1.out.2.2.trans hgq⟩
          have e1 : ws[m].cost = xc := by rw [HX.out]
          rcases Nat.lt_or_ge m t with h1 | h1
          · have := List.pairwise_iff_getElem.1 HS.out m t hm h h1
            omega
          · obtain rfl : t = m := by omega
            omega
    · obtain rfl : i = j := by omega
      have hP : PosOf ws tc i := ⟨hj, hlo, hhi⟩
      have hlt3 : decide ((i : Int) < (i : Int)) = false := decide_eq_false (by omega)
      rcases Nat.lt_or_ge i ws.length with hin | hin
      · obtain ⟨b, off, rfl, hb, hcell⟩ := HV.out.at_ (by omega)
        have hf := hP.found HS.out hin
        have RM : RtAt wr b (off + i * 5) ws[i] := ((hcell _ hin).grow HW.out.1 hb).grow hgr (Nat.lt_of_lt_of_le hb HW.out.1.size)
        have RT : RtAt wr w.heap.size 0 ⟨tn, tb, tv, ti, tc⟩ := HW.out.2.1.grow hgr HW.out.2.2
        have hlt1 : b < wr.heap.size := Nat.lt_of_lt_of_le hb (HW.out.1.trans hgr).size
        have hlt2 : w.heap.size < wr.heap.size := Nat.lt_of_lt_of_le HW.out.2.2 hgr.size
        generalize ws[i] = x at *
        have A1 : Aside (PosOf ws tc i ∧ foundB ws tc = decide (x.cost = tc) ∧ Grow W wr) := ⟨hP, hf, hgr⟩
        clear hlo hhi hgr hcell hb hP hf
        have c0 := fun p : Gw wr => (RM.gw hlt1 p).1
        have c1 := fun p : Gw wr => (RM.gw hlt1 p).2.1
        have c2 := fun p : Gw wr => (RM.gw hlt1 p).2.2.1
        have c3 := fun p : Gw wr => (RM.gw hlt1 p).2.2.2.1
        have c4 := fun p : Gw wr => (RM.gw hlt1 p).2.2.2.2
        have d0 : ∀ p : Gw wr, p.v.cell? ⟨w.heap.size, 0, none⟩ = some (.int .u32 tn) := fun p => (RT.gw hlt2 p).1
        have d1 : ∀ p : Gw wr, p.v.cell? ⟨w.heap.size, 1, none⟩ = some (.int .i64 tb) := fun p => (RT.gw hlt2 p).2.1
        have d2 : ∀ p : Gw wr, p.v.cell? ⟨w.heap.size, 2, none⟩ = some (.int .u32 tv) := fun p => (RT.gw hlt2 p).2.2.1
        have d3 : ∀ p : Gw wr, p.v.cell? ⟨w.heap.size, 3, none⟩ = some (.int .i64 ti) := fun p => (RT.gw hlt2 p).2.2.2.1
        have d4 : ∀ p : Gw wr, p.v.cell? ⟨w.heap.size, 4, none⟩ = some (.int .i64 tc) := fun p => (RT.gw hlt2 p).2.2.2.2
        clear RM RT
        have hcall := HB.out x
        obtain ⟨xn, xb, xv, xi, xc⟩ := x
        unfold rtV at hcall
        generalize hr : cmpI xc tc = rr at *
        have HR := Lib.hid hr
        clear hr
        have hd1 : decide ((i : Int) < (ws.length : Int)) = true := decide_eq_true (by omega)
        have he : (rr == 0) = foundB ws tc := by
          rw [A1.out.2.1, ← HR.out, Bool.eq_iff_iff, beq_iff_eq, decide_eq_true_iff]
          exact cmpI_eq
        go_wp2_with fail
        refine wp_region_gw (by kernel_rfl) (by kernel_rfl) ?_
        repeat (quiet_step ((go_at_call 42; exact Calls.gw (hcall _))))
        refine wpQuiet_nil ?_
        intro _ hw'
        obtain ⟨⟨wq, hgq⟩, hw2⟩ := hw'
        subst hw2
        go_wp2_with fail
        go_ret2
        exact ⟨⟨i, A1.out.1, rfl⟩, HW.out.1.trans (A1.out.2.2.trans hgq)⟩
      · have hf := hP.not hin
        have A1 : Aside (PosOf ws tc i ∧ foundB ws tc = false ∧ Grow W wr) := ⟨hP, hf, hgr⟩
        clear hlo hhi hgr hP hf
        obtain rfl : i = ws.length := by omega
        clear hin hj hlt3 hij
        go_wp2_with fail
        go_region
        all_goals go_wp2_with fail
        all_goals go_ret2
        all_goals exact ⟨⟨ws.length, A1.out.1, by rw [A1.out.2.1]; rfl⟩, HW.out.1.trans (A1.out.2.2.trans ⟨rfl, rfl, rfl, Nat.le_refl _, fun _ _ => rfl⟩)⟩

/-- The route with this cost, in a node. -/
theorem PosOf.at_ {ws : List Rt} {c : Int} {p : Nat} (h : PosOf ws c p) (hs : ws.Pairwise fun a b => a.cost < b.cost) (hf : foundB ws c = true) : ∃ hp : p < ws.length, ws[p].cost = c := by
  rcases Nat.lt_or_ge p ws.length with hp | hp
  · refine ⟨hp, ?_⟩
    rw [h.found hs hp] at hf
    exact of_decide_eq_true hf
  · rw [h.not hp] at hf
    cases hf

end Go.Proofs.Ytfdoofkofljgnaa
