/- Contract: the reference's Put. -/
import Derived.Test.YtkblgigpgpjjlaaUdRef1
import Derived.Test.YtkblgigpgpjjlaaPhase
namespace Go.Proofs.Ytkblgigpgpjjlaa
set_option linter.unusedVariables false
set_option linter.unusedSimpArgs false
attribute [local irreducible] wpQuiet
open Go.ChangeShapes Go.WideShapes Go.ChangeAt Go.RowKit

theorem results_u2 {fn : Func} {p u : Tmp} (h : fn.results = #[.cell p 37, .tmp u]) (tmps : Array Value) (w : World) (g : Nat) (most room pa pp : Int) (vL : Value) (lost told : Int) (y : Value) (ht : tmps.getD p undef = .pointer (some ⟨g, 0, none⟩)) (hy : tmps.getD u undef = y) (hb : UbB w g most room pa pp vL lost told) :
    (results fn tmps).run Try.prog w = .ok (.tuple #[.agg (ubA most room pa pp vL lost told), y]) w := by
  have ht' : tmps[p]?.getD undef = .pointer (some ⟨g, 0, none⟩) := by simpa using ht
  have e1 := run_loadVar_row w g 37 37 (ubA most room pa pp vL lost told) (0, 0) _ hb Try.underlying37 rfl sizeUb
  have hy' : tmps[u]?.getD undef = y := by simpa using hy
  simp [results, h, ht', asAddr, e1, hy']
/-- A datagram in a box. -/
def MlB (w : World) (g : Nat) (a p : Int) (v : Value) : Prop := w.heap[g]? = some (.cells #[.int .u32 a, .int .u16 p, v] 40 (0, 0))
section
variable {w w' : World} {g : Nat} {a p : Int} {v : Value}
theorem MlB.lt (h : MlB w g a p v) : g < w.heap.size := (Array.getElem?_eq_some_iff.1 h).1
theorem MlB.grow (h : MlB w g a p v) (k : Grow w w') : MlB w' g a p v := (k.block g h.lt).trans h
theorem MlB.c0 (h : MlB w g a p v) : w.cell? ⟨g, 0, none⟩ = some (.int .u32 a) := (cell_of_row w g 0 _ _ _ h).trans rfl
theorem MlB.c1 (h : MlB w g a p v) : w.cell? ⟨g, 1, none⟩ = some (.int .u16 p) := (cell_of_row w g 1 _ _ _ h).trans rfl
theorem MlB.c2 (h : MlB w g a p v) : w.cell? ⟨g, 2, none⟩ = some v := (cell_of_row w g 2 _ _ _ h).trans rfl
end
/-- The boxes of a call: the box that came in, a datagram, the box that goes out. -/
structure TrU (w W : World) (most room pa pp : Int) (vL : Value) (lost told a p : Int) (mv : Value) : Prop where
  t : UbB W w.heap.size most room pa pp vL lost told
  e : MlB W (w.heap.size + 1) a p mv
  r : UbB W (w.heap.size + 2) 0 0 0 0 (.slice none 0 0) 0 0
  g : Grow w W
theorem trU (w : World) (most room pa pp : Int) (vL : Value) (lost told a p : Int) (mv : Value) {W : World} (hW : W = ((w.alloc (.cells (ubA most room pa pp vL lost told) 37)).alloc (.cells #[.int .u32 a, .int .u16 p, mv] 40)).alloc (.cells (ubA 0 0 0 0 (.slice none 0 0) 0 0) 37)) : TrU w W most room pa pp vL lost told a p mv := by
  obtain ⟨U, hU⟩ : ∃ U, U = w.alloc (.cells (ubA most room pa pp vL lost told) 37) := ⟨_, rfl⟩
  obtain ⟨V, hV⟩ : ∃ V, V = U.alloc (.cells #[.int .u32 a, .int .u16 p, mv] 40) := ⟨_, rfl⟩
  rw [← hU, ← hV] at hW
  have s1 : U.heap.size = w.heap.size + 1 := by rw [hU]; exact Array.size_push _
  have s2 : V.heap.size = w.heap.size + 2 := by rw [hV]; show (U.heap.push _).size = _; rw [Array.size_push, s1]
  have gU : Grow w U := by rw [hU]; exact Grow.alloc _ _
  have gV : Grow U V := by rw [hV]; exact Grow.alloc _ _
  have gW : Grow V W := by rw [hW]; exact Grow.alloc _ _
  have h1 : UbB U w.heap.size most room pa pp vL lost told := by rw [hU]; exact heap_alloc_new w _
  have h2 : MlB V (w.heap.size + 1) a p mv := by rw [hV, ← s1]; exact heap_alloc_new U _
  have h3 : UbB W (w.heap.size + 2) 0 0 0 0 (.slice none 0 0) 0 0 := by rw [hW, ← s2]; exact heap_alloc_new V _
  exact ⟨h1.grow (gV.trans gW), h2.grow gW, h3, gU.trans (gV.trans gW)⟩
section
variable {w W W' : World} {most room pa pp lost told a p : Int} {vL mv : Value}
theorem TrU.grow (h : TrU w W most room pa pp vL lost told a p mv) (g : Grow W W') : TrU w W' most room pa pp vL lost told a p mv := ⟨h.t.grow g, h.e.grow g, h.r.grow g, h.g.trans g⟩
theorem TrU.set4 (h : TrU w W most room pa pp vL lost told a p mv) (u : Value) : TrU w (W.setCell ⟨w.heap.size, 4, none⟩ u) most room pa pp u lost told a p mv :=
  ⟨h.t.set4 u, (Below.heap_setCell _ _ _ _ (by simp)).trans h.e, (Below.heap_setCell _ _ _ _ (by simp)).trans h.r, Below.setCell h.g (Nat.le_refl _) u⟩
theorem TrU.set5 (h : TrU w W most room pa pp vL lost told a p mv) (n : Int) : TrU w (W.setCell ⟨w.heap.size, 5, none⟩ (.int .i64 n)) most room pa pp vL n told a p mv :=
  ⟨h.t.set5 n, (Below.heap_setCell _ _ _ _ (by simp)).trans h.e, (Below.heap_setCell _ _ _ _ (by simp)).trans h.r, Below.setCell h.g (Nat.le_refl _) _⟩
theorem mc_row {base b' m N : Nat} {v : Value} {l : List Mc} {x : Mc} (h : w.ownsRow b' 40 3 v m (l.flatMap mcC.f ++ mcC.f x)) (hN : N = l.length) (hm : m = 0 + N + 1) (hb : base ≤ b') : Mcs w base v (l ++ [x]) := by
  refine OfG.of_own (OwG.base_ (owg_app (c := mcC) (l := l) (l' := [x]) (n := m) ?_ (by rw [hm, hN]; simp)) hb)
  rw [List.flatMap_cons, List.flatMap_nil, List.append_nil]
  exact h
end
theorem puE_cases (u : Ub) (m : Ml) : (¬ letsS u.pe m.f ∧ puE u m = 6 ∧ puU u m = u) ∨ (letsS u.pe m.f ∧ u.most ≤ (u.L.length : Int) ∧ puE u m = 5 ∧ puU u m = { u with lost := u.lost + 1 }) ∨ (letsS u.pe m.f ∧ ¬ u.most ≤ (u.L.length : Int) ∧ u.room < ((heldL u.L + m.d.length : Nat) : Int) ∧ puE u m = 5 ∧ puU u m = { u with lost := u.lost + 1 })
    ∨ (letsS u.pe m.f ∧ ¬ u.most ≤ (u.L.length : Int) ∧ ¬ u.room < ((heldL u.L + m.d.length : Nat) : Int) ∧ puE u m = 0 ∧ puU u m = { u with L := u.L ++ [m] }) := by
  unfold puE puU
  by_cases q : letsS u.pe m.f
  · have q' : ¬ ¬ letsS u.pe m.f := fun k => k q
    by_cases q1 : u.most ≤ (u.L.length : Int)
    · have f : fullU u m := .inl q1
      exact .inr (.inl ⟨q, q1, (if_neg q').trans (if_pos f), (if_neg q').trans (if_pos f)⟩)
    by_cases q2 : u.room < ((heldL u.L + m.d.length : Nat) : Int)
    · have f : fullU u m := .inr q2
      exact .inr (.inr (.inl ⟨q, q1, q2, (if_neg q').trans (if_pos f), (if_neg q').trans (if_pos f)⟩))
    · have f : ¬ fullU u m := fun k => k.elim q1 q2
      exact .inr (.inr (.inr ⟨q, q1, q2, (if_neg q').trans (if_neg f), (if_neg q').trans (if_neg f)⟩))
  · exact .inl ⟨q, if_pos q, if_pos q⟩
set_option maxRecDepth 10000 in
set_option maxHeartbeats 4000000 in
theorem rPutU (w0 w : World) (hw0 : Grow w0 w) (base : Nat) (hbase : base ≤ w.heap.size) (Q : Nat → Prop) (hQ : ∀ k, w.heap.size ≤ k → Q k) (v : Value) (u : Ub) (h : RUb w0 w base Q v u) (ok : UOk u) (hlo : 0 ≤ u.lost ∧ u.lost ≤ 1000000000) (m : Mc) (hm : Byt w0 m.v m.d) (hmn : m.n ≤ 1000000000) : Calls Try.prog 11 #[v, .agg #[.int .u32 m.f.ad, .int .u16 m.f.po, .slice m.A m.n m.c]] w fun e' w' => ∃ v', e' = .returned (.tuple #[v', .int .i64 (puE u m.ml)]) ∧ RUb w0 w' base Q v' (puU u m.ml) ∧ Grow w w' := by
  obtain ⟨vB, l, rfl, hB, hl, hR, hq⟩ := h
  have HQ := Lib.hid (And.intro hQ hq)
  clear hQ hq
  obtain ⟨most, room, ⟨pa, pp⟩, L, lost, told⟩ := u
  obtain ⟨⟨a, p⟩, mA, mn, mc, md⟩ := m
  simp only at hB hl
  subst hl
  have o1 := ok.len
  have o2 := ok.held
  have o3 := ok.most
  have o4 := ok.room
  simp only [List.length_map] at o1 o2 o3 o4
  obtain ⟨W, hW⟩ : ∃ W, W = ((w.alloc (.cells (ubA most room pa pp vB lost told) 37)).alloc (.cells #[.int .u32 a, .int .u16 p, .slice mA mn mc] 40)).alloc (.cells (ubA 0 0 0 0 (.slice none 0 0) 0 0) 37) := ⟨_, rfl⟩
  have HT := Lib.hid (trU w most room pa pp vB lost told a p (.slice mA mn mc) hW)
  obtain ⟨RB, hRB⟩ : ∃ RB, RB = w.heap.size + 2 := ⟨_, rfl⟩
  have HRB := Lib.hid hRB
  have H1 := Lib.hid (fun x => ub_ones hB most room pa pp x told)
  have HR := Lib.hid (And.intro hB hR)
  have hmd : mn = md.length := Reads.len (w := w0) (l := [⟨⟨a, p⟩, mA, mn, mc, md⟩]) (fun x hx => by rw [List.mem_singleton.1 hx]; exact hm) (List.mem_singleton.2 rfl)
  have z0 := HT.out.e.c0
  have z1 := HT.out.e.c1
  have cT := rLetsU W most room pa pp vB lost told ⟨a, p⟩
  rcases puE_cases ⟨most, room, ⟨pa, pp⟩, l.map Mc.ml, lost, told⟩ (Mc.ml ⟨⟨a, p⟩, mA, mn, mc, md⟩) with ⟨q1, q2, q3⟩ | ⟨q1, q4, q2, q3⟩ | ⟨q1, q4, q5, q2, q3⟩ | ⟨q1, q4, q5, q2, q3⟩
  · have q1' : ¬ letsS ⟨pa, pp⟩ ⟨a, p⟩ := q1
    rw [decide_eq_false q1'] at cT
    have HE := Lib.hid (And.intro q2 q3)
    clear q1 q1' q2 q3 hB hR hm o1 o2 o3 o4 ok hmd
    go_enter Try.func11, Try.ntmps11
    go_upto_region 1 with fail
    rw [← hW, ← hRB]
    have HW := Lib.hid hW
    clear hW hRB
    go_wp2_with (show wpList _ _ _ (⟨some 6, .load 37 (.tmp 2), _, _, _, _⟩ :: _) _ _; refine wpList_load_u W rfl _ rfl w.heap.size most room pa pp vB lost told rfl HT.out.t ?_)
    refine cT.mono ?_
    rintro e w5 ⟨rfl, g5⟩
    have HT5 := Lib.hid (HT.out.grow g5)
    clear cT g5 z0 z1
    go_wp2_with (first
      | (show wpList _ _ _ (⟨some 11, .load 37 (.tmp 2), _, _, _, _⟩ :: _) _ _; refine wpList_load_u w5 rfl _ rfl w.heap.size most room pa pp vB lost told rfl HT5.out.t ?_)
      | (show wpList _ _ _ (⟨none, .store 37 (.tmp 4) (.tmp 11), _, _, _, _⟩ :: _) _ _; refine wpList_store_u w w5 rfl _ _ rfl rfl RB most room pa pp vB lost told (ubA 0 0 0 0 (.slice none 0 0) 0 0) rfl rfl (by rw [HRB.out]; exact HT5.out.r) rfl (H1.out lost) HT5.out.g (by have := HRB.out; omega) ?_; intro w2 hb2 hk2 hg2; have H2 := Lib.hid (And.intro hb2 (And.intro hk2 hg2)); clear hb2 hk2 hg2))
    refine bodyPost_ret (results_u2 rfl _ _ RB most room pa pp vB lost told _ rfl rfl H2.out.1) rfl ?_
    exact ⟨_, by rw [HE.out.1]; rfl, by rw [HE.out.2]; exact ⟨_, l, rfl, HR.out.1.grow H2.out.2.2, rfl, HR.out.2, HQ.out.2⟩, H2.out.2.2⟩
  · have q1' : letsS ⟨pa, pp⟩ ⟨a, p⟩ := q1
    rw [decide_eq_true q1'] at cT
    have HE := Lib.hid (And.intro q2 q3)
    obtain ⟨A, cp, hvb, _⟩ := hB.rd.form
    obtain ⟨N, hN⟩ : ∃ N, N = l.length := ⟨_, rfl⟩
    rw [← hN] at hvb
    have r1 : decide (most ≤ (N : Int)) = true := decide_eq_true (by have := q4; simp only [List.length_map] at this; omega)
    have hw1 : IntKind.i64.wrap (lost + 1) = lost + 1 := IntWalk.i64_in _ (by have := hlo.1; have := hlo.2; simp only at *; omega)
    subst hvb
    clear q1 q1' q2 q3 q4 hB hR hm o1 o2 o3 o4 ok hmd hN
    go_enter Try.func11, Try.ntmps11
    go_upto_region 1 with fail
    rw [← hW, ← hRB]
    have HW := Lib.hid hW
    clear hW hRB
    go_wp2_with (show wpList _ _ _ (⟨some 6, .load 37 (.tmp 2), _, _, _, _⟩ :: _) _ _; refine wpList_load_u W rfl _ rfl w.heap.size most room pa pp (.slice A N cp) lost told rfl HT.out.t ?_)
    refine cT.mono ?_
    rintro e w5 ⟨rfl, g5⟩
    have HT5 := Lib.hid (HT.out.grow g5)
    clear cT g5 z0 z1
    have k0 := fun q : Gw w5 => Gw.cell (p := q) (a := ⟨w.heap.size, 0, none⟩) HT5.out.t.lt HT5.out.t.c0
    have k4 := fun q : Gw w5 => Gw.cell (p := q) (a := ⟨w.heap.size, 4, none⟩) HT5.out.t.lt HT5.out.t.c4
    go_upto_region 3 with fail
    refine wp_region_gw (by kernel_rfl) (by kernel_rfl) ?_
    repeat (go_big_quiet_step ((fail)))
    refine wpQuiet_nil ?_
    intro _ hw'
    obtain ⟨⟨wq, hgq⟩, hw2⟩ := hw'
    subst hw2
    rename World => wq
    have HT6 := Lib.hid (HT5.out.grow hgq)
    have t5 := HT6.out.t.c5
    have s5 := HT6.out.t.fz 5
    clear hgq k0 k4
    go_upto_region 5 with fail
    obtain ⟨W3, hW3⟩ : ∃ W3, W3 = wq.setCell ⟨w.heap.size, 5, none⟩ (.int .i64 (lost + 1)) := ⟨_, rfl⟩
    rw [← hW3]
    have HT7 : Hid (TrU w W3 most room pa pp (.slice A N cp) (lost + 1) told a p (.slice mA mn mc)) := by rw [hW3]; exact HT6.out.set5 _
    have HL7 : Hid (Mcs W3 base (.slice A N cp) l) := by rw [hW3]; exact Mcs.set_ (HR.out.1.grow HT6.out.g) HT6.out.t
    clear hW3 t5 s5
    go_wp2_with (first
      | (show wpList _ _ _ (⟨some 33, .load 37 (.tmp 2), _, _, _, _⟩ :: _) _ _; refine wpList_load_u W3 rfl _ rfl w.heap.size most room pa pp (.slice A N cp) (lost + 1) told rfl HT7.out.t ?_)
      | (show wpList _ _ _ (⟨none, .store 37 (.tmp 4) (.tmp 33), _, _, _, _⟩ :: _) _ _; refine wpList_store_u w W3 rfl _ _ rfl rfl RB most room pa pp (.slice A N cp) (lost + 1) told (ubA 0 0 0 0 (.slice none 0 0) 0 0) rfl rfl (by rw [HRB.out]; exact HT7.out.r) rfl (H1.out (lost + 1)) HT7.out.g (by have := HRB.out; omega) ?_; intro w2 hb2 hk2 hg2; have H2 := Lib.hid (And.intro hb2 (And.intro hk2 hg2)); clear hb2 hk2 hg2))
    refine bodyPost_ret (results_u2 rfl _ _ RB most room pa pp (.slice A N cp) (lost + 1) told _ rfl rfl H2.out.1) rfl ?_
    exact ⟨_, by rw [HE.out.1]; rfl, by rw [HE.out.2]; exact ⟨_, l, rfl, Mcs.but_ HL7.out (by rw [HRB.out]; exact HT7.out.r) H2.out.2.1, rfl, HR.out.2, HQ.out.2⟩, H2.out.2.2⟩
  · have q1' : letsS ⟨pa, pp⟩ ⟨a, p⟩ := q1
    rw [decide_eq_true q1'] at cT
    have HE := Lib.hid (And.intro q2 q3)
    obtain ⟨A, cp, hvb, hlc, hcm⟩ := hB.rd.form
    obtain ⟨N, hN⟩ : ∃ N, N = l.length := ⟨_, rfl⟩
    rw [← hN] at hvb hlc
    have hcm2 : cp ≤ 9223372036854775807 := hcm
    obtain ⟨T, hT⟩ : ∃ T, T = heldL (l.map Mc.ml) := ⟨_, rfl⟩
    have q5' :  room < ((T + mn : Nat) : Int) := by rw [hT, hmd]; exact q5
    have r1 : decide (most ≤ (N : Int)) = false := decide_eq_false (by have := q4; simp only [List.length_map] at this; omega)
    have hw2 : IntKind.i64.wrap ((T : Int) + (mn : Int)) = ((T + mn : Nat) : Int) := by
      have hmn' : mn ≤ 1000000000 := hmn
      rw [IntWalk.i64_in _ (by omega)]
      omega
    have r2 : decide (room < ((T + mn : Nat) : Int)) = true := decide_eq_true q5'
    have hw1 : IntKind.i64.wrap (lost + 1) = lost + 1 := IntWalk.i64_in _ (by have := hlo.1; have := hlo.2; simp only at *; omega)
    have hRW : Reads w l := hR.grow hw0
    have HN : Hid (N = l.length ∧ N < 64 ∧ T = heldL (l.map Mc.ml) ∧ T ≤ 1048576) := Lib.hid ⟨hN, by have := q4; simp only [List.length_map] at this; omega, hT, by omega⟩
    have HRW := Lib.hid hRW
    have HM := Lib.hid hm
    obtain ⟨X, hX⟩ : ∃ X : Int, X = ((T + mn : Nat) : Int) := ⟨_, rfl⟩
    rw [← hX] at hw2 r2
    subst hvb
    clear q1 q1' q2 q3 q4 q5 q5' hB hR hm o1 o2 o3 o4 ok hmd hN hT hRW hcm hX
    go_enter Try.func11, Try.ntmps11
    go_upto_region 1 with fail
    rw [← hW, ← hRB]
    have HW := Lib.hid hW
    clear hW hRB
    go_wp2_with (show wpList _ _ _ (⟨some 6, .load 37 (.tmp 2), _, _, _, _⟩ :: _) _ _; refine wpList_load_u W rfl _ rfl w.heap.size most room pa pp (.slice A N cp) lost told rfl HT.out.t ?_)
    refine cT.mono ?_
    rintro e w5 ⟨rfl, g5⟩
    have HT5 := Lib.hid (HT.out.grow g5)
    clear cT g5 z0 z1
    have k0 := fun q : Gw w5 => Gw.cell (p := q) (a := ⟨w.heap.size, 0, none⟩) HT5.out.t.lt HT5.out.t.c0
    have k1 := fun q : Gw w5 => Gw.cell (p := q) (a := ⟨w.heap.size, 1, none⟩) HT5.out.t.lt HT5.out.t.c1
    have k2 := fun q : Gw w5 => Gw.cell (p := q) (a := ⟨w.heap.size, 2, none⟩) HT5.out.t.lt HT5.out.t.c2
    have k3 := fun q : Gw w5 => Gw.cell (p := q) (a := ⟨w.heap.size, 3, none⟩) HT5.out.t.lt HT5.out.t.c3
    have k4 := fun q : Gw w5 => Gw.cell (p := q) (a := ⟨w.heap.size, 4, none⟩) HT5.out.t.lt HT5.out.t.c4
    have k5 := fun q : Gw w5 => Gw.cell (p := q) (a := ⟨w.heap.size, 5, none⟩) HT5.out.t.lt HT5.out.t.c5
    have k6 := fun q : Gw w5 => Gw.cell (p := q) (a := ⟨w.heap.size, 6, none⟩) HT5.out.t.lt HT5.out.t.c6
    have m2 := fun q : Gw w5 => Gw.cell (p := q) (a := ⟨w.heap.size + 1, 2, none⟩) HT5.out.e.lt HT5.out.e.c2
    have cH0 : ∀ q : Gw w5, Calls Try.prog 21 #[.agg (ubA most room pa pp (.slice A N cp) lost told)] q.v fun e w' => e = .returned (.int .i64 (T : Int)) ∧ Grow q.v w' := fun q => by
      have := rHeldU q.v base most room pa pp (.slice A N cp) lost told l (HR.out.1.grow (HT5.out.g.trans q.h)) (HRW.out.grow (HT5.out.g.trans q.h)) (by have := HN.out; omega) (by have := HN.out; omega)
      rwa [← HN.out.2.2.1] at this
    have cHeld : ∀ q : Gw w5, _ := fun q => Calls.gw (p := q) (cH0 q)
    clear cH0
    go_upto_region 3 with fail
    refine wp_region_gw (by kernel_rfl) (by kernel_rfl) ?_
    repeat (go_big_quiet_step ((first | (go_at_call 21; exact cHeld _))))
    refine wpQuiet_nil ?_
    intro _ hw'
    obtain ⟨⟨wq, hgq⟩, hw2'⟩ := hw'
    subst hw2'
    rename World => wq
    have HT6 := Lib.hid (HT5.out.grow hgq)
    have t5 := HT6.out.t.c5
    have s5 := HT6.out.t.fz 5
    clear hgq k0 k1 k2 k3 k4 k5 k6 m2 cHeld
    go_upto_region 5 with fail
    obtain ⟨W3, hW3⟩ : ∃ W3, W3 = wq.setCell ⟨w.heap.size, 5, none⟩ (.int .i64 (lost + 1)) := ⟨_, rfl⟩
    rw [← hW3]
    have HT7 : Hid (TrU w W3 most room pa pp (.slice A N cp) (lost + 1) told a p (.slice mA mn mc)) := by rw [hW3]; exact HT6.out.set5 _
    have HL7 : Hid (Mcs W3 base (.slice A N cp) l) := by rw [hW3]; exact Mcs.set_ (HR.out.1.grow HT6.out.g) HT6.out.t
    clear hW3 t5 s5
    go_wp2_with (first
      | (show wpList _ _ _ (⟨some 33, .load 37 (.tmp 2), _, _, _, _⟩ :: _) _ _; refine wpList_load_u W3 rfl _ rfl w.heap.size most room pa pp (.slice A N cp) (lost + 1) told rfl HT7.out.t ?_)
      | (show wpList _ _ _ (⟨none, .store 37 (.tmp 4) (.tmp 33), _, _, _, _⟩ :: _) _ _; refine wpList_store_u w W3 rfl _ _ rfl rfl RB most room pa pp (.slice A N cp) (lost + 1) told (ubA 0 0 0 0 (.slice none 0 0) 0 0) rfl rfl (by rw [HRB.out]; exact HT7.out.r) rfl (H1.out (lost + 1)) HT7.out.g (by have := HRB.out; omega) ?_; intro w2 hb2 hk2 hg2; have H2 := Lib.hid (And.intro hb2 (And.intro hk2 hg2)); clear hb2 hk2 hg2))
    refine bodyPost_ret (results_u2 rfl _ _ RB most room pa pp (.slice A N cp) (lost + 1) told _ rfl rfl H2.out.1) rfl ?_
    exact ⟨_, by rw [HE.out.1]; rfl, by rw [HE.out.2]; exact ⟨_, l, rfl, Mcs.but_ HL7.out (by rw [HRB.out]; exact HT7.out.r) H2.out.2.1, rfl, HR.out.2, HQ.out.2⟩, H2.out.2.2⟩
  · have q1' : letsS ⟨pa, pp⟩ ⟨a, p⟩ := q1
    rw [decide_eq_true q1'] at cT
    have HE := Lib.hid (And.intro q2 q3)
    obtain ⟨A, cp, hvb, hlc, hcm⟩ := hB.rd.form
    obtain ⟨N, hN⟩ : ∃ N, N = l.length := ⟨_, rfl⟩
    rw [← hN] at hvb hlc
    have hcm2 : cp ≤ 9223372036854775807 := hcm
    obtain ⟨T, hT⟩ : ∃ T, T = heldL (l.map Mc.ml) := ⟨_, rfl⟩
    have q5' : ¬ room < ((T + mn : Nat) : Int) := by rw [hT, hmd]; exact q5
    have r1 : decide (most ≤ (N : Int)) = false := decide_eq_false (by have := q4; simp only [List.length_map] at this; omega)
    have hw2 : IntKind.i64.wrap ((T : Int) + (mn : Int)) = ((T + mn : Nat) : Int) := by
      have hmn' : mn ≤ 1000000000 := hmn
      rw [IntWalk.i64_in _ (by omega)]
      omega
    have r2 : decide (room < ((T + mn : Nat) : Int)) = false := decide_eq_false q5'
    have hw1 : IntKind.i64.wrap (lost + 1) = lost + 1 := IntWalk.i64_in _ (by have := hlo.1; have := hlo.2; simp only at *; omega)
    have hRW : Reads w l := hR.grow hw0
    have HN : Hid (N = l.length ∧ N < 64 ∧ T = heldL (l.map Mc.ml) ∧ T ≤ 1048576) := Lib.hid ⟨hN, by have := q4; simp only [List.length_map] at this; omega, hT, by omega⟩
    have HRW := Lib.hid hRW
    have HM := Lib.hid hm
    obtain ⟨X, hX⟩ : ∃ X : Int, X = ((T + mn : Nat) : Int) := ⟨_, rfl⟩
    rw [← hX] at hw2 r2
    subst hvb
    clear q1 q1' q2 q3 q4 q5 q5' hB hR hm o1 o2 o3 o4 ok hmd hN hT hRW hcm hX
    go_enter Try.func11, Try.ntmps11
    go_upto_region 1 with fail
    rw [← hW, ← hRB]
    have HW := Lib.hid hW
    clear hW hRB
    go_wp2_with (show wpList _ _ _ (⟨some 6, .load 37 (.tmp 2), _, _, _, _⟩ :: _) _ _; refine wpList_load_u W rfl _ rfl w.heap.size most room pa pp (.slice A N cp) lost told rfl HT.out.t ?_)
    refine cT.mono ?_
    rintro e w5 ⟨rfl, g5⟩
    have HT5 := Lib.hid (HT.out.grow g5)
    clear cT g5 z0 z1
    have k0 := fun q : Gw w5 => Gw.cell (p := q) (a := ⟨w.heap.size, 0, none⟩) HT5.out.t.lt HT5.out.t.c0
    have k1 := fun q : Gw w5 => Gw.cell (p := q) (a := ⟨w.heap.size, 1, none⟩) HT5.out.t.lt HT5.out.t.c1
    have k2 := fun q : Gw w5 => Gw.cell (p := q) (a := ⟨w.heap.size, 2, none⟩) HT5.out.t.lt HT5.out.t.c2
    have k3 := fun q : Gw w5 => Gw.cell (p := q) (a := ⟨w.heap.size, 3, none⟩) HT5.out.t.lt HT5.out.t.c3
    have k4 := fun q : Gw w5 => Gw.cell (p := q) (a := ⟨w.heap.size, 4, none⟩) HT5.out.t.lt HT5.out.t.c4
    have k5 := fun q : Gw w5 => Gw.cell (p := q) (a := ⟨w.heap.size, 5, none⟩) HT5.out.t.lt HT5.out.t.c5
    have k6 := fun q : Gw w5 => Gw.cell (p := q) (a := ⟨w.heap.size, 6, none⟩) HT5.out.t.lt HT5.out.t.c6
    have m2 := fun q : Gw w5 => Gw.cell (p := q) (a := ⟨w.heap.size + 1, 2, none⟩) HT5.out.e.lt HT5.out.e.c2
    have cH0 : ∀ q : Gw w5, Calls Try.prog 21 #[.agg (ubA most room pa pp (.slice A N cp) lost told)] q.v fun e w' => e = .returned (.int .i64 (T : Int)) ∧ Grow q.v w' := fun q => by
      have := rHeldU q.v base most room pa pp (.slice A N cp) lost told l (HR.out.1.grow (HT5.out.g.trans q.h)) (HRW.out.grow (HT5.out.g.trans q.h)) (by have := HN.out; omega) (by have := HN.out; omega)
      rwa [← HN.out.2.2.1] at this
    have cHeld : ∀ q : Gw w5, _ := fun q => Calls.gw (p := q) (cH0 q)
    clear cH0
    go_upto_region 3 with fail
    refine wp_region_gw (by kernel_rfl) (by kernel_rfl) ?_
    repeat (go_big_quiet_step ((first | (go_at_call 21; exact cHeld _))))
    refine wpQuiet_nil ?_
    intro _ hw'
    obtain ⟨⟨wq, hgq⟩, hw2'⟩ := hw'
    subst hw2'
    rename World => wq
    have HT6 := Lib.hid (HT5.out.grow hgq)
    clear hgq k0 k1 k2 k3 k4 k5 k6 m2 cHeld HT5
    have HT5 := HT6
    clear HT6
    have t3 := HT5.out.t.c4
    have HVk : Hid (∀ w1, Grow wq w1 → RdK w1 3 (.slice A N cp) N (l.flatMap mcC.f)) := fun w1 g => by
      have q := (HR.out.1.grow (HT5.out.g.trans g)).rd
      unfold RdG at q
      rwa [← HN.out.1] at q
    go_upto_region 6 with fail
    go_cut [5] (fun _ wx => ∃ vB', Hid (TrU w wx most room pa pp vB' lost told a p (.slice mA mn mc) ∧ Mcs wx base vB' (l ++ [(⟨⟨a, p⟩, mA, mn, mc, md⟩ : Mc)]) ∧ ∀ k, vB'.ownBlock = some k → Q k))
    case first =>
      have z0 := HT5.out.e.c0
      have z1 := HT5.out.e.c1
      have z2 := HT5.out.e.c2
      have hb3 : w.heap.size < wq.heap.size := HT5.out.t.lt
      have hb4 : w.heap.size + 1 < wq.heap.size := HT5.out.e.lt
      have hBY : Hid (∀ w1, Grow wq w1 → w1.cell? ⟨w.heap.size + 1, 0, none⟩ = some (.int .u32 a) ∧ w1.cell? ⟨w.heap.size + 1, 1, none⟩ = some (.int .u16 p) ∧ w1.cell? ⟨w.heap.size + 1, 2, none⟩ = some (.slice mA mn mc)) := fun w1 hg => ⟨(HT5.out.e.grow hg).c0, (HT5.out.e.grow hg).c1, (HT5.out.e.grow hg).c2⟩
      have hST : Hid (∀ w1, Grow wq w1 → w1.cell? ⟨w.heap.size, 4, none⟩ = some (.slice A N cp) ∧ w1.frozen? ⟨w.heap.size, 4, none⟩ = false) := fun w1 hg => ⟨(HT5.out.t.grow hg).c4, (HT5.out.t.grow hg).fz 4⟩
      have hO0 : Hid (Mcw ((wq.drew.alloc (.cells #[] 40)).alloc (.cells #[.int .u32 a, .int .u16 p, .slice mA mn mc] 40)) wq.heap.size (.slice (some ⟨wq.heap.size, 0, none⟩) 0 0) []) := OwG.grow (owg_lit0 wq.drew) (Grow.alloc _ _)
      have hg0 : Hid (Grow wq ((wq.drew.alloc (.cells #[] 40)).alloc (.cells #[.int .u32 a, .int .u16 p, .slice mA mn mc] 40))) := ((Grow.drew wq).trans (Grow.alloc _ _)).trans (Grow.alloc _ _)
      have hO2' : Mcw ((wq.drew.alloc (.cells #[.int .u32 a, .int .u16 p, .slice mA mn mc] 40)).alloc (.cells #[] 40)) wq.heap.size (.slice (some ⟨(wq.drew.alloc (.cells #[.int .u32 a, .int .u16 p, .slice mA mn mc] 40)).heap.size, 0, none⟩) 0 0) [] := OwG.base_ (owg_lit0 (wq.drew.alloc (.cells #[.int .u32 a, .int .u16 p, .slice mA mn mc] 40))) (by simp)
      simp only [World.size_alloc, World.size_drew] at hO2'
      have hO2 := Lib.hid hO2'
      clear hO2'
      have hg2 : Hid (Grow wq ((wq.drew.alloc (.cells #[.int .u32 a, .int .u16 p, .slice mA mn mc] 40)).alloc (.cells #[] 40))) := ((Grow.drew wq).trans (Grow.alloc _ _)).trans (Grow.alloc _ _)
      have hlit : ∀ q : World, Mcw (q.alloc (.cells #[.int .u32 a, .int .u16 p, .slice mA mn mc] 40)) q.heap.size (.slice (some ⟨q.heap.size, 0, none⟩) 1 1) [(⟨⟨a, p⟩, mA, mn, mc, md⟩ : Mc)] := fun q => owg_lit1 (c := mcC) q (⟨⟨a, p⟩, mA, mn, mc, md⟩ : Mc) #[.int .u32 a, .int .u16 p, .slice mA mn mc] rfl _ rfl
      have HLit := Lib.hid hlit
      have hL2 : Hid (∀ w1, ((wq.drew.alloc (.cells #[.int .u32 a, .int .u16 p, .slice mA mn mc] 40)).alloc (.cells #[] 40)).grownBy w1 (Value.ownBlock (.slice (some ⟨wq.heap.size + 1, 0, none⟩) 0 0)) → RdG mcC w1 (.slice (some ⟨wq.heap.size, 0, none⟩) 1 1) [(⟨⟨a, p⟩, mA, mn, mc, md⟩ : Mc)]) := fun w1 hg => RdK.other ((OwG.grow (hlit wq.drew) (Grow.alloc _ (.cells #[] 40))).rd) hg.size fun b hb hlt => hg.block b hlt fun e => by
        injection hb with hb
        injection e with e
        have h1 : wq.heap.size = b := hb
        have h2 : b = wq.heap.size + 1 := e
        omega
      have hL1 : Hid (∀ w1, ((wq.drew.alloc (.cells #[] 40)).alloc (.cells #[.int .u32 a, .int .u16 p, .slice mA mn mc] 40)).grownBy w1 (Value.ownBlock (.slice (some ⟨wq.heap.size, 0, none⟩) 0 0)) → RdG mcC w1 (.slice (some ⟨wq.heap.size + 1, 0, none⟩) 1 1) [(⟨⟨a, p⟩, mA, mn, mc, md⟩ : Mc)]) := fun w1 hg => RdK.other ((by have := (hlit (wq.drew.alloc (.cells #[] 40))).rd; simpa only [World.size_alloc, World.size_drew] using this : RdG mcC _ (.slice (some ⟨wq.heap.size + 1, 0, none⟩) 1 1) [(⟨⟨a, p⟩, mA, mn, mc, md⟩ : Mc)])) hg.size fun b hb hlt => hg.block b hlt fun e => by
        injection hb with hb
        injection e with e
        have h1 : wq.heap.size + 1 = b := hb
        have h2 : b = wq.heap.size := e
        omega
      clear hlit
      go_region_law (first
        | (refine step_appK _ rfl (.tmp 34) (.tmp 36) 35 rfl 40 _ 3 32 Try.underlying35 infoMl rfl (by decide) wq.heap.size _ _ 0 N [] _ rfl rfl (owg_lit0 (c := mcC) wq.drew) (HVk.out _ ((Grow.drew _).trans (Grow.alloc _ _))) (mcC.ones l) (by have := HN.out.2.1; omega) (by have := HN.out.2.1; unfold maxLen; omega) (by simp) ?_; intro v1 w1 ho1 hg1 hat1; rw [List.nil_append] at ho1; have hgw : Grow wq w1 := ((Grow.drew wq).trans (Grow.alloc _ _)).grown hg1 (by simp) (fun k hk => by cases hk; simp); obtain ⟨y0, y1, y2⟩ := hBY.out w1 hgw; have H5 := Lib.hid (And.intro ho1 hgw); clear ho1 hg1 hat1 hgw)
        | (refine step_appK _ rfl (.tmp 34) (.tmp 36) 35 rfl 40 _ 3 32 Try.underlying35 infoMl rfl (by decide) wq.heap.size _ _ 0 N [] _ rfl rfl hO0.out (HVk.out _ hg0.out) (mcC.ones l) (by have := HN.out.2.1; omega) (by have := HN.out.2.1; unfold maxLen; omega) hg0.out.size ?_; intro v1 w1 ho1 hg1 hat1; rw [List.nil_append] at ho1; have hgw : Grow wq w1 := hg0.out.grown hg1 hg0.out.size (fun k hk => by cases hk; simp); have hLit := Lib.hid (hL1.out w1 hg1); have H5 := Lib.hid (And.intro ho1 hgw); clear ho1 hg1 hat1 hgw)
        | (refine step_appK _ rfl (.tmp 34) (.tmp 36) 35 rfl 40 _ 3 32 Try.underlying35 infoMl rfl (by decide) wq.heap.size _ _ 0 N [] _ rfl rfl hO2.out (HVk.out _ hg2.out) (mcC.ones l) (by have := HN.out.2.1; omega) (by have := HN.out.2.1; unfold maxLen; omega) hg2.out.size ?_; intro v1 w1 ho1 hg1 hat1; rw [List.nil_append] at ho1; have hgw : Grow wq w1 := hg2.out.grown hg1 hg2.out.size (fun k hk => by cases hk; simp); have hLit := Lib.hid (hL2.out w1 hg1); have H5 := Lib.hid (And.intro ho1 hgw); clear ho1 hg1 hat1 hgw)
        | (refine step_appK _ rfl (.tmp 37) (.tmp 39) 35 rfl 40 _ 3 32 Try.underlying35 infoMl rfl (by decide) wq.heap.size v1 _ _ 1 _ (mcC.f (⟨⟨a, p⟩, mA, mn, mc, md⟩ : Mc)) rfl rfl (ownsRow_other H5.out.1 (fun b cs _ hh => (Grow.alloc _ _).block b (Array.getElem?_eq_some_iff.1 hh).1)) ((HLit.out w1).rd) (mcC.one _) (by have := HN.out.2.1; omega) (by have := HN.out.2.1; unfold maxLen; omega) (Nat.le_trans H5.out.2.size (Grow.alloc _ _).size) ?_; intro v2 w2 ho2 hg2 hat2; have hgw : Grow wq w2 := (H5.out.2.trans (Grow.alloc _ _)).grown hg2 (Nat.le_trans H5.out.2.size (Grow.alloc _ _).size) (fun k hk => (World.ownsRow.lt H5.out.1 k hk).1); obtain ⟨s0, s1⟩ := hST.out w2 hgw; obtain ⟨A6, c6, hf6, _⟩ := (RdK.of_own ho2).form; obtain ⟨m6, hm6⟩ : ∃ m, m = 0 + N + 1 := ⟨_, rfl⟩; rw [← hm6] at hf6 ho2; subst hf6; have H6 := Lib.hid (And.intro ho2 (And.intro hgw hm6)); clear ho2 hg2 hat2 hgw hm6)
        | (refine step_appK _ rfl (.tmp 37) (.tmp 39) 35 rfl 40 _ 3 32 Try.underlying35 infoMl rfl (by decide) wq.heap.size v1 _ _ 1 _ (mcC.f (⟨⟨a, p⟩, mA, mn, mc, md⟩ : Mc)) rfl rfl H5.out.1 hLit.out (mcC.one _) (by have := HN.out.2.1; omega) (by have := HN.out.2.1; unfold maxLen; omega) H5.out.2.size ?_; intro v2 w2 ho2 hg2 hat2; have hgw : Grow wq w2 := H5.out.2.grown hg2 H5.out.2.size (fun k hk => (World.ownsRow.lt H5.out.1 k hk).1); obtain ⟨s0, s1⟩ := hST.out w2 hgw; obtain ⟨A6, c6, hf6, _⟩ := (RdK.of_own ho2).form; obtain ⟨m6, hm6⟩ : ∃ m, m = 0 + N + 1 := ⟨_, rfl⟩; rw [← hm6] at hf6 ho2; subst hf6; have H6 := Lib.hid (And.intro ho2 (And.intro hgw hm6)); clear ho2 hg2 hat2 hgw hm6))
      all_goals
        go_wp2_with fail
        go_meet
        exact ⟨_, (HT5.out.grow H6.out.2.1).set4 _, Mcs.set_ (mc_row H6.out.1 HN.out.1 H6.out.2.2 (Nat.le_trans hbase HT5.out.g.size)) (HT5.out.grow H6.out.2.1).t, fun k hk => HQ.out.1 k (Nat.le_trans HT5.out.g.size (World.ownsRow.lt H6.out.1 k hk).1)⟩
    case rest =>
      obtain ⟨vB', HX⟩ := hcut
      have H9 := Lib.hid (ub_ones HX.out.2.1 most room pa pp lost told)
      go_wp2_with (first
        | (show wpList _ _ _ (⟨some 42, .load 37 (.tmp 2), _, _, _, _⟩ :: _) _ _; refine wpList_load_u wc rfl _ rfl w.heap.size most room pa pp vB' lost told rfl HX.out.1.t ?_)
        | (show wpList _ _ _ (⟨none, .store 37 (.tmp 4) (.tmp 42), _, _, _, _⟩ :: _) _ _; refine wpList_store_u w wc rfl _ _ rfl rfl RB most room pa pp vB' lost told (ubA 0 0 0 0 (.slice none 0 0) 0 0) rfl rfl (by rw [HRB.out]; exact HX.out.1.r) rfl (H9.out) HX.out.1.g (by have := HRB.out; omega) ?_; intro w2 hb2 hk2 hg2; have H2 := Lib.hid (And.intro hb2 (And.intro hk2 hg2)); clear hb2 hk2 hg2))
      refine bodyPost_ret (results_u2 rfl _ _ RB most room pa pp vB' lost told _ rfl rfl H2.out.1) rfl ?_
      exact ⟨_, by rw [HE.out.1]; rfl, by rw [HE.out.2]; exact ⟨_, l ++ [⟨⟨a, p⟩, mA, mn, mc, md⟩], rfl, Mcs.but_ HX.out.2.1 (by rw [HRB.out]; exact HX.out.1.r) H2.out.2.1, by rw [List.map_append]; rfl, HR.out.2.append (fun x hx => by rw [List.mem_singleton.1 hx]; exact HM.out), HX.out.2.2⟩, H2.out.2.2⟩
end Go.Proofs.Ytkblgigpgpjjlaa
