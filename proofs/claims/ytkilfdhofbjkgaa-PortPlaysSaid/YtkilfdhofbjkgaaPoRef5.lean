/- Contract: the reference's Join. -/
import Derived.Test.YtkilfdhofbjkgaaPoRef4
namespace Go.Proofs.Ytkilfdhofbjkgaa
set_option linter.unusedVariables false
set_option linter.unusedSimpArgs false
open Go.ChangeShapes Go.WideShapes Go.ChangeAt Go.RowKit

/-- The boxes of a call: the table that came in, a quad, the table that goes out. -/
structure TrQ (w W : World) (lo hi la : Int) (vB vJ : Value) (a p b q : Int) : Prop where
  t : TbB W w.heap.size lo hi la vB vJ
  e : QdB W (w.heap.size + 1) a p b q
  r : TbB W (w.heap.size + 2) 0 0 0 (.slice none 0 0) (.slice none 0 0)
  g : Grow w W
theorem trQ (w : World) (lo hi la : Int) (vB vJ : Value) (a p b q : Int) {W : World} (hW : W = ((w.alloc (.cells (tbA lo hi la vB vJ) 32)).alloc (.cells #[.int .u32 a, .int .u16 p, .int .u32 b, .int .u16 q] 42)).alloc (.cells (tbA 0 0 0 (.slice none 0 0) (.slice none 0 0)) 32)) : TrQ w W lo hi la vB vJ a p b q := by
  subst hW
  obtain ⟨h1, h2, h3⟩ := two_tq w (tbA lo hi la vB vJ) a p b q rfl
  have g := Grow.alloc ((w.alloc (.cells (tbA lo hi la vB vJ) 32)).alloc (.cells #[.int .u32 a, .int .u16 p, .int .u32 b, .int .u16 q] 42)) (.cells (tbA 0 0 0 (.slice none 0 0) (.slice none 0 0)) 32)
  have h4 := heap_alloc_new ((w.alloc (.cells (tbA lo hi la vB vJ) 32)).alloc (.cells #[.int .u32 a, .int .u16 p, .int .u32 b, .int .u16 q] 42)) (.cells (tbA 0 0 0 (.slice none 0 0) (.slice none 0 0)) 32)
  have s1 : ((w.alloc (.cells (tbA lo hi la vB vJ) 32)).alloc (.cells #[.int .u32 a, .int .u16 p, .int .u32 b, .int .u16 q] 42)).heap.size = w.heap.size + 2 := by
    rw [show ((w.alloc (.cells (tbA lo hi la vB vJ) 32)).alloc (.cells #[.int .u32 a, .int .u16 p, .int .u32 b, .int .u16 q] 42)).heap.size = (w.alloc (.cells (tbA lo hi la vB vJ) 32)).heap.size + 1 from Array.size_push _, show (w.alloc (.cells (tbA lo hi la vB vJ) 32)).heap.size = w.heap.size + 1 from Array.size_push _]
  rw [s1] at h4
  exact ⟨TbB.grow h1 g, h2.grow g, h4, h3.trans g⟩
theorem TrQ.grow {w W W' : World} {lo hi la : Int} {vB vJ : Value} {a p b q : Int} (h : TrQ w W lo hi la vB vJ a p b q) (g : Grow W W') : TrQ w W' lo hi la vB vJ a p b q := ⟨h.t.grow g, h.e.grow g, h.r.grow g, h.g.trans g⟩
theorem TrQ.set4 {w W : World} {lo hi la : Int} {vB vJ : Value} {a p b q : Int} (h : TrQ w W lo hi la vB vJ a p b q) (u : Value) : TrQ w (W.setCell ⟨w.heap.size, 4, none⟩ u) lo hi la vB u a p b q :=
  ⟨h.t.set4 u, (Below.heap_setCell _ _ _ _ (by simp)).trans h.e, (Below.heap_setCell _ _ _ _ (by simp)).trans h.r, Below.setCell h.g (Nat.le_refl _) u⟩
theorem jd_row {w : World} {base b' m N : Nat} {v : Value} {J : List Jd} {x : Jd} (h : w.ownsRow b' 76 5 v m (J.flatMap jdC.f ++ jdC.f x)) (hN : N = J.length) (hm : m = 0 + N + 1) (hb : base ≤ b') : Jds w base v (J ++ [x]) := by
  refine OwG.base_ (owg_app (c := jdC) (l := J) (l' := [x]) (n := m) ?_ (by rw [hm, hN]; simp)) hb
  rw [List.flatMap_cons, List.flatMap_nil, List.append_nil]
  exact h
theorem joE_cases (t : Prt) (q : Qd) : ((q.l.po = 0 ∨ (q.l.po ≠ 0 ∧ q.r.po = 0)) ∧ joE t q = 8) ∨ (q.l.po ≠ 0 ∧ q.r.po ≠ 0 ∧ hasJ t.J q ∧ joE t q = 140) ∨ (q.l.po ≠ 0 ∧ q.r.po ≠ 0 ∧ ¬ hasJ t.J q ∧ 1024 ≤ t.J.length ∧ joE t q = 5) ∨ (q.l.po ≠ 0 ∧ q.r.po ≠ 0 ∧ ¬ hasJ t.J q ∧ ¬ 1024 ≤ t.J.length ∧ joE t q = 0) := by
  unfold joE
  by_cases q1 : q.l.po = 0
  · exact .inl ⟨.inl q1, if_pos (.inl q1)⟩
  by_cases q1' : q.r.po = 0
  · exact .inl ⟨.inr ⟨q1, q1'⟩, if_pos (.inr q1')⟩
  rw [if_neg (by rintro (h | h); exact q1 h; exact q1' h)]
  by_cases q2 : hasJ t.J q
  · exact .inr (.inl ⟨q1, q1', q2, if_pos q2⟩)
  rw [if_neg q2]
  by_cases q3 : 1024 ≤ t.J.length
  · exact .inr (.inr (.inl ⟨q1, q1', q2, q3, if_pos q3⟩))
  · exact .inr (.inr (.inr ⟨q1, q1', q2, q3, if_neg q3⟩))
theorem tlS_has {J : List Jd} {q : Qd} (h : hasJ J q) : ∃ o, tlS J q = (o, true) := by
  unfold tlS
  cases hf : J.find? fun j => decide (j.q = q) with
  | some j => exact ⟨j.o, rfl⟩
  | none =>
    obtain ⟨j, hj, e⟩ := h
    have := List.find?_eq_none.1 hf j hj
    simp [e] at this
theorem tlS_hasnt {J : List Jd} {q : Qd} (h : ¬ hasJ J q) : tlS J q = (0, false) := tlS_none fun j y hy e => h ⟨y, List.mem_iff_getElem?.2 ⟨j, hy⟩, e⟩
set_option maxRecDepth 10000 in
set_option maxHeartbeats 4000000 in
theorem rJoinT (w : World) (base : Nat) (hbase : base ≤ w.heap.size) (v : Value) (t : Prt) (h : RTb w base v t) (ok : TOk t) (e : Qd) (o : Int) : Calls Try.prog 25 #[v, .agg #[.int .u32 e.l.ad, .int .u16 e.l.po, .int .u32 e.r.ad, .int .u16 e.r.po], .int .i64 o] w fun e' w' => ∃ v', e' = .returned (.tuple #[v', .int .i64 (joE t e)]) ∧ RTb w' base v' (joT t e o) ∧ Grow w w' := by
  obtain ⟨vB, vJ, rfl, hB, hJ⟩ := h
  have hcs := joE_cases t e
  have hbl := ok.jl
  have hst : joE t e ≠ 0 → joT t e o = t := fun q => if_neg q
  have hst0 : joE t e = 0 → joT t e o = { t with J := t.J ++ [⟨e, o⟩] } := fun q => if_pos q
  obtain ⟨lo, hi, la, B, J⟩ := t
  obtain ⟨⟨a, p⟩, b, q⟩ := e
  simp only at hB hJ hcs hbl
  obtain ⟨W, hW⟩ : ∃ W, W = ((w.alloc (.cells (tbA lo hi la vB vJ) 32)).alloc (.cells #[.int .u32 a, .int .u16 p, .int .u32 b, .int .u16 q] 42)).alloc (.cells (tbA 0 0 0 (.slice none 0 0) (.slice none 0 0)) 32) := ⟨_, rfl⟩
  have HT := Lib.hid (trQ w lo hi la vB vJ a p b q hW)
  obtain ⟨RB, hRB⟩ : ∃ RB, RB = w.heap.size + 2 := ⟨_, rfl⟩
  have H1 := Lib.hid (tb_ones hB hJ lo hi la)
  have HR := Lib.hid (And.intro hB hJ)
  have z1 := HT.out.e.c1
  have z0 := HT.out.e.c0
  have z2 := HT.out.e.c2
  have z3 := HT.out.e.c3
  have HRB := Lib.hid hRB
  rcases hcs with ⟨qz, q2⟩ | ⟨q1, q1', q2, q3⟩ | ⟨q1, q1', q2, q3, q4⟩ | ⟨q1, q1', q2, q3, q4⟩
  · have HE := Lib.hid (And.intro q2 (hst (by rw [q2]; decide)))
    rcases qz with qz | ⟨qn, qz⟩
    · subst qz
      clear hst hst0 q2 hB hJ hbl ok
      go_enter Try.func25, Try.ntmps25
      go_upto_region 1 with fail
      rw [← hW, ← hRB]
      have HW := Lib.hid hW
      clear hW hRB
      go_wp2_with (first
    | (show wpList _ _ _ (⟨some 20, .load 32 (.tmp 3), _, _, _, _⟩ :: _) _ _; refine wpList_load_t W rfl _ rfl w.heap.size lo hi la vB vJ rfl HT.out.t ?_)
    | (show wpList _ _ _ (⟨none, .store 32 (.tmp 6) (.tmp 20), _, _, _, _⟩ :: _) _ _; refine wpList_store_t w W rfl _ _ rfl rfl RB lo hi la 0 0 0 vB vJ (.slice none 0 0) (.slice none 0 0) rfl rfl (by rw [HRB.out]; exact HT.out.r) H1.out HT.out.g (by have := HRB.out; omega) ?_; intro w2 hb2 hk2 hg2; have H2 := Lib.hid (And.intro hb2 (And.intro hk2 hg2)); clear hb2 hk2 hg2))
      refine bodyPost_ret (results_t2 rfl _ _ RB lo hi la vB vJ _ rfl rfl H2.out.1) rfl ?_
      exact ⟨_, by rw [HE.out.1]; rfl, by rw [HE.out.2]; exact ⟨vB, vJ, rfl, HR.out.1.grow H2.out.2.2, HR.out.2.grow H2.out.2.2⟩, H2.out.2.2⟩
    · have r1 : (p == 0) = false := beq_eq_false_iff_ne.2 qn
      subst qz
      clear hst hst0 q2 hB hJ hbl ok qn
      go_enter Try.func25, Try.ntmps25
      go_upto_region 1 with fail
      rw [← hW, ← hRB]
      have HW := Lib.hid hW
      clear hW hRB
      go_wp2_with (first
    | (show wpList _ _ _ (⟨some 20, .load 32 (.tmp 3), _, _, _, _⟩ :: _) _ _; refine wpList_load_t W rfl _ rfl w.heap.size lo hi la vB vJ rfl HT.out.t ?_)
    | (show wpList _ _ _ (⟨none, .store 32 (.tmp 6) (.tmp 20), _, _, _, _⟩ :: _) _ _; refine wpList_store_t w W rfl _ _ rfl rfl RB lo hi la 0 0 0 vB vJ (.slice none 0 0) (.slice none 0 0) rfl rfl (by rw [HRB.out]; exact HT.out.r) H1.out HT.out.g (by have := HRB.out; omega) ?_; intro w2 hb2 hk2 hg2; have H2 := Lib.hid (And.intro hb2 (And.intro hk2 hg2)); clear hb2 hk2 hg2))
      refine bodyPost_ret (results_t2 rfl _ _ RB lo hi la vB vJ _ rfl rfl H2.out.1) rfl ?_
      exact ⟨_, by rw [HE.out.1]; rfl, by rw [HE.out.2]; exact ⟨vB, vJ, rfl, HR.out.1.grow H2.out.2.2, HR.out.2.grow H2.out.2.2⟩, H2.out.2.2⟩
  · have HE := Lib.hid (And.intro q3 (hst (by rw [q3]; decide)))
    have r1 : (p == 0) = false := beq_eq_false_iff_ne.2 q1
    have r2 : (q == 0) = false := beq_eq_false_iff_ne.2 q1'
    have cT := rTalksT W base lo hi la vB vJ J (hJ.grow HT.out.g) hbl ⟨⟨a, p⟩, b, q⟩
    obtain ⟨tO, hto⟩ := tlS_has q2
    rw [hto] at cT
    clear hto
    clear hst hst0 q1 q1' q2 q3 hB hJ hbl ok
    go_enter Try.func25, Try.ntmps25
    go_upto_region 1 with fail
    rw [← hW, ← hRB]
    have HW := Lib.hid hW
    clear hW hRB
    go_wp2_with (show wpList _ _ _ (⟨some 22, .load 32 (.tmp 3), _, _, _, _⟩ :: _) _ _; refine wpList_load_t W rfl _ rfl w.heap.size lo hi la vB vJ rfl HT.out.t ?_)
    refine cT.mono ?_
    rintro e w5 ⟨rfl, g5⟩
    have HT5 := Lib.hid (HT.out.grow g5)
    clear cT g5 z0 z1 z2 z3
    go_wp2_with (first
    | (show wpList _ _ _ (⟨some 28, .load 32 (.tmp 3), _, _, _, _⟩ :: _) _ _; refine wpList_load_t w5 rfl _ rfl w.heap.size lo hi la vB vJ rfl HT5.out.t ?_)
    | (show wpList _ _ _ (⟨none, .store 32 (.tmp 6) (.tmp 28), _, _, _, _⟩ :: _) _ _; refine wpList_store_t w w5 rfl _ _ rfl rfl RB lo hi la 0 0 0 vB vJ (.slice none 0 0) (.slice none 0 0) rfl rfl (by rw [HRB.out]; exact HT5.out.r) H1.out HT5.out.g (by have := HRB.out; omega) ?_; intro w2 hb2 hk2 hg2; have H2 := Lib.hid (And.intro hb2 (And.intro hk2 hg2)); clear hb2 hk2 hg2))
    refine bodyPost_ret (results_t2 rfl _ _ RB lo hi la vB vJ _ rfl rfl H2.out.1) rfl ?_
    exact ⟨_, by rw [HE.out.1]; rfl, by rw [HE.out.2]; exact ⟨vB, vJ, rfl, HR.out.1.grow H2.out.2.2, HR.out.2.grow H2.out.2.2⟩, H2.out.2.2⟩
  · have HE := Lib.hid (And.intro q4 (hst (by rw [q4]; decide)))
    have r1 : (p == 0) = false := beq_eq_false_iff_ne.2 q1
    have r2 : (q == 0) = false := beq_eq_false_iff_ne.2 q1'
    have cT := rTalksT W base lo hi la vB vJ J (hJ.grow HT.out.g) hbl ⟨⟨a, p⟩, b, q⟩
    rw [tlS_hasnt q2] at cT
    obtain ⟨A, cp, hvb, _⟩ := hJ.rd.form
    obtain ⟨N, hN⟩ : ∃ N, N = J.length := ⟨_, rfl⟩
    rw [← hN] at hvb q3
    subst hvb
    have i1 : (1024 : Int) ≤ (N : Int) := by omega
    have i2 : ¬ ((N : Int) < 1024) := by omega
    clear hst hst0 q1 q1' q2 q4 hB hJ hbl ok hN
    go_enter Try.func25, Try.ntmps25
    go_upto_region 1 with fail
    rw [← hW, ← hRB]
    have HW := Lib.hid hW
    clear hW hRB
    go_wp2_with (show wpList _ _ _ (⟨some 22, .load 32 (.tmp 3), _, _, _, _⟩ :: _) _ _; refine wpList_load_t W rfl _ rfl w.heap.size lo hi la vB (.slice A N cp) rfl HT.out.t ?_)
    refine cT.mono ?_
    rintro e w5 ⟨rfl, g5⟩
    have HT5 := Lib.hid (HT.out.grow g5)
    have t3 := HT5.out.t.c4
    clear cT g5 z0 z1 z2 z3
    go_wp2_with (first
    | (show wpList _ _ _ (⟨some 33, .load 32 (.tmp 3), _, _, _, _⟩ :: _) _ _; refine wpList_load_t w5 rfl _ rfl w.heap.size lo hi la vB (.slice A N cp) rfl HT5.out.t ?_)
    | (show wpList _ _ _ (⟨none, .store 32 (.tmp 6) (.tmp 33), _, _, _, _⟩ :: _) _ _; refine wpList_store_t w w5 rfl _ _ rfl rfl RB lo hi la 0 0 0 vB (.slice A N cp) (.slice none 0 0) (.slice none 0 0) rfl rfl (by rw [HRB.out]; exact HT5.out.r) H1.out HT5.out.g (by have := HRB.out; omega) ?_; intro w2 hb2 hk2 hg2; have H2 := Lib.hid (And.intro hb2 (And.intro hk2 hg2)); clear hb2 hk2 hg2))
    refine bodyPost_ret (results_t2 rfl _ _ RB lo hi la vB (.slice A N cp) _ rfl rfl H2.out.1) rfl ?_
    exact ⟨_, by rw [HE.out.1]; rfl, by rw [HE.out.2]; exact ⟨vB, _, rfl, HR.out.1.grow H2.out.2.2, HR.out.2.grow H2.out.2.2⟩, H2.out.2.2⟩
  · have HE := Lib.hid (And.intro q4 (hst0 q4))
    have r1 : (p == 0) = false := beq_eq_false_iff_ne.2 q1
    have r2 : (q == 0) = false := beq_eq_false_iff_ne.2 q1'
    have cT := rTalksT W base lo hi la vB vJ J (hJ.grow HT.out.g) hbl ⟨⟨a, p⟩, b, q⟩
    rw [tlS_hasnt q2] at cT
    obtain ⟨A, cp, hvb, hlc, hcm⟩ := hJ.rd.form
    obtain ⟨N, hN⟩ : ∃ N, N = J.length := ⟨_, rfl⟩
    rw [← hN] at hvb q3 hlc
    subst hvb
    have i1 : ¬ (1024 : Int) ≤ (N : Int) := by omega
    have i2 : (N : Int) < 1024 := by omega
    have HN : Hid (N = J.length ∧ N < 1024) := Lib.hid ⟨hN, by omega⟩
    clear hst hst0 q1 q1' q2 q3 q4 hB hJ hbl ok hN
    go_enter Try.func25, Try.ntmps25
    go_upto_region 1 with fail
    rw [← hW, ← hRB]
    have HW := Lib.hid hW
    clear hW hRB
    go_wp2_with (show wpList _ _ _ (⟨some 22, .load 32 (.tmp 3), _, _, _, _⟩ :: _) _ _; refine wpList_load_t W rfl _ rfl w.heap.size lo hi la vB (.slice A N cp) rfl HT.out.t ?_)
    refine cT.mono ?_
    rintro e w5 ⟨rfl, g5⟩
    have HT5 := Lib.hid (HT.out.grow g5)
    have t3 := HT5.out.t.c4
    clear cT g5 z0 z1 z2 z3
    have hcm2 : cp ≤ 9223372036854775807 := hcm
    have HVk : Hid (∀ w1, Grow w5 w1 → RdK w1 5 (.slice A N cp) N (J.flatMap jdC.f)) := fun w1 g => by
      have q := (HR.out.2.grow (HT5.out.g.trans g)).rd
      unfold RdG at q
      rwa [← HN.out.1] at q
    go_upto_region 8 with fail
    go_cut [42] (fun _ wx => ∃ vB', Hid (TrQ w wx lo hi la vB vB' a p b q ∧ Jds wx base vB' (J ++ [(⟨⟨⟨a, p⟩, b, q⟩, o⟩ : Jd)])))
    case first =>
      have z0 := HT5.out.e.c0
      have z1 := HT5.out.e.c1
      have z2 := HT5.out.e.c2
      have z3 := HT5.out.e.c3
      have hb3 : w.heap.size < w5.heap.size := HT5.out.t.lt
      have hb4 : w.heap.size + 1 < w5.heap.size := HT5.out.e.lt
      have hBY : Hid (∀ w1, Grow w5 w1 → w1.cell? ⟨w.heap.size + 1, 0, none⟩ = some (.int .u32 a) ∧ w1.cell? ⟨w.heap.size + 1, 1, none⟩ = some (.int .u16 p) ∧ w1.cell? ⟨w.heap.size + 1, 2, none⟩ = some (.int .u32 b) ∧ w1.cell? ⟨w.heap.size + 1, 3, none⟩ = some (.int .u16 q)) := fun w1 hg => ⟨(HT5.out.e.grow hg).c0, (HT5.out.e.grow hg).c1, (HT5.out.e.grow hg).c2, (HT5.out.e.grow hg).c3⟩
      have hST : Hid (∀ w1, Grow w5 w1 → w1.cell? ⟨w.heap.size, 4, none⟩ = some (.slice A N cp) ∧ w1.frozen? ⟨w.heap.size, 4, none⟩ = false) := fun w1 hg => ⟨(HT5.out.t.grow hg).c4, (HT5.out.t.grow hg).fz 4⟩
      have hO0 : Hid (Jds ((w5.drew.alloc (.cells #[] 76)).alloc (.cells #[.int .u32 a, .int .u16 p, .int .u32 b, .int .u16 q, .int .i64 o] 76)) w5.heap.size (.slice (some ⟨w5.heap.size, 0, none⟩) 0 0) []) := OwG.grow (owg_lit0 w5.drew) (Grow.alloc _ _)
      have hg0 : Hid (Grow w5 ((w5.drew.alloc (.cells #[] 76)).alloc (.cells #[.int .u32 a, .int .u16 p, .int .u32 b, .int .u16 q, .int .i64 o] 76))) := ((Grow.drew w5).trans (Grow.alloc _ _)).trans (Grow.alloc _ _)
      have hO2' : Jds ((w5.drew.alloc (.cells #[.int .u32 a, .int .u16 p, .int .u32 b, .int .u16 q, .int .i64 o] 76)).alloc (.cells #[] 76)) w5.heap.size (.slice (some ⟨(w5.drew.alloc (.cells #[.int .u32 a, .int .u16 p, .int .u32 b, .int .u16 q, .int .i64 o] 76)).heap.size, 0, none⟩) 0 0) [] := OwG.base_ (owg_lit0 (w5.drew.alloc (.cells #[.int .u32 a, .int .u16 p, .int .u32 b, .int .u16 q, .int .i64 o] 76))) (by simp)
      simp only [World.size_alloc, World.size_drew] at hO2'
      have hO2 := Lib.hid hO2'
      clear hO2'
      have hg2 : Hid (Grow w5 ((w5.drew.alloc (.cells #[.int .u32 a, .int .u16 p, .int .u32 b, .int .u16 q, .int .i64 o] 76)).alloc (.cells #[] 76))) := ((Grow.drew w5).trans (Grow.alloc _ _)).trans (Grow.alloc _ _)
      have hlit : ∀ qw : World, Jds (qw.alloc (.cells #[.int .u32 a, .int .u16 p, .int .u32 b, .int .u16 q, .int .i64 o] 76)) qw.heap.size (.slice (some ⟨qw.heap.size, 0, none⟩) 1 1) [(⟨⟨⟨a, p⟩, b, q⟩, o⟩ : Jd)] := fun qw => owg_lit1 (c := jdC) qw (⟨⟨⟨a, p⟩, b, q⟩, o⟩ : Jd) #[.int .u32 a, .int .u16 p, .int .u32 b, .int .u16 q, .int .i64 o] rfl _ rfl
      have HLit := Lib.hid hlit
      have hL2 : Hid (∀ w1, ((w5.drew.alloc (.cells #[.int .u32 a, .int .u16 p, .int .u32 b, .int .u16 q, .int .i64 o] 76)).alloc (.cells #[] 76)).grownBy w1 (Value.ownBlock (.slice (some ⟨w5.heap.size + 1, 0, none⟩) 0 0)) → RdG jdC w1 (.slice (some ⟨w5.heap.size, 0, none⟩) 1 1) [(⟨⟨⟨a, p⟩, b, q⟩, o⟩ : Jd)]) := fun w1 hg => RdK.other ((OwG.grow (hlit w5.drew) (Grow.alloc _ (.cells #[] 76))).rd) hg.size fun bb hb hlt => hg.block bb hlt fun e => by
        injection hb with hb
        injection e with e
        have h1 : w5.heap.size = bb := hb
        have h2 : bb = w5.heap.size + 1 := e
        omega
      have hL1 : Hid (∀ w1, ((w5.drew.alloc (.cells #[] 76)).alloc (.cells #[.int .u32 a, .int .u16 p, .int .u32 b, .int .u16 q, .int .i64 o] 76)).grownBy w1 (Value.ownBlock (.slice (some ⟨w5.heap.size, 0, none⟩) 0 0)) → RdG jdC w1 (.slice (some ⟨w5.heap.size + 1, 0, none⟩) 1 1) [(⟨⟨⟨a, p⟩, b, q⟩, o⟩ : Jd)]) := fun w1 hg => RdK.other ((by have := (hlit (w5.drew.alloc (.cells #[] 76))).rd; simpa only [World.size_alloc, World.size_drew] using this : RdG jdC _ (.slice (some ⟨w5.heap.size + 1, 0, none⟩) 1 1) [(⟨⟨⟨a, p⟩, b, q⟩, o⟩ : Jd)])) hg.size fun bb hb hlt => hg.block bb hlt fun e => by
        injection hb with hb
        injection e with e
        have h1 : w5.heap.size + 1 = bb := hb
        have h2 : bb = w5.heap.size := e
        omega
      clear hlit
      go_region_law (first
        | (refine step_appK _ rfl (.tmp 34) (.tmp 36) 30 rfl 76 _ 5 24 Try.underlying30 infoJd rfl (by decide) w5.heap.size _ _ 0 N [] _ rfl rfl (owg_lit0 (c := jdC) w5.drew) (HVk.out _ ((Grow.drew _).trans (Grow.alloc _ _))) (jdC.ones J) (by have := HN.out.2; omega) (by have := HN.out.2; unfold maxLen; omega) (by simp) ?_; intro v1 w1 ho1 hg1 hat1; rw [List.nil_append] at ho1; have hgw : Grow w5 w1 := ((Grow.drew w5).trans (Grow.alloc _ _)).grown hg1 (by simp) (fun k hk => by cases hk; simp); obtain ⟨y0, y1, y2, y3⟩ := hBY.out w1 hgw; have H5 := Lib.hid (And.intro ho1 hgw); clear ho1 hg1 hat1 hgw)
        | (refine step_appK _ rfl (.tmp 34) (.tmp 36) 30 rfl 76 _ 5 24 Try.underlying30 infoJd rfl (by decide) w5.heap.size _ _ 0 N [] _ rfl rfl hO0.out (HVk.out _ hg0.out) (jdC.ones J) (by have := HN.out.2; omega) (by have := HN.out.2; unfold maxLen; omega) hg0.out.size ?_; intro v1 w1 ho1 hg1 hat1; rw [List.nil_append] at ho1; have hgw : Grow w5 w1 := hg0.out.grown hg1 hg0.out.size (fun k hk => by cases hk; simp); have hLit := Lib.hid (hL1.out w1 hg1); have H5 := Lib.hid (And.intro ho1 hgw); clear ho1 hg1 hat1 hgw)
        | (refine step_appK _ rfl (.tmp 34) (.tmp 36) 30 rfl 76 _ 5 24 Try.underlying30 infoJd rfl (by decide) w5.heap.size _ _ 0 N [] _ rfl rfl hO2.out (HVk.out _ hg2.out) (jdC.ones J) (by have := HN.out.2; omega) (by have := HN.out.2; unfold maxLen; omega) hg2.out.size ?_; intro v1 w1 ho1 hg1 hat1; rw [List.nil_append] at ho1; have hgw : Grow w5 w1 := hg2.out.grown hg1 hg2.out.size (fun k hk => by cases hk; simp); have hLit := Lib.hid (hL2.out w1 hg1); have H5 := Lib.hid (And.intro ho1 hgw); clear ho1 hg1 hat1 hgw)
        | (refine step_appK _ rfl (.tmp 37) (.tmp 41) 30 rfl 76 _ 5 24 Try.underlying30 infoJd rfl (by decide) w5.heap.size v1 _ _ 1 _ (jdC.f (⟨⟨⟨a, p⟩, b, q⟩, o⟩ : Jd)) rfl rfl (ownsRow_other H5.out.1 (fun b cs _ hh => (Grow.alloc _ _).block b (Array.getElem?_eq_some_iff.1 hh).1)) ((HLit.out w1).rd) (jdC.one _) (by have := HN.out.2; omega) (by have := HN.out.2; unfold maxLen; omega) (Nat.le_trans H5.out.2.size (Grow.alloc _ _).size) ?_; intro v2 w2 ho2 hg2 hat2; have hgw : Grow w5 w2 := (H5.out.2.trans (Grow.alloc _ _)).grown hg2 (Nat.le_trans H5.out.2.size (Grow.alloc _ _).size) (fun k hk => (World.ownsRow.lt H5.out.1 k hk).1); obtain ⟨s0, s1⟩ := hST.out w2 hgw; obtain ⟨A6, c6, hf6, _⟩ := (RdK.of_own ho2).form; obtain ⟨m6, hm6⟩ : ∃ m, m = 0 + N + 1 := ⟨_, rfl⟩; rw [← hm6] at hf6 ho2; subst hf6; have H6 := Lib.hid (And.intro ho2 (And.intro hgw hm6)); clear ho2 hg2 hat2 hgw hm6)
        | (refine step_appK _ rfl (.tmp 37) (.tmp 41) 30 rfl 76 _ 5 24 Try.underlying30 infoJd rfl (by decide) w5.heap.size v1 _ _ 1 _ (jdC.f (⟨⟨⟨a, p⟩, b, q⟩, o⟩ : Jd)) rfl rfl H5.out.1 hLit.out (jdC.one _) (by have := HN.out.2; omega) (by have := HN.out.2; unfold maxLen; omega) H5.out.2.size ?_; intro v2 w2 ho2 hg2 hat2; have hgw : Grow w5 w2 := H5.out.2.grown hg2 H5.out.2.size (fun k hk => (World.ownsRow.lt H5.out.1 k hk).1); obtain ⟨s0, s1⟩ := hST.out w2 hgw; obtain ⟨A6, c6, hf6, _⟩ := (RdK.of_own ho2).form; obtain ⟨m6, hm6⟩ : ∃ m, m = 0 + N + 1 := ⟨_, rfl⟩; rw [← hm6] at hf6 ho2; subst hf6; have H6 := Lib.hid (And.intro ho2 (And.intro hgw hm6)); clear ho2 hg2 hat2 hgw hm6))
      all_goals
        go_wp2_with fail
        go_meet
        exact ⟨_, (HT5.out.grow H6.out.2.1).set4 _, Jds.set_ (jd_row H6.out.1 HN.out.1 H6.out.2.2 (Nat.le_trans hbase HT5.out.g.size)) (HT5.out.grow H6.out.2.1).t⟩
    case rest =>
      obtain ⟨vB', HX⟩ := hcut
      have H1' := Lib.hid (tb_ones (HR.out.1.grow HX.out.1.g) HX.out.2 lo hi la)
      go_wp2_with (first
    | (show wpList _ _ _ (⟨some 44, .load 32 (.tmp 3), _, _, _, _⟩ :: _) _ _; refine wpList_load_t wc rfl _ rfl w.heap.size lo hi la vB vB' rfl HX.out.1.t ?_)
    | (show wpList _ _ _ (⟨none, .store 32 (.tmp 6) (.tmp 44), _, _, _, _⟩ :: _) _ _; refine wpList_store_t w wc rfl _ _ rfl rfl RB lo hi la 0 0 0 vB vB' (.slice none 0 0) (.slice none 0 0) rfl rfl (by rw [HRB.out]; exact HX.out.1.r) H1'.out HX.out.1.g (by have := HRB.out; omega) ?_; intro w2 hb2 hk2 hg2; have H2 := Lib.hid (And.intro hb2 (And.intro hk2 hg2)); clear hb2 hk2 hg2))
      refine bodyPost_ret (results_t2 rfl _ _ RB lo hi la vB vB' _ rfl rfl H2.out.1) rfl ?_
      exact ⟨_, by rw [HE.out.1]; rfl, by rw [HE.out.2]; exact ⟨vB, _, rfl, HR.out.1.grow H2.out.2.2, Jds.but_ HX.out.2 (by rw [HRB.out]; exact HX.out.1.r) H2.out.2.1⟩, H2.out.2.2⟩
end Go.Proofs.Ytkilfdhofbjkgaa
