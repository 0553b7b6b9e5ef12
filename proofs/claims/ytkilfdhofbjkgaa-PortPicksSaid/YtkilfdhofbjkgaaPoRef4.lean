/- Contract: the reference's Bind. -/
import Derived.Test.YtkilfdhofbjkgaaPoRef3
namespace Go.Proofs.Ytkilfdhofbjkgaa
set_option linter.unusedVariables false
set_option linter.unusedSimpArgs false
open Go.ChangeShapes Go.WideShapes Go.ChangeAt Go.RowKit

theorem results_t2 {fn : Func} {p u : Tmp} (h : fn.results = #[.cell p 32, .tmp u]) (tmps : Array Value) (w : World) (g : Nat) (lo hi la : Int) (vB vJ y : Value) (ht : tmps.getD p undef = .pointer (some ⟨g, 0, none⟩)) (hy : tmps.getD u undef = y) (hb : TbB w g lo hi la vB vJ) :
    (results fn tmps).run Try.prog w = .ok (.tuple #[.agg (tbA lo hi la vB vJ), y]) w := by
  have ht' : tmps[p]?.getD undef = .pointer (some ⟨g, 0, none⟩) := by simpa using ht
  have e1 := run_loadVar_row w g 32 32 (tbA lo hi la vB vJ) (0, 0) _ hb Try.underlying32 rfl sizeTb
  have hy' : tmps[u]?.getD undef = y := by simpa using hy
  simp [results, h, ht', asAddr, e1, hy']
theorem results_t3 {fn : Func} {p u x : Tmp} (h : fn.results = #[.cell p 32, .tmp u, .tmp x]) (tmps : Array Value) (w : World) (g : Nat) (lo hi la : Int) (vB vJ y z : Value) (ht : tmps.getD p undef = .pointer (some ⟨g, 0, none⟩)) (hy : tmps.getD u undef = y) (hz : tmps.getD x undef = z) (hb : TbB w g lo hi la vB vJ) :
    (results fn tmps).run Try.prog w = .ok (.tuple #[.agg (tbA lo hi la vB vJ), y, z]) w := by
  have ht' : tmps[p]?.getD undef = .pointer (some ⟨g, 0, none⟩) := by simpa using ht
  have e1 := run_loadVar_row w g 32 32 (tbA lo hi la vB vJ) (0, 0) _ hb Try.underlying32 rfl sizeTb
  have hy' : tmps[u]?.getD undef = y := by simpa using hy
  have hz' : tmps[x]?.getD undef = z := by simpa using hz
  simp [results, h, ht', asAddr, e1, hy', hz']
/-- The boxes of a call: the table that came in, an end (or a quad), the table that goes out. -/
structure TrE (w W : World) (lo hi la : Int) (vB vJ : Value) (a p : Int) : Prop where
  t : TbB W w.heap.size lo hi la vB vJ
  e : EdB W (w.heap.size + 1) a p
  r : TbB W (w.heap.size + 2) 0 0 0 (.slice none 0 0) (.slice none 0 0)
  g : Grow w W
theorem trE (w : World) (lo hi la : Int) (vB vJ : Value) (a p : Int) {W : World} (hW : W = ((w.alloc (.cells (tbA lo hi la vB vJ) 32)).alloc (.cells #[.int .u32 a, .int .u16 p] 40)).alloc (.cells (tbA 0 0 0 (.slice none 0 0) (.slice none 0 0)) 32)) : TrE w W lo hi la vB vJ a p := by
  subst hW
  obtain ⟨h1, h2, h3⟩ := two_te w (tbA lo hi la vB vJ) a p rfl
  have g := Grow.alloc ((w.alloc (.cells (tbA lo hi la vB vJ) 32)).alloc (.cells #[.int .u32 a, .int .u16 p] 40)) (.cells (tbA 0 0 0 (.slice none 0 0) (.slice none 0 0)) 32)
  have h4 := heap_alloc_new ((w.alloc (.cells (tbA lo hi la vB vJ) 32)).alloc (.cells #[.int .u32 a, .int .u16 p] 40)) (.cells (tbA 0 0 0 (.slice none 0 0) (.slice none 0 0)) 32)
  have s1 : ((w.alloc (.cells (tbA lo hi la vB vJ) 32)).alloc (.cells #[.int .u32 a, .int .u16 p] 40)).heap.size = w.heap.size + 2 := by
    rw [show ((w.alloc (.cells (tbA lo hi la vB vJ) 32)).alloc (.cells #[.int .u32 a, .int .u16 p] 40)).heap.size = (w.alloc (.cells (tbA lo hi la vB vJ) 32)).heap.size + 1 from Array.size_push _, show (w.alloc (.cells (tbA lo hi la vB vJ) 32)).heap.size = w.heap.size + 1 from Array.size_push _]
  rw [s1] at h4
  exact ⟨TbB.grow h1 g, h2.grow g, h4, h3.trans g⟩
theorem TrE.grow {w W W' : World} {lo hi la : Int} {vB vJ : Value} {a p : Int} (h : TrE w W lo hi la vB vJ a p) (g : Grow W W') : TrE w W' lo hi la vB vJ a p := ⟨h.t.grow g, h.e.grow g, h.r.grow g, h.g.trans g⟩
theorem TrE.set3 {w W : World} {lo hi la : Int} {vB vJ : Value} {a p : Int} (h : TrE w W lo hi la vB vJ a p) (u : Value) : TrE w (W.setCell ⟨w.heap.size, 3, none⟩ u) lo hi la u vJ a p :=
  ⟨h.t.set3 u, (Below.heap_setCell _ _ _ _ (by simp)).trans h.e, (Below.heap_setCell _ _ _ _ (by simp)).trans h.r, Below.setCell h.g (Nat.le_refl _) u⟩
theorem bd_row {w : World} {base b' m N : Nat} {v : Value} {B : List Bd} {x : Bd} (h : w.ownsRow b' 74 3 v m (B.flatMap bdC.f ++ bdC.f x)) (hN : N = B.length) (hm : m = 0 + N + 1) (hb : base ≤ b') : Bds w base v (B ++ [x]) := by
  refine OwG.base_ (owg_app (c := bdC) (l := B) (l' := [x]) (n := m) ?_ (by rw [hm, hN]; simp)) hb
  rw [List.flatMap_cons, List.flatMap_nil, List.append_nil]
  exact h
theorem bdE_cases (t : Prt) (e : Ed) : (e.po = 0 ∧ bdE t e = 8) ∨ (e.po ≠ 0 ∧ takenT t.B e ∧ bdE t e = 140) ∨ (e.po ≠ 0 ∧ ¬ takenT t.B e ∧ 1024 ≤ t.B.length ∧ bdE t e = 5) ∨ (e.po ≠ 0 ∧ ¬ takenT t.B e ∧ ¬ 1024 ≤ t.B.length ∧ bdE t e = 0) := by
  unfold bdE
  by_cases q1 : e.po = 0
  · exact .inl ⟨q1, if_pos q1⟩
  rw [if_neg q1]
  by_cases q2 : takenT t.B e
  · exact .inr (.inl ⟨q1, q2, if_pos q2⟩)
  rw [if_neg q2]
  by_cases q3 : 1024 ≤ t.B.length
  · exact .inr (.inr (.inl ⟨q1, q2, q3, if_pos q3⟩))
  · exact .inr (.inr (.inr ⟨q1, q2, q3, if_neg q3⟩))
set_option maxRecDepth 10000 in
set_option maxHeartbeats 4000000 in
theorem rBindT (w : World) (base : Nat) (hbase : base ≤ w.heap.size) (v : Value) (t : Prt) (h : RTb w base v t) (ok : TOk t) (e : Ed) (o : Int) : Calls Try.prog 22 #[v, .agg #[.int .u32 e.ad, .int .u16 e.po], .int .i64 o] w fun e' w' => ∃ v', e' = .returned (.tuple #[v', .int .i64 (bdE t e)]) ∧ RTb w' base v' (bdT t e o) ∧ Grow w w' := by
  obtain ⟨vB, vJ, rfl, hB, hJ⟩ := h
  have hcs := bdE_cases t e
  have hbl := ok.bl
  have hst : bdE t e ≠ 0 → bdT t e o = t := fun q => if_neg q
  have hst0 : bdE t e = 0 → bdT t e o = { t with B := t.B ++ [⟨e, o⟩] } := fun q => if_pos q
  obtain ⟨lo, hi, la, B, J⟩ := t
  obtain ⟨a, p⟩ := e
  simp only at hB hJ hcs hbl
  obtain ⟨W, hW⟩ : ∃ W, W = ((w.alloc (.cells (tbA lo hi la vB vJ) 32)).alloc (.cells #[.int .u32 a, .int .u16 p] 40)).alloc (.cells (tbA 0 0 0 (.slice none 0 0) (.slice none 0 0)) 32) := ⟨_, rfl⟩
  have HT := Lib.hid (trE w lo hi la vB vJ a p hW)
  obtain ⟨RB, hRB⟩ : ∃ RB, RB = w.heap.size + 2 := ⟨_, rfl⟩
  have H1 := Lib.hid (tb_ones hB hJ lo hi la)
  have HR := Lib.hid (And.intro hB hJ)
  have z1 := HT.out.e.c1
  have z0 := HT.out.e.c0
  have HRB := Lib.hid hRB
  rcases hcs with ⟨q1, q2⟩ | ⟨q1, q2, q3⟩ | ⟨q1, q2, q3, q4⟩ | ⟨q1, q2, q3, q4⟩
  · have HE := Lib.hid (And.intro q2 (hst (by rw [q2]; decide)))
    subst q1
    clear hst hst0 q2 hB hJ hbl ok
    go_enter Try.func22, Try.ntmps22
    go_upto_region 1 with fail
    rw [← hW, ← hRB]
    have HW := Lib.hid hW
    clear hW hRB
    go_wp2_with (first
    | (show wpList _ _ _ (⟨some 11, .load 32 (.tmp 3), _, _, _, _⟩ :: _) _ _; refine wpList_load_t W rfl _ rfl w.heap.size lo hi la vB vJ rfl HT.out.t ?_)
    | (show wpList _ _ _ (⟨none, .store 32 (.tmp 6) (.tmp 11), _, _, _, _⟩ :: _) _ _; refine wpList_store_t w W rfl _ _ rfl rfl RB lo hi la 0 0 0 vB vJ (.slice none 0 0) (.slice none 0 0) rfl rfl (by rw [HRB.out]; exact HT.out.r) H1.out HT.out.g (by have := HRB.out; omega) ?_; intro w2 hb2 hk2 hg2; have H2 := Lib.hid (And.intro hb2 (And.intro hk2 hg2)); clear hb2 hk2 hg2))
    refine bodyPost_ret (results_t2 rfl _ _ RB lo hi la vB vJ _ rfl rfl H2.out.1) rfl ?_
    exact ⟨_, by rw [HE.out.1]; rfl, by rw [HE.out.2]; exact ⟨vB, vJ, rfl, HR.out.1.grow H2.out.2.2, HR.out.2.grow H2.out.2.2⟩, H2.out.2.2⟩
  · have HE := Lib.hid (And.intro q3 (hst (by rw [q3]; decide)))
    have r1 : (p == 0) = false := beq_eq_false_iff_ne.2 q1
    have cT := rTakenT W base lo hi la vB vJ B (hB.grow HT.out.g) hbl ⟨a, p⟩
    rw [decide_eq_true q2] at cT
    clear hst hst0 q1 q2 q3 hB hJ hbl ok
    go_enter Try.func22, Try.ntmps22
    go_upto_region 1 with fail
    rw [← hW, ← hRB]
    have HW := Lib.hid hW
    clear hW hRB
    go_wp2_with (show wpList _ _ _ (⟨some 12, .load 32 (.tmp 3), _, _, _, _⟩ :: _) _ _; refine wpList_load_t W rfl _ rfl w.heap.size lo hi la vB vJ rfl HT.out.t ?_)
    refine cT.mono ?_
    rintro e w5 ⟨rfl, g5⟩
    have HT5 := Lib.hid (HT.out.grow g5)
    clear cT g5 z0 z1
    go_wp2_with (first
    | (show wpList _ _ _ (⟨some 15, .load 32 (.tmp 3), _, _, _, _⟩ :: _) _ _; refine wpList_load_t w5 rfl _ rfl w.heap.size lo hi la vB vJ rfl HT5.out.t ?_)
    | (show wpList _ _ _ (⟨none, .store 32 (.tmp 6) (.tmp 15), _, _, _, _⟩ :: _) _ _; refine wpList_store_t w w5 rfl _ _ rfl rfl RB lo hi la 0 0 0 vB vJ (.slice none 0 0) (.slice none 0 0) rfl rfl (by rw [HRB.out]; exact HT5.out.r) H1.out HT5.out.g (by have := HRB.out; omega) ?_; intro w2 hb2 hk2 hg2; have H2 := Lib.hid (And.intro hb2 (And.intro hk2 hg2)); clear hb2 hk2 hg2))
    refine bodyPost_ret (results_t2 rfl _ _ RB lo hi la vB vJ _ rfl rfl H2.out.1) rfl ?_
    exact ⟨_, by rw [HE.out.1]; rfl, by rw [HE.out.2]; exact ⟨vB, vJ, rfl, HR.out.1.grow H2.out.2.2, HR.out.2.grow H2.out.2.2⟩, H2.out.2.2⟩
  · have HE := Lib.hid (And.intro q4 (hst (by rw [q4]; decide)))
    have r1 : (p == 0) = false := beq_eq_false_iff_ne.2 q1
    have cT := rTakenT W base lo hi la vB vJ B (hB.grow HT.out.g) hbl ⟨a, p⟩
    rw [decide_eq_false q2] at cT
    obtain ⟨A, cp, hvb, _⟩ := hB.rd.form
    obtain ⟨N, hN⟩ : ∃ N, N = B.length := ⟨_, rfl⟩
    rw [← hN] at hvb q3
    subst hvb
    have i1 : (1024 : Int) ≤ (N : Int) := by omega
    have i2 : ¬ ((N : Int) < 1024) := by omega
    clear hst hst0 q1 q2 q4 hB hJ hbl ok hN
    go_enter Try.func22, Try.ntmps22
    go_upto_region 1 with fail
    rw [← hW, ← hRB]
    have HW := Lib.hid hW
    clear hW hRB
    go_wp2_with (show wpList _ _ _ (⟨some 12, .load 32 (.tmp 3), _, _, _, _⟩ :: _) _ _; refine wpList_load_t W rfl _ rfl w.heap.size lo hi la (.slice A N cp) vJ rfl HT.out.t ?_)
    refine cT.mono ?_
    rintro e w5 ⟨rfl, g5⟩
    have HT5 := Lib.hid (HT.out.grow g5)
    have t3 := HT5.out.t.c3
    clear cT g5 z0 z1
    go_wp2_with (first
    | (show wpList _ _ _ (⟨some 20, .load 32 (.tmp 3), _, _, _, _⟩ :: _) _ _; refine wpList_load_t w5 rfl _ rfl w.heap.size lo hi la (.slice A N cp) vJ rfl HT5.out.t ?_)
    | (show wpList _ _ _ (⟨none, .store 32 (.tmp 6) (.tmp 20), _, _, _, _⟩ :: _) _ _; refine wpList_store_t w w5 rfl _ _ rfl rfl RB lo hi la 0 0 0 (.slice A N cp) vJ (.slice none 0 0) (.slice none 0 0) rfl rfl (by rw [HRB.out]; exact HT5.out.r) H1.out HT5.out.g (by have := HRB.out; omega) ?_; intro w2 hb2 hk2 hg2; have H2 := Lib.hid (And.intro hb2 (And.intro hk2 hg2)); clear hb2 hk2 hg2))
    refine bodyPost_ret (results_t2 rfl _ _ RB lo hi la (.slice A N cp) vJ _ rfl rfl H2.out.1) rfl ?_
    exact ⟨_, by rw [HE.out.1]; rfl, by rw [HE.out.2]; exact ⟨_, vJ, rfl, HR.out.1.grow H2.out.2.2, HR.out.2.grow H2.out.2.2⟩, H2.out.2.2⟩
  · have HE := Lib.hid (And.intro q4 (hst0 q4))
    have r1 : (p == 0) = false := beq_eq_false_iff_ne.2 q1
    have cT := rTakenT W base lo hi la vB vJ B (hB.grow HT.out.g) hbl ⟨a, p⟩
    rw [decide_eq_false q2] at cT
    obtain ⟨A, cp, hvb, hlc, hcm⟩ := hB.rd.form
    obtain ⟨N, hN⟩ : ∃ N, N = B.length := ⟨_, rfl⟩
    rw [← hN] at hvb q3 hlc
    subst hvb
    have i1 : ¬ (1024 : Int) ≤ (N : Int) := by omega
    have i2 : (N : Int) < 1024 := by omega
    have HN : Hid (N = B.length ∧ N < 1024) := Lib.hid ⟨hN, by omega⟩
    clear hst hst0 q1 q2 q3 q4 hB hJ hbl ok hN
    go_enter Try.func22, Try.ntmps22
    go_upto_region 1 with fail
    rw [← hW, ← hRB]
    have HW := Lib.hid hW
    clear hW hRB
    go_wp2_with (show wpList _ _ _ (⟨some 12, .load 32 (.tmp 3), _, _, _, _⟩ :: _) _ _; refine wpList_load_t W rfl _ rfl w.heap.size lo hi la (.slice A N cp) vJ rfl HT.out.t ?_)
    refine cT.mono ?_
    rintro e w5 ⟨rfl, g5⟩
    have HT5 := Lib.hid (HT.out.grow g5)
    have t3 := HT5.out.t.c3
    clear cT g5 z0 z1
    have hcm2 : cp ≤ 9223372036854775807 := hcm
    have HVk : Hid (∀ w1, Grow w5 w1 → RdK w1 3 (.slice A N cp) N (B.flatMap bdC.f)) := fun w1 g => by
      have q := (HR.out.1.grow (HT5.out.g.trans g)).rd
      unfold RdG at q
      rwa [← HN.out.1] at q
    go_upto_region 7 with fail
    go_cut [29] (fun _ wx => ∃ vB', Hid (TrE w wx lo hi la vB' vJ a p ∧ Bds wx base vB' (B ++ [(⟨⟨a, p⟩, o⟩ : Bd)])))
    case first =>
      have z0 := HT5.out.e.c0
      have z1 := HT5.out.e.c1
      have hb3 : w.heap.size < w5.heap.size := HT5.out.t.lt
      have hb4 : w.heap.size + 1 < w5.heap.size := HT5.out.e.lt
      have hBY : Hid (∀ w1, Grow w5 w1 → w1.cell? ⟨w.heap.size + 1, 0, none⟩ = some (.int .u32 a) ∧ w1.cell? ⟨w.heap.size + 1, 1, none⟩ = some (.int .u16 p)) := fun w1 hg => ⟨(HT5.out.e.grow hg).c0, (HT5.out.e.grow hg).c1⟩
      have hST : Hid (∀ w1, Grow w5 w1 → w1.cell? ⟨w.heap.size, 3, none⟩ = some (.slice A N cp) ∧ w1.frozen? ⟨w.heap.size, 3, none⟩ = false) := fun w1 hg => ⟨(HT5.out.t.grow hg).c3, (HT5.out.t.grow hg).fz 3⟩
      have hO0 : Hid (Bds ((w5.drew.alloc (.cells #[] 74)).alloc (.cells #[.int .u32 a, .int .u16 p, .int .i64 o] 74)) w5.heap.size (.slice (some ⟨w5.heap.size, 0, none⟩) 0 0) []) := OwG.grow (owg_lit0 w5.drew) (Grow.alloc _ _)
      have hg0 : Hid (Grow w5 ((w5.drew.alloc (.cells #[] 74)).alloc (.cells #[.int .u32 a, .int .u16 p, .int .i64 o] 74))) := ((Grow.drew w5).trans (Grow.alloc _ _)).trans (Grow.alloc _ _)
      have hO2' : Bds ((w5.drew.alloc (.cells #[.int .u32 a, .int .u16 p, .int .i64 o] 74)).alloc (.cells #[] 74)) w5.heap.size (.slice (some ⟨(w5.drew.alloc (.cells #[.int .u32 a, .int .u16 p, .int .i64 o] 74)).heap.size, 0, none⟩) 0 0) [] := OwG.base_ (owg_lit0 (w5.drew.alloc (.cells #[.int .u32 a, .int .u16 p, .int .i64 o] 74))) (by simp)
      simp only [World.size_alloc, World.size_drew] at hO2'
      have hO2 := Lib.hid hO2'
      clear hO2'
      have hg2 : Hid (Grow w5 ((w5.drew.alloc (.cells #[.int .u32 a, .int .u16 p, .int .i64 o] 74)).alloc (.cells #[] 74))) := ((Grow.drew w5).trans (Grow.alloc _ _)).trans (Grow.alloc _ _)
      have hlit : ∀ q : World, Bds (q.alloc (.cells #[.int .u32 a, .int .u16 p, .int .i64 o] 74)) q.heap.size (.slice (some ⟨q.heap.size, 0, none⟩) 1 1) [(⟨⟨a, p⟩, o⟩ : Bd)] := fun q => owg_lit1 (c := bdC) q (⟨⟨a, p⟩, o⟩ : Bd) #[.int .u32 a, .int .u16 p, .int .i64 o] rfl _ rfl
      have HLit := Lib.hid hlit
      have hL2 : Hid (∀ w1, ((w5.drew.alloc (.cells #[.int .u32 a, .int .u16 p, .int .i64 o] 74)).alloc (.cells #[] 74)).grownBy w1 (Value.ownBlock (.slice (some ⟨w5.heap.size + 1, 0, none⟩) 0 0)) → RdG bdC w1 (.slice (some ⟨w5.heap.size, 0, none⟩) 1 1) [(⟨⟨a, p⟩, o⟩ : Bd)]) := fun w1 hg => RdK.other ((OwG.grow (hlit w5.drew) (Grow.alloc _ (.cells #[] 74))).rd) hg.size fun b hb hlt => hg.block b hlt fun e => by
        injection hb with hb
        injection e with e
        have h1 : w5.heap.size = b := hb
        have h2 : b = w5.heap.size + 1 := e
        omega
      have hL1 : Hid (∀ w1, ((w5.drew.alloc (.cells #[] 74)).alloc (.cells #[.int .u32 a, .int .u16 p, .int .i64 o] 74)).grownBy w1 (Value.ownBlock (.slice (some ⟨w5.heap.size, 0, none⟩) 0 0)) → RdG bdC w1 (.slice (some ⟨w5.heap.size + 1, 0, none⟩) 1 1) [(⟨⟨a, p⟩, o⟩ : Bd)]) := fun w1 hg => RdK.other ((by have := (hlit (w5.drew.alloc (.cells #[] 74))).rd; simpa only [World.size_alloc, World.size_drew] using this : RdG bdC _ (.slice (some ⟨w5.heap.size + 1, 0, none⟩) 1 1) [(⟨⟨a, p⟩, o⟩ : Bd)])) hg.size fun b hb hlt => hg.block b hlt fun e => by
        injection hb with hb
        injection e with e
        have h1 : w5.heap.size + 1 = b := hb
        have h2 : b = w5.heap.size := e
        omega
      clear hlit
      go_region_law (first
        | (refine step_appK _ rfl (.tmp 21) (.tmp 23) 29 rfl 74 _ 3 16 Try.underlying29 infoBd rfl (by decide) w5.heap.size _ _ 0 N [] _ rfl rfl (owg_lit0 (c := bdC) w5.drew) (HVk.out _ ((Grow.drew _).trans (Grow.alloc _ _))) (bdC.ones B) (by have := HN.out.2; omega) (by have := HN.out.2; unfold maxLen; omega) (by simp) ?_; intro v1 w1 ho1 hg1 hat1; rw [List.nil_append] at ho1; have hgw : Grow w5 w1 := ((Grow.drew w5).trans (Grow.alloc _ _)).grown hg1 (by simp) (fun k hk => by cases hk; simp); obtain ⟨y0, y1⟩ := hBY.out w1 hgw; have H5 := Lib.hid (And.intro ho1 hgw); clear ho1 hg1 hat1 hgw)
        | (refine step_appK _ rfl (.tmp 21) (.tmp 23) 29 rfl 74 _ 3 16 Try.underlying29 infoBd rfl (by decide) w5.heap.size _ _ 0 N [] _ rfl rfl hO0.out (HVk.out _ hg0.out) (bdC.ones B) (by have := HN.out.2; omega) (by have := HN.out.2; unfold maxLen; omega) hg0.out.size ?_; intro v1 w1 ho1 hg1 hat1; rw [List.nil_append] at ho1; have hgw : Grow w5 w1 := hg0.out.grown hg1 hg0.out.size (fun k hk => by cases hk; simp); have hLit := Lib.hid (hL1.out w1 hg1); have H5 := Lib.hid (And.intro ho1 hgw); clear ho1 hg1 hat1 hgw)
        | (refine step_appK _ rfl (.tmp 21) (.tmp 23) 29 rfl 74 _ 3 16 Try.underlying29 infoBd rfl (by decide) w5.heap.size _ _ 0 N [] _ rfl rfl hO2.out (HVk.out _ hg2.out) (bdC.ones B) (by have := HN.out.2; omega) (by have := HN.out.2; unfold maxLen; omega) hg2.out.size ?_; intro v1 w1 ho1 hg1 hat1; rw [List.nil_append] at ho1; have hgw : Grow w5 w1 := hg2.out.grown hg1 hg2.out.size (fun k hk => by cases hk; simp); have hLit := Lib.hid (hL2.out w1 hg1); have H5 := Lib.hid (And.intro ho1 hgw); clear ho1 hg1 hat1 hgw)
        | (refine step_appK _ rfl (.tmp 24) (.tmp 28) 29 rfl 74 _ 3 16 Try.underlying29 infoBd rfl (by decide) w5.heap.size v1 _ _ 1 _ (bdC.f (⟨⟨a, p⟩, o⟩ : Bd)) rfl rfl (ownsRow_other H5.out.1 (fun b cs _ hh => (Grow.alloc _ _).block b (Array.getElem?_eq_some_iff.1 hh).1)) ((HLit.out w1).rd) (bdC.one _) (by have := HN.out.2; omega) (by have := HN.out.2; unfold maxLen; omega) (Nat.le_trans H5.out.2.size (Grow.alloc _ _).size) ?_; intro v2 w2 ho2 hg2 hat2; have hgw : Grow w5 w2 := (H5.out.2.trans (Grow.alloc _ _)).grown hg2 (Nat.le_trans H5.out.2.size (Grow.alloc _ _).size) (fun k hk => (World.ownsRow.lt H5.out.1 k hk).1); obtain ⟨s0, s1⟩ := hST.out w2 hgw; obtain ⟨A6, c6, hf6, _⟩ := (RdK.of_own ho2).form; obtain ⟨m6, hm6⟩ : ∃ m, m = 0 + N + 1 := ⟨_, rfl⟩; rw [← hm6] at hf6 ho2; subst hf6; have H6 := Lib.hid (And.intro ho2 (And.intro hgw hm6)); clear ho2 hg2 hat2 hgw hm6)
        | (refine step_appK _ rfl (.tmp 24) (.tmp 28) 29 rfl 74 _ 3 16 Try.underlying29 infoBd rfl (by decide) w5.heap.size v1 _ _ 1 _ (bdC.f (⟨⟨a, p⟩, o⟩ : Bd)) rfl rfl H5.out.1 hLit.out (bdC.one _) (by have := HN.out.2; omega) (by have := HN.out.2; unfold maxLen; omega) H5.out.2.size ?_; intro v2 w2 ho2 hg2 hat2; have hgw : Grow w5 w2 := H5.out.2.grown hg2 H5.out.2.size (fun k hk => (World.ownsRow.lt H5.out.1 k hk).1); obtain ⟨s0, s1⟩ := hST.out w2 hgw; obtain ⟨A6, c6, hf6, _⟩ := (RdK.of_own ho2).form; obtain ⟨m6, hm6⟩ : ∃ m, m = 0 + N + 1 := ⟨_, rfl⟩; rw [← hm6] at hf6 ho2; subst hf6; have H6 := Lib.hid (And.intro ho2 (And.intro hgw hm6)); clear ho2 hg2 hat2 hgw hm6))
      all_goals
        go_wp2_with fail
        go_meet
        exact ⟨_, (HT5.out.grow H6.out.2.1).set3 _, Bds.set_ (bd_row H6.out.1 HN.out.1 H6.out.2.2 (Nat.le_trans hbase HT5.out.g.size)) (HT5.out.grow H6.out.2.1).t⟩
    case rest =>
      obtain ⟨vB', HX⟩ := hcut
      have H1' := Lib.hid (tb_ones HX.out.2 (HR.out.2.grow HX.out.1.g) lo hi la)
      go_wp2_with (first
    | (show wpList _ _ _ (⟨some 31, .load 32 (.tmp 3), _, _, _, _⟩ :: _) _ _; refine wpList_load_t wc rfl _ rfl w.heap.size lo hi la vB' vJ rfl HX.out.1.t ?_)
    | (show wpList _ _ _ (⟨none, .store 32 (.tmp 6) (.tmp 31), _, _, _, _⟩ :: _) _ _; refine wpList_store_t w wc rfl _ _ rfl rfl RB lo hi la 0 0 0 vB' vJ (.slice none 0 0) (.slice none 0 0) rfl rfl (by rw [HRB.out]; exact HX.out.1.r) H1'.out HX.out.1.g (by have := HRB.out; omega) ?_; intro w2 hb2 hk2 hg2; have H2 := Lib.hid (And.intro hb2 (And.intro hk2 hg2)); clear hb2 hk2 hg2))
      refine bodyPost_ret (results_t2 rfl _ _ RB lo hi la vB' vJ _ rfl rfl H2.out.1) rfl ?_
      exact ⟨_, by rw [HE.out.1]; rfl, by rw [HE.out.2]; exact ⟨_, vJ, rfl, Bds.but_ HX.out.2 (by rw [HRB.out]; exact HX.out.1.r) H2.out.2.1, HR.out.2.grow H2.out.2.2⟩, H2.out.2.2⟩
end Go.Proofs.Ytkilfdhofbjkgaa
