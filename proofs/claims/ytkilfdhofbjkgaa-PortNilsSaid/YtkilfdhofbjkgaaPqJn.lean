/- Contracts: Join, Part of the program's table. -/
import Derived.Test.YtkilfdhofbjkgaaPqPk
namespace Go.Proofs.Ytkilfdhofbjkgaa
set_option linter.unusedVariables false
set_option linter.unusedSimpArgs false
open Go.ChangeShapes Go.WideShapes Go.ChangeAt Go.RowKit

section
variable {w w' : World} {base pb bm jm um : Nat} {nx : Int} {t : Prt}
/-- The map of quads is another one now. -/
theorem PtS.joined (h : PtS w base pb bm jm um nx t) {J : List Jd} (hm : MB qdV w' jm (jE J)) (g : w.grownBy w' (some jm)) : PtS w' base pb bm jm um nx { t with J := J } := by
  have k : ∀ b, b < w.heap.size → b ≠ jm → w'.heap[b]? = w.heap[b]? := fun b hb hne => g.block b hb fun e => hne (Option.some.inj e)
  obtain ⟨U, u1, u2⟩ := h.use
  exact ⟨(k pb h.lt (Ne.symm (h.mne h.jnd.blk))).trans h.blk, h.hn, h.bp, h.bb, h.bj, h.bu, h.bnd.keep (k _ h.bnd.lt h.n1), hm, ⟨U, u1.keep (k _ u1.lt (Ne.symm h.n3)), u2⟩, h.n1, h.n2, h.n3⟩
theorem hasJ_of {J : List Jd} {q : Qd} {b : Jd} (hb : b ∈ J) (h : b.q = q) : hasJ J q := ⟨b, hb, h⟩
theorem hasJ_no {J : List Jd} {q : Qd} (h : ∀ x ∈ J, x.q ≠ q) : ¬ hasJ J q := fun ⟨b, hb, e⟩ => h b hb e
set_option maxRecDepth 10000 in
set_option maxHeartbeats 1000000 in
theorem joinP (h : PtS w base pb bm jm um nx t) (ok : TOk t) (hb : base ≤ w.heap.size) (q : Qd) (o : Int) : Calls Try.prog 18 #[.pointer (some ⟨pb, 0, none⟩), .agg #[.int .u32 q.l.ad, .int .u16 q.l.po, .int .u32 q.r.ad, .int .u16 q.r.po], .int .i64 o] w fun x w' => x = .returned (.int .i64 (joE t q)) ∧ Ppp w' base pb (joT t q o) ∧ Only base Zo w w' := by
  have HE := Lib.hid (tlIs t.J q)
  obtain ⟨⟨a0, a1⟩, a2, a3⟩ := q
  obtain ⟨W, hW⟩ : ∃ W, W = w.alloc (.cells #[.int .u32 a0, .int .u16 a1, .int .u32 a2, .int .u16 a3] 42) := ⟨_, rfl⟩
  have g1 : Grow w W := by rw [hW]; exact Grow.alloc _ _
  have hq1 : W.heap[w.heap.size]? = some (.cells #[.int .u32 a0, .int .u16 a1, .int .u32 a2, .int .u16 a3] 42 (0, 0)) := by rw [hW]; exact heap_alloc_new w _
  have d0 : W.cell? ⟨w.heap.size, 0, none⟩ = some (.int .u32 a0) := (cell_of_row _ _ 0 _ _ _ hq1).trans rfl
  have d1 : W.cell? ⟨w.heap.size, 1, none⟩ = some (.int .u16 a1) := (cell_of_row _ _ 1 _ _ _ hq1).trans rfl
  have d2 : W.cell? ⟨w.heap.size, 2, none⟩ = some (.int .u32 a2) := (cell_of_row _ _ 2 _ _ _ hq1).trans rfl
  have d3 : W.cell? ⟨w.heap.size, 3, none⟩ = some (.int .u16 a3) := (cell_of_row _ _ 3 _ _ _ hq1).trans rfl
  have H1 := Lib.hid (h.grow g1)
  have HG := Lib.hid (And.intro g1 (And.intro ok hb))
  have c4 := H1.out.c4
  clear h g1 ok hb hq1
  by_cases e1 : a1 = 0
  · subst e1
    have HR : Hid (joE t ⟨⟨a0, 0⟩, a2, a3⟩ = 8 ∧ joT t ⟨⟨a0, 0⟩, a2, a3⟩ o = t) := by
      have e : joE t ⟨⟨a0, 0⟩, a2, a3⟩ = 8 := by unfold joE; exact if_pos (.inl rfl)
      exact ⟨e, by unfold joT; rw [e]; exact if_neg (by decide)⟩
    go_enter Try.func18, Try.ntmps18
    go_upto_region 1 with fail
    rw [← hW]
    clear hW
    go_wp2_with fail
    go_ret
    rw [HR.out.1, HR.out.2]
    exact ⟨rfl, ⟨HG.out.2.1, _, _, _, _, H1.out⟩, Only.grow HG.out.1 HG.out.2.2 Zo⟩
  by_cases e2 : a3 = 0
  · subst e2
    have HR : Hid (joE t ⟨⟨a0, a1⟩, a2, 0⟩ = 8 ∧ joT t ⟨⟨a0, a1⟩, a2, 0⟩ o = t) := by
      have e : joE t ⟨⟨a0, a1⟩, a2, 0⟩ = 8 := by unfold joE; exact if_pos (.inr rfl)
      exact ⟨e, by unfold joT; rw [e]; exact if_neg (by decide)⟩
    go_enter Try.func18, Try.ntmps18
    go_upto_region 1 with fail
    rw [← hW]
    clear hW
    go_wp2_with fail
    go_ret
    rw [HR.out.1, HR.out.2]
    exact ⟨rfl, ⟨HG.out.2.1, _, _, _, _, H1.out⟩, Only.grow HG.out.1 HG.out.2.2 Zo⟩
  have f1 : (a1 == 0) = false := beq_eq_false_iff_ne.2 e1
  have f2 : (a3 == 0) = false := beq_eq_false_iff_ne.2 e2
  have e3 : ¬ ((⟨⟨a0, a1⟩, a2, a3⟩ : Qd).l.po = 0 ∨ (⟨⟨a0, a1⟩, a2, a3⟩ : Qd).r.po = 0) := fun k => k.elim e1 e2
  rcases HE.out with ⟨b, hb, h1, h2⟩ | ⟨h0, h2⟩
  · have HR : Hid (joE t ⟨⟨a0, a1⟩, a2, a3⟩ = 140 ∧ joT t ⟨⟨a0, a1⟩, a2, a3⟩ o = t) := by
      have e : joE t ⟨⟨a0, a1⟩, a2, a3⟩ = 140 := by unfold joE; rw [if_neg e3, if_pos (hasJ_of hb h1)]
      exact ⟨e, by unfold joT; rw [e]; exact if_neg (by decide)⟩
    have l1 : ∀ n : Nat, (Instr.lookup 63 (.map (some jm)) (.agg #[.int .u32 a0, .int .u16 a1, .int .u32 a2, .int .u16 a3]) true).run Try.prog (W.drewN n) = .ok (.tuple #[.int .i64 b.o, .bool true]) (W.drewN n) := by
      intro n
      have := (H1.out.grow (Grow.drewN _ n)).jnd.look_some qdK (jE_some hb) true
      rw [h1] at this
      exact this
    clear HE hb h1 h2 e3
    go_enter Try.func18, Try.ntmps18
    go_upto_region 1 with fail
    rw [← hW]
    clear hW
    go_wp2_with fail
    go_quiet (fail)
    go_wp2_with fail
    go_ret
    rw [HR.out.1, HR.out.2]
    exact ⟨rfl, ⟨HG.out.2.1, _, _, _, _, H1.out.grow (Grow.drewN _ _)⟩, Only.grow (HG.out.1.trans (Grow.drewN _ _)) HG.out.2.2 Zo⟩
  have l1 : ∀ n : Nat, (Instr.lookup 63 (.map (some jm)) (.agg #[.int .u32 a0, .int .u16 a1, .int .u32 a2, .int .u16 a3]) true).run Try.prog (W.drewN n) = .ok (.tuple #[.int .i64 0, .bool false]) (W.drewN n) :=
    fun n => (H1.out.grow (Grow.drewN _ n)).jnd.look_none qdK (jE_none h0) true
  have l2 : ∀ (n : Nat) ty, (Builtin.len_ #[63] ty #[.map (some jm)]).run Try.prog (W.drewN n) = .ok (.int .i64 (t.J.length : Nat)) (W.drewN n) := fun n ty => by
    have := (H1.out.grow (Grow.drewN _ n)).jnd.len qdK ty
    rwa [show (jE t.J).length = t.J.length from List.length_map _] at this
  obtain ⟨L, hL⟩ : ∃ L, L = t.J.length := ⟨_, rfl⟩
  rw [← hL] at l2
  by_cases e4 : 1024 ≤ L
  · have HR : Hid (joE t ⟨⟨a0, a1⟩, a2, a3⟩ = 5 ∧ joT t ⟨⟨a0, a1⟩, a2, a3⟩ o = t) := by
      have e : joE t ⟨⟨a0, a1⟩, a2, a3⟩ = 5 := by unfold joE; rw [if_neg e3, if_neg (hasJ_no h0), if_pos (by omega)]
      exact ⟨e, by unfold joT; rw [e]; exact if_neg (by decide)⟩
    have i0 : (1024 : Int) ≤ (L : Int) := by omega
    clear HE h0 h2 e3 hL e4
    go_enter Try.func18, Try.ntmps18
    go_upto_region 1 with fail
    rw [← hW]
    clear hW
    go_wp2_with fail
    go_quiet (fail)
    go_wp2_with fail
    go_ret
    rw [HR.out.1, HR.out.2]
    exact ⟨rfl, ⟨HG.out.2.1, _, _, _, _, H1.out.grow (Grow.drewN _ _)⟩, Only.grow (HG.out.1.trans (Grow.drewN _ _)) HG.out.2.2 Zo⟩
  · have HR : Hid (joE t ⟨⟨a0, a1⟩, a2, a3⟩ = 0 ∧ joT t ⟨⟨a0, a1⟩, a2, a3⟩ o = { t with J := t.J ++ [⟨⟨⟨a0, a1⟩, a2, a3⟩, o⟩] }) := by
      have e : joE t ⟨⟨a0, a1⟩, a2, a3⟩ = 0 := by unfold joE; rw [if_neg e3, if_neg (hasJ_no h0), if_neg (by omega)]
      exact ⟨e, by unfold joT; rw [e]; exact if_pos rfl⟩
    have i0 : ¬ (1024 : Int) ≤ (L : Int) := by omega
    have HP : Hid (∀ W2, Grow W W2 → ∃ w2, (Instr.mapUpdate 63 (.map (some jm)) (.agg #[.int .u32 a0, .int .u16 a1, .int .u32 a2, .int .u16 a3]) (.int .i64 o)).run Try.prog W2 = .ok () w2 ∧ Hid (Ppp w2 base pb (joT t ⟨⟨a0, a1⟩, a2, a3⟩ o) ∧ Only base Zo w w2)) := fun W2 gW => by
      have hn := H1.out.grow gW
      obtain ⟨w2, p1, p2, p3⟩ := hn.jnd.put_new qdK (jE_none h0) o
      refine ⟨w2, p1, ⟨HG.out.2.1.jo _ _, bm, jm, um, nx, ?_⟩, (Only.grow (HG.out.1.trans gW) HG.out.2.2 Zo).trans (zo_map p3 hn.bj (Nat.le_trans HG.out.2.2 (HG.out.1.trans gW).size) hn.jnd.blk)⟩
      rw [HR.out.2]
      refine hn.joined (p2.perm ?_) p3
      unfold jE
      rw [List.map_append]
      exact (List.perm_append_singleton _ _).symm
    clear HE h0 h2 e3 hL e4
    go_enter Try.func18, Try.ntmps18
    go_upto_region 1 with fail
    rw [← hW]
    clear hW
    go_wp2_with fail
    go_quiet (fail)
    go_wp2_with fail
    obtain ⟨w2, p1, HZ⟩ := HP.out (W.drewN (nq + 1)) (Grow.drewN _ _)
    go_region
    go_wp2_with fail
    go_ret
    rw [HR.out.1]
    exact ⟨rfl, HZ.out⟩
set_option maxRecDepth 10000 in
set_option maxHeartbeats 1000000 in
theorem partP (h : PtS w base pb bm jm um nx t) (ok : TOk t) (hb : base ≤ w.heap.size) (q : Qd) : Calls Try.prog 21 #[.pointer (some ⟨pb, 0, none⟩), .agg #[.int .u32 q.l.ad, .int .u16 q.l.po, .int .u32 q.r.ad, .int .u16 q.r.po]] w fun x w' => x = .returned (.int .i64 (paE t q)) ∧ Ppp w' base pb (paT t q) ∧ Only base Zo w w' := by
  obtain ⟨⟨a0, a1⟩, a2, a3⟩ := q
  obtain ⟨W, hW⟩ : ∃ W, W = w.alloc (.cells #[.int .u32 a0, .int .u16 a1, .int .u32 a2, .int .u16 a3] 42) := ⟨_, rfl⟩
  have g1 : Grow w W := by rw [hW]; exact Grow.alloc _ _
  have hq1 : W.heap[w.heap.size]? = some (.cells #[.int .u32 a0, .int .u16 a1, .int .u32 a2, .int .u16 a3] 42 (0, 0)) := by rw [hW]; exact heap_alloc_new w _
  have d0 : W.cell? ⟨w.heap.size, 0, none⟩ = some (.int .u32 a0) := (cell_of_row _ _ 0 _ _ _ hq1).trans rfl
  have d1 : W.cell? ⟨w.heap.size, 1, none⟩ = some (.int .u16 a1) := (cell_of_row _ _ 1 _ _ _ hq1).trans rfl
  have d2 : W.cell? ⟨w.heap.size, 2, none⟩ = some (.int .u32 a2) := (cell_of_row _ _ 2 _ _ _ hq1).trans rfl
  have d3 : W.cell? ⟨w.heap.size, 3, none⟩ = some (.int .u16 a3) := (cell_of_row _ _ 3 _ _ _ hq1).trans rfl
  have H1 := Lib.hid (h.grow g1)
  have HG := Lib.hid (And.intro g1 (And.intro ok hb))
  have c4 := H1.out.c4
  clear h g1 ok hb hq1
  by_cases hh : hasJ t.J ⟨⟨a0, a1⟩, a2, a3⟩
  · have hx := List.findIdx_lt_length_of_exists (xs := t.J) (p := fun j : Jd => decide (j.q = ⟨⟨a0, a1⟩, a2, a3⟩)) (by
      obtain ⟨b, hb, e⟩ := hh
      exact ⟨b, hb, decide_eq_true e⟩)
    have hat : t.J[ixJ t.J ⟨⟨a0, a1⟩, a2, a3⟩]? = some t.J[ixJ t.J ⟨⟨a0, a1⟩, a2, a3⟩] := List.getElem?_eq_getElem hx
    have heq : t.J[ixJ t.J ⟨⟨a0, a1⟩, a2, a3⟩].q = ⟨⟨a0, a1⟩, a2, a3⟩ := of_decide_eq_true (List.findIdx_getElem (w := hx))
    generalize t.J[ixJ t.J ⟨⟨a0, a1⟩, a2, a3⟩] = b at hat heq
    have hmem := List.mem_of_getElem? hat
    have HR : Hid (paE t ⟨⟨a0, a1⟩, a2, a3⟩ = 0 ∧ paT t ⟨⟨a0, a1⟩, a2, a3⟩ = { t with J := t.J.eraseIdx (ixJ t.J ⟨⟨a0, a1⟩, a2, a3⟩) }) := ⟨by unfold paE; exact if_pos hh, by unfold paT; exact if_pos hh⟩
    have l1 : ∀ n : Nat, (Instr.lookup 63 (.map (some jm)) (.agg #[.int .u32 a0, .int .u16 a1, .int .u32 a2, .int .u16 a3]) true).run Try.prog (W.drewN n) = .ok (.tuple #[.int .i64 b.o, .bool true]) (W.drewN n) := by
      intro n
      have := (H1.out.grow (Grow.drewN _ n)).jnd.look_some qdK (jE_some hmem) true
      rw [heq] at this
      exact this
    have HP : Hid (∀ W2, Grow W W2 → ∀ ty, ∃ w2, (Builtin.delete_ #[63, 42] ty #[.map (some jm), .agg #[.int .u32 a0, .int .u16 a1, .int .u32 a2, .int .u16 a3]]).run Try.prog W2 = .ok (.tuple #[]) w2 ∧ Hid (Ppp w2 base pb (paT t ⟨⟨a0, a1⟩, a2, a3⟩) ∧ Only base Zo w w2)) := fun W2 gW ty => by
      have hn := H1.out.grow gW
      have hp : (jE t.J).Perm ((b.q, b.o) :: jE (t.J.eraseIdx (ixJ t.J ⟨⟨a0, a1⟩, a2, a3⟩))) := (permk_at hat).map fun j : Jd => (j.q, j.o)
      obtain ⟨w2, p1, p2, p3⟩ := (hn.jnd.perm hp).del qdK ty
      rw [heq] at p1
      refine ⟨w2, p1, ⟨HG.out.2.1.pa _, bm, jm, um, nx, ?_⟩, (Only.grow (HG.out.1.trans gW) HG.out.2.2 Zo).trans (zo_map p3 hn.bj (Nat.le_trans HG.out.2.2 (HG.out.1.trans gW).size) hn.jnd.blk)⟩
      rw [HR.out.2]
      exact hn.joined p2 p3
    clear hh hx hat heq hmem
    go_enter Try.func21, Try.ntmps21
    go_upto_region 1 with fail
    rw [← hW]
    clear hW
    go_wp2_with fail
    go_quiet (fail)
    go_wp2_with fail
    obtain ⟨w2, p1, HZ⟩ := HP.out (W.drewN (nq + 1)) (Grow.drewN _ _) 0
    go_region
    go_wp2_with fail
    go_ret
    rw [HR.out.1]
    exact ⟨rfl, HZ.out⟩
  · have h0 : ∀ x ∈ t.J, x.q ≠ ⟨⟨a0, a1⟩, a2, a3⟩ := fun x hx e => hh ⟨x, hx, e⟩
    have HR : Hid (paE t ⟨⟨a0, a1⟩, a2, a3⟩ = 6 ∧ paT t ⟨⟨a0, a1⟩, a2, a3⟩ = t) := ⟨by unfold paE; exact if_neg hh, by unfold paT; exact if_neg hh⟩
    have l1 : ∀ n : Nat, (Instr.lookup 63 (.map (some jm)) (.agg #[.int .u32 a0, .int .u16 a1, .int .u32 a2, .int .u16 a3]) true).run Try.prog (W.drewN n) = .ok (.tuple #[.int .i64 0, .bool false]) (W.drewN n) :=
      fun n => (H1.out.grow (Grow.drewN _ n)).jnd.look_none qdK (jE_none h0) true
    clear hh h0
    go_enter Try.func21, Try.ntmps21
    go_upto_region 1 with fail
    rw [← hW]
    clear hW
    go_wp2_with fail
    go_quiet (fail)
    go_wp2_with fail
    go_ret
    rw [HR.out.1, HR.out.2]
    exact ⟨rfl, ⟨HG.out.2.1, _, _, _, _, H1.out.grow (Grow.drewN _ _)⟩, Only.grow (HG.out.1.trans (Grow.drewN _ _)) HG.out.2.2 Zo⟩
end
end Go.Proofs.Ytkilfdhofbjkgaa
