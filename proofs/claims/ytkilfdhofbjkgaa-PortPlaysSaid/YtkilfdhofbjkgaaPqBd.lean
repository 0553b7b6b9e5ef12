/- Contracts: Bind, Unbind of the program's table. -/
import Derived.Test.YtkilfdhofbjkgaaPqJn
namespace Go.Proofs.Ytkilfdhofbjkgaa
set_option linter.unusedVariables false
set_option linter.unusedSimpArgs false
open Go.ChangeShapes Go.WideShapes Go.ChangeAt Go.RowKit

theorem drew_same (w : World) (i : Nat) : w.drew.heap[i]? = w.heap[i]? := rfl
theorem nodup_fun {K : Type} {E : List (K × Int)} (h : (E.map Prod.fst).Nodup) {k : K} {a b : Int} (ha : (k, a) ∈ E) (hb : (k, b) ∈ E) : a = b := by
  obtain ⟨j, hj⟩ := List.getElem?_of_mem ha
  obtain ⟨i, hi⟩ := List.getElem?_of_mem hb
  by_cases e : i = j
  · subst e
    rw [hj] at hi
    cases hi
    rfl
  · exact absurd rfl (apart_at h hj i _ e hi)
section
variable {w w3 w4 w5 : World} {base pb bm jm um : Nat} {nx : Int} {t : Prt}
/-- The map of ends and the map of ports are others now. -/
theorem PtS.bound (h : PtS w base pb bm jm um nx t) {B : List Bd} (g3 : w.grownBy w3 (some bm)) (hm : MB edV w3 bm (bE B)) (g4 : w3.grownBy w4 (some um)) (hu : ∃ U, MB poV w4 um U ∧ Uses B U) : PtS w4 base pb bm jm um nx { t with B := B } := by
  have k3 : ∀ b, b < w.heap.size → b ≠ bm → w3.heap[b]? = w.heap[b]? := fun b hb hne => g3.block b hb fun e => hne (Option.some.inj e)
  have k4 : ∀ b, b < w3.heap.size → b ≠ um → w4.heap[b]? = w3.heap[b]? := fun b hb hne => g4.block b hb fun e => hne (Option.some.inj e)
  have k : ∀ b, b < w.heap.size → b ≠ bm → b ≠ um → w4.heap[b]? = w.heap[b]? := fun b hb n1 n2 => (k4 b (Nat.lt_of_lt_of_le hb g3.size) n2).trans (k3 b hb n1)
  obtain ⟨U, u1, u2⟩ := h.use
  exact ⟨(k pb h.lt (Ne.symm (h.mne h.bnd.blk)) (Ne.symm (h.mne u1.blk))).trans h.blk, h.hn, h.bp, h.bb, h.bj, h.bu, hm.keep (k4 _ hm.lt h.n2), h.jnd.keep (k _ h.jnd.lt (Ne.symm h.n1) h.n3), hu, h.n1, h.n2, h.n3⟩
/-- What Bind's two writes leave. -/
theorem bindW (h : PtS w base pb bm jm um nx t) (hb : base ≤ w.heap.size) (ad po o : Int) {qb : Nat} {cs : Array Value} (hq : w.heap[qb]? = some (.cells cs 40 (0, 0))) (h0 : ∀ x ∈ t.B, x.e ≠ ⟨ad, po⟩) :
    ∃ w3 w4, (Instr.mapUpdate 62 (.map (some bm)) (.agg #[.int .u32 ad, .int .u16 po]) (.int .i64 o)).run Try.prog w.drew = .ok () w3 ∧
      w3.heap[qb]? = some (.cells cs 40 (0, 0)) ∧ w3.cell? ⟨pb, 5, none⟩ = some (.map (some um)) ∧
      (Instr.lookup 64 (.map (some um)) (.int .u16 po) false).run Try.prog w3.drew = .ok (.int .i64 (cnt t.B po : Int)) w3.drew ∧
      (Instr.mapUpdate 64 (.map (some um)) (.int .u16 po) (.int .i64 ((cnt t.B po : Int) + 1))).run Try.prog w3.drew = .ok () w4 ∧
      PtS w4 base pb bm jm um nx { t with B := t.B ++ [⟨⟨ad, po⟩, o⟩] } ∧ Only base Zo w w4 := by
  have hd := h.grow (Grow.drew w)
  obtain ⟨w3, p1, p2, p3⟩ := hd.bnd.put_new edK (bE_none h0) o
  have k3 : ∀ b, b < w.heap.size → b ≠ bm → w3.heap[b]? = w.heap[b]? := fun b hb hne => p3.block b hb fun e => hne (Option.some.inj e)
  obtain ⟨U, u1, u2⟩ := h.use
  have u3 : MB poV w3.drew um U := u1.keep (k3 _ u1.lt (Ne.symm h.n2))
  obtain ⟨w4, R, q1, q2, q3, q4⟩ := u2.put u3 po ((cnt t.B po : Int) + 1)
  have hblk3 : w3.heap[pb]? = _ := (k3 pb h.lt (Ne.symm (h.mne h.bnd.blk))).trans h.blk
  have hqb : qb ≠ bm := fun e => by
    obtain ⟨es, ck, e2⟩ := h.bnd.blk
    rw [← e, hq] at e2
    cases e2
  refine ⟨w3, w4, p1, (k3 qb (Array.getElem?_eq_some_iff.1 hq).1 hqb).trans hq, (cell_of_row w3 pb 5 _ _ _ hblk3).trans rfl, u2.look u3 po, q1, ?_, ?_⟩
  · refine h.bound (B := t.B ++ [⟨⟨ad, po⟩, o⟩]) (w3 := w3.drew) ?_ ((p2.keep (drew_same _ _)).perm ?_) q4 ⟨_, q2, q3.cons ?_ ?_⟩
    · exact ⟨p3.os, p3.tape, p3.output, p3.size, p3.block⟩
    · unfold bE
      rw [List.map_append]
      exact (List.perm_append_singleton _ _).symm
    · rw [cnt_one, if_pos rfl]
      rfl
    · intro q hq
      rw [cnt_one]
      show _ + (if po = q then 1 else 0) = _
      rw [if_neg (Ne.symm hq)]
      rfl
  · refine ((Only.grow (Grow.drew w) hb Zo).trans (zo_map p3 h.bb hb hd.bnd.blk)).trans ((Only.grow (Grow.drew w3) (Nat.le_trans hb p3.size) Zo).trans (zo_map q4 h.bu (Nat.le_trans hb p3.size) u3.blk))
set_option maxRecDepth 10000 in
set_option maxHeartbeats 1000000 in
theorem bindP (h : PtS w base pb bm jm um nx t) (ok : TOk t) (hb : base ≤ w.heap.size) (e : Ed) (o : Int) : Calls Try.prog 17 #[.pointer (some ⟨pb, 0, none⟩), .agg #[.int .u32 e.ad, .int .u16 e.po], .int .i64 o] w fun x w' => x = .returned (.int .i64 (bdE t e)) ∧ Ppp w' base pb (bdT t e o) ∧ Only base Zo w w' := by
  obtain ⟨ad, po⟩ := e
  obtain ⟨W, hW⟩ : ∃ W, W = w.alloc (.cells #[.int .u32 ad, .int .u16 po] 40) := ⟨_, rfl⟩
  have g1 : Grow w W := by rw [hW]; exact Grow.alloc _ _
  have hq1 : W.heap[w.heap.size]? = some (.cells #[.int .u32 ad, .int .u16 po] 40 (0, 0)) := by rw [hW]; exact heap_alloc_new w _
  have d0 : W.cell? ⟨w.heap.size, 0, none⟩ = some (.int .u32 ad) := (cell_of_row _ _ 0 _ _ _ hq1).trans rfl
  have d1 : W.cell? ⟨w.heap.size, 1, none⟩ = some (.int .u16 po) := (cell_of_row _ _ 1 _ _ _ hq1).trans rfl
  have H1 := Lib.hid (h.grow g1)
  have HG := Lib.hid (And.intro g1 (And.intro ok (And.intro hb hq1)))
  clear h g1 ok hb hq1
  by_cases e1 : po = 0
  · subst e1
    have HR : Hid (bdE t ⟨ad, 0⟩ = 8 ∧ bdT t ⟨ad, 0⟩ o = t) := by
      have e : bdE t ⟨ad, 0⟩ = 8 := by unfold bdE; exact if_pos rfl
      exact ⟨e, by unfold bdT; rw [e]; exact if_neg (by decide)⟩
    go_enter Try.func17, Try.ntmps17
    go_upto_region 1 with fail
    rw [← hW]
    clear hW
    go_wp2_with fail
    go_ret
    rw [HR.out.1, HR.out.2]
    exact ⟨rfl, ⟨HG.out.2.1, _, _, _, _, H1.out⟩, Only.grow HG.out.1 HG.out.2.2.1 Zo⟩
  have f1 : (po == 0) = false := beq_eq_false_iff_ne.2 e1
  have e3 : ¬ ((⟨ad, po⟩ : Ed).po = 0) := e1
  have c0 := takenP H1.out ⟨ad, po⟩
  by_cases e2 : takenT t.B ⟨ad, po⟩
  · have HR : Hid (bdE t ⟨ad, po⟩ = 140 ∧ bdT t ⟨ad, po⟩ o = t) := by
      have e : bdE t ⟨ad, po⟩ = 140 := by unfold bdE; rw [if_neg e3, if_pos e2]
      exact ⟨e, by unfold bdT; rw [e]; exact if_neg (by decide)⟩
    simp only [decide_eq_true e2] at c0
    clear e2 e3
    go_enter Try.func17, Try.ntmps17
    go_upto_region 1 with fail
    rw [← hW]
    clear hW
    go_wp2_with fail
    refine c0.mono ?_
    rintro x w2 ⟨rfl, g2⟩
    have G2 := Lib.hid g2
    clear c0 g2
    go_wp2_with fail
    go_ret
    rw [HR.out.1, HR.out.2]
    exact ⟨rfl, ⟨HG.out.2.1, _, _, _, _, H1.out.grow G2.out⟩, Only.grow (HG.out.1.trans G2.out) HG.out.2.2.1 Zo⟩
  simp only [decide_eq_false e2] at c0
  have HL : Hid (∀ W2, Grow W W2 → ∀ ty, (Builtin.len_ #[62] ty #[.map (some bm)]).run Try.prog W2 = .ok (.int .i64 (t.B.length : Nat)) W2) := fun W2 gW ty => by
    have := (H1.out.grow gW).bnd.len edK ty
    rwa [show (bE t.B).length = t.B.length from List.length_map _] at this
  obtain ⟨L, hL⟩ : ∃ L, L = t.B.length := ⟨_, rfl⟩
  rw [← hL] at HL
  by_cases e4 : 1024 ≤ L
  · have HR : Hid (bdE t ⟨ad, po⟩ = 5 ∧ bdT t ⟨ad, po⟩ o = t) := by
      have e : bdE t ⟨ad, po⟩ = 5 := by unfold bdE; rw [if_neg e3, if_neg e2, if_pos (by omega)]
      exact ⟨e, by unfold bdT; rw [e]; exact if_neg (by decide)⟩
    have i0 : (1024 : Int) ≤ (L : Int) := by omega
    clear e2 e3 hL e4
    go_enter Try.func17, Try.ntmps17
    go_upto_region 1 with fail
    rw [← hW]
    clear hW
    go_wp2_with fail
    refine c0.mono ?_
    rintro x w2 ⟨rfl, g2⟩
    have G2 := Lib.hid g2
    have c3 := (H1.out.grow g2).c3
    have l2 := HL.out w2 g2
    clear c0 g2
    go_wp2_with fail
    go_ret
    rw [HR.out.1, HR.out.2]
    exact ⟨rfl, ⟨HG.out.2.1, _, _, _, _, H1.out.grow G2.out⟩, Only.grow (HG.out.1.trans G2.out) HG.out.2.2.1 Zo⟩
  · have HR : Hid (bdE t ⟨ad, po⟩ = 0 ∧ bdT t ⟨ad, po⟩ o = { t with B := t.B ++ [⟨⟨ad, po⟩, o⟩] }) := by
      have e : bdE t ⟨ad, po⟩ = 0 := by unfold bdE; rw [if_neg e3, if_neg e2, if_neg (by omega)]
      exact ⟨e, by unfold bdT; rw [e]; exact if_pos rfl⟩
    have i0 : ¬ (1024 : Int) ≤ (L : Int) := by omega
    have h0 : ∀ x ∈ t.B, x.e ≠ ⟨ad, po⟩ := fun x hx e => e2 ⟨x, hx, by rw [e], .inl (by rw [e])⟩
    have hcl : cnt t.B po < 1024 := by have := cnt_le t.B po; omega
    obtain ⟨c, hc⟩ : ∃ c, c = cnt t.B po := ⟨_, rfl⟩
    have w1 : IntKind.i64.wrap ((c : Int) + 1) = (c : Int) + 1 := IntWalk.i64_in _ (by omega)
    have HB := Lib.hid (And.intro h0 hc)
    clear e2 e3 hL e4 hcl h0 hc
    go_enter Try.func17, Try.ntmps17
    go_upto_region 1 with fail
    rw [← hW]
    clear hW
    go_wp2_with fail
    refine c0.mono ?_
    rintro x w2 ⟨rfl, g2⟩
    have c3 := (H1.out.grow g2).c3
    have l2 := HL.out w2 g2
    have hq2 := (g2.block _ (Array.getElem?_eq_some_iff.1 HG.out.2.2.2).1).trans HG.out.2.2.2
    have b0 : w2.cell? ⟨w.heap.size, 0, none⟩ = some (.int .u32 ad) := (cell_of_row _ _ 0 _ _ _ hq2).trans rfl
    have b1 : w2.cell? ⟨w.heap.size, 1, none⟩ = some (.int .u16 po) := (cell_of_row _ _ 1 _ _ _ hq2).trans rfl
    obtain ⟨w3, w4, p1, p2, p3, p4, p5, p6, p7⟩ := bindW (H1.out.grow g2) (Nat.le_trans HG.out.2.2.1 (HG.out.1.trans g2).size) ad po o hq2 HB.out.1
    rw [← HB.out.2] at p4 p5
    have a1 : w3.cell? ⟨w.heap.size, 1, none⟩ = some (.int .u16 po) := (cell_of_row _ _ 1 _ _ _ p2).trans rfl
    have HZ : Hid (Ppp w4 base pb (bdT t ⟨ad, po⟩ o) ∧ Only base Zo w w4) := ⟨⟨HG.out.2.1.bd _ _, by rw [HR.out.2]; exact ⟨_, _, _, _, p6⟩⟩, (Only.grow (HG.out.1.trans g2) HG.out.2.2.1 Zo).trans p7⟩
    clear c0 g2 hq2 p2 p6 p7 d0 d1
    go_wp2_with fail
    go_region
    go_wp2_with fail
    go_region
    go_wp2_with fail
    go_ret
    rw [HR.out.1]
    exact ⟨rfl, HZ.out⟩
/-- What Unbind's writes leave. -/
theorem unbindW (h : PtS w base pb bm jm um nx t) (hb : base ≤ w.heap.size) (ad po : Int) {b : Bd} {i : Nat} (hi : t.B[i]? = some b) (he : b.e = ⟨ad, po⟩) {m : Nat} (hm : (m : Int) = (cnt t.B po : Int) - 1) {qb : Nat} {cs : Array Value} (hq : w.heap[qb]? = some (.cells cs 40 (0, 0))) (ty : TypeId) :
    ∃ w3 w4, (Builtin.delete_ #[62, 40] ty #[.map (some bm), .agg #[.int .u32 ad, .int .u16 po]]).run Try.prog w = .ok (.tuple #[]) w3 ∧
      w3.heap[qb]? = some (.cells cs 40 (0, 0)) ∧ w3.cell? ⟨pb, 5, none⟩ = some (.map (some um)) ∧
      (Instr.lookup 64 (.map (some um)) (.int .u16 po) false).run Try.prog w3.drew = .ok (.int .i64 (cnt t.B po : Int)) w3.drew ∧
      (Instr.mapUpdate 64 (.map (some um)) (.int .u16 po) (.int .i64 (m : Int))).run Try.prog w3.drew = .ok () w4 ∧
      w4.heap[qb]? = some (.cells cs 40 (0, 0)) ∧
      PtS w4 base pb bm jm um nx { t with B := t.B.eraseIdx i } ∧ Only base Zo w w4 ∧
      (m = 0 → ∀ n ty, ∃ w5, (Builtin.delete_ #[64, 38] ty #[.map (some um), .int .u16 po]).run Try.prog (w4.drewN n) = .ok (.tuple #[]) w5 ∧ Hid (PtS w5 base pb bm jm um nx { t with B := t.B.eraseIdx i } ∧ Only base Zo w w5)) := by
  have hp := permk_at hi
  have hpB : (bE t.B).Perm ((b.e, b.o) :: bE (t.B.eraseIdx i)) := hp.map fun b : Bd => (b.e, b.o)
  have hc1 : ∀ q, cnt t.B q = cnt (t.B.eraseIdx i) q + (if b.e.po = q then 1 else 0) := fun q => by
    rw [← cnt_cons]
    exact cnt_perm hp q
  have hc2 : (m : Int) = (cnt (t.B.eraseIdx i) po : Int) := by
    have := hc1 po
    rw [he, if_pos rfl] at this
    omega
  have hc3 : ∀ q, q ≠ po → cnt (t.B.eraseIdx i) q = cnt t.B q := fun q hq => by
    have := hc1 q
    rw [he, if_neg (show ¬ po = q from Ne.symm hq)] at this
    omega
  obtain ⟨w3, p1, p2, p3⟩ := (h.bnd.perm hpB).del edK ty
  rw [he] at p1
  have k3 : ∀ b, b < w.heap.size → b ≠ bm → w3.heap[b]? = w.heap[b]? := fun b hb hne => p3.block b hb fun e => hne (Option.some.inj e)
  obtain ⟨U, u1, u2⟩ := h.use
  have u3 : MB poV w3.drew um U := u1.keep (k3 _ u1.lt (Ne.symm h.n2))
  obtain ⟨w4, R, q1, q2, q3, q4⟩ := u2.put u3 po (m : Int)
  have hblk3 : w3.heap[pb]? = _ := (k3 pb h.lt (Ne.symm (h.mne h.bnd.blk))).trans h.blk
  have hqb : qb ≠ bm := fun e => by
    obtain ⟨es, ck, e2⟩ := h.bnd.blk
    rw [← e, hq] at e2
    cases e2
  have hqu : qb ≠ um := fun e => by
    obtain ⟨es, ck, e2⟩ := u1.blk
    rw [← e, hq] at e2
    cases e2
  have hq3 : w3.heap[qb]? = some (.cells cs 40 (0, 0)) := (k3 qb (Array.getElem?_eq_some_iff.1 hq).1 hqb).trans hq
  have hq4 : w4.heap[qb]? = some (.cells cs 40 (0, 0)) := (q4.block qb (Array.getElem?_eq_some_iff.1 hq3).1 fun e => hqu (Option.some.inj e)).trans hq3
  have h4 : PtS w4 base pb bm jm um nx { t with B := t.B.eraseIdx i } :=
    h.bound (B := t.B.eraseIdx i) (w3 := w3.drew) ⟨p3.os, p3.tape, p3.output, p3.size, p3.block⟩ (p2.keep (drew_same _ _)) q4 ⟨_, q2, q3.cons hc2 hc3⟩
  have o4 : Only base Zo w w4 := (zo_map p3 h.bb hb h.bnd.blk).trans ((Only.grow (Grow.drew w3) (Nat.le_trans hb p3.size) Zo).trans (zo_map q4 h.bu (Nat.le_trans hb p3.size) u3.blk))
  refine ⟨w3, w4, p1, hq3, (cell_of_row w3 pb 5 _ _ _ hblk3).trans rfl, u2.look u3 po, q1, hq4, h4, o4, fun hm0 n ty => ?_⟩
  have h5 := h4.grow (Grow.drewN w4 n)
  have hz : cnt (t.B.eraseIdx i) po = 0 := by omega
  have q5 : MB poV (w4.drewN n) um ((po, (m : Int)) :: R) := q2.keep rfl
  obtain ⟨w5, r1, r2, r3⟩ := q5.del poK ty
  have k5 : ∀ b, b < (w4.drewN n).heap.size → b ≠ um → w5.heap[b]? = (w4.drewN n).heap[b]? := fun b hb hne => r3.block b hb fun e => hne (Option.some.inj e)
  refine ⟨w5, r1, ⟨(k5 pb h5.lt (Ne.symm (h5.mne q5.blk))).trans h5.blk, h5.hn, h5.bp, h5.bb, h5.bj, h5.bu, h5.bnd.keep (k5 _ h5.bnd.lt h5.n2), h5.jnd.keep (k5 _ h5.jnd.lt h5.n3), ⟨R, r2, q3.drop hz hc3⟩, h5.n1, h5.n2, h5.n3⟩, o4.trans ((Only.grow (Grow.drewN w4 n) (Nat.le_trans hb o4.size) Zo).trans (zo_map r3 h.bu (Nat.le_trans hb o4.size) q5.blk))⟩
set_option maxRecDepth 10000 in
set_option maxHeartbeats 1000000 in
theorem unbindP (h : PtS w base pb bm jm um nx t) (ok : TOk t) (hb : base ≤ w.heap.size) (e : Ed) (o : Int) : Calls Try.prog 20 #[.pointer (some ⟨pb, 0, none⟩), .agg #[.int .u32 e.ad, .int .u16 e.po], .int .i64 o] w fun x w' => x = .returned (.int .i64 (ubE t e o)) ∧ Ppp w' base pb (ubT t e o) ∧ Only base Zo w w' := by
  obtain ⟨ad, po⟩ := e
  obtain ⟨W, hW⟩ : ∃ W, W = w.alloc (.cells #[.int .u32 ad, .int .u16 po] 40) := ⟨_, rfl⟩
  have g1 : Grow w W := by rw [hW]; exact Grow.alloc _ _
  have hq1 : W.heap[w.heap.size]? = some (.cells #[.int .u32 ad, .int .u16 po] 40 (0, 0)) := by rw [hW]; exact heap_alloc_new w _
  have d0 : W.cell? ⟨w.heap.size, 0, none⟩ = some (.int .u32 ad) := (cell_of_row _ _ 0 _ _ _ hq1).trans rfl
  have d1 : W.cell? ⟨w.heap.size, 1, none⟩ = some (.int .u16 po) := (cell_of_row _ _ 1 _ _ _ hq1).trans rfl
  have H1 := Lib.hid (h.grow g1)
  have HG := Lib.hid (And.intro g1 (And.intro ok (And.intro hb hq1)))
  have c3 := H1.out.c3
  clear h g1 ok hb hq1
  have fin : ubE t ⟨ad, po⟩ o = 6 → ubT t ⟨ad, po⟩ o = t → ∀ n, Ppp (W.drewN n) base pb (ubT t ⟨ad, po⟩ o) ∧ Only base Zo w (W.drewN n) := fun _ e n => by
    rw [e]
    exact ⟨⟨HG.out.2.1, _, _, _, _, H1.out.grow (Grow.drewN _ _)⟩, Only.grow (HG.out.1.trans (Grow.drewN _ _)) HG.out.2.2.1 Zo⟩
  have HF := Lib.hid fin
  clear fin
  by_cases e1 : ∃ x ∈ t.B, x.e = ⟨ad, po⟩
  · by_cases e2 : hasB t.B ⟨ad, po⟩ o
    · have hx := List.findIdx_lt_length_of_exists (xs := t.B) (p := fun b : Bd => decide (isBd ⟨ad, po⟩ o b)) (by
        obtain ⟨b, hb, e⟩ := e2
        exact ⟨b, hb, decide_eq_true e⟩)
      have hat : t.B[ixB t.B ⟨ad, po⟩ o]? = some t.B[ixB t.B ⟨ad, po⟩ o] := List.getElem?_eq_getElem hx
      have heq : isBd ⟨ad, po⟩ o t.B[ixB t.B ⟨ad, po⟩ o] := of_decide_eq_true (List.findIdx_getElem (w := hx))
      generalize t.B[ixB t.B ⟨ad, po⟩ o] = b at hat heq
      obtain ⟨hbe, rfl⟩ := heq
      have hmem := List.mem_of_getElem? hat
      have HR : Hid (ubE t ⟨ad, po⟩ b.o = 0 ∧ ubT t ⟨ad, po⟩ b.o = { t with B := t.B.eraseIdx (ixB t.B ⟨ad, po⟩ b.o) }) := ⟨by unfold ubE; exact if_pos e2, by unfold ubT; exact if_pos e2⟩
      have l1 : ∀ n : Nat, (Instr.lookup 62 (.map (some bm)) (.agg #[.int .u32 ad, .int .u16 po]) true).run Try.prog (W.drewN n) = .ok (.tuple #[.int .i64 b.o, .bool true]) (W.drewN n) := by
        intro n
        have := (H1.out.grow (Grow.drewN _ n)).bnd.look_some edK (bE_some hmem) true
        rw [hbe] at this
        exact this
      have hcp : 0 < cnt t.B po := cnt_pos.2 ⟨b, hmem, by rw [hbe]⟩
      have hcl : cnt t.B po ≤ 1024 := Nat.le_trans (cnt_le _ _) HG.out.2.1.bl
      obtain ⟨m, hm⟩ : ∃ m : Nat, (m : Int) = (cnt t.B po : Int) - 1 := ⟨cnt t.B po - 1, by omega⟩
      have HM := Lib.hid hm
      obtain ⟨c, hc⟩ : ∃ c, c = cnt t.B po := ⟨_, rfl⟩
      rw [← hc] at hm hcl
      have w1 : IntKind.i64.wrap ((c : Int) - 1) = (m : Int) := by rw [← hm]; exact IntWalk.i64_in _ (by omega)
      have HB := Lib.hid (And.intro hat (And.intro hbe hc))
      generalize b.o = bo at *
      clear hat hbe hmem e1 e2 hx hc hm hcp hcl
      go_enter Try.func20, Try.ntmps20
      go_upto_region 1 with fail
      rw [← hW]
      clear hW
      go_wp2_with fail
      go_quiet (fail)
      go_wp2_with fail
      have gn : Grow W (W.drewN (nq + 1)) := Grow.drewN _ _
      obtain ⟨w3, w4, p1, p2, p3, p4, p5, p6, p7, p8, p9⟩ := unbindW (H1.out.grow gn) (Nat.le_trans HG.out.2.2.1 (HG.out.1.trans gn).size) ad po HB.out.1 HB.out.2.1 HM.out ((gn.block _ (Array.getElem?_eq_some_iff.1 HG.out.2.2.2).1).trans HG.out.2.2.2) 0
      rw [← HB.out.2.2] at p4
      have a1 : w3.cell? ⟨w.heap.size, 1, none⟩ = some (.int .u16 po) := (cell_of_row _ _ 1 _ _ _ p2).trans rfl
      have a2 : w4.cell? ⟨w.heap.size, 1, none⟩ = some (.int .u16 po) := (cell_of_row _ _ 1 _ _ _ p6).trans rfl
      have a3 := p7.c5
      have l3 : ∀ n : Nat, (Instr.lookup 64 (.map (some um)) (.int .u16 po) false).run Try.prog (w4.drewN n) = .ok (.int .i64 (m : Int)) (w4.drewN n) := fun n => by
        obtain ⟨U, u1, u2⟩ := (p7.grow (Grow.drewN w4 n)).use
        have := u2.look u1 po
        rwa [show ((cnt (t.B.eraseIdx (ixB t.B ⟨ad, po⟩ bo)) po : Nat) : Int) = (m : Int) from by
          have hh := cnt_perm (permk_at HB.out.1) po
          rw [cnt_cons, HB.out.2.1, if_pos rfl] at hh
          have := HM.out
          omega] at this
      have HZ : Hid (PtS w4 base pb bm jm um nx { t with B := t.B.eraseIdx (ixB t.B ⟨ad, po⟩ bo) } ∧ Only base Zo w w4) := ⟨p7, (Only.grow (HG.out.1.trans gn) HG.out.2.2.1 Zo).trans p8⟩
      have HP9 := Lib.hid p9
      have OG : Hid (Only base Zo w (W.drewN (nq + 1))) := Only.grow (HG.out.1.trans gn) HG.out.2.2.1 Zo
      clear gn p2 p6 p7 p8 p9
      by_cases hm0 : m = 0
      · have f1 : ((m : Int) == 0) = true := beq_iff_eq.2 (by omega)
        have HM0 := Lib.hid hm0
        clear hm0
        go_region
        go_wp2_with fail
        go_region
        go_wp2_with fail
        go_quiet (fail)
        go_wp2_with fail
        obtain ⟨w5, r1, HY⟩ := HP9.out HM0.out (nq + 1) 0
        go_region
        go_wp2_with fail
        go_ret
        rw [HR.out.1, HR.out.2]
        exact ⟨rfl, ⟨by rw [← HR.out.2]; exact HG.out.2.1.ub _ _, _, _, _, _, HY.out.1⟩, OG.out.trans HY.out.2⟩
      · have f1 : ((m : Int) == 0) = false := beq_eq_false_iff_ne.2 (by omega)
        go_region
        go_wp2_with fail
        go_region
        go_wp2_with fail
        go_quiet (fail)
        go_wp2_with fail
        go_ret
        rw [HR.out.1, HR.out.2]
        exact ⟨rfl, ⟨by rw [← HR.out.2]; exact HG.out.2.1.ub _ _, _, _, _, _, HZ.out.1.grow (Grow.drewN _ _)⟩, HZ.out.2.trans (Only.grow (Grow.drewN _ _) (Nat.le_trans HG.out.2.2.1 HZ.out.2.size) Zo)⟩
    · obtain ⟨b, hmem, hbe⟩ := e1
      have hne : b.o ≠ o := fun q => e2 ⟨b, hmem, hbe, q⟩
      have HR : Hid (ubE t ⟨ad, po⟩ o = 6 ∧ ubT t ⟨ad, po⟩ o = t) := ⟨by unfold ubE; exact if_neg e2, by unfold ubT; exact if_neg e2⟩
      have l1 : ∀ n : Nat, (Instr.lookup 62 (.map (some bm)) (.agg #[.int .u32 ad, .int .u16 po]) true).run Try.prog (W.drewN n) = .ok (.tuple #[.int .i64 b.o, .bool true]) (W.drewN n) := by
        intro n
        have := (H1.out.grow (Grow.drewN _ n)).bnd.look_some edK (bE_some hmem) true
        rw [hbe] at this
        exact this
      generalize b.o = bo at *
      have f1 : (bo != o) = true := bne_iff_ne.2 hne
      have f2 : (bo == o) = false := beq_eq_false_iff_ne.2 hne
      clear hmem hbe e2
      go_enter Try.func20, Try.ntmps20
      go_upto_region 1 with fail
      rw [← hW]
      clear hW
      go_wp2_with fail
      go_quiet (fail)
      go_wp2_with fail
      go_ret
      rw [HR.out.1]
      exact ⟨rfl, HF.out HR.out.1 HR.out.2 _⟩
  · have h0 : ∀ x ∈ t.B, x.e ≠ ⟨ad, po⟩ := fun x hx e => e1 ⟨x, hx, e⟩
    have e2 : ¬ hasB t.B ⟨ad, po⟩ o := fun ⟨x, hx, e, _⟩ => h0 x hx e
    have HR : Hid (ubE t ⟨ad, po⟩ o = 6 ∧ ubT t ⟨ad, po⟩ o = t) := ⟨by unfold ubE; exact if_neg e2, by unfold ubT; exact if_neg e2⟩
    have l1 : ∀ n : Nat, (Instr.lookup 62 (.map (some bm)) (.agg #[.int .u32 ad, .int .u16 po]) true).run Try.prog (W.drewN n) = .ok (.tuple #[.int .i64 0, .bool false]) (W.drewN n) :=
      fun n => (H1.out.grow (Grow.drewN _ n)).bnd.look_none edK (bE_none h0) true
    clear h0 e1 e2
    go_enter Try.func20, Try.ntmps20
    go_upto_region 1 with fail
    rw [← hW]
    clear hW
    go_wp2_with fail
    go_quiet (fail)
    go_wp2_with fail
    go_ret
    rw [HR.out.1]
    exact ⟨rfl, HF.out HR.out.1 HR.out.2 _⟩
end
end Go.Proofs.Ytkilfdhofbjkgaa
