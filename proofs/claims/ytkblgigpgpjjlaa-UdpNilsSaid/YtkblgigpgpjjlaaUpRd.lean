/- Contracts: what reads of the program's box of datagrams. -/
import Derived.Test.YtkblgigpgpjjlaaUpSt
namespace Go.Proofs.Ytkblgigpgpjjlaa
set_option linter.unusedVariables false
set_option linter.unusedSimpArgs false
open Go.ChangeShapes Go.WideShapes Go.ChangeAt Go.RowKit

section
variable {w : World} {pb : Nat} {vL : Value} {l : List Mc} {u : Ub} {most room pa pp told lost : Int}
theorem restrP (h : UdB w pb most room vL pa pp told lost) : Calls Try.prog 31 #[.pointer (some ⟨pb, 0, none⟩)] w fun e w' => e = .returned (.bool (decide ((⟨pa, pp⟩ : Ed) ≠ noE))) ∧ w' = w := by
  have c3 := h.c3
  have c4 := h.c4
  have hq := end_neP pa pp
  generalize decide ((⟨pa, pp⟩ : Ed) ≠ noE) = b at *
  clear h
  go_enter Try.func31, Try.ntmps31
  go_wp2_with fail
  go_ret
  exact ⟨rfl, rfl⟩
set_option maxRecDepth 10000 in
set_option maxHeartbeats 1000000 in
theorem permP (h : UdB w pb most room vL pa pp told lost) (f : Ed) : Calls Try.prog 24 #[.pointer (some ⟨pb, 0, none⟩), .agg #[.int .u32 f.ad, .int .u16 f.po]] w fun e w' => e = .returned (.bool (decide (letsS ⟨pa, pp⟩ f))) ∧ Grow w w' := by
  obtain ⟨fa, fp⟩ := f
  obtain ⟨W, hW⟩ : ∃ W, W = w.alloc (.cells #[.int .u32 fa, .int .u16 fp] 34) := ⟨_, rfl⟩
  have hg : Grow w W := by rw [hW]; exact Grow.alloc _ _
  have hb : W.heap[w.heap.size]? = some (.cells #[.int .u32 fa, .int .u16 fp] 34 (0, 0)) := by rw [hW]; exact heap_alloc_new w _
  have z0 : W.cell? ⟨w.heap.size, 0, none⟩ = some (.int .u32 fa) := (cell_of_row W _ 0 _ _ _ hb).trans rfl
  have z1 : W.cell? ⟨w.heap.size, 1, none⟩ = some (.int .u16 fp) := (cell_of_row W _ 1 _ _ _ hb).trans rfl
  have hlt := (Array.getElem?_eq_some_iff.1 hb).1
  have h2 := h.grow hg
  have HG := Lib.hid hg
  have k0 := fun q : Gw W => Gw.cell (p := q) (a := ⟨w.heap.size, 0, none⟩) hlt z0
  have k1 := fun q : Gw W => Gw.cell (p := q) (a := ⟨w.heap.size, 1, none⟩) hlt z1
  have k3 := fun q : Gw W => Gw.cell (p := q) (a := ⟨pb, 3, none⟩) h2.lt h2.c3
  have k4 := fun q : Gw W => Gw.cell (p := q) (a := ⟨pb, 4, none⟩) h2.lt h2.c4
  have cR0 : ∀ q : Gw W, Calls Try.prog 31 #[.pointer (some ⟨pb, 0, none⟩)] q.v fun e w' => e = .returned (.bool (decide ((⟨pa, pp⟩ : Ed) ≠ noE))) ∧ Grow q.v w' := fun q => (restrP (h2.grow q.h)).mono fun _ _ ⟨h1, h2⟩ => ⟨h1, by rw [h2]; exact Grow.refl _⟩
  have hq := fun W : World => end_eqP fa fp pa pp W
  by_cases q : (⟨pa, pp⟩ : Ed) = noE
  · have HE : Hid (decide (letsS ⟨pa, pp⟩ ⟨fa, fp⟩) = true) := decide_eq_true (.inl q)
    have e0 : decide ((⟨pa, pp⟩ : Ed) ≠ noE) = false := decide_eq_false fun k => k q
    rw [e0] at cR0
    have cR : ∀ q : Gw W, _ := fun q => Calls.gw (p := q) (cR0 q)
    clear h hg hb h2 z0 z1 hlt q e0 cR0 hq
    go_enter Try.func24, Try.ntmps24
    go_upto_region 1 with fail
    rw [← hW]
    have HW := Lib.hid hW
    clear hW
    refine wp_region_gw (by kernel_rfl) (by kernel_rfl) ?_
    repeat (go_big_quiet_step ((go_at_call 31; exact cR _)))
    refine wpQuiet_nil ?_
    intro _ hw'
    obtain ⟨⟨wq, hgq⟩, hw2⟩ := hw'
    subst hw2
    rename World => wq
    have HG2 := Lib.hid (HG.out.trans hgq)
    clear hgq k0 k1 k3 k4 cR
    go_wp2_with fail
    go_ret
    exact ⟨by rw [HE.out]; rfl, HG2.out⟩
  · have HE : Hid (decide (letsS ⟨pa, pp⟩ ⟨fa, fp⟩) = decide ((⟨pa, pp⟩ : Ed) = ⟨fa, fp⟩)) := by
      by_cases q2 : (⟨pa, pp⟩ : Ed) = ⟨fa, fp⟩
      · rw [decide_eq_true q2]; exact decide_eq_true (.inr q2)
      · rw [decide_eq_false q2]; exact decide_eq_false fun k => k.elim q q2
    have e0 : decide ((⟨pa, pp⟩ : Ed) ≠ noE) = true := decide_eq_true q
    rw [e0] at cR0
    have cR : ∀ q : Gw W, _ := fun q => Calls.gw (p := q) (cR0 q)
    generalize decide ((⟨pa, pp⟩ : Ed) = ⟨fa, fp⟩) = b at hq HE
    clear h hg hb h2 z0 z1 hlt q e0 cR0
    go_enter Try.func24, Try.ntmps24
    go_upto_region 1 with fail
    rw [← hW]
    have HW := Lib.hid hW
    clear hW
    refine wp_region_gw (by kernel_rfl) (by kernel_rfl) ?_
    repeat (go_big_quiet_step ((go_at_call 31; exact cR _)))
    refine wpQuiet_nil ?_
    intro _ hw'
    obtain ⟨⟨wq, hgq⟩, hw2⟩ := hw'
    subst hw2
    rename World => wq
    have HG2 := Lib.hid (HG.out.trans hgq)
    clear hgq k0 k1 k3 k4 cR
    go_wp2_with fail
    go_ret
    exact ⟨by rw [HE.out]; rfl, HG2.out⟩
theorem lenP (h : UdS w pb vL l u) : Calls Try.prog 19 #[.pointer (some ⟨pb, 0, none⟩)] w fun e' w' => e' = .returned (.int .i64 (u.L.length : Int)) ∧ Grow w w' := by
  have c2 := h.blk.c2
  obtain ⟨A, cp, hv, -⟩ := RdG.form (OwG.rd h.row)
  rw [hv, h.len] at c2
  generalize u.L.length = n at *
  clear h hv
  go_enter Try.func19, Try.ntmps19
  go_wp2_with fail
  go_ret
  exact ⟨rfl, Grow.refl _⟩
theorem lostP (h : UdS w pb vL l u) : Calls Try.prog 22 #[.pointer (some ⟨pb, 0, none⟩)] w fun e' w' => e' = .returned (.int .i64 u.lost) ∧ Grow w w' := by
  have c6 := h.blk.c6
  generalize u.lost = n at *
  clear h
  go_enter Try.func22, Try.ntmps22
  go_wp2_with fail
  go_ret
  exact ⟨rfl, Grow.refl _⟩
set_option maxHeartbeats 1000000 in
theorem readyP (h : UdS w pb vL l u) : Calls Try.prog 23 #[.pointer (some ⟨pb, 0, none⟩)] w fun e' w' => e' = .returned (.bool (readyU u)) ∧ Grow w w' := by
  have c2 := h.blk.c2
  have c5 := h.blk.c5
  obtain ⟨A, cp, hv, -⟩ := RdG.form (OwG.rd h.row)
  rw [hv, h.len] at c2
  have HE : Hid (readyU u = (decide (0 < u.L.length) || decide (u.told ≠ 0))) := rfl
  generalize u.L.length = n at *
  generalize u.told = t at *
  clear h hv
  by_cases q : 0 < n
  · have d : decide ((0 : Int) < (n : Int)) = true := decide_eq_true (by omega)
    have e := decide_eq_true q
    have n0 : ¬ n = 0 := by omega
    rw [e] at HE
    clear q
    go_enter Try.func23, Try.ntmps23
    go_wp2_with fail
    go_ret
    exact ⟨by rw [HE.out]; rfl, Grow.refl _⟩
  · have d : decide ((0 : Int) < (n : Int)) = false := decide_eq_false (by omega)
    have e := decide_eq_false q
    rw [e] at HE
    obtain rfl : n = 0 := by omega
    clear q e
    by_cases q2 : t = 0
    · subst q2
      go_enter Try.func23, Try.ntmps23
      go_wp2_with fail
      go_ret
      exact ⟨by rw [HE.out]; rfl, Grow.refl _⟩
    · have e2 : (t == 0) = false := beq_eq_false_iff_ne.2 q2
      have e3 : (t != 0) = true := by simp [bne, e2]
      have e4 : decide (t ≠ 0) = true := decide_eq_true q2
      rw [e4] at HE
      clear e4 q2
      go_enter Try.func23, Try.ntmps23
      go_wp2_with fail
      go_ret
      exact ⟨by rw [HE.out]; rfl, Grow.refl _⟩
set_option maxRecDepth 10000 in
set_option maxHeartbeats 1000000 in
theorem heldP (h : UdS w pb vL l u) (ok : UOk u) : Calls Try.prog 20 #[.pointer (some ⟨pb, 0, none⟩)] w fun e' w' => e' = .returned (.int .i64 (heldL u.L : Int)) ∧ Grow w w' := by
  have HL : Hid (l.length ≤ 64 ∧ heldL (l.map Mc.ml) ≤ 1048576) := by
    have h1 := ok.len
    have h2 := ok.held
    have h3 := ok.most
    have h4 := ok.room
    rw [h.eq]
    exact ⟨by have := h.len; omega, by omega⟩
  have c2 := h.blk.c2
  have HB := Lib.hid (OwG.rd h.row)
  have HRd := Lib.hid h.own.reads
  obtain ⟨A, cp, hvb, _⟩ := RdG.form (OwG.rd h.row)
  rw [← h.eq]
  obtain ⟨N, hN⟩ : ∃ N, N = l.length := ⟨_, rfl⟩
  rw [← hN] at hvb
  have HN := Lib.hid (And.intro hN HL.out.1)
  obtain ⟨T, hT⟩ : ∃ T, T = heldL (l.map Mc.ml) := ⟨_, rfl⟩
  have HH := Lib.hid (And.intro hT (hT ▸ HL.out.2))
  rw [← hT]
  subst hvb
  clear h ok hN hT
  go_enter Try.func20, Try.ntmps20
  go_wp2_with fail
  go_loopg [3, 13] N (fun gk s3 s13 wr => ∃ (i h : Nat), gk = N - i ∧ s3 = .int .i64 (h : Int) ∧ s13 = .int .i64 (i : Int) ∧ Hid (i ≤ N ∧ Grow w wr ∧ h = heldL ((l.take i).map Mc.ml)))
  case atStart => exact ⟨0, 0, rfl, rfl, rfl, Nat.zero_le _, Grow.refl _, rfl⟩
  case round =>
    obtain ⟨i, h, rfl, rfl, rfl, HR⟩ := hrel
    rename World => wo
    rcases Nat.lt_or_ge i N with hlt | hge
    · obtain ⟨b, off, c', e1, hb, hc⟩ := mc_cells HB.out (by have := HN.out.1; omega)
      obtain ⟨x, hx⟩ : ∃ x, l[i]? = some x := ⟨_, List.getElem?_eq_getElem (by have := HN.out.1; omega)⟩
      obtain ⟨x0, x1, x2⟩ := hc i x hx
      have e2 : A = some ⟨b, off, none⟩ := by injection e1
      have y0 := (HR.out.2.1.cell (p := ⟨b, off + i * 3, none⟩) hb).trans x0
      have y1 := (HR.out.2.1.cell (p := ⟨b, off + i * 3 + 1, none⟩) hb).trans x1
      have y2 := (HR.out.2.1.cell (p := ⟨b, off + i * 3 + 2, none⟩) hb).trans x2
      have i1 : (i : Int) < (N : Int) := by omega
      have ib : i < 64 := by have := HN.out; omega
      have hn := HRd.out.len (List.mem_iff_getElem?.2 ⟨i, hx⟩)
      have hst := heldL_map_take hx
      have hle := heldL_take_le (l.map Mc.ml) (i + 1)
      rw [← List.map_take] at hle
      subst e2
      obtain ⟨⟨xa, xp⟩, xA, xn, xc, xd⟩ := x
      simp only at y0 y1 y2 hn hst
      have hsum : h + xn = heldL ((l.take (i + 1)).map Mc.ml) := by rw [hst, HR.out.2.2, hn]
      have hbig : h + xn ≤ 1048576 := by have := HH.out; omega
      have hw1 : IntKind.i64.wrap ((h : Int) + (xn : Int)) = ((h + xn : Nat) : Int) := by
        rw [IntWalk.i64_in _ (by omega)]
        omega
      have HXx := Lib.hid (And.intro hlt hsum)
      clear e1 hc hx x0 x1 x2 hb hlt hn hst hle hsum
      go_wp2_with fail
      go_roundg (N - (i + 1))
      case measure => have := HXx.out.1; omega
      case rel => exact ⟨i + 1, h + xn, rfl, rfl, by go_num, by have := HXx.out.1; omega, HR.out.2.1.trans (Grow.alloc _ _), HXx.out.2⟩
    · obtain rfl : i = N := by have := HR.out.1; omega
      have HE : Hid (h = T) := Lib.hid (by
        have := HR.out.2.2
        rw [HN.out.1, List.take_length] at this
        rw [this, HH.out.1])
      clear hge
      go_wp2_with fail
      go_ret
      exact ⟨by rw [HE.out]; rfl, HR.out.2.1⟩
end
end Go.Proofs.Ytkblgigpgpjjlaa
