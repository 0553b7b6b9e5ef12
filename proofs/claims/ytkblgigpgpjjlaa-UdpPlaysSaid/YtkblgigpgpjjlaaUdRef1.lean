/- Contracts: the reference's Held, lets, Same. -/
import Derived.Test.YtkblgigpgpjjlaaUdRow
namespace Go.Proofs.Ytkblgigpgpjjlaa
set_option linter.unusedVariables false
set_option linter.unusedSimpArgs false
open Go.ChangeShapes Go.WideShapes Go.ChangeAt Go.RowKit

theorem heldL_map_take {l : List Mc} {k : Nat} {x : Mc} (hx : l[k]? = some x) : heldL ((l.take (k + 1)).map Mc.ml) = heldL ((l.take k).map Mc.ml) + x.d.length := by
  rw [List.map_take, List.map_take]
  exact heldL_take (l.map Mc.ml) k x.ml (by rw [List.getElem?_map, hx]; rfl)
theorem heldL_take_le : ∀ (L : List Ml) (k : Nat), heldL (L.take k) ≤ heldL L
  | [], k => by simp
  | m :: l, 0 => by simp [heldL]
  | m :: l, k + 1 => by
    have := heldL_take_le l k
    rw [List.take_succ_cons, heldL_cons, heldL_cons]
    omega
set_option maxRecDepth 10000 in
set_option maxHeartbeats 1000000 in
theorem rHeldU (w : World) (base : Nat) (most room pa pp : Int) (vL : Value) (lost told : Int) (l : List Mc) (hL : Mcs w base vL l) (hR : Reads w l) (hl : l.length ≤ 64) (hs : heldL (l.map Mc.ml) ≤ 1048576) : Calls Try.prog 21 #[.agg (ubA most room pa pp vL lost told)] w fun e' w' => e' = .returned (.int .i64 (heldL (l.map Mc.ml) : Int)) ∧ Grow w w' := by
  obtain ⟨W, hW⟩ : ∃ W, W = w.alloc (.cells (ubA most room pa pp vL lost told) 37) := ⟨_, rfl⟩
  have hg : Grow w W := by rw [hW]; exact Grow.alloc _ _
  have HT : Hid (UbB W w.heap.size most room pa pp vL lost told ∧ Grow w W) := ⟨by rw [hW]; exact heap_alloc_new w _, hg⟩
  have HB := Lib.hid (hL.rd.grow hg)
  have HRd := Lib.hid hR
  obtain ⟨A, cp, hvb, _⟩ := hL.rd.form
  obtain ⟨N, hN⟩ : ∃ N, N = l.length := ⟨_, rfl⟩
  rw [← hN] at hvb
  have HN := Lib.hid (And.intro hN hl)
  obtain ⟨T, hT⟩ : ∃ T, T = heldL (l.map Mc.ml) := ⟨_, rfl⟩
  rw [← hT] at hs
  have HH := Lib.hid (And.intro hT hs)
  rw [← hT]
  subst hvb
  clear hg hL hN hl hR hT hs
  go_enter Try.func21, Try.ntmps21
  go_upto_region 1 with fail
  rw [← hW]
  have HW := Lib.hid hW
  clear hW
  go_wp2_with fail
  go_loopg [3, 4] N (fun gk s3 s4 wr => ∃ (i h : Nat), gk = N - i ∧ s3 = .int .i64 (h : Int) ∧ s4 = .int .i64 (i : Int) ∧ Hid (i ≤ N ∧ Grow W wr ∧ h = heldL ((l.take i).map Mc.ml)))
  case atStart => exact ⟨0, 0, rfl, rfl, rfl, Nat.zero_le _, Grow.refl _, rfl⟩
  case round =>
    obtain ⟨i, h, rfl, rfl, rfl, HR⟩ := hrel
    rename World => wo
    have t4 := (HT.out.1.grow HR.out.2.1).c4
    rcases Nat.lt_or_ge i N with hlt | hge
    · obtain ⟨b, off, c', e1, hb, hc⟩ := mc_cells HB.out (by have := HN.out.1; omega)
      obtain ⟨x, hx⟩ : ∃ x, l[i]? = some x := ⟨_, List.getElem?_eq_getElem (by have := HN.out.1; omega)⟩
      obtain ⟨x0, x1, x2⟩ := hc i x hx
      have e2 : A = some ⟨b, off, none⟩ := by injection e1
      have y2 := (HR.out.2.1.cell (p := ⟨b, off + i * 3 + 2, none⟩) hb).trans x2
      have i1 : (i : Int) < (N : Int) := by omega
      have ib : i < 64 := by have := HN.out; omega
      have hn := HRd.out.len (List.mem_iff_getElem?.2 ⟨i, hx⟩)
      have hst := heldL_map_take hx
      have hle := heldL_take_le (l.map Mc.ml) (i + 1)
      rw [← List.map_take] at hle
      subst e2
      obtain ⟨⟨xa, xp⟩, xA, xn, xc, xd⟩ := x
      simp only at y2 hn hst
      have hsum : h + xn = heldL ((l.take (i + 1)).map Mc.ml) := by rw [hst, HR.out.2.2, hn]
      have hbig : h + xn ≤ 1048576 := by have := HH.out; omega
      have hw1 : IntKind.i64.wrap ((h : Int) + (xn : Int)) = ((h + xn : Nat) : Int) := by
        rw [IntWalk.i64_in _ (by omega)]
        omega
      have HXx := Lib.hid (And.intro hlt hsum)
      clear e1 hc hx x0 x1 x2 hb hlt hn hst hle hsum
      go_wp2_with fail
      go_roundg (N - (i + 1))
      case measure => have := HXx.out.1; omega
      case rel => exact ⟨i + 1, h + xn, rfl, rfl, by go_num, by have := HXx.out.1; omega, HR.out.2.1, HXx.out.2⟩
    · obtain rfl : i = N := by have := HR.out.1; omega
      have HE : Hid (h = T) := Lib.hid (by
        have := HR.out.2.2
        rw [HN.out.1, List.take_length] at this
        rw [this, HH.out.1])
      clear hge
      go_wp2_with fail
      go_ret
      exact ⟨by rw [HE.out]; rfl, Grow.trans HT.out.2 HR.out.2.1⟩
theorem two_ue (w : World) (cs : Array Value) (a p : Int) {W : World} (hW : W = (w.alloc (.cells cs 37)).alloc (.cells #[.int .u32 a, .int .u16 p] 34)) : W.heap[w.heap.size]? = some (.cells cs 37 (0, 0)) ∧ W.heap[w.heap.size + 1]? = some (.cells #[.int .u32 a, .int .u16 p] 34 (0, 0)) ∧ Grow w W := by
  subst hW
  have s1 : (w.alloc (.cells cs 37)).heap.size = w.heap.size + 1 := Array.size_push _
  have h1 := heap_alloc_new w (.cells cs 37)
  have h2 := heap_alloc_new (w.alloc (.cells cs 37)) (.cells #[.int .u32 a, .int .u16 p] 34)
  rw [s1] at h2
  exact ⟨((Grow.alloc (w.alloc (.cells cs 37)) _).block _ (by omega)).trans h1, h2, (Grow.alloc _ _).trans (Grow.alloc _ _)⟩
theorem lets_cases (pa pp ea ep : Int) : (pa = 0 ∧ pp = 0 ∧ letsS ⟨pa, pp⟩ ⟨ea, ep⟩) ∨ (((pa == 0) = false ∨ (pa = 0 ∧ (pp == 0) = false)) ∧ ((pa = ea ∧ pp = ep ∧ letsS ⟨pa, pp⟩ ⟨ea, ep⟩) ∨ ((pa == ea) = false ∧ ¬ letsS ⟨pa, pp⟩ ⟨ea, ep⟩) ∨ (pa = ea ∧ (pp == ep) = false ∧ ¬ letsS ⟨pa, pp⟩ ⟨ea, ep⟩))) := by
  by_cases h0 : pa = 0 ∧ pp = 0
  · exact .inl ⟨h0.1, h0.2, .inl (by rw [h0.1, h0.2]; rfl)⟩
  · right
    have hn : ¬ (⟨pa, pp⟩ : Ed) = noE := fun e => h0 ⟨congrArg Ed.ad e, congrArg Ed.po e⟩
    refine ⟨?_, ?_⟩
    · by_cases h1 : pa = 0
      · exact .inr ⟨h1, beq_eq_false_iff_ne.2 fun h2 => h0 ⟨h1, h2⟩⟩
      · exact .inl (beq_eq_false_iff_ne.2 h1)
    · by_cases h1 : pa = ea
      · by_cases h2 : pp = ep
        · exact .inl ⟨h1, h2, .inr (by rw [h1, h2])⟩
        · exact .inr (.inr ⟨h1, beq_eq_false_iff_ne.2 h2, fun k => k.elim hn fun e => h2 (congrArg Ed.po e)⟩)
      · exact .inr (.inl ⟨beq_eq_false_iff_ne.2 h1, fun k => k.elim hn fun e => h1 (congrArg Ed.ad e)⟩)
set_option maxRecDepth 10000 in
set_option maxHeartbeats 2000000 in
theorem rLetsU (w : World) (most room pa pp : Int) (vL : Value) (lost told : Int) (e : Ed) : Calls Try.prog 26 #[.agg (ubA most room pa pp vL lost told), .agg #[.int .u32 e.ad, .int .u16 e.po]] w fun e' w' => e' = .returned (.bool (decide (letsS ⟨pa, pp⟩ e))) ∧ Grow w w' := by
  obtain ⟨ea, ep⟩ := e
  obtain ⟨W, hW⟩ : ∃ W, W = (w.alloc (.cells (ubA most room pa pp vL lost told) 37)).alloc (.cells #[.int .u32 ea, .int .u16 ep] 34) := ⟨_, rfl⟩
  obtain ⟨hT, hE, hg⟩ := two_ue w _ ea ep hW
  have y2 := UbB.c2 hT
  have y3 := UbB.c3 hT
  have z0 : W.cell? ⟨w.heap.size + 1, 0, none⟩ = some (.int .u32 ea) := (cell_of_row W _ 0 _ _ _ hE).trans rfl
  have z1 : W.cell? ⟨w.heap.size + 1, 1, none⟩ = some (.int .u16 ep) := (cell_of_row W _ 1 _ _ _ hE).trans rfl
  have HG := Lib.hid hg
  clear hT hE hg
  rcases lets_cases pa pp ea ep with ⟨r1, r2, r⟩ | ⟨r1 | ⟨r1, r2⟩, ⟨q1, q2, r⟩ | ⟨q1, r⟩ | ⟨q1, q2, r⟩⟩
  · have HE := Lib.hid (decide_eq_true r)
    subst r1 r2
    clear r
    go_enter Try.func26, Try.ntmps26
    go_upto_region 1 with fail
    rw [← hW]
    have HW := Lib.hid hW
    clear hW
    go_wp2_with fail
    go_ret
    exact ⟨by rw [HE.out]; rfl, HG.out⟩
  · have HE := Lib.hid (decide_eq_true r)
    subst q1
    subst q2
    clear r
    go_enter Try.func26, Try.ntmps26
    go_upto_region 1 with fail
    rw [← hW]
    have HW := Lib.hid hW
    clear hW
    go_wp2_with fail
    go_ret
    exact ⟨by rw [HE.out]; rfl, HG.out⟩
  · have HE := Lib.hid (decide_eq_false r)
    clear r
    go_enter Try.func26, Try.ntmps26
    go_upto_region 1 with fail
    rw [← hW]
    have HW := Lib.hid hW
    clear hW
    go_wp2_with fail
    go_ret
    exact ⟨by rw [HE.out]; rfl, HG.out⟩
  · have HE := Lib.hid (decide_eq_false r)
    subst q1
    clear r
    go_enter Try.func26, Try.ntmps26
    go_upto_region 1 with fail
    rw [← hW]
    have HW := Lib.hid hW
    clear hW
    go_wp2_with fail
    go_ret
    exact ⟨by rw [HE.out]; rfl, HG.out⟩
  · have HE := Lib.hid (decide_eq_true r)
    subst r1
    subst q1
    subst q2
    clear r
    go_enter Try.func26, Try.ntmps26
    go_upto_region 1 with fail
    rw [← hW]
    have HW := Lib.hid hW
    clear hW
    go_wp2_with fail
    go_ret
    exact ⟨by rw [HE.out]; rfl, HG.out⟩
  · have HE := Lib.hid (decide_eq_false r)
    subst r1
    clear r
    go_enter Try.func26, Try.ntmps26
    go_upto_region 1 with fail
    rw [← hW]
    have HW := Lib.hid hW
    clear hW
    go_wp2_with fail
    go_ret
    exact ⟨by rw [HE.out]; rfl, HG.out⟩
  · have HE := Lib.hid (decide_eq_false r)
    subst r1
    subst q1
    clear r
    go_enter Try.func26, Try.ntmps26
    go_upto_region 1 with fail
    rw [← hW]
    have HW := Lib.hid hW
    clear hW
    go_wp2_with fail
    go_ret
    exact ⟨by rw [HE.out]; rfl, HG.out⟩
set_option maxHeartbeats 2000000 in
theorem rSameU (w : World) (f : Ed) (v v' : Value) (d : List UInt8) (h : Byt w v d) (h' : Byt w v' d) : Calls Try.prog 14 #[.agg #[.int .u32 f.ad, .int .u16 f.po, v], .agg #[.int .u32 f.ad, .int .u16 f.po, v']] w fun e w' => e = .returned (.bool true) ∧ Grow w w' := by
  obtain ⟨fa, fp⟩ := f
  obtain ⟨A, na, ca, rfl, _⟩ := h.form2
  obtain ⟨B, nb, cb, rfl, _⟩ := h'.form2
  have hg2 := (Grow.alloc w (.cells #[.int .u32 fa, .int .u16 fp, .slice A na ca] 40)).trans (Grow.alloc _ (.cells #[.int .u32 fa, .int .u16 fp, .slice B nb cb] 40))
  have c1 := str1 (h.grow hg2)
  have c2 := str1 (h'.grow hg2)
  unfold strV at *
  go_enter Try.func14, Try.ntmps14
  go_wp2_with fail
  go_ret
  exact ⟨rfl, hg2⟩
end Go.Proofs.Ytkblgigpgpjjlaa
