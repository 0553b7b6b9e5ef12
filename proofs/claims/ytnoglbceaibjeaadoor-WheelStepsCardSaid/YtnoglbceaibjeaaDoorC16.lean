/- WheelSteps: its walk. -/
import Derived.Test.YtnoglbceaibjeaaDoorC15
import Derived.Test.YtnoglbceaibjeaaDoorC14
import Derived.BigQuiet
import Derived.Test.YtnoglbceaibjeaaDoorRows
import Derived.Test.YtnoglbceaibjeaaDoorCards
import Derived.Test.YtnoglbceaibjeaaDoorTie
import Derived.Test.YtnoglbceaibjeaaDoorC09
import Derived.Test.YtnoglbceaibjeaaDoorC01
import Derived.ProofKit
import Derived.OpenShut
import Derived.ShutString
import Derived.ChangeOld
import Derived.SizedLaws
import Derived.LaidMore
import Derived.Stop.Joined
import Derived.SevenTiedAt
import Derived.Deep.SlicePairs
namespace Go.Proofs.YtnoglbceaibjeaaDoor
set_option linter.unusedVariables false
set_option linter.unusedSimpArgs false
open Go.ChangeShapes Go.WideShapes Go.ChangeAt Go.RowKit Go.Shelf

set_option maxRecDepth 100000 in
set_option maxHeartbeats 4000000 in
theorem steps_long (w : World) {v0 v1 : Value} {l : List Ac} {s : List Int} (hl : Acs w v0 l) (hs : NumsI w v1 s) (hB : DbB w) (h : 200 < l.length ∨ 100 < s.length) : Calls Tryd.prog 4 #[v0, v1] w fun e w' => e = .returned (.bool true) ∧ Below w.heap.size w w' := by
  obtain ⟨A, c, rfl, _⟩ := hl
  obtain ⟨B, d, rfl, _⟩ := hs
  have c0 := wlive_any w hB
  obtain ⟨n, hn⟩ : ∃ n, n = l.length := ⟨_, rfl⟩
  obtain ⟨m, hm⟩ : ∃ m, m = s.length := ⟨_, rfl⟩
  rw [← hn, ← hm] at h
  rw [← hn, ← hm]
  clear hB hn hm
  by_cases q : 200 < n
  · have i0 : (200 : Int) < (n : Int) := by omega
    clear h q
    go_enter Tryd.func4, Tryd.ntmps4
    go_wp2_with fail
    refine c0.mono ?_
    rintro e w' ⟨rfl, hg⟩
    have HG := Lib.hid hg
    clear c0 hg
    go_wp2_with fail
    go_ret
    exact ⟨rfl, HG.out⟩
  · have i0 : ¬ ((200 : Int) < (n : Int)) := by omega
    have i1 : (100 : Int) < (m : Int) := by omega
    clear h q
    go_enter Tryd.func4, Tryd.ntmps4
    go_wp2_with fail
    refine c0.mono ?_
    rintro e w' ⟨rfl, hg⟩
    have HG := Lib.hid hg
    clear c0 hg
    go_wp2_with fail
    go_ret
    exact ⟨rfl, HG.out⟩
set_option maxRecDepth 100000 in
set_option maxHeartbeats 8000000 in
theorem steps_main (w : World) {v0 v1 : Value} {l : List Ac} {s : List Int} (hl : Acs w v0 l) (hs : NumsI w v1 s) (hB : DbB w) (h200 : l.length ≤ 200) (h100 : s.length ≤ 100) : Calls Tryd.prog 4 #[v0, v1] w fun e w' => e = .returned (.bool true) ∧ Below w.heap.size w w' := by
  have HL0 := Lib.hid hl
  have HS0 := Lib.hid hs
  obtain ⟨A, c, rfl, _⟩ := hl
  obtain ⟨B, d, rfl, _⟩ := hs
  have c0 := wNew_any w w.heap.size (Nat.le_refl _) 0 (by unfold maxT; omega)
  have i0 : ¬ ((200 : Int) < (l.length : Int)) := by omega
  have i1 : ¬ ((100 : Int) < (s.length : Int)) := by omega
  have HC := Lib.hid (fun x w => wcode_any x w)
  obtain ⟨n, hnl⟩ : ∃ n, n = l.length := ⟨_, rfl⟩
  obtain ⟨N, hNl⟩ : ∃ N, N = s.length := ⟨_, rfl⟩
  rw [← hnl] at i0 HL0
  rw [← hNl] at i1 HS0
  rw [← hnl, ← hNl]
  have HB := Lib.hid (And.intro hB (And.intro hB.pos (And.intro (show n ≤ 200 by omega) (And.intro (show N ≤ 100 by omega) hnl))))
  clear hB hnl hNl h200 h100
  go_enter Tryd.func4, Tryd.ntmps4
  go_wp2_with fail
  refine c0.mono ?_
  rintro e w1 ⟨rfl, h1, g1⟩
  have c1 := wNew_any w1 w.heap.size g1.size 0 (by unfold maxT; omega)
  have hlt : w.heap.size < w1.heap.size := by
    obtain ⟨cs, hb, _⟩ := h1.whl.blk
    have := (Array.getElem?_eq_some_iff.1 hb).1
    omega
  have H1 := Lib.hid (And.intro h1 (And.intro g1 hlt))
  clear c0 h1 g1 hlt
  go_wp2_with fail
  refine c1.mono ?_
  rintro e w2 ⟨rfl, h2, g2⟩
  have H2 : Hid (Two w w2 w.heap.size (w.heap.size + 1) w.heap.size 0 (w1.heap.size + 1) w1.heap.size 0 [] []) := ⟨⟨_, H1.out.1.onlyG (Only.grow g2 H1.out.2.1.size fun _ _ => False) (fun _ e => e) (fun _ e => e) (fun _ e => e)⟩, ⟨_, h2⟩, by have := H1.out.2.2; omega, by have := H1.out.2.2; omega, (fun t ht => by cases ht), Grow.trans H1.out.2.1 g2, (HB.out.1.grow H1.out.2.1).grow g2⟩
  clear c1 h2 g2
  generalize w1.heap.size = mc at H1 H2 ⊢
  clear H1
  go_wp2_with fail
  refine (HC.out _ _).mono ?_
  rintro e w' ⟨rfl, hw⟩
  subst w'
  go_wp2_with fail
  refine (HC.out _ _).mono ?_
  rintro e w' ⟨rfl, hw⟩
  subst w'
  go_wp2_with fail
  clear i0 i1
  go_loopg [9] n (fun gk s9 wr => ∃ i : Nat, gk = n - i ∧ s9 = .int .i64 (i : Int) ∧ Hid (i ≤ n ∧ ∃ L M, Two w wr w.heap.size (w.heap.size + 1) w.heap.size 0 (mc + 1) mc 0 L M ∧ L.map pr = M.map pr ∧ L.length ≤ i ∧ M.length ≤ i))
  case atStart => exact ⟨0, rfl, rfl, Nat.zero_le _, [], [], H2.out, rfl, Nat.le_refl _, Nat.le_refl _⟩
  case round =>
    obtain ⟨i, rfl, rfl, HR⟩ := hrel
    rename World => wa
    clear H2
    rcases Nat.lt_or_ge i n with hlt | hge
    · obtain ⟨ac0, hx⟩ : ∃ x, l[i]? = some x := ⟨_, List.getElem?_eq_getElem (by have := HB.out.2.2.2.2; omega)⟩
      obtain ⟨A', c', e1, _, _, _, h4⟩ := HL0.out
      obtain ⟨b, off, hg, hbl, hc⟩ := h4 (by have := HB.out.2.2.2.2; omega)
      have e2 : A = some ⟨b, off, none⟩ := by
        rw [hg] at e1
        injection e1
      obtain ⟨xd, xi, xa⟩ := ac0
      obtain ⟨_, k1, k2⟩ := hc i _ hx
      simp only at k1 k2
      have HK : Hid (b < w.heap.size ∧ w.cell? ⟨b, off + i * 3 + 1, none⟩ = some (.int .i64 xi) ∧ w.cell? ⟨b, off + i * 3 + 2, none⟩ = some (.int .i64 xa)) := ⟨hbl, k1, k2⟩
      subst e2
      have t0 : (i : Int) < (n : Int) := by omega
      obtain ⟨j, hj⟩ : ∃ j, j = i + 1 := ⟨_, rfl⟩
      have n1 : (i : Int) + 1 = (j : Int) := by omega
      have n2 : IntKind.i64.wrap (j : Int) = (j : Int) := IntWalk.i64_in _ (by have := HB.out; omega)
      have n3 : IntKind.i64.wrap ((i : Int) + 1) = (j : Int) := by rw [n1]; exact n2
      obtain ⟨L, M, hT, hpr, hLl, hMl⟩ := HR.out.2
      have HN : Hid (L.length ≤ 200 ∧ M.length ≤ 200 ∧ L.length + 1 ≤ i + 1 ∧ M.length + 1 ≤ i + 1 ∧ L.map pr = M.map pr) := ⟨by have := HB.out.2.2.1; omega, by have := HB.out.2.2.1; omega, by omega, by omega, hpr⟩
      have HX0 : Hid (Below w.heap.size w wa.drew ∧ Two w wa.drew w.heap.size (w.heap.size + 1) w.heap.size 0 (mc + 1) mc 0 L M) := ⟨(hT.grow HB.out.2.1 (Grow.drew _)).low, hT.grow HB.out.2.1 (Grow.drew _)⟩
      have HJ : Hid (j = i + 1 ∧ i < n) := ⟨hj, hlt⟩
      clear hj hlt hT hpr hLl hMl e1 h4 hg hbl hc hx k1 k2
      go_upto_region 10 with fail
      refine wp_region_weave (A := ?frame10) [11, 12, 24, 25, 26] (fun q => Below w.heap.size w q) (inVals (isW (.pointer (some ⟨w.heap.size + 1, 0, none⟩)) :: isW (.slice (some ⟨b, off, none⟩) n c) :: isW (.int .i64 (i : Int)) :: isW (.pointer (some ⟨b, off + i * 3, none⟩)) :: isW (.pointer (some ⟨b, off + i * 3 + 1, none⟩)) :: isW (.int .i64 xi) :: isW (.slice (some ⟨b, off, none⟩) n c) :: isW (.int .i64 (i : Int)) :: isW (.pointer (some ⟨b, off + i * 3, none⟩)) :: isW (.pointer (some ⟨b, off + i * 3 + 2, none⟩)) :: isW (.int .i64 xa) :: isAll :: isAll :: isW (.pointer (some ⟨mc + 1, 0, none⟩)) :: isW (.slice (some ⟨b, off, none⟩) n c) :: isW (.int .i64 (i : Int)) :: isW (.pointer (some ⟨b, off + i * 3, none⟩)) :: isW (.pointer (some ⟨b, off + i * 3 + 1, none⟩)) :: isW (.int .i64 xi) :: isW (.slice (some ⟨b, off, none⟩) n c) :: isW (.int .i64 (i : Int)) :: isW (.pointer (some ⟨b, off + i * 3, none⟩)) :: isW (.pointer (some ⟨b, off + i * 3 + 2, none⟩)) :: isW (.int .i64 xa) :: isAll :: isAll :: isAll :: [])) (fun j vs q => match j, vs with | 0, [] => Two w q w.heap.size (w.heap.size + 1) w.heap.size 0 (mc + 1) mc 0 L M | 1, [u1] => u1 = .int .i64 (cd xa) ∧ ∃ L', Two w q w.heap.size (w.heap.size + 1) w.heap.size 0 (mc + 1) mc 0 L' M ∧ L'.map pr = stepP xi xa (L.map pr) ∧ L'.length ≤ i + 1 | 2, [_, u2] => u2 = .int .i64 (cd xa) ∧ ∃ L', Two w q w.heap.size (w.heap.size + 1) w.heap.size 0 (mc + 1) mc 0 L' M ∧ L'.map pr = stepP xi xa (L.map pr) ∧ L'.length ≤ i + 1 | 3, [_, u2, u3] => u2 = .int .i64 (cd xa) ∧ u3 = .int .i64 (cd xa) ∧ ∃ L' M', Two w q w.heap.size (w.heap.size + 1) w.heap.size 0 (mc + 1) mc 0 L' M' ∧ L'.map pr = M'.map pr ∧ L'.length ≤ i + 1 ∧ M'.length ≤ i + 1 | 4, [_, u2, _, u4] => u2 = .int .i64 (cd xa) ∧ u4 = .int .i64 (cd xa) ∧ ∃ L' M', Two w q w.heap.size (w.heap.size + 1) w.heap.size 0 (mc + 1) mc 0 L' M' ∧ L'.map pr = M'.map pr ∧ L'.length ≤ i + 1 ∧ M'.length ≤ i + 1 | 5, [_, _, _, _, u5] => u5 = .bool false ∧ ∃ L' M', Two w q w.heap.size (w.heap.size + 1) w.heap.size 0 (mc + 1) mc 0 L' M' ∧ L'.map pr = M'.map pr ∧ L'.length ≤ i + 1 ∧ M'.length ≤ i + 1 | _, _ => False) (by kernel_rfl) (by kernel_rfl) (by kernel_rfl) (by kernel_rfl) (fun x => ?frameEq10) HX0.out.1 HX0.out.2 ?_ ?_ ?_
      case frameEq10 => go_simp; rfl
      · refine ⟨fun _ x w1 hI hd post hp => ?_, fun _ x w1 hI hd post hp => ?_, fun _ x w1 hI hd post hp => ?_, fun _ x w1 hI hd post hp => ?_, fun _ x w1 hI hd post hp => ?_, fun _ x w1 hI hd post hp => ?_, fun _ x w1 hI hd post hp => ?_, fun _ x w1 hI hd post hp => ?_, fun _ x w1 hI hd post hp => ?_, fun _ x w1 hI hd post hp => ?_, fun _ x w1 hI hd post hp => ?_, fun hn => absurd hn (by decide), fun hn => absurd hn (by decide), fun _ x w1 hI hd post hp => ?_, fun _ x w1 hI hd post hp => ?_, fun _ x w1 hI hd post hp => ?_, fun _ x w1 hI hd post hp => ?_, fun _ x w1 hI hd post hp => ?_, fun _ x w1 hI hd post hp => ?_, fun _ x w1 hI hd post hp => ?_, fun _ x w1 hI hd post hp => ?_, fun _ x w1 hI hd post hp => ?_, fun _ x w1 hI hd post hp => ?_, fun _ x w1 hI hd post hp => ?_, fun hn => absurd hn (by decide), fun hn => absurd hn (by decide), fun hn => absurd hn (by decide), trivial⟩
        · -- 0: slot 56: Op.move t5
          clear hd
          go_simp
          exact hp _ rfl
        · -- 1: slot 57: Op.move t0
          clear hd
          go_simp
          exact hp _ rfl
        · -- 2: slot 58: Op.move t9
          clear hd
          go_simp
          exact hp _ rfl
        · -- 3: slot 59: Op.indexAddr 22 t57 t58
          have h57 : x 57 = .slice (some ⟨b, off, none⟩) n c := hd 1 (by decide) (by decide) _ rfl
          have h58 : x 58 = .int .i64 (i : Int) := hd 2 (by decide) (by decide) _ rfl
          clear hd
          go_simp
          exact hp _ rfl
        · -- 4: slot 60: Op.fieldAddr 31 t59 1
          have h59 : x 59 = .pointer (some ⟨b, off + i * 3, none⟩) := hd 3 (by decide) (by decide) _ rfl
          clear hd
          go_simp
          exact hp _ rfl
        · -- 5: slot 61: Op.load 3 t60
          have h60 : x 60 = .pointer (some ⟨b, off + i * 3 + 1, none⟩) := hd 4 (by decide) (by decide) _ rfl
          clear hd
          have k1 := (Grow.cell hI (p := ⟨b, off + i * 3 + 1, none⟩) HK.out.1).trans HK.out.2.1
          go_simp
          exact hp _ rfl
        · -- 6: slot 62: Op.move t0
          clear hd
          go_simp
          exact hp _ rfl
        · -- 7: slot 63: Op.move t9
          clear hd
          go_simp
          exact hp _ rfl
        · -- 8: slot 64: Op.indexAddr 22 t62 t63
          have h62 : x 62 = .slice (some ⟨b, off, none⟩) n c := hd 6 (by decide) (by decide) _ rfl
          have h63 : x 63 = .int .i64 (i : Int) := hd 7 (by decide) (by decide) _ rfl
          clear hd
          go_simp
          exact hp _ rfl
        · -- 9: slot 65: Op.fieldAddr 31 t64 2
          have h64 : x 64 = .pointer (some ⟨b, off + i * 3, none⟩) := hd 8 (by decide) (by decide) _ rfl
          clear hd
          go_simp
          exact hp _ rfl
        · -- 10: slot 66: Op.load 3 t65
          have h65 : x 65 = .pointer (some ⟨b, off + i * 3 + 2, none⟩) := hd 9 (by decide) (by decide) _ rfl
          clear hd
          have k2 := (Grow.cell hI (p := ⟨b, off + i * 3 + 2, none⟩) HK.out.1).trans HK.out.2.2
          go_simp
          exact hp _ rfl
        · -- 13: slot 69: Op.move t7
          clear hd
          go_simp
          exact hp _ rfl
        · -- 14: slot 70: Op.move t0
          clear hd
          go_simp
          exact hp _ rfl
        · -- 15: slot 71: Op.move t9
          clear hd
          go_simp
          exact hp _ rfl
        · -- 16: slot 72: Op.indexAddr 22 t70 t71
          have h70 : x 70 = .slice (some ⟨b, off, none⟩) n c := hd 14 (by decide) (by decide) _ rfl
          have h71 : x 71 = .int .i64 (i : Int) := hd 15 (by decide) (by decide) _ rfl
          clear hd
          go_simp
          exact hp _ rfl
        · -- 17: slot 73: Op.fieldAddr 31 t72 1
          have h72 : x 72 = .pointer (some ⟨b, off + i * 3, none⟩) := hd 16 (by decide) (by decide) _ rfl
          clear hd
          go_simp
          exact hp _ rfl
        · -- 18: slot 74: Op.load 3 t73
          have h73 : x 73 = .pointer (some ⟨b, off + i * 3 + 1, none⟩) := hd 17 (by decide) (by decide) _ rfl
          clear hd
          have k1 := (Grow.cell hI (p := ⟨b, off + i * 3 + 1, none⟩) HK.out.1).trans HK.out.2.1
          go_simp
          exact hp _ rfl
        · -- 19: slot 75: Op.move t0
          clear hd
          go_simp
          exact hp _ rfl
        · -- 20: slot 76: Op.move t9
          clear hd
          go_simp
          exact hp _ rfl
        · -- 21: slot 77: Op.indexAddr 22 t75 t76
          have h75 : x 75 = .slice (some ⟨b, off, none⟩) n c := hd 19 (by decide) (by decide) _ rfl
          have h76 : x 76 = .int .i64 (i : Int) := hd 20 (by decide) (by decide) _ rfl
          clear hd
          go_simp
          exact hp _ rfl
        · -- 22: slot 78: Op.fieldAddr 31 t77 2
          have h77 : x 77 = .pointer (some ⟨b, off + i * 3, none⟩) := hd 21 (by decide) (by decide) _ rfl
          clear hd
          go_simp
          exact hp _ rfl
        · -- 23: slot 79: Op.load 3 t78
          have h78 : x 78 = .pointer (some ⟨b, off + i * 3 + 2, none⟩) := hd 22 (by decide) (by decide) _ rfl
          clear hd
          have k2 := (Grow.cell hI (p := ⟨b, off + i * 3 + 2, none⟩) HK.out.1).trans HK.out.2.2
          go_simp
          exact hp _ rfl
      · refine ⟨fun x w1 hI hd hs post hp => ?_, fun x w1 hI hd hs post hp => ?_, fun x w1 hI hd hs post hp => ?_, fun x w1 hI hd hs post hp => ?_, fun x w1 hI hd hs post hp => ?_, trivial⟩
        · -- 11: slot 67: Op.call { value (Operand.func 11), args := #[t56, t61, t66], argTypes := #[24, 3
          have h56 : x 56 = .pointer (some ⟨w.heap.size + 1, 0, none⟩) := hd 0 (by decide) (by decide) _ rfl
          have h61 : x 61 = .int .i64 xi := hd 5 (by decide) (by decide) _ rfl
          have h66 : x 66 = .int .i64 xa := hd 10 (by decide) (by decide) _ rfl
          clear hd
          have s0 : Two w w1 w.heap.size (w.heap.size + 1) w.heap.size 0 (mc + 1) mc 0 L M := hs
          go_simp
          refine (s0.set HB.out.2.1 HN.out.1 xi xa).mono ?_
          rintro e w2 ⟨rfl, L', q1, q2, q3⟩
          exact ⟨_, rfl, hp _ _ q1.low ⟨rfl, L', q1, q2, Nat.le_trans q3 HN.out.2.2.1⟩⟩
        · -- 12: slot 68: Op.call { value (Operand.func 10), args := #[t67], argTypes := #[25] }
          clear hd
          obtain ⟨h67, q1⟩ : x 67 = .int .i64 (cd xa) ∧ ∃ L', Two w w1 w.heap.size (w.heap.size + 1) w.heap.size 0 (mc + 1) mc 0 L' M ∧ L'.map pr = stepP xi xa (L.map pr) ∧ L'.length ≤ i + 1 := hs
          go_simp
          refine (wcode_any _ _).mono ?_
          rintro e w2 ⟨rfl, rfl⟩
          exact ⟨_, rfl, hp _ _ hI ⟨rfl, q1⟩⟩
        · -- 24: slot 80: Op.call { value (Operand.func 11), args := #[t69, t74, t79], argTypes := #[24, 3
          have h69 : x 69 = .pointer (some ⟨mc + 1, 0, none⟩) := hd 13 (by decide) (by decide) _ rfl
          have h74 : x 74 = .int .i64 xi := hd 18 (by decide) (by decide) _ rfl
          have h79 : x 79 = .int .i64 xa := hd 23 (by decide) (by decide) _ rfl
          clear hd
          obtain ⟨h68, L', q1, q2, q3⟩ : x 68 = .int .i64 (cd xa) ∧ ∃ L', Two w w1 w.heap.size (w.heap.size + 1) w.heap.size 0 (mc + 1) mc 0 L' M ∧ L'.map pr = stepP xi xa (L.map pr) ∧ L'.length ≤ i + 1 := hs
          go_simp
          refine (q1.swap.set HB.out.2.1 HN.out.2.1 xi xa).mono ?_
          rintro e w2 ⟨rfl, M', r1, r2, r3⟩
          exact ⟨_, rfl, hp _ _ r1.low ⟨h68, rfl, L', M', r1.swap, (by rw [q2, r2, HN.out.2.2.2.2]), q3, Nat.le_trans r3 HN.out.2.2.2.1⟩⟩
        · -- 25: slot 81: Op.call { value (Operand.func 10), args := #[t80], argTypes := #[25] }
          clear hd
          obtain ⟨h68, h80, q1⟩ : x 68 = .int .i64 (cd xa) ∧ x 80 = .int .i64 (cd xa) ∧ ∃ L' M', Two w w1 w.heap.size (w.heap.size + 1) w.heap.size 0 (mc + 1) mc 0 L' M' ∧ L'.map pr = M'.map pr ∧ L'.length ≤ i + 1 ∧ M'.length ≤ i + 1 := hs
          go_simp
          refine (wcode_any _ _).mono ?_
          rintro e w2 ⟨rfl, rfl⟩
          exact ⟨_, rfl, hp _ _ hI ⟨h68, rfl, q1⟩⟩
        · -- 26: slot 82: Op.binOp BinOp.neq 3 t68 t81 3
          clear hd
          obtain ⟨h68, h81, q1⟩ : x 68 = .int .i64 (cd xa) ∧ x 81 = .int .i64 (cd xa) ∧ ∃ L' M', Two w w1 w.heap.size (w.heap.size + 1) w.heap.size 0 (mc + 1) mc 0 L' M' ∧ L'.map pr = M'.map pr ∧ L'.length ≤ i + 1 ∧ M'.length ≤ i + 1 := hs
          go_simp
          exact hp _ _ hI ⟨rfl, q1⟩
      · intro x w1 hI hd hs
        obtain ⟨h82, q1⟩ : x 82 = .bool false ∧ ∃ L' M', Two w w1 w.heap.size (w.heap.size + 1) w.heap.size 0 (mc + 1) mc 0 L' M' ∧ L'.map pr = M'.map pr ∧ L'.length ≤ i + 1 ∧ M'.length ≤ i + 1 := hs
        have H2 := Lib.hid q1
        clear hd hI q1
        rw [h82]
        clear h82
        go_wp2_with fail
        go_roundg (n - j)
        case measure => have := HJ.out; omega
        case rel => exact ⟨j, rfl, rfl, by have := HJ.out; omega, by rw [HJ.out.1]; exact H2.out⟩
    · have t0 : ¬ ((i : Int) < (n : Int)) := by omega
      obtain ⟨L0, M0, hT, hpr, hLl, hMl⟩ := HR.out.2
      have HT0 := Lib.hid hT
      have HLM : Hid (L0.map pr = M0.map pr ∧ L0.length ≤ 200 ∧ M0.length ≤ 200) := ⟨hpr, by have := HB.out.2.2.1; have := HR.out.1; omega, by have := HB.out.2.2.1; have := HR.out.1; omega⟩
      clear hT hpr hLl hMl HR hge
      go_wp2_with fail
      clear t0
      go_loopg [10, 11, 12] N (fun gk s10 s11 s12 wr => ∃ (m at_ n10 c10 : Nat) (A10 : Option Addr) (L D : List Tm) (b : Int), gk = N - m ∧ s12 = .int .i64 (m : Int) ∧ s11 = .int .i64 (at_ : Int) ∧ s10 = .slice A10 n10 c10 ∧ Hid (m ≤ N ∧ at_ ≤ maxT ∧ n10 = D.length ∧ StP L0 L at_ D b ∧ Two w wr w.heap.size (w.heap.size + 1) w.heap.size at_ (mc + 1) mc 0 L M0 ∧ Irow wr w.heap.size (.slice A10 n10 c10) D))
      case atStart => exact ⟨0, 0, 0, 0, none, L0, [], -1, rfl, rfl, rfl, rfl, Nat.zero_le _, Nat.zero_le _, rfl, StP.start L0, HT0.out, ⟨rfl, .inl ⟨rfl, rfl⟩⟩⟩
      case round =>
        obtain ⟨m, at_, n10, c10, A10, L, D, b, rfl, rfl, rfl, rfl, HR⟩ := hrel
        rename World => wb
        clear HT0
        rcases Nat.lt_or_ge m N with hlt | hge
        · obtain ⟨bS, oS, y, hB2, hy, hyb, k0⟩ := numsI_at (HS0.out.grow HR.out.2.2.2.2.1.low) hlt
          subst hB2
          have t0 : (m : Int) < (N : Int) := by omega
          obtain ⟨j, hj⟩ : ∃ j, j = m + 1 := ⟨_, rfl⟩
          have n1 : (m : Int) + 1 = (j : Int) := by omega
          have n2 : IntKind.i64.wrap (j : Int) = (j : Int) := IntWalk.i64_in _ (by have := HB.out.2.2.2.1; omega)
          have n3 : IntKind.i64.wrap ((m : Int) + 1) = (j : Int) := by rw [n1]; exact n2
          have HJ : Hid (j = m + 1 ∧ m < N) := ⟨hj, hlt⟩
          clear hj hlt hy hyb
          by_cases q1 : y < (at_ : Int)
          · have d1 : decide (y < (at_ : Int)) = true := decide_eq_true q1
            go_wp2_with fail
            go_roundg (N - j)
            case measure => have := HJ.out; omega
            case rel => exact ⟨j, at_, n10, c10, A10, L, D, b, rfl, rfl, rfl, rfl, by have := HJ.out; omega, HR.out.2⟩
          · by_cases q2 : 1099511627776 < y
            · have d1 : decide (y < (at_ : Int)) = false := decide_eq_false q1
              go_wp2_with fail
              go_roundg (N - j)
              case measure => have := HJ.out; omega
              case rel => exact ⟨j, at_, n10, c10, A10, L, D, b, rfl, rfl, rfl, rfl, by have := HJ.out; omega, HR.out.2⟩
            · obtain ⟨x, rfl⟩ := Int.eq_ofNat_of_zero_le (show 0 ≤ y by omega)
              have hx1 : at_ ≤ x := by omega
              have hx2 : x ≤ maxT := by unfold maxT; omega
              have d1 : decide ((x : Int) < (at_ : Int)) = false := decide_eq_false q1
              have d2 : ¬ (x < at_) := by omega
              have c1 := HR.out.2.2.2.2.1.tick HB.out.2.1 (by have := HR.out.2.2.2.1.len; have := HLM.out; omega) x hx1 hx2
              have HXX : Hid (at_ ≤ x ∧ x ≤ maxT) := ⟨hx1, hx2⟩
              clear hx1 hx2
              go_wp2_with fail
              refine c1.mono ?_
              rintro e w2 ⟨D', v', rfl, hi, hs, ht, hT, o2⟩
              obtain ⟨A2, c2, hv⟩ := hi.form
              obtain ⟨n2', hn2'⟩ : ∃ n2', n2' = D'.length := ⟨_, rfl⟩
              rw [← hn2'] at hv
              subst hv
              have hP := HR.out.2.2.2.1.step HXX.out.1 hs ht
              have H2 : Hid (Irow w2 wb.heap.size (.slice A2 n2' c2) D' ∧ StP L0 (left x L) x (D ++ D') (x : Int) ∧ Two w w2 w.heap.size (w.heap.size + 1) w.heap.size x (mc + 1) mc 0 (left x L) M0 ∧ Irow w2 w.heap.size (.slice A10 n10 c10) D) := ⟨hi, hP, hT, HR.out.2.2.2.2.2.only o2 zt_int⟩
              have HLD : Hid (D.length + D'.length ≤ 1000000) := by
                have h1 := hP.len.1
                have h2 := HLM.out.2.1
                rw [List.length_append] at h1
                exact (show _ ≤ _ by omega)
              clear c1 hi hs ht hT o2 hP k0 d1 d2 q1 q2 hn2'
              go_wp2_with fail
              refine (HC.out _ _).mono ?_
              rintro e w' ⟨rfl, hw⟩
              subst w'
              go_wp2_with (at_builtin; refine run_iapps w2 w.heap.size wb.heap.size (.slice A10 n10 c10) (.slice A2 n2' c2) D D' H2.out.2.2.2 H2.out.1 H2.out.2.2.1.bas HLD.out rfl (.tmp 115) (.tmp 116) rfl rfl rfl ?_; intro v5 w5 hr5 o5; obtain ⟨A5, c5, hv5⟩ := hr5.form; obtain ⟨n5, hn5⟩ : ∃ n5, n5 = (D ++ D').length := ⟨_, rfl⟩; rw [← hn5] at hv5; subst hv5; have H5 := Lib.hid (And.intro hr5 (And.intro o5 hn5)); clear hr5 o5 hn5)
              go_roundg (N - j)
              case measure => have := HJ.out; omega
              case rel => exact ⟨j, x, n5, c5, A5, left x L, D ++ D', (x : Int), rfl, rfl, rfl, rfl, by have := HJ.out; omega, HXX.out.2, H5.out.2.2, H2.out.2.1, H2.out.2.2.1.onlyG HB.out.2.1 H5.out.2.1 zi_w zi_t zi_m, H5.out.1⟩
        · have t0 : ¬ ((m : Int) < (N : Int)) := by omega
          have c1 := HR.out.2.2.2.2.1.swap.tick HB.out.2.1 HLM.out.2.2 at_ (Nat.zero_le _) HR.out.2.1
          go_wp2_with fail
          refine c1.mono ?_
          rintro e w3 ⟨D2, v2, rfl, hi, hs, ht, hT, o2⟩
          obtain ⟨A2, c2, hv⟩ := hi.form
          obtain ⟨n2, hn2⟩ : ∃ n2, n2 = D2.length := ⟨_, rfl⟩
          rw [← hn2] at hv
          subst hv
          have H3 : Hid (Irow w3 wb.heap.size (.slice A2 n2 c2) D2 ∧ Srt tkI D2 ∧ Stb tkI D2 (M0.filter fun t => decide (t.tk ≤ at_)) ∧ Two w w3 w.heap.size (mc + 1) mc at_ (w.heap.size + 1) w.heap.size at_ (left at_ M0) L ∧ Irow w3 w.heap.size (.slice A10 n10 c10) D) := ⟨hi, hs, ht, hT, HR.out.2.2.2.2.2.only o2 zt_int⟩
          clear c1 hi hs ht hT o2 hn2 t0
          by_cases q1 : n10 = 0
          · by_cases q2 : at_ = 0
            · subst q1
              subst q2
              have c1 := H3.out.2.2.2.1.swap.tick HB.out.2.1 (by have := HR.out.2.2.2.1.len; have := HLM.out; omega) 0 (Nat.le_refl _) (Nat.zero_le _)
              go_wp2_with fail
              refine c1.mono ?_
              rintro e w6 ⟨D3, v3, rfl, hi, hs, ht, hT, o2⟩
              obtain ⟨A3, c3, hv⟩ := hi.form
              have hD0 : D = [] := List.eq_nil_of_length_eq_zero HR.out.2.2.1.symm
              have hP := HR.out.2.2.2.1.step (Nat.le_refl 0) hs ht
              obtain ⟨f1, f2⟩ := hP.fin rfl H3.out.2.1 H3.out.2.2.1 HLM.out.1
              rw [hD0, List.nil_append] at f1
              have HE : Hid (Two w w6 w.heap.size (w.heap.size + 1) w.heap.size 0 (mc + 1) mc 0 (left 0 L) (left 0 M0) ∧ (left 0 L).length = (left 0 M0).length) := ⟨hT, f2⟩
              have c9 := wSame_any w6 v3 (.slice A2 n2 c2) (D3.map Tm.id) (D2.map Tm.id) hi.rd ((H3.out.1.only o2 zt_int).rd) (by
                have h1 := hP.len.1
                have := HLM.out
                rw [List.length_append] at h1
                rw [List.length_map]
                omega)
              rw [decide_eq_true f1] at c9
              obtain ⟨n3', hn3'⟩ : ∃ n3', n3' = D3.length := ⟨_, rfl⟩
              rw [← hn3'] at hv
              subst hv
              clear c1 hi hs ht hT o2 hP f1 f2 hn3' hD0
              have c1 := c9
              clear c9
              go_wp2_with fail
              refine (HC.out _ _).mono ?_
              rintro e w' ⟨rfl, hw⟩
              subst w'
              go_wp2_with fail
              refine c1.mono ?_
              rintro e w4 ⟨rfl, g4⟩
              have H4 := Lib.hid (HE.out.1.grow HB.out.2.1 g4)
              clear c1 g4
              obtain ⟨UA, hUA⟩ := H4.out.a
              obtain ⟨UB, hUB⟩ := H4.out.b
              have c2 := wLen_any w4 _ _ _ _ _ UA hUA
              have c3 := wLen_any w4 _ _ _ _ _ UB hUB
              have c4 := wlive_any w4 H4.out.tab
              rw [← HE.out.2] at c3
              clear hUA hUB
              go_wp2_with fail
              refine c2.mono ?_
              rintro e w' ⟨rfl, hw⟩
              subst w'
              clear c2
              go_wp2_with fail
              refine c3.mono ?_
              rintro e w' ⟨rfl, hw⟩
              subst w'
              clear c3
              go_wp2_with fail
              refine c4.mono ?_
              rintro e w5 ⟨rfl, g5⟩
              have H5 := Lib.hid (show Below w.heap.size w w5 from Below.trans H4.out.low (g5.mono H4.out.bas))
              clear c4 g5
              go_wp2_with fail
              go_ret
              exact ⟨rfl, H5.out⟩
            · have hne : D ≠ [] ∨ at_ ≠ 0 := .inr q2
              subst q1
              have p2 : ((at_ : Int) == 0) = false := by rw [beq_eq_false_iff_ne]; omega
              have p3 : ¬ ((at_ : Int) = 0) := by omega
              have hb := HR.out.2.2.2.1.tight (hne)
              obtain ⟨f1, f2⟩ := HR.out.2.2.2.1.fin hb H3.out.2.1 H3.out.2.2.1 HLM.out.1
              have HE : Hid (Two w w3 w.heap.size (w.heap.size + 1) w.heap.size at_ (mc + 1) mc at_ L (left at_ M0) ∧ L.length = (left at_ M0).length) := ⟨H3.out.2.2.2.1.swap, f2⟩
              have c1 := wSame_any w3 (.slice A10 0 c10) (.slice A2 n2 c2) (D.map Tm.id) (D2.map Tm.id) (H3.out.2.2.2.2.rd) (H3.out.1.rd) (by have := HR.out.2.2.2.1.len; have := HLM.out; rw [List.length_map]; omega)
              rw [decide_eq_true f1] at c1
              clear hb f1 f2 hne
              go_wp2_with fail
              refine (HC.out _ _).mono ?_
              rintro e w' ⟨rfl, hw⟩
              subst w'
              go_wp2_with fail
              refine c1.mono ?_
              rintro e w4 ⟨rfl, g4⟩
              have H4 := Lib.hid (HE.out.1.grow HB.out.2.1 g4)
              clear c1 g4
              obtain ⟨UA, hUA⟩ := H4.out.a
              obtain ⟨UB, hUB⟩ := H4.out.b
              have c2 := wLen_any w4 _ _ _ _ _ UA hUA
              have c3 := wLen_any w4 _ _ _ _ _ UB hUB
              have c4 := wlive_any w4 H4.out.tab
              rw [← HE.out.2] at c3
              clear hUA hUB
              go_wp2_with fail
              refine c2.mono ?_
              rintro e w' ⟨rfl, hw⟩
              subst w'
              clear c2
              go_wp2_with fail
              refine c3.mono ?_
              rintro e w' ⟨rfl, hw⟩
              subst w'
              clear c3
              go_wp2_with fail
              refine c4.mono ?_
              rintro e w5 ⟨rfl, g5⟩
              have H5 := Lib.hid (show Below w.heap.size w w5 from Below.trans H4.out.low (g5.mono H4.out.bas))
              clear c4 g5
              go_wp2_with fail
              go_ret
              exact ⟨rfl, H5.out⟩
          · have hne : D ≠ [] ∨ at_ ≠ 0 := .inl (fun e => q1 (by rw [HR.out.2.2.1, e]; rfl))
            have p2 : ((n10 : Int) == 0) = false := by rw [beq_eq_false_iff_ne]; omega
            have p3 : ¬ ((n10 : Int) = 0) := by omega
            have hb := HR.out.2.2.2.1.tight (hne)
            obtain ⟨f1, f2⟩ := HR.out.2.2.2.1.fin hb H3.out.2.1 H3.out.2.2.1 HLM.out.1
            have HE : Hid (Two w w3 w.heap.size (w.heap.size + 1) w.heap.size at_ (mc + 1) mc at_ L (left at_ M0) ∧ L.length = (left at_ M0).length) := ⟨H3.out.2.2.2.1.swap, f2⟩
            have c1 := wSame_any w3 (.slice A10 n10 c10) (.slice A2 n2 c2) (D.map Tm.id) (D2.map Tm.id) (H3.out.2.2.2.2.rd) (H3.out.1.rd) (by have := HR.out.2.2.2.1.len; have := HLM.out; rw [List.length_map]; omega)
            rw [decide_eq_true f1] at c1
            clear hb f1 f2 hne
            go_wp2_with fail
            refine (HC.out _ _).mono ?_
            rintro e w' ⟨rfl, hw⟩
            subst w'
            go_wp2_with fail
            refine c1.mono ?_
            rintro e w4 ⟨rfl, g4⟩
            have H4 := Lib.hid (HE.out.1.grow HB.out.2.1 g4)
            clear c1 g4
            obtain ⟨UA, hUA⟩ := H4.out.a
            obtain ⟨UB, hUB⟩ := H4.out.b
            have c2 := wLen_any w4 _ _ _ _ _ UA hUA
            have c3 := wLen_any w4 _ _ _ _ _ UB hUB
            have c4 := wlive_any w4 H4.out.tab
            rw [← HE.out.2] at c3
            clear hUA hUB
            go_wp2_with fail
            refine c2.mono ?_
            rintro e w' ⟨rfl, hw⟩
            subst w'
            clear c2
            go_wp2_with fail
            refine c3.mono ?_
            rintro e w' ⟨rfl, hw⟩
            subst w'
            clear c3
            go_wp2_with fail
            refine c4.mono ?_
            rintro e w5 ⟨rfl, g5⟩
            have H5 := Lib.hid (show Below w.heap.size w w5 from Below.trans H4.out.low (g5.mono H4.out.bas))
            clear c4 g5
            go_wp2_with fail
            go_ret
            exact ⟨rfl, H5.out⟩
theorem wheelSteps_walk (w : World) {v0 v1 : Value} {l : List Ac} {s : List Int} (hl : Acs w v0 l) (hs : NumsI w v1 s) (hB : DbB w) : Calls Tryd.prog 4 #[v0, v1] w fun e w' => e = .returned (.bool true) ∧ Below w.heap.size w w' := by
  by_cases h : 200 < l.length ∨ 100 < s.length
  · exact steps_long w hl hs hB h
  · exact steps_main w hl hs hB (by omega) (by omega)
end Go.Proofs.YtnoglbceaibjeaaDoor
/- WheelSteps: for every input the law returns true, and each argument reads behind the call as it read before; what the listed package-level variables hold is tied to the text of the program. No condition. -/
namespace Go.Proofs.YtnoglbceaibjeaaDoor.wheelSteps
open Go.ChangeShapes Go.WideShapes Go.ChangeAt Go.RowKit
open Go.ChangeMaps (open_string shut_string)
set_option linter.unusedVariables false

theorem own : ownKnob Tryd.prog.godebug = none := by kernel_rfl
theorem laidOut : laidOutB Tryd.prog = true := by kernel_rfl

set_option maxRecDepth 100000 in
theorem lifted (os : Os) (started : os.Started) (H : Type) (enc : TypeId × Value → H) :
    ReturnsInHanded {} Tryd.checked os 4 .any (fun w args => (Rows.wheelStepsSpec.pre enc Tryd.prog Tryd.f4 [] false w args ∧ laidMetH Tryd.prog laid4 w) ∧ sizedMet enc Tryd.prog Tryd.f4 (OpenSpec.ofChange Rows.wheelStepsSpec) false w args)
      (Rows.wheelStepsSpec.post enc Tryd.prog Tryd.f4 false true false false) := by
  refine returnsInHanded_of_change_and (C := Tryd.checked) (X := fun w _ => laidMetH Tryd.prog laid4 w) (fun _ _ _ hh h => h.of_heap hh) own started (by kernel_rfl) Tryd.func4
    (ChangeSpec.witness_shaped (enc := enc) (C := Tryd.checked) (os := os) (X := fun w _ => laidMetH Tryd.prog laid4 w) false (World.doorLaid Tryd.prog 14 os) #[.slice none 0 0, .slice none 0 0] 8 rfl (World.shaped_of_RefB (by kernel_rfl) (by kernel_rfl)) (by kernel_rfl) (by kernel_rfl) (by kernel_rfl) (door_met os _)) ?_
  intro W base args ds gs before hval0 hW _ hsz0 hL _
  have hsz : (DataW.weightsEach Tryd.prog (Tryd.f4.params.toList ++ Rows.wheelStepsSpec.plain.varTypes Tryd.prog) (ds ++ gs)).all (· ≤ reachBytes) = true := hsz0
  have hval : ∀ (j : Nat) t v, Tryd.f4.params[j]? = some t → args[j]? = some v → Value.okWide Tryd.prog W .any base t v := hval0
  have hW' := hW
  obtain ⟨p, q, hA0, hV, rfl, hfz, hnd⟩ := hW
  have hA : DataW.TrodAll enc Tryd.prog W 0 (fun _ => true) true Tryd.f4.params.toList args.toList ds p := hA0
  rw [Tryd.params4] at hA hval hsz
  obtain ⟨v0, vs0, d0, ds0, p0, q0, hargs, rfl, rfl, h0, r0⟩ := trodAll_cons hA
  obtain ⟨v1, vs1, d1, ds1, p1, q1, rfl, rfl, rfl, h1, r1⟩ := trodAll_cons r0
  obtain ⟨rfl, rfl, rfl⟩ := trodAll_nil r1
  obtain rfl : args = #[v0, v1] := by cases args; simp_all
  obtain ⟨rfl, rfl⟩ := trodVars_none hV
  have hB := base_of_laid hL
  have k0 := h0
  have lt0 : ∀ x ∈ p0, x.block < W.heap.size := by obtain ⟨m, hm⟩ := k0; exact DataW.trod_lt m _ _ _ hm
  obtain ⟨q0, w0⟩ := open_acs (hval 0 22 v0 rfl rfl) h0
  have k1 := h1
  have lt1 : ∀ x ∈ p1, x.block < W.heap.size := by obtain ⟨m, hm⟩ := k1; exact DataW.trod_lt m _ _ _ hm
  obtain ⟨q1, w1⟩ := open_numsI (hval 1 38 v1 rfl rfl) h1
  clear hA0 hval0
  refine (wheelSteps_walk W w0 w1 hB).mono fun e W' ⟨he, bel⟩ => ?_
  subst he
  exact ⟨_, rfl, _, _, _, [], _, [], hW', trodAll_mk1 (shut_bool Tryd.underlying4 _), (trodAll_cons_mk (Below.trod laidOut (by kernel_rfl) (of_decide_eq_true (by kernel_rfl)) k0 bel lt0) (trodAll_cons_mk (Below.trod laidOut (by kernel_rfl) (of_decide_eq_true (by kernel_rfl)) k1 bel lt1) trodAll_mk0)), rfl, Below.frame bel _, fun h => by cases h⟩

theorem over : Rows.wheelStepsRow.holds Tryd.pinned (OpenSpec.ofChange Rows.wheelStepsSpec) :=
  OpenClaim.holds_of_wide 4 Tryd.f4 rfl rfl rfl rfl rfl rfl rfl ⟨rfl, rfl, rfl, rfl, rfl⟩ rfl rfl rfl rfl rfl (by kernel_rfl) Tryd.func4 (by kernel_rfl)
    (of_decide_eq_true (by kernel_rfl)) (by unfold Func.isWrapper; first | (rw [if_pos (by decide +kernel)]; kernel_rfl) | (rw [if_neg (by decide +kernel)]; exact ⟨rfl, rfl⟩))
    (fun os started H enc _ => lifted os started H enc)

/-- The statement. -/
theorem proved : Rows.WheelStepsCardSaid :=
  Claim7.holds_tied_plain_at .later [] [.data] true Rows.wheelStepsCard.stood.harness Rows.wheelStepsCard.stood.looks
    over (fun _ h => by cases h) (by kernel_rfl) (fun _ h => by cases h) wheelSteps_row_tie rfl ⟨rfl, rfl⟩ (by kernel_rfl) rfl
    (fun g fn hf hfn => by
      obtain rfl : g = 4 := Option.some.inj ((show Tryd.prog.funcNamed Rows.wheelStepsRow.func = some 4 by kernel_rfl).symm.trans hf) |>.symm
      obtain rfl : fn = Tryd.f4 := (Option.some.inj (Tryd.func4.symm.trans hfn)).symm
      exact ⟨by kernel_rfl, fun j t ht => by
        rw [Tryd.params4] at ht
        have hm : t ∈ [22, 38] := by simpa using Array.mem_of_getElem? ht
        have hall : ([22, 38].all fun u => !Tryd.prog.wantsStandIn u) = true := by kernel_rfl
        exact (show Tryd.prog.wantsStandIn t = false by simpa using List.all_eq_true.1 hall t hm)⟩)
    (by kernel_rfl)
#print axioms proved
end Go.Proofs.YtnoglbceaibjeaaDoor.wheelSteps
